/- Walks of HexText, both. -/
import Derived.Test.YtbkeggklfaepnaaDoorRows
import Derived.WalkKit
import Derived.ProofKit
import Derived.OpenShut
import Derived.ShutString
import Derived.Below
import Derived.Outline
import Derived.WalkSpells
import Derived.WalkLawsBesides
import Derived.Deep.RegionHeld3
import Derived.Deep.AppendLies
import Derived.StillTactics
import Derived.Test.YtbkeggklfaepnaaDoorPlan
import Derived.Test.YtbkeggklfaepnaaDoorBase
import Derived.Test.YtbkeggklfaepnaaDoorDecM
import Derived.Laws.BytesArg
import Derived.Laws.OwnMore
namespace Go.Proofs.YtbkeggklfaepnaaDoor
open Go.ChangeShapes Go.WideShapes Go.ChangeAt Go.RowKit
set_option linter.unusedVariables false



def hdig (n : Nat) : Int := (([48, 49, 50, 51, 52, 53, 54, 55, 56, 57, 97, 98, 99, 100, 101, 102] : List UInt8).getD n 0).toNat
def hexL (l : List UInt8) : List Int := l.flatMap fun c => [hdig (c.toNat / 16), hdig (c.toNat % 16)]

theorem idx_hex (z : Int) (h0 : 0 ≤ z) (h : z < 16) (w : World) :
    (Instr.index 9 (.string ⟨#[48, 49, 50, 51, 52, 53, 54, 55, 56, 57, 97, 98, 99, 100, 101, 102]⟩) (.int .u8 z)).run Tryd.prog w = .ok (.int .u8 (hdig z.toNat)) w := by
  have : z = 0 ∨ z = 1 ∨ z = 2 ∨ z = 3 ∨ z = 4 ∨ z = 5 ∨ z = 6 ∨ z = 7 ∨ z = 8 ∨ z = 9 ∨ z = 10 ∨ z = 11 ∨ z = 12 ∨ z = 13 ∨ z = 14 ∨ z = 15 := by omega
  rcases this with rfl | rfl | rfl | rfl | rfl | rfl | rfl | rfl | rfl | rfl | rfl | rfl | rfl | rfl | rfl | rfl <;> (show Sem.run _ _ _ = _; kernel_rfl)

theorem idx_div (c : Nat) (h : c < 256) (w : World) :
    (Instr.index 9 (.string ⟨#[48, 49, 50, 51, 52, 53, 54, 55, 56, 57, 97, 98, 99, 100, 101, 102]⟩) (.int .u8 ((c : Int) / 16))).run Tryd.prog w = .ok (.int .u8 (hdig (c / 16))) w :=
  idx_hex ((c : Int) / 16) (by omega) (by omega) w
theorem idx_mod (c : Nat) (w : World) :
    (Instr.index 9 (.string ⟨#[48, 49, 50, 51, 52, 53, 54, 55, 56, 57, 97, 98, 99, 100, 101, 102]⟩) (.int .u8 ((c : Int) % 16))).run Tryd.prog w = .ok (.int .u8 (hdig (c % 16))) w :=
  idx_hex ((c : Int) % 16) (by omega) (by omega) w
theorem hexL_snoc (l : List UInt8) (c : UInt8) : hexL (l ++ [c]) = hexL l ++ [hdig (c.toNat / 16), hdig (c.toNat % 16)] := by
  simp [hexL, List.flatMap_append]


set_option maxRecDepth 100000 in
theorem ihex_any (s : ByteArray) (w : World) (hs : s.size ≤ 2000000) :
    Calls Tryd.prog 21 #[.string s] w fun e w' => e = .returned (.string (strOfNums (hexL s.data.toList))) ∧ Below w.heap.size w w' := by
  obtain ⟨i0, hi, hz0, hz1, hz2⟩ := info_parts info5
  go_enter Tryd.func21, Tryd.ntmps21
  go_wp2_with (at_make; refine wpList_make_own _ rfl _ _ 22 rfl w.heap.size 5 i0 (.int .u8 0) 1 Tryd.underlying22 hi hz0 hz1 _ _ _ (2 * s.size) rfl rfl (by omega) (by rw [hz2]; omega) (by unfold maxLen; omega) (Nat.le_refl _) ?_; intro w0 hown0 hgrow0)
  have hb0 : Below w.heap.size w w0 := (Below.refl _ _).grown hgrow0 (Nat.le_refl _) (by simp)
  clear hgrow0
  go_loopw [3, 11] (fun v i wr => ∃ k : Nat, k ≤ s.size ∧ i = .int .i64 k ∧ wr.ownsRow w.heap.size 5 1 v (2 * k) ((hexL (s.data.toList.take k)).map (Value.int .u8)) ∧ Below w.heap.size w wr)
     (fun _ i _ => s.size - (intOf i).toNat)
  case atStart => exact ⟨0, Nat.zero_le _, rfl, by simpa [hexL] using hown0, hb0⟩
  case round =>
    obtain ⟨k, hk, rfl, hown, hnx⟩ := hrel
    clear hown0 hb0
    by_cases hlt : k < s.size
    · have h0 : (0 : Int) ≤ (k : Int) := Int.natCast_nonneg _
      have h1 : (k : Int) < (s.size : Int) := by omega
      have hc := s[k].toNat_lt
      have e5 := fun w' => idx_div s[k].toNat (by omega) w'
      have e10 : bits BinOp.and IntKind.u8 (s[k].toNat : Int) 15 = (s[k].toNat : Int) % 16 := u8_and15 _ (by omega) (by omega)
      have e11 := fun w' => idx_mod s[k].toNat w'
      go_wp2
      refine wp_region_plan [0] [false, true, true, true, true, true, true, true, true, true, true] 11 (by kernel_rfl) (by kernel_rfl) (by kernel_rfl) ?_
      simp only [maskRows, movesA, moveOf, List.getElem?_toArray, List.getElem?_cons_zero, List.drop_succ_cons, List.drop_zero]
      repeat still_step
      refine wpStill_nil ?_
      intro K1 hK1
      go_wp2_with (at_builtin; refine wpList_append_own _ rfl (.tmp 14) (.tmp 25) 22 rfl w.heap.size 5 i0 (.int .u8 0) 1 1 Tryd.underlying22 hi hz0 hz1 hz2 rfl (by decide) _ _ _ rfl ((hown.alloc _).drew) ⟨wr.heap.size, 0, none⟩ 2 2 [.int .u8 (hdig (s[k].toNat / 16)), .int .u8 (hdig (s[k].toNat % 16))] rfl rfl ?c1 ?c2 ?c3 ?c4 ?c5 ?_)
      case c1 =>
        intro j u hj
        match j, hj with
        | 0, hj => simp at hj; subst hj; simp [Addr.add]
        | 1, hj => simp at hj; subst hj; simp [Addr.add]
      case c2 => intro u hu; simp at hu; rcases hu with rfl | rfl <;> rfl
      case c3 => unfold maxLen; omega
      case c4 => omega
      case c5 => have := hnx.size; simp; omega
      intro v' w1 hown' hgrow _
      have R : w1.ownsRow w.heap.size 5 1 v' (2 * (k + 1)) ((hexL (s.data.toList.take (k + 1))).map (Value.int .u8)) ∧ Below w.heap.size w w1 := by
        refine ⟨?_, ((hnx.alloc hnx.size _).drew).grown hgrow (by have := hnx.size; simp; omega) (fun g hg => (hown.lt g hg).1)⟩
        rw [take_snoc s k hlt, hexL_snoc, List.map_append]
        exact hown'
      clear hown' hgrow hown e5 e10 e11
      go_wp2
      go_roundw
      case rel => exact ⟨k + 1, by omega, by go_num, R.1, R.2⟩
      case measure => simp [intOf]; omega
    · obtain rfl : k = s.size := by omega
      have hcv := run_string_own (P := Tryd.prog) 22 5 9 Tryd.underlying22 Tryd.underlying5 Tryd.underlying9 hown
      rw [List.take_of_length_le (by simp)] at hcv
      clear hown
      go_wp2
      go_ret
      exact ⟨rfl, hnx⟩

set_option maxRecDepth 100000 in
theorem shex_any (s : ByteArray) (w : World) (hs : s.size ≤ 2000000) :
    Calls Tryd.prog 23 #[.string s] w fun e w' => e = .returned (.string (strOfNums (hexL s.data.toList))) ∧ Below w.heap.size w w' := by
  obtain ⟨i0, hi, hz0, hz1, hz2⟩ := info_parts info5
  go_enter Tryd.func23, Tryd.ntmps23
  go_wp2
  have hown0 := World.ownsRow_made (base := w.heap.size) (e := 5) (size := 1) w #[] 0 (Nat.le_refl _) (by unfold maxLen; omega) rfl
  have hb0 := (Below.refl w.heap.size w).alloc (Nat.le_refl _) (.cells #[] 5)
  go_loopw [3, 4] (fun v i wr => ∃ k : Nat, k ≤ s.size ∧ i = .int .i64 k ∧ wr.ownsRow w.heap.size 5 1 v (2 * k) ((hexL (s.data.toList.take k)).map (Value.int .u8)) ∧ Below w.heap.size w wr)
     (fun _ i _ => s.size - (intOf i).toNat)
  case atStart => exact ⟨0, Nat.zero_le _, rfl, by simpa [hexL] using hown0, hb0⟩
  case round =>
    obtain ⟨k, hk, rfl, hown, hnx⟩ := hrel
    clear hown0 hb0
    by_cases hlt : k < s.size
    · have h0 : (0 : Int) ≤ (k : Int) := Int.natCast_nonneg _
      have h1 : (k : Int) < (s.size : Int) := by omega
      have hc := s[k].toNat_lt
      have e5 := fun w' => idx_div s[k].toNat (by omega) w'
      have ew : IntKind.u8.wrap ((s[k].toNat : Int) / 16) = (s[k].toNat : Int) / 16 := IntWalk.u8_in _ (by omega)
      have ew2 : ((s[k].toNat : Int)).tmod 16 = (s[k].toNat : Int) % 16 := Int.tmod_eq_emod_of_nonneg (by omega)
      have e11 := fun w' => idx_mod s[k].toNat w'
      go_wp2
      refine wp_region_plan [0] [false, true, true, true, true, true, true, true, true, true, true] 11 (by kernel_rfl) (by kernel_rfl) (by kernel_rfl) ?_
      simp only [maskRows, movesA, moveOf, List.getElem?_toArray, List.getElem?_cons_zero, List.drop_succ_cons, List.drop_zero]
      repeat still_step
      refine wpStill_nil ?_
      intro K1 hK1
      go_wp2_with (at_builtin; refine wpList_append_own _ rfl (.tmp 12) (.tmp 23) 22 rfl w.heap.size 5 i0 (.int .u8 0) 1 1 Tryd.underlying22 hi hz0 hz1 hz2 rfl (by decide) _ _ _ rfl ((hown.alloc _).drew) ⟨wr.heap.size, 0, none⟩ 2 2 [.int .u8 (hdig (s[k].toNat / 16)), .int .u8 (hdig (s[k].toNat % 16))] rfl rfl ?c1 ?c2 ?c3 ?c4 ?c5 ?_)
      case c1 =>
        intro j u hj
        match j, hj with
        | 0, hj => simp at hj; subst hj; simp [Addr.add]
        | 1, hj => simp at hj; subst hj; simp [Addr.add]
      case c2 => intro u hu; simp at hu; rcases hu with rfl | rfl <;> rfl
      case c3 => unfold maxLen; omega
      case c4 => omega
      case c5 => have := hnx.size; simp; omega
      intro v' w1 hown' hgrow _
      have R : w1.ownsRow w.heap.size 5 1 v' (2 * (k + 1)) ((hexL (s.data.toList.take (k + 1))).map (Value.int .u8)) ∧ Below w.heap.size w w1 := by
        refine ⟨?_, ((hnx.alloc hnx.size _).drew).grown hgrow (by have := hnx.size; simp; omega) (fun g hg => (hown.lt g hg).1)⟩
        rw [take_snoc s k hlt, hexL_snoc, List.map_append]
        exact hown'
      clear hown' hgrow hown e5 e11 ew ew2
      go_wp2
      go_roundw
      case rel => exact ⟨k + 1, by omega, by go_num, R.1, R.2⟩
      case measure => simp [intOf]; omega
    · obtain rfl : k = s.size := by omega
      have hcv := run_string_own (P := Tryd.prog) 22 5 9 Tryd.underlying22 Tryd.underlying5 Tryd.underlying9 hown
      rw [List.take_of_length_le (by simp)] at hcv
      clear hown
      go_wp2
      go_ret
      exact ⟨rfl, hnx⟩
end Go.Proofs.YtbkeggklfaepnaaDoor

