/- The model's chapter 2, walked: numbers put into bytes. -/
import Derived.Test.YtbkeggklfaepnaaSIn
import Derived.Test.YtbkeggklfaepnaaCrcM
import Derived.Test.YtbkeggklfaepnaaNumsOf
import Derived.Deep.QuietTactic
import Derived.BigQuiet
import Derived.Lib.Bytealg
import Derived.Laws.OwnMore
namespace Go.Proofs.Ytbkeggklfaepnaa
open Go.ChangeShapes Go.WideShapes Go.ChangeAt Go.RowKit
set_option linter.unusedVariables false

theorem leB_get : ∀ (k n i : Nat), i < k → (leB k n)[i]? = some (UInt8.ofNat (n / 256 ^ i % 256))
  | 0, _, _, h => by omega
  | k + 1, n, 0, _ => by simp [leB]
  | k + 1, n, i + 1, h => by
    show (leB k (n / 256))[i]? = _
    rw [leB_get k (n / 256) i (by omega), Nat.div_div_eq_div_mul, Nat.pow_succ, Nat.mul_comm 256]
def beL (n k : Nat) : List UInt8 := (leB k n).reverse
theorem beL_len (n k : Nat) : (beL n k).length = k := by simp [beL, leB_len]
theorem beL_take (n k j : Nat) (hj : 0 < j) (hk : j ≤ k) : numsOf ((beL n k).take (k - j + 1)) = numsOf ((beL n k).take (k - j)) ++ [((n / 256 ^ (j - 1) % 256 : Nat) : Int)] := by
  have hl := beL_len n k
  rw [List.take_succ_eq_append_getElem (by omega)]
  have hg : (beL n k)[k - j]'(by omega) = UInt8.ofNat (n / 256 ^ (j - 1) % 256) := by
    have h1 := leB_get k n (j - 1) (by omega)
    have h2 : (beL n k)[k - j]? = some (UInt8.ofNat (n / 256 ^ (j - 1) % 256)) := by
      unfold beL
      rw [List.getElem?_reverse (by rw [leB_len]; omega), leB_len, show k - 1 - (k - j) = j - 1 by omega]
      exact h1
    rw [List.getElem?_eq_getElem (by omega)] at h2
    exact Option.some.inj h2
  rw [hg]
  simp only [numsOf, List.map_append, List.map_cons, List.map_nil, UInt8.toNat_ofNat']
  congr 3
  omega
def putV (n k : Int) : ByteArray := if n < 0 ∨ k < 1 ∨ 4 < k then ByteArray.empty else ⟨(beL n.toNat k.toNat).toArray⟩
set_option maxRecDepth 100000 in
set_option maxHeartbeats 1000000 in
theorem sput_any (n k : Int) (w : World) (hn : n ≤ 9223372036854775807) :
    Calls Try.prog 60 #[.int .i64 n, .int .i64 k] w fun e w' => e = .returned (.string (putV n k)) ∧ Below w.heap.size w w' := by
  by_cases hn0 : n < 0
  · have hv : putV n k = ByteArray.empty := by unfold putV; rw [if_pos (.inl hn0)]
    have HV := Lib.hid hv; clear hv
    go_enter Try.func60, Try.ntmps60
    go_wp2
    go_ret
    exact ⟨by rw [HV.out]; rfl, Below.refl _ _⟩
  · by_cases hk : k < 1 ∨ 4 < k
    · have hv : putV n k = ByteArray.empty := by unfold putV; rw [if_pos (.inr hk)]
      have HV := Lib.hid hv; clear hv
      have hb : (decide (1 ≤ k) && decide (k ≤ 4)) = false := by simp; omega
      clear hk
      go_enter Try.func60, Try.ntmps60
      go_wp2_with (go_at_call 55; refine (sin_any _ _ _ _).mono ?_; rintro e w ⟨rfl, rfl⟩)
      go_ret
      exact ⟨by rw [HV.out]; rfl, Below.refl _ _⟩
    · have hv : putV n k = ⟨(beL n.toNat k.toNat).toArray⟩ := by unfold putV; rw [if_neg (by omega)]
      have hb : (decide (1 ≤ k) && decide (k ≤ 4)) = true := by simp; omega
      obtain ⟨N, rfl⟩ : ∃ N : Nat, n = N := ⟨n.toNat, by omega⟩
      obtain ⟨K, rfl⟩ : ∃ K : Nat, k = K := ⟨k.toNat, by omega⟩
      have hK : 1 ≤ K ∧ K ≤ 4 := by omega
      simp only [Int.toNat_natCast] at hv
      have htk := beL_take N K
      have hbl := beL_len N K
      generalize beL N K = X at *
      have HV := Lib.hid hv; have HTK := Lib.hid htk; clear hv htk hk
      obtain ⟨i0, hi, hz0, hz1, hz2⟩ := info_parts info5
      have ew : IntKind.i64.wrap ((K : Int) - 1) = (K : Int) - 1 := IntWalk.i64_in _ (by omega)
      go_enter Try.func60, Try.ntmps60
      go_wp2_with (go_at_call 55; refine (sin_any _ _ _ _).mono ?_; rintro e w ⟨rfl, rfl⟩)
      have hown0 := World.ownsRow_made (base := w.heap.size) (e := 5) (size := 1) w #[] 0 (Nat.le_refl _) (by unfold maxLen; omega) rfl
      have hb0 := (Below.refl w.heap.size w).alloc (Nat.le_refl _) (.cells #[] 5)
      go_loopw [5, 6] (fun v i wr => ∃ j : Nat, j ≤ K ∧ i = .int .i64 ((j : Int) - 1) ∧ wr.ownsRow w.heap.size 5 1 v (K - j) ((numsOf (X.take (K - j))).map (Value.int .u8)) ∧ Below w.heap.size w wr)
        (fun _ i _ => (intOf i + 1).toNat)
      case atStart => exact ⟨K, Nat.le_refl _, rfl, by simpa [numsOf] using hown0, hb0⟩
      case round =>
        obtain ⟨j, hj, rfl, hown, hnx⟩ := hrel
        clear hown0 hb0
        have hns := hnx.size
        by_cases hj0 : 0 < j
        · have hel := HTK.out j hj0 hj
          have hlen : K - j ≤ 4 := by omega
          have hrel2 : ∀ (v' : Value) (w1 : World), w1.ownsRow w.heap.size 5 1 v' (K - j + 1) ((numsOf (X.take (K - j))).map (Value.int .u8) ++ [.int .u8 ((N / 256 ^ (j - 1) % 256 : Nat) : Int)]) → w1.ownsRow w.heap.size 5 1 v' (K - (j - 1)) ((numsOf (X.take (K - (j - 1)))).map (Value.int .u8)) := by
            intro v' w1 ho
            rw [show K - (j - 1) = K - j + 1 by omega, hel, List.map_append]
            exact ho
          have HR := Lib.hid hrel2; clear hrel2 hel
          rcases (by omega : j = 1 ∨ j = 2 ∨ j = 3 ∨ j = 4) with rfl | rfl | rfl | rfl
          · go_wp2_with (at_builtin; refine wpList_append_own _ rfl (.tmp 21) (.tmp 28) 22 rfl w.heap.size 5 i0 (.int .u8 0) 1 1 Try.underlying22 hi hz0 hz1 hz2 rfl (by decide) _ _ _ rfl (hown.alloc _) ⟨wr.heap.size, 0, none⟩ 1 1 [.int .u8 _] rfl rfl (cell_one_new _ _ _) (by intro u hu; simp at hu; subst hu; rfl) (by unfold maxLen; omega) (by omega) (by simp; omega) ?_; intro v' w5 hown' hgrow _)
            have hg2 : (wr.alloc (.cells #[.int .u8 ((N : Int) % 256)] 5)).grownBy w5 u5.ownBlock := hgrow
            have e : ((N / 256 ^ (1 - 1) % 256 : Nat) : Int) = (N : Int) % 256 := by
              show ((N / 1 % 256 : Nat) : Int) = _
              omega
            have ho2 := HR.out v' w5 (by rw [e]; exact hown')
            have hb2 : Below w.heap.size w w5 := (hnx.alloc hns _).grown hg2 (by simp; omega) (fun g hg => (hown.lt g hg).1)
            exact ⟨⟨1 - 1, by omega, rfl, ho2, hb2⟩, by simp [intOf]⟩
          · go_wp2_with (at_builtin; refine wpList_append_own _ rfl (.tmp 21) (.tmp 28) 22 rfl w.heap.size 5 i0 (.int .u8 0) 1 1 Try.underlying22 hi hz0 hz1 hz2 rfl (by decide) _ _ _ rfl (hown.alloc _) ⟨wr.heap.size, 0, none⟩ 1 1 [.int .u8 _] rfl rfl (cell_one_new _ _ _) (by intro u hu; simp at hu; subst hu; rfl) (by unfold maxLen; omega) (by omega) (by simp; omega) ?_; intro v' w5 hown' hgrow _)
            have hg2 : (wr.alloc (.cells #[.int .u8 ((N : Int) / 256 % 256)] 5)).grownBy w5 u5.ownBlock := hgrow
            have e : ((N / 256 ^ (2 - 1) % 256 : Nat) : Int) = (N : Int) / 256 % 256 := by
              show ((N / 256 % 256 : Nat) : Int) = _
              omega
            have ho2 := HR.out v' w5 (by rw [e]; exact hown')
            have hb2 : Below w.heap.size w w5 := (hnx.alloc hns _).grown hg2 (by simp; omega) (fun g hg => (hown.lt g hg).1)
            exact ⟨⟨2 - 1, by omega, rfl, ho2, hb2⟩, by simp [intOf]⟩
          · go_wp2_with (at_builtin; refine wpList_append_own _ rfl (.tmp 21) (.tmp 28) 22 rfl w.heap.size 5 i0 (.int .u8 0) 1 1 Try.underlying22 hi hz0 hz1 hz2 rfl (by decide) _ _ _ rfl (hown.alloc _) ⟨wr.heap.size, 0, none⟩ 1 1 [.int .u8 _] rfl rfl (cell_one_new _ _ _) (by intro u hu; simp at hu; subst hu; rfl) (by unfold maxLen; omega) (by omega) (by simp; omega) ?_; intro v' w5 hown' hgrow _)
            have hg2 : (wr.alloc (.cells #[.int .u8 ((N : Int) / 65536 % 256)] 5)).grownBy w5 u5.ownBlock := hgrow
            have e : ((N / 256 ^ (3 - 1) % 256 : Nat) : Int) = (N : Int) / 65536 % 256 := by
              show ((N / 65536 % 256 : Nat) : Int) = _
              omega
            have ho2 := HR.out v' w5 (by rw [e]; exact hown')
            have hb2 : Below w.heap.size w w5 := (hnx.alloc hns _).grown hg2 (by simp; omega) (fun g hg => (hown.lt g hg).1)
            exact ⟨⟨3 - 1, by omega, rfl, ho2, hb2⟩, by simp [intOf]⟩
          · go_wp2_with (at_builtin; refine wpList_append_own _ rfl (.tmp 21) (.tmp 28) 22 rfl w.heap.size 5 i0 (.int .u8 0) 1 1 Try.underlying22 hi hz0 hz1 hz2 rfl (by decide) _ _ _ rfl (hown.alloc _) ⟨wr.heap.size, 0, none⟩ 1 1 [.int .u8 _] rfl rfl (cell_one_new _ _ _) (by intro u hu; simp at hu; subst hu; rfl) (by unfold maxLen; omega) (by omega) (by simp; omega) ?_; intro v' w5 hown' hgrow _)
            have hg2 : (wr.alloc (.cells #[.int .u8 ((N : Int) / 16777216 % 256)] 5)).grownBy w5 u5.ownBlock := hgrow
            have e : ((N / 256 ^ (4 - 1) % 256 : Nat) : Int) = (N : Int) / 16777216 % 256 := by
              show ((N / 16777216 % 256 : Nat) : Int) = _
              omega
            have ho2 := HR.out v' w5 (by rw [e]; exact hown')
            have hb2 : Below w.heap.size w w5 := (hnx.alloc hns _).grown hg2 (by simp; omega) (fun g hg => (hown.lt g hg).1)
            exact ⟨⟨4 - 1, by omega, rfl, ho2, hb2⟩, by simp [intOf]⟩
        · obtain rfl : j = 0 := by omega
          rw [Nat.sub_zero, List.take_of_length_le (by omega)] at hown
          have hcv := run_string_own (P := Try.prog) 22 5 9 Try.underlying22 Try.underlying5 Try.underlying9 hown
          rw [nums_back] at hcv
          clear hown
          go_wp2
          go_ret
          exact ⟨by rw [HV.out]; rfl, hnx⟩

end Go.Proofs.Ytbkeggklfaepnaa
