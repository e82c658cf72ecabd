/- Chapter 4's draws: lists of readings. -/
import Derived.Test.YtbkeggklfaepnaaRdOd
import Derived.Test.YtbkeggklfaepnaaRdLk
namespace Go.Proofs.Ytbkeggklfaepnaa
open Go.ChangeShapes Go.WideShapes Go.ChangeAt Go.RowKit Go.BigFrame
set_option linter.unusedVariables false

theorem learnV_sizes {rs : List R3} {r : R3} {m : Nat} (h : ∀ q ∈ rs, q.2.size ≤ m) (hr : r.2.size ≤ m) : ∀ q ∈ (learnV rs r).1, q.2.size ≤ m := by
  intro q hq
  unfold learnV at hq
  split at hq
  · split at hq
    · split at hq <;> exact h q hq
    · simp only [List.mem_append, List.mem_cons] at hq
      rcases hq with hq | rfl | hq
      · exact h q (List.mem_of_mem_take hq)
      · exact hr
      · exact h q (List.mem_of_mem_drop hq)
  · exact h q hq
set_option maxRecDepth 100000 in
set_option maxHeartbeats 2000000 in
theorem l04make_any (n₀ g len cap : Nat) (a : Option Addr) (zs : List Int) (c : Cu) (w : World) (hs : DrawSt n₀ w g a len cap zs c.i c.h) :
    Calls Try.prog 46 #[.pointer (some ⟨g, 0, none⟩)] w fun e w' => ∃ (v : Value) (rs : List R3) (c' : Cu), e = .returned v ∧ rs.length ≤ 5 ∧ (∀ r ∈ rs, r.2.size ≤ 5) ∧ w'.ownsRow w.heap.size 28 3 v rs.length (rdCells rs) ∧ Drew n₀ g a len cap zs c' w w' := by
  have hd0 : Drew n₀ g a len cap zs c w w := ⟨hs, Below.refl _ _, World.grownBy.refl _ _⟩
  have hgl := hs.lt
  have hown0 := World.ownsRow_made (base := w.heap.size) (e := 28) (size := 3) w #[] 0 (by simp) (by unfold maxLen; omega) rfl
  have hd1 := hd0.alloc (.cells #[] 28)
  go_enter Try.func46, Try.ntmps46
  go_wp2_with fail
  refine (below_any n₀ g len cap a zs c 6 _ hd1.st (by omega)).mono ?_
  rintro e w1 ⟨rfl, hd2⟩
  have hbd := belowF_bd zs len c 6
  have hown1 := hown0.kept hd2.grown (.inr (by simp [Value.ownBlock]; omega))
  have hD1 := hd1.trans hd2
  generalize (belowF zs len c 6).2 = c1 at *
  generalize (belowF zs len c 6).1 = x at *
  obtain ⟨N, rfl⟩ : ∃ N : Nat, x = N := ⟨x.toNat, by omega⟩
  have hN : N ≤ 5 := by have := hbd.2 (by omega); omega
  clear hbd hd0 hd1 hd2 hown0
  go_wp2
  go_loopw [3, 5] (fun v i wr => ∃ (k : Nat) (rs : List R3) (c' : Cu), k ≤ N ∧ i = .int .i64 k ∧ rs.length ≤ k ∧ (∀ r ∈ rs, r.2.size ≤ 5) ∧ wr.ownsRow w.heap.size 28 3 v rs.length (rdCells rs) ∧ Drew n₀ g a len cap zs c' w wr) (fun _ i _ => N - (intOf i).toNat)
  case atStart => exact ⟨0, [], c1, Nat.zero_le _, rfl, by simp, by simp, by simpa [rdCells] using hown1, hD1⟩
  case round =>
    clear hown1 hD1
    obtain ⟨k, rs, c2, hk, rfl, hrl, hsz, hown, hD⟩ := hrel
    by_cases hlt : k < N
    · have z1 : (k : Int) < (N : Int) := by omega
      rename_i wr
      have HSZ := Lib.hid hsz; have HOWN := Lib.hid hown; have HD := Lib.hid hD
      have hwz := hD.grown.size
      clear hsz hown hD
      go_wp2_with fail
      refine (l04reading_any n₀ g len cap a zs c2 _ HD.out.st).mono ?_
      rintro e w3 ⟨r, c3, rfl, hk3, hy3, hd3⟩
      have hown3 := HOWN.out.kept hd3.grown (by
        cases hv : u3.ownBlock with
        | none => exact .inl rfl
        | some b => exact .inr (fun e => by cases e; have := (HOWN.out.lt _ hv).1; omega))
      have HD3 := Lib.hid (HD.out.trans hd3)
      have HSL := Lib.hid (slearn_any u3 rs r w3 (rdAt_own hown3) (by omega))
      have HLV := Lib.hid (And.intro (learnV_len rs r) (learnV_sizes (r := r) HSZ.out (by omega)))
      generalize (learnV rs r).2 = cc at *
      generalize (learnV rs r).1 = M at *
      have hw3z := HD3.out.grown.size
      clear HOWN HD hd3 hown3 HSZ
      go_wp2_with fail
      refine HSL.out.mono ?_
      rintro e w4 ⟨v4, rfl, hown4, hb4⟩
      have HF := Lib.hid (And.intro (own_base hown4 hw3z) (HD3.out.grow hgl (grown_of_below' hb4 none) (by simp)))
      clear hown4 hb4 HSL HD3
      go_wp2
      go_roundw
      case rel => exact ⟨k + 1, M, c3, by omega, by go_num, by have := HLV.out.1; omega, HLV.out.2, HF.out.1, HF.out.2⟩
      case measure => simp [intOf]; omega
    · obtain rfl : k = N := by omega
      have HF := Lib.hid (And.intro hsz (And.intro hown hD))
      clear hsz hown hD
      go_wp2
      go_ret
      exact ⟨_, rs, c2, rfl, by omega, HF.out.1, HF.out.2.1, HF.out.2.2⟩
end Go.Proofs.Ytbkeggklfaepnaa
