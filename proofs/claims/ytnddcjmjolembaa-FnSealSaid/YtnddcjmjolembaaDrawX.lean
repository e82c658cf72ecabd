/- Chapter 2's draws: numbers out of bytes, two texts. -/
import Derived.Test.YtnddcjmjolembaaDrawB
namespace Go.Proofs.Ytnddcjmjolembaa
open Go.ChangeShapes Go.WideShapes Go.ChangeAt Go.RowKit
set_option linter.unusedVariables false

theorem drawgetnum_any (n₀ len cap : Nat) (a : Option Addr) (zs : List Int) (w : World) (hc : CodeAt n₀ w a len zs) (hw : n₀ ≤ w.heap.size) :
    Calls Try.prog 17 #[.slice a len cap] w fun e w' => ∃ (s : ByteArray) (p k : Int), e = .returned (.tuple #[.string s, .int .i64 p, .int .i64 k]) ∧ s.size ≤ 7 ∧ (-1 ≤ p ∧ p ≤ 9223372036854775807) ∧ (-1 ≤ k ∧ k ≤ 5) ∧ Below w.heap.size w w' := by
  have H1 := Lib.hid (new_any n₀ len cap a zs w hc hw); clear hc
  go_enter Try.func17, Try.ntmps17
  go_wp2_with fail
  refine H1.out.mono ?_
  clear H1
  rintro e w1 ⟨g, rfl, hg, hst, hb0, hgr0⟩
  go_wp2_with fail
  refine (below_any n₀ g len cap a zs (newC zs len) 8 w1 hst (by omega)).mono ?_
  rintro e w2 ⟨rfl, hd⟩
  have hbd := belowF_bd zs len (newC zs len) 8
  generalize belowF zs len (newC zs len) 8 = b at *
  obtain ⟨x, c1⟩ := b
  dsimp only at *
  clear hst
  obtain ⟨n, rfl⟩ : ∃ n : Nat, x = n := ⟨x.toNat, by omega⟩
  go_wp2_with fail
  refine (text_any n₀ g len cap a zs c1 n w2 hd.st (by omega)).mono ?_
  rintro e w3 ⟨s, c2, rfl, hs, hd2⟩
  subst hs
  have hgl := hd2.st.lt
  go_wp2_with fail
  refine (pickint_any n₀ g len cap w3.heap.size 7 a zs c2 [0, 0, 1, 2, -1, (s.size : Int), 9223372036854775807] _ (hd2.alloc _).st (by omega) (by omega) rfl (by omega) ?_).mono ?_
  · intro k hk
    rw [lit_cell]
    rcases (by omega : k = 0 ∨ k = 1 ∨ k = 2 ∨ k = 3 ∨ k = 4 ∨ k = 5 ∨ k = 6) with rfl | rfl | rfl | rfl | rfl | rfl | rfl <;> rfl
  · rintro e w4 ⟨rfl, hd3⟩
    have hb2 := belowF_bd zs len c2 (7 : Nat)
    generalize belowF zs len c2 (7 : Nat) = b at *
    obtain ⟨y, c3⟩ := b
    dsimp only at *
    have hD := (hd2.alloc _).trans hd3
    have hst3 := hd3.st
    clear hd2 hd3
    have hx : -1 ≤ [0, 0, 1, 2, -1, (s.size : Int), 9223372036854775807][y.toNat]?.getD 0 ∧ [0, 0, 1, 2, -1, (s.size : Int), 9223372036854775807][y.toNat]?.getD 0 ≤ 9223372036854775807 := by
      rcases (by omega : y.toNat = 0 ∨ y.toNat = 1 ∨ y.toNat = 2 ∨ y.toNat = 3 ∨ y.toNat = 4 ∨ y.toNat = 5 ∨ y.toNat = 6) with h | h | h | h | h | h | h <;> rw [h] <;> simp <;> omega
    generalize [0, 0, 1, 2, -1, (s.size : Int), 9223372036854775807][y.toNat]?.getD 0 = z at *
    go_wp2_with fail
    refine (below_any n₀ g len cap a zs c3 7 w4 hst3 (by omega)).mono ?_
    rintro e w5 ⟨rfl, hd5⟩
    have hb5 := belowF_bd zs len c3 7
    generalize belowF zs len c3 7 = b at *
    obtain ⟨u, c5⟩ := b
    dsimp only at *
    have ew : wrap64 (u - 1) = u - 1 := IntWalk.wrap64_in _ (by omega)
    go_wp2
    go_ret3
    exact ⟨s, ⟨z, _, rfl, by omega, hx, by omega, new_below hgr0 hg (grownT hd.grown (grownT hD.grown hd5.grown))⟩⟩

set_option maxRecDepth 100000 in
theorem drawxor_any (n₀ len cap : Nat) (a : Option Addr) (zs : List Int) (w : World) (hc : CodeAt n₀ w a len zs) (hw : n₀ ≤ w.heap.size) :
    Calls Try.prog 28 #[.slice a len cap] w fun e w' => ∃ s t : ByteArray, e = .returned (.tuple #[.string s, .string t]) ∧ s.size ≤ 5 ∧ t.size ≤ 5 ∧ Below w.heap.size w w' := by
  obtain ⟨i0, hi, hz0, hz1, hz2⟩ := info_parts info5
  have H1 := Lib.hid (new_any n₀ len cap a zs w hc hw); clear hc
  go_enter Try.func28, Try.ntmps28
  go_wp2_with fail
  refine H1.out.mono ?_
  clear H1
  rintro e w1 ⟨g, rfl, hg, hst, hb0, hgr0⟩
  go_wp2_with fail
  refine (below_any n₀ g len cap a zs (newC zs len) 6 w1 hst (by omega)).mono ?_
  rintro e w2 ⟨rfl, hd⟩
  have hbd := belowF_bd zs len (newC zs len) 6
  generalize belowF zs len (newC zs len) 6 = b at *
  obtain ⟨x, c1⟩ := b
  dsimp only at *
  clear hst
  obtain ⟨n, rfl⟩ : ∃ n : Nat, x = n := ⟨x.toNat, by omega⟩
  go_wp2_with fail
  refine (text_any n₀ g len cap a zs c1 n w2 hd.st (by omega)).mono ?_
  rintro e w3 ⟨s, c2, rfl, hs, hd2⟩
  have hD2 := grownT hd.grown hd2.grown
  have hst2 := hd2.st
  have hs5 : s.size ≤ 5 := by omega
  clear hd hd2 hs hbd
  go_wp2_with fail
  refine (once_any n₀ g len cap a zs c2 4 w3 hst2 (by omega)).mono ?_
  rintro e w4 ⟨rfl, hd4⟩
  generalize belowF zs len c2 4 = b at *
  obtain ⟨x, c4⟩ := b
  dsimp only at *
  have hD4 := grownT hD2 hd4.grown
  have hst4 := hd4.st
  clear hst2 hD2 hd4
  by_cases hx : x = 0
  · subst hx
    go_wp2_with fail
    refine (below_any n₀ g len cap a zs c4 6 w4 hst4 (by omega)).mono ?_
    rintro e w5 ⟨rfl, hd5⟩
    have hb2 := belowF_bd zs len c4 6
    generalize belowF zs len c4 6 = b at *
    obtain ⟨y, c5⟩ := b
    dsimp only at *
    obtain ⟨m, rfl⟩ : ∃ n : Nat, y = n := ⟨y.toNat, by omega⟩
    go_wp2_with fail
    refine (text_any n₀ g len cap a zs c5 m w5 hd5.st (by omega)).mono ?_
    rintro e w6 ⟨t, c6, rfl, ht, hd6⟩
    go_wp2
    go_ret2
    exact ⟨_, _, rfl, hs5, by omega, new_below hgr0 hg (grownT hD4 (grownT hd5.grown hd6.grown))⟩
  · have hb0 : (x == 0) = false := by simpa using hx
    rw [hb0]
    have hgl := hst4.lt
    have h00 : TextSt n₀ g a len cap zs c4 w4 (w4.alloc (.cells #[] 5)) (.slice (some ⟨w4.heap.size, 0, none⟩) 0 0) [] :=
      ⟨(⟨hst4, Below.refl _ _, World.grownBy.refl _ _⟩ : Drew n₀ g a len cap zs c4 w4 w4).alloc _, World.ownsRow_made (base := w4.heap.size) (e := 5) (size := 1) w4 #[] 0 (Nat.le_refl _) (by unfold maxLen; omega) rfl, hgl⟩
    clear hst4
    go_wp2
    go_loopw [6, 7] (fun v i wr => ∃ (xs : List Int) (c' : Cu), (∃ va vc, v = .slice va xs.length vc) ∧ i = .int .i64 xs.length ∧ xs.length ≤ s.size ∧ TextSt n₀ g a len cap zs c' w4 wr v xs) (fun _ i _ => s.size - (intOf i).toNat)
    case atStart => exact ⟨[], c4, ⟨_, _, rfl⟩, rfl, by simp, h00⟩
    case round =>
      obtain ⟨xs, c', hv, rfl, hxs, ht⟩ := hrel
      have hlv := len_v hv
      clear h00
      by_cases hlt : xs.length < s.size
      · have z1 : (xs.length : Int) < (s.size : Int) := by omega
        have hbd2 := byteF_bd zs len c'
        have HB := Lib.hid (byte_any n₀ g len cap a zs c' wr ht.dr.st)
        generalize byteF zs len c' = b at *
        obtain ⟨y, c2⟩ := b
        dsimp only at *
        go_wp2_with fail
        refine HB.out.mono ?_
        clear HB
        rintro e w5 ⟨rfl, hd5⟩
        have ht2 := ht.draw hd5
        have eu : y % 256 = y := by omega
        have hns := ht2.dr.grown.size
        clear hd5 ht
        go_wp2_with (at_builtin; refine wpList_append_own _ rfl (.tmp 28) (.tmp 32) 22 rfl w4.heap.size 5 i0 (.int .u8 0) 1 1 Try.underlying22 hi hz0 hz1 hz2 rfl (by decide) _ _ _ rfl (ht2.own.alloc _) ⟨w5.heap.size, 0, none⟩ 1 1 [.int .u8 y] rfl rfl (cell_one_new _ _ _) (by intro u hu; simp at hu; subst hu; rfl) (by unfold maxLen; omega) (by omega) (by simp; omega) ?_; intro v' w6 hown' hgrow _)
        obtain ⟨ht3, hv3⟩ := ht2.app hown' hgrow
        clear hown' hgrow ht2
        go_wp2
        go_roundw
        case rel => exact ⟨_, _, hv3, by simp, by simp; omega, ht3⟩
        case measure => simp [intOf]; omega
      · have hxe : xs.length = s.size := by omega
        have z1 : ¬ (xs.length : Int) < (s.size : Int) := by omega
        have hcv := fun q : Nat => run_string_own (P := Try.prog) (w := wr.drewN q) 22 5 9 Try.underlying22 Try.underlying5 Try.underlying9 (base := w4.heap.size) (n := xs.length) (v := u6) (xs := xs) ht.own
        have hsz : (strOfNums xs).size = xs.length := by simp [strOfNums, ByteArray.size]
        have hG := ht.dr.grown
        clear ht hv
        go_wp2
        go_quiet (fail)
        go_wp2
        go_ret2
        exact ⟨_, _, rfl, hs5, by omega, below_drewN' (new_below hgr0 hg (grownT hD4 hG)) _⟩
end Go.Proofs.Ytnddcjmjolembaa
