/- Chapter 2's draws. -/
import Derived.Test.YtnddcjmjolembaaBent
import Derived.Test.YtnddcjmjolembaaBytesX
namespace Go.Proofs.Ytnddcjmjolembaa
open Go.ChangeShapes Go.WideShapes Go.ChangeAt Go.RowKit
set_option linter.unusedVariables false

theorem drawsealed_any (n₀ len cap : Nat) (a : Option Addr) (zs : List Int) (w : World) (hc : CodeAt n₀ w a len zs) (hw : n₀ ≤ w.heap.size) :
    Calls Try.prog 20 #[.slice a len cap] w fun e w' => ∃ s : ByteArray, e = .returned (.string s) ∧ s.size ≤ 8 ∧ Below w.heap.size w w' := by
  have H1 := Lib.hid (new_any n₀ len cap a zs w hc hw); clear hc
  go_enter Try.func20, Try.ntmps20
  go_wp2_with fail
  refine H1.out.mono ?_
  clear H1
  rintro e w1 ⟨g, rfl, hg, hst, hb0, hgr0⟩
  go_wp2_with fail
  refine (below_any n₀ g len cap a zs (newC zs len) 9 w1 hst (by omega)).mono ?_
  rintro e w2 ⟨rfl, hd⟩
  have hbd := belowF_bd zs len (newC zs len) 9
  generalize belowF zs len (newC zs len) 9 = b at *
  obtain ⟨x, c'⟩ := b
  dsimp only at *
  obtain ⟨n, rfl⟩ : ∃ n : Nat, x = n := ⟨x.toNat, by omega⟩
  go_wp2_with fail
  refine (text_any n₀ g len cap a zs c' n w2 hd.st (by omega)).mono ?_
  rintro e w3 ⟨s, c3, rfl, hs, hd3⟩
  go_wp2
  go_ret
  exact ⟨s, rfl, by omega, new_below hgr0 hg (grownT hd.grown hd3.grown)⟩

theorem drawopened_any (n₀ len cap : Nat) (a : Option Addr) (zs : List Int) (w : World) (hc : CodeAt n₀ w a len zs) (hw : n₀ ≤ w.heap.size) :
    Calls Try.prog 26 #[.slice a len cap] w fun e w' => ∃ s : ByteArray, e = .returned (.string s) ∧ s.size ≤ 3000 ∧ Below w.heap.size w w' := by
  have H1 := Lib.hid (new_any n₀ len cap a zs w hc hw); clear hc
  go_enter Try.func26, Try.ntmps26
  go_wp2_with fail
  refine H1.out.mono ?_
  clear H1
  rintro e w1 ⟨g, rfl, hg, hst, hb0, hgr0⟩
  go_wp2_with fail
  refine (once_any n₀ g len cap a zs (newC zs len) 4 w1 hst (by omega)).mono ?_
  rintro e w2 ⟨rfl, hd⟩
  generalize belowF zs len (newC zs len) 4 = b at *
  obtain ⟨x, c'⟩ := b
  dsimp only at *
  clear hst
  by_cases hx : x = 0
  · subst hx
    go_wp2_with fail
    refine (below_any n₀ g len cap a zs c' 6 w2 hd.st (by omega)).mono ?_
    rintro e w3 ⟨rfl, hd3⟩
    have hb2 := belowF_bd zs len c' 6
    generalize belowF zs len c' 6 = b at *
    obtain ⟨y, c3⟩ := b
    dsimp only at *
    obtain ⟨n, rfl⟩ : ∃ n : Nat, y = n := ⟨y.toNat, by omega⟩
    go_wp2_with fail
    refine (text_any n₀ g len cap a zs c3 n w3 hd3.st (by omega)).mono ?_
    rintro e w4 ⟨s, c4, rfl, hs, hd4⟩
    go_wp2
    go_ret
    exact ⟨_, rfl, by omega, new_below hgr0 hg (grownT hd.grown (grownT hd3.grown hd4.grown))⟩
  · have hb0 : (x == 0) = false := by simpa using hx
    go_wp2_with fail
    refine (below_any n₀ g len cap a zs c' 7 w2 hd.st (by omega)).mono ?_
    rintro e w3 ⟨rfl, hd3⟩
    have hb2 := belowF_bd zs len c' 7
    generalize belowF zs len c' 7 = b at *
    obtain ⟨y, c3⟩ := b
    dsimp only at *
    obtain ⟨n, rfl⟩ : ∃ n : Nat, y = n := ⟨y.toNat, by omega⟩
    go_wp2_with fail
    refine (text_any n₀ g len cap a zs c3 n w3 hd3.st (by omega)).mono ?_
    rintro e w4 ⟨s, c4, rfl, hs, hd4⟩
    have hn5 : n < 7 := by omega
    go_wp2_with fail
    refine (sseal_any s w4 (by omega)).mono ?_
    rintro e w5 ⟨rfl, hb5⟩
    have hd5 : Drew n₀ g a len cap zs c4 w4 w5 := (⟨hd4.st, Below.refl _ _, World.grownBy.refl _ _⟩ : Drew n₀ g a len cap zs c4 w4 w4).grow hd4.st.lt (grown_of_below' hb5 none) (by simp)
    have hsz := sealS_size s
    generalize sealS s = t at *
    go_wp2_with fail
    refine (bent_any n₀ g len cap a zs c4 t w5 hd5.st (by omega)).mono ?_
    rintro e w6 ⟨r, c6, rfl, hr, hd6⟩
    go_wp2
    go_ret
    exact ⟨_, rfl, hr, new_below hgr0 hg (grownT hd.grown (grownT hd3.grown (grownT hd4.grown (grownT hd5.grown hd6.grown))))⟩

theorem drawputnum_any (n₀ len cap : Nat) (a : Option Addr) (zs : List Int) (w : World) (hc : CodeAt n₀ w a len zs) (hw : n₀ ≤ w.heap.size) :
    Calls Try.prog 14 #[.slice a len cap] w fun e w' => ∃ n k : Int, e = .returned (.tuple #[.int .i64 n, .int .i64 k]) ∧ (-9223372036854775808 ≤ n ∧ n ≤ 9223372036854775807) ∧ (-1 ≤ k ∧ k ≤ 5) ∧ Below w.heap.size w w' := by
  have H1 := Lib.hid (new_any n₀ len cap a zs w hc hw); clear hc
  go_enter Try.func14, Try.ntmps14
  go_wp2_with fail
  refine H1.out.mono ?_
  clear H1
  rintro e w1 ⟨g, rfl, hg, hst, hb0, hgr0⟩
  go_wp2_with fail
  refine (int_any n₀ g len cap a zs (newC zs len) w1 hst).mono ?_
  rintro e w2 ⟨n, c', rfl, hn, hd⟩
  go_wp2_with fail
  refine (below_any n₀ g len cap a zs c' 7 w2 hd.st (by omega)).mono ?_
  rintro e w3 ⟨rfl, hd3⟩
  have hb2 := belowF_bd zs len c' 7
  generalize belowF zs len c' 7 = b at *
  obtain ⟨y, c3⟩ := b
  dsimp only at *
  have ew : wrap64 (y - 1) = y - 1 := IntWalk.wrap64_in _ (by omega)
  go_wp2
  go_ret2
  exact ⟨_, _, rfl, hn, by omega, new_below hgr0 hg (grownT hd.grown hd3.grown)⟩
end Go.Proofs.Ytnddcjmjolembaa
