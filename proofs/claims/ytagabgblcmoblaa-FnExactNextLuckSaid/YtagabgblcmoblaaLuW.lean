/- Chapter 11: the exact laws, walked; the draws. -/
import Derived.Test.YtagabgblcmoblaaLuQ
import Derived.Test.YtagabgblcmoblaaDraw2
import Derived.Test.YtagabgblcmoblaaQuiet2
set_option linter.unusedVariables false
set_option linter.unusedSimpArgs false
namespace Go.Proofs.Ytagabgblcmoblaa
open Go.ChangeShapes Go.WideShapes Go.ChangeAt Go.RowKit
set_option linter.unusedVariables false
/-- one of some numbers, laid just now -/
theorem pick_lit (n₀ g len cap : Nat) (a : Option Addr) (zs : List Int) (c : Cu) (xs : List Int) (n : Nat) (w0 w : World) (cs : Array Value) (hd : Drew n₀ g a len cap zs c w0 w) (hn : 0 < n) (hn2 : n ≤ 256) (hx : xs.length = n) (hcs : cs = (xs.map (Value.int .i64)).toArray) :
    Calls Try.prog 24 #[.pointer (some ⟨g, 0, none⟩), .slice (some ⟨w.heap.size, 0, none⟩) n n] (w.alloc (.cells cs 3)) fun e w' => ∃ (z : Int) (c' : Cu), e = .returned (.int .i64 z) ∧ Drew n₀ g a len cap zs c' w0 w' := by
  have hgl := hd.st.lt
  refine (pickint_any n₀ g len cap w.heap.size n a zs c xs _ (hd.alloc _).st hn hn2 hx (by omega) ?_).mono (fun e w' h => ⟨_, _, h.1, (hd.alloc _).trans h.2⟩)
  intro k hk
  rw [lit_cell, hcs]
  simp [show k < xs.length by omega]
set_option maxRecDepth 100000 in
theorem exnextluck_walk (l : Int) (w : World) : Calls Try.prog 5 #[.int .i64 l] w fun e w' => e = .returned (.bool true) ∧ Below w.heap.size w w' := by
  go_enter Try.func5, Try.ntmps5
  go_wp2_with fail
  refine (snext_any l _).mono ?_
  rintro e w1 ⟨rfl, rfl⟩
  go_wp2_with fail
  refine (inext_any l _).mono ?_
  rintro e w2 ⟨rfl, rfl⟩
  go_wp2
  go_ret
  exact ⟨rfl, Below.refl _ _⟩
set_option maxRecDepth 100000 in
theorem exbelow_walk (l n : Int) (w : World) : Calls Try.prog 6 #[.int .i64 l, .int .i64 n] w fun e w' => e = .returned (.bool true) ∧ Below w.heap.size w w' := by
  go_enter Try.func6, Try.ntmps6
  go_wp2_with fail
  refine (sbelow_any l n _).mono ?_
  rintro e w1 ⟨rfl, hb1⟩
  go_wp2_with fail
  refine (ibelow_any l n _).mono ?_
  rintro e w2 ⟨rfl, hb2⟩
  have HB := hb1.trans (hb2.mono hb1.size)
  clear hb1 hb2
  generalize blL l n = y
  go_wp2
  go_ret
  exact ⟨rfl, HB⟩
set_option maxRecDepth 100000 in
set_option maxHeartbeats 2000000 in
theorem exmixed_walk (l n : Int) (w : World) : Calls Try.prog 7 #[.int .i64 l, .int .i64 n] w fun e w' => e = .returned (.bool true) ∧ Below w.heap.size w w' := by
  have HI := Lib.hid (fun w => imixed_any l n w)
  have HS := Lib.hid (fun w => smixed_any l n w)
  have hl50 := mxL_len l n
  generalize mxL l n = M at *
  obtain ⟨b, A⟩ := M
  dsimp only at *
  go_enter Try.func7, Try.ntmps7
  go_wp2_with fail
  refine (HS.out _).mono ?_
  rintro e w1 ⟨vs, rfl, hs1, hb1⟩
  go_wp2_with fail
  refine (HI.out _).mono ?_
  rintro e w2 ⟨vi, rfl, hi2, hb2⟩
  have HB2 := hb1.trans (hb2.mono hb1.size)
  have hs2 := own_below hs1 hb2
  have hsz := hb1.size
  have hz0 : ∀ b, vs.ownBlock = some b → b < w1.heap.size := fun b e => (hs1.lt b e).2
  have hbg : ∀ b, vi.ownBlock = some b → w1.heap.size ≤ b := fun b e => (hi2.lt b e).1
  clear hb1 hb2 hs1
  go_wp2_with fail
  refine (eqints_self _ _ vi vs A A.length _ hi2 hs2 (by omega)).mono ?_
  rintro e w3 ⟨rfl, hb3⟩
  have HB3 := HB2.trans (hb3.mono HB2.size)
  have hs3 := own_below hs2 hb3
  have hi3 := own_below hi2 hb3
  clear hb3 hs2 hi2
  go_wp2_with fail
  refine (markints_any _ vi A.length _ 1 _ hi3 (by omega) (by omega)).mono ?_
  rintro e w4 ⟨rfl, hi4, hg4⟩
  have HB4 : Below w.heap.size w w4 := HB3.grown hg4 HB3.size (fun k e => Nat.le_trans hsz (hbg k e))
  have hs4 : w4.ownsRow w.heap.size 3 1 vs A.length (intsV A) := by
    cases hv : vs.ownBlock with
    | none => exact hs3.kept hg4 (.inl hv)
    | some b => exact hs3.kept hg4 (.inr fun e => by rw [hv] at e; have := hz0 b hv; have := hbg b e.symm; omega)
  clear hg4 hs3 hi3
  have n4 : ¬ 1 + (A.length : Int) < 0 := by omega
  go_wp2_with fail
  refine (heldints_any _ vi A.length 1 _ hi4 (by omega) (by omega)).mono ?_
  rintro e w5 ⟨rfl, rfl⟩
  go_wp2_with fail
  refine (HI.out _).mono ?_
  rintro e w6 ⟨vh, rfl, hh6, hb6⟩
  have HB6 := HB4.trans (hb6.mono HB4.size)
  have hs6 := own_below hs4 hb6
  have hi6 := own_below hi4 hb6
  clear hb6 hs4 hi4
  go_wp2_with fail
  refine (eqints_self _ _ vh vs A A.length _ hh6 hs6 (by omega)).mono ?_
  rintro e w7 ⟨rfl, hb7⟩
  have HB7 := HB6.trans (hb7.mono HB6.size)
  have hi7 := own_below hi6 hb7
  clear hb7 hs6 hi6 hh6
  go_wp2_with fail
  refine (heldints_any _ vi A.length 1 _ hi7 (by omega) (by omega)).mono ?_
  rintro e w8 ⟨rfl, rfl⟩
  clear hi7
  go_wp2
  go_ret
  exact ⟨rfl, HB7⟩
set_option maxRecDepth 100000 in
set_option maxHeartbeats 2000000 in
theorem luck_any (n₀ g len cap : Nat) (a : Option Addr) (zs : List Int) (c : Cu) (w0 w : World) (hd : Drew n₀ g a len cap zs c w0 w) :
    Calls Try.prog 23 #[.pointer (some ⟨g, 0, none⟩)] w fun e w' => ∃ (z : Int) (c' : Cu), e = .returned (.int .i64 z) ∧ Drew n₀ g a len cap zs c' w0 w' := by
  go_enter Try.func23, Try.ntmps23
  go_wp2_with fail
  refine (below_any n₀ g len cap a zs c 100000 _ hd.st (by omega)).mono ?_
  rintro e w1 ⟨rfl, hd1⟩
  have hD := hd.trans hd1
  clear hd hd1
  generalize belowF zs len c 100000 = b at *
  obtain ⟨x, c1⟩ := b
  dsimp only at *
  go_wp2_with fail
  refine (pick_lit n₀ g len cap a zs c1 [0, 1, 2147483647, 12345, -1, 9223372036854775807, x] 7 w0 w1 _ hD (by omega) (by omega) rfl rfl).mono ?_
  rintro e w2 ⟨z, c2, rfl, hD2⟩
  go_wp2
  go_ret
  exact ⟨z, c2, rfl, hD2⟩
set_option maxRecDepth 100000 in
theorem drawnext_any (len cap : Nat) (a : Option Addr) (zs : List Int) (w : World) (hc : CodeAt w.heap.size w a len zs) :
    Calls Try.prog 9 #[.slice a len cap] w fun e w' => ∃ n : Int, e = .returned (.int .i64 n) ∧ Below w.heap.size w w' := by
  have H0 := Lib.hid (new_any w.heap.size len cap a zs w hc (Nat.le_refl _))
  go_enter Try.func9, Try.ntmps9
  go_wp2_with fail
  refine H0.out.mono ?_
  rintro e w1 ⟨g, rfl, hg, hs, hb1, hg1⟩
  have hd0 : Drew w.heap.size g a len cap zs (newC zs len) w1 w1 := ⟨hs, Below.refl _ _, World.grownBy.refl _ _⟩
  go_wp2_with fail
  refine (luck_any w.heap.size g len cap a zs _ w1 _ hd0).mono ?_
  rintro e w2 ⟨z, c2, rfl, hd2⟩
  have HB := Lib.hid (hb1.trans hd2.below)
  clear hd0 hd2 hb1 hs
  go_wp2
  go_ret
  exact ⟨z, rfl, HB.out⟩
set_option maxRecDepth 100000 in
theorem drawbelow_any (len cap : Nat) (a : Option Addr) (zs : List Int) (w : World) (hc : CodeAt w.heap.size w a len zs) :
    Calls Try.prog 11 #[.slice a len cap] w fun e w' => ∃ l n : Int, e = .returned (.tuple #[.int .i64 l, .int .i64 n]) ∧ Below w.heap.size w w' := by
  have H0 := Lib.hid (new_any w.heap.size len cap a zs w hc (Nat.le_refl _))
  go_enter Try.func11, Try.ntmps11
  go_wp2_with fail
  refine H0.out.mono ?_
  rintro e w1 ⟨g, rfl, hg, hs, hb1, hg1⟩
  have hd0 : Drew w.heap.size g a len cap zs (newC zs len) w1 w1 := ⟨hs, Below.refl _ _, World.grownBy.refl _ _⟩
  go_wp2_with fail
  refine (luck_any w.heap.size g len cap a zs _ w1 _ hd0).mono ?_
  rintro e w2 ⟨z, c2, rfl, hd2⟩
  go_wp2_with fail
  refine (pick_lit w.heap.size g len cap a zs c2 [1, 2, 7, 100, 0, -1, 9223372036854775807] 7 w1 w2 _ hd2 (by omega) (by omega) rfl rfl).mono ?_
  rintro e w3 ⟨z2, c3, rfl, hd3⟩
  have HB := Lib.hid (hb1.trans hd3.below)
  clear hd0 hd2 hd3 hb1 hs
  go_wp2
  go_ret2
  exact ⟨z, z2, rfl, HB.out⟩
set_option maxRecDepth 100000 in
theorem drawmixed_any (len cap : Nat) (a : Option Addr) (zs : List Int) (w : World) (hc : CodeAt w.heap.size w a len zs) :
    Calls Try.prog 15 #[.slice a len cap] w fun e w' => ∃ l n : Int, e = .returned (.tuple #[.int .i64 l, .int .i64 n]) ∧ Below w.heap.size w w' := by
  have H0 := Lib.hid (new_any w.heap.size len cap a zs w hc (Nat.le_refl _))
  go_enter Try.func15, Try.ntmps15
  go_wp2_with fail
  refine H0.out.mono ?_
  rintro e w1 ⟨g, rfl, hg, hs, hb1, hg1⟩
  have hd0 : Drew w.heap.size g a len cap zs (newC zs len) w1 w1 := ⟨hs, Below.refl _ _, World.grownBy.refl _ _⟩
  go_wp2_with fail
  refine (luck_any w.heap.size g len cap a zs _ w1 _ hd0).mono ?_
  rintro e w2 ⟨z, c2, rfl, hd2⟩
  go_wp2_with fail
  refine (below_any w.heap.size g len cap a zs c2 12 _ hd2.st (by omega)).mono ?_
  rintro e w3 ⟨rfl, hd3⟩
  have hD := hd2.trans hd3
  generalize belowF zs len c2 12 = b at *
  obtain ⟨x, c3⟩ := b
  dsimp only at *
  go_wp2_with fail
  refine (pick_lit w.heap.size g len cap a zs c3 [0, 1, 2, 5, 50, 51, -1, x] 8 w1 w3 _ hD (by omega) (by omega) rfl rfl).mono ?_
  rintro e w4 ⟨z2, c4, rfl, hd4⟩
  have HB := Lib.hid (hb1.trans hd4.below)
  clear hd0 hd2 hd3 hd4 hD hb1 hs
  go_wp2
  go_ret2
  exact ⟨z, z2, rfl, HB.out⟩
end Go.Proofs.Ytagabgblcmoblaa
