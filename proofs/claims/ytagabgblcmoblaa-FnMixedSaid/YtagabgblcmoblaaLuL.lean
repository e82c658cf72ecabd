/- Chapter 11: the law on a luck, walked. -/
import Derived.Test.YtagabgblcmoblaaLuW
set_option linter.unusedVariables false
set_option linter.unusedSimpArgs false
namespace Go.Proofs.Ytagabgblcmoblaa
open Go.ChangeShapes Go.WideShapes Go.ChangeAt Go.RowKit
set_option linter.unusedVariables false
theorem codeAt_later {w w' : World} {a : Option Addr} {len : Nat} {zs : List Int} (h : CodeAt w.heap.size w a len zs) (hb : Below w.heap.size w w') : CodeAt w'.heap.size w' a len zs := by
  obtain ⟨h1, h2, h3⟩ := h.below hb
  refine ⟨h1, h2, ?_⟩
  rcases h3 with h3 | ⟨b, off, h4, h5, h6⟩
  · exact .inl h3
  · exact .inr ⟨b, off, h4, Nat.lt_of_lt_of_le h5 hb.size, h6⟩
set_option maxRecDepth 100000 in
set_option maxHeartbeats 2000000 in
theorem fnluck_walk (a0 : Option Addr) (len0 cap0 : Nat) (z0 : List Int) (w : World) (w0 : IsRow .u8 w a0 len0 cap0 z0) :
    Calls Try.prog 3 #[.slice a0 len0 cap0] w fun e w' => e = .returned (.bool true) ∧ Below w.heap.size w w' := by
  by_cases hbig : len0 ≤ 1048576
  · have hc := codeAt_of w0 hbig
    have B1 := Lib.hid (fun w => big_any a0 len0 cap0 w hbig)
    have D1 := Lib.hid (fun (w' : World) (e : w' = w) => by subst e; exact drawnext_any len0 cap0 a0 z0 w' hc)
    have D2 := Lib.hid (fun (w' : World) (h : Below w.heap.size w w') => drawbelow_any len0 cap0 a0 z0 w' (codeAt_later hc h))
    clear w0 hc
    go_enter Try.func3, Try.ntmps3
    go_wp2_with fail
    refine (B1.out _).mono ?_
    rintro e w1 ⟨rfl, rfl⟩
    clear B1
    go_wp2_with fail
    refine (D1.out _ rfl).mono ?_
    rintro e w2 ⟨u, rfl, hb2⟩
    clear D1
    have hx := nxL_bd u
    have SN := Lib.hid (fun w => snext_any u w)
    go_wp2_with fail
    refine (inext_any u _).mono ?_
    rintro e w3 ⟨rfl, rfl⟩
    generalize nxL u = x at *
    go_wp2_with fail
    refine (D2.out _ hb2).mono ?_
    rintro e w4 ⟨l, n, rfl, hb4⟩
    have HB4 := hb2.trans (hb4.mono hb2.size)
    clear D2 hb2 hb4
    have hy := blL_bd l n
    have hy0 := blL_none l n
    have IN := Lib.hid (fun w => inext_any l w)
    have SB := Lib.hid (fun w => sbelow_any l n w)
    go_wp2_with fail
    refine (ibelow_any l n _).mono ?_
    rintro e w5 ⟨rfl, hb5⟩
    have HB5 := HB4.trans (hb5.mono HB4.size)
    clear HB4 hb5
    generalize blL l n = y at *
    generalize nxL l = z at *
    go_wp2_with fail
    refine (SB.out _).mono ?_
    rintro e w6 ⟨rfl, hb6⟩
    have HB6 := HB5.trans (hb6.mono HB5.size)
    clear HB5 hb6 SB
    have g0 : ¬ x < 0 := by omega
    have g1 : ¬ (2147483647 : Int) < x := by omega
    go_wp2_with fail
    refine (SN.out _).mono ?_
    rintro e w7 ⟨rfl, rfl⟩
    clear SN
    go_wp2_with fail
    refine (IN.out _).mono ?_
    rintro e w8 ⟨rfl, rfl⟩
    clear IN
    by_cases hn : n < 1
    · have e0 := hy0 hn
      subst e0
      have hn1 : ¬ (1 ≤ n) := by omega
      clear hy hy0
      go_wp2
      go_ret
      exact ⟨rfl, HB6⟩
    · have hy := hy (by omega)
      obtain ⟨y1, y2⟩ := hy
      have hn1 : 1 ≤ n := by omega
      clear hy0
      go_wp2
      go_ret
      exact ⟨rfl, HB6⟩
  · have B1 := Lib.hid (fun w => big_true a0 len0 cap0 w hbig)
    go_enter Try.func3, Try.ntmps3
    go_wp2_with fail
    refine (B1.out _).mono ?_
    rintro e w1 ⟨rfl, rfl⟩
    go_wp2
    go_ret
    exact ⟨rfl, Below.refl _ _⟩
end Go.Proofs.Ytagabgblcmoblaa
