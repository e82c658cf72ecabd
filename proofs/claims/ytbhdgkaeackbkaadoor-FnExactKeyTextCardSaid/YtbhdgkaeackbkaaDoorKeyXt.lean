/- KeyText, the exact law walked. -/
import Derived.Test.YtbhdgkaeackbkaaDoorKeyTi
import Derived.Test.YtbhdgkaeackbkaaDoorKeyC
import Derived.Test.YtbhdgkaeackbkaaDoorKeyQ
namespace Go.Proofs.YtbhdgkaeackbkaaDoor
open Go.ChangeShapes Go.WideShapes Go.ChangeAt Go.RowKit Go.BigFrame
set_option linter.unusedVariables false

set_option maxRecDepth 100000 in
set_option maxHeartbeats 1000000 in
theorem exactkeytext_walk (va : Value) (A : List K2) (w : World) (ha : keysAt w va A) (hA63 : A.length ≤ maxLen) (hin : ∀ k ∈ A, kIn k) (hT : Lib.TabIs Tryd.prog w "internal/strconv.uint64pow10" IntKind.u64 Lib.pow10Tab) :
    Calls Tryd.prog 4 #[va] w fun e w' => e = .returned (.bool true) ∧ Below w.heap.size w w' := by
  have hsA : ∃ a cap, va = .slice a A.length cap := by obtain ⟨a, cap, h, _⟩ := ha; exact ⟨a, cap, h⟩
  unfold maxLen at hA63
  have S1 := Lib.hid (fun w => szkeys_any va A 1048576 w hsA (by omega) (by omega))
  by_cases hlA : A.length ≤ 1048576
  · rw [if_neg (by omega)] at S1
    have n1 : ¬ 1048576 - (A.length : Int) < 0 := by omega
    have KA := Lib.hid (fun w' (h : Below w.heap.size w w') => tokeys_any va A w' (keysAt_below ha h) (by omega))
    have HI := Lib.hid (fun v w' (hb : Below w.heap.size w w') h => ikeytext_any v A w' h (by omega) hin (tab_below hT hb))
    have HS := Lib.hid (fun v w' h => skeytext_any v A w' h (by omega) hin)
    have HB0 := Below.refl w.heap.size w
    clear hsA ha hT
    generalize tB (keyTextL A) = X at *
    go_enter Tryd.func4, Tryd.ntmps4
    go_wp2_with fail
    refine (S1.out _).mono ?_
    rintro e w1 ⟨rfl, rfl⟩
    clear S1
    go_wp2_with fail
    refine (KA.out _ HB0).mono ?_
    rintro e w2 ⟨g1, rfl, hg1, ho1, hb2⟩
    have HB2 := HB0.trans (hb2.mono HB0.size)
    go_wp2_with fail
    refine (HS.out _ _ (keysAt_own ho1)).mono ?_
    rintro e w3 ⟨rfl, hb3⟩
    have HB3 := HB2.trans (hb3.mono HB2.size)
    clear hb2 hb3 HB2 ho1
    go_wp2_with fail
    refine (KA.out _ HB3).mono ?_
    rintro e w4 ⟨g2, rfl, hg2, ho2, hb4⟩
    have HB4 := HB3.trans (hb4.mono HB3.size)
    clear hb4 HB3
    go_wp2_with fail
    refine (HI.out _ _ HB4 (keysAt_own ho2)).mono ?_
    rintro e w5 ⟨rfl, hb5⟩
    have HB5 := HB4.trans (hb5.mono HB4.size)
    have ho5 := own_below ho2 hb5
    clear hb5 HB4 ho2
    go_wp2_with fail
    refine (KA.out _ HB5).mono ?_
    rintro e w9 ⟨g9, rfl, hg9, ho9, hb9⟩
    have hc9 := HB5.trans (hb9.mono HB5.size)
    have ho10 := own_below ho5 hb9
    go_wp2_with fail
    refine (eqkeys_any _ _ A A _ (keysAt_own ho10) (keysAt_own ho9) (by omega) (by omega)).mono ?_
    rintro e w10 ⟨rfl, hb10⟩
    have HF := Lib.hid (hc9.trans (hb10.mono hc9.size))
    rw [show decide (A = A) = true by simp]
    clear hb9 hb10 hc9 ho10 ho9
    go_wp2
    go_ret
    exact ⟨rfl, HF.out⟩
  · rw [if_pos (by omega)] at S1
    clear hsA ha
    go_enter Tryd.func4, Tryd.ntmps4
    go_wp2_with fail
    refine (S1.out _).mono ?_
    rintro e w1 ⟨rfl, rfl⟩
    go_wp2
    go_ret
    exact ⟨rfl, Below.refl _ _⟩
end Go.Proofs.YtbhdgkaeackbkaaDoor
