/- ReadKeys, the exact law walked. -/
import Derived.Test.YtbhdgkaeackbkaaDoorKeyRi
import Derived.Test.YtbhdgkaeackbkaaDoorKeyK
namespace Go.Proofs.YtbhdgkaeackbkaaDoor
open Go.ChangeShapes Go.WideShapes Go.ChangeAt Go.RowKit Go.BigFrame
set_option linter.unusedVariables false

theorem okKeys_len (ks : List K2) : (okKeys ks).length ≤ ks.length := by
  unfold okKeys; split <;> simp
theorem keysOfL_len (l : List UInt8) : (keysOfL l).length ≤ l.length + 1 := by
  unfold keysOfL
  split
  · simp
  · rw [List.length_map]; exact splitC_count 44 _
set_option maxRecDepth 100000 in
set_option maxHeartbeats 2000000 in
theorem exactreadkeys_walk (s : ByteArray) (w : World) (hs63 : s.size ≤ maxLen) (hV : ∀ w', Below w.heap.size w w' → DecVars w') (hM : MLen w) :
    Calls Tryd.prog 5 #[.string s] w fun e w' => e = .returned (.bool true) ∧ Below w.heap.size w w' := by
  unfold maxLen at hs63
  by_cases hl : s.size ≤ 1048576
  · have n0 : ¬ (1048576 : Int) < (s.size : Int) := by omega
    have HS := Lib.hid (sreadkeys_any s w (by omega))
    have HI := Lib.hid (fun w' (h : Below w.heap.size w w') => ireadkeys_any s w' (by omega) (fun w2 h2 => hV w2 (h.trans (h2.mono h.size))) (hM.below h))
    have hMl : (okKeys (keysOfL s.data.toList)).length ≤ 1048577 := by
      have h1 := okKeys_len (keysOfL s.data.toList)
      have h2 := keysOfL_len s.data.toList
      rw [show s.data.toList.length = s.size by simp] at h2
      omega
    clear hV hM
    generalize okKeys (keysOfL s.data.toList) = M at *
    generalize keysOkR (keysOfL s.data.toList) = b at *
    go_enter Tryd.func5, Tryd.ntmps5
    go_wp2_with fail
    refine HS.out.mono ?_
    rintro e w1 ⟨v0, rfl, ho0, HB1⟩
    have z1 := HB1.size
    have hz0 : ∀ k, v0.ownBlock = some k → k < w1.heap.size := fun k e => (ho0.lt k e).2
    go_wp2_with fail
    refine (HI.out _ HB1).mono ?_
    rintro e w2 ⟨vg, rfl, hog, hb2⟩
    have HB2 := HB1.trans (hb2.mono HB1.size)
    have z2 := hb2.size
    have ho0a := own_below ho0 hb2
    have hbg : ∀ k, vg.ownBlock = some k → w1.heap.size ≤ k := fun k e => (hog.lt k e).1
    clear hb2 HS
    go_wp2_with fail
    refine (eqkeys_any _ _ M M _ (keysAt_own hog) (keysAt_own ho0a) (by omega) (by omega)).mono ?_
    rintro e w3 ⟨rfl, hb3⟩
    have HB3 := HB2.trans (hb3.mono HB2.size)
    have z3 := hb3.size
    have ho0b := own_below ho0a hb3
    have hogb := own_below hog hb3
    rw [show decide (M = M) = true by simp]
    clear hb3 ho0a hog ho0
    cases b
    all_goals
      go_wp2_with fail
      refine (markkeys_any _ _ _ _ 1 _ hogb (by omega) (by omega) (by omega)).mono ?_
      rintro e w4 ⟨rfl, hog4, hgr4⟩
      have z4 := hgr4.size
      have HB4 : Below w.heap.size w w4 := HB3.grown hgr4 HB3.size (fun k e => Nat.le_trans HB1.size (hbg k e))
      have ho0c : w4.ownsRow w.heap.size 43 2 v0 M.length (keyCells M) := by
        cases hv : v0.ownBlock with
        | none => exact ho0b.kept hgr4 (.inl hv)
        | some k => exact ho0b.kept hgr4 (.inr fun e => by rw [hv] at e; have := hz0 k hv; have := hbg k e.symm; omega)
      clear hgr4
      have n4 : ¬ 1 + 2 * (M.length : Int) < 0 := by omega
      have kg4 : keysAt w4 vg (marked M.length 1) := keysAt_own (ks := marked M.length 1) (by rw [marked_len]; exact hog4)
      go_wp2_with fail
      refine (heldkeys_any _ _ 1 _ kg4 (by omega) (by omega)).mono ?_
      rintro e w5 ⟨rfl, rfl⟩
      clear kg4
      go_wp2_with fail
      refine (HI.out _ HB4).mono ?_
      rintro e w6 ⟨vh, rfl, hoh, hb6⟩
      have HB6 := HB4.trans (hb6.mono HB4.size)
      have ho0d := own_below ho0c hb6
      have hog6 := own_below hog4 hb6
      clear hb6 ho0c hog4
      go_wp2_with fail
      refine (eqkeys_any _ _ M M _ (keysAt_own hoh) (keysAt_own ho0d) (by omega) (by omega)).mono ?_
      rintro e w7 ⟨rfl, hb7⟩
      have HB7 := HB6.trans (hb7.mono HB6.size)
      have hog7 := own_below hog6 hb7
      rw [show decide (M = M) = true by simp]
      have kg7 : keysAt w7 vg (marked M.length 1) := keysAt_own (ks := marked M.length 1) (by rw [marked_len]; exact hog7)
      clear hb7 ho0d hog6 hoh hog7
      go_wp2_with fail
      refine (heldkeys_any _ _ 1 _ kg7 (by omega) (by omega)).mono ?_
      rintro e w8 ⟨rfl, rfl⟩
      clear kg7
      go_wp2
      go_ret
      exact ⟨rfl, HB7⟩
  · have n0 : (1048576 : Int) < (s.size : Int) := by omega
    clear hV hM
    go_enter Tryd.func5, Tryd.ntmps5
    go_wp2
    go_ret
    exact ⟨rfl, Below.refl _ _⟩
end Go.Proofs.YtbhdgkaeackbkaaDoor
