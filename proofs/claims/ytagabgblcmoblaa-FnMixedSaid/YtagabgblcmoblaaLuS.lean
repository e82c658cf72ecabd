/- Chapter 11, walked: numbers mixed by a luck (the model). -/
import Derived.Test.YtagabgblcmoblaaLuX
import Derived.Test.YtagabgblcmoblaaSIn
import Derived.Test.YtagabgblcmoblaaDraw2
set_option linter.unusedVariables false
set_option linter.unusedSimpArgs false
namespace Go.Proofs.Ytagabgblcmoblaa
open Go.RowKit Go.ChangeShapes Go.WideShapes Go.ChangeAt
set_option linter.unusedVariables false
theorem ownsRow_shape1 {w : World} {base size n : Nat} {e : TypeId} {v : Value} {xs : List Value} (h : w.ownsRow base e size v n xs) (hn : 0 < n) : ∃ g cap, v = .slice (some ⟨g, 0, none⟩) n cap := by
  rcases h.2 with ⟨_, h0⟩ | ⟨g, cap, _, hv, _⟩
  · omega
  · exact ⟨g, cap, hv⟩
theorem ownsRow_ge {w : World} {base g cap size n : Nat} {e : TypeId} {xs : List Value} (h : w.ownsRow base e size (.slice (some ⟨g, 0, none⟩) n cap) n xs) : base ≤ g := by
  rcases h.2 with ⟨h0, _⟩ | ⟨g', cap', cur, hv, hg, _⟩
  · cases h0
  · cases hv; exact hg
set_option maxRecDepth 100000 in
set_option maxHeartbeats 2000000 in
theorem smixed_any (l n : Int) (w : World) : Calls Try.prog 17 #[.int .i64 l, .int .i64 n] w fun e w' => ∃ v, e = .returned (.tuple #[.int .i64 (mxL l n).1, v]) ∧ w'.ownsRow w.heap.size 3 1 v (mxL l n).2.length (intsV (mxL l n).2) ∧ Below w.heap.size w w' := by
  obtain ⟨i0, hi, hz0, hz1, hz2⟩ := info_parts infoIn
  have hown0 := World.ownsRow_lit (base := w.heap.size) (e := 3) (size := 1) w #[] 0 (Nat.le_refl _) (by unfold maxLen; omega) rfl
  have hb0 := (Below.refl w.heap.size w).alloc (Nat.le_refl _) (.cells #[] 3)
  by_cases h1 : n < 0 ∨ 50 < n
  · have e0 : mxL l n = (l, []) := by unfold mxL; rw [if_pos h1]
    rw [e0]
    have d1 : (decide (0 ≤ n) && decide (n ≤ 50)) = false := by simp; omega
    go_enter Try.func17, Try.ntmps17
    go_wp2_with (go_at_call 28; refine (sin_any _ _ _ _).mono ?_; rintro e w ⟨rfl, rfl⟩; rw [d1])
    go_ret2
    exact ⟨_, rfl, hown0, hb0⟩
  · obtain ⟨m, rfl⟩ : ∃ m : Nat, n = m := ⟨n.toNat, by omega⟩
    have e0 : mxL l m = mixV l m := by unfold mxL; rw [if_neg (by omega), Int.toNat_natCast]
    rw [e0, mixV_len]
    have d1 : (decide (0 ≤ (m : Int)) && decide ((m : Int) ≤ 50)) = true := by simp; omega
    go_enter Try.func17, Try.ntmps17
    go_wp2_with (go_at_call 28; refine (sin_any _ _ _ _).mono ?_; rintro e w ⟨rfl, rfl⟩; rw [d1])
    go_loopw [6, 7] (fun v i wr => ∃ (k : Nat) (v0 : Value), v0 = v ∧ k ≤ m ∧ i = .int .i64 k ∧ wr.ownsRow w.heap.size 3 1 v k (intsV (uptoL k)) ∧ Below w.heap.size w wr)
      (fun _ i _ => m - (intOf i).toNat)
    case atStart => exact ⟨0, _, rfl, Nat.zero_le _, rfl, hown0, hb0⟩
    case round =>
      obtain ⟨k, v, rfl, hk, rfl, hown, hnx⟩ := hrel
      clear hown0 hb0
      by_cases hlt : k < m
      · have h2 : (k : Int) < (m : Int) := by omega
        have hns := hnx.size
        go_wp2_with (at_builtin; refine wpList_append_own _ rfl (.tmp 22) (.tmp 24) 29 rfl w.heap.size 3 i0 (.int .i64 0) 1 8 Try.underlying29 hi hz0 hz1 hz2 rfl (by decide) _ _ _ rfl (hown.alloc _) ⟨wr.heap.size, 0, none⟩ 1 1 [.int .i64 k] rfl rfl (cell_one_new _ _ _) (by intro u hu; simp at hu; subst hu; rfl) (by unfold maxLen; omega) (by omega) (by simp; omega) ?_; intro v' w1 hown' hgrow _)
        have R : w1.ownsRow w.heap.size 3 1 v' (k + 1) (intsV (uptoL (k + 1))) ∧ Below w.heap.size w w1 := by
          refine ⟨?_, (hnx.alloc hnx.size _).grown hgrow (by have := hnx.size; simp; omega) (fun g hg => (hown.lt g hg).1)⟩
          rw [uptoL_succ]
          simpa [intsV] using hown'
        clear hown' hgrow hown
        go_wp2
        go_roundw
        case rel => exact ⟨k + 1, _, rfl, by omega, by go_num, R.1, R.2⟩
        case measure => simp [intOf]; omega
      · obtain rfl : m = k := by omega
        have ew : IntKind.i64.wrap ((m : Int) - 1) = (m : Int) - 1 := IntWalk.i64_in _ (by omega)
        have ew2 : wrap64 ((m : Int) - 1) = (m : Int) - 1 := IntWalk.wrap64_in _ (by omega)
        go_wp2
        go_loopw [0, 8] (fun lv i wr => ∃ (k : Nat) (l2 : Int) (xs : List Int), lv = .int .i64 l2 ∧ k ≤ m ∧ i = .int .i64 ((k : Int) - 1) ∧ xs.length = m ∧ mixM (k - 1) l2 xs = mixV l m ∧ wr.ownsRow w.heap.size 3 1 v m (intsV xs) ∧ Below w.heap.size w wr)
          (fun _ i _ => (intOf i).toNat)
        case atStart => exact ⟨m, l, uptoL m, rfl, Nat.le_refl _, rfl, uptoL_len m, rfl, hown, hnx⟩
        case round =>
          obtain ⟨k, l2, xs, rfl, hk, rfl, hxl, hmix, hown, hbr⟩ := hrel
          by_cases hk2 : 2 ≤ k
          · obtain ⟨q, rfl⟩ : ∃ q, k = q + 2 := ⟨k - 2, by omega⟩
            obtain ⟨g, cap, rfl⟩ := ownsRow_shape1 hown (by omega)
            have ei : ((q + 2 : Nat) : Int) - 1 = ((q + 1 : Nat) : Int) := by omega
            rw [ei]
            have z2 : (0 : Int) < ((q + 1 : Nat) : Int) := by omega
            have hmix : mixM q (nxL l2) (swpL xs (q + 1) (blL l2 (q + 2)).toNat) = mixV l m := hmix
            have hbd := blL_bd l2 ((q : Int) + 1 + 1) (by omega)
            rw [show ((q : Int) + 2) = (q : Int) + 1 + 1 by omega] at hmix
            have HD := Lib.hid (sbelow_any l2 ((q : Int) + 1 + 1) wr)
            generalize blL l2 ((q : Int) + 1 + 1) = jj at *
            obtain ⟨j, rfl⟩ : ∃ j : Nat, jj = j := ⟨jj.toNat, by omega⟩
            rw [Int.toNat_natCast] at hmix
            have HM := Lib.hid hmix
            have HG := Lib.hid (ownsRow_ge hown)
            clear hmix
            have y0 : (0 : Int) ≤ (j : Int) := by omega
            have y1 : (j : Int) < (m : Int) := by omega
            have y2 : (0 : Int) ≤ ((q + 1 : Nat) : Int) := by omega
            have y3 : ((q + 1 : Nat) : Int) < (m : Int) := by omega
            have hjn : j < m := by omega
            have hqn : q + 1 < m := by omega
            go_wp2_with fail
            refine HD.out.mono ?_
            rintro e w2 ⟨rfl, hb2⟩
            have hbr2 := hbr.trans (hb2.mono hbr.size)
            have hown2 := own_below hown hb2
            clear HD hb2 hown hbr
            obtain ⟨s1, s2⟩ := own_cell hown2 j (by omega)
            obtain ⟨s3, s4⟩ := own_cell hown2 (q + 1) (by omega)
            rw [List.getD_eq_getElem?_getD, intsV_get xs _ (by omega), Option.getD_some] at s1 s3
            have st := (hown2.stored (q + 1) (.int .i64 (xs[j]?.getD 0))).1.stored j (.int .i64 (xs[q + 1]?.getD 0))
            rw [intsV_set, intsV_set] at st
            have hs2 := (hbr2.setCell (p := ⟨g, q + 1, none⟩) HG.out (.int .i64 (xs[j]?.getD 0))).setCell (p := ⟨g, j, none⟩) HG.out (.int .i64 (xs[q + 1]?.getD 0))
            have R := Lib.hid (And.intro st.1 hs2)
            have hl1 : (swpL xs (q + 1) j).length = m := by rw [swpL_len]; exact hxl
            obtain ⟨v1, hv1⟩ := cell?_setCell_some (w := w2) (p := ⟨g, q + 1, none⟩) (x := .int .i64 (xs[j]?.getD 0)) (q := ⟨g, j, none⟩) (v := .int .i64 (xs[j]?.getD 0)) s1
            have HS := Lib.hid (show (xs.set (q + 1) (xs[j]?.getD 0)).set j (xs[q + 1]?.getD 0) = swpL xs (q + 1) j from rfl)
            clear st hs2 hown2 hbr2
            generalize xs[j]?.getD 0 = x1 at *
            generalize xs[q + 1]?.getD 0 = x2 at *
            go_wp2
            refine ⟨⟨q + 1, nxL l2, swpL xs (q + 1) j, rfl, by omega, by go_num, hl1, HM.out, ?_, R.out.2⟩, by simp [intOf] <;> omega⟩
            rw [← HS.out]
            exact R.out.1
          · go_wp2
            go_ret2
            have hm1 : k - 1 = 0 := by omega
            rw [hm1] at hmix
            unfold mixM at hmix
            rw [← hmix]
            exact ⟨_, rfl, hown, hbr⟩
end Go.Proofs.Ytagabgblcmoblaa
