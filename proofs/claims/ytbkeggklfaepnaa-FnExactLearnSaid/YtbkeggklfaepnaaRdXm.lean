/- Learn's exact law, walked. -/
import Derived.Test.YtbkeggklfaepnaaRdXr
import Derived.Test.YtbkeggklfaepnaaRdLk
import Derived.Test.YtbkeggklfaepnaaRdK
namespace Go.Proofs.Ytbkeggklfaepnaa
open Go.ChangeShapes Go.WideShapes Go.ChangeAt Go.RowKit Go.BigFrame
set_option linter.unusedVariables false

theorem rdAt_marked {w : World} {base : Nat} {v : Value} {n m : Nat} (h : w.ownsRow base 28 3 v n (rdCells (rdMarked n m))) : rdAt w v (rdMarked n m) := rdAt_own (by rw [rdMarked_len]; exact h)
set_option maxRecDepth 100000 in
set_option maxHeartbeats 4000000 in
theorem exlearn_walk (v : Value) (rs : List R3) (r : R3) (w : World) (h : rdAt w v rs) (hn : rs.length ≤ maxLen) (hx : ∀ j, j < rs.length → (rs.getD j r0).2.size ≤ maxLen) (hrx : r.2.size ≤ maxLen) : Calls Try.prog 8 #[v, rv r] w fun e w' => e = .returned (.bool true) ∧ Below w.heap.size w w' := by
  unfold maxLen at hn hx hrx
  have SZR := Lib.hid (fun w (x : Int) (h0 : 0 ≤ x ∧ x ≤ 1000000000) => szreading_any r x w h0 hrx)
  have TK := Lib.hid (fun w => toreading_any r w)
  have SR := Lib.hid (fun w' v' (h' : rdAt w' v' rs) (hl : rs.length ≤ 1900000) => slearn_any v' rs r w' h' hl)
  have IR := Lib.hid (fun w' v' (h' : rdAt w' v' rs) (hl : rs.length ≤ 1900000) (hz : ∀ r ∈ rs, r.2.size ≤ 1048576) => ilearn_any v' rs r w' h' hl (fun q hq => by have := hz q hq; omega))
  have EQ := Lib.hid (fun w' va vb (ha : rdAt w' va rs) (hb : rdAt w' vb rs) (hl : rs.length ≤ 1048576) => eqrds_self va vb rs w' ha hb (by omega))
  have hML := learnV_len rs r
  generalize (learnV rs r).2 = C at *
  generalize (learnV rs r).1 = M at *
  have EM := Lib.hid (fun w' va vb (ha : rdAt w' va M) (hb : rdAt w' vb M) (hl : M.length ≤ 1048577) => eqrds_self va vb M w' ha hb (by omega))
  obtain ⟨⟨n, s⟩, y⟩ := r
  unfold rv at *
  dsimp only at *
  have HX := Lib.hid (heap_alloc_new w (.cells #[.int .i64 n, .int .i64 s, .string y] 42))
  have HW := Lib.hid ((Below.refl w.heap.size w).alloc (Nat.le_refl _) (.cells #[.int .i64 n, .int .i64 s, .string y] 42))
  have SZ := Lib.hid (szreadings_any v rs 1048576 (w.alloc (.cells #[.int .i64 n, .int .i64 s, .string y] 42)) (rdAt_below h HW.out) (by omega) hn hx)
  have TS := Lib.hid (fun w' (hb : Below (w.alloc (.cells #[.int .i64 n, .int .i64 s, .string y] 42)).heap.size (w.alloc (.cells #[.int .i64 n, .int .i64 s, .string y] 42)) w') (hl : rs.length ≤ 1048576) => toreadings_any v rs w' (rdAt_below h (HW.out.trans (hb.mono HW.out.size))) (by omega))
  clear h hx hrx
  go_enter Try.func8, Try.ntmps8
  go_wp2_with fail
  refine SZ.out.mono ?_
  generalize w.alloc (.cells #[.int .i64 n, .int .i64 s, .string y] 42) = W at *
  rintro e w1 ⟨x, rfl, hr, hb1⟩
  have HB1 := Lib.hid hb1
  clear hb1 SZ
  by_cases hneg : x < 0
  · clear hr hML
    go_wp2
    go_ret
    exact ⟨rfl, HW.out.trans (HB1.out.mono HW.out.size)⟩
  · have hl : rs.length ≤ 1048576 := by rcases hr with rfl | ⟨h1, h2, h3⟩ <;> omega
    have hx1 : 0 ≤ x ∧ x ≤ 1000000000 := by rcases hr with rfl | ⟨h1, h2, h3⟩ <;> omega
    have hz : ∀ r ∈ rs, r.2.size ≤ 1048576 := by
      rcases hr with rfl | ⟨h1, h2, h3⟩
      · omega
      · exact rd_sizes (m := 1048576) h3
    have HZ := Lib.hid hz
    have HSZR := Lib.hid (fun w => SZR.out w x hx1)
    clear hr hz SZR
    obtain ⟨x0, x1, x2⟩ := box3 HX.out HB1.out
    go_wp2_with fail
    refine (HSZR.out _).mono ?_
    rintro e w2 ⟨rfl, hb2⟩
    have HB2 := Lib.hid (HB1.out.trans (hb2.mono HB1.out.size))
    clear hb2 x0 x1 x2 HSZR
    by_cases hneg2 : x - (y.size : Int) < 0
    · rw [if_pos hneg2]
      clear hML
      go_wp2
      go_ret
      exact ⟨rfl, HW.out.trans (HB2.out.mono HW.out.size)⟩
    · rw [if_neg hneg2]
      generalize x - (y.size : Int) = x' at *
      obtain ⟨x0, x1, x2⟩ := box3 HX.out HB2.out
      go_wp2_with fail
      go_region_law (first
        | (go_simp
           go_at_call 12
           first
             | (refine (SR.out _ _ (rdAt_own hoa2) (by omega)).mono ?_
                rintro e wLa ⟨v0, rfl, ho0, hbLa⟩
                dsimp only
                have HBLa := Lib.hid (HBRSa.out.trans (hbLa.mono HBRSa.out.size))
                clear hoa2)
             | (refine (SR.out _ _ (rdAt_own hoa) (by omega)).mono ?_
                rintro e wLa ⟨v0, rfl, ho0, hbLa⟩
                dsimp only
                have HBLa := Lib.hid (HBSRa.out.trans (hbLa.mono HBSRa.out.size))
                clear hoa)
           clear hbLa)
        | (go_simp
           go_at_call 26
           first
             | (refine (TS.out _ HBR0a.out hl).mono ?_
                rintro e wSa ⟨ga, rfl, hga, hoa, hbSa⟩
                dsimp only
                have HBSRa := Lib.hid (HBR0a.out.trans (hbSa.mono HBR0a.out.size))
                clear hbSa hga)
             | (refine (TS.out _ HB2.out.drew hl).mono ?_
                rintro e wSa ⟨ga, rfl, hga, hoa, hbSa⟩
                dsimp only
                have HBSa := Lib.hid (HB2.out.drew.trans (hbSa.mono HB2.out.drew.size))
                obtain ⟨ya0, ya1, ya2⟩ := box3 HX.out HBSa.out
                clear hbSa hga))
        | (go_simp
           go_at_call 23
           first
             | (refine (TK.out _).mono ?_
                rintro e wRa ⟨rfl, hbRa⟩
                dsimp only
                have HBRSa := Lib.hid (HBSa.out.trans (hbRa.mono HBSa.out.size))
                have hoa2 := own_below hoa hbRa
                clear hbRa hoa ya0 ya1 ya2)
             | (refine (TK.out _).mono ?_
                rintro e wRa ⟨rfl, hbRa⟩
                dsimp only
                have HBR0a := Lib.hid (HB2.out.drew.trans (hbRa.mono HB2.out.drew.size))
                clear hbRa)))
      all_goals
        clear x0 x1 x2
        have hz0 := fun b (e : v0.ownBlock = some b) => (ho0.lt b e).2
        go_wp2_with fail
        refine (TS.out _ HBLa.out hl).mono ?_
        rintro e w21 ⟨g5, rfl, hg5, ho5, hb21⟩
        have HB21 := Lib.hid (HBLa.out.trans (hb21.mono HBLa.out.size))
        have o0_21 := own_below ho0 hb21
        clear hb21 ho0
        have hg5l := (ho5.lt g5 rfl).2
        have NE1 := Lib.hid (show v0.ownBlock ≠ some g5 from fun e => by have := hz0 g5 e; omega)
        have HG5 := Lib.hid (Nat.le_trans HBLa.out.size hg5)
        obtain ⟨x0, x1, x2⟩ := box3 HX.out HB21.out
        go_wp2_with fail
        refine (TK.out _).mono ?_
        rintro e w22 ⟨rfl, hb22⟩
        have HB22 := Lib.hid (HB21.out.trans (hb22.mono HB21.out.size))
        have o0_22 := own_below o0_21 hb22
        have ox_22 := own_below ho5 hb22
        clear hb22 o0_21 ho5
        clear x0 x1 x2
        have hg6l := (ox_22.lt g5 rfl).2
        go_wp2_with fail
        refine (IR.out _ _ (rdAt_own ox_22) (by omega) HZ.out).mono ?_
        rintro e w23 ⟨vg, rfl, hog, hb23⟩
        have HB23 := Lib.hid (HB22.out.trans (hb23.mono HB22.out.size))
        have o0_23 := own_below o0_22 hb23
        have ox_23 := own_below ox_22 hb23
        clear hb23 o0_22 ox_22
        have hbg := fun b (e : vg.ownBlock = some b) => (hog.lt b e).1
        have hog := own_base hog (base := W.heap.size) HB22.out.size
        have NE2 := Lib.hid (show vg.ownBlock ≠ some g5 from fun e => by have := hbg g5 e; omega)
        have NE4 : Hid (v0.ownBlock = none ∨ v0.ownBlock ≠ vg.ownBlock) := by
          cases hv : v0.ownBlock with
          | none => exact .inl rfl
          | some b => exact .inr (fun e => by have h1 := hz0 b hv; have h2 := hbg b e.symm; omega)
        have HBG := Lib.hid (fun b (e : vg.ownBlock = some b) => Nat.le_trans HB22.out.size (hbg b e))
        clear hz0 hbg hg5 hg5l hg6l
        go_wp2_with fail
        refine (EM.out _ _ _ (rdAt_own hog) (rdAt_own o0_23) (by omega)).mono ?_
        rintro e w24 ⟨rfl, hb24⟩
        have HB24 := Lib.hid (HB23.out.trans (hb24.mono HB23.out.size))
        have o0_24 := own_below o0_23 hb24
        have ox_24 := own_below ox_23 hb24
        have og_24 := own_below hog hb24
        clear hb24 o0_23 ox_23 hog
        go_wp2_with fail
        refine (TS.out _ HB24.out hl).mono ?_
        rintro e w25 ⟨g6, rfl, hg6, ho6, hb25⟩
        have HB25 := Lib.hid (HB24.out.trans (hb25.mono HB24.out.size))
        have o0_25 := own_below o0_24 hb25
        have ox_25 := own_below ox_24 hb25
        have og_25 := own_below og_24 hb25
        clear hb25 o0_24 ox_24 og_24
        go_wp2_with fail
        refine (EQ.out _ _ _ (rdAt_own ox_25) (rdAt_own ho6) hl).mono ?_
        rintro e w26 ⟨rfl, hb26⟩
        have HB26 := Lib.hid (HB25.out.trans (hb26.mono HB25.out.size))
        have o0_26 := own_below o0_25 hb26
        have ox_26 := own_below ox_25 hb26
        have og_26 := own_below og_25 hb26
        clear hb26 ho6 o0_25 ox_25 og_25
        go_wp2_with fail
        refine (markreadings_any _ _ _ _ 1 _ ox_26 (by omega) (by have := (ox_26.lt g5 rfl); omega)).mono ?_
        rintro e w27 ⟨rfl, hox27, hgr27⟩
        have HB27 := Lib.hid (HB26.out.grown hgr27 HB26.out.size (fun k e => by cases e; exact HG5.out))
        have o0_27 := o0_26.kept hgr27 (.inr NE1.out)
        have og_27 := og_26.kept hgr27 (.inr NE2.out)
        clear hgr27 hox27 o0_26 og_26 ox_26
        have n3 : ¬ ((1 + 3 * rs.length : Nat) : Int) < 0 := by omega
        go_wp2_with fail
        refine (EM.out _ _ _ (rdAt_own og_27) (rdAt_own o0_27) (by omega)).mono ?_
        rintro e w28 ⟨rfl, hb28⟩
        have HB28 := Lib.hid (HB27.out.trans (hb28.mono HB27.out.size))
        have o0_28 := own_below o0_27 hb28
        have og_28 := own_below og_27 hb28
        clear hb28 o0_27 og_27
        go_wp2_with fail
        refine (markreadings_any _ _ _ _ 1 _ og_28 (by omega) HB28.out.size).mono ?_
        rintro e w29 ⟨rfl, hog29, hgr29⟩
        have HB29 := Lib.hid (HB28.out.grown hgr29 HB28.out.size HBG.out)
        have o0_29 := o0_28.kept hgr29 NE4.out
        clear hgr29 o0_28 og_28
        have n4 : ¬ ((1 + 3 * M.length : Nat) : Int) < 0 := by omega
        go_wp2_with fail
        refine (heldreadings_any _ _ 1 _ (rdAt_marked hog29) (by omega)).mono ?_
        rintro e w30 ⟨rfl, hb30⟩
        have HB30 := Lib.hid (HB29.out.trans (hb30.mono HB29.out.size))
        have o0_30 := own_below o0_29 hb30
        have og_30 := own_below hog29 hb30
        clear hb30 o0_29 hog29
        obtain ⟨x0, x1, x2⟩ := box3 HX.out HB30.out
        go_wp2_with fail
        go_region_law (first
          | (go_simp
             go_at_call 11
             first
               | (refine (IR.out _ _ (rdAt_own hob2) (by omega) HZ.out).mono ?_
                  rintro e wLb ⟨vh, rfl, hoh, hbLb⟩
                  dsimp only
                  have HBLb := Lib.hid (HBRSb.out.trans (hbLb.mono HBRSb.out.size))
                  have o0L := own_below o0R hbLb
                  have ogL := own_below ogR hbLb
                  clear hob2)
               | (refine (IR.out _ _ (rdAt_own hob) (by omega) HZ.out).mono ?_
                  rintro e wLb ⟨vh, rfl, hoh, hbLb⟩
                  dsimp only
                  have HBLb := Lib.hid (HBSRb.out.trans (hbLb.mono HBSRb.out.size))
                  clear hob)
             clear hbLb)
          | (go_simp
             go_at_call 26
             first
               | (refine (TS.out _ HBR0b.out hl).mono ?_
                  rintro e wSb ⟨gb, rfl, hgb, hob, hbSb⟩
                  dsimp only
                  have HBSRb := Lib.hid (HBR0b.out.trans (hbSb.mono HBR0b.out.size))
                  clear hbSb hgb)
               | (refine (TS.out _ HB30.out.drew hl).mono ?_
                  rintro e wSb ⟨gb, rfl, hgb, hob, hbSb⟩
                  dsimp only
                  have HBSb := Lib.hid (HB30.out.drew.trans (hbSb.mono HB30.out.drew.size))
                  have o0S := own_below o0_30.drew hbSb
                  have ogS := own_below og_30.drew hbSb
                  obtain ⟨yb0, yb1, yb2⟩ := box3 HX.out HBSb.out
                  clear hbSb hgb))
          | (go_simp
             go_at_call 23
             first
               | (refine (TK.out _).mono ?_
                  rintro e wRb ⟨rfl, hbRb⟩
                  dsimp only
                  have HBRSb := Lib.hid (HBSb.out.trans (hbRb.mono HBSb.out.size))
                  have hob2 := own_below hob hbRb
                  have o0R := own_below o0S hbRb
                  have ogR := own_below ogS hbRb
                  clear hbRb hob yb0 yb1 yb2)
               | (refine (TK.out _).mono ?_
                  rintro e wRb ⟨rfl, hbRb⟩
                  dsimp only
                  have HBR0b := Lib.hid (HB30.out.drew.trans (hbRb.mono HB30.out.drew.size))
                  clear hbRb)))
        all_goals
          clear x0 x1 x2
          go_wp2_with fail
          refine (EM.out _ _ _ (rdAt_own hoh) (rdAt_own o0L) (by omega)).mono ?_
          rintro e w61 ⟨rfl, hb61⟩
          have HB61 := Lib.hid (HBLb.out.trans (hb61.mono HBLb.out.size))
          have og_61 := own_below ogL hb61
          clear hb61 hoh o0L ogL
          go_wp2_with fail
          refine (heldreadings_any _ _ 1 _ (rdAt_marked og_61) (by omega)).mono ?_
          rintro e w62 ⟨rfl, hb62⟩
          have HB62 := Lib.hid (HB61.out.trans (hb62.mono HB61.out.size))
          have og_62 := own_below og_61 hb62
          clear hb62 og_61
          go_wp2
          go_ret
          exact ⟨rfl, HW.out.trans (HB62.out.mono HW.out.size)⟩
end Go.Proofs.Ytbkeggklfaepnaa
