/- What the laws lean on (own lemmas and walks of the called functions). -/
import Derived.Test.YtadjmfhhpkjpaaaPw4
set_option linter.unusedVariables false
set_option linter.unusedSimpArgs false
namespace Go.Proofs.Ytadjmfhhpkjpaaa
open Go.ChangeShapes Go.WideShapes Go.ChangeAt Go.RowKit Go.BigFrame Go.Maps
set_option linter.unusedVariables false
set_option linter.unusedSimpArgs false

set_option maxRecDepth 100000 in
set_option maxHeartbeats 8000000 in
theorem ialllearned_any (mo sa lo ba : Int) (K : List R3) (Wd0 : List C2) (vk vw : Value) (us0 : List Value) (base : Nat) (r : R3) (w : World) (h : SnO w base ⟨mo, K, Wd0, sa, lo, ba⟩ vk vw us0) (hp : SnkP ⟨mo, K, Wd0, sa, lo, ba⟩) (hr : rdOkB r = true) (hbase : base ≤ w.heap.size) :
    Calls Try.prog 44 #[snV ⟨mo, K, Wd0, sa, lo, ba⟩ vk vw, rv r] w fun e w' => ∃ vk' vw' us', e = .returned (snV (learnAll ⟨mo, K, Wd0, sa, lo, ba⟩ [r]) vk' vw') ∧ SnO w' base (learnAll ⟨mo, K, Wd0, sa, lo, ba⟩ [r]) vk' vw' us' ∧ KeepX (fun k => vw.ownBlock = some k) w w' := by
  obtain ⟨⟨rp, rq⟩, ry⟩ := r
  have HP := Lib.hid hp
  have HLEN := Lib.hid (show Wd0.length ≤ 12 from by have h1 := hp.room; have h2 := hp.most; dsimp only at h1 h2; omega)
  have HR := Lib.hid hr
  have HOKS := Lib.hid (fun x (hx : x ∈ Wd0) => show codeOkB x = true ∧ 2 ≤ x.1.length from ⟨(hp.wait.ok x hx).1, (hp.wait.ok x hx).2.1⟩)
  have HNOD := Lib.hid (show (Wd0.map (·.1)).Nodup from hp.wait.apart)
  clear hp hr
  unfold rv snV
  dsimp only
  have HSN := Lib.hid h
  obtain ⟨ak, nk, ck, rfl⟩ := own_shape h.known
  obtain rfl := own_lenS h.known
  obtain ⟨aw, nw, cw, rfl⟩ := own_shape h.cd.own
  obtain rfl := own_lenS h.cd.own
  clear h
  dsimp only at *
  have hb0 := (Below.refl w.heap.size w).alloc (Nat.le_refl _) (.cells #[.int .i64 mo, .slice ak K.length ck, .slice aw Wd0.length cw, .int .i64 sa, .int .i64 lo, .int .i64 ba] 27)
  have hb1 := hb0.alloc hb0.size (.cells #[.int .i64 rp, .int .i64 rq, .string ry] 46)
  have hb2 := hb1.alloc hb1.size (.cells #[.int .i64 0, .slice none 0 0, .slice none 0 0, .int .i64 0, .int .i64 0, .int .i64 0] 27)
  have e1 : (w.alloc (.cells #[.int .i64 mo, .slice ak K.length ck, .slice aw Wd0.length cw, .int .i64 sa, .int .i64 lo, .int .i64 ba] 27)).heap.size = w.heap.size + 1 := by simp
  have e2 : ((w.alloc (.cells #[.int .i64 mo, .slice ak K.length ck, .slice aw Wd0.length cw, .int .i64 sa, .int .i64 lo, .int .i64 ba] 27)).alloc (.cells #[.int .i64 rp, .int .i64 rq, .string ry] 46)).heap.size = w.heap.size + 2 := by simp
  have hA := (Below.heap_alloc _ (.cells #[.int .i64 0, .slice none 0 0, .slice none 0 0, .int .i64 0, .int .i64 0, .int .i64 0] 27) w.heap.size (by rw [e2]; omega)).trans (heap_first w (.cells #[.int .i64 rp, .int .i64 rq, .string ry] 46) (.cells #[.int .i64 mo, .slice ak K.length ck, .slice aw Wd0.length cw, .int .i64 sa, .int .i64 lo, .int .i64 ba] 27))
  have hB := heap_first (w.alloc (.cells #[.int .i64 mo, .slice ak K.length ck, .slice aw Wd0.length cw, .int .i64 sa, .int .i64 lo, .int .i64 ba] 27)) (.cells #[.int .i64 0, .slice none 0 0, .slice none 0 0, .int .i64 0, .int .i64 0, .int .i64 0] 27) (.cells #[.int .i64 rp, .int .i64 rq, .string ry] 46)
  have hC := heap_alloc_new ((w.alloc (.cells #[.int .i64 mo, .slice ak K.length ck, .slice aw Wd0.length cw, .int .i64 sa, .int .i64 lo, .int .i64 ba] 27)).alloc (.cells #[.int .i64 rp, .int .i64 rq, .string ry] 46)) (.cells #[.int .i64 0, .slice none 0 0, .slice none 0 0, .int .i64 0, .int .i64 0, .int .i64 0] 27)
  have e3 : (((w.alloc (.cells #[.int .i64 mo, .slice ak K.length ck, .slice aw Wd0.length cw, .int .i64 sa, .int .i64 lo, .int .i64 ba] 27)).alloc (.cells #[.int .i64 rp, .int .i64 rq, .string ry] 46)).alloc (.cells #[.int .i64 0, .slice none 0 0, .slice none 0 0, .int .i64 0, .int .i64 0, .int .i64 0] 27)).heap.size = w.heap.size + 3 := by simp
  rw [e1] at hB
  rw [e2] at hC
  have HB := Lib.hid hb2
  have HX2 := Lib.hid hA; have HX3 := Lib.hid hB; have HX4 := Lib.hid hC
  have HE3 := Lib.hid e3
  clear hb0 hb1 hb2 hA hB hC e1 e2 e3
  go_enter Try.func44, Try.ntmps44
  go_upto_region 1 with (fail)
  generalize ((w.alloc (.cells #[.int .i64 mo, .slice ak K.length ck, .slice aw Wd0.length cw, .int .i64 sa, .int .i64 lo, .int .i64 ba] 27)).alloc (.cells #[.int .i64 rp, .int .i64 rq, .string ry] 46)).alloc (.cells #[.int .i64 0, .slice none 0 0, .slice none 0 0, .int .i64 0, .int .i64 0, .int .i64 0] 27) = W at *
  have HPO := Lib.hid (fun wx (hb : Below W.heap.size W wx) => iplacesof_any (.slice aw Wd0.length cw) Wd0 wx (cdAv_below HSN.out.cd.at (HB.out.trans (hb.mono HB.out.size))) (by have := HLEN.out; omega) (fun x hx => setOk_code (HOKS.out x hx).1))
  obtain ⟨⟨x0, x1, x2, x3, x4, x5⟩, -⟩ := row6_of HX2.out
  have nb : w.heap.size ≠ W.heap.size := by have := HE3.out; omega
  go_cut [5] (fun p wx => ∃ b5 bm : Nat, p = .pointer (some ⟨b5, 0, none⟩) ∧ wx.heap[b5]? = some (.cells #[.slice aw Wd0.length cw, .map (some bm)] 124 (0, 0)) ∧ PlI wx bm (endP Wd0 Wd0.length) (cntP Wd0 Wd0.length) ∧ Below W.heap.size W wx ∧ b5 ≠ bm ∧ W.heap.size ≤ b5 ∧ W.heap.size ≤ bm)
  case first =>
    have LW : ∀ wx : World, Below W.heap.size W wx → (loadVar 25 ⟨w.heap.size, 2, none⟩).run Try.prog wx = .ok (.slice aw Wd0.length cw) wx := fun wx hb => ld_cdsY (row6_of ((hb.block _ (Array.getElem?_eq_some_iff.1 HX2.out).1).trans HX2.out)).1.2.2.1
    have HBC := Lib.hid (Below.refl W.heap.size W).drew
    clear x0 x1 x2 x3 x4 x5
    refine wp_region_G (fun wx => Below W.heap.size W wx) (by kernel_rfl) ?_
    refine wpG_seg [true, true, true, true] [4, 6] 3 (by kernel_rfl) (by intro c a d v w h; cases d <;> exact h) (by kernel_rfl) HBC.out ?_
    try simp only [maskRows]
    repeat (first
      | go_big_quiet_skip
      | (go_big_quiet_want
         first
           | (go_big_quiet_op; go_big_quiet_on)
           | (refine q_load 25 _ _ _ rfl rfl LW ?_; simp only [Act.put, List.setIfInBounds_toArray, List.set_cons_zero, List.set_cons_succ]; go_big_quiet_on)
           | (go_big_quiet_op; refine ⟨_, fun _ _ => rfl, ?_⟩; go_big_quiet_on)
           | (go_big_quiet_op; refine ⟨_, fun _ _ _ => rfl, ?_⟩; go_big_quiet_on)))
    refine wpQuiet_nil ?_
    refine List.forall_mem_cons.2 ⟨?_, List.forall_mem_singleton.2 ?_⟩
    · refine segt_run rfl (by rfl) (fun K hK => ?_)
      go_simp
      refine (HPO.out _ HBC.out).mono ?_
      rintro e wP ⟨rfl, hpl, hbp⟩
      dsimp only
      have HPL := Lib.hid (show PlI wP W.heap.size (endP Wd0 Wd0.length) (cntP Wd0 Wd0.length) from hpl)
      replace HBC := Lib.hid (HBC.out.trans (hbp.mono HBC.out.size))
      clear hpl hbp
      refine hK _ _ ⟨_, fun _ h => h, HBC.out, ?_⟩
      clear hK K
      try simp only [Act.put, List.setIfInBounds_toArray, List.set_cons_zero, List.set_cons_succ]
      refine wpG_seg [] [5, 6] 2 (by kernel_rfl) (by intro c a d v w h; cases d <;> exact h) (by kernel_rfl) HBC.out ?_
      try simp only [maskRows]
      refine wpQuiet_nil ?_
      refine List.forall_mem_cons.2 ⟨?_, List.forall_mem_singleton.2 ?_⟩
      · refine segt_run rfl (by rfl) (fun K hK => ?_)
        go_simp
        skip
        refine hK _ _ ⟨_, fun _ h => h, HBC.out, ?_⟩
        clear hK K
        try simp only [Act.put, List.setIfInBounds_toArray, List.set_cons_zero, List.set_cons_succ]
        refine wpG_seg [] [6] 1 (by kernel_rfl) (by intro c a d v w h; cases d <;> exact h) (by kernel_rfl) HBC.out ?_
        try simp only [maskRows]
        refine wpQuiet_nil ?_
        refine List.forall_mem_singleton.2 ?_
        refine segt_run rfl (by rfl) (fun K hK => ?_)
        go_simp
        have HBP := HBC
        have HROW := Lib.hid (show (wP.alloc (.cells #[.slice none 0 0, .map none] 124)).heap[wP.heap.size]? = some (.cells #[.slice none 0 0, .map none] 124) from heap_alloc_new wP _)
        replace HBC := Lib.hid (HBC.out.alloc HBC.out.size (.cells #[.slice none 0 0, .map none] 124))
        refine hK _ _ ⟨_, fun _ h => h, HBC.out, ?_⟩
        clear hK K
        try simp only [Act.put, List.setIfInBounds_toArray, List.set_cons_zero, List.set_cons_succ]
        refine wpG_seg [] [7] 0 (by kernel_rfl) (by intro c a d v w h; cases d <;> exact h) (by kernel_rfl) HBC.out ?_
        try simp only [maskRows]
        refine wpQuiet_nil ?_
        refine List.forall_mem_singleton.2 ?_
        refine segt_run rfl (by rfl) (fun K hK => ?_)
        go_simp
        have HROW2 := Lib.hid (heap_alloc_new wP (.cells #[.slice aw Wd0.length cw, .map (some W.heap.size)] 124))
        have HPL2 := Lib.hid (HPL.out.below ((Below.refl wP.heap.size wP).alloc (Nat.le_refl _) (.cells #[.slice aw Wd0.length cw, .map (some W.heap.size)] 124)))
        replace HBC := Lib.hid (HBP.out.alloc HBP.out.size (.cells #[.slice aw Wd0.length cw, .map (some W.heap.size)] 124))
        clear HROW
        refine hK _ _ ⟨_, fun _ h => h, HBC.out, ?_⟩
        clear hK K
        try simp only [Act.put, List.setIfInBounds_toArray, List.set_cons_zero, List.set_cons_succ]
        refine wpG_end [] (by kernel_rfl) (by intro c a d v w h; cases d <;> exact h) (by kernel_rfl) HBC.out ?_
        try simp only [maskRows]
        refine wpQuiet_nil ?_
        go_wp2
        go_meet
        exact ⟨wP.heap.size, W.heap.size, rfl, HROW2.out, HPL2.out, HBC.out, by have := HPL.out.lt; omega, HBP.out.size, Nat.le_refl _⟩
      · refine segt_run rfl (by rfl) (fun K hK => ?_)
        go_simp
        have HBP := HBC
        have HROW := Lib.hid (show (wP.alloc (.cells #[.slice none 0 0, .map none] 124)).heap[wP.heap.size]? = some (.cells #[.slice none 0 0, .map none] 124) from heap_alloc_new wP _)
        replace HBC := Lib.hid (HBC.out.alloc HBC.out.size (.cells #[.slice none 0 0, .map none] 124))
        refine hK _ _ ⟨_, fun _ h => h, HBC.out, ?_⟩
        clear hK K
        try simp only [Act.put, List.setIfInBounds_toArray, List.set_cons_zero, List.set_cons_succ]
        refine wpG_seg [] [5] 1 (by kernel_rfl) (by intro c a d v w h; cases d <;> exact h) (by kernel_rfl) HBC.out ?_
        try simp only [maskRows]
        refine wpQuiet_nil ?_
        refine List.forall_mem_singleton.2 ?_
        refine segt_run rfl (by rfl) (fun K hK => ?_)
        go_simp
        skip
        refine hK _ _ ⟨_, fun _ h => h, HBC.out, ?_⟩
        clear hK K
        try simp only [Act.put, List.setIfInBounds_toArray, List.set_cons_zero, List.set_cons_succ]
        refine wpG_seg [] [7] 0 (by kernel_rfl) (by intro c a d v w h; cases d <;> exact h) (by kernel_rfl) HBC.out ?_
        try simp only [maskRows]
        refine wpQuiet_nil ?_
        refine List.forall_mem_singleton.2 ?_
        refine segt_run rfl (by rfl) (fun K hK => ?_)
        go_simp
        have HROW2 := Lib.hid (heap_alloc_new wP (.cells #[.slice aw Wd0.length cw, .map (some W.heap.size)] 124))
        have HPL2 := Lib.hid (HPL.out.below ((Below.refl wP.heap.size wP).alloc (Nat.le_refl _) (.cells #[.slice aw Wd0.length cw, .map (some W.heap.size)] 124)))
        replace HBC := Lib.hid (HBP.out.alloc HBP.out.size (.cells #[.slice aw Wd0.length cw, .map (some W.heap.size)] 124))
        clear HROW
        refine hK _ _ ⟨_, fun _ h => h, HBC.out, ?_⟩
        clear hK K
        try simp only [Act.put, List.setIfInBounds_toArray, List.set_cons_zero, List.set_cons_succ]
        refine wpG_end [] (by kernel_rfl) (by intro c a d v w h; cases d <;> exact h) (by kernel_rfl) HBC.out ?_
        try simp only [maskRows]
        refine wpQuiet_nil ?_
        go_wp2
        go_meet
        exact ⟨wP.heap.size, W.heap.size, rfl, HROW2.out, HPL2.out, HBC.out, by have := HPL.out.lt; omega, HBP.out.size, Nat.le_refl _⟩
    · refine segt_run rfl (by rfl) (fun K hK => ?_)
      go_simp
      have HROW := Lib.hid (show (W.drew.alloc (.cells #[.slice none 0 0, .map none] 124)).heap[W.heap.size]? = some (.cells #[.slice none 0 0, .map none] 124) from heap_alloc_new W.drew _)
      replace HBC := Lib.hid (HBC.out.alloc HBC.out.size (.cells #[.slice none 0 0, .map none] 124))
      refine hK _ _ ⟨_, fun _ h => h, HBC.out, ?_⟩
      clear hK K
      try simp only [Act.put, List.setIfInBounds_toArray, List.set_cons_zero, List.set_cons_succ]
      refine wpG_seg [] [4] 2 (by kernel_rfl) (by intro c a d v w h; cases d <;> exact h) (by kernel_rfl) HBC.out ?_
      try simp only [maskRows]
      refine wpQuiet_nil ?_
      refine List.forall_mem_singleton.2 ?_
      refine segt_run rfl (by rfl) (fun K hK => ?_)
      go_simp
      refine (HPO.out _ HBC.out).mono ?_
      rintro e wP ⟨rfl, hpl, hbp⟩
      dsimp only
      have HPL := Lib.hid (show PlI wP (W.heap.size + 1) (endP Wd0 Wd0.length) (cntP Wd0 Wd0.length) from by have e9 : (W.drew.alloc (.cells #[.slice none 0 0, .map none] 124)).heap.size = W.heap.size + 1 := Array.size_push _; rw [e9] at hpl; exact hpl)
      replace HROW := Lib.hid ((hbp.block _ (Array.getElem?_eq_some_iff.1 HROW.out).1).trans HROW.out)
      replace HBC := Lib.hid (HBC.out.trans (hbp.mono HBC.out.size))
      clear hpl hbp
      refine hK _ _ ⟨_, fun _ h => h, HBC.out, ?_⟩
      clear hK K
      try simp only [Act.put, List.setIfInBounds_toArray, List.set_cons_zero, List.set_cons_succ]
      refine wpG_seg [] [5] 1 (by kernel_rfl) (by intro c a d v w h; cases d <;> exact h) (by kernel_rfl) HBC.out ?_
      try simp only [maskRows]
      refine wpQuiet_nil ?_
      refine List.forall_mem_singleton.2 ?_
      refine segt_run rfl (by rfl) (fun K hK => ?_)
      go_simp
      obtain ⟨y0, y1, yf0, yf1⟩ := row2_of HROW.out
      refine hK _ _ ⟨_, fun _ h => h, HBC.out, ?_⟩
      clear hK K
      try simp only [Act.put, List.setIfInBounds_toArray, List.set_cons_zero, List.set_cons_succ]
      refine wpG_seg [] [7] 0 (by kernel_rfl) (by intro c a d v w h; cases d <;> exact h) (by kernel_rfl) HBC.out ?_
      try simp only [maskRows]
      refine wpQuiet_nil ?_
      refine List.forall_mem_singleton.2 ?_
      refine segt_run rfl (by rfl) (fun K hK => ?_)
      go_simp
      have HROW2 := Lib.hid (set2 (.slice aw Wd0.length cw) (.map (some (W.heap.size + 1))) HROW.out)
      replace HPL := Lib.hid (HPL.out.kept (grown2 wP W.heap.size (.slice aw Wd0.length cw) (.map (some (W.heap.size + 1)))) (by simp))
      replace HBC := Lib.hid (below2 HBC.out (Nat.le_refl _) (.slice aw Wd0.length cw) (.map (some (W.heap.size + 1))))
      clear y0 y1 yf0 yf1 HROW
      refine hK _ _ ⟨_, fun _ h => h, HBC.out, ?_⟩
      clear hK K
      try simp only [Act.put, List.setIfInBounds_toArray, List.set_cons_zero, List.set_cons_succ]
      refine wpG_end [] (by kernel_rfl) (by intro c a d v w h; cases d <;> exact h) (by kernel_rfl) HBC.out ?_
      try simp only [maskRows]
      refine wpQuiet_nil ?_
      go_wp2
      go_meet
      exact ⟨W.heap.size, W.heap.size + 1, rfl, HROW2.out, HPL.out, HBC.out, by omega, Nat.le_refl _, by omega⟩
  case rest =>
    obtain ⟨b5, bm, rfl, hx5, hpl, hbc, hne5, hn5, hnm⟩ := hcut
    have e6 : (wc.alloc (.cells #[.slice none 0 0] 126)).heap.size = wc.heap.size + 1 := Array.size_push _
    have hb6 := (Below.refl wc.heap.size wc).alloc (Nat.le_refl _) (.cells #[.slice none 0 0] 126)
    have hbw := hbc.trans (hb6.mono hbc.size)
    have H2 := Lib.hid ((hbw.block _ (Array.getElem?_eq_some_iff.1 HX2.out).1).trans HX2.out)
    have H3 := Lib.hid ((hbw.block _ (Array.getElem?_eq_some_iff.1 HX3.out).1).trans HX3.out)
    have H4 := Lib.hid ((hbw.block _ (Array.getElem?_eq_some_iff.1 HX4.out).1).trans HX4.out)
    have H5 := Lib.hid ((hb6.block _ (Array.getElem?_eq_some_iff.1 hx5).1).trans hx5)
    have H6 := Lib.hid (heap_alloc_new wc (.cells #[.slice none 0 0] 126))
    have HPL := Lib.hid (hpl.below hb6)
    have HBW := Lib.hid hbw
    have HN := Lib.hid (show W.heap.size ≤ wc.heap.size ∧ b5 < wc.heap.size ∧ bm < wc.heap.size ∧ W.heap.size ≤ b5 ∧ W.heap.size ≤ bm ∧ b5 ≠ bm from ⟨hbc.size, (Array.getElem?_eq_some_iff.1 hx5).1, hpl.lt, hn5, hnm, hne5⟩)
    have HE6 := Lib.hid e6
    clear hx5 hpl hbc hne5 hn5 hnm hb6 hbw e6 x0 x1 x2 x3 x4 x5
    clear HX2 HX3 HX4 HPO
    go_upto_region 3 with (fail)
    generalize wc.alloc (.cells #[.slice none 0 0] 126) = W6 at *
    have hc3 := row3_of H3.out
    have HP1 := Lib.hid (iqput_any base wc.heap.size (.slice none 0 0) [] ((rp, rq), ry) W6 H6.out (QRd.nil W6 base) (by simp [Value.ownBlock]) (Nat.zero_le _) (by have h1 := HE6.out; have h2 := HN.out.1; have h3 := HE3.out; omega))
    obtain ⟨c0, c1, c2, cf0, cf1, cf2⟩ := hc3
    have LR := rd_row_load H3.out
    go_upto_region 4 with (go_at_call 97
                           refine HP1.out.mono ?_
                           rintro e w7 ⟨rfl, vq7, hr7, hq7, hk7, hl7⟩
                           dsimp only
                           have HR7 := Lib.hid hr7
                           have HQ7 := Lib.hid hq7
                           have HK7 := Lib.hid hk7
                           have HL7 := Lib.hid hl7
                           clear hr7 hq7 hk7 hl7 c0 c1 c2 cf0 cf1 cf2 LR)
    have HA := Lib.hid (AlI.begin (M := Wd0.length) HSN.out (HB.out.trans (HBW.out.mono HB.out.size)) H2.out H4.out H5.out HPL.out (cnt_le _ _) (by have h1 := HE3.out; have h2 := HN.out; have h3 := HE6.out; omega) HR7.out HQ7.out HK7.out HL7.out)
    clear H2 H3 H4 H5 H6 HPL HK7 HL7 HBW HQ7 HP1
    have HNX := Lib.hid (iqnext_cons base wc.heap.size vq7 ((rp, rq), ry) [] w7 HA.out.g.row HA.out.g.que (fun e => (HA.out.g.sq _ e).2 rfl) (Nat.zero_le _))
    go_upto_region 5 with (go_at_call 98
                           refine HNX.out.mono ?_
                           rintro e w8 ⟨rfl, vq8, hr8, hq8, ho8, hk8⟩
                           dsimp only [rv]
                           have HA8 := Lib.hid (HA.out.next hr8 hq8 ho8 hk8)
                           clear hr8 hq8 ho8 hk8 HA HNX HR7)
    have hb9 := (Below.refl w8.heap.size w8).alloc (Nat.le_refl _) (.cells #[.int .i64 rp, .int .i64 rq, .string ry] 46)
    have HR9 := Lib.hid (show AlR w (wc.heap.size + 1) base w.heap.size (w.heap.size + 2) b5 wc.heap.size bm Wd0.length (.slice aw Wd0.length cw) mo sa lo Wd0.length (learnAll ⟨mo, K, Wd0, sa, lo, ba⟩ [((rp, rq), ry)]) (w8.alloc (.cells #[.int .i64 rp, .int .i64 rq, .string ry] 46)) w8.heap.size true K ba us0 Wd0 (endP Wd0 Wd0.length) (cntP Wd0 Wd0.length) vq8 [] (.slice ak K.length ck) ((rp, rq), ry) from
      ⟨HA8.out.below hb9, by rw [hi_all HNOD.out]; exact HP.out, rfl, fun ks i e => last_some e, HOKS.out, fun _ => HR.out, fun x hx => by simp at hx, Nat.zero_le _, heap_alloc_new w8 _, HA8.out.n1le, fun e => absurd (HA8.out.g.que.lt _ e).2 (by omega), by rw [hi_all HNOD.out, if_pos rfl]⟩)
    clear hb9 HA8 HP HOKS HR HNOD HSN
    generalize w8.alloc (.cells #[.int .i64 rp, .int .i64 rq, .string ry] 46) = W9 at *
    go_loopw [7, 8] (fun p c wr => ∃ (b7 : Nat) (c8 : Bool) (K' : List R3) (B : Int) (us : List Value) (Wd : List C2) (P : Pl) (m : Nat) (vq : Value) (q : List R3) (vk : Value) (r : R3) (wz : World), wz = wr ∧ p = .pointer (some ⟨b7, 0, none⟩) ∧ c = .bool c8 ∧
      AlR w (wc.heap.size + 1) base w.heap.size (w.heap.size + 2) b5 wc.heap.size bm Wd0.length (.slice aw Wd0.length cw) mo sa lo Wd0.length (learnAll ⟨mo, K, Wd0, sa, lo, ba⟩ [((rp, rq), ry)]) wz b7 c8 K' B us Wd P m vq q vk r) (fun _ c wr => (1980 - lenAt wr w.heap.size 1) * 20 + lenAt wr wc.heap.size 0 + moreN c)
    case atStart => exact ⟨w8.heap.size, true, K, ba, us0, Wd0, _, _, vq8, [], _, _, _, rfl, rfl, rfl, HR9.out⟩
    case round =>
      obtain ⟨b7, c8, K', B, us, Wd, P, m, vq, q, vk, r, wr, hwr, rfl, rfl, hR⟩ := hrel
      subst hwr
      have HR := Lib.hid hR
      clear hR HR9
      cases c8 with
      | false =>
        have HG := Lib.hid (show learnAll ⟨mo, K, Wd0, sa, lo, ba⟩ [((rp, rq), ry)] = ⟨mo, K', hiL Wd P 0, sa, lo, B⟩ from HR.out.all)
        obtain ⟨y0, y1, -, -⟩ := row2_of HR.out.al.wt
        have HLF := Lib.hid (ileft_any base (.slice aw Wd0.length cw) us Wd bm m P wr HR.out.al.g.words HR.out.al.g.map (fun x hx => setOk_code (HR.out.ok x hx).1) (by have := HR.out.len; have := HLEN.out; omega) (Nat.le_trans hbase HR.out.al.keepw.size))
        obtain ⟨⟨x0, x1, x2, x3, x4, x5⟩, xf⟩ := row6_of HR.out.al.sink
        go_upto_region 16 with (fail)
        clear x0 x1 x2 x3 x4 x5 xf
        go_upto_region 17 with (go_at_call 101
                                refine HLF.out.mono ?_
                                rintro e w6 ⟨v6, us6, rfl, hcd6, hv6, hu6, hb6⟩
                                dsimp only
                                obtain ⟨a6, n6, c6, rfl⟩ := own_shape hcd6.own
                                have HCD6 := Lib.hid hcd6; have HV6 := Lib.hid hv6; have HU6 := Lib.hid hu6; have HB6 := Lib.hid hb6
                                have HS6 := Lib.hid ((hb6.block _ (Array.getElem?_eq_some_iff.1 HR.out.al.sink).1).trans HR.out.al.sink)
                                obtain ⟨⟨x0, x1, x2, x3, x4, x5⟩, xf0, xf1, xf2, xf3, xf4, xf5⟩ := row6_of HS6.out
                                clear hcd6 hv6 hu6 hb6 y0 y1)
        have HE := Lib.hid (show w.heap.size < w.heap.size + 2 from by omega)
        have HS7 := Lib.hid (show (w6.setCell ⟨w.heap.size, 2, none⟩ (.slice a6 n6 c6)).heap[w.heap.size]? = some (.cells #[.int .i64 mo, vk, .slice a6 n6 c6, .int .i64 sa, .int .i64 lo, .int .i64 B] 27 (0, 0)) from set_cellsR _ HS6.out)
        have HT7 := Lib.hid ((Below.heap_setCell w6 ⟨w.heap.size, 2, none⟩ (.slice a6 n6 c6) (w.heap.size + 2) (by show _ ≠ w.heap.size; omega)).trans ((HB6.out.block _ (Array.getElem?_eq_some_iff.1 HR.out.al.res).1).trans HR.out.al.res))
        have HK7 := Lib.hid ((KeepX.refl (fun k => k = w.heap.size ∨ k = w.heap.size + 2) w6).set w.heap.size 2 (.slice a6 n6 c6) (.inl rfl))
        generalize w6.setCell ⟨w.heap.size, 2, none⟩ (.slice a6 n6 c6) = w7 at *
        clear x0 x1 x2 x3 x4 x5 xf0 xf1 xf2 xf3 xf4 xf5 HS6
        obtain ⟨ak', nk', ck', rfl⟩ := own_shape HR.out.al.known
        have HF := Lib.hid (HR.out.al.finish HB6.out HCD6.out HV6.out HU6.out (HK7.out.trans (show KeepX (fun k => k = w.heap.size ∨ k = w.heap.size + 2) w7 (w7.setRow (w.heap.size + 2) #[.int .i64 mo, .slice ak' nk' ck', .slice a6 n6 c6, .int .i64 sa, .int .i64 lo, .int .i64 B]) from ⟨rfl, rfl, rfl, Nat.le_of_eq (size_setRow _ _ _).symm, fun k hk hn => setRow_other _ _ _ _ (fun e => hn (.inr e))⟩)))
        have LT := Lib.hid (sn_load (setRow_heap w7 (w.heap.size + 2) _ #[.int .i64 mo, .slice ak' nk' ck', .slice a6 n6 c6, .int .i64 sa, .int .i64 lo, .int .i64 B] 27 (0, 0) HT7.out))
        apply wp_region_lit
        refine wpList_load_row rfl 27 (.tmp 2) rfl w.heap.size rfl 27 #[.int .i64 mo, .slice ak' nk' ck', .slice a6 n6 c6, .int .i64 sa, .int .i64 lo, .int .i64 B] (0, 0) _ HS7.out Try.underlying27 rfl (by kernel_rfl) ?_
        refine wpList_store_rowTo rfl 27 (.tmp 4) (.tmp 57) rfl rfl (w.heap.size + 2) #[.int .i64 mo, .slice ak' nk' ck', .slice a6 n6 c6, .int .i64 sa, .int .i64 lo, .int .i64 B] rfl rfl 27 #[.int .i64 0, .slice none 0 0, .slice none 0 0, .int .i64 0, .int .i64 0, .int .i64 0] HT7.out (by kernel_rfl) rfl (by simp [Value.oneCell']) ?_
        generalize w7.setRow (w.heap.size + 2) #[.int .i64 mo, .slice ak' nk' ck', .slice a6 n6 c6, .int .i64 sa, .int .i64 lo, .int .i64 B] = w9 at *
        go_wp2
        refine bodyPost_ret (v := .agg #[.int .i64 mo, .slice ak' nk' ck', .slice a6 n6 c6, .int .i64 sa, .int .i64 lo, .int .i64 B]) ?_ rfl ?_
        · rw [results_cell (p := 4) (ty := 27) (by kernel_rfl)]
          have l2 := LT.out
          simp [asAddr, Result.andThen, l2, Act.put]
        · rw [HG.out]
          exact ⟨_, _, us6, rfl, HF.out.1, HF.out.2⟩
      | true =>
        have HG := Lib.hid (show learnAll ⟨mo, K, Wd0, sa, lo, ba⟩ [((rp, rq), ry)] = learnAll ⟨mo, K', hiL Wd P 0, sa, lo, B⟩ (r :: q) from HR.out.all)
        obtain ⟨⟨p1, q1⟩, y1⟩ := r
        have HLN := Lib.hid (ilearn_any vk K' ((p1, q1), y1) wr (rdAt_own HR.out.al.known) (by have := rds_few (show rdsOkR K' = true from HR.out.snk.known); omega) (fun x hx => by have := (rdOk_key ((rds_parts (show rdsOkR K' = true from HR.out.snk.known)).1 x hx)).2; omega))
        obtain ⟨⟨x0, x1, x2, x3, x4, x5⟩, xf0, xf1, xf2, xf3, xf4, xf5⟩ := row6_of HR.out.al.sink
        obtain ⟨z0, z1, z2, -, -, -⟩ := row3_of HR.out.box
        have LB := rd_row_load HR.out.box
        go_upto_region 8 with (go_at_call 99
                               refine HLN.out.mono ?_
                               rintro e w6 ⟨v6, rfl, ho6, hb6⟩
                               dsimp only
                               have HO6 := Lib.hid ho6; have HB6 := Lib.hid hb6
                               have HS6 := Lib.hid ((hb6.block _ (Array.getElem?_eq_some_iff.1 HR.out.al.sink).1).trans HR.out.al.sink)
                               clear ho6 hb6 x0 x1 x2 x3 x4 x5 xf0 xf1 xf2 xf3 xf4 xf5 z0 z1 z2 LB)
        obtain ⟨a6, n6, c6, rfl⟩ := own_shape HO6.out
        obtain ⟨⟨x0, x1, x2, x3, x4, x5⟩, xf0, xf1, xf2, xf3, xf4, xf5⟩ := row6_of HS6.out
        go_upto_region 9 with (fail)
        clear x0 x1 x2 x3 x4 x5 xf0 xf1 xf2 xf3 xf4 xf5
        have HS7 := Lib.hid (show (w6.setCell ⟨w.heap.size, 1, none⟩ (.slice a6 n6 c6)).heap[w.heap.size]? = some (.cells #[.int .i64 mo, .slice a6 n6 c6, .slice aw Wd0.length cw, .int .i64 sa, .int .i64 lo, .int .i64 B] 27 (0, 0)) from set_cellsR _ HS6.out)
        have HX7 := Lib.hid ((Below.heap_setCell w6 ⟨w.heap.size, 1, none⟩ (.slice a6 n6 c6) b7 (by show b7 ≠ w.heap.size; have h1 := HR.out.far; have h2 := HR.out.al.boxes.1.2; omega)).trans ((HB6.out.block _ (Array.getElem?_eq_some_iff.1 HR.out.box).1).trans HR.out.box))
        have HA7 := Lib.hid ((HR.out.al.below HB6.out).learned (K' := (learnV K' ((p1, q1), y1)).1) (vk' := .slice a6 n6 c6) (Lib.grownBy_setCell w6 w.heap.size 1 (.slice a6 n6 c6)) HS7.out (own_base HO6.out (Nat.le_trans hbase HR.out.al.keepw.size)) (fun g e => by have h1 := (HO6.out.lt g e).1; have h2 := HR.out.al.n1le; omega) (fun g e => ⟨fun e2 => by have h1 := (HO6.out.lt g e).1; have h2 := HR.out.al.zw g e2; have h3 := HR.out.al.keepw.size; omega, fun e2 => by have h1 := (HO6.out.lt g e).1; have h2 := (HR.out.al.g.que.lt g e2).2; omega⟩) (fun g e i hi e2 => by have h1 := (HO6.out.lt g e).1; have h2 := ((HR.out.al.g.words.keys i hi).lt g e2).2; omega))
        generalize w6.setCell ⟨w.heap.size, 1, none⟩ (.slice a6 n6 c6) = w7 at *
        have HRD := Lib.hid (HR.out.rd rfl)
        have HKN := Lib.hid (show rdsOkR K' = true from HR.out.snk.known)
        have HLENN := Lib.hid (show Wd0.length ≤ 12 from HLEN.out)
        cases hl : loadO K' (p1, q1) with
        | some l =>
          by_cases he : l = y1
          · have HM := Lib.hid (HR.out.same hl he HA7.out)
            rw [show (learnV K' ((p1, q1), y1)).2 = 1 from by rw [learnV_same HKN.out HRD.out hl he]]
            have HXT := HX7
            obtain ⟨z0, z1, z2, -, -, -⟩ := row3_of HXT.out
            have LBT := rd_row_load HXT.out
            go_upto_region 6 with (fail)
            clear z0 z1 z2 LBT
            have HBT := Lib.hid ((Below.refl w7.heap.size w7).alloc (Nat.le_refl _) (.cells #[.int .i64 p1, .int .i64 q1, .string y1] 46))
            have HRT := Lib.hid (HM.out.al.below HBT.out)
            have HNT := Lib.hid (heap_alloc_new w7 (.cells #[.int .i64 p1, .int .i64 q1, .string y1] 46))
            have HMS := Lib.hid (rds_few (show rdsOkR _ = true from HM.out.snk.known))
            have HGE := Lib.hid (show wc.heap.size < w7.heap.size by have := HM.out.al.n1le; omega)
            rcases q with _ | ⟨⟨⟨xp, xq⟩, xy⟩, t⟩
            · have HNX := Lib.hid (iqnext_nil base wc.heap.size vq _ HRT.out.g.row HRT.out.g.que)
              go_wp2_with (
                go_at_call 98
                refine HNX.out.mono ?_
                rintro e w10 ⟨rfl, hb10⟩
                dsimp only
                have HB10 := Lib.hid hb10
                have HN10 := Lib.hid ((hb10.block _ (Array.getElem?_eq_some_iff.1 HNT.out).1).trans HNT.out)
                obtain ⟨z0, z1, z2, zf0, zf1, zf2⟩ := row3_of HN10.out
                clear hb10)
              have HF := Lib.hid (HM.out.done (r0 := ((0, 0), ⟨#[]⟩)) HB10.out (grown3 w10 w7.heap.size (.int .i64 0) (.int .i64 0) (.string ⟨#[]⟩)) (set3 (.int .i64 0) (.int .i64 0) (.string ⟨#[]⟩) HN10.out))
              exact ⟨⟨_, false, _, _, _, _, _, _, _, [], _, _, _, rfl, rfl, rfl, HF.out⟩, HR.out.less HF.out (by left; refine ⟨by rw [learnV_same HKN.out HRD.out hl he], by simp [cN]⟩)⟩
            · have HNX := Lib.hid (iqnext_cons base wc.heap.size vq ((xp, xq), xy) t _ HRT.out.g.row HRT.out.g.que (fun e => (HRT.out.g.sq _ e).2 rfl) (by have h1 := HM.out.ql; have h2 := HMS.out; dsimp only at h2; simp at h1; omega))
              go_wp2_with (
                go_at_call 98
                refine HNX.out.mono ?_
                rintro e w10 ⟨rfl, vq10, hr10, hq10, ho10, hk10⟩
                dsimp only [rv]
                have HN10 := Lib.hid (hk10.row HNT.out (by have := HGE.out; omega))
                have HA10 := Lib.hid (And.intro hr10 (And.intro hq10 (And.intro ho10 hk10)))
                obtain ⟨z0, z1, z2, zf0, zf1, zf2⟩ := row3_of HN10.out
                clear hr10 hq10 ho10 hk10)
              have HF := Lib.hid (HM.out.more HA10.out.1 HA10.out.2.1 HA10.out.2.2.1 HA10.out.2.2.2 (grown3 w10 w7.heap.size (.int .i64 xp) (.int .i64 xq) (.string xy)) (set3 (.int .i64 xp) (.int .i64 xq) (.string xy) HN10.out))
              exact ⟨⟨_, true, _, _, _, _, _, _, _, t, _, _, _, rfl, rfl, rfl, HF.out⟩, HR.out.less HF.out (by left; refine ⟨by rw [learnV_same HKN.out HRD.out hl he], by simp [cN]⟩)⟩
          · rw [show (learnV K' ((p1, q1), y1)).2 = 2 from by rw [learnV_other HKN.out HRD.out hl he]]
            obtain ⟨⟨x0, x1, x2, x3, x4, x5⟩, xf0, xf1, xf2, xf3, xf4, xf5⟩ := row6_of HS7.out
            have HCT := Lib.hid (icounted_any B 1 w7 HR.out.snk.bad (by omega))
            go_upto_region 14 with (
              go_at_call 95
              refine HCT.out.mono ?_
              rintro e w11 ⟨rfl, rfl⟩
              dsimp only)
            have HA8 := Lib.hid (HA7.out.store (Lib.grownBy_setCell w11 w.heap.size 5 (.int .i64 (bump 1 B))) (set_cellsR (.int .i64 (bump 1 B)) HS7.out))
            have HXT := Lib.hid ((Below.heap_setCell w11 ⟨w.heap.size, 5, none⟩ (.int .i64 (bump 1 B)) b7 (by show b7 ≠ w.heap.size; have h1 := HR.out.far; have h2 := HR.out.al.boxes.1.2; omega)).trans HX7.out)
            clear x0 x1 x2 x3 x4 x5 xf0 xf1 xf2 xf3 xf4 xf5 HCT
            generalize w11.setCell ⟨w.heap.size, 5, none⟩ (.int .i64 (bump 1 B)) = w12 at *
            have HM := Lib.hid (HR.out.other hl he HA8.out)
            obtain ⟨z0, z1, z2, -, -, -⟩ := row3_of HXT.out
            have LBT := rd_row_load HXT.out
            go_upto_region 6 with (fail)
            clear z0 z1 z2 LBT
            have HBT := Lib.hid ((Below.refl w12.heap.size w12).alloc (Nat.le_refl _) (.cells #[.int .i64 p1, .int .i64 q1, .string y1] 46))
            have HRT := Lib.hid (HM.out.al.below HBT.out)
            have HNT := Lib.hid (heap_alloc_new w12 (.cells #[.int .i64 p1, .int .i64 q1, .string y1] 46))
            have HMS := Lib.hid (rds_few (show rdsOkR _ = true from HM.out.snk.known))
            have HGE := Lib.hid (show wc.heap.size < w12.heap.size by have := HM.out.al.n1le; omega)
            rcases q with _ | ⟨⟨⟨xp, xq⟩, xy⟩, t⟩
            · have HNX := Lib.hid (iqnext_nil base wc.heap.size vq _ HRT.out.g.row HRT.out.g.que)
              go_wp2_with (
                go_at_call 98
                refine HNX.out.mono ?_
                rintro e w10 ⟨rfl, hb10⟩
                dsimp only
                have HB10 := Lib.hid hb10
                have HN10 := Lib.hid ((hb10.block _ (Array.getElem?_eq_some_iff.1 HNT.out).1).trans HNT.out)
                obtain ⟨z0, z1, z2, zf0, zf1, zf2⟩ := row3_of HN10.out
                clear hb10)
              have HF := Lib.hid (HM.out.done (r0 := ((0, 0), ⟨#[]⟩)) HB10.out (grown3 w10 w12.heap.size (.int .i64 0) (.int .i64 0) (.string ⟨#[]⟩)) (set3 (.int .i64 0) (.int .i64 0) (.string ⟨#[]⟩) HN10.out))
              exact ⟨⟨_, false, _, _, _, _, _, _, _, [], _, _, _, rfl, rfl, rfl, HF.out⟩, HR.out.less HF.out (by left; refine ⟨by rw [learnV_other HKN.out HRD.out hl he], by simp [cN]⟩)⟩
            · have HNX := Lib.hid (iqnext_cons base wc.heap.size vq ((xp, xq), xy) t _ HRT.out.g.row HRT.out.g.que (fun e => (HRT.out.g.sq _ e).2 rfl) (by have h1 := HM.out.ql; have h2 := HMS.out; dsimp only at h2; simp at h1; omega))
              go_wp2_with (
                go_at_call 98
                refine HNX.out.mono ?_
                rintro e w10 ⟨rfl, vq10, hr10, hq10, ho10, hk10⟩
                dsimp only [rv]
                have HN10 := Lib.hid (hk10.row HNT.out (by have := HGE.out; omega))
                have HA10 := Lib.hid (And.intro hr10 (And.intro hq10 (And.intro ho10 hk10)))
                obtain ⟨z0, z1, z2, zf0, zf1, zf2⟩ := row3_of HN10.out
                clear hr10 hq10 ho10 hk10)
              have HF := Lib.hid (HM.out.more HA10.out.1 HA10.out.2.1 HA10.out.2.2.1 HA10.out.2.2.2 (grown3 w10 w12.heap.size (.int .i64 xp) (.int .i64 xq) (.string xy)) (set3 (.int .i64 xp) (.int .i64 xq) (.string xy) HN10.out))
              exact ⟨⟨_, true, _, _, _, _, _, _, _, t, _, _, _, rfl, rfl, rfl, HF.out⟩, HR.out.less HF.out (by left; refine ⟨by rw [learnV_other HKN.out HRD.out hl he], by simp [cN]⟩)⟩
        | none =>
          rw [show (learnV K' ((p1, q1), y1)).2 = 0 from by rw [learnV_new HKN.out HRD.out hl]]
          have LS : ∀ wx : World, (wx.heap[w.heap.size]? = some (.cells #[.int .i64 mo, .slice a6 n6 c6, .slice aw Wd0.length cw, .int .i64 sa, .int .i64 lo, .int .i64 B] 27 (0, 0)) ∧ wx.heap[b5]? = some (.cells #[.slice aw Wd0.length cw, .map (some bm)] 124 (0, 0)) ∧ wx.heap[b7]? = some (.cells #[.int .i64 p1, .int .i64 q1, .string y1] 46 (0, 0))) → (loadVar 3 ⟨w.heap.size, 5, none⟩).run Try.prog wx = .ok (.int .i64 B) wx := fun wx h => ld_int9 ((row6_of h.1).1.2.2.2.2.2)
          have LW : ∀ wx : World, (wx.heap[w.heap.size]? = some (.cells #[.int .i64 mo, .slice a6 n6 c6, .slice aw Wd0.length cw, .int .i64 sa, .int .i64 lo, .int .i64 B] 27 (0, 0)) ∧ wx.heap[b5]? = some (.cells #[.slice aw Wd0.length cw, .map (some bm)] 124 (0, 0)) ∧ wx.heap[b7]? = some (.cells #[.int .i64 p1, .int .i64 q1, .string y1] 46 (0, 0))) → (loadVar 124 ⟨b5, 0, none⟩).run Try.prog wx = .ok (.agg #[.slice aw Wd0.length cw, .map (some bm)]) wx := fun wx h => run_loadVar_row (P := Try.prog) _ b5 124 124 _ (0, 0) _ h.2.1 Try.underlying124 rfl (by kernel_rfl)
          have LB : ∀ wx : World, (wx.heap[w.heap.size]? = some (.cells #[.int .i64 mo, .slice a6 n6 c6, .slice aw Wd0.length cw, .int .i64 sa, .int .i64 lo, .int .i64 B] 27 (0, 0)) ∧ wx.heap[b5]? = some (.cells #[.slice aw Wd0.length cw, .map (some bm)] 124 (0, 0)) ∧ wx.heap[b7]? = some (.cells #[.int .i64 p1, .int .i64 q1, .string y1] 46 (0, 0))) → (loadVar 46 ⟨b7, 0, none⟩).run Try.prog wx = .ok (.agg #[.int .i64 p1, .int .i64 q1, .string y1]) wx := fun wx h => rd_row_load h.2.2
          go_upto_region 11 with (fail)
          refine wp_region_H (fun wx => wx.heap[w.heap.size]? = some (.cells #[.int .i64 mo, .slice a6 n6 c6, .slice aw Wd0.length cw, .int .i64 sa, .int .i64 lo, .int .i64 B] 27 (0, 0)) ∧ wx.heap[b5]? = some (.cells #[.slice aw Wd0.length cw, .map (some bm)] 124 (0, 0)) ∧ wx.heap[b7]? = some (.cells #[.int .i64 p1, .int .i64 q1, .string y1] 46 (0, 0))) (by kernel_rfl) ?_
          have HBD := Lib.hid ((Below.refl w7.heap.size w7).drew)
          have HAD := Lib.hid (HA7.out.below HBD.out)
          have HS := Lib.hid (show (World.drew w7).heap[w.heap.size]? = some (.cells #[.int .i64 mo, .slice a6 n6 c6, .slice aw Wd0.length cw, .int .i64 sa, .int .i64 lo, .int .i64 B] 27 (0, 0)) ∧ (World.drew w7).heap[b5]? = some (.cells #[.slice aw Wd0.length cw, .map (some bm)] 124 (0, 0)) ∧ (World.drew w7).heap[b7]? = some (.cells #[.int .i64 p1, .int .i64 q1, .string y1] 46 (0, 0)) from ⟨HAD.out.sink, HAD.out.wt, (HBD.out.block _ (Array.getElem?_eq_some_iff.1 HX7.out).1).trans HX7.out⟩)
          generalize World.drew w7 = wD at *
          refine wpH_seg [true, true, true, true] [4] 3 (by kernel_rfl) (by intro c a d v w h; cases d <;> exact h) (by kernel_rfl) HS.out ?_
          try simp only [maskRows]
          repeat (first
            | go_big_quiet_skip
            | (go_big_quiet_want
               first
                 | (go_big_quiet_op; go_big_quiet_on)
                 | (refine q_load 3 _ _ _ rfl rfl LS ?_; simp only [Act.put, List.setIfInBounds_toArray, List.set_cons_zero, List.set_cons_succ]; go_big_quiet_on)
                 | (refine q_load 124 _ _ _ rfl rfl LW ?_; simp only [Act.put, List.setIfInBounds_toArray, List.set_cons_zero, List.set_cons_succ]; go_big_quiet_on)
                 | (refine q_load 46 _ _ _ rfl rfl LB ?_; simp only [Act.put, List.setIfInBounds_toArray, List.set_cons_zero, List.set_cons_succ]; go_big_quiet_on)
                 | (go_big_quiet_op; refine ⟨_, fun _ _ => rfl, ?_⟩; go_big_quiet_on)
                 | (go_big_quiet_op; refine ⟨_, fun _ _ _ => rfl, ?_⟩; go_big_quiet_on)
                 | (go_big_quiet_op; refine ⟨_, fun _ _ _ _ => rfl, ?_⟩; go_big_quiet_on)))
          refine wpQuiet_nil ?_
          refine List.forall_mem_singleton.2 ?_
          refine segh_run rfl (by rfl) (fun K hK => ?_)
          go_simp
          refine (igo_any base wc.heap.size bm Wd0.length m (.slice aw Wd0.length cw) vq us Wd P q ((p1, q1), y1) wD HAD.out.g HR.out.here HR.out.ok HRD.out (by have := HLEN.out; omega) (by have := HLEN.out; have := HR.out.len; omega) (by have h1 := HR.out.ql; have h2 := rds_few HKN.out; omega) (Nat.le_trans hbase HAD.out.keepw.size)).mono ?_
          rintro e w9 ⟨n, us', Wd', P', m', vq', q', rfl, hn, hg, hl', hh', hk', hq', hown', hf'⟩
          dsimp only
          have HAG := Lib.hid (HAD.out.gone hg (fun i hi g e => (hown' i hi g e).imp_left (fun h => ⟨i, by omega, h⟩)))
          replace HS := Lib.hid (show w9.heap[w.heap.size]? = some (.cells #[.int .i64 mo, .slice a6 n6 c6, .slice aw Wd0.length cw, .int .i64 sa, .int .i64 lo, .int .i64 B] 27 (0, 0)) ∧ w9.heap[b5]? = some (.cells #[.slice aw Wd0.length cw, .map (some bm)] 124 (0, 0)) ∧ w9.heap[b7]? = some (.cells #[.int .i64 p1, .int .i64 q1, .string y1] 46 (0, 0)) from ⟨HAG.out.sink, HAG.out.wt, hg.keep.row HS.out.2.2 (fun e => by have h1 := HR.out.far; have h2 := HAD.out.boxes; have h3 := HR.out.nq; rcases e with e | e | e | e; (have h4 := HAD.out.zw _ e; omega); omega; omega; exact h3 e)⟩)
          have HGO := Lib.hid (And.intro hn (And.intro hl' (And.intro hh' (And.intro hk' (And.intro hq' hf')))))
          clear hn hg hl' hh' hk' hq' hown' hf' HAD
          refine hK _ _ (.inr ⟨_, fun _ h => h, HS.out, ?_⟩)
          clear hK K
          try simp only [Act.put, List.getElem_toArray, List.getElem_cons_succ, List.getElem_cons_zero, List.setIfInBounds_toArray, List.set_cons_zero, List.set_cons_succ]
          refine wpH_seg [] [5] 2 (by kernel_rfl) (by intro c a d v w h; cases d <;> exact h) (by kernel_rfl) HS.out ?_
          try simp only [maskRows]
          refine wpQuiet_nil ?_
          refine List.forall_mem_singleton.2 ?_
          refine segh_run rfl (by rfl) (fun K hK => ?_)
          go_simp
          refine (icounted_any B n w9 HR.out.snk.bad (by have h1 := HGO.out.1; have h2 := HLEN.out; have h3 := HR.out.len; omega)).mono ?_
          rintro e w11 ⟨rfl, rfl⟩
          dsimp only
          refine hK _ _ (.inr ⟨_, fun _ h => h, HS.out, ?_⟩)
          clear hK K
          try simp only [Act.put, List.getElem_toArray, List.getElem_cons_succ, List.getElem_cons_zero, List.setIfInBounds_toArray, List.set_cons_zero, List.set_cons_succ]
          refine wpH_seg [false, false, false, false, false, false, true] [7] 0 (by kernel_rfl) (by intro c a d v w h; cases d <;> exact h) (by kernel_rfl) HS.out ?_
          try simp only [maskRows]
          repeat (first
            | go_big_quiet_skip
            | (go_big_quiet_want
               first
                 | (go_big_quiet_op; go_big_quiet_on)
                 | (refine q_load 3 _ _ _ rfl rfl LS ?_; simp only [Act.put, List.setIfInBounds_toArray, List.set_cons_zero, List.set_cons_succ]; go_big_quiet_on)
                 | (refine q_load 124 _ _ _ rfl rfl LW ?_; simp only [Act.put, List.setIfInBounds_toArray, List.set_cons_zero, List.set_cons_succ]; go_big_quiet_on)
                 | (refine q_load 46 _ _ _ rfl rfl LB ?_; simp only [Act.put, List.setIfInBounds_toArray, List.set_cons_zero, List.set_cons_succ]; go_big_quiet_on)
                 | (go_big_quiet_op; refine ⟨_, fun _ _ => rfl, ?_⟩; go_big_quiet_on)
                 | (go_big_quiet_op; refine ⟨_, fun _ _ _ => rfl, ?_⟩; go_big_quiet_on)
                 | (go_big_quiet_op; refine ⟨_, fun _ _ _ _ => rfl, ?_⟩; go_big_quiet_on)))
          refine wpQuiet_nil ?_
          refine List.forall_mem_singleton.2 ?_
          obtain ⟨⟨x0, x1, x2, x3, x4, x5⟩, xf0, xf1, xf2, xf3, xf4, xf5⟩ := row6_of HS.out.1
          refine segh_run rfl (by rfl) (fun K hK => ?_)
          go_simp
          have HA8 := Lib.hid (HAG.out.store (Lib.grownBy_setCell w11 w.heap.size 5 (.int .i64 (bump n B))) (set_cellsR (.int .i64 (bump n B)) HS.out.1))
          have HXT := Lib.hid ((Below.heap_setCell w11 ⟨w.heap.size, 5, none⟩ (.int .i64 (bump n B)) b7 (by show b7 ≠ w.heap.size; have h1 := HR.out.far; have h2 := HR.out.al.boxes.1.2; omega)).trans HS.out.2.2)
          clear x0 x1 x2 x3 x4 x5 xf0 xf1 xf2 xf3 xf4 xf5 HAG HS
          generalize w11.setCell ⟨w.heap.size, 5, none⟩ (.int .i64 (bump n B)) = w12 at *
          refine hK _ _ (.inl ⟨⟨lastP_of (by kernel_rfl), by kernel_rfl⟩, ?_⟩)
          clear hK K
          try simp only [Act.put, List.getElem_toArray, List.getElem_cons_succ, List.getElem_cons_zero, List.setIfInBounds_toArray, List.set_cons_zero, List.set_cons_succ]
          have HM := Lib.hid (HR.out.new HLENN.out hl HA8.out HGO.out.2.1 HGO.out.2.2.1 HGO.out.2.2.2.1 HGO.out.2.2.2.2.1 HGO.out.2.2.2.2.2)
          try simp only [OnlyNormal]
          obtain ⟨z0, z1, z2, -, -, -⟩ := row3_of HXT.out
          have LBT := rd_row_load HXT.out
          go_upto_region 6 with (fail)
          clear z0 z1 z2 LBT
          have HBT := Lib.hid ((Below.refl w12.heap.size w12).alloc (Nat.le_refl _) (.cells #[.int .i64 p1, .int .i64 q1, .string y1] 46))
          have HRT := Lib.hid (HM.out.al.below HBT.out)
          have HNT := Lib.hid (heap_alloc_new w12 (.cells #[.int .i64 p1, .int .i64 q1, .string y1] 46))
          have HMS := Lib.hid (rds_few (show rdsOkR _ = true from HM.out.snk.known))
          have HGE := Lib.hid (show wc.heap.size < w12.heap.size by have := HM.out.al.n1le; omega)
          rcases q' with _ | ⟨⟨⟨xp, xq⟩, xy⟩, t⟩
          · have HNX := Lib.hid (iqnext_nil base wc.heap.size vq' _ HRT.out.g.row HRT.out.g.que)
            go_wp2_with (
              go_at_call 98
              refine HNX.out.mono ?_
              rintro e w10 ⟨rfl, hb10⟩
              dsimp only
              have HB10 := Lib.hid hb10
              have HN10 := Lib.hid ((hb10.block _ (Array.getElem?_eq_some_iff.1 HNT.out).1).trans HNT.out)
              obtain ⟨z0, z1, z2, zf0, zf1, zf2⟩ := row3_of HN10.out
              clear hb10)
            have HF := Lib.hid (HM.out.done (r0 := ((0, 0), ⟨#[]⟩)) HB10.out (grown3 w10 w12.heap.size (.int .i64 0) (.int .i64 0) (.string ⟨#[]⟩)) (set3 (.int .i64 0) (.int .i64 0) (.string ⟨#[]⟩) HN10.out))
            exact ⟨⟨_, false, _, _, _, _, _, _, _, [], _, _, _, rfl, rfl, rfl, HF.out⟩, HR.out.less HF.out (by right; refine ⟨by rw [learnV_new HKN.out HRD.out hl]; exact learn_len _ _, by simp [cN]⟩)⟩
          · have HNX := Lib.hid (iqnext_cons base wc.heap.size vq' ((xp, xq), xy) t _ HRT.out.g.row HRT.out.g.que (fun e => (HRT.out.g.sq _ e).2 rfl) (by have h1 := HM.out.ql; have h2 := HMS.out; dsimp only at h2; simp at h1; omega))
            go_wp2_with (
              go_at_call 98
              refine HNX.out.mono ?_
              rintro e w10 ⟨rfl, vq10, hr10, hq10, ho10, hk10⟩
              dsimp only [rv]
              have HN10 := Lib.hid (hk10.row HNT.out (by have := HGE.out; omega))
              have HA10 := Lib.hid (And.intro hr10 (And.intro hq10 (And.intro ho10 hk10)))
              obtain ⟨z0, z1, z2, zf0, zf1, zf2⟩ := row3_of HN10.out
              clear hr10 hq10 ho10 hk10)
            have HF := Lib.hid (HM.out.more HA10.out.1 HA10.out.2.1 HA10.out.2.2.1 HA10.out.2.2.2 (grown3 w10 w12.heap.size (.int .i64 xp) (.int .i64 xq) (.string xy)) (set3 (.int .i64 xp) (.int .i64 xq) (.string xy) HN10.out))
            exact ⟨⟨_, true, _, _, _, _, _, _, _, t, _, _, _, rfl, rfl, rfl, HF.out⟩, HR.out.less HF.out (by right; refine ⟨by rw [learnV_new HKN.out HRD.out hl]; exact learn_len _ _, ?_⟩; have h1 := HGO.out.2.2.2.2.1; have h2 := HLENN.out; have h3 := HR.out.len; simp [cN] at h1 ⊢; omega)⟩
end Go.Proofs.Ytadjmfhhpkjpaaa
namespace Go.Proofs.Ytadjmfhhpkjpaaa
open Go
set_option linter.unusedVariables false

def b8 (n : Int) : UInt8 := UInt8.ofNat n.toNat
end Go.Proofs.Ytadjmfhhpkjpaaa
namespace Go.Proofs.Ytadjmfhhpkjpaaa
open Go.ChangeShapes Go.WideShapes Go.ChangeAt Go.RowKit Go.BigFrame
set_option linter.unusedVariables false

theorem results_cell_tmp {fn : Func} {p u : Tmp} {ty : TypeId} (h : fn.results = #[.cell p ty, .tmp u]) (tmps : Array Value) (P : Program) (w : World) :
    (results fn tmps).run P w = ((asAddr (tmps.getD p undef)).run P w).andThen fun a w₁ => ((loadVar ty a).run P w₁).andThen fun v w₂ => .ok (.tuple #[v, tmps.getD u undef]) w₂ := by
  simp only [results, h]
  simp [Sem.run_bind]
end Go.Proofs.Ytadjmfhhpkjpaaa
namespace Go.Proofs.Ytadjmfhhpkjpaaa
open Go.ChangeShapes Go.WideShapes Go.ChangeAt Go.RowKit Go.BigFrame Go.Maps
set_option linter.unusedVariables false
set_option linter.unusedSimpArgs false

theorem below_setRow {n b : Nat} {w w' : World} (h : Below n w w') (h0 : n ≤ w.heap.size) (hb : n ≤ b) (vs : Array Value) : Below n w (w'.setRow b vs) :=
  h.grown (grown_setRow w' b vs) (Nat.le_trans h0 h.size) (fun g e => by cases e; exact hb)
set_option maxRecDepth 100000 in
set_option maxHeartbeats 4000000 in
theorem icompared_any (mo sa lo ba : Int) (ak aw : Option Addr) (nk ck nw cw : Nat) (same : Bool) (w : World) (hs : cntOk sa = true) (hb : cntOk ba = true) :
    Calls Try.prog 41 #[.agg #[.int .i64 mo, .slice ak nk ck, .slice aw nw cw, .int .i64 sa, .int .i64 lo, .int .i64 ba], .bool same] w fun e w' =>
      e = .returned (.tuple #[.agg #[.int .i64 mo, .slice ak nk ck, .slice aw nw cw, .int .i64 (if same then bump 1 sa else sa), .int .i64 lo, .int .i64 (if same then ba else bump 1 ba)], .int .i64 (if same then 2 else 3)]) ∧ Below w.heap.size w w' := by
  have hb0 := (Below.refl w.heap.size w).alloc (Nat.le_refl _) (.cells #[.int .i64 mo, .slice ak nk ck, .slice aw nw cw, .int .i64 sa, .int .i64 lo, .int .i64 ba] 27)
  have hb1 := hb0.alloc hb0.size (.cells #[.int .i64 0, .slice none 0 0, .slice none 0 0, .int .i64 0, .int .i64 0, .int .i64 0] 27)
  have hx := heap_alloc_new (w.alloc (.cells #[.int .i64 mo, .slice ak nk ck, .slice aw nw cw, .int .i64 sa, .int .i64 lo, .int .i64 ba] 27)) (.cells #[.int .i64 0, .slice none 0 0, .slice none 0 0, .int .i64 0, .int .i64 0, .int .i64 0] 27)
  rw [show (w.alloc (.cells #[.int .i64 mo, .slice ak nk ck, .slice aw nw cw, .int .i64 sa, .int .i64 lo, .int .i64 ba] 27)).heap.size = w.heap.size + 1 by simp] at hx
  have HX := Lib.hid hx
  have HR := Lib.hid (heap_first w (.cells #[.int .i64 0, .slice none 0 0, .slice none 0 0, .int .i64 0, .int .i64 0, .int .i64 0] 27) (.cells #[.int .i64 mo, .slice ak nk ck, .slice aw nw cw, .int .i64 sa, .int .i64 lo, .int .i64 ba] 27))
  have HB := Lib.hid hb1
  have HS := Lib.hid hs
  have HBA := Lib.hid hb
  clear hb0 hb1 hx hs hb
  cases same with
  | true =>
    go_enter Try.func41, Try.ntmps41
    go_upto_region 2 with (fail)
    generalize (w.alloc (.cells #[.int .i64 mo, .slice ak nk ck, .slice aw nw cw, .int .i64 sa, .int .i64 lo, .int .i64 ba] 27)).alloc (.cells #[.int .i64 0, .slice none 0 0, .slice none 0 0, .int .i64 0, .int .i64 0, .int .i64 0] 27) = W at *
    obtain ⟨⟨x0, x1, x2, x3, x4, x5⟩, f0, f1, f2, f3, f4, f5⟩ := row6_of HR.out
    have HCT := Lib.hid (icounted_any sa 1 W HS.out (by omega))
    go_upto_region 3 with (
      go_at_call 95
      refine HCT.out.mono ?_
      rintro e w11 ⟨rfl, rfl⟩
      dsimp only)
    have HS7 := Lib.hid (show (w11.setCell ⟨w.heap.size, 3, none⟩ (.int .i64 (bump 1 sa))).heap[w.heap.size]? = some (.cells #[.int .i64 mo, .slice ak nk ck, .slice aw nw cw, .int .i64 (bump 1 sa), .int .i64 lo, .int .i64 ba] 27 (0, 0)) from set_cellsR _ HR.out)
    have HT7 := Lib.hid ((Below.heap_setCell w11 ⟨w.heap.size, 3, none⟩ (.int .i64 (bump 1 sa)) (w.heap.size + 1) (by show _ ≠ w.heap.size; omega)).trans HX.out)
    have HB7 := Lib.hid (HB.out.setCell (p := ⟨w.heap.size, 3, none⟩) (Nat.le_refl _) (.int .i64 (bump 1 sa)))
    generalize w11.setCell ⟨w.heap.size, 3, none⟩ (.int .i64 (bump 1 sa)) = w7 at *
    clear x0 x1 x2 x3 x4 x5 f0 f1 f2 f3 f4 f5 HR HX HB HCT
    have HBF := Lib.hid (below_setRow HB7.out (b := w.heap.size + 1) (Nat.le_refl _) (by omega) #[.int .i64 mo, .slice ak nk ck, .slice aw nw cw, .int .i64 (bump 1 sa), .int .i64 lo, .int .i64 ba])
    have LT := Lib.hid (sn_load (setRow_heap w7 (w.heap.size + 1) _ #[.int .i64 mo, .slice ak nk ck, .slice aw nw cw, .int .i64 (bump 1 sa), .int .i64 lo, .int .i64 ba] 27 (0, 0) HT7.out))
    apply wp_region_lit
    refine wpList_load_row rfl 27 (.tmp 2) rfl w.heap.size rfl 27 #[.int .i64 mo, .slice ak nk ck, .slice aw nw cw, .int .i64 (bump 1 sa), .int .i64 lo, .int .i64 ba] (0, 0) _ HS7.out Try.underlying27 rfl (by kernel_rfl) ?_
    refine wpList_store_rowTo rfl 27 (.tmp 4) (.tmp 11) rfl rfl (w.heap.size + 1) #[.int .i64 mo, .slice ak nk ck, .slice aw nw cw, .int .i64 (bump 1 sa), .int .i64 lo, .int .i64 ba] rfl rfl 27 #[.int .i64 0, .slice none 0 0, .slice none 0 0, .int .i64 0, .int .i64 0, .int .i64 0] HT7.out (by kernel_rfl) rfl (by simp [Value.oneCell']) ?_
    generalize w7.setRow (w.heap.size + 1) #[.int .i64 mo, .slice ak nk ck, .slice aw nw cw, .int .i64 (bump 1 sa), .int .i64 lo, .int .i64 ba] = w9 at *
    go_wp2
    refine bodyPost_ret (v := .tuple #[.agg #[.int .i64 mo, .slice ak nk ck, .slice aw nw cw, .int .i64 (bump 1 sa), .int .i64 lo, .int .i64 ba], .int .i64 2]) ?_ rfl ⟨rfl, HBF.out⟩
    rw [results_cell_tmp (p := 4) (u := 5) (ty := 27) (by kernel_rfl)]
    have l2 := LT.out
    simp [asAddr, Result.andThen, l2, Act.put]
  | false =>
    go_enter Try.func41, Try.ntmps41
    go_upto_region 4 with (fail)
    generalize (w.alloc (.cells #[.int .i64 mo, .slice ak nk ck, .slice aw nw cw, .int .i64 sa, .int .i64 lo, .int .i64 ba] 27)).alloc (.cells #[.int .i64 0, .slice none 0 0, .slice none 0 0, .int .i64 0, .int .i64 0, .int .i64 0] 27) = W at *
    obtain ⟨⟨x0, x1, x2, x3, x4, x5⟩, f0, f1, f2, f3, f4, f5⟩ := row6_of HR.out
    have HCT := Lib.hid (icounted_any ba 1 W HBA.out (by omega))
    go_upto_region 5 with (
      go_at_call 95
      refine HCT.out.mono ?_
      rintro e w11 ⟨rfl, rfl⟩
      dsimp only)
    have HS7 := Lib.hid (show (w11.setCell ⟨w.heap.size, 5, none⟩ (.int .i64 (bump 1 ba))).heap[w.heap.size]? = some (.cells #[.int .i64 mo, .slice ak nk ck, .slice aw nw cw, .int .i64 sa, .int .i64 lo, .int .i64 (bump 1 ba)] 27 (0, 0)) from set_cellsR _ HR.out)
    have HT7 := Lib.hid ((Below.heap_setCell w11 ⟨w.heap.size, 5, none⟩ (.int .i64 (bump 1 ba)) (w.heap.size + 1) (by show _ ≠ w.heap.size; omega)).trans HX.out)
    have HB7 := Lib.hid (HB.out.setCell (p := ⟨w.heap.size, 5, none⟩) (Nat.le_refl _) (.int .i64 (bump 1 ba)))
    generalize w11.setCell ⟨w.heap.size, 5, none⟩ (.int .i64 (bump 1 ba)) = w7 at *
    clear x0 x1 x2 x3 x4 x5 f0 f1 f2 f3 f4 f5 HR HX HB HCT
    have HBF := Lib.hid (below_setRow HB7.out (b := w.heap.size + 1) (Nat.le_refl _) (by omega) #[.int .i64 mo, .slice ak nk ck, .slice aw nw cw, .int .i64 sa, .int .i64 lo, .int .i64 (bump 1 ba)])
    have LT := Lib.hid (sn_load (setRow_heap w7 (w.heap.size + 1) _ #[.int .i64 mo, .slice ak nk ck, .slice aw nw cw, .int .i64 sa, .int .i64 lo, .int .i64 (bump 1 ba)] 27 (0, 0) HT7.out))
    apply wp_region_lit
    refine wpList_load_row rfl 27 (.tmp 2) rfl w.heap.size rfl 27 #[.int .i64 mo, .slice ak nk ck, .slice aw nw cw, .int .i64 sa, .int .i64 lo, .int .i64 (bump 1 ba)] (0, 0) _ HS7.out Try.underlying27 rfl (by kernel_rfl) ?_
    refine wpList_store_rowTo rfl 27 (.tmp 4) (.tmp 16) rfl rfl (w.heap.size + 1) #[.int .i64 mo, .slice ak nk ck, .slice aw nw cw, .int .i64 sa, .int .i64 lo, .int .i64 (bump 1 ba)] rfl rfl 27 #[.int .i64 0, .slice none 0 0, .slice none 0 0, .int .i64 0, .int .i64 0, .int .i64 0] HT7.out (by kernel_rfl) rfl (by simp [Value.oneCell']) ?_
    generalize w7.setRow (w.heap.size + 1) #[.int .i64 mo, .slice ak nk ck, .slice aw nw cw, .int .i64 sa, .int .i64 lo, .int .i64 (bump 1 ba)] = w9 at *
    go_wp2
    refine bodyPost_ret (v := .tuple #[.agg #[.int .i64 mo, .slice ak nk ck, .slice aw nw cw, .int .i64 sa, .int .i64 lo, .int .i64 (bump 1 ba)], .int .i64 3]) ?_ rfl ⟨rfl, HBF.out⟩
    rw [results_cell_tmp (p := 4) (u := 5) (ty := 27) (by kernel_rfl)]
    have l2 := LT.out
    simp [asAddr, Result.andThen, l2, Act.put]
end Go.Proofs.Ytadjmfhhpkjpaaa
namespace Go.Proofs.Ytadjmfhhpkjpaaa
open Go.ChangeShapes Go.WideShapes Go.ChangeAt Go.RowKit Go.BigFrame Go.Maps
set_option linter.unusedVariables false
set_option linter.unusedSimpArgs false

theorem cds_take_snoc (L : List C2) (k : Nat) (h : k < L.length) : L.take (k + 1) = L.take k ++ [L.getD k blankC] := by
  rw [List.take_succ_eq_append_getElem h]
  simp [List.getD, h]
/-- the loop of copied words -/
structure CpI (w W : World) (n0 k : Nat) (Wd : List C2) (v : Value) (us : List Value) : Prop where
  below : Below n0 w W
  cd : CdD W n0 v us (Wd.take k)
set_option maxRecDepth 100000 in
set_option maxHeartbeats 4000000 in
theorem icopysink_any (s : Snk) (vk vw : Value) (w : World) (hk : rdAt w vk s.known) (hw : cdAv w none vw s.wait) (hsk : s.known.length ≤ 1000000) (hsw : s.wait.length ≤ 1000000) (hxk : ∀ r ∈ s.known, r.2.size ≤ 2000000) (hxw : ∀ x ∈ s.wait, x.1.length ≤ 1000000 ∧ x.2.size ≤ 2000000) :
    Calls Try.prog 38 #[snV s vk vw] w fun e w' => ∃ vk' vw' us', e = .returned (snV s vk' vw') ∧ SnO w' w.heap.size s vk' vw' us' ∧ Below w.heap.size w w' := by
  obtain ⟨mo, K, Wd, sa, lo, ba⟩ := s
  unfold snV
  dsimp only at *
  have HCK := Lib.hid (fun wx (hb : Below w.heap.size w wx) => icopyrds_any vk K wx (rdAt_below hk hb) (by omega) hxk)
  have HCW := Lib.hid (fun wx u (x : C2) (hx : x ∈ Wd) (hu : keysAt wx u x.1) => icopy_any u x.1 x.2 wx hu (by have := (hxw x hx).1; omega) (hxw x hx).2)
  have HLW := Lib.hid hsw
  obtain ⟨i0, hi, hz0, hz1, hz2⟩ := info_parts infoC
  obtain ⟨ak, ck, rfl, -, -⟩ := hk
  obtain ⟨aw, cw, rfl, hcap, hcells⟩ := hw
  have hb0 := (Below.refl w.heap.size w).alloc (Nat.le_refl _) (.cells #[.int .i64 mo, .slice ak K.length ck, .slice aw Wd.length cw, .int .i64 sa, .int .i64 lo, .int .i64 ba] 27)
  have hb1 := hb0.alloc hb0.size (.cells #[.int .i64 0, .slice none 0 0, .slice none 0 0, .int .i64 0, .int .i64 0, .int .i64 0] 27)
  have hx := heap_alloc_new (w.alloc (.cells #[.int .i64 mo, .slice ak K.length ck, .slice aw Wd.length cw, .int .i64 sa, .int .i64 lo, .int .i64 ba] 27)) (.cells #[.int .i64 0, .slice none 0 0, .slice none 0 0, .int .i64 0, .int .i64 0, .int .i64 0] 27)
  rw [show (w.alloc (.cells #[.int .i64 mo, .slice ak K.length ck, .slice aw Wd.length cw, .int .i64 sa, .int .i64 lo, .int .i64 ba] 27)).heap.size = w.heap.size + 1 by simp] at hx
  have HX := Lib.hid hx
  have HR := Lib.hid (heap_first w (.cells #[.int .i64 0, .slice none 0 0, .slice none 0 0, .int .i64 0, .int .i64 0, .int .i64 0] 27) (.cells #[.int .i64 mo, .slice ak K.length ck, .slice aw Wd.length cw, .int .i64 sa, .int .i64 lo, .int .i64 ba] 27))
  have HB := Lib.hid hb1
  have HSZ := Lib.hid (show ((w.alloc (.cells #[.int .i64 mo, .slice ak K.length ck, .slice aw Wd.length cw, .int .i64 sa, .int .i64 lo, .int .i64 ba] 27)).alloc (.cells #[.int .i64 0, .slice none 0 0, .slice none 0 0, .int .i64 0, .int .i64 0, .int .i64 0] 27)).heap.size = w.heap.size + 2 by simp)
  clear hb0 hb1 hx hxk hxw hsk
  go_enter Try.func38, Try.ntmps38
  go_upto_region 1 with (fail)
  generalize (w.alloc (.cells #[.int .i64 mo, .slice ak K.length ck, .slice aw Wd.length cw, .int .i64 sa, .int .i64 lo, .int .i64 ba] 27)).alloc (.cells #[.int .i64 0, .slice none 0 0, .slice none 0 0, .int .i64 0, .int .i64 0, .int .i64 0] 27) = W at *
  obtain ⟨⟨x0, x1, x2, x3, x4, x5⟩, -⟩ := row6_of HR.out
  obtain ⟨W0, hmk, hown0, hgr0⟩ := run_make_own (P := Try.prog) W W.heap.size 25 30 i0 (.agg #[.slice none 0 0, .string ⟨#[]⟩]) 2 Try.underlying25 hi hz0 hz1 .i64 .i64 Wd.length (by rw [hz2]; omega) (by unfold maxLen; omega) (Nat.le_refl _)
  have hb9 : Below W.heap.size W W0 := (Below.refl W.heap.size W).grown hgr0 (Nat.le_refl _) (fun k e => by cases e)
  have HI := Lib.hid (show CpI W W0 W.heap.size 0 Wd (.slice (some ⟨W.heap.size, 0, none⟩) 0 Wd.length) [] from ⟨hb9, rfl, hown0, fun i hi => by simp at hi, fun i hi => by simp at hi, fun i j _ hj => by simp at hj⟩)
  clear hgr0 hown0
  go_upto_region 2 with (fail)
  clear hmk x0 x1 x2 x3 x4 x5
  obtain ⟨⟨x0, x1, x2, x3, x4, x5⟩, -⟩ := row6_of ((hb9.block _ (Array.getElem?_eq_some_iff.1 HR.out).1).trans HR.out)
  clear hb9
  go_wp2_with fail
  clear x0 x1 x2 x3 x4 x5
  go_loopw [3, 13] (fun v i wr => ∃ (k : Nat) (us' : List Value), k ≤ Wd.length ∧ i = .int .i64 k ∧ CpI W wr W.heap.size k Wd v us') (fun _ i _ => Wd.length - (intOf i).toNat)
  case atStart => exact ⟨0, [], Nat.zero_le _, rfl, HI.out⟩
  case round =>
    clear HI
    obtain ⟨k, us', hkl, rfl, hJ⟩ := hrel
    rename_i wr
    obtain ⟨av, nv, cv, rfl⟩ := own_shape hJ.cd.own
    obtain rfl : k = nv := by have h9 := own_lenS hJ.cd.own; rw [List.length_take] at h9; omega
    have HJ := Lib.hid hJ
    have HJB := Lib.hid (HB.out.trans (hJ.below.mono HB.out.size))
    clear hJ
    by_cases hlt : k < Wd.length
    · obtain ⟨g, off, rfl, hg, hcs⟩ := hcells.resolve_left (by omega)
      have z0 : (0 : Int) ≤ (k : Int) := by omega
      have z1 : (k : Int) < (Wd.length : Int) := by omega
      obtain ⟨u, c1, c2, c3⟩ := hcs k hlt
      have C1 := (HJB.out.cell (p := ⟨g, off + k * 2, none⟩) hg).trans c1
      have C2 := (HJB.out.cell (p := ⟨g, off + k * 2 + 1, none⟩) hg).trans c2
      have HTS := Lib.hid (cds_take_snoc Wd k hlt)
      have HCX := Lib.hid (fun wx (hb : Below w.heap.size w wx) => HCW.out wx u (Wd.getD k blankC) (by simp [List.getD, hlt]) ((c3.below hb).to))
      obtain ⟨au, cu, rfl, -, -⟩ := c3
      clear hcells hcs c1 c2
      have hll : (Wd.take k).length ≤ 1000000 := by rw [List.length_take]; omega
      generalize Wd.getD k blankC = x at *
      obtain ⟨xs, y⟩ := x
      dsimp only at *
      have hba := (Below.refl wr.heap.size wr).alloc (Nat.le_refl _) (.cells #[.slice au xs.length cu, .string y] 30)
      have HXB := Lib.hid (heap_alloc_new wr (.cells #[.slice au xs.length cu, .string y] 30))
      have HJ5 := Lib.hid (show CpI W (wr.alloc (.cells #[.slice au xs.length cu, .string y] 30)) W.heap.size k Wd _ us' from ⟨HJ.out.below.trans (hba.mono HJ.out.below.size), HJ.out.cd.below hba⟩)
      have HJB5 := Lib.hid (HJB.out.trans (hba.mono HJB.out.size))
      clear hba
      go_upto_region 5 with (fail)
      generalize wr.alloc (.cells #[.slice au xs.length cu, .string y] 30) = W5 at *
      clear C1 C2 HJ
      obtain ⟨y0, y1, -, -⟩ := row2_of HXB.out
      go_wp2_with fail
      refine (HCX.out _ HJB5.out).mono ?_
      rintro e w6 ⟨v6, rfl, hv6, hb6⟩
      obtain ⟨a6, n6, c6, rfl⟩ := own_shape hv6
      clear y0 y1
      have HJ6 := Lib.hid (show CpI W w6 W.heap.size k Wd _ us' from ⟨HJ5.out.below.trans (hb6.mono HJ5.out.below.size), HJ5.out.cd.below hb6⟩)
      have hb7 := (Below.refl w6.heap.size w6).alloc (Nat.le_refl _) (.cells #[.slice a6 n6 c6, .string y] 30)
      have HJ7 := Lib.hid (show CpI W (w6.alloc (.cells #[.slice a6 n6 c6, .string y] 30)) W.heap.size k Wd _ us' from ⟨HJ6.out.below.trans (hb7.mono HJ6.out.below.size), HJ6.out.cd.below hb7⟩)
      have HL7 := Lib.hid (heap_alloc_new w6 (.cells #[.slice a6 n6 c6, .string y] 30))
      have HV7 := Lib.hid (own_below (own_base hv6 HJ5.out.below.size) hb7)
      have hne7 : ∀ b, (Value.slice a6 n6 c6).ownBlock = some b → (Value.slice av k cv).ownBlock ≠ some b := fun b e e2 => by
        have h1 := (hv6.lt b e).1
        have h2 := (HJ5.out.cd.own.lt b e2).2
        omega
      have hdi7 : ∀ i, i < (Wd.take k).length → ∀ b, (Value.slice a6 n6 c6).ownBlock = some b → (us'.getD i undef).ownBlock ≠ some b := fun i hi b e e2 => by
        have h1 := (hv6.lt b e).1
        have h2 := ((HJ5.out.cd.keys i hi).lt b e2).2
        omega
      have hbs7 : W.heap.size ≤ (w6.alloc (.cells #[.slice a6 n6 c6, .string y] 30)).heap.size := HJ7.out.below.size
      clear hb7 hb6 hv6
      go_wp2_with (at_builtin; refine wpList_append_cdd rfl (.tmp 17) (.tmp 20) rfl HJ7.out.cd w6.heap.size 1 (.slice a6 n6 c6) (xs, y) HL7.out HV7.out hne7 hdi7 rfl rfl hll hbs7 ?_; intro v8 w8 hcd8 hg8 hl8)
      have HF := Lib.hid (show CpI W w8 W.heap.size (k + 1) Wd v8 (us' ++ [.slice a6 n6 c6]) from ⟨HJ7.out.below.grown hg8 HJ7.out.below.size (fun j e => (HJ7.out.cd.own.lt j e).1), by rw [HTS.out]; exact hcd8⟩)
      clear hcd8 hg8 hl8
      go_wp2
      exact ⟨⟨k + 1, _, by omega, by go_num, HF.out⟩, by simp [intOf]; omega⟩
    · obtain rfl : k = Wd.length := by omega
      have hcd := HJ.out.cd
      rw [List.take_length] at hcd
      have HCD := Lib.hid hcd
      have HSK := Lib.hid ((HJ.out.below.block _ (Array.getElem?_eq_some_iff.1 HR.out).1).trans HR.out)
      have HRS := Lib.hid ((HJ.out.below.block _ (Array.getElem?_eq_some_iff.1 HX.out).1).trans HX.out)
      clear hcells hcd
      obtain ⟨⟨x0, x1, x2, x3, x4, x5⟩, f0, f1, f2, f3, f4, f5⟩ := row6_of HSK.out
      go_upto_region 8 with (
        go_at_call 88
        refine (HCK.out _ HJB.out).mono ?_
        rintro e w6 ⟨v6, rfl, hv6, hb6⟩
        dsimp only
        obtain ⟨a6, n6, c6, rfl⟩ := own_shape hv6
        have HV6 := Lib.hid hv6
        have HB6 := Lib.hid hb6
        have HS6 := Lib.hid ((hb6.block _ (Array.getElem?_eq_some_iff.1 HSK.out).1).trans HSK.out)
        clear hv6 hb6 x0 x1 x2 x3 x4 x5 f0 f1 f2 f3 f4 f5
        obtain ⟨⟨x0, x1, x2, x3, x4, x5⟩, f0, f1, f2, f3, f4, f5⟩ := row6_of HS6.out)
      have HE := Lib.hid (show w.heap.size < w.heap.size + 1 from by omega)
      have HS7 := Lib.hid (show ((w6.setCell ⟨w.heap.size, 1, none⟩ (.slice a6 n6 c6)).setCell ⟨w.heap.size, 2, none⟩ (.slice av Wd.length cv)).heap[w.heap.size]? = some (.cells #[.int .i64 mo, .slice a6 n6 c6, .slice av Wd.length cv, .int .i64 sa, .int .i64 lo, .int .i64 ba] 27 (0, 0)) from set_cellsR _ (set_cellsR _ HS6.out))
      have HT7 := Lib.hid ((Below.heap_setCell _ ⟨w.heap.size, 2, none⟩ (.slice av Wd.length cv) (w.heap.size + 1) (by show _ ≠ w.heap.size; omega)).trans ((Below.heap_setCell w6 ⟨w.heap.size, 1, none⟩ (.slice a6 n6 c6) (w.heap.size + 1) (by show _ ≠ w.heap.size; omega)).trans ((HB6.out.block _ (Array.getElem?_eq_some_iff.1 HRS.out).1).trans HRS.out)))
      have HK7 := Lib.hid (((KeepX.refl (fun k => k = w.heap.size ∨ k = w.heap.size + 1) w6).set w.heap.size 1 (.slice a6 n6 c6) (.inl rfl)).set w.heap.size 2 (.slice av Wd.length cv) (.inl rfl))
      have HB7 := Lib.hid (((HJB.out.trans (HB6.out.mono HJB.out.size)).setCell (p := ⟨w.heap.size, 1, none⟩) (Nat.le_refl _) (.slice a6 n6 c6)).setCell (p := ⟨w.heap.size, 2, none⟩) (Nat.le_refl _) (.slice av Wd.length cv))
      generalize (w6.setCell ⟨w.heap.size, 1, none⟩ (.slice a6 n6 c6)).setCell ⟨w.heap.size, 2, none⟩ (.slice av Wd.length cv) = w7 at *
      clear x0 x1 x2 x3 x4 x5 f0 f1 f2 f3 f4 f5 HS6
      have HKF := Lib.hid (HK7.out.trans (show KeepX (fun k => k = w.heap.size ∨ k = w.heap.size + 1) w7 (w7.setRow (w.heap.size + 1) #[.int .i64 mo, .slice a6 n6 c6, .slice av Wd.length cv, .int .i64 sa, .int .i64 lo, .int .i64 ba]) from ⟨rfl, rfl, rfl, Nat.le_of_eq (size_setRow _ _ _).symm, fun k hk hn => setRow_other _ _ _ _ (fun e => hn (.inr e))⟩))
      have HBF := Lib.hid (below_setRow HB7.out (b := w.heap.size + 1) (Nat.le_refl _) (by omega) #[.int .i64 mo, .slice a6 n6 c6, .slice av Wd.length cv, .int .i64 sa, .int .i64 lo, .int .i64 ba])
      have LT := Lib.hid (sn_load (setRow_heap w7 (w.heap.size + 1) _ #[.int .i64 mo, .slice a6 n6 c6, .slice av Wd.length cv, .int .i64 sa, .int .i64 lo, .int .i64 ba] 27 (0, 0) HT7.out))
      apply wp_region_lit
      refine wpList_load_row rfl 27 (.tmp 1) rfl w.heap.size rfl 27 #[.int .i64 mo, .slice a6 n6 c6, .slice av Wd.length cv, .int .i64 sa, .int .i64 lo, .int .i64 ba] (0, 0) _ HS7.out Try.underlying27 rfl (by kernel_rfl) ?_
      refine wpList_store_rowTo rfl 27 (.tmp 2) (.tmp 29) rfl rfl (w.heap.size + 1) #[.int .i64 mo, .slice a6 n6 c6, .slice av Wd.length cv, .int .i64 sa, .int .i64 lo, .int .i64 ba] rfl rfl 27 #[.int .i64 0, .slice none 0 0, .slice none 0 0, .int .i64 0, .int .i64 0, .int .i64 0] HT7.out (by kernel_rfl) rfl (by simp [Value.oneCell']) ?_
      generalize w7.setRow (w.heap.size + 1) #[.int .i64 mo, .slice a6 n6 c6, .slice av Wd.length cv, .int .i64 sa, .int .i64 lo, .int .i64 ba] = w9 at *
      have HFC := Lib.hid (show SnO w9 w.heap.size ⟨mo, K, Wd, sa, lo, ba⟩ (.slice a6 n6 c6) (.slice av Wd.length cv) us' from by
        have hz := HSZ.out
        have hj := HJ.out.below.size
        have hcd := HCD.out.below HB6.out
        have e1 : ∀ g, (Value.slice a6 n6 c6).ownBlock = some g → wr.heap.size ≤ g := fun g e => (HV6.out.lt g e).1
        have e2 : ∀ g, (Value.slice av Wd.length cv).ownBlock = some g → W.heap.size ≤ g ∧ g < wr.heap.size := fun g e => HCD.out.own.lt g e
        have e3 : ∀ i, i < Wd.length → ∀ g, (us'.getD i undef).ownBlock = some g → W.heap.size ≤ g ∧ g < wr.heap.size := fun i hi g e => (HCD.out.keys i hi).lt g e
        refine ⟨own_base (HKF.out.own HV6.out (fun g e => by have := e1 g e; omega)) (by omega), ?_, fun g e e9 => by have := e1 g e; have := e2 g e9; omega, fun g e i hi e9 => by have := e1 g e; have := e3 i hi g e9; omega⟩
        have h := hcd.keep HKF.out (fun g e => by have := e2 g e; omega) (fun i hi g e => by have := e3 i hi g e; omega)
        exact ⟨h.len, own_base h.own (by omega), fun i hi => own_base (h.keys i hi) (by omega), h.ne, h.dist⟩)
      go_wp2
      refine bodyPost_ret (v := .agg #[.int .i64 mo, .slice a6 n6 c6, .slice av Wd.length cv, .int .i64 sa, .int .i64 lo, .int .i64 ba]) ?_ rfl ⟨_, _, us', rfl, HFC.out, HBF.out⟩
      rw [results_cell (p := 2) (ty := 27) (by kernel_rfl)]
      have l2 := LT.out
      simp [asAddr, Result.andThen, l2, Act.put]
end Go.Proofs.Ytadjmfhhpkjpaaa
namespace Go.Proofs.Ytadjmfhhpkjpaaa
open Go.ChangeShapes Go.WideShapes Go.ChangeAt Go.RowKit Go.BigFrame
set_option linter.unusedVariables false

set_option maxRecDepth 100000 in
set_option maxHeartbeats 4000000 in
theorem smerge_any (va vb : Value) (A B : List K2) (both : Bool) (w : World) (ha : keysAt w va A) (hb : keysAt w vb B) (hsA : A.length ≤ 2000000) (hsB : B.length ≤ 2000000) :
    Calls Try.prog 111 #[va, vb, .bool both] w fun e w' => ∃ v, e = .returned v ∧ w'.ownsRow w.heap.size 43 2 v (mergeV both A B).length (keyCells (mergeV both A B)) ∧ Below w.heap.size w w' := by
  obtain ⟨i0, hi, hz0, hz1, hz2⟩ := info_parts infoK
  have hown0 := World.ownsRow_made (base := w.heap.size) (e := 43) (size := 2) w #[] 0 (Nat.le_refl _) (by unfold maxLen; omega) rfl
  have hb0 := (Below.refl w.heap.size w).alloc (Nat.le_refl _) (.cells #[] 43)
  have KA := Lib.hid (fun w' (h : Below w.heap.size w w') => skeysok_any va A w' (keysAt_below ha h) hsA)
  have KB := Lib.hid (fun w' (h : Below w.heap.size w w') => skeysok_any vb B w' (keysAt_below hb h) hsB)
  generalize hmv : mergeV both A B = M
  go_enter Try.func111, Try.ntmps111
  go_wp2_with fail
  generalize w.alloc (.cells #[] 43) = W at *
  refine (KA.out _ hb0).mono ?_
  rintro e w1 ⟨rfl, hbx⟩
  have hown1 := own_below hown0 hbx
  have hb1 := hb0.trans (hbx.mono hb0.size)
  clear hbx hown0 hb0 KA
  cases hA : keysOkR A with
  | false =>
    obtain rfl : M = [] := by rw [← hmv]; unfold mergeV; rw [hA]; rfl
    go_wp2
    go_ret
    exact ⟨_, rfl, hown1, hb1⟩
  | true =>
    go_wp2_with fail
    refine (KB.out _ hb1).mono ?_
    rintro e w2 ⟨rfl, hbx⟩
    have hown2 := own_below hown1 hbx
    have hb2 := hb1.trans (hbx.mono hb1.size)
    clear hbx hown1 hb1 KB
    cases hB : keysOkR B with
    | false =>
      obtain rfl : M = [] := by rw [← hmv]; unfold mergeV; rw [hA, hB]; rfl
      go_wp2
      go_ret
      exact ⟨_, rfl, hown2, hb2⟩
    | true =>
      have hML : mergeL both A B = M := by rw [← hmv]; unfold mergeV; rw [hA, hB]; rfl
      have hlen := mergeL_len both A B
      rw [hML] at hlen
      obtain ⟨aa, ca, rfl, hca, hcA⟩ := ha
      obtain ⟨ab, cb, rfl, hcb, hcB⟩ := hb
      clear hA hB hmv
      go_wp2
      go_loopw [7, 8, 9] (fun v i j wr => ∃ (x y : Nat) (out : List K2), x ≤ A.length ∧ y ≤ B.length ∧ i = .int .i64 x ∧ j = .int .i64 y ∧ out ++ mergeL both (A.drop x) (B.drop y) = M ∧
          wr.ownsRow w.heap.size 43 2 v out.length (keyCells out) ∧ Below w.heap.size w wr) (fun _ i j _ => (A.length - (intOf i).toNat) + (B.length - (intOf j).toNat))
      case atStart => exact ⟨0, 0, [], by omega, by omega, rfl, rfl, by simpa using hML, hown2, hb2⟩
      case round =>
        obtain ⟨x, y, out, hx, hy, rfl, rfl, hout, hown, hbr⟩ := hrel
        clear hown2 hb2
        have hol : out.length ≤ M.length := by rw [← hout]; simp
        by_cases hxA : x < A.length
        · by_cases hyB : y < B.length
          ·
            obtain ⟨ga, offa, rfl, hga, hcsA⟩ := hcA.resolve_left (by omega)
            have cA := hcsA x hxA
            have LA : ∀ w', Below wr.heap.size wr w' → (loadVar 43 ⟨ga, offa + x * 2, none⟩).run Try.prog w' = .ok (kv (A.getD x (0, 0))) w' := fun w' h => key_load cA hga (hbr.trans (h.mono hbr.size))
            clear hcsA hcA
            obtain ⟨gb, offb, rfl, hgb, hcsB⟩ := hcB.resolve_left (by omega)
            have cB := hcsB y hyB
            have LB : ∀ w', Below wr.heap.size wr w' → (loadVar 43 ⟨gb, offb + y * 2, none⟩).run Try.prog w' = .ok (kv (B.getD y (0, 0))) w' := fun w' h => key_load cB hgb (hbr.trans (h.mono hbr.size))
            clear hcsB hcB
            have hdA := drop_at A x hxA
            have hdB := drop_at B y hyB
            have hco := mergeL_cons both (A.getD x (0, 0)) (A.drop (x + 1)) (B.getD y (0, 0)) (B.drop (y + 1))
            rw [← hdA, ← hdB] at hco
            have HAB := Lib.hid (fun w => sahead_any (A.getD x (0, 0)) (B.getD y (0, 0)) w)
            have HBA := Lib.hid (fun w => sahead_any (B.getD y (0, 0)) (A.getD x (0, 0)) w)
            cases hab : aheadB (A.getD x (0, 0)) (B.getD y (0, 0)) with
            | true =>
              rw [hab] at HAB
              rw [if_pos hab] at hco
              have hnx : (out ++ [A.getD x (0, 0)]) ++ mergeL both (A.drop (x + 1)) (B.drop y) = M := by
                rw [← hout, hco]; simp
              clear HBA hco hdA hdB hout hab
              generalize B.getD y (0, 0) = ky at *
              generalize A.getD x (0, 0) = kx at *
              obtain ⟨p, q⟩ := kx
              have HNX := Lib.hid hnx; have CA := Lib.hid cA
              clear hnx cA cB
              have z0 : (0 : Int) ≤ (x : Int) := by omega
              have z1 : (x : Int) < (A.length : Int) := by omega
              have y0 : (0 : Int) ≤ (y : Int) := by omega
              have y1 : (y : Int) < (B.length : Int) := by omega
              have n1 : ¬ (y : Int) = (B.length : Int) := by omega
              have n2 : ¬ y = B.length := by omega
              have n3 : ((y : Int) == (B.length : Int)) = false := beq_eq_false_iff_ne.2 n1
              have m1 : ¬ (x : Int) = (A.length : Int) := by omega
              have m2 : ¬ x = A.length := by omega
              have m3 : ((x : Int) == (A.length : Int)) = false := beq_eq_false_iff_ne.2 m1
              go_wp2
              refine wp_region_below wr (by kernel_rfl) (by kernel_rfl) (Below.refl _ _) ?_
              repeat (first
                | go_big_quiet_skip
                | (go_big_quiet_want
                   first
                     | (go_big_quiet_op; go_big_quiet_on)
                     | (refine q_load 43 _ _ _ rfl rfl LA ?_; simp only [Act.put, List.setIfInBounds_toArray, List.set_cons_zero, List.set_cons_succ]; go_big_quiet_on)
                     | (refine q_load 43 _ _ _ rfl rfl LB ?_; simp only [Act.put, List.setIfInBounds_toArray, List.set_cons_zero, List.set_cons_succ]; go_big_quiet_on)
                     | (go_big_quiet_op; refine ⟨_, fun _ _ => rfl, ?_⟩; go_big_quiet_on)
                     | (go_big_quiet_op; apply Exists.intro; refine ⟨fun w' hw' => ?_, ?_⟩
                        · first
                          | (refine (HAB.out w').mono ?_
                             rintro e w2 ⟨rfl, hb2⟩
                             exact ⟨rfl, hw'.trans (hb2.mono hw'.size)⟩)
                        go_big_quiet_on)))
              refine wpQuiet_nil ?_
              intro w2 hb2
              clear LA LB HAB
              have hown2 := own_below hown hb2
              have hbq := hbr.trans (hb2.mono hbr.size)
              have d1 : w2.cell? ⟨ga, offa + x * 2, none⟩ = some (.int .i64 p) := by rw [hbq.cell (p := ⟨ga, offa + x * 2, none⟩) hga]; exact CA.out.1
              have d2 : w2.cell? ⟨ga, offa + x * 2 + 1, none⟩ = some (.int .i64 q) := by rw [hbq.cell (p := ⟨ga, offa + x * 2 + 1, none⟩) hga]; exact CA.out.2
              have hns := hbq.size
              clear hown hbr hb2
              go_wp2_with (at_builtin; refine wpList_append_own _ rfl (.tmp 64) (.tmp 69) 28 rfl w.heap.size 43 i0 (.agg #[.int .i64 0, .int .i64 0]) 2 16 Try.underlying28 hi hz0 hz1 hz2 rfl (by decide) _ _ _ rfl (hown2.alloc _) ⟨w2.heap.size, 0, none⟩ 1 1 [.int .i64 p, .int .i64 q] rfl rfl (cell_two_new _ _ _ _) (by intro u hu; simp at hu; rcases hu with rfl | rfl <;> rfl) (by unfold maxLen; omega) (by omega) (by simp; omega) ?_; intro v' w5 hown' hgrow _)
              have R : w5.ownsRow w.heap.size 43 2 v' (out ++ [(p, q)]).length (keyCells (out ++ [(p, q)])) ∧ Below w.heap.size w w5 := by
                refine ⟨by rw [keyCells_snoc]; simpa using hown', (hbq.alloc hbq.size _).grown hgrow (by simp; omega) (fun g hg => (hown2.lt g hg).1)⟩
              have HR := Lib.hid R
              clear R hown' hgrow hown2 hbq
              go_wp2
              exact ⟨⟨x + 1, y, out ++ [(p, q)], by omega, by omega, by go_num, by go_num, HNX.out, HR.out.1, HR.out.2⟩, by simp [intOf]; omega⟩
            | false =>
              cases hba : aheadB (B.getD y (0, 0)) (A.getD x (0, 0)) with
              | true =>
                rw [hab] at HAB
                rw [hba] at HBA
                rw [if_neg (by rw [hab]; exact Bool.false_ne_true), if_pos hba] at hco
                have hnx : (out ++ [B.getD y (0, 0)]) ++ mergeL both (A.drop x) (B.drop (y + 1)) = M := by
                  rw [← hout, hco]; simp
                clear hco hdA hdB hout hab hba
                generalize A.getD x (0, 0) = kx at *
                generalize B.getD y (0, 0) = ky at *
                obtain ⟨p, q⟩ := ky
                have HNX := Lib.hid hnx; have CB := Lib.hid cB
                clear hnx cA cB
                have z0 : (0 : Int) ≤ (x : Int) := by omega
                have z1 : (x : Int) < (A.length : Int) := by omega
                have y0 : (0 : Int) ≤ (y : Int) := by omega
                have y1 : (y : Int) < (B.length : Int) := by omega
                have n1 : ¬ (y : Int) = (B.length : Int) := by omega
                have n2 : ¬ y = B.length := by omega
                have n3 : ((y : Int) == (B.length : Int)) = false := beq_eq_false_iff_ne.2 n1
                have m1 : ¬ (x : Int) = (A.length : Int) := by omega
                have m2 : ¬ x = A.length := by omega
                have m3 : ((x : Int) == (A.length : Int)) = false := beq_eq_false_iff_ne.2 m1
                go_wp2
                refine wp_region_below wr (by kernel_rfl) (by kernel_rfl) (Below.refl _ _) ?_
                repeat (first
                  | go_big_quiet_skip
                  | (go_big_quiet_want
                     first
                       | (go_big_quiet_op; go_big_quiet_on)
                       | (refine q_load 43 _ _ _ rfl rfl LA ?_; simp only [Act.put, List.setIfInBounds_toArray, List.set_cons_zero, List.set_cons_succ]; go_big_quiet_on)
                       | (refine q_load 43 _ _ _ rfl rfl LB ?_; simp only [Act.put, List.setIfInBounds_toArray, List.set_cons_zero, List.set_cons_succ]; go_big_quiet_on)
                       | (go_big_quiet_op; refine ⟨_, fun _ _ => rfl, ?_⟩; go_big_quiet_on)
                       | (go_big_quiet_op; apply Exists.intro; refine ⟨fun w' hw' => ?_, ?_⟩
                          · first
                            | (refine (HAB.out w').mono ?_
                               rintro e w2 ⟨rfl, hb2⟩
                               exact ⟨rfl, hw'.trans (hb2.mono hw'.size)⟩)
                          go_big_quiet_on)))
                refine wpQuiet_nil ?_
                intro w1' hb1'
                go_wp2
                refine wp_region_below wr (by kernel_rfl) (by kernel_rfl) hb1' ?_
                repeat (first
                  | go_big_quiet_skip
                  | (go_big_quiet_want
                     first
                       | (go_big_quiet_op; go_big_quiet_on)
                       | (refine q_load 43 _ _ _ rfl rfl LA ?_; simp only [Act.put, List.setIfInBounds_toArray, List.set_cons_zero, List.set_cons_succ]; go_big_quiet_on)
                       | (refine q_load 43 _ _ _ rfl rfl LB ?_; simp only [Act.put, List.setIfInBounds_toArray, List.set_cons_zero, List.set_cons_succ]; go_big_quiet_on)
                       | (go_big_quiet_op; refine ⟨_, fun _ _ => rfl, ?_⟩; go_big_quiet_on)
                       | (go_big_quiet_op; apply Exists.intro; refine ⟨fun w' hw' => ?_, ?_⟩
                          · first
                            | (refine (HBA.out w').mono ?_
                               rintro e w2 ⟨rfl, hb2⟩
                               exact ⟨rfl, hw'.trans (hb2.mono hw'.size)⟩)
                          go_big_quiet_on)))
                refine wpQuiet_nil ?_
                intro w2 hb2
                clear LA LB HAB HBA hb1'
                have hown2 := own_below hown hb2
                have hbq := hbr.trans (hb2.mono hbr.size)
                have d1 : w2.cell? ⟨gb, offb + y * 2, none⟩ = some (.int .i64 p) := by rw [hbq.cell (p := ⟨gb, offb + y * 2, none⟩) hgb]; exact CB.out.1
                have d2 : w2.cell? ⟨gb, offb + y * 2 + 1, none⟩ = some (.int .i64 q) := by rw [hbq.cell (p := ⟨gb, offb + y * 2 + 1, none⟩) hgb]; exact CB.out.2
                have hns := hbq.size
                clear hown hbr hb2
                go_wp2_with (at_builtin; refine wpList_append_own _ rfl (.tmp 89) (.tmp 94) 28 rfl w.heap.size 43 i0 (.agg #[.int .i64 0, .int .i64 0]) 2 16 Try.underlying28 hi hz0 hz1 hz2 rfl (by decide) _ _ _ rfl (hown2.alloc _) ⟨w2.heap.size, 0, none⟩ 1 1 [.int .i64 p, .int .i64 q] rfl rfl (cell_two_new _ _ _ _) (by intro u hu; simp at hu; rcases hu with rfl | rfl <;> rfl) (by unfold maxLen; omega) (by omega) (by simp; omega) ?_; intro v' w5 hown' hgrow _)
                have R : w5.ownsRow w.heap.size 43 2 v' (out ++ [(p, q)]).length (keyCells (out ++ [(p, q)])) ∧ Below w.heap.size w w5 := by
                  refine ⟨by rw [keyCells_snoc]; simpa using hown', (hbq.alloc hbq.size _).grown hgrow (by simp; omega) (fun g hg => (hown2.lt g hg).1)⟩
                have HR := Lib.hid R
                clear R hown' hgrow hown2 hbq
                go_wp2
                exact ⟨⟨x, y + 1, out ++ [(p, q)], by omega, by omega, by go_num, by go_num, HNX.out, HR.out.1, HR.out.2⟩, by simp [intOf]; omega⟩
              | false =>
                rw [hab] at HAB
                rw [hba] at HBA
                rw [if_neg (by rw [hab]; exact Bool.false_ne_true), if_neg (by rw [hba]; exact Bool.false_ne_true)] at hco
                have hnx : (out ++ (if both then [A.getD x (0, 0)] else [])) ++ mergeL both (A.drop (x + 1)) (B.drop (y + 1)) = M := by
                  rw [← hout, hco]; simp
                clear hco hdA hdB hout hab hba
                generalize A.getD x (0, 0) = kx at *
                generalize B.getD y (0, 0) = ky at *
                obtain ⟨p, q⟩ := kx
                have z0 : (0 : Int) ≤ (x : Int) := by omega
                have z1 : (x : Int) < (A.length : Int) := by omega
                have y0 : (0 : Int) ≤ (y : Int) := by omega
                have y1 : (y : Int) < (B.length : Int) := by omega
                have n1 : ¬ (y : Int) = (B.length : Int) := by omega
                have n2 : ¬ y = B.length := by omega
                have n3 : ((y : Int) == (B.length : Int)) = false := beq_eq_false_iff_ne.2 n1
                have m1 : ¬ (x : Int) = (A.length : Int) := by omega
                have m2 : ¬ x = A.length := by omega
                have m3 : ((x : Int) == (A.length : Int)) = false := beq_eq_false_iff_ne.2 m1
                cases both with
                | true =>
                  have hnx2 : (out ++ [(p, q)]) ++ mergeL true (A.drop (x + 1)) (B.drop (y + 1)) = M := hnx
                  have HNX := Lib.hid hnx2; have CA := Lib.hid cA
                  clear hnx hnx2 cA cB
                  go_wp2
                  refine wp_region_below wr (by kernel_rfl) (by kernel_rfl) (Below.refl _ _) ?_
                  repeat (first
                    | go_big_quiet_skip
                    | (go_big_quiet_want
                       first
                         | (go_big_quiet_op; go_big_quiet_on)
                         | (refine q_load 43 _ _ _ rfl rfl LA ?_; simp only [Act.put, List.setIfInBounds_toArray, List.set_cons_zero, List.set_cons_succ]; go_big_quiet_on)
                         | (refine q_load 43 _ _ _ rfl rfl LB ?_; simp only [Act.put, List.setIfInBounds_toArray, List.set_cons_zero, List.set_cons_succ]; go_big_quiet_on)
                         | (go_big_quiet_op; refine ⟨_, fun _ _ => rfl, ?_⟩; go_big_quiet_on)
                         | (go_big_quiet_op; apply Exists.intro; refine ⟨fun w' hw' => ?_, ?_⟩
                            · first
                              | (refine (HAB.out w').mono ?_
                                 rintro e w2 ⟨rfl, hb2⟩
                                 exact ⟨rfl, hw'.trans (hb2.mono hw'.size)⟩)
                            go_big_quiet_on)))
                  refine wpQuiet_nil ?_
                  intro w1' hb1'
                  go_wp2
                  refine wp_region_below wr (by kernel_rfl) (by kernel_rfl) hb1' ?_
                  repeat (first
                    | go_big_quiet_skip
                    | (go_big_quiet_want
                       first
                         | (go_big_quiet_op; go_big_quiet_on)
                         | (refine q_load 43 _ _ _ rfl rfl LA ?_; simp only [Act.put, List.setIfInBounds_toArray, List.set_cons_zero, List.set_cons_succ]; go_big_quiet_on)
                         | (refine q_load 43 _ _ _ rfl rfl LB ?_; simp only [Act.put, List.setIfInBounds_toArray, List.set_cons_zero, List.set_cons_succ]; go_big_quiet_on)
                         | (go_big_quiet_op; refine ⟨_, fun _ _ => rfl, ?_⟩; go_big_quiet_on)
                         | (go_big_quiet_op; apply Exists.intro; refine ⟨fun w' hw' => ?_, ?_⟩
                            · first
                              | (refine (HBA.out w').mono ?_
                                 rintro e w2 ⟨rfl, hb2⟩
                                 exact ⟨rfl, hw'.trans (hb2.mono hw'.size)⟩)
                            go_big_quiet_on)))
                  refine wpQuiet_nil ?_
                  intro w2 hb2
                  clear LA LB HAB HBA hb1'
                  have hown2 := own_below hown hb2
                  have hbq := hbr.trans (hb2.mono hbr.size)
                  have d1 : w2.cell? ⟨ga, offa + x * 2, none⟩ = some (.int .i64 p) := by rw [hbq.cell (p := ⟨ga, offa + x * 2, none⟩) hga]; exact CA.out.1
                  have d2 : w2.cell? ⟨ga, offa + x * 2 + 1, none⟩ = some (.int .i64 q) := by rw [hbq.cell (p := ⟨ga, offa + x * 2 + 1, none⟩) hga]; exact CA.out.2
                  have hns := hbq.size
                  clear hown hbr hb2
                  go_wp2_with (at_builtin; refine wpList_append_own _ rfl (.tmp 31) (.tmp 36) 28 rfl w.heap.size 43 i0 (.agg #[.int .i64 0, .int .i64 0]) 2 16 Try.underlying28 hi hz0 hz1 hz2 rfl (by decide) _ _ _ rfl (hown2.alloc _) ⟨w2.heap.size, 0, none⟩ 1 1 [.int .i64 p, .int .i64 q] rfl rfl (cell_two_new _ _ _ _) (by intro u hu; simp at hu; rcases hu with rfl | rfl <;> rfl) (by unfold maxLen; omega) (by omega) (by simp; omega) ?_; intro v' w5 hown' hgrow _)
                  have R : w5.ownsRow w.heap.size 43 2 v' (out ++ [(p, q)]).length (keyCells (out ++ [(p, q)])) ∧ Below w.heap.size w w5 := by
                    refine ⟨by rw [keyCells_snoc]; simpa using hown', (hbq.alloc hbq.size _).grown hgrow (by simp; omega) (fun g hg => (hown2.lt g hg).1)⟩
                  have HR := Lib.hid R
                  clear R hown' hgrow hown2 hbq
                  go_wp2
                  exact ⟨⟨x + 1, y + 1, out ++ [(p, q)], by omega, by omega, by go_num, by go_num, HNX.out, HR.out.1, HR.out.2⟩, by simp [intOf]; omega⟩
                | false =>
                  have hnx2 : out ++ mergeL false (A.drop (x + 1)) (B.drop (y + 1)) = M := by simpa using hnx
                  have HNX := Lib.hid hnx2
                  clear hnx hnx2 cA cB
                  go_wp2
                  refine wp_region_below wr (by kernel_rfl) (by kernel_rfl) (Below.refl _ _) ?_
                  repeat (first
                    | go_big_quiet_skip
                    | (go_big_quiet_want
                       first
                         | (go_big_quiet_op; go_big_quiet_on)
                         | (refine q_load 43 _ _ _ rfl rfl LA ?_; simp only [Act.put, List.setIfInBounds_toArray, List.set_cons_zero, List.set_cons_succ]; go_big_quiet_on)
                         | (refine q_load 43 _ _ _ rfl rfl LB ?_; simp only [Act.put, List.setIfInBounds_toArray, List.set_cons_zero, List.set_cons_succ]; go_big_quiet_on)
                         | (go_big_quiet_op; refine ⟨_, fun _ _ => rfl, ?_⟩; go_big_quiet_on)
                         | (go_big_quiet_op; apply Exists.intro; refine ⟨fun w' hw' => ?_, ?_⟩
                            · first
                              | (refine (HAB.out w').mono ?_
                                 rintro e w2 ⟨rfl, hb2⟩
                                 exact ⟨rfl, hw'.trans (hb2.mono hw'.size)⟩)
                            go_big_quiet_on)))
                  refine wpQuiet_nil ?_
                  intro w1' hb1'
                  go_wp2
                  refine wp_region_below wr (by kernel_rfl) (by kernel_rfl) hb1' ?_
                  repeat (first
                    | go_big_quiet_skip
                    | (go_big_quiet_want
                       first
                         | (go_big_quiet_op; go_big_quiet_on)
                         | (refine q_load 43 _ _ _ rfl rfl LA ?_; simp only [Act.put, List.setIfInBounds_toArray, List.set_cons_zero, List.set_cons_succ]; go_big_quiet_on)
                         | (refine q_load 43 _ _ _ rfl rfl LB ?_; simp only [Act.put, List.setIfInBounds_toArray, List.set_cons_zero, List.set_cons_succ]; go_big_quiet_on)
                         | (go_big_quiet_op; refine ⟨_, fun _ _ => rfl, ?_⟩; go_big_quiet_on)
                         | (go_big_quiet_op; apply Exists.intro; refine ⟨fun w' hw' => ?_, ?_⟩
                            · first
                              | (refine (HBA.out w').mono ?_
                                 rintro e w2 ⟨rfl, hb2⟩
                                 exact ⟨rfl, hw'.trans (hb2.mono hw'.size)⟩)
                            go_big_quiet_on)))
                  refine wpQuiet_nil ?_
                  intro w2 hb2
                  clear LA LB HAB HBA hb1'
                  have hown2 := own_below hown hb2
                  have hbq := hbr.trans (hb2.mono hbr.size)
                  go_wp2
                  exact ⟨⟨x + 1, y + 1, out, by omega, by omega, by go_num, by go_num, HNX.out, hown2, hbq⟩, by simp [intOf]; omega⟩
          ·
            obtain rfl : y = B.length := by omega
            obtain ⟨ga, offa, rfl, hga, hcsA⟩ := hcA.resolve_left (by omega)
            have cA := hcsA x hxA
            have LA : ∀ w', Below wr.heap.size wr w' → (loadVar 43 ⟨ga, offa + x * 2, none⟩).run Try.prog w' = .ok (kv (A.getD x (0, 0))) w' := fun w' h => key_load cA hga (hbr.trans (h.mono hbr.size))
            clear hcsA hcA
            have hdA := drop_at A x hxA
            have hdB : B.drop B.length = [] := List.drop_eq_nil_of_le (Nat.le_refl _)
            have hnx : (out ++ [A.getD x (0, 0)]) ++ mergeL both (A.drop (x + 1)) (B.drop B.length) = M := by
              rw [← hout, hdB, mergeL_nil_r, mergeL_nil_r, hdA]; simp
            generalize A.getD x (0, 0) = kx at *
            obtain ⟨p, q⟩ := kx
            have HNX := Lib.hid hnx; have CA := Lib.hid cA
            clear hdA hdB hnx hout cA
            have z0 : (0 : Int) ≤ (x : Int) := by omega
            have z1 : (x : Int) < (A.length : Int) := by omega
            have z2 : ¬ (B.length : Int) < (B.length : Int) := by omega
            go_wp2
            refine wp_region_below wr (by kernel_rfl) (by kernel_rfl) (Below.refl _ _) ?_
            repeat (first
              | go_big_quiet_skip
              | (go_big_quiet_want
                 first
                   | (go_big_quiet_op; go_big_quiet_on)
                   | (refine q_load 43 _ _ _ rfl rfl LA ?_; simp only [Act.put, List.setIfInBounds_toArray, List.set_cons_zero, List.set_cons_succ]; go_big_quiet_on)
                   | (go_big_quiet_op; refine ⟨_, fun _ _ => rfl, ?_⟩; go_big_quiet_on)
                   | (go_big_quiet_op; go_big_quiet_on)))
            refine wpQuiet_nil ?_
            intro w2 hb2
            clear LA
            have hown2 := own_below hown hb2
            have hbq := hbr.trans (hb2.mono hbr.size)
            have d1 : w2.cell? ⟨ga, offa + x * 2, none⟩ = some (.int .i64 p) := by rw [hbq.cell (p := ⟨ga, offa + x * 2, none⟩) hga]; exact CA.out.1
            have d2 : w2.cell? ⟨ga, offa + x * 2 + 1, none⟩ = some (.int .i64 q) := by rw [hbq.cell (p := ⟨ga, offa + x * 2 + 1, none⟩) hga]; exact CA.out.2
            have hns := hbq.size
            clear hown hbr hb2
            go_wp2_with (at_builtin; refine wpList_append_own _ rfl (.tmp 64) (.tmp 69) 28 rfl w.heap.size 43 i0 (.agg #[.int .i64 0, .int .i64 0]) 2 16 Try.underlying28 hi hz0 hz1 hz2 rfl (by decide) _ _ _ rfl (hown2.alloc _) ⟨w2.heap.size, 0, none⟩ 1 1 [.int .i64 p, .int .i64 q] rfl rfl (cell_two_new _ _ _ _) (by intro u hu; simp at hu; rcases hu with rfl | rfl <;> rfl) (by unfold maxLen; omega) (by omega) (by simp; omega) ?_; intro v' w5 hown' hgrow _)
            have R : w5.ownsRow w.heap.size 43 2 v' (out ++ [(p, q)]).length (keyCells (out ++ [(p, q)])) ∧ Below w.heap.size w w5 := by
              refine ⟨by rw [keyCells_snoc]; simpa using hown', (hbq.alloc hbq.size _).grown hgrow (by simp; omega) (fun g hg => (hown2.lt g hg).1)⟩
            have HR := Lib.hid R
            clear R hown' hgrow hown2 hbq
            go_wp2
            exact ⟨⟨x + 1, B.length, out ++ [(p, q)], by omega, by omega, by go_num, by go_num, HNX.out, HR.out.1, HR.out.2⟩, by simp [intOf]; omega⟩
        · by_cases hyB : y < B.length
          ·
            obtain rfl : x = A.length := by omega
            obtain ⟨gb, offb, rfl, hgb, hcsB⟩ := hcB.resolve_left (by omega)
            have cB := hcsB y hyB
            have LB : ∀ w', Below wr.heap.size wr w' → (loadVar 43 ⟨gb, offb + y * 2, none⟩).run Try.prog w' = .ok (kv (B.getD y (0, 0))) w' := fun w' h => key_load cB hgb (hbr.trans (h.mono hbr.size))
            clear hcsB hcB
            have hdB := drop_at B y hyB
            have hdA : A.drop A.length = [] := List.drop_eq_nil_of_le (Nat.le_refl _)
            have hnx : (out ++ [B.getD y (0, 0)]) ++ mergeL both (A.drop A.length) (B.drop (y + 1)) = M := by
              rw [← hout, hdA, mergeL_nil_l, mergeL_nil_l, hdB]; simp
            generalize B.getD y (0, 0) = ky at *
            obtain ⟨p, q⟩ := ky
            have HNX := Lib.hid hnx; have CB := Lib.hid cB
            clear hdA hdB hnx hout cB
            have y0 : (0 : Int) ≤ (y : Int) := by omega
            have y1 : (y : Int) < (B.length : Int) := by omega
            have n1 : ¬ (y : Int) = (B.length : Int) := by omega
            have n2 : ¬ y = B.length := by omega
            have n3 : ((y : Int) == (B.length : Int)) = false := beq_eq_false_iff_ne.2 n1
            have z2 : ¬ (A.length : Int) < (A.length : Int) := by omega
            go_wp2
            refine wp_region_below wr (by kernel_rfl) (by kernel_rfl) (Below.refl _ _) ?_
            repeat (first
              | go_big_quiet_skip
              | (go_big_quiet_want
                 first
                   | (go_big_quiet_op; go_big_quiet_on)
                   | (refine q_load 43 _ _ _ rfl rfl LB ?_; simp only [Act.put, List.setIfInBounds_toArray, List.set_cons_zero, List.set_cons_succ]; go_big_quiet_on)
                   | (go_big_quiet_op; refine ⟨_, fun _ _ => rfl, ?_⟩; go_big_quiet_on)
                   | (go_big_quiet_op; go_big_quiet_on)))
            refine wpQuiet_nil ?_
            intro w1' hb1'
            go_wp2
            refine wp_region_below wr (by kernel_rfl) (by kernel_rfl) hb1' ?_
            repeat (first
              | go_big_quiet_skip
              | (go_big_quiet_want
                 first
                   | (go_big_quiet_op; go_big_quiet_on)
                   | (refine q_load 43 _ _ _ rfl rfl LB ?_; simp only [Act.put, List.setIfInBounds_toArray, List.set_cons_zero, List.set_cons_succ]; go_big_quiet_on)
                   | (go_big_quiet_op; refine ⟨_, fun _ _ => rfl, ?_⟩; go_big_quiet_on)
                   | (go_big_quiet_op; go_big_quiet_on)))
            refine wpQuiet_nil ?_
            intro w2 hb2
            clear LB hb1'
            have hown2 := own_below hown hb2
            have hbq := hbr.trans (hb2.mono hbr.size)
            have d1 : w2.cell? ⟨gb, offb + y * 2, none⟩ = some (.int .i64 p) := by rw [hbq.cell (p := ⟨gb, offb + y * 2, none⟩) hgb]; exact CB.out.1
            have d2 : w2.cell? ⟨gb, offb + y * 2 + 1, none⟩ = some (.int .i64 q) := by rw [hbq.cell (p := ⟨gb, offb + y * 2 + 1, none⟩) hgb]; exact CB.out.2
            have hns := hbq.size
            clear hown hbr hb2
            go_wp2_with (at_builtin; refine wpList_append_own _ rfl (.tmp 89) (.tmp 94) 28 rfl w.heap.size 43 i0 (.agg #[.int .i64 0, .int .i64 0]) 2 16 Try.underlying28 hi hz0 hz1 hz2 rfl (by decide) _ _ _ rfl (hown2.alloc _) ⟨w2.heap.size, 0, none⟩ 1 1 [.int .i64 p, .int .i64 q] rfl rfl (cell_two_new _ _ _ _) (by intro u hu; simp at hu; rcases hu with rfl | rfl <;> rfl) (by unfold maxLen; omega) (by omega) (by simp; omega) ?_; intro v' w5 hown' hgrow _)
            have R : w5.ownsRow w.heap.size 43 2 v' (out ++ [(p, q)]).length (keyCells (out ++ [(p, q)])) ∧ Below w.heap.size w w5 := by
              refine ⟨by rw [keyCells_snoc]; simpa using hown', (hbq.alloc hbq.size _).grown hgrow (by simp; omega) (fun g hg => (hown2.lt g hg).1)⟩
            have HR := Lib.hid R
            clear R hown' hgrow hown2 hbq
            go_wp2
            exact ⟨⟨A.length, y + 1, out ++ [(p, q)], by omega, by omega, by go_num, by go_num, HNX.out, HR.out.1, HR.out.2⟩, by simp [intOf]; omega⟩
          ·
            obtain rfl : x = A.length := by omega
            obtain rfl : y = B.length := by omega
            have hdA : A.drop A.length = [] := List.drop_eq_nil_of_le (Nat.le_refl _)
            have hdB : B.drop B.length = [] := List.drop_eq_nil_of_le (Nat.le_refl _)
            rw [hdA, hdB, mergeL_nil_r, List.append_nil] at hout
            subst hout
            have z2 : ¬ (A.length : Int) < (A.length : Int) := by omega
            have z3 : ¬ (B.length : Int) < (B.length : Int) := by omega
            go_wp2
            go_ret
            exact ⟨_, rfl, hown, hbr⟩
end Go.Proofs.Ytadjmfhhpkjpaaa
namespace Go.Proofs.Ytadjmfhhpkjpaaa
open Go.ChangeShapes Go.WideShapes Go.ChangeAt Go.RowKit Go.BigFrame
set_option linter.unusedVariables false

theorem str_eq (a b : ByteArray) : (a.toList == b.toList) = decide (a = b) := by
  rw [Bool.eq_iff_iff, decide_eq_true_eq, beq_iff_eq, bytes_toList_iff]
end Go.Proofs.Ytadjmfhhpkjpaaa
namespace Go.Proofs.Ytadjmfhhpkjpaaa
open Go.ChangeShapes Go.WideShapes Go.ChangeAt Go.RowKit Go.BigFrame Go.Maps
set_option linter.unusedVariables false
set_option linter.unusedSimpArgs false

/-- what becomes of a word of two Keys or more -/
def keptM (s : Snk) (x : C2) : Snk × Int :=
  match atW s.wait x.1 with
  | some z => if z.2 = x.2 then ({ s with same := moreM s.same }, 2) else ({ s with bad := moreM s.bad }, 3)
  | none => if (s.wait.length : Int) = s.most then ({ s with lost := moreM s.lost }, 4) else ({ s with wait := s.wait ++ [x] }, 1)
theorem atW_end {L : List C2} (hn : (L.map (·.1)).Nodup) {ks : List K2} {i : Nat} (h : endP L L.length ks = some i) : i < L.length ∧ atW L ks = some (L.getD i blankC) := by
  obtain ⟨h1, h2⟩ := last_some h
  refine ⟨h1, ?_⟩
  cases e : atW L ks with
  | none => exact absurd h2 (atW_none e _ (getW h1))
  | some z =>
    obtain ⟨hz, hk⟩ := atW_some e
    obtain ⟨j, hj, rfl⟩ := List.getElem_of_mem hz
    have h3 := last_live hn hj
    rw [show L.getD j blankC = L[j] by simp [List.getD, hj], show L[j].1 = ks from hk, h] at h3
    cases h3
    simp [List.getD, hj]
theorem atW_noend {L : List C2} {ks : List K2} (h : endP L L.length ks = none) : atW L ks = none := by
  cases e : atW L ks with
  | none => rfl
  | some z =>
    obtain ⟨hz, hk⟩ := atW_some e
    obtain ⟨j, hj, rfl⟩ := List.getElem_of_mem hz
    have := last_none h j hj
    rw [show L.getD j blankC = L[j] by simp [List.getD, hj]] at this
    exact absurd hk this
theorem beq_bytes (a b : ByteArray) : (a.toList == b.toList) = decide (b = a) := by
  rw [str_eq]; exact decide_eq_decide.2 eq_comm
theorem kept_eq {mo sa lo ba sa9 ba9 co9 : Int} {K : List R3} {Wd : List C2} {x : C2} {y y9 : ByteArray} (h : keptM ⟨mo, K, Wd, sa, lo, ba⟩ x = if y9 = y then (⟨mo, K, Wd, moreM sa, lo, ba⟩, 2) else (⟨mo, K, Wd, sa, lo, moreM ba⟩, 3))
    (h1 : sa9 = if (y.toList == y9.toList) = true then bump 1 sa else sa) (h2 : ba9 = if (y.toList == y9.toList) = true then ba else bump 1 ba) (h3 : co9 = if (y.toList == y9.toList) = true then 2 else 3) : keptM ⟨mo, K, Wd, sa, lo, ba⟩ x = (⟨mo, K, Wd, sa9, lo, ba9⟩, co9) := by
  rw [h, h1, h2, h3, beq_bytes]
  by_cases e : y9 = y
  · rw [if_pos e, decide_eq_true e]; rfl
  · rw [if_neg e, decide_eq_false e]; rfl
theorem kept_end {w wA w8 w9 : World} {base n : Nat} {mo sa lo ba : Int} {K : List R3} {Wd : List C2} {vk vw v8 u : Value} {us : List Value} {x : C2} (h : SnO w base ⟨mo, K, Wd, sa, lo, ba⟩ vk vw us) (hb : Below w.heap.size w wA) (hz : wA.heap.size = n + 1) (hn : w.heap.size + 3 ≤ n)
    (hu : w.ownsRow base 43 2 u x.1.length (keyCells x.1)) (hua : ∀ g, u.ownBlock = some g → vw.ownBlock ≠ some g ∧ vk.ownBlock ≠ some g ∧ ∀ i, i < Wd.length → (us.getD i undef).ownBlock ≠ some g)
    (hcd : CdD w8 base v8 (us ++ [u]) (Wd ++ [x])) (hk8 : KeepX (fun k => vw.ownBlock = some k) wA w8) (hl : v8.ownBlock = vw.ownBlock ∨ v8.ownBlock = some wA.heap.size) (hk : KeepX (fun k => k = w.heap.size ∨ k = w.heap.size + 2) w8 w9) :
    SnO w9 base ⟨mo, K, Wd ++ [x], sa, lo, ba⟩ vk v8 (us ++ [u]) ∧ KeepX (fun k => vw.ownBlock = some k) w w9 := by
  have hT : KeepX (fun k => vw.ownBlock = some k) w w9 := ((KeepX.below hb).trans hk8).trans2 hk (fun j hj e => absurd e (by omega))
  have hus : ∀ i, i < (Wd ++ [x]).length → ((us ++ [u]).getD i undef = u) ∨ (i < Wd.length ∧ (us ++ [u]).getD i undef = us.getD i undef) := fun i hi => by
    rw [List.length_append, List.length_singleton] at hi
    rw [getD_app, h.cd.len]
    by_cases h9 : i < Wd.length
    · exact .inr ⟨h9, if_pos h9⟩
    · rw [if_neg h9, show i - Wd.length = 0 by omega]; exact .inl rfl
  have hlt : ∀ i, i < (Wd ++ [x]).length → ∀ g, ((us ++ [u]).getD i undef).ownBlock = some g → g < w.heap.size := fun i hi g e => by
    rcases hus i hi with h9 | ⟨h8, h9⟩
    · rw [h9] at e; exact (hu.lt g e).2
    · rw [h9] at e; exact ((h.cd.keys i h8).lt g e).2
  refine ⟨⟨hT.own h.known (fun g e e2 => h.kw g e e2), hcd.keep hk (fun g e => ?_) (fun i hi g e => by have := hlt i hi g e; omega), fun g e e2 => ?_, fun g e i hi e2 => ?_⟩, hT⟩
  · rcases hl with h9 | h9
    · rw [h9] at e; have := (h.cd.own.lt g e).2; omega
    · rw [h9] at e; have := Option.some.inj e; omega
  · rcases hl with h9 | h9
    · rw [h9] at e2; exact h.kw g e e2
    · rw [h9] at e2; have := Option.some.inj e2; have := (h.known.lt g e).2; omega
  · rcases hus i hi with h9 | ⟨h8, h9⟩
    · rw [h9] at e2; exact (hua g e2).2.1 e
    · rw [h9] at e2; exact h.kk g e i h8 e2
set_option maxRecDepth 100000 in
set_option maxHeartbeats 8000000 in
theorem ikept_any (mo sa lo ba : Int) (Kn : List R3) (Wd : List C2) (vk vw u : Value) (us : List Value) (base : Nat) (xs : List K2) (y : ByteArray) (w : World) (h : SnO w base ⟨mo, Kn, Wd, sa, lo, ba⟩ vk vw us) (hp : SnkP ⟨mo, Kn, Wd, sa, lo, ba⟩) (hx : codeOkB (xs, y) = true)
    (hu : w.ownsRow base 43 2 u xs.length (keyCells xs)) (hua : ∀ g, u.ownBlock = some g → vw.ownBlock ≠ some g ∧ vk.ownBlock ≠ some g ∧ ∀ i, i < Wd.length → (us.getD i undef).ownBlock ≠ some g) (hbase : base ≤ w.heap.size) :
    Calls Try.prog 45 #[snV ⟨mo, Kn, Wd, sa, lo, ba⟩ vk vw, .agg #[u, .string y]] w fun e w' => ∃ vw' us', e = .returned (.tuple #[snV (keptM ⟨mo, Kn, Wd, sa, lo, ba⟩ (xs, y)).1 vk vw', .int .i64 (keptM ⟨mo, Kn, Wd, sa, lo, ba⟩ (xs, y)).2]) ∧ SnO w' base (keptM ⟨mo, Kn, Wd, sa, lo, ba⟩ (xs, y)).1 vk vw' us' ∧ KeepX (fun k => vw.ownBlock = some k) w w' := by
  have HP := Lib.hid hp
  have HX := Lib.hid hx
  have HLEN := Lib.hid (show Wd.length ≤ 12 from by have h1 := hp.room; have h2 := hp.most; dsimp only at h1 h2; omega)
  have HOKS := Lib.hid (fun x (hx : x ∈ Wd) => (hp.wait.ok x hx).1)
  have HNOD := Lib.hid (show (Wd.map (·.1)).Nodup from hp.wait.apart)
  have HUA := Lib.hid hua
  have HU := Lib.hid hu
  clear hp hx hua
  unfold snV
  dsimp only
  have HSN := Lib.hid h
  obtain ⟨ak, nk, ck, rfl⟩ := own_shape h.known
  obtain rfl := own_lenS h.known
  obtain ⟨aw, nw, cw, rfl⟩ := own_shape h.cd.own
  obtain rfl := own_lenS h.cd.own
  obtain ⟨au, nu, cu, rfl⟩ := own_shape hu
  obtain rfl := own_lenS hu
  clear h
  dsimp only at *
  have HKU := Lib.hid (keysAv_ne (b := none) hu (fun g e e2 => by cases e2)).to
  clear hu
  have hb0 := (Below.refl w.heap.size w).alloc (Nat.le_refl _) (.cells #[.int .i64 mo, .slice ak Kn.length ck, .slice aw Wd.length cw, .int .i64 sa, .int .i64 lo, .int .i64 ba] 27)
  have hb1 := hb0.alloc hb0.size (.cells #[.slice au xs.length cu, .string y] 30)
  have hb2 := hb1.alloc hb1.size (.cells #[.int .i64 0, .slice none 0 0, .slice none 0 0, .int .i64 0, .int .i64 0, .int .i64 0] 27)
  have e1 : (w.alloc (.cells #[.int .i64 mo, .slice ak Kn.length ck, .slice aw Wd.length cw, .int .i64 sa, .int .i64 lo, .int .i64 ba] 27)).heap.size = w.heap.size + 1 := by simp
  have e2 : ((w.alloc (.cells #[.int .i64 mo, .slice ak Kn.length ck, .slice aw Wd.length cw, .int .i64 sa, .int .i64 lo, .int .i64 ba] 27)).alloc (.cells #[.slice au xs.length cu, .string y] 30)).heap.size = w.heap.size + 2 := by simp
  have hA := (Below.heap_alloc _ (.cells #[.int .i64 0, .slice none 0 0, .slice none 0 0, .int .i64 0, .int .i64 0, .int .i64 0] 27) w.heap.size (by rw [e2]; omega)).trans (heap_first w (.cells #[.slice au xs.length cu, .string y] 30) (.cells #[.int .i64 mo, .slice ak Kn.length ck, .slice aw Wd.length cw, .int .i64 sa, .int .i64 lo, .int .i64 ba] 27))
  have hB := heap_first (w.alloc (.cells #[.int .i64 mo, .slice ak Kn.length ck, .slice aw Wd.length cw, .int .i64 sa, .int .i64 lo, .int .i64 ba] 27)) (.cells #[.int .i64 0, .slice none 0 0, .slice none 0 0, .int .i64 0, .int .i64 0, .int .i64 0] 27) (.cells #[.slice au xs.length cu, .string y] 30)
  have hC := heap_alloc_new ((w.alloc (.cells #[.int .i64 mo, .slice ak Kn.length ck, .slice aw Wd.length cw, .int .i64 sa, .int .i64 lo, .int .i64 ba] 27)).alloc (.cells #[.slice au xs.length cu, .string y] 30)) (.cells #[.int .i64 0, .slice none 0 0, .slice none 0 0, .int .i64 0, .int .i64 0, .int .i64 0] 27)
  have e3 : (((w.alloc (.cells #[.int .i64 mo, .slice ak Kn.length ck, .slice aw Wd.length cw, .int .i64 sa, .int .i64 lo, .int .i64 ba] 27)).alloc (.cells #[.slice au xs.length cu, .string y] 30)).alloc (.cells #[.int .i64 0, .slice none 0 0, .slice none 0 0, .int .i64 0, .int .i64 0, .int .i64 0] 27)).heap.size = w.heap.size + 3 := by simp
  rw [e1] at hB
  rw [e2] at hC
  have HB := Lib.hid hb2
  have HX2 := Lib.hid hA; have HX3 := Lib.hid hB; have HX4 := Lib.hid hC
  have HE3 := Lib.hid e3
  clear hb0 hb1 hb2 hA hB hC e1 e2 e3
  go_enter Try.func45, Try.ntmps45
  go_upto_region 1 with (fail)
  generalize (((w.alloc (.cells #[.int .i64 mo, .slice ak Kn.length ck, .slice aw Wd.length cw, .int .i64 sa, .int .i64 lo, .int .i64 ba] 27)).alloc (.cells #[.slice au xs.length cu, .string y] 30)).alloc (.cells #[.int .i64 0, .slice none 0 0, .slice none 0 0, .int .i64 0, .int .i64 0, .int .i64 0] 27)) = W at *
  have HPO := Lib.hid (fun wx (hb : Below W.heap.size W wx) => iplacesof_any (.slice aw Wd.length cw) Wd wx (cdAv_below HSN.out.cd.at (HB.out.trans (hb.mono HB.out.size))) (by have := HLEN.out; omega) (fun x hx => setOk_code (HOKS.out x hx)))
  have HSO := Lib.hid (fun wx (hb : Below W.heap.size W wx) => isetof_any (.slice au xs.length cu) xs wx (keysAt_below HKU.out (HB.out.trans (hb.mono HB.out.size))) (setOk_code HX.out).1)
  have HKO := Lib.hid (show ksetOk xs from setOk_code HX.out)
  have LW : ∀ wx : World, Below W.heap.size W wx → (loadVar 25 ⟨w.heap.size, 2, none⟩).run Try.prog wx = .ok (.slice aw Wd.length cw) wx := fun wx hb => ld_cdsY (row6_of ((hb.block _ (Array.getElem?_eq_some_iff.1 HX2.out).1).trans HX2.out)).1.2.2.1
  have LK : ∀ wx : World, Below W.heap.size W wx → (loadVar 28 ⟨w.heap.size + 1, 0, none⟩).run Try.prog wx = .ok (.slice au xs.length cu) wx := fun wx hb => ld_kysY (row2_of ((hb.block _ (Array.getElem?_eq_some_iff.1 HX3.out).1).trans HX3.out)).1
  have HBC := Lib.hid (Below.refl W.heap.size W).drew
  refine wp_region_G (fun wx => Below W.heap.size W wx) (by kernel_rfl) ?_
  refine wpG_seg [true, true, false, true, true] [2] 7 (by kernel_rfl) (by intro c a d v w h; cases d <;> exact h) (by kernel_rfl) HBC.out ?_
  try simp only [maskRows]
  repeat (first
    | go_big_quiet_skip
    | (go_big_quiet_want
       first
         | (go_big_quiet_op; go_big_quiet_on)
         | (refine q_load 25 _ _ _ rfl rfl LW ?_; simp only [Act.put, List.setIfInBounds_toArray, List.set_cons_zero, List.set_cons_succ]; go_big_quiet_on)
         | (refine q_load 28 _ _ _ rfl rfl LK ?_; simp only [Act.put, List.setIfInBounds_toArray, List.set_cons_zero, List.set_cons_succ]; go_big_quiet_on)
         | (go_big_quiet_op; refine ⟨_, fun _ _ => rfl, ?_⟩; go_big_quiet_on)
         | (go_big_quiet_op; refine ⟨_, fun _ _ _ => rfl, ?_⟩; go_big_quiet_on)
         | (go_big_quiet_op; refine ⟨_, fun _ _ _ _ => rfl, ?_⟩; go_big_quiet_on)))
  refine wpQuiet_nil ?_
  refine List.forall_mem_singleton.2 ?_
  refine segt_run rfl (by rfl) (fun K hK => ?_)
  go_simp
  refine (HPO.out _ HBC.out).mono ?_
  rintro e wP ⟨rfl, hpl, hbp⟩
  dsimp only
  have HPL := Lib.hid (show PlI wP W.heap.size (endP Wd Wd.length) (cntP Wd Wd.length) from hpl)
  replace HBC := Lib.hid (HBC.out.trans (hbp.mono HBC.out.size))
  clear hpl hbp
  refine hK _ _ ⟨_, fun _ h => h, HBC.out, ?_⟩
  clear hK K
  try simp only [Act.put, List.setIfInBounds_toArray, List.set_cons_zero, List.set_cons_succ]
  refine wpG_seg [] [5] 6 (by kernel_rfl) (by intro c a d v w h; cases d <;> exact h) (by kernel_rfl) HBC.out ?_
  try simp only [maskRows]
  refine wpQuiet_nil ?_
  refine List.forall_mem_singleton.2 ?_
  refine segt_run rfl (by rfl) (fun K hK => ?_)
  go_simp
  refine (HSO.out _ HBC.out).mono ?_
  rintro e wS ⟨rfl, hbs⟩
  dsimp only
  replace HPL := Lib.hid (HPL.out.below hbs)
  replace HBC := Lib.hid (HBC.out.trans (hbs.mono HBC.out.size))
  clear hbs
  refine hK _ _ ⟨_, fun _ h => h, HBC.out, ?_⟩
  clear hK K
  try simp only [Act.put, List.setIfInBounds_toArray, List.set_cons_zero, List.set_cons_succ]
  refine wpG_seg [] [6] 5 (by kernel_rfl) (by intro c a d v w h; cases d <;> exact h) (by kernel_rfl) HBC.out ?_
  try simp only [maskRows]
  refine wpQuiet_nil ?_
  refine List.forall_mem_singleton.2 ?_
  have hlk := HPL.out.look HKO.out
  rw [show atP (endP Wd Wd.length) xs = .tuple #[.int .i64 (((endP Wd Wd.length xs).getD 0 : Nat) : Int), .bool (endP Wd Wd.length xs).isSome] from rfl] at hlk
  refine segt_run rfl (by rfl) (fun K hK => ?_)
  go_simp
  clear hlk
  refine hK _ _ ⟨_, fun _ h => h, HBC.out, ?_⟩
  clear hK K
  try simp only [Act.put, List.setIfInBounds_toArray, List.set_cons_zero, List.set_cons_succ]
  refine wpG_end [false, false, false, false, false, false, false, true, true, true, true, true] (by kernel_rfl) (by intro c a d v w h; cases d <;> exact h) (by kernel_rfl) HBC.out ?_
  try simp only [maskRows]
  repeat (first
    | go_big_quiet_skip
    | (go_big_quiet_want
       first
         | (go_big_quiet_op; go_big_quiet_on)
         | (refine q_load 25 _ _ _ rfl rfl LW ?_; simp only [Act.put, List.setIfInBounds_toArray, List.set_cons_zero, List.set_cons_succ]; go_big_quiet_on)
         | (refine q_load 28 _ _ _ rfl rfl LK ?_; simp only [Act.put, List.setIfInBounds_toArray, List.set_cons_zero, List.set_cons_succ]; go_big_quiet_on)
         | (go_big_quiet_op; refine ⟨_, fun _ _ => rfl, ?_⟩; go_big_quiet_on)
         | (go_big_quiet_op; refine ⟨_, fun _ _ _ => rfl, ?_⟩; go_big_quiet_on)
         | (go_big_quiet_op; refine ⟨_, fun _ _ _ _ => rfl, ?_⟩; go_big_quiet_on)))
  refine wpQuiet_nil ?_
  cases hE : endP Wd Wd.length xs with
  | some i =>
    simp only [Option.getD_some, Option.isSome_some]
    obtain ⟨hi, hat⟩ := atW_end HNOD.out hE
    have HKM := Lib.hid (show keptM ⟨mo, Kn, Wd, sa, lo, ba⟩ (xs, y) = if (Wd.getD i blankC).2 = y then (⟨mo, Kn, Wd, moreM sa, lo, ba⟩, 2) else (⟨mo, Kn, Wd, sa, lo, moreM ba⟩, 3) from by unfold keptM; dsimp only; rw [hat])
    clear hat HPL
    obtain ⟨a9, c9, e9, hcap, hcells⟩ := HSN.out.cd.at
    cases e9
    obtain ⟨g, off, rfl, hg, hcs⟩ := hcells.resolve_left (show ¬ Wd.length = 0 by omega)
    obtain ⟨u9, c1, c2, c3⟩ := hcs i hi
    have z0 : (0 : Int) ≤ (i : Int) := by omega
    have z1 : (i : Int) < (Wd.length : Int) := by omega
    have LY9 : ∀ wx : World, KeepX (fun k => k = w.heap.size + 1 + 1) W wx → (loadVar 9 ⟨g, off + i * 2 + 1, none⟩).run Try.prog wx = .ok (.string (Wd.getD i blankC).2) wx := fun wx hb => ld_strY (((hb.toBelow HB.out HB.out.size (fun k e => by omega)).cell (p := ⟨g, off + i * 2 + 1, none⟩) hg).trans c2)
    have LY : ∀ wx : World, KeepX (fun k => k = w.heap.size + 1 + 1) W wx → (loadVar 9 ⟨w.heap.size + 1, 1, none⟩).run Try.prog wx = .ok (.string y) wx := fun wx hb => ld_strY (row2_of (hb.row HX3.out (by omega))).c1
    have LS : ∀ wx : World, KeepX (fun k => k = w.heap.size + 1 + 1) W wx → (loadVar 27 ⟨w.heap.size, 0, none⟩).run Try.prog wx = .ok (.agg #[.int .i64 mo, .slice ak Kn.length ck, .slice (some ⟨g, off, none⟩) Wd.length cw, .int .i64 sa, .int .i64 lo, .int .i64 ba]) wx := fun wx hb => sn_load (hb.row HX2.out (by omega))
    replace LW : ∀ wx : World, KeepX (fun k => k = w.heap.size + 1 + 1) W wx → (loadVar 25 ⟨w.heap.size, 2, none⟩).run Try.prog wx = .ok (.slice (some ⟨g, off, none⟩) Wd.length cw) wx := fun wx hb => ld_cdsY (row6_of (hb.row HX2.out (by omega))).1.2.2.1
    have HHI := Lib.hid hi
    generalize (Wd.getD i blankC).2 = y9 at *
    clear hcs hcells c1 c2 c3 hE hi
    go_upto_region 3 with (fail)
    have HBK := Lib.hid HBC.out.drew
    replace HBC := Lib.hid (show KeepX (fun k => k = w.heap.size + 1 + 1) W wS.drew from KeepX.below HBC.out.drew)
    refine wp_region_G (fun wx => KeepX (fun k => k = w.heap.size + 1 + 1) W wx) (by kernel_rfl) ?_
    refine wpG_seg [true, true, true, true, true, true, true, true, true, true] [10] 4 (by kernel_rfl) (by intro c a d v w h; cases d <;> exact h) (by kernel_rfl) HBC.out ?_
    try simp only [maskRows]
    repeat (first
      | go_big_quiet_skip
      | (go_big_quiet_want
         first
           | (go_big_quiet_op; go_big_quiet_on)
           | (refine q_load 25 _ _ _ rfl rfl LW ?_; simp only [Act.put, List.setIfInBounds_toArray, List.set_cons_zero, List.set_cons_succ]; go_big_quiet_on)
           | (refine q_load 9 _ _ _ rfl rfl LY ?_; simp only [Act.put, List.setIfInBounds_toArray, List.set_cons_zero, List.set_cons_succ]; go_big_quiet_on)
           | (refine q_load 9 _ _ _ rfl rfl LY9 ?_; simp only [Act.put, List.setIfInBounds_toArray, List.set_cons_zero, List.set_cons_succ]; go_big_quiet_on)
           | (refine q_load 27 _ _ _ rfl rfl LS ?_; simp only [Act.put, List.setIfInBounds_toArray, List.set_cons_zero, List.set_cons_succ]; go_big_quiet_on)
           | (go_big_quiet_op; refine ⟨_, fun _ _ => rfl, ?_⟩; go_big_quiet_on)
           | (go_big_quiet_op; refine ⟨_, fun _ _ _ => rfl, ?_⟩; go_big_quiet_on)
           | (go_big_quiet_op; refine ⟨_, fun _ _ _ _ => rfl, ?_⟩; go_big_quiet_on)))
    refine wpQuiet_nil ?_
    refine List.forall_mem_singleton.2 ?_
    refine segt_run rfl (by rfl) (fun K hK => ?_)
    go_simp
    obtain ⟨sa9, hsa⟩ : ∃ z, z = (if (y.toList == y9.toList) = true then bump 1 sa else sa) := ⟨_, rfl⟩
    obtain ⟨ba9, hba⟩ : ∃ z, z = (if (y.toList == y9.toList) = true then ba else bump 1 ba) := ⟨_, rfl⟩
    obtain ⟨co9, hco⟩ : ∃ z : Int, z = (if (y.toList == y9.toList) = true then 2 else 3) := ⟨_, rfl⟩
    have HKV := Lib.hid (show keptM ⟨mo, Kn, Wd, sa, lo, ba⟩ (xs, y) = (⟨mo, Kn, Wd, sa9, lo, ba9⟩, co9) from kept_eq HKM.out hsa hba hco)
    refine (icompared_any mo sa lo ba ak (some ⟨g, off, none⟩) Kn.length ck Wd.length cw (y.toList == y9.toList) _ HP.out.same HP.out.bad).mono ?_
    rintro e w10 ⟨rfl, hb10⟩
    dsimp only
    rw [← hsa, ← hba, ← hco]
    have hk10 := (HBK.out.trans (hb10.mono HBK.out.size))
    replace HBC := Lib.hid (HBC.out.trans (KeepX.below hb10))
    clear hb10 hsa hba hco
    refine hK _ _ ⟨_, fun _ h => h, HBC.out, ?_⟩
    clear hK K
    try simp only [Act.put, List.setIfInBounds_toArray, List.set_cons_zero, List.set_cons_succ]
    refine wpG_seg [false, false, false, false, false, false, false, false, false, false, false, true, true] [13] 1 (by kernel_rfl) (by intro c a d v w h; cases d <;> exact h) (by kernel_rfl) HBC.out ?_
    try simp only [maskRows]
    repeat (first
      | go_big_quiet_skip
      | (go_big_quiet_want
         first
           | (go_big_quiet_op; go_big_quiet_on)
           | (refine q_load 25 _ _ _ rfl rfl LW ?_; simp only [Act.put, List.setIfInBounds_toArray, List.set_cons_zero, List.set_cons_succ]; go_big_quiet_on)
           | (refine q_load 9 _ _ _ rfl rfl LY ?_; simp only [Act.put, List.setIfInBounds_toArray, List.set_cons_zero, List.set_cons_succ]; go_big_quiet_on)
           | (refine q_load 9 _ _ _ rfl rfl LY9 ?_; simp only [Act.put, List.setIfInBounds_toArray, List.set_cons_zero, List.set_cons_succ]; go_big_quiet_on)
           | (refine q_load 27 _ _ _ rfl rfl LS ?_; simp only [Act.put, List.setIfInBounds_toArray, List.set_cons_zero, List.set_cons_succ]; go_big_quiet_on)
           | (go_big_quiet_op; refine ⟨_, fun _ _ => rfl, ?_⟩; go_big_quiet_on)
           | (go_big_quiet_op; refine ⟨_, fun _ _ _ => rfl, ?_⟩; go_big_quiet_on)
           | (go_big_quiet_op; refine ⟨_, fun _ _ _ _ => rfl, ?_⟩; go_big_quiet_on)))
    refine wpQuiet_nil ?_
    refine List.forall_mem_singleton.2 ?_
    have HX5 := Lib.hid (show w10.heap[w.heap.size + 1 + 1]? = _ from (hk10.block (w.heap.size + 2) (Array.getElem?_eq_some_iff.1 HX4.out).1).trans HX4.out)
    obtain ⟨⟨y0, y1, y2, y3, y4, y5⟩, f0, f1, f2, f3, f4, f5⟩ := row6_of HX5.out
    refine segt_run rfl (by rfl) (fun K hK => ?_)
    go_simp
    have HF := Lib.hid (sn_set HX5.out (.int .i64 mo) (.slice ak Kn.length ck) (.slice (some ⟨g, off, none⟩) Wd.length cw) (.int .i64 sa9) (.int .i64 lo) (.int .i64 ba9))
    replace HBC := Lib.hid (show KeepX (fun k => k = w.heap.size + 1 + 1) W (set6 w10 (w.heap.size + 1 + 1) (.int .i64 mo) (.slice ak Kn.length ck) (.slice (some ⟨g, off, none⟩) Wd.length cw) (.int .i64 sa9) (.int .i64 lo) (.int .i64 ba9)) from ((((((HBC.out.set (w.heap.size + 1 + 1) 0 (.int .i64 mo) rfl).set (w.heap.size + 1 + 1) 1 (.slice ak Kn.length ck) rfl).set (w.heap.size + 1 + 1) 2 (.slice (some ⟨g, off, none⟩) Wd.length cw) rfl).set (w.heap.size + 1 + 1) 3 (.int .i64 sa9) rfl).set (w.heap.size + 1 + 1) 4 (.int .i64 lo) rfl).set (w.heap.size + 1 + 1) 5 (.int .i64 ba9) rfl))
    clear y0 y1 y2 y3 y4 y5 f0 f1 f2 f3 f4 f5 HX5
    refine hK _ _ ⟨_, fun _ h => h, HBC.out, ?_⟩
    clear hK K
    try simp only [Act.put, List.setIfInBounds_toArray, List.set_cons_zero, List.set_cons_succ]
    refine wpG_end [false, false, false, false, false, false, false, false, false, false, false, false, false, false, true] (by kernel_rfl) (by intro c a d v w h; cases d <;> exact h) (by kernel_rfl) HBC.out ?_
    try simp only [maskRows]
    repeat (first
      | go_big_quiet_skip
      | (go_big_quiet_want
         first
           | (go_big_quiet_op; go_big_quiet_on)
           | (refine q_load 25 _ _ _ rfl rfl LW ?_; simp only [Act.put, List.setIfInBounds_toArray, List.set_cons_zero, List.set_cons_succ]; go_big_quiet_on)
           | (refine q_load 9 _ _ _ rfl rfl LY ?_; simp only [Act.put, List.setIfInBounds_toArray, List.set_cons_zero, List.set_cons_succ]; go_big_quiet_on)
           | (refine q_load 9 _ _ _ rfl rfl LY9 ?_; simp only [Act.put, List.setIfInBounds_toArray, List.set_cons_zero, List.set_cons_succ]; go_big_quiet_on)
           | (refine q_load 27 _ _ _ rfl rfl LS ?_; simp only [Act.put, List.setIfInBounds_toArray, List.set_cons_zero, List.set_cons_succ]; go_big_quiet_on)
           | (go_big_quiet_op; refine ⟨_, fun _ _ => rfl, ?_⟩; go_big_quiet_on)
           | (go_big_quiet_op; refine ⟨_, fun _ _ _ => rfl, ?_⟩; go_big_quiet_on)
           | (go_big_quiet_op; refine ⟨_, fun _ _ _ _ => rfl, ?_⟩; go_big_quiet_on)))
    refine wpQuiet_nil ?_
    go_wp2
    refine bodyPost_ret (v := .tuple #[.agg #[.int .i64 mo, .slice ak Kn.length ck, .slice (some ⟨g, off, none⟩) Wd.length cw, .int .i64 sa9, .int .i64 lo, .int .i64 ba9], .int .i64 co9]) ?_ rfl ?_
    · rw [results_cell_tmp (p := 4) (u := 5) (ty := 27) (by kernel_rfl)]
      have l2 := sn_load HF.out
      simp [asAddr, Result.andThen, l2, Act.put]
    · rw [HKV.out]
      have hbf := HBC.out.toBelow HB.out HB.out.size (fun k e => by omega)
      have hs := HSN.out.below hbf
      exact ⟨_, rfl, ⟨us, ⟨hs.known, hs.cd, hs.kw, hs.kk⟩⟩, KeepX.below hbf⟩
  | none =>
    simp only [Option.getD_none, Option.isSome_none]
    have HKM := Lib.hid (show keptM ⟨mo, Kn, Wd, sa, lo, ba⟩ (xs, y) = if (Wd.length : Int) = mo then (⟨mo, Kn, Wd, sa, moreM lo, ba⟩, 4) else (⟨mo, Kn, Wd ++ [(xs, y)], sa, lo, ba⟩, 1) from by unfold keptM; dsimp only; rw [atW_noend hE])
    clear hE HPL LW LK
    have HS2 := Lib.hid ((HBC.out.block _ (Array.getElem?_eq_some_iff.1 HX2.out).1).trans HX2.out)
    have HC2 := Lib.hid ((HBC.out.block _ (Array.getElem?_eq_some_iff.1 HX3.out).1).trans HX3.out)
    have HT2 := Lib.hid ((HBC.out.block _ (Array.getElem?_eq_some_iff.1 HX4.out).1).trans HX4.out)
    have HBW := Lib.hid (HB.out.trans (HBC.out.mono HB.out.size))
    have HGE := Lib.hid (show w.heap.size + 3 ≤ wS.heap.size by have := HE3.out; have := HBC.out.size; omega)
    clear HBC HPO HSO
    obtain ⟨⟨x0, x1, x2, x3, x4, x5⟩, f0, f1, f2, f3, f4, f5⟩ := row6_of HS2.out
    by_cases hm : (Wd.length : Int) = mo
    · have hmb : ((Wd.length : Int) == mo) = true := by simp [hm]
      have HKV := Lib.hid (HKM.out.trans (if_pos hm))
      have HCT := Lib.hid (icounted_any lo 1 wS HP.out.lost (by omega))
      go_upto_region 5 with (fail)
      go_upto_region 6 with (
        go_at_call 95
        refine HCT.out.mono ?_
        rintro e w11 ⟨rfl, rfl⟩
        dsimp only)
      clear hmb hm
      have HS7 := Lib.hid (show (w11.setCell ⟨w.heap.size, 4, none⟩ (.int .i64 (bump 1 lo))).heap[w.heap.size]? = some (.cells #[.int .i64 mo, .slice ak Kn.length ck, .slice aw Wd.length cw, .int .i64 sa, .int .i64 (bump 1 lo), .int .i64 ba] 27 (0, 0)) from set_cellsR _ HS2.out)
      have HT7 := Lib.hid ((Below.heap_setCell w11 ⟨w.heap.size, 4, none⟩ (.int .i64 (bump 1 lo)) (w.heap.size + 2) (by show _ ≠ w.heap.size; omega)).trans HT2.out)
      have HB7 := Lib.hid (HBW.out.setCell (p := ⟨w.heap.size, 4, none⟩) (Nat.le_refl _) (.int .i64 (bump 1 lo)))
      generalize w11.setCell ⟨w.heap.size, 4, none⟩ (.int .i64 (bump 1 lo)) = w7 at *
      clear x0 x1 x2 x3 x4 x5 f0 f1 f2 f3 f4 f5 HS2 HC2 HT2 HCT
      have HBF := Lib.hid (below_setRow HB7.out (b := w.heap.size + 2) (Nat.le_refl _) (by omega) #[.int .i64 mo, .slice ak Kn.length ck, .slice aw Wd.length cw, .int .i64 sa, .int .i64 (bump 1 lo), .int .i64 ba])
      have LT := Lib.hid (sn_load (setRow_heap w7 (w.heap.size + 2) _ #[.int .i64 mo, .slice ak Kn.length ck, .slice aw Wd.length cw, .int .i64 sa, .int .i64 (bump 1 lo), .int .i64 ba] 27 (0, 0) HT7.out))
      apply wp_region_lit
      refine wpList_load_row rfl 27 (.tmp 2) rfl w.heap.size rfl 27 #[.int .i64 mo, .slice ak Kn.length ck, .slice aw Wd.length cw, .int .i64 sa, .int .i64 (bump 1 lo), .int .i64 ba] (0, 0) _ HS7.out Try.underlying27 rfl (by kernel_rfl) ?_
      refine wpList_store_rowTo rfl 27 (.tmp 4) (.tmp 42) rfl rfl (w.heap.size + 2) #[.int .i64 mo, .slice ak Kn.length ck, .slice aw Wd.length cw, .int .i64 sa, .int .i64 (bump 1 lo), .int .i64 ba] rfl rfl 27 #[.int .i64 0, .slice none 0 0, .slice none 0 0, .int .i64 0, .int .i64 0, .int .i64 0] HT7.out (by kernel_rfl) rfl (by simp [Value.oneCell']) ?_
      generalize w7.setRow (w.heap.size + 2) #[.int .i64 mo, .slice ak Kn.length ck, .slice aw Wd.length cw, .int .i64 sa, .int .i64 (bump 1 lo), .int .i64 ba] = w9 at *
      go_wp2
      refine bodyPost_ret (v := .tuple #[.agg #[.int .i64 mo, .slice ak Kn.length ck, .slice aw Wd.length cw, .int .i64 sa, .int .i64 (bump 1 lo), .int .i64 ba], .int .i64 4]) ?_ rfl ?_
      · rw [results_cell_tmp (p := 4) (u := 5) (ty := 27) (by kernel_rfl)]
        have l2 := LT.out
        simp [asAddr, Result.andThen, l2, Act.put]
      · rw [HKV.out]
        have hs := HSN.out.below HBF.out
        first
          | exact ⟨_, us, rfl, ⟨hs.known, hs.cd, hs.kw, hs.kk⟩, KeepX.below HBF.out⟩
          | exact ⟨_, rfl, ⟨us, ⟨hs.known, hs.cd, hs.kw, hs.kk⟩⟩, KeepX.below HBF.out⟩
    · have hmb : ((Wd.length : Int) == mo) = false := by simp [hm]
      have HKV := Lib.hid (HKM.out.trans (if_neg hm))
      have hb7 := (Below.refl wS.heap.size wS).alloc (Nat.le_refl _) (.cells #[.slice au xs.length cu, .string y] 30)
      have HBA := Lib.hid (HBW.out.trans (hb7.mono HBW.out.size))
      have HCD7 := Lib.hid (HSN.out.cd.below HBA.out)
      have HL7 := Lib.hid (heap_alloc_new wS (.cells #[.slice au xs.length cu, .string y] 30))
      have HU7 := Lib.hid (own_below HU.out HBA.out)
      have HS6 := Lib.hid ((hb7.block _ (Array.getElem?_eq_some_iff.1 HS2.out).1).trans HS2.out)
      have HT6 := Lib.hid ((hb7.block _ (Array.getElem?_eq_some_iff.1 HT2.out).1).trans HT2.out)
      have hne7 : ∀ b, (Value.slice au xs.length cu).ownBlock = some b → (Value.slice aw Wd.length cw).ownBlock ≠ some b := fun b e => (HUA.out b e).1
      have hdi7 : ∀ i, i < Wd.length → ∀ b, (Value.slice au xs.length cu).ownBlock = some b → (us.getD i undef).ownBlock ≠ some b := fun i hi b e => (HUA.out b e).2.2 i hi
      have hll : Wd.length ≤ 1000000 := by have := HLEN.out; omega
      have hbs7 : base ≤ (wS.alloc (.cells #[.slice au xs.length cu, .string y] 30)).heap.size := Nat.le_trans hbase HBA.out.size
      have HSZ7 := Lib.hid (show (wS.alloc (.cells #[.slice au xs.length cu, .string y] 30)).heap.size = wS.heap.size + 1 by simp)
      obtain ⟨y0, y1, -, -⟩ := row2_of HC2.out
      go_upto_region 7 with (fail)
      clear hmb hm hb7
      go_upto_region 8 with (at_builtin; refine wpList_append_cdd rfl (.tmp 44) (.tmp 46) rfl HCD7.out wS.heap.size 1 (.slice au xs.length cu) (xs, y) HL7.out HU7.out hne7 hdi7 rfl rfl hll hbs7 ?_; intro v8 w8 hcd8 hg8 hl8; obtain ⟨a8, n8, c8, rfl⟩ := own_shape hcd8.own; have HCD8 := Lib.hid hcd8; have HL8 := Lib.hid hl8; have HK8 := Lib.hid (show KeepX (fun k => (Value.slice aw Wd.length cw).ownBlock = some k) (wS.alloc (.cells #[.slice au xs.length cu, .string y] 30)) w8 from KeepX.grown hg8 (fun k e => e)); have HS8 := Lib.hid (HK8.out.row HS6.out (fun e => by have := (HSN.out.cd.own.lt _ e).2; omega)); clear hcd8 hg8 hl8 x0 x1 x2 x3 x4 x5 f0 f1 f2 f3 f4 f5; obtain ⟨⟨x0, x1, x2, x3, x4, x5⟩, f0, f1, f2, f3, f4, f5⟩ := row6_of HS8.out)
      have HT8 := Lib.hid (HK8.out.row HT6.out (fun e => by have := (HSN.out.cd.own.lt _ e).2; omega))
      have HS7 := Lib.hid (show (w8.setCell ⟨w.heap.size, 2, none⟩ (.slice a8 n8 c8)).heap[w.heap.size]? = some (.cells #[.int .i64 mo, .slice ak Kn.length ck, .slice a8 n8 c8, .int .i64 sa, .int .i64 lo, .int .i64 ba] 27 (0, 0)) from set_cellsR _ HS8.out)
      have HT7 := Lib.hid ((Below.heap_setCell w8 ⟨w.heap.size, 2, none⟩ (.slice a8 n8 c8) (w.heap.size + 2) (by show _ ≠ w.heap.size; omega)).trans HT8.out)
      have HK7 := Lib.hid ((KeepX.refl (fun k => k = w.heap.size ∨ k = w.heap.size + 2) w8).set w.heap.size 2 (.slice a8 n8 c8) (.inl rfl))
      generalize w8.setCell ⟨w.heap.size, 2, none⟩ (.slice a8 n8 c8) = w7 at *
      clear x0 x1 x2 x3 x4 x5 f0 f1 f2 f3 f4 f5 y0 y1 hne7 hdi7 hll hbs7
      have HKF := Lib.hid (HK7.out.trans (show KeepX (fun k => k = w.heap.size ∨ k = w.heap.size + 2) w7 (w7.setRow (w.heap.size + 2) #[.int .i64 mo, .slice ak Kn.length ck, .slice a8 n8 c8, .int .i64 sa, .int .i64 lo, .int .i64 ba]) from ⟨rfl, rfl, rfl, Nat.le_of_eq (size_setRow _ _ _).symm, fun k hk hn => setRow_other _ _ _ _ (fun e => hn (.inr e))⟩))
      have LT := Lib.hid (sn_load (setRow_heap w7 (w.heap.size + 2) _ #[.int .i64 mo, .slice ak Kn.length ck, .slice a8 n8 c8, .int .i64 sa, .int .i64 lo, .int .i64 ba] 27 (0, 0) HT7.out))
      apply wp_region_lit
      refine wpList_load_row rfl 27 (.tmp 2) rfl w.heap.size rfl 27 #[.int .i64 mo, .slice ak Kn.length ck, .slice a8 n8 c8, .int .i64 sa, .int .i64 lo, .int .i64 ba] (0, 0) _ HS7.out Try.underlying27 rfl (by kernel_rfl) ?_
      refine wpList_store_rowTo rfl 27 (.tmp 4) (.tmp 49) rfl rfl (w.heap.size + 2) #[.int .i64 mo, .slice ak Kn.length ck, .slice a8 n8 c8, .int .i64 sa, .int .i64 lo, .int .i64 ba] rfl rfl 27 #[.int .i64 0, .slice none 0 0, .slice none 0 0, .int .i64 0, .int .i64 0, .int .i64 0] HT7.out (by kernel_rfl) rfl (by simp [Value.oneCell']) ?_
      generalize w7.setRow (w.heap.size + 2) #[.int .i64 mo, .slice ak Kn.length ck, .slice a8 n8 c8, .int .i64 sa, .int .i64 lo, .int .i64 ba] = w9 at *
      go_wp2
      refine bodyPost_ret (v := .tuple #[.agg #[.int .i64 mo, .slice ak Kn.length ck, .slice a8 n8 c8, .int .i64 sa, .int .i64 lo, .int .i64 ba], .int .i64 1]) ?_ rfl ?_
      · rw [results_cell_tmp (p := 4) (u := 5) (ty := 27) (by kernel_rfl)]
        have l2 := LT.out
        simp [asAddr, Result.andThen, l2, Act.put]
      · rw [HKV.out]
        have hKE := kept_end (x := (xs, y)) HSN.out HBA.out HSZ7.out HGE.out HU.out HUA.out HCD8.out HK8.out HL8.out HKF.out
        exact ⟨_, rfl, ⟨us ++ [.slice au xs.length cu], hKE.1⟩, hKE.2⟩
end Go.Proofs.Ytadjmfhhpkjpaaa
namespace Go.Proofs.Ytadjmfhhpkjpaaa
open Go.ChangeShapes Go.WideShapes Go.ChangeAt Go.RowKit Go.BigFrame Go.Maps
set_option linter.unusedVariables false
set_option linter.unusedSimpArgs false

theorem take_wrong {s : Snk} {x : C2} (h : ¬ SnkP s) : takeM s x = (noSnk, 5) := by unfold takeM; rw [if_pos h]
theorem take_bad {s : Snk} {x : C2} (h : SnkP s) (hx : codeOkB x = false ∨ x.1.length = 0) : takeM s x = (s, 5) := by unfold takeM; rw [if_neg (not_not_intro h), if_pos hx]
theorem take_one {s : Snk} {x : C2} (h : SnkP s) (hx : ¬ (codeOkB x = false ∨ x.1.length = 0)) (h1 : (redM x s.known).1.length = 1) : takeM s x = (learnAll s [((redM x s.known).1.headD (0, 0), (redM x s.known).2)], 0) := by unfold takeM; rw [if_neg (not_not_intro h), if_neg hx, if_pos h1]
theorem take_nil {s : Snk} {x : C2} (h : SnkP s) (hx : ¬ (codeOkB x = false ∨ x.1.length = 0)) (h1 : (redM x s.known).1.length = 0) : takeM s x = if (redM x s.known).2 = z4 then ({ s with same := moreM s.same }, 2) else ({ s with bad := moreM s.bad }, 3) := by
  have e : atW s.wait (redM x s.known).1 = none := by
    cases e : atW s.wait (redM x s.known).1 with
    | none => rfl
    | some z =>
      obtain ⟨hz, hk⟩ := atW_some e
      have := (h.wait.ok z hz).2.1
      rw [hk, h1] at this
      omega
  unfold takeM
  rw [if_neg (not_not_intro h), if_neg hx, if_neg (by omega), e]
  dsimp only
  rw [if_pos h1]
theorem take_more {s : Snk} {x : C2} (h : SnkP s) (hx : ¬ (codeOkB x = false ∨ x.1.length = 0)) (h1 : (redM x s.known).1.length ≠ 1) (h0 : (redM x s.known).1.length ≠ 0) : takeM s x = keptM s (redM x s.known) := by
  unfold takeM keptM
  rw [if_neg (not_not_intro h), if_neg hx, if_neg h1]
  cases atW s.wait (redM x s.known).1 with
  | some z => rfl
  | none => dsimp only; rw [if_neg h0]
theorem noSnO {W : World} {base : Nat} : SnO W base noSnk (.slice none 0 0) (.slice none 0 0) [] :=
  ⟨World.ownsRow_nil .., CdD.nil _ _, fun g e => (by simp [Value.ownBlock] at e), fun g e => (by simp [Value.ownBlock] at e)⟩
theorem SnO.base {w : World} {base base' : Nat} {s : Snk} {vk vw : Value} {us : List Value} (h : SnO w base' s vk vw us) (hb : base ≤ base') : SnO w base s vk vw us :=
  ⟨own_base h.known hb, ⟨h.cd.len, own_base h.cd.own hb, fun i hi => own_base (h.cd.keys i hi) hb, h.cd.ne, h.cd.dist⟩, h.kw, h.kk⟩
/-- between the calls: the copied sink, its box, the word's and the answer's -/
structure TkI (w W : World) (n : Nat) (mo sa lo ba : Int) (K : List R3) (Wd : List C2) (vk vw : Value) (us : List Value) (u : Value) (y : ByteArray) : Prop where
  below : Below w.heap.size w W
  sn : SnO W n ⟨mo, K, Wd, sa, lo, ba⟩ vk vw us
  hs : W.heap[w.heap.size]? = some (.cells #[.int .i64 mo, vk, vw, .int .i64 sa, .int .i64 lo, .int .i64 ba] 27 (0, 0))
  hc : W.heap[w.heap.size + 1]? = some (.cells #[u, .string y] 30 (0, 0))
  ht : W.heap[w.heap.size + 1 + 1]? = some (.cells #[.int .i64 0, .slice none 0 0, .slice none 0 0, .int .i64 0, .int .i64 0, .int .i64 0] 27 (0, 0))
  n : w.heap.size + 3 ≤ n ∧ n ≤ W.heap.size
section
variable {w W W' w3 : World} {n : Nat} {mo sa lo ba : Int} {K : List R3} {Wd : List C2} {vk vw u v1 v2 : Value} {us : List Value} {y : ByteArray}
theorem TkI.next (h : TkI w W n mo sa lo ba K Wd vk vw us u y) (hb : Below W.heap.size W W') : TkI w W' n mo sa lo ba K Wd vk vw us u y :=
  ⟨h.below.trans (hb.mono h.below.size), h.sn.below hb, (hb.block _ (Array.getElem?_eq_some_iff.1 h.hs).1).trans h.hs, (hb.block _ (Array.getElem?_eq_some_iff.1 h.hc).1).trans h.hc, (hb.block _ (Array.getElem?_eq_some_iff.1 h.ht).1).trans h.ht, h.n.1, Nat.le_trans h.n.2 hb.size⟩
theorem TkI.first (hb : Below w.heap.size w w3) (hs : SnO w3 n ⟨mo, K, Wd, sa, lo, ba⟩ vk vw us) (h1 : w3.heap[w.heap.size]? = some (.cells #[.int .i64 mo, v1, v2, .int .i64 sa, .int .i64 lo, .int .i64 ba] 27 (0, 0)))
    (h2 : w3.heap[w.heap.size + 1]? = some (.cells #[u, .string y] 30 (0, 0))) (h3 : w3.heap[w.heap.size + 1 + 1]? = some (.cells #[.int .i64 0, .slice none 0 0, .slice none 0 0, .int .i64 0, .int .i64 0, .int .i64 0] 27 (0, 0))) (hn : w.heap.size + 3 ≤ n ∧ n ≤ w3.heap.size) :
    TkI w (set6 w3 w.heap.size (.int .i64 mo) vk vw (.int .i64 sa) (.int .i64 lo) (.int .i64 ba)) n mo sa lo ba K Wd vk vw us u y := by
  have hk : KeepX (fun k => k = w.heap.size) w3 (set6 w3 w.heap.size (.int .i64 mo) vk vw (.int .i64 sa) (.int .i64 lo) (.int .i64 ba)) := ((((((KeepX.refl (fun k => k = w.heap.size) w3).set w.heap.size 0 _ rfl).set w.heap.size 1 _ rfl).set w.heap.size 2 _ rfl).set w.heap.size 3 _ rfl).set w.heap.size 4 _ rfl).set w.heap.size 5 _ rfl
  refine ⟨sn_setB hb (Nat.le_refl _) _ _ _ _ _ _, hs.keep hk (fun g e e2 => ?_) (fun g e e2 => ?_) (fun i hi g e e2 => ?_), sn_set h1 _ _ _ _ _ _, hk.row h2 (by omega), hk.row h3 (by omega), hn.1, Nat.le_trans hn.2 hk.size⟩
  · have := (hs.known.lt g e).1; omega
  · have := (hs.cd.own.lt g e).1; omega
  · have := ((hs.cd.keys i hi).lt g e).1; omega
theorem TkI.done (h : TkI w W n mo sa lo ba K Wd vk vw us u y) (vs : Array Value) : SnO (W.setRow (w.heap.size + 2) vs) w.heap.size ⟨mo, K, Wd, sa, lo, ba⟩ vk vw us ∧ Below w.heap.size w (W.setRow (w.heap.size + 2) vs) := by
  have hk : KeepX (fun k => k = w.heap.size + 2) W (W.setRow (w.heap.size + 2) vs) := ⟨rfl, rfl, rfl, Nat.le_of_eq (size_setRow _ _ _).symm, fun k hk hn => setRow_other _ _ _ _ hn⟩
  have hn := h.n
  refine ⟨(h.sn.keep hk (fun g e e2 => ?_) (fun g e e2 => ?_) (fun i hi g e e2 => ?_)).base (by omega), below_setRow h.below (Nat.le_refl _) (by omega) vs⟩
  · have := (h.sn.known.lt g e).1; omega
  · have := (h.sn.cd.own.lt g e).1; omega
  · have := ((h.sn.cd.keys i hi).lt g e).1; omega
theorem tk_apart {v6 : Value} {w6 : World} {m : Nat} {xs6 : List Value} (h : TkI w W n mo sa lo ba K Wd vk vw us u y) (hv : w6.ownsRow W.heap.size 43 2 v6 m xs6) :
    ∀ g, v6.ownBlock = some g → vw.ownBlock ≠ some g ∧ vk.ownBlock ≠ some g ∧ ∀ i, i < Wd.length → (us.getD i undef).ownBlock ≠ some g := by
  intro g hg
  have hl := (hv.lt g hg).1
  refine ⟨fun e => ?_, fun e => ?_, fun i hi e => ?_⟩
  · have := (h.sn.cd.own.lt g e).2; omega
  · have := (h.sn.known.lt g e).2; omega
  · have := ((h.sn.cd.keys i hi).lt g e).2; omega
theorem TkI.fin {Y : Nat → Prop} {s : Snk} {vk' vw' : Value} {us' : List Value} {w8 w9 : World} (h : TkI w W n mo sa lo ba K Wd vk vw us u y) (hs : SnO w8 n s vk' vw' us') (h8 : KeepX Y W w8) (hY : ∀ k, Y k → w.heap.size ≤ k) (hk : KeepX (fun k => k = w.heap.size + 1 + 1) w8 w9) : SnO w9 w.heap.size s vk' vw' us' ∧ Below w.heap.size w w9 := by
  have hn := h.n
  refine ⟨(hs.keep hk (fun g e e2 => ?_) (fun g e e2 => ?_) (fun i hi g e e2 => ?_)).base (by omega), hk.toBelow (h8.toBelow h.below (by omega) hY) (by have := h8.size; omega) (fun k e => by omega)⟩
  · have := (hs.known.lt g e).1; omega
  · have := (hs.cd.own.lt g e).1; omega
  · have := ((hs.cd.keys i hi).lt g e).1; omega
end
theorem cd_loadX {W : World} {b : Nat} {v : Value} {y : ByteArray} (h : W.heap[b]? = some (.cells #[v, .string y] 30 (0, 0))) : (loadVar 30 ⟨b, 0, none⟩).run Try.prog W = .ok (.agg #[v, .string y]) W := cd_load h (Below.refl _ _)
theorem nil_eq {mo sa lo ba sa9 ba9 co9 : Int} {K : List R3} {Wd : List C2} {T : Snk × Int} {y : ByteArray} (h : T = if y = z4 then (⟨mo, K, Wd, moreM sa, lo, ba⟩, 2) else (⟨mo, K, Wd, sa, lo, moreM ba⟩, 3))
    (h1 : sa9 = if (y.toList == z4.toList) = true then bump 1 sa else sa) (h2 : ba9 = if (y.toList == z4.toList) = true then ba else bump 1 ba) (h3 : co9 = if (y.toList == z4.toList) = true then 2 else 3) : T = (⟨mo, K, Wd, sa9, lo, ba9⟩, co9) := by
  rw [h, h1, h2, h3, beq_bytes]
  by_cases e : y = z4
  · rw [if_pos e, decide_eq_true e.symm]; rfl
  · rw [if_neg e, decide_eq_false (fun h => e h.symm)]; rfl
set_option maxRecDepth 100000 in
set_option maxHeartbeats 8000000 in
theorem itake_any (mo sa lo ba : Int) (Kn : List R3) (Wd : List C2) (vk vw u : Value) (xs : List K2) (y : ByteArray) (w : World) (hk : rdAt w vk Kn) (hw : cdAv w none vw Wd) (hu : keysAt w u xs) (hsk : Kn.length ≤ 1000000) (hsw : Wd.length ≤ 1000000) (hxk : ∀ r ∈ Kn, r.2.size ≤ 2000000) (hxw : ∀ x ∈ Wd, x.1.length ≤ 1000000 ∧ x.2.size ≤ 2000000) (hxs : xs.length ≤ 1000000) (hy : y.size ≤ 2000000) :
    Calls Try.prog 9 #[snV ⟨mo, Kn, Wd, sa, lo, ba⟩ vk vw, .agg #[u, .string y]] w fun e w' => ∃ vk' vw' us', e = .returned (.tuple #[snV (takeM ⟨mo, Kn, Wd, sa, lo, ba⟩ (xs, y)).1 vk' vw', .int .i64 (takeM ⟨mo, Kn, Wd, sa, lo, ba⟩ (xs, y)).2]) ∧ SnO w' w.heap.size (takeM ⟨mo, Kn, Wd, sa, lo, ba⟩ (xs, y)).1 vk' vw' us' ∧ Below w.heap.size w w' := by
  have HSO := Lib.hid (fun wx (hb : Below w.heap.size w wx) => isinkok_any ⟨mo, Kn, Wd, sa, lo, ba⟩ vk vw wx (rdAt_below hk hb) (cdAv_below hw hb) (show Kn.length ≤ 1048576 by omega) (show Wd.length ≤ 1048576 by omega) (fun x hx => by have := (hxw x hx).1; omega))
  have HCS := Lib.hid (fun wx (hb : Below w.heap.size w wx) => icopysink_any ⟨mo, Kn, Wd, sa, lo, ba⟩ vk vw wx (rdAt_below hk hb) (cdAv_below hw hb) hsk hsw hxk hxw)
  have HCO := Lib.hid (fun wx (hb : Below w.heap.size w wx) => icodeok_any u xs y wx (keysAt_below hu hb) (by omega))
  have HKU := Lib.hid (fun wx (hb : Below w.heap.size w wx) => keysAt_below hu hb)
  have HY := Lib.hid (And.intro hxs (And.intro hy hsk))
  obtain ⟨ak, ck, rfl, -, -⟩ := hk
  obtain ⟨aw, cw, rfl, -, -⟩ := hw
  obtain ⟨au, cu, rfl, -, -⟩ := hu
  clear hsk hsw hxk hxw hxs hy
  unfold snV at HSO HCS
  unfold snV
  dsimp only at HSO HCS ⊢
  have hb0 := (Below.refl w.heap.size w).alloc (Nat.le_refl _) (.cells #[.int .i64 mo, .slice ak Kn.length ck, .slice aw Wd.length cw, .int .i64 sa, .int .i64 lo, .int .i64 ba] 27)
  have hb1 := hb0.alloc hb0.size (.cells #[.slice au xs.length cu, .string y] 30)
  have hb2 := hb1.alloc hb1.size (.cells #[.int .i64 0, .slice none 0 0, .slice none 0 0, .int .i64 0, .int .i64 0, .int .i64 0] 27)
  have e1 : (w.alloc (.cells #[.int .i64 mo, .slice ak Kn.length ck, .slice aw Wd.length cw, .int .i64 sa, .int .i64 lo, .int .i64 ba] 27)).heap.size = w.heap.size + 1 := by simp
  have e2 : ((w.alloc (.cells #[.int .i64 mo, .slice ak Kn.length ck, .slice aw Wd.length cw, .int .i64 sa, .int .i64 lo, .int .i64 ba] 27)).alloc (.cells #[.slice au xs.length cu, .string y] 30)).heap.size = w.heap.size + 2 := by simp
  have hA := (Below.heap_alloc _ (.cells #[.int .i64 0, .slice none 0 0, .slice none 0 0, .int .i64 0, .int .i64 0, .int .i64 0] 27) w.heap.size (by rw [e2]; omega)).trans (heap_first w (.cells #[.slice au xs.length cu, .string y] 30) (.cells #[.int .i64 mo, .slice ak Kn.length ck, .slice aw Wd.length cw, .int .i64 sa, .int .i64 lo, .int .i64 ba] 27))
  have hB := heap_first (w.alloc (.cells #[.int .i64 mo, .slice ak Kn.length ck, .slice aw Wd.length cw, .int .i64 sa, .int .i64 lo, .int .i64 ba] 27)) (.cells #[.int .i64 0, .slice none 0 0, .slice none 0 0, .int .i64 0, .int .i64 0, .int .i64 0] 27) (.cells #[.slice au xs.length cu, .string y] 30)
  have hC := heap_alloc_new ((w.alloc (.cells #[.int .i64 mo, .slice ak Kn.length ck, .slice aw Wd.length cw, .int .i64 sa, .int .i64 lo, .int .i64 ba] 27)).alloc (.cells #[.slice au xs.length cu, .string y] 30)) (.cells #[.int .i64 0, .slice none 0 0, .slice none 0 0, .int .i64 0, .int .i64 0, .int .i64 0] 27)
  have e3 : (((w.alloc (.cells #[.int .i64 mo, .slice ak Kn.length ck, .slice aw Wd.length cw, .int .i64 sa, .int .i64 lo, .int .i64 ba] 27)).alloc (.cells #[.slice au xs.length cu, .string y] 30)).alloc (.cells #[.int .i64 0, .slice none 0 0, .slice none 0 0, .int .i64 0, .int .i64 0, .int .i64 0] 27)).heap.size = w.heap.size + 3 := by simp
  rw [e1] at hB
  rw [e2] at hC
  have HB := Lib.hid hb2
  have HX2 := Lib.hid hA; have HX3 := Lib.hid hB; have HX4 := Lib.hid (show _ = _ from hC)
  have HE3 := Lib.hid e3
  clear hb0 hb1 hb2 hA hB hC e1 e2 e3
  go_enter Try.func9, Try.ntmps9
  go_upto_region 1 with (fail)
  generalize (((w.alloc (.cells #[.int .i64 mo, .slice ak Kn.length ck, .slice aw Wd.length cw, .int .i64 sa, .int .i64 lo, .int .i64 ba] 27)).alloc (.cells #[.slice au xs.length cu, .string y] 30)).alloc (.cells #[.int .i64 0, .slice none 0 0, .slice none 0 0, .int .i64 0, .int .i64 0, .int .i64 0] 27)) = W at *
  obtain ⟨⟨x0, x1, x2, x3, x4, x5⟩, f0, f1, f2, f3, f4, f5⟩ := row6_of HX2.out
  go_wp2_with fail
  refine (HSO.out _ HB.out).mono ?_
  rintro e w2 ⟨rfl, hb2⟩
  have HB2 := Lib.hid (HB.out.trans (hb2.mono HB.out.size))
  have HS2 := Lib.hid ((hb2.block _ (Array.getElem?_eq_some_iff.1 HX2.out).1).trans HX2.out)
  have HC2 := Lib.hid ((hb2.block _ (Array.getElem?_eq_some_iff.1 HX3.out).1).trans HX3.out)
  have HT2 := Lib.hid (show w2.heap[w.heap.size + 1 + 1]? = _ from (hb2.block _ (Array.getElem?_eq_some_iff.1 HX4.out).1).trans HX4.out)
  have HGE := Lib.hid (show w.heap.size + 3 ≤ w2.heap.size by have := HE3.out; have := hb2.size; omega)
  clear hb2 x0 x1 x2 x3 x4 x5 f0 f1 f2 f3 f4 f5 HSO HX2 HX3 HX4 HB HE3
  by_cases hp : SnkP ⟨mo, Kn, Wd, sa, lo, ba⟩
  · rw [show sinkOkB ⟨mo, Kn, Wd, sa, lo, ba⟩ = true from decide_eq_true hp]
    have HP := Lib.hid hp
    clear hp
    obtain ⟨⟨x0, x1, x2, x3, x4, x5⟩, f0, f1, f2, f3, f4, f5⟩ := row6_of HS2.out
    go_upto_region 4 with (
      go_at_call 38
      refine (HCS.out _ HB2.out).mono ?_
      rintro e w3 ⟨vk3, vw3, us3, rfl, hsn3, hb3⟩
      dsimp only
      obtain ⟨ak3, nk3, ck3, rfl⟩ := own_shape hsn3.known
      obtain ⟨aw3, nw3, cw3, rfl⟩ := own_shape hsn3.cd.own
      obtain rfl : nk3 = Kn.length := own_lenS hsn3.known
      obtain rfl : nw3 = Wd.length := own_lenS hsn3.cd.own
      have HSN3 := Lib.hid hsn3
      have HB3 := Lib.hid hb3
      have HS3 := Lib.hid ((hb3.block _ (Array.getElem?_eq_some_iff.1 HS2.out).1).trans HS2.out)
      clear hsn3 hb3 x0 x1 x2 x3 x4 x5 f0 f1 f2 f3 f4 f5
      obtain ⟨⟨x0, x1, x2, x3, x4, x5⟩, f0, f1, f2, f3, f4, f5⟩ := row6_of HS3.out)
    clear x0 x1 x2 x3 x4 x5 f0 f1 f2 f3 f4 f5
    have HT4 := Lib.hid (show TkI w ((((((w3.setCell ⟨w.heap.size, 0, none⟩ (.int .i64 mo)).setCell ⟨w.heap.size, 1, none⟩ (.slice ak3 Kn.length ck3)).setCell ⟨w.heap.size, 2, none⟩ (.slice aw3 Wd.length cw3)).setCell ⟨w.heap.size, 3, none⟩ (.int .i64 sa)).setCell ⟨w.heap.size, 4, none⟩ (.int .i64 lo)).setCell ⟨w.heap.size, 5, none⟩ (.int .i64 ba)) w2.heap.size mo sa lo ba Kn Wd (.slice ak3 Kn.length ck3) (.slice aw3 Wd.length cw3) us3 (.slice au xs.length cu) y from TkI.first (HB2.out.trans (HB3.out.mono HB2.out.size)) HSN3.out HS3.out ((HB3.out.block _ (Array.getElem?_eq_some_iff.1 HC2.out).1).trans HC2.out) ((HB3.out.block _ (Array.getElem?_eq_some_iff.1 HT2.out).1).trans HT2.out) ⟨HGE.out, HB3.out.size⟩)
    generalize ((((((w3.setCell ⟨w.heap.size, 0, none⟩ (.int .i64 mo)).setCell ⟨w.heap.size, 1, none⟩ (.slice ak3 Kn.length ck3)).setCell ⟨w.heap.size, 2, none⟩ (.slice aw3 Wd.length cw3)).setCell ⟨w.heap.size, 3, none⟩ (.int .i64 sa)).setCell ⟨w.heap.size, 4, none⟩ (.int .i64 lo)).setCell ⟨w.heap.size, 5, none⟩ (.int .i64 ba)) = w4 at *
    clear HSN3 HB3 HS3 HS2 HC2 HT2 HCS
    have HCO5 := Lib.hid (HCO.out w4 HT4.out.below)
    obtain ⟨y0, y1, -, -⟩ := row2_of HT4.out.hc
    cases hco : codeOkB (xs, y) with
    | false =>
      rw [hco] at HCO5
      have HTM := Lib.hid (take_bad (x := (xs, y)) HP.out (.inl hco))
      go_upto_region 5 with (go_at_call 39; refine HCO5.out.mono ?_; rintro e w5 ⟨rfl, hb5⟩; dsimp only; have HT5 := Lib.hid (HT4.out.next hb5); clear hb5 y0 y1; obtain ⟨y0, y1, -, -⟩ := row2_of HT5.out.hc)
      clear y0 y1
      have HTR := Lib.hid (show w5.heap[w.heap.size + 2]? = _ from HT5.out.ht)
      have HD := Lib.hid (HT5.out.done #[.int .i64 mo, .slice ak3 Kn.length ck3, .slice aw3 Wd.length cw3, .int .i64 sa, .int .i64 lo, .int .i64 ba])
      have LT := Lib.hid (sn_load (setRow_heap w5 (w.heap.size + 2) _ #[.int .i64 mo, .slice ak3 Kn.length ck3, .slice aw3 Wd.length cw3, .int .i64 sa, .int .i64 lo, .int .i64 ba] 27 (0, 0) HTR.out))
      apply wp_region_lit
      refine wpList_load_row rfl 27 (.tmp 2) rfl w.heap.size rfl 27 #[.int .i64 mo, .slice ak3 Kn.length ck3, .slice aw3 Wd.length cw3, .int .i64 sa, .int .i64 lo, .int .i64 ba] (0, 0) _ HT5.out.hs Try.underlying27 rfl (by kernel_rfl) ?_
      refine wpList_store_rowTo rfl 27 (.tmp 4) (.tmp 22) rfl rfl (w.heap.size + 2) #[.int .i64 mo, .slice ak3 Kn.length ck3, .slice aw3 Wd.length cw3, .int .i64 sa, .int .i64 lo, .int .i64 ba] rfl rfl 27 #[.int .i64 0, .slice none 0 0, .slice none 0 0, .int .i64 0, .int .i64 0, .int .i64 0] HTR.out (by kernel_rfl) rfl (by simp [Value.oneCell']) ?_
      generalize w5.setRow (w.heap.size + 2) #[.int .i64 mo, .slice ak3 Kn.length ck3, .slice aw3 Wd.length cw3, .int .i64 sa, .int .i64 lo, .int .i64 ba] = w9 at *
      go_wp2
      refine bodyPost_ret (v := .tuple #[.agg #[.int .i64 mo, .slice ak3 Kn.length ck3, .slice aw3 Wd.length cw3, .int .i64 sa, .int .i64 lo, .int .i64 ba], .int .i64 5]) ?_ rfl ?_
      · rw [results_cell_tmp (p := 4) (u := 5) (ty := 27) (by kernel_rfl)]
        have l2 := LT.out
        simp [asAddr, Result.andThen, l2, Act.put]
      · rw [HTM.out]
        first
          | exact ⟨_, _, us3, rfl, HD.out.1, HD.out.2⟩
          | exact ⟨_, _, rfl, ⟨us3, HD.out.1⟩, HD.out.2⟩
    | true =>
      rw [hco] at HCO5
      have HTB := Lib.hid (fun h => take_bad (x := (xs, y)) HP.out (.inr h))
      dsimp only at HTB
      clear HCO
      generalize hN : xs.length = N at *
      by_cases h0 : N = 0
      · subst h0
        have HTM := Lib.hid (HTB.out rfl)
        clear HTB hco
        have HNN := Lib.hid hN
        clear hN
        go_upto_region 5 with (go_at_call 39; refine HCO5.out.mono ?_; rintro e w5 ⟨rfl, hb5⟩; dsimp only; have HT5 := Lib.hid (HT4.out.next hb5); clear hb5 y0 y1; obtain ⟨y0, y1, -, -⟩ := row2_of HT5.out.hc)
        clear y0 y1
        have HTR := Lib.hid (show w5.heap[w.heap.size + 2]? = _ from HT5.out.ht)
        have HD := Lib.hid (HT5.out.done #[.int .i64 mo, .slice ak3 Kn.length ck3, .slice aw3 Wd.length cw3, .int .i64 sa, .int .i64 lo, .int .i64 ba])
        have LT := Lib.hid (sn_load (setRow_heap w5 (w.heap.size + 2) _ #[.int .i64 mo, .slice ak3 Kn.length ck3, .slice aw3 Wd.length cw3, .int .i64 sa, .int .i64 lo, .int .i64 ba] 27 (0, 0) HTR.out))
        apply wp_region_lit
        refine wpList_load_row rfl 27 (.tmp 2) rfl w.heap.size rfl 27 #[.int .i64 mo, .slice ak3 Kn.length ck3, .slice aw3 Wd.length cw3, .int .i64 sa, .int .i64 lo, .int .i64 ba] (0, 0) _ HT5.out.hs Try.underlying27 rfl (by kernel_rfl) ?_
        refine wpList_store_rowTo rfl 27 (.tmp 4) (.tmp 22) rfl rfl (w.heap.size + 2) #[.int .i64 mo, .slice ak3 Kn.length ck3, .slice aw3 Wd.length cw3, .int .i64 sa, .int .i64 lo, .int .i64 ba] rfl rfl 27 #[.int .i64 0, .slice none 0 0, .slice none 0 0, .int .i64 0, .int .i64 0, .int .i64 0] HTR.out (by kernel_rfl) rfl (by simp [Value.oneCell']) ?_
        generalize w5.setRow (w.heap.size + 2) #[.int .i64 mo, .slice ak3 Kn.length ck3, .slice aw3 Wd.length cw3, .int .i64 sa, .int .i64 lo, .int .i64 ba] = w9 at *
        go_wp2
        refine bodyPost_ret (v := .tuple #[.agg #[.int .i64 mo, .slice ak3 Kn.length ck3, .slice aw3 Wd.length cw3, .int .i64 sa, .int .i64 lo, .int .i64 ba], .int .i64 5]) ?_ rfl ?_
        · rw [results_cell_tmp (p := 4) (u := 5) (ty := 27) (by kernel_rfl)]
          have l2 := LT.out
          simp [asAddr, Result.andThen, l2, Act.put]
        · rw [HTM.out]
          first
            | exact ⟨_, _, us3, rfl, HD.out.1, HD.out.2⟩
            | exact ⟨_, _, rfl, ⟨us3, HD.out.1⟩, HD.out.2⟩
      · have h0c : ¬ (N : Int) = 0 := by omega
        have HX := Lib.hid (show ¬ (codeOkB (xs, y) = false ∨ (xs, y).1.length = 0) from by
          rintro (h | h)
          · rw [hco] at h; cases h
          · exact h0 (hN.symm.trans h))
        have HCX := Lib.hid hco
        have HNX := Lib.hid hN
        clear HTB hco hN h0
        go_upto_region 6 with (go_at_call 39; refine HCO5.out.mono ?_; rintro e w5 ⟨rfl, hb5⟩; dsimp only; have HT5 := Lib.hid (HT4.out.next hb5); clear hb5 y0 y1; obtain ⟨y0, y1, -, -⟩ := row2_of HT5.out.hc)
        clear HCO5 HT4
        obtain ⟨⟨x0, x1, x2, x3, x4, x5⟩, f0, f1, f2, f3, f4, f5⟩ := row6_of HT5.out.hs
        go_upto_region 8 with (
          go_at_call 40
          refine (ireduced_any (.slice au N cu) xs y (.slice ak3 Kn.length ck3) Kn w5 (HKU.out w5 HT5.out.below) (rdAt_own HT5.out.sn.known) (by have := HY.out.1; have := HNX.out; omega) (by have := HY.out.2.2; omega) HY.out.2.1).mono ?_
          rintro e w6 ⟨v6, rfl, hv6, hb6⟩
          dsimp only
          have HRC := Lib.hid (red_all HCX.out HP.out.known)
          have HR1 := Lib.hid (fun h => first_rd HCX.out HP.out.known h)
          have HT1 := Lib.hid (fun h => take_one (x := (xs, y)) HP.out HX.out h)
          have HT0 := Lib.hid (fun h => take_nil (x := (xs, y)) HP.out HX.out h)
          have HTN := Lib.hid (fun h h' => take_more (x := (xs, y)) HP.out HX.out h h')
          dsimp only at HRC HR1 HT1 HT0 HTN
          generalize redM (xs, y) Kn = R at *
          obtain ⟨rs, ry⟩ := R
          dsimp only at *
          obtain ⟨a6, n6, c6, rfl⟩ := own_shape hv6
          obtain rfl : n6 = rs.length := own_lenS hv6
          have HUA := Lib.hid (tk_apart HT5.out hv6)
          have HNB := Lib.hid (fun k (e : (Value.slice aw3 Wd.length cw3).ownBlock = some k) => (⟨(HT5.out.sn.cd.own.lt k e).1, Nat.lt_of_lt_of_le (HT5.out.sn.cd.own.lt k e).2 hb6.size⟩ : w2.heap.size ≤ k ∧ k < w6.heap.size))
          have HT6 := Lib.hid (HT5.out.next hb6)
          have HV6 := Lib.hid (own_base hv6 HT5.out.n.2)
          have HG6 := Lib.hid (show w.heap.size + 3 ≤ w6.heap.size from Nat.le_trans HT6.out.n.1 HT6.out.n.2)
          clear hv6 hb6 HT5 y0 y1 x0 x1 x2 x3 x4 x5 f0 f1 f2 f3 f4 f5)
        have HT7 := Lib.hid (HT6.out.next ((Below.refl _ _).alloc (Nat.le_refl _) (.cells #[.slice a6 rs.length c6, .string ry] 30)))
        have HR7 := Lib.hid (heap_alloc_new w6 (.cells #[.slice a6 rs.length c6, .string ry] 30))
        have HV7 := Lib.hid (own_below HV6.out ((Below.refl _ _).alloc (Nat.le_refl _) (.cells #[.slice a6 rs.length c6, .string ry] 30)))
        clear HT6 HV6
        generalize w6.alloc (.cells #[.slice a6 rs.length c6, .string ry] 30) = w7 at *
        generalize w6.heap.size = b6 at *
        obtain ⟨z0, z1, -, -⟩ := row2_of HR7.out
        by_cases h0 : rs.length = 0
        · obtain rfl : rs = [] := List.eq_nil_of_length_eq_zero h0
          have HTZ := Lib.hid (HT0.out rfl)
          clear h0 HT0 HT1 HTN HR1 HRC HUA HX HCX HNX
          dsimp only [List.length_nil] at *
          go_upto_region 9 with (fail)
          clear z0 z1
          have LS : ∀ wx : World, KeepX (fun k => k = w.heap.size + 1 + 1) w7 wx → (loadVar 27 ⟨w.heap.size, 0, none⟩).run Try.prog wx = .ok (.agg #[.int .i64 mo, .slice ak3 Kn.length ck3, .slice aw3 Wd.length cw3, .int .i64 sa, .int .i64 lo, .int .i64 ba]) wx := fun wx hb => sn_load (hb.row HT7.out.hs (by omega))
          have LY : ∀ wx : World, KeepX (fun k => k = w.heap.size + 1 + 1) w7 wx → (loadVar 9 ⟨b6, 1, none⟩).run Try.prog wx = .ok (.string ry) wx := fun wx hb => ld_strY (row2_of (hb.row HR7.out (by have := HG6.out; omega))).c1
          have LC : ∀ wx : World, KeepX (fun k => k = w.heap.size + 1 + 1) w7 wx → (loadVar 30 ⟨b6, 0, none⟩).run Try.prog wx = .ok (.agg #[.slice a6 0 c6, .string ry]) wx := fun wx hb => cd_loadX (hb.row HR7.out (by have := HG6.out; omega))
          have HBK := Lib.hid (show Below w7.heap.size w7 w7.drew from (Below.refl w7.heap.size w7).drew)
          have HBC := Lib.hid (show KeepX (fun k => k = w.heap.size + 1 + 1) w7 w7.drew from KeepX.below HBK.out)
          refine wp_region_G (fun wx => KeepX (fun k => k = w.heap.size + 1 + 1) w7 wx) (by kernel_rfl) ?_
          refine wpG_seg [true, true, true, true] [4] 7 (by kernel_rfl) (by intro c a d v w h; cases d <;> exact h) (by kernel_rfl) HBC.out ?_
          try simp only [maskRows]
          repeat (first
            | go_big_quiet_skip
            | (go_big_quiet_want
               first
                 | (go_big_quiet_op; go_big_quiet_on)
                 | (refine q_load 27 _ _ _ rfl rfl LS ?_; simp only [Act.put, List.setIfInBounds_toArray, List.set_cons_zero, List.set_cons_succ]; go_big_quiet_on)
                 | (refine q_load 9 _ _ _ rfl rfl LY ?_; simp only [Act.put, List.setIfInBounds_toArray, List.set_cons_zero, List.set_cons_succ]; go_big_quiet_on)
                 | (refine q_load 30 _ _ _ rfl rfl LC ?_; simp only [Act.put, List.setIfInBounds_toArray, List.set_cons_zero, List.set_cons_succ]; go_big_quiet_on)
                 | (refine q_field 30 _ 1 _ _ rfl rfl (fun w => run_field1 _ _ w) ?_; simp only [Act.put, List.setIfInBounds_toArray, List.set_cons_zero, List.set_cons_succ]; go_big_quiet_on)
                 | (go_big_quiet_op; refine ⟨_, fun _ _ => rfl, ?_⟩; go_big_quiet_on)
                 | (go_big_quiet_op; refine ⟨_, fun _ _ _ => rfl, ?_⟩; go_big_quiet_on)
                 | (go_big_quiet_op; refine ⟨_, fun _ _ _ _ => rfl, ?_⟩; go_big_quiet_on)))
          refine wpQuiet_nil ?_
          refine List.forall_mem_singleton.2 ?_
          refine segt_run rfl (by rfl) (fun K hK => ?_)
          go_simp
          refine (iblank_any (.slice a6 0 c6) ry _).mono ?_
          rintro e w8 ⟨rfl, hb8⟩
          dsimp only
          replace HBK := Lib.hid (HBK.out.trans (hb8.mono HBK.out.size))
          replace HBC := Lib.hid (show KeepX (fun k => k = w.heap.size + 1 + 1) w7 w8 from KeepX.below HBK.out)
          clear hb8
          refine hK _ _ ⟨_, fun _ h => h, HBC.out, ?_⟩
          clear hK K
          try simp only [Act.put, List.setIfInBounds_toArray, List.set_cons_zero, List.set_cons_succ]
          refine wpG_seg [false, false, false, false, false, true, true] [7] 4 (by kernel_rfl) (by intro c a d v w h; cases d <;> exact h) (by kernel_rfl) HBC.out ?_
          try simp only [maskRows]
          repeat (first
            | go_big_quiet_skip
            | (go_big_quiet_want
               first
                 | (go_big_quiet_op; go_big_quiet_on)
                 | (refine q_load 27 _ _ _ rfl rfl LS ?_; simp only [Act.put, List.setIfInBounds_toArray, List.set_cons_zero, List.set_cons_succ]; go_big_quiet_on)
                 | (refine q_load 9 _ _ _ rfl rfl LY ?_; simp only [Act.put, List.setIfInBounds_toArray, List.set_cons_zero, List.set_cons_succ]; go_big_quiet_on)
                 | (refine q_load 30 _ _ _ rfl rfl LC ?_; simp only [Act.put, List.setIfInBounds_toArray, List.set_cons_zero, List.set_cons_succ]; go_big_quiet_on)
                 | (refine q_field 30 _ 1 _ _ rfl rfl (fun w => run_field1 _ _ w) ?_; simp only [Act.put, List.setIfInBounds_toArray, List.set_cons_zero, List.set_cons_succ]; go_big_quiet_on)
                 | (go_big_quiet_op; refine ⟨_, fun _ _ => rfl, ?_⟩; go_big_quiet_on)
                 | (go_big_quiet_op; refine ⟨_, fun _ _ _ => rfl, ?_⟩; go_big_quiet_on)
                 | (go_big_quiet_op; refine ⟨_, fun _ _ _ _ => rfl, ?_⟩; go_big_quiet_on)))
          refine wpQuiet_nil ?_
          refine List.forall_mem_singleton.2 ?_
          refine segt_run rfl (by rfl) (fun K hK => ?_)
          go_simp
          obtain ⟨sa9, hsa⟩ : ∃ z, z = (if (ry.toList == z4.toList) = true then bump 1 sa else sa) := ⟨_, rfl⟩
          obtain ⟨ba9, hba⟩ : ∃ z, z = (if (ry.toList == z4.toList) = true then ba else bump 1 ba) := ⟨_, rfl⟩
          obtain ⟨co9, hco⟩ : ∃ z : Int, z = (if (ry.toList == z4.toList) = true then 2 else 3) := ⟨_, rfl⟩
          have HKV := Lib.hid (nil_eq HTZ.out hsa hba hco)
          refine (icompared_any mo sa lo ba ak3 aw3 Kn.length ck3 Wd.length cw3 (ry.toList == z4.toList) _ HP.out.same HP.out.bad).mono ?_
          rintro e w10 ⟨rfl, hb10⟩
          dsimp only
          rw [← hsa, ← hba, ← hco]
          have hk10 := (HBK.out.trans (hb10.mono HBK.out.size))
          replace HBC := Lib.hid (show KeepX (fun k => k = w.heap.size + 1 + 1) w7 w10 from KeepX.below hk10)
          clear hb10 hsa hba hco
          refine hK _ _ ⟨_, fun _ h => h, HBC.out, ?_⟩
          clear hK K
          try simp only [Act.put, List.setIfInBounds_toArray, List.set_cons_zero, List.set_cons_succ]
          refine wpG_seg [false, false, false, false, false, false, false, false, true, true] [10] 1 (by kernel_rfl) (by intro c a d v w h; cases d <;> exact h) (by kernel_rfl) HBC.out ?_
          try simp only [maskRows]
          repeat (first
            | go_big_quiet_skip
            | (go_big_quiet_want
               first
                 | (go_big_quiet_op; go_big_quiet_on)
                 | (refine q_load 27 _ _ _ rfl rfl LS ?_; simp only [Act.put, List.setIfInBounds_toArray, List.set_cons_zero, List.set_cons_succ]; go_big_quiet_on)
                 | (refine q_load 9 _ _ _ rfl rfl LY ?_; simp only [Act.put, List.setIfInBounds_toArray, List.set_cons_zero, List.set_cons_succ]; go_big_quiet_on)
                 | (refine q_load 30 _ _ _ rfl rfl LC ?_; simp only [Act.put, List.setIfInBounds_toArray, List.set_cons_zero, List.set_cons_succ]; go_big_quiet_on)
                 | (refine q_field 30 _ 1 _ _ rfl rfl (fun w => run_field1 _ _ w) ?_; simp only [Act.put, List.setIfInBounds_toArray, List.set_cons_zero, List.set_cons_succ]; go_big_quiet_on)
                 | (go_big_quiet_op; refine ⟨_, fun _ _ => rfl, ?_⟩; go_big_quiet_on)
                 | (go_big_quiet_op; refine ⟨_, fun _ _ _ => rfl, ?_⟩; go_big_quiet_on)
                 | (go_big_quiet_op; refine ⟨_, fun _ _ _ _ => rfl, ?_⟩; go_big_quiet_on)))
          refine wpQuiet_nil ?_
          refine List.forall_mem_singleton.2 ?_
          have HX5 := Lib.hid (show w10.heap[w.heap.size + 1 + 1]? = _ from (hk10.block (w.heap.size + 1 + 1) (Array.getElem?_eq_some_iff.1 HT7.out.ht).1).trans HT7.out.ht)
          obtain ⟨⟨y0, y1, y2, y3, y4, y5⟩, f0, f1, f2, f3, f4, f5⟩ := row6_of HX5.out
          refine segt_run rfl (by rfl) (fun K hK => ?_)
          go_simp
          have HF := Lib.hid (sn_set HX5.out (.int .i64 mo) (.slice ak3 Kn.length ck3) (.slice aw3 Wd.length cw3) (.int .i64 sa9) (.int .i64 lo) (.int .i64 ba9))
          have HK9 := Lib.hid (show KeepX (fun k => k = w.heap.size + 1 + 1) w10 (set6 w10 (w.heap.size + 1 + 1) (.int .i64 mo) (.slice ak3 Kn.length ck3) (.slice aw3 Wd.length cw3) (.int .i64 sa9) (.int .i64 lo) (.int .i64 ba9)) from (((((((KeepX.refl (fun k => k = w.heap.size + 1 + 1) w10).set (w.heap.size + 1 + 1) 0 (.int .i64 mo) rfl).set (w.heap.size + 1 + 1) 1 (.slice ak3 Kn.length ck3) rfl).set (w.heap.size + 1 + 1) 2 (.slice aw3 Wd.length cw3) rfl).set (w.heap.size + 1 + 1) 3 (.int .i64 sa9) rfl).set (w.heap.size + 1 + 1) 4 (.int .i64 lo) rfl).set (w.heap.size + 1 + 1) 5 (.int .i64 ba9) rfl))
          have HB10 := Lib.hid HBC.out
          replace HBC := Lib.hid (HBC.out.trans HK9.out)
          clear y0 y1 y2 y3 y4 y5 f0 f1 f2 f3 f4 f5 HX5
          refine hK _ _ ⟨_, fun _ h => h, HBC.out, ?_⟩
          clear hK K
          try simp only [Act.put, List.setIfInBounds_toArray, List.set_cons_zero, List.set_cons_succ]
          refine wpG_end [false, false, false, false, false, false, false, false, false, false, false, true] (by kernel_rfl) (by intro c a d v w h; cases d <;> exact h) (by kernel_rfl) HBC.out ?_
          try simp only [maskRows]
          repeat (first
            | go_big_quiet_skip
            | (go_big_quiet_want
               first
                 | (go_big_quiet_op; go_big_quiet_on)
                 | (refine q_load 27 _ _ _ rfl rfl LS ?_; simp only [Act.put, List.setIfInBounds_toArray, List.set_cons_zero, List.set_cons_succ]; go_big_quiet_on)
                 | (refine q_load 9 _ _ _ rfl rfl LY ?_; simp only [Act.put, List.setIfInBounds_toArray, List.set_cons_zero, List.set_cons_succ]; go_big_quiet_on)
                 | (refine q_load 30 _ _ _ rfl rfl LC ?_; simp only [Act.put, List.setIfInBounds_toArray, List.set_cons_zero, List.set_cons_succ]; go_big_quiet_on)
                 | (refine q_field 30 _ 1 _ _ rfl rfl (fun w => run_field1 _ _ w) ?_; simp only [Act.put, List.setIfInBounds_toArray, List.set_cons_zero, List.set_cons_succ]; go_big_quiet_on)
                 | (go_big_quiet_op; refine ⟨_, fun _ _ => rfl, ?_⟩; go_big_quiet_on)
                 | (go_big_quiet_op; refine ⟨_, fun _ _ _ => rfl, ?_⟩; go_big_quiet_on)
                 | (go_big_quiet_op; refine ⟨_, fun _ _ _ _ => rfl, ?_⟩; go_big_quiet_on)))
          refine wpQuiet_nil ?_
          go_wp2
          refine bodyPost_ret (v := .tuple #[.agg #[.int .i64 mo, .slice ak3 Kn.length ck3, .slice aw3 Wd.length cw3, .int .i64 sa9, .int .i64 lo, .int .i64 ba9], .int .i64 co9]) ?_ rfl ?_
          · rw [results_cell_tmp (p := 4) (u := 5) (ty := 27) (by kernel_rfl)]
            have l2 := sn_load HF.out
            simp [asAddr, Result.andThen, l2, Act.put]
          · rw [HKV.out]
            have hs := HT7.out.sn.below hk10
            have hfin := HT7.out.fin (s := ⟨mo, Kn, Wd, sa9, lo, ba9⟩) ⟨hs.known, hs.cd, hs.kw, hs.kk⟩ HB10.out (fun k e => by omega) HK9.out
            first
              | exact ⟨_, _, _, rfl, hfin.1, hfin.2⟩
              | exact ⟨_, _, rfl, ⟨_, hfin.1⟩, hfin.2⟩
        · have h0d : ¬ (rs.length : Int) = 0 := by omega
          have HCR := Lib.hid (HRC.out.2.2.2.2 (by rintro rfl; exact h0 rfl))
          by_cases h1 : rs.length = 1
          · have HRO := Lib.hid (HR1.out h1).1
            have HTO := Lib.hid (HT1.out h1)
            obtain ⟨k1, rfl⟩ := List.length_eq_one_iff.1 h1
            clear h0 h1 h0d HT0 HT1 HTN HR1 HRC HX HCX HNX HCR
            dsimp only [List.headD_cons] at HRO HTO
            simp only [List.length_singleton] at *
            go_upto_region 11 with (
              go_at_call 43
              refine (iisalone_any (.slice a6 1 c6) [k1] ry w7 (keysAt_own HV7.out)).mono ?_
              rintro e w8 ⟨rfl, hb8⟩
              rw [show decide ([k1].length = 1) = true from rfl]
              dsimp only
              have HT8 := Lib.hid (HT7.out.next hb8)
              have HR8 := Lib.hid ((hb8.block _ (Array.getElem?_eq_some_iff.1 HR7.out).1).trans HR7.out)
              have HV8 := Lib.hid (own_below HV7.out hb8)
              clear hb8 z0 z1)
            clear HT7 HR7 HV7
            obtain ⟨g6, hg6⟩ : ∃ g6, a6 = some ⟨g6, 0, none⟩ := by
              rcases HV8.out.2 with ⟨_, h⟩ | ⟨g, cap, _, hv, _⟩
              · omega
              · cases hv; exact ⟨g, rfl⟩
            subst hg6
            have hk0 := own_cell HV8.out 0 (by omega)
            have hk1 := own_cell HV8.out 1 (by omega)
            obtain ⟨kp, kq⟩ := k1
            have hnS : ¬ (w.heap.size = w.heap.size + 1 + 1 ∨ (Value.slice aw3 Wd.length cw3).ownBlock = some w.heap.size) := by
              rintro (e | e)
              · omega
              · have := (HNB.out _ e).1; have := HT8.out.n; omega
            have LS : ∀ wx : World, KeepX (fun k => k = w.heap.size + 1 + 1 ∨ (Value.slice aw3 Wd.length cw3).ownBlock = some k) w8 wx → (loadVar 27 ⟨w.heap.size, 0, none⟩).run Try.prog wx = .ok (.agg #[.int .i64 mo, .slice ak3 Kn.length ck3, .slice aw3 Wd.length cw3, .int .i64 sa, .int .i64 lo, .int .i64 ba]) wx := fun wx hb => sn_load (hb.row HT8.out.hs hnS)
            have hn6 : ¬ (b6 = w.heap.size + 1 + 1 ∨ (Value.slice aw3 Wd.length cw3).ownBlock = some b6) := by
              rintro (e | e)
              · have := HG6.out; omega
              · have := (HNB.out _ e).2; omega
            have LY : ∀ wx : World, KeepX (fun k => k = w.heap.size + 1 + 1 ∨ (Value.slice aw3 Wd.length cw3).ownBlock = some k) w8 wx → (loadVar 9 ⟨b6, 1, none⟩).run Try.prog wx = .ok (.string ry) wx := fun wx hb => ld_strY (row2_of (hb.row HR8.out hn6)).c1
            have LK : ∀ wx : World, KeepX (fun k => k = w.heap.size + 1 + 1 ∨ (Value.slice aw3 Wd.length cw3).ownBlock = some k) w8 wx → (loadVar 28 ⟨b6, 0, none⟩).run Try.prog wx = .ok (.slice (some ⟨g6, 0, none⟩) 1 c6) wx := fun wx hb => ld_kysY (row2_of (hb.row HR8.out hn6)).c0
            have LKK : ∀ wx : World, KeepX (fun k => k = w.heap.size + 1 + 1 ∨ (Value.slice aw3 Wd.length cw3).ownBlock = some k) w8 wx → (loadVar 43 ⟨g6, 0, none⟩).run Try.prog wx = .ok (.agg #[.int .i64 kp, .int .i64 kq]) wx := fun wx hb => by
              have ho := hb.own HV8.out (fun g e => by
                have h1 := (HV8.out.lt g e).1
                have h2 := (HUA.out g e).1
                have h3 := HT8.out.n.1
                rintro (e2 | e2)
                · omega
                · exact h2 e2)
              exact key_load (k := (kp, kq)) (o := 0) ⟨(own_cell ho 0 (by omega)).1, (own_cell ho 1 (by omega)).1⟩ (ho.lt g6 rfl).2 (Below.refl _ _)
            have HBC := Lib.hid (show KeepX (fun k => k = w.heap.size + 1 + 1 ∨ (Value.slice aw3 Wd.length cw3).ownBlock = some k) w8 w8.drew from KeepX.below (Below.refl w8.heap.size w8).drew)
            have HBK := Lib.hid (Below.refl w8.heap.size w8).drew
            refine wp_region_G (fun wx => KeepX (fun k => k = w.heap.size + 1 + 1 ∨ (Value.slice aw3 Wd.length cw3).ownBlock = some k) w8 wx) (by kernel_rfl) ?_
            refine wpG_seg [true, true, true, true, true, true, true] [7] 3 (by kernel_rfl) (by intro c a d v w h; cases d <;> exact h) (by kernel_rfl) HBC.out ?_
            try simp only [maskRows]
            repeat (first
              | go_big_quiet_skip
              | (go_big_quiet_want
                 first
                   | (go_big_quiet_op; go_big_quiet_on)
                   | (refine q_load 27 _ _ _ rfl rfl LS ?_; simp only [Act.put, List.setIfInBounds_toArray, List.set_cons_zero, List.set_cons_succ]; go_big_quiet_on)
                   | (refine q_load 9 _ _ _ rfl rfl LY ?_; simp only [Act.put, List.setIfInBounds_toArray, List.set_cons_zero, List.set_cons_succ]; go_big_quiet_on)
                   | (refine q_load 28 _ _ _ rfl rfl LK ?_; simp only [Act.put, List.setIfInBounds_toArray, List.set_cons_zero, List.set_cons_succ]; go_big_quiet_on)
                   | (refine q_load 43 _ _ _ rfl rfl LKK ?_; simp only [Act.put, List.setIfInBounds_toArray, List.set_cons_zero, List.set_cons_succ]; go_big_quiet_on)
                   | (go_big_quiet_op; refine ⟨_, fun _ _ => rfl, ?_⟩; go_big_quiet_on)
                   | (go_big_quiet_op; refine ⟨_, fun _ _ _ => rfl, ?_⟩; go_big_quiet_on)
                   | (go_big_quiet_op; refine ⟨_, fun _ _ _ _ => rfl, ?_⟩; go_big_quiet_on)))
            refine wpQuiet_nil ?_
            refine List.forall_mem_singleton.2 ?_
            refine segt_run rfl (by rfl) (fun K hK => ?_)
            go_simp
            refine hK _ _ ⟨_, fun _ h => h, HBC.out, ?_⟩
            clear hK K
            try simp only [Act.put, List.setIfInBounds_toArray, List.set_cons_zero, List.set_cons_succ]
            refine wpG_seg [] [8] 2 (by kernel_rfl) (by intro c a d v w h; cases d <;> exact h) (by kernel_rfl) HBC.out ?_
            try simp only [maskRows]
            refine wpQuiet_nil ?_
            refine List.forall_mem_singleton.2 ?_
            refine segt_run rfl (by rfl) (fun K hK => ?_)
            go_simp
            refine (ialllearned_any mo sa lo ba Kn Wd (.slice ak3 Kn.length ck3) (.slice aw3 Wd.length cw3) us3 w2.heap.size ((kp, kq), ry) _ (HT8.out.sn.below HBK.out) HP.out HRO.out (Nat.le_trans HT8.out.n.2 HBK.out.size)).mono ?_
            rintro e w9 ⟨vk9, vw9, us9, rfl, hs9, hk9'⟩
            have hk9 := (KeepX.below (X := fun k => (Value.slice aw3 Wd.length cw3).ownBlock = some k) HBK.out).trans hk9'
            generalize learnAll ⟨mo, Kn, Wd, sa, lo, ba⟩ [((kp, kq), ry)] = T at *
            obtain ⟨mo9, K9, L9, sa9, lo9, ba9⟩ := T
            unfold snV
            dsimp only at hs9 ⊢
            obtain ⟨ak9, nk9, ck9, rfl⟩ := own_shape hs9.known
            obtain ⟨aw9, nw9, cw9, rfl⟩ := own_shape hs9.cd.own
            obtain rfl : nk9 = K9.length := own_lenS hs9.known
            obtain rfl : nw9 = L9.length := own_lenS hs9.cd.own
            have HX5 := Lib.hid (hk9.row HT8.out.ht (fun e => by have := (HNB.out _ e).1; have := HT8.out.n; omega))
            replace HBC := Lib.hid (show KeepX (fun k => k = w.heap.size + 1 + 1 ∨ (Value.slice aw3 Wd.length cw3).ownBlock = some k) w8 w9 from hk9.wider (fun k e => .inr e))
            refine hK _ _ ⟨_, fun _ h => h, HBC.out, ?_⟩
            clear hK K
            try simp only [Act.put, List.setIfInBounds_toArray, List.set_cons_zero, List.set_cons_succ]
            refine wpG_seg [] [9] 1 (by kernel_rfl) (by intro c a d v w h; cases d <;> exact h) (by kernel_rfl) HBC.out ?_
            try simp only [maskRows]
            refine wpQuiet_nil ?_
            refine List.forall_mem_singleton.2 ?_
            obtain ⟨⟨y0, y1, y2, y3, y4, y5⟩, f0, f1, f2, f3, f4, f5⟩ := row6_of HX5.out
            refine segt_run rfl (by rfl) (fun K hK => ?_)
            go_simp
            have HF := Lib.hid (sn_set HX5.out (.int .i64 mo9) (.slice ak9 K9.length ck9) (.slice aw9 L9.length cw9) (.int .i64 sa9) (.int .i64 lo9) (.int .i64 ba9))
            have HK9 := Lib.hid (show KeepX (fun k => k = w.heap.size + 1 + 1) w9 (set6 w9 (w.heap.size + 1 + 1) (.int .i64 mo9) (.slice ak9 K9.length ck9) (.slice aw9 L9.length cw9) (.int .i64 sa9) (.int .i64 lo9) (.int .i64 ba9)) from (((((((KeepX.refl (fun k => k = w.heap.size + 1 + 1) w9).set (w.heap.size + 1 + 1) 0 (.int .i64 mo9) rfl).set (w.heap.size + 1 + 1) 1 (.slice ak9 K9.length ck9) rfl).set (w.heap.size + 1 + 1) 2 (.slice aw9 L9.length cw9) rfl).set (w.heap.size + 1 + 1) 3 (.int .i64 sa9) rfl).set (w.heap.size + 1 + 1) 4 (.int .i64 lo9) rfl).set (w.heap.size + 1 + 1) 5 (.int .i64 ba9) rfl))
            have HFI := Lib.hid (HT8.out.fin hs9 hk9 (fun k e => by have := (HNB.out _ e).1; have := HT8.out.n; omega) HK9.out)
            replace HBC := Lib.hid (HBC.out.trans (HK9.out.wider (fun k e => .inl e)))
            clear y0 y1 y2 y3 y4 y5 f0 f1 f2 f3 f4 f5 HX5
            refine hK _ _ ⟨_, fun _ h => h, HBC.out, ?_⟩
            clear hK K
            try simp only [Act.put, List.setIfInBounds_toArray, List.set_cons_zero, List.set_cons_succ]
            refine wpG_end [false, false, false, false, false, false, false, false, false, false, true] (by kernel_rfl) (by intro c a d v w h; cases d <;> exact h) (by kernel_rfl) HBC.out ?_
            try simp only [maskRows]
            repeat (first
              | go_big_quiet_skip
              | (go_big_quiet_want
                 first
                   | (go_big_quiet_op; go_big_quiet_on)
                   | (refine q_load 27 _ _ _ rfl rfl LS ?_; simp only [Act.put, List.setIfInBounds_toArray, List.set_cons_zero, List.set_cons_succ]; go_big_quiet_on)
                   | (refine q_load 9 _ _ _ rfl rfl LY ?_; simp only [Act.put, List.setIfInBounds_toArray, List.set_cons_zero, List.set_cons_succ]; go_big_quiet_on)
                   | (refine q_load 28 _ _ _ rfl rfl LK ?_; simp only [Act.put, List.setIfInBounds_toArray, List.set_cons_zero, List.set_cons_succ]; go_big_quiet_on)
                   | (refine q_load 43 _ _ _ rfl rfl LKK ?_; simp only [Act.put, List.setIfInBounds_toArray, List.set_cons_zero, List.set_cons_succ]; go_big_quiet_on)
                   | (go_big_quiet_op; refine ⟨_, fun _ _ => rfl, ?_⟩; go_big_quiet_on)
                   | (go_big_quiet_op; refine ⟨_, fun _ _ _ => rfl, ?_⟩; go_big_quiet_on)
                   | (go_big_quiet_op; refine ⟨_, fun _ _ _ _ => rfl, ?_⟩; go_big_quiet_on)))
            refine wpQuiet_nil ?_
            go_wp2
            refine bodyPost_ret (v := .tuple #[.agg #[.int .i64 mo9, .slice ak9 K9.length ck9, .slice aw9 L9.length cw9, .int .i64 sa9, .int .i64 lo9, .int .i64 ba9], .int .i64 0]) ?_ rfl ?_
            · rw [results_cell_tmp (p := 4) (u := 5) (ty := 27) (by kernel_rfl)]
              have l2 := sn_load HF.out
              simp [asAddr, Result.andThen, l2, Act.put]
            · rw [HTO.out]
              first
                | exact ⟨_, _, _, rfl, HFI.out.1, HFI.out.2⟩
                | exact ⟨_, _, rfl, ⟨_, HFI.out.1⟩, HFI.out.2⟩
          · have h1c : decide (rs.length = 1) = false := decide_eq_false h1
            have HTO := Lib.hid (HTN.out h1 h0)
            clear h0 h1 HT0 HT1 HTN HR1 HRC HX HCX HNX
            go_upto_region 7 with (
              go_at_call 43
              refine (iisalone_any (.slice a6 rs.length c6) rs ry w7 (keysAt_own HV7.out)).mono ?_
              rintro e w8 ⟨rfl, hb8⟩
              rw [h1c]
              dsimp only
              have HT8 := Lib.hid (HT7.out.next hb8)
              have HR8 := Lib.hid ((hb8.block _ (Array.getElem?_eq_some_iff.1 HR7.out).1).trans HR7.out)
              have HV8 := Lib.hid (own_below HV7.out hb8)
              clear hb8 z0 z1)
            clear HT7 HR7 HV7
            obtain ⟨⟨x0, x1, x2, x3, x4, x5⟩, -, -, -, -, -, -⟩ := row6_of HT8.out.hs
            obtain ⟨z0, z1, -, -⟩ := row2_of HR8.out
            go_wp2_with fail
            refine (ikept_any mo sa lo ba Kn Wd (.slice ak3 Kn.length ck3) (.slice aw3 Wd.length cw3) (.slice a6 rs.length c6) us3 w2.heap.size rs ry w8 HT8.out.sn HP.out HCR.out HV8.out HUA.out HT8.out.n.2).mono ?_
            rintro e w9 ⟨vw9, us9, rfl, hs9, hk9⟩
            generalize keptM ⟨mo, Kn, Wd, sa, lo, ba⟩ (rs, ry) = T' at *
            obtain ⟨T, co9⟩ := T'
            dsimp only at hs9 HTO ⊢
            obtain ⟨mo9, K9, L9, sa9, lo9, ba9⟩ := T
            unfold snV
            dsimp only at hs9 ⊢
            obtain ⟨aw9, nw9, cw9, rfl⟩ := own_shape hs9.cd.own
            obtain rfl : nw9 = L9.length := own_lenS hs9.cd.own
            have HX5 := Lib.hid (hk9.row HT8.out.ht (fun e => by have := (HNB.out _ e).1; have := HT8.out.n; omega))
            clear x0 x1 x2 x3 x4 x5 z0 z1
            obtain ⟨⟨y0, y1, y2, y3, y4, y5⟩, f0, f1, f2, f3, f4, f5⟩ := row6_of HX5.out
            have HF := Lib.hid (sn_set HX5.out (.int .i64 mo9) (.slice ak3 Kn.length ck3) (.slice aw9 L9.length cw9) (.int .i64 sa9) (.int .i64 lo9) (.int .i64 ba9))
            have HK9 := Lib.hid (show KeepX (fun k => k = w.heap.size + 1 + 1) w9 (set6 w9 (w.heap.size + 1 + 1) (.int .i64 mo9) (.slice ak3 Kn.length ck3) (.slice aw9 L9.length cw9) (.int .i64 sa9) (.int .i64 lo9) (.int .i64 ba9)) from (((((((KeepX.refl (fun k => k = w.heap.size + 1 + 1) w9).set (w.heap.size + 1 + 1) 0 (.int .i64 mo9) rfl).set (w.heap.size + 1 + 1) 1 (.slice ak3 Kn.length ck3) rfl).set (w.heap.size + 1 + 1) 2 (.slice aw9 L9.length cw9) rfl).set (w.heap.size + 1 + 1) 3 (.int .i64 sa9) rfl).set (w.heap.size + 1 + 1) 4 (.int .i64 lo9) rfl).set (w.heap.size + 1 + 1) 5 (.int .i64 ba9) rfl))
            have HFI := Lib.hid (HT8.out.fin hs9 hk9 (fun k e => by have := (HNB.out _ e).1; have := HT8.out.n; omega) HK9.out)
            clear hs9 hk9
            go_wp2
            refine bodyPost_ret (v := .tuple #[.agg #[.int .i64 mo9, .slice ak3 Kn.length ck3, .slice aw9 L9.length cw9, .int .i64 sa9, .int .i64 lo9, .int .i64 ba9], .int .i64 co9]) ?_ rfl ?_
            · rw [results_cell_tmp (p := 4) (u := 5) (ty := 27) (by kernel_rfl)]
              have l2 := sn_load HF.out
              simp [asAddr, Result.andThen, l2, Act.put]
            · rw [HTO.out]
              first
                | exact ⟨_, _, _, rfl, HFI.out.1, HFI.out.2⟩
                | exact ⟨_, _, rfl, ⟨_, HFI.out.1⟩, HFI.out.2⟩
  · rw [show sinkOkB ⟨mo, Kn, Wd, sa, lo, ba⟩ = false from decide_eq_false hp]
    have HTM := Lib.hid (take_wrong (x := (xs, y)) hp)
    clear hp
    have HF := Lib.hid (sn_set HT2.out (.int .i64 0) (.slice none 0 0) (.slice none 0 0) (.int .i64 0) (.int .i64 0) (.int .i64 0))
    have HBF := Lib.hid (sn_setB HB2.out (show w.heap.size ≤ w.heap.size + 1 + 1 by omega) (.int .i64 0) (.slice none 0 0) (.slice none 0 0) (.int .i64 0) (.int .i64 0) (.int .i64 0))
    obtain ⟨⟨y0, y1, y2, y3, y4, y5⟩, f0, f1, f2, f3, f4, f5⟩ := row6_of HT2.out
    go_wp2
    refine bodyPost_ret (v := .tuple #[.agg #[.int .i64 0, .slice none 0 0, .slice none 0 0, .int .i64 0, .int .i64 0, .int .i64 0], .int .i64 5]) ?_ rfl ?_
    · rw [results_cell_tmp (p := 4) (u := 5) (ty := 27) (by kernel_rfl)]
      have l2 := sn_load HF.out
      simp [asAddr, Result.andThen, l2, Act.put]
    · rw [HTM.out]
      have hs := (noSnO (base := w.heap.size) (W := set6 w2 (w.heap.size + 1 + 1) (.int .i64 0) (.slice none 0 0) (.slice none 0 0) (.int .i64 0) (.int .i64 0) (.int .i64 0)))
      first
        | exact ⟨_, _, [], rfl, hs, HBF.out⟩
        | exact ⟨_, _, rfl, ⟨[], hs⟩, HBF.out⟩
end Go.Proofs.Ytadjmfhhpkjpaaa
