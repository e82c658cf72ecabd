/- What the laws lean on (own lemmas and walks of the called functions). -/
import Derived.Test.YtcecodjipeahkaaPb2
set_option linter.unusedVariables false
set_option linter.unusedSimpArgs false
namespace Go.Proofs.Ytcecodjipeahkaa
open Go.ChangeShapes Go.WideShapes Go.ChangeAt Go.RowKit Go.BigFrame
set_option linter.unusedVariables false

theorem span_more {L : List C2} (x : W2) (h : (lessG ordW.toPla (baseG ordW (rowsN L L.length)).1 x).1.1 ≠ []) : spanB L x.1 = false := by
  cases hs : spanB L x.1 with
  | false => rfl
  | true =>
    have h1 := (spanned_iff ordW _ x).1 ((spanB_yes x.2).1 hs)
    have hI := base_inv ordW (rowsN L L.length)
    exact absurd ((bareW _).1 (bare_of ordW fun k => span_bare ordW hI.bare h1 k)) h
theorem span_agr {L : List C2} (x : W2) (ha : agB (baseG ordW (rowsN L L.length)).2 = true) (h : (lessG ordW.toPla (baseG ordW (rowsN L L.length)).1 x).1.1 = []) : spanB L x.1 = decide ((lessG ordW.toPla (baseG ordW (rowsN L L.length)).1 x).1.2 = z4) := by
  rw [Bool.eq_iff_iff, spanB_yes x.2, decide_eq_true_eq, ← zeroW _ h]
  exact spanned_agreed ordW _ x ((agB_iff _).1 ha)
theorem span_lds {L : List C2} (x : W2) (h : (lessG ordW.toPla (baseG ordW (rowsN L L.length)).1 x).1.1 = []) : spanB L x.1 = decide (loadsEnd (rowsN L L.length) (ldW (lessG ordW.toPla (baseG ordW (rowsN L L.length)).1 x)) = grpL.zero) := by
  rw [Bool.eq_iff_iff, spanB_yes x.2, decide_eq_true_eq, spanned_iff ordW, span_load (base_inv ordW (rowsN L L.length)).bare h]
  exact loads_iff _ _
/-- the contract of l07Load -/
def SLoads : Prop := ∀ (vl : Value) (L : List C2) (y0 : ByteArray) (hy0 : y0.size = 4) (w : World), cdAv w none vl L → L.length ≤ 1900000 → (∀ x ∈ L, x.1.length ≤ 2000000) →
    Calls Try.prog 54 #[vl, .string y0] w fun e w' => e = .returned (.bool (decide (loadsEnd (rowsN L L.length) ⟨y0, hy0⟩ = grpL.zero))) ∧ Below w.heap.size w w'
set_option maxRecDepth 100000 in
set_option maxHeartbeats 2000000 in
theorem sspanned_any (SLO : SLoads) (vl : Value) (L : List C2) (vx : Value) (x : C2) (w : World) (h : cdAv w none vl L) (hl : L.length ≤ 1900000) (hks : ∀ x ∈ L, x.1.length ≤ 2000000) (hx : keysAt w vx x.1) (hxl : x.1.length ≤ 2000000) :
    Calls Try.prog 15 #[vl, .agg #[vx, .string x.2]] w fun e w' => e = .returned (.bool (spanB L x)) ∧ Below w.heap.size w w' := by
  have hb1 := (Below.refl w.heap.size w).alloc (Nat.le_refl _) (.cells #[vx, .string x.2] 27)
  have HR := Lib.hid (heap_alloc_new w (.cells #[vx, .string x.2] 27))
  have HB := Lib.hid hb1
  have HL := Lib.hid (cdAv_below h hb1)
  have HX := Lib.hid (keysAt_below hx hb1)
  obtain ⟨ax, cx, rfl, -, -⟩ := hx
  clear hb1
  go_enter Try.func15, Try.ntmps15
  go_wp2_with fail
  generalize w.alloc (.cells #[.slice ax x.1.length cx, .string x.2] 27) = W at *
  refine (sbase_any vl L W HL.out hl hks).mono ?_
  rintro e w1 ⟨g, c, us, rfl, hC⟩
  have hb1 := hC.below
  have HR1 := Lib.hid ((hb1.block _ (Array.getElem?_eq_some_iff.1 HR.out).1).trans HR.out)
  have HB1 := Lib.hid (HB.out.trans (hb1.mono HB.out.size))
  have HL1 := Lib.hid (cdAv_below HL.out hb1)
  have HX1 := Lib.hid (keysAt_below HX.out hb1)
  have HC := Lib.hid hC.to
  clear hb1 HR HB HL HX hC
  obtain ⟨x0, x1, -, -⟩ := row2_of HR1.out
  go_wp2_with fail
  refine (skeysok_any _ x.1 w1 HX1.out hxl).mono ?_
  rintro e w2 ⟨rfl, hb2⟩
  have HR2 := Lib.hid ((hb2.block _ (Array.getElem?_eq_some_iff.1 HR1.out).1).trans HR1.out)
  have HB2 := Lib.hid (HB1.out.trans (hb2.mono HB1.out.size))
  have HL2 := Lib.hid (cdAv_below HL1.out hb2)
  have HX2 := Lib.hid (keysAt_below HX1.out hb2)
  have HC2 := Lib.hid (cdAv_below HC.out hb2)
  clear hb2 HR1 HB1 HL1 HX1 HC x0 x1
  obtain ⟨x0, x1, -, -⟩ := row2_of HR2.out
  cases h1 : keysOkR x.1 with
  | false =>
    have HN := Lib.hid (spanB_no (L := L) (x := x) fun g => by rw [h1] at g; cases g.1)
    clear h1
    go_wp2
    go_ret
    exact ⟨by rw [HN.out]; rfl, HB2.out⟩
  | true =>
    by_cases h4 : x.2.size = 4
    · have i4 : (x.2.size : Int) = 4 := by omega
      obtain ⟨xw, hxw⟩ : ∃ xw : W2, xw.1 = x := ⟨⟨x, h1, h4⟩, rfl⟩
      subst hxw
      have hbl := base_len L L.length
      have SL := Lib.hid (sless_any (.slice (some ⟨g, 0, none⟩) (baseG ordW (rowsN L L.length)).1.length c) (baseG ordW (rowsN L L.length)).1 (.slice ax xw.1.1.length cx) xw (some g) w2 HC2.out (base_ne _) (by omega) HX2.out)
      have HM := Lib.hid (span_more (L := L) xw)
      have HA := Lib.hid (span_agr (L := L) xw)
      have HLD := Lib.hid (span_lds (L := L) xw)
      generalize hX : lessG ordW.toPla (baseG ordW (rowsN L L.length)).1 xw = X at *
      clear h1 h4 hX
      generalize hag : agB (baseG ordW (rowsN L L.length)).2 = ag at *
      clear hag
      generalize (baseG ordW (rowsN L L.length)).1 = B at *
      go_wp2_with fail
      refine SL.out.mono ?_
      rintro e w3 ⟨v3, rfl, hk3, -, hb3⟩
      have HB3 := Lib.hid (HB2.out.trans (hb3.mono HB2.out.size))
      have HL3 := Lib.hid (cdAv_below HL2.out hb3)
      obtain ⟨a3, c3, rfl, -, -⟩ := hk3
      have hbx := heap_alloc_new w3 (.cells #[.slice a3 X.1.1.length c3, .string X.1.2] 27)
      have hbA := (Below.refl w3.heap.size w3).alloc (Nat.le_refl _) (.cells #[.slice a3 X.1.1.length c3, .string X.1.2] 27)
      have HBX := Lib.hid hbx
      have HB4 := Lib.hid (HB3.out.trans (hbA.mono HB3.out.size))
      have HL4 := Lib.hid (cdAv_below HL3.out hbA)
      clear hb3 hbx hbA SL HB3 HL3 HX2 HC2 HR2 HB2 HL2 x0 x1
      by_cases h0 : X.1.1.length = 0
      · have i0 : (X.1.1.length : Int) = 0 := by omega
        have hx0 : X.1.1 = [] := List.length_eq_zero_iff.1 h0
        cases ag with
        | true =>
          have hsp := HA.out rfl hx0
          rw [← strEq] at hsp
          have HSP := Lib.hid hsp
          clear hsp HM HA HLD hx0 h0
          go_wp2_with fail
          generalize w3.alloc (.cells #[.slice a3 X.1.1.length c3, .string X.1.2] 27) = w4 at *
          generalize w3.heap.size = b8 at *
          have L1 : ∀ w', Below w4.heap.size w4 w' → (loadVar 9 ⟨b8, 1, none⟩).run Try.prog w' = .ok (.string X.1.2) w' := fun w' hw => cd_loads HBX.out hw
          refine wp_region_below w4 (by kernel_rfl) (by kernel_rfl) (Below.refl _ _) ?_
          repeat (first
            | go_big_quiet_skip
            | (go_big_quiet_want
               first
                 | (go_big_quiet_op; go_big_quiet_on)
                 | (refine q_load 9 _ _ _ rfl rfl L1 ?_; simp only [Act.put, List.setIfInBounds_toArray, List.set_cons_zero, List.set_cons_succ]; go_big_quiet_on)
                 | (go_big_quiet_op; refine ⟨_, fun _ _ => rfl, ?_⟩; go_big_quiet_on)
                 | (go_big_quiet_op; apply Exists.intro; refine ⟨fun w' hw' => ?_, ?_⟩
                    · first
                      | (with_reducible refine (szero_below w').mono ?_
                         rintro e w2 ⟨rfl, hb2⟩
                         exact ⟨rfl, hw'.trans (hb2.mono hw'.size)⟩)
                    go_big_quiet_on)))
          refine wpQuiet_nil ?_
          intro w5 hb5
          have HB5 := Lib.hid (HB4.out.trans (hb5.mono HB4.out.size))
          clear L1 hb5 HB4
          go_wp2
          go_ret
          exact ⟨by rw [HSP.out]; rfl, HB5.out⟩
        | false =>
          have HSP := Lib.hid (HLD.out hx0)
          have hy4 := X.2.2
          obtain ⟨x0, x1, -, -⟩ := row2_of HBX.out
          clear HM HA HLD hx0 h0
          go_wp2_with fail
          refine (SLO vl L X.1.2 hy4 _ HL4.out hl hks).mono ?_
          rintro e w5 ⟨rfl, hb5⟩
          have HB5 := Lib.hid (HB4.out.trans (hb5.mono HB4.out.size))
          clear hb5 HB4 HL4 HBX x0 x1
          go_wp2
          go_ret
          exact ⟨by rw [HSP.out]; rfl, HB5.out⟩
      · have i0 : ¬ (X.1.1.length : Int) = 0 := by omega
        have i1 : (0 : Int) < (X.1.1.length : Int) := by omega
        have HSP := Lib.hid (HM.out fun e => h0 (by rw [e]; rfl))
        clear HM HA HLD h0
        go_wp2
        go_ret
        exact ⟨by rw [HSP.out]; rfl, HB4.out⟩
    · have i4 : ¬ (x.2.size : Int) = 4 := by omega
      have HN := Lib.hid (spanB_no (L := L) (x := x) fun g => h4 g.2)
      clear h4 h1
      go_wp2
      go_ret
      exact ⟨by rw [HN.out]; rfl, HB2.out⟩
end Go.Proofs.Ytcecodjipeahkaa
namespace Go.Proofs.Ytcecodjipeahkaa
open Go.ChangeShapes Go.WideShapes Go.ChangeAt Go.RowKit Go.BigFrame
set_option linter.unusedVariables false

theorem szS_le : ∀ (L : List C2) (l : Int), 0 ≤ szS L l → szS L l ≤ l
  | [], l, _ => Int.le_refl _
  | x :: L, l, h => by
    unfold szS at h ⊢
    by_cases h1 : szC l x.1.length x.2.size < 0
    · rw [if_pos h1] at h; omega
    · rw [if_neg h1] at h ⊢
      have h2 := szC_le (l := l) (n := x.1.length) (m := x.2.size) (by omega)
      have := szS_le L _ h
      omega
theorem szL_le {L : List C2} {l : Int} (h : 0 ≤ szL L l) : szL L l ≤ l := by
  unfold szL at h ⊢
  by_cases h1 : l - (L.length : Int) < 0
  · rw [if_pos h1] at h; omega
  · rw [if_neg h1] at h ⊢
    have := szS_le L _ h
    omega
set_option maxRecDepth 100000 in
set_option maxHeartbeats 2000000 in
theorem exspanned_walk (SLO : SLoads) (v : Value) (L : List C2) (vx : Value) (kx : List K2) (yx : ByteArray) (w : World) (h : cdAv w none v L) (hL : L.length ≤ maxLen) (hx : ∀ x ∈ L, x.1.length ≤ maxLen ∧ x.2.size ≤ maxLen) (hk : keysAt w vx kx) (hkl : kx.length ≤ maxLen) (hyl : yx.size ≤ maxLen) :
    Calls Try.prog 8 #[v, .agg #[vx, .string yx]] w fun e w' => e = .returned (.bool true) ∧ Below w.heap.size w w' := by
  have hb0 := (Below.refl w.heap.size w).alloc (Nat.le_refl _) (.cells #[vx, .string yx] 54)
  have HR := Lib.hid (heap_alloc_new w (.cells #[vx, .string yx] 54))
  have HB0 := Lib.hid hb0
  have h0 := cdAv_below h hb0
  have hk0 := keysAt_below hk hb0
  go_enter Try.func8, Try.ntmps8
  go_wp2_with fail
  generalize w.alloc (.cells #[vx, .string yx] 54) = W0 at *
  refine (szcodes_any v L 1048576 _ h0 hL hx ⟨by omega, by omega⟩).mono ?_
  rintro e w1 ⟨z, rfl, hz, hb1⟩
  have HR1 := Lib.hid ((hb1.block _ (Array.getElem?_eq_some_iff.1 HR.out).1).trans HR.out)
  have HB1 := Lib.hid (HB0.out.trans (hb1.mono HB0.out.size))
  clear hb0 HR
  by_cases hneg : z < 0
  · go_wp2
    go_ret
    exact ⟨rfl, HB1.out⟩
  · have hok := szL_ok (L := L) (l := 1048576) (by rw [← hz]; omega)
    have hz2 : z ≤ 1048576 := by
      have := szL_le (L := L) (l := 1048576) (by rw [← hz]; omega)
      rw [← hz] at this; exact this
    have hL2 : L.length ≤ 1900000 := by have := hok.1; omega
    have hx2 : ∀ x ∈ L, x.1.length ≤ 1900000 := fun x hxm => by have := (hok.2 x hxm).1; omega
    have hx3 : ∀ x ∈ L, x.1.length ≤ 2000000 := fun x hxm => by have := hx2 x hxm; omega
    have hx4 : ∀ x ∈ L, x.1.length ≤ 4000000 := fun x hxm => by have := hx2 x hxm; omega
    have h1 := cdAv_below h0 hb1
    have hk1 := keysAt_below hk0 hb1
    have HX3 := Lib.hid hx3; have HX4 := Lib.hid hx4; have HX2 := Lib.hid hx2
    have SZ := Lib.hid (fun w' => szcode_any vx kx yx z w' (by obtain ⟨a, cap, e, -⟩ := hk; exact ⟨a, cap, e⟩) ⟨by omega, by omega⟩ (by unfold maxLen at hkl; omega) (by unfold maxLen at hyl; omega))
    have hsz := szC_le (l := z) (n := kx.length) (m := yx.size)
    have HSZ := Lib.hid hsz
    clear hz hok hx2 hx3 hx4 hx hsz hk h h0 hk0 hb1 HB0
    obtain ⟨x0, x1, -, -⟩ := row2_of HR1.out
    obtain ⟨ax, cx, rfl, -, -⟩ := id hk1
    generalize szC z kx.length yx.size = z2 at *
    go_wp2_with fail
    refine (SZ.out _).mono ?_
    rintro e w2 ⟨rfl, hb2⟩
    have HB2 := Lib.hid (HB1.out.trans (hb2.mono HB1.out.size))
    have HR2 := Lib.hid ((hb2.block _ (Array.getElem?_eq_some_iff.1 HR1.out).1).trans HR1.out)
    have H2 := Lib.hid (cdAv_below h1 hb2)
    have HK2 := Lib.hid (keysAt_below hk1 hb2)
    clear SZ HB1 HR1 hb2 h1 hk1 x0 x1
    by_cases hneg2 : z2 < 0
    · go_wp2
      go_ret
      exact ⟨rfl, HB2.out⟩
    · have hq := HSZ.out (by omega)
      have hkn : kx.length ≤ 1900000 := by omega
      clear HSZ hq
      obtain ⟨x0, x1, -, -⟩ := row2_of HR2.out
      have hl5 := (Array.getElem?_eq_some_iff.1 HR2.out).1
      go_wp2_with fail
      go_region_law (first
        | (go_simp
           go_at_call 29
           refine (tocodes_any v L _ (cdAv_below H2.out (by first | exact Below.refl _ _ | exact (Below.refl _ _).drew)) hL2 HX2.out).mono ?_
           rintro e w3 ⟨g3, us3, rfl, hT3⟩
           dsimp only
           have hb3 : Below w2.heap.size w2 w3 := (by first | exact hT3.below | exact (Below.refl w2.heap.size w2).drew.trans hT3.below)
           have HB3 := Lib.hid (HB2.out.trans (hb3.mono HB2.out.size))
           have HR3 := Lib.hid ((hb3.block _ (Array.getElem?_eq_some_iff.1 HR2.out).1).trans HR2.out)
           have H3 := Lib.hid (cdAv_below H2.out hb3)
           have HK3 := Lib.hid (keysAt_below HK2.out hb3)
           have HA3 := Lib.hid hT3.at
           obtain ⟨x0, x1, -, -⟩ := row2_of HR3.out
           have hl5 := (Array.getElem?_eq_some_iff.1 HR3.out).1
           clear hT3 hb3)
        | (go_simp
           go_at_call 32
           refine (tocode_any _ kx yx _ (keysAt_below HK3.out (by first | exact Below.refl _ _ | exact (Below.refl _ _).drew)) (by omega)).mono ?_
           rintro e w4 ⟨v4, rfl, ho4, hb4'⟩
           dsimp only
           have hb4 : Below w3.heap.size w3 w4 := (by first | exact hb4' | exact (Below.refl w3.heap.size w3).drew.trans hb4')
           obtain ⟨a4, n4, k4, rfl⟩ := own_shape ho4
           have HB4 := Lib.hid (HB3.out.trans (hb4.mono HB3.out.size))
           have HR4 := Lib.hid ((hb4.block _ (Array.getElem?_eq_some_iff.1 HR3.out).1).trans HR3.out)
           have H4 := Lib.hid (cdAv_below H3.out hb4)
           have HK4 := Lib.hid (keysAt_below HK3.out hb4)
           have HA4 := Lib.hid (cdAv_below HA3.out hb4)
           have HX4' := Lib.hid (keysAt_own ho4)
           obtain ⟨x0, x1, -, -⟩ := row2_of HR4.out
           have hl5 := (Array.getElem?_eq_some_iff.1 HR4.out).1
           clear hb4 hb4' ho4)
        | (go_simp
           go_at_call 15
           refine (sspanned_any SLO _ L _ (kx, yx) _ (cdAv_below HA4.out (by first | exact Below.refl _ _ | exact (Below.refl _ _).drew)) hL2 HX3.out (keysAt_below HX4'.out (by first | exact Below.refl _ _ | exact (Below.refl _ _).drew)) (by show kx.length ≤ 2000000; omega)).mono ?_
           rintro e w5 ⟨rfl, hb5'⟩
           dsimp only
           have hb5 : Below w4.heap.size w4 w5 := (by first | exact hb5' | exact (Below.refl w4.heap.size w4).drew.trans hb5')
           have HB5 := Lib.hid (HB4.out.trans (hb5.mono HB4.out.size))
           have HR5 := Lib.hid ((hb5.block _ (Array.getElem?_eq_some_iff.1 HR4.out).1).trans HR4.out)
           have H5 := Lib.hid (cdAv_below H4.out hb5)
           have HK5 := Lib.hid (keysAt_below HK4.out hb5)
           obtain ⟨x0, x1, -, -⟩ := row2_of HR5.out
           have hl5 := (Array.getElem?_eq_some_iff.1 HR5.out).1
           clear hb5 hb5'))
      all_goals
        clear x0 x1 hl5
        have hsp : spanB L (kx, yx) = spanB L (kx, yx) := rfl
        generalize hspe : spanB L (kx, yx) = sp at *
        have HSP := Lib.hid hspe
        clear hspe hsp HA4 HX4' HB4 HR4 H4 HK4 HB3 HR3 H3 HK3 HA3 H2 HK2 HB2 HR2
        go_wp2_with fail
        refine (tocodes_any v L w5 H5.out hL2 HX2.out).mono ?_
        rintro e w6 ⟨g6, us6, rfl, hT6⟩
        have hb6 := hT6.below
        have HB6 := Lib.hid (HB5.out.trans (hb6.mono HB5.out.size))
        have HR6 := Lib.hid ((hb6.block _ (Array.getElem?_eq_some_iff.1 HR5.out).1).trans HR5.out)
        have H6 := Lib.hid (cdAv_below H5.out hb6)
        have HK6 := Lib.hid (keysAt_below HK5.out hb6)
        have HA6 := Lib.hid hT6.at
        clear hT6 hb6 HB5 HR5 H5 HK5
        obtain ⟨x0, x1, -, -⟩ := row2_of HR6.out
        have hl5 := (Array.getElem?_eq_some_iff.1 HR6.out).1
        go_wp2_with fail
        refine (tocode_any _ kx yx w6 HK6.out (by omega)).mono ?_
        rintro e w7 ⟨v7, rfl, ho7, hb7⟩
        obtain ⟨a7, n7, k7, rfl⟩ := own_shape ho7
        have hb8 := (Below.refl w7.heap.size w7).alloc (Nat.le_refl _) (.cells #[.slice a7 n7 k7, .string yx] 27)
        have hB := hb7.trans (hb8.mono hb7.size)
        have HB8 := Lib.hid (HB6.out.trans (hB.mono HB6.out.size))
        have HR8 := Lib.hid ((hB.block _ (Array.getElem?_eq_some_iff.1 HR6.out).1).trans HR6.out)
        have H8 := Lib.hid (cdAv_below H6.out hB)
        have HK8 := Lib.hid (keysAt_below HK6.out hB)
        have HA8 := Lib.hid (cdAv_below HA6.out hB)
        have HV8 := Lib.hid (keysAt_below (keysAt_own ho7) hb8)
        have HX8 := Lib.hid (heap_alloc_new w7 (.cells #[.slice a7 n7 k7, .string yx] 27))
        clear hB hb8 hb7 ho7 HB6 HR6 H6 HK6 HA6 x0 x1 hl5
        obtain ⟨y0, y1, -, -⟩ := row2_of HX8.out
        have hl8 := (Array.getElem?_eq_some_iff.1 HX8.out).1
        go_wp2_with fail
        generalize w7.alloc (.cells #[.slice a7 n7 k7, .string yx] 27) = w8 at *
        generalize w7.heap.size = b8 at *
        refine (ispanned_any _ L _ (kx, yx) w8 HA8.out hL2 HX3.out HV8.out (by show kx.length ≤ 2000000; omega)).mono ?_
        rw [HSP.out]
        rintro e w9 ⟨rfl, hb9⟩
        have HB9 := Lib.hid (HB8.out.trans (hb9.mono HB8.out.size))
        have HR9 := Lib.hid ((hb9.block _ (Array.getElem?_eq_some_iff.1 HR8.out).1).trans HR8.out)
        have HX9 := Lib.hid ((hb9.block _ (Array.getElem?_eq_some_iff.1 HX8.out).1).trans HX8.out)
        have H9 := Lib.hid (cdAv_below H8.out hb9)
        have HK9 := Lib.hid (keysAt_below HK8.out hb9)
        have HA9 := Lib.hid (cdAv_below HA8.out hb9)
        have HV9 := Lib.hid (keysAt_below HV8.out hb9)
        clear hb9 HB8 HR8 HX8 H8 HK8 HA8 HV8 y0 y1 hl8 HSP
        go_wp2_with fail
        refine (tocodes_any v L w9 H9.out hL2 HX2.out).mono ?_
        rintro e w10 ⟨g10, us10, rfl, hT10⟩
        have hb10 := hT10.below
        have HB10 := Lib.hid (HB9.out.trans (hb10.mono HB9.out.size))
        have HR10 := Lib.hid ((hb10.block _ (Array.getElem?_eq_some_iff.1 HR9.out).1).trans HR9.out)
        have HX10 := Lib.hid ((hb10.block _ (Array.getElem?_eq_some_iff.1 HX9.out).1).trans HX9.out)
        have HK10 := Lib.hid (keysAt_below HK9.out hb10)
        have HA10 := Lib.hid (cdAv_below HA9.out hb10)
        have HV10 := Lib.hid (keysAt_below HV9.out hb10)
        have HC10 := Lib.hid hT10.at
        clear hT10 hb10 HB9 HR9 HX9 H9 HK9 HA9 HV9
        go_wp2_with fail
        refine (eqcodes_any _ _ L L w10 HA10.out HC10.out (by omega) (by omega) HX4.out HX4.out).mono ?_
        rintro e w11 ⟨rfl, hb11⟩
        have HB11 := Lib.hid (HB10.out.trans (hb11.mono HB10.out.size))
        have HR11 := Lib.hid ((hb11.block _ (Array.getElem?_eq_some_iff.1 HR10.out).1).trans HR10.out)
        have HX11 := Lib.hid ((hb11.block _ (Array.getElem?_eq_some_iff.1 HX10.out).1).trans HX10.out)
        have HK11 := Lib.hid (keysAt_below HK10.out hb11)
        have HV11 := Lib.hid (keysAt_below HV10.out hb11)
        clear hb11 HB10 HR10 HX10 HK10 HA10 HV10 HC10
        have hdt : decide (L = L) = true := decide_eq_true rfl
        obtain ⟨x0, x1, -, -⟩ := row2_of HR11.out
        obtain ⟨y0, y1, -, -⟩ := row2_of HX11.out
        have hl5 := (Array.getElem?_eq_some_iff.1 HR11.out).1
        have hl8 := (Array.getElem?_eq_some_iff.1 HX11.out).1
        go_wp2_with fail
        go_region_law (first
          | (go_simp
             go_at_call 32
             refine (tocode_any _ kx yx _ (keysAt_below HK11.out (by first | exact Below.refl _ _ | exact (Below.refl _ _).drew)) (by omega)).mono ?_
             rintro e w12 ⟨v12, rfl, ho12, hb12'⟩
             dsimp only
             have hb12 : Below w11.heap.size w11 w12 := (by first | exact hb12' | exact (Below.refl w11.heap.size w11).drew.trans hb12')
             obtain ⟨a12, n12, k12, rfl⟩ := own_shape ho12
             have HB12 := Lib.hid (HB11.out.trans (hb12.mono HB11.out.size))
             have HR12 := Lib.hid ((hb12.block _ (Array.getElem?_eq_some_iff.1 HR11.out).1).trans HR11.out)
             have HX12 := Lib.hid ((hb12.block _ (Array.getElem?_eq_some_iff.1 HX11.out).1).trans HX11.out)
             have HV12 := Lib.hid (keysAt_below HV11.out hb12)
             have HW12 := Lib.hid (keysAt_own ho12)
             obtain ⟨x0, x1, -, -⟩ := row2_of HR12.out
             obtain ⟨y0, y1, -, -⟩ := row2_of HX12.out
             have hl5 := (Array.getElem?_eq_some_iff.1 HR12.out).1
             have hl8 := (Array.getElem?_eq_some_iff.1 HX12.out).1
             clear hb12 hb12' ho12)
          | (go_simp
             go_at_call 33
             refine (eqcode_any _ kx yx _ kx yx _ (keysAt_below HV12.out (by first | exact Below.refl _ _ | exact (Below.refl _ _).drew)) (keysAt_below HW12.out (by first | exact Below.refl _ _ | exact (Below.refl _ _).drew)) (by omega) (by omega)).mono ?_
             rintro e w13 ⟨rfl, hb13'⟩
             dsimp only
             have hb13 : Below w12.heap.size w12 w13 := (by first | exact hb13' | exact (Below.refl w12.heap.size w12).drew.trans hb13')
             have HB13 := Lib.hid (HB12.out.trans (hb13.mono HB12.out.size))
             clear hb13 hb13'))
        all_goals
          have hdk : (decide (kx = kx) && decide (yx = yx)) = true := by rw [decide_eq_true (rfl : kx = kx), decide_eq_true (rfl : yx = yx)]; rfl
          try simp only [hdk]
          go_wp2
          go_ret
          exact ⟨rfl, HB13.out⟩
end Go.Proofs.Ytcecodjipeahkaa
namespace Go.Proofs.Ytcecodjipeahkaa
open Go.ChangeShapes Go.WideShapes Go.ChangeAt Go.RowKit Go.BigFrame
set_option linter.unusedVariables false

set_option maxRecDepth 100000 in
set_option maxHeartbeats 20000000 in
theorem sload_any (vl : Value) (L : List C2) (y0 : ByteArray) (hy0 : y0.size = 4) (w : World) (h : cdAv w none vl L) (hl : L.length ≤ 1900000) (hks : ∀ x ∈ L, x.1.length ≤ 2000000) :
    Calls Try.prog 54 #[vl, .string y0] w fun e w' => e = .returned (.bool (decide (loadsEnd (rowsN L L.length) ⟨y0, hy0⟩ = grpL.zero))) ∧ Below w.heap.size w w' := by
  have hba := (Below.refl w.heap.size w).alloc (Nat.le_refl _) (.cells #[] 27)
  have hB1 : BsC w (w.alloc (.cells #[] 27)) w.heap.size 0 [] [] := by
    refine ⟨(Below.refl _ _).alloc (Nat.le_refl _) _, rfl, ?_, fun i hi => by simp at hi⟩
    exact World.ownsRow_made (base := w.heap.size) (e := 27) (size := 2) w #[] 0 (Nat.le_refl _) (by unfold maxLen; omega) rfl
  have hsz1 : (w.alloc (.cells #[] 27)).heap.size = w.heap.size + 1 := by simp
  have hz2 := World.ownsRow_made (base := w.heap.size) (e := 9) (size := 1) (w.alloc (.cells #[] 27)) #[] 0 (by simp) (by unfold maxLen; omega) rfl
  rw [hsz1] at hz2
  have hB0 : BsZ w ((w.alloc (.cells #[] 27)).alloc (.cells #[] 9)) w.heap.size 0 [] [] (.slice (some ⟨w.heap.size + 1, 0, none⟩) 0 0) [] :=
    ⟨hB1.next ((Below.refl _ _).alloc (Nat.le_refl _) _), hz2, (fun e => by have e2 : w.heap.size + 1 = w.heap.size := Option.some.inj e; omega), fun i hi => by simp at hi⟩
  have HB0 := Lib.hid hB0
  clear hB0 hB1 hz2 hba hsz1
  obtain ⟨al, cl, rfl, hcl, hcells⟩ := h
  go_enter Try.func54, Try.ntmps54
  go_wp2_with fail
  generalize (w.alloc (.cells #[] 27)).alloc (.cells #[] 9) = W0 at *
  go_loopw [5, 6, 7, 8] (fun v z m i wr => ∃ (k g c : Nat) (us : List Value) (vz : Value), k ≤ L.length ∧ v = .slice (some ⟨g, 0, none⟩) (baseG ordW (rowsN L k)).1.length c ∧ m = .int .i64 ((rowsN L k).length : Nat) ∧ i = .int .i64 k ∧ vz = z ∧ BsZ w wr g c us (baseG ordW (rowsN L k)).1 vz ((baseG ordW (rowsN L k)).2.map (·.1.2)))
    (fun _ _ _ i _ => L.length - (intOf i).toNat)
  case atStart => exact ⟨0, w.heap.size, 0, [], _, Nat.zero_le _, rfl, rfl, rfl, rfl, HB0.out⟩
  case round =>
    clear HB0
    obtain ⟨k, g, c, us, vz, hk, rfl, rfl, rfl, hvz, hC⟩ := hrel
    subst hvz
    rename_i wr
    have hzl := base_z_len L k
    have HC := Lib.hid hC
    have hbl := base_len L k
    have hml := (rowsN_le L k).1
    clear hC
    by_cases hx : k < L.length ∧ (rowsN L k).length < 20
    · obtain ⟨hlt, hm⟩ := hx
      obtain ⟨gl, off, rfl, hg, hcs⟩ := hcells.resolve_left (by omega)
      have z0 : (0 : Int) ≤ (k : Int) := by omega
      have z1 : (k : Int) < (L.length : Int) := by omega
      have m1 : ((rowsN L k).length : Int) < 20 := by omega
      obtain ⟨u, c1, c2, c3⟩ := hcs k hlt
      have hxl := hks (L.getD k blankC) (by rw [List.getD, List.getElem?_eq_getElem hlt]; exact List.getElem_mem hlt)
      have hyes := fun hck => rowsN_yes (l := L) (i := k) hck hm
      have hno := fun hck => rowsN_no (l := L) (i := k) hck
      generalize L.getD k blankC = x at *
      have hB := HC.out.bs.below
      have SC := Lib.hid (fun w' (hw : Below wr.heap.size wr w') => scodeok_any u x.1 x.2 w' (keysAt_below (keysAt_below c3.to hB) hw) hxl)
      have d1 := (hB.cell (p := ⟨gl, off + k * 2, none⟩) hg).trans c1
      have d2 := (hB.cell (p := ⟨gl, off + k * 2 + 1, none⟩) hg).trans c2
      have HX := Lib.hid (keysAt_below c3.to hB)
      have HXA := Lib.hid (keysAv.also (keysAv_of (b := some g) c3.to (fun j hj e => by cases e; have := HC.out.bs.blk; omega)) HX.out)
      have HXZ := Lib.hid (keysAv.also (keysAv_of (b := vz.ownBlock) c3.to (fun j hj e => by have := (HC.out.zown.lt j e.symm).1; omega)) HX.out)
      have HD := Lib.hid (And.intro (And.intro d1 d2) (Nat.lt_of_lt_of_le hg hB.size))
      obtain ⟨au, cu, hu, -, -⟩ := c3
      subst hu
      clear hcells hcs c1 c2 hB hks hxl
      go_wp2_with fail
      refine (SC.out _ (Below.refl _ _)).mono ?_
      rintro e w1 ⟨rfl, hb1⟩
      have HC1 := Lib.hid (HC.out.next hb1)
      have HX1 := Lib.hid (keysAt_below HX.out hb1)
      have HXA1 := Lib.hid (HXA.out.below hb1)
      have HXZ1 := Lib.hid (HXZ.out.below hb1)
      have d1' := (hb1.cell (p := ⟨gl, off + k * 2, none⟩) HD.out.2).trans d1
      have d2' := (hb1.cell (p := ⟨gl, off + k * 2 + 1, none⟩) HD.out.2).trans d2
      clear hb1 d1 d2 HD HC HX HXA HXZ SC
      cases hck : codeOkB (x.1, x.2) with
      | false =>
        have HN := Lib.hid (hno hck)
        clear hyes hno hck HX1 HXA1 HXZ1
        go_wp2_with fail
        exact ⟨⟨k + 1, g, c, us, _, by omega, by rw [HN.out], by rw [HN.out], by go_num, rfl, by rw [HN.out]; exact HC1.out⟩, by simp [intOf]; omega⟩
      | true =>
        have HY := Lib.hid (hyes hck)
        have hw := ok_w hck
        generalize hxw : (⟨x, hw⟩ : W2) = xw at *
        have hx1 : x = xw.1 := by rw [← hxw]
        subst hx1
        have SL := Lib.hid (sless_any (.slice (some ⟨g, 0, none⟩) (baseG ordW (rowsN L k)).1.length c) (baseG ordW (rowsN L k)).1 (.slice au xw.1.1.length cu) xw (some g) w1 HC1.out.bs.to (base_ne _) (by omega) HX1.out)
        have hBE := @base_bare (rowsN L k) xw
        have hBM := @base_more (rowsN L k) xw
        clear hyes hno hck hxw hw HX1
        generalize rowsN L k = R at *
        generalize hX : lessG ordW.toPla (baseG ordW R).1 xw = X at *
        have HBE := Lib.hid hBE; have HBM := Lib.hid hBM
        clear hBE hBM
        generalize (baseG ordW R).1 = B at *
        generalize (baseG ordW R).2 = Z at *
        have hr1 : IntKind.i64.wrap ((R.length : Int) + 1) = ((R.length + 1 : Nat) : Int) := by rw [IntWalk.i64_in _ (by omega)]; omega
        go_wp2_with fail
        refine SL.out.mono ?_
        rintro e w2 ⟨v2, rfl, hk2, ha2, hb2⟩
        have HZ2 := Lib.hid (show keysAv w2 vz.ownBlock v2 X.1.1 from by
          cases hvo : vz.ownBlock with
          | none => exact keysAv_of hk2 (fun j _ e => by cases e)
          | some b => exact ha2 b (HC1.out.zown.lt b hvo).2 (by rw [← hvo]; exact HXZ1.out))
        have HA2 := Lib.hid (ha2 g HC1.out.bs.blk.2 HXA1.out)
        have HC2 := Lib.hid (HC1.out.next hb2)
        obtain ⟨a2, c2, rfl, -, -⟩ := hk2
        clear ha2 hb2 SL HXA1 HXZ1 HC1 d1' d2'
        by_cases h0 : X.1.1.length = 0
        · have i0 : (X.1.1.length : Int) = 0 := by omega
          have hx0 : X.1.1 = [] := List.length_eq_zero_iff.1 h0
          have HE := Lib.hid (HBE.out hx0)
          clear HBE HBM hx0 h0
          have hbA := (Below.refl w2.heap.size w2).alloc (Nat.le_refl _) (.cells #[.slice a2 X.1.1.length c2, .string X.1.2] 27)
          have hbx := heap_alloc_new w2 (.cells #[.slice a2 X.1.1.length c2, .string X.1.2] 27)
          have HC3 := Lib.hid (HC2.out.next hbA)
          obtain ⟨x0, x1, -, -⟩ := row2_of hbx
          have HBX := Lib.hid hbx
          have hbS := (Below.refl (w2.alloc (.cells #[.slice a2 X.1.1.length c2, .string X.1.2] 27)).heap.size (w2.alloc (.cells #[.slice a2 X.1.1.length c2, .string X.1.2] 27))).alloc (Nat.le_refl _) (.cells #[.string X.1.2] 9)
          have HC4 := Lib.hid (HC3.out.next hbS)
          have hu := heap_alloc_new (w2.alloc (.cells #[.slice a2 X.1.1.length c2, .string X.1.2] 27)) (.cells #[.string X.1.2] 9)
          rw [show (w2.alloc (.cells #[.slice a2 X.1.1.length c2, .string X.1.2] 27)).heap.size = w2.heap.size + 1 by simp] at hu
          have HU := Lib.hid hu
          clear hu
          have hsz4 := HC4.out.bs.below.size
          have hl8 := (Array.getElem?_eq_some_iff.1 HBX.out).1
          clear hbA hbx HC2 HA2 HZ2 hbS HC3
          go_wp2_with (at_builtin; refine wpList_append_str rfl (.tmp 46) (.tmp 49) rfl HC4.out.zown (w2.heap.size + 1) X.1.2 HU.out rfl rfl (by rw [List.length_map]; omega) hsz4 ?_; intro v5 w5 ho5 hg5 hv5)
          have HN := Lib.hid (HC4.out.load hg5 ho5 hv5)
          clear ho5 hg5 hv5 HC4 HU
          exact ⟨⟨k + 1, g, c, us, _, by omega, by rw [HY.out, HE.out], by rw [HY.out, List.length_append]; go_num, by go_num, rfl, by rw [HY.out, HE.out, List.map_append]; exact HN.out⟩, by simp [intOf]; omega⟩
        · have i0 : ¬ (X.1.1.length : Int) = 0 := by omega
          have HE := Lib.hid (HBM.out fun e => h0 (List.length_eq_zero_iff.2 e))
          clear HBE HBM
          go_wp2_with fail
          have HBOX := Lib.hid (heap_alloc_new w2 (.cells #[.slice a2 X.1.1.length c2, .string X.1.2] 27))
          have HC3 := Lib.hid (HC2.out.next ((Below.refl w2.heap.size w2).alloc (Nat.le_refl _) (.cells #[.slice a2 X.1.1.length c2, .string X.1.2] 27)))
          have HA3 := Lib.hid (HA2.out.below ((Below.refl w2.heap.size w2).alloc (Nat.le_refl _) (.cells #[.slice a2 X.1.1.length c2, .string X.1.2] 27)))
          have HGB := Lib.hid HC2.out.bs.blk.2
          have HZ3 := Lib.hid (HZ2.out.below ((Below.refl w2.heap.size w2).alloc (Nat.le_refl _) (.cells #[.slice a2 X.1.1.length c2, .string X.1.2] 27)))
          clear HA2 HC2 HZ2
          generalize w2.alloc (.cells #[.slice a2 X.1.1.length c2, .string X.1.2] 27) = w3 at *
          generalize w2.heap.size = b8 at *
          have hI : InZ w w3 g c us (insN X B 0) B.length b8 (.slice a2 X.1.1.length c2) X.1 vz (Z.map (·.1.2)) := ⟨HC3.out, rfl, HBOX.out, HA3.out, HZ3.out, HGB.out⟩
          have HI := Lib.hid hI
          clear hI HC3 HBOX HA3 HGB HZ3
          have hbq : ((X.1.1.length : Int) == 0) = false := by rw [beq_eq_false_iff_ne]; exact i0
          simp only [hbq]
          go_loopw [10] (fun i wr => ∃ (j : Nat) (us : List Value), j ≤ B.length ∧ i = .int .i64 j ∧ InZ w wr g c us (insN X B j) B.length b8 (.slice a2 X.1.1.length c2) X.1 vz (Z.map (·.1.2))) (fun i _ => B.length - (intOf i).toNat)
          case atStart => exact ⟨0, us, Nat.zero_le _, rfl, HI.out⟩
          case round =>
            obtain ⟨j, us, hj, rfl, hJ⟩ := hrel
            have HJ := Lib.hid hJ
            clear hJ HI
            rename_i wr
            by_cases hjl : j < B.length
            · have y0 : (0 : Int) ≤ (j : Int) := by omega
              have y1 : (j : Int) < (B.length : Int) := by omega
              have hat := HJ.out.bz.bs.at j (by rw [insN_len]; exact hjl)
              rw [insN_get X B j hjl] at hat
              have hset := insN_set_map X B j hjl
              have hsame := insN_get X B j hjl
              generalize hBj : B.getD j grpW.zero = Bj at *
              generalize us.getD j undef = u at *
              obtain ⟨k0, k1, kf0, kf1, kk⟩ := hat
              obtain ⟨ax', cx', hax, -, hxk⟩ := HJ.out.key
              cases hax
              obtain ⟨gx, ox, rfl, hgx, -, hxc⟩ := hxk.resolve_left h0
              have hk0 := hxc 0 (by omega)
              simp only [Nat.zero_mul, Nat.add_zero] at hk0
              have x0 : (0 : Int) < (X.1.1.length : Int) := by omega
              have hpiv : X.1.1.getD 0 (0, 0) = ordW.piv X := by
                show X.1.1.getD 0 (0, 0) = X.1.1.headD (0, 0)
                cases hB : X.1.1 with
                | nil => rw [hB] at h0; exact absurd rfl h0
                | cons a l => rfl
              rw [hpiv] at hk0
              have L1 : ∀ w', Below wr.heap.size wr w' → (loadVar 25 ⟨b8, 0, none⟩).run Try.prog w' = .ok (.slice (some ⟨gx, ox, none⟩) X.1.1.length c2) w' := fun w' hw => cd_loadk HJ.out.box hw
              have L2 : ∀ w', Below wr.heap.size wr w' → (loadVar 25 ⟨g, j * 2, none⟩).run Try.prog w' = .ok u w' := fun w' hw => load_one agg_keys ((hw.cell (p := ⟨g, j * 2, none⟩) HJ.out.bz.bs.blk.2).trans k0)
              have L3 : ∀ w', Below wr.heap.size wr w' → (loadVar 44 ⟨gx, ox, none⟩).run Try.prog w' = .ok (kv (ordW.piv X)) w' := fun w' hw => key_load hk0 hgx hw
              have HK := Lib.hid (fun w' (hw : Below wr.heap.size wr w') => shaskey_any u Bj.1.1 (ordW.piv X) w' (keysAt_below kk.to hw) (by have := keys_few Bj.2.1; omega))
              have hhk : hasKeyB Bj.1.1 (ordW.piv X) = ordW.has Bj (ordW.piv X) := hasKey_mem _ _
              rw [hhk] at HK
              have HKK := Lib.hid kk
              have hS : insS ordW.toPla X Bj = if ordW.has Bj (ordW.piv X) = true then grpW.add Bj X else Bj := rfl
              have HS := Lib.hid hS
              have HSET := Lib.hid hset
              have HSAME := Lib.hid hsame
              have HBJ := Lib.hid hBj
              clear hS hhk hk0 hxc hxk hpiv kk hset hsame hBj
              generalize ordW.piv X = kp at *
              obtain ⟨kp1, kp2⟩ := kp
              unfold kv at L3 HK
              dsimp only at L3 HK
              generalize hhas : ordW.has Bj (kp1, kp2) = hs at *
              go_wp2_with fail
              refine wp_region_below wr (by kernel_rfl) (by kernel_rfl) (Below.refl _ _) ?_
              repeat (first
                | go_big_quiet_skip
                | (go_big_quiet_want
                   first
                     | (go_big_quiet_op; go_big_quiet_on)
                     | (refine q_load 25 _ _ _ rfl rfl L1 ?_; simp only [Act.put, List.setIfInBounds_toArray, List.set_cons_zero, List.set_cons_succ]; go_big_quiet_on)
                     | (refine q_load 25 _ _ _ rfl rfl L2 ?_; simp only [Act.put, List.setIfInBounds_toArray, List.set_cons_zero, List.set_cons_succ]; go_big_quiet_on)
                     | (refine q_load 44 _ _ _ rfl rfl L3 ?_; simp only [Act.put, List.setIfInBounds_toArray, List.set_cons_zero, List.set_cons_succ]; go_big_quiet_on)
                     | (go_big_quiet_op; refine ⟨_, fun _ _ => rfl, ?_⟩; go_big_quiet_on)
                     | (go_big_quiet_op; apply Exists.intro; refine ⟨fun w' hw' => ?_, ?_⟩
                        · first
                          | (with_reducible refine (HK.out w' hw').mono ?_
                             rintro e w2 ⟨rfl, hb2⟩
                             exact ⟨rfl, hw'.trans (hb2.mono hw'.size)⟩)
                        go_big_quiet_on)))
              refine wpQuiet_nil ?_
              intro w4 hb4
              have HJ4 := Lib.hid (HJ.out.next hb4)
              have HKK4 := Lib.hid (HKK.out.below hb4)
              have k0' := (hb4.cell (p := ⟨g, j * 2, none⟩) HJ.out.bz.bs.blk.2).trans k0
              have k1' := (hb4.cell (p := ⟨g, j * 2 + 1, none⟩) HJ.out.bz.bs.blk.2).trans k1
              clear hb4 HJ HKK L1 L2 L3 HK k0 k1 kf0 kf1
              cases hs with
              | false =>
                go_wp2_with fail
                exact ⟨⟨j + 1, us, by omega, by go_num, HJ4.out.same (by rw [HBJ.out]; exact HSET.out) (by rw [HBJ.out]; exact HSAME.out) (by rw [HBJ.out, HS.out]; rfl) hjl⟩, by simp [intOf]; omega⟩
              | true =>
                have SA := Lib.hid (fun w' (hw : Below w4.heap.size w4 w') => sadd_any u Bj.1.1 Bj.1.2 (.slice (some ⟨gx, ox, none⟩) X.1.1.length c2) X.1.1 X.1.2 w' (keysAt_below HKK4.out.to hw) (keysAt_below HJ4.out.key.to hw) Bj.2 X.2)
                obtain ⟨b0, b1, bf0, bf1⟩ := row2_of HJ4.out.box
                have hl5 := (Array.getElem?_eq_some_iff.1 HJ4.out.box).1
                obtain ⟨au, cu, rfl, -, -⟩ := HKK4.out
                clear HKK4
                go_wp2_with fail
                go_region_law (first
                  | (go_simp
                     go_at_call 41
                     refine (SA.out _ (by first | exact Below.refl _ _ | exact (Below.refl _ _).drew)).mono ?_
                     rintro e w5 ⟨v5, rfl, ho5, hb5⟩
                     dsimp only
                     obtain ⟨a5, n5, k5, rfl⟩ := own_shape ho5
                     have HJ5 := Lib.hid (InZ.next (InZ.next HJ4.out (by first | exact Below.refl _ _ | exact (Below.refl _ _).drew)) hb5)
                     have HW := Lib.hid (keysAv_own ho5 (show g < _ by have := HJ4.out.bz.bs.blk.2; first | exact this | (show g < w4.heap.size; omega)))
                     have HWZ := Lib.hid (keysAv_ownO (o := vz.ownBlock) ho5 (fun b e => by have := (HJ4.out.bz.zown.lt b e).2; first | exact this | (show b < w4.heap.size; omega)))
                     obtain ⟨k0, k1, kf0, kf1, -⟩ := HJ5.out.bz.bs.at j (by rw [insN_len]; exact hjl)
                     have hg5 := HJ5.out.bz.bs.blk.2
                     clear hb5 ho5 b0 b1 bf0 bf1 k0' k1' SA HJ4 hl5))
                all_goals
                  have HJ7 := Lib.hid (HJ5.out.set (B' := insN X B (j + 1)) j (.slice a5 n5 k5) (addC (Bj.1.1, Bj.1.2) (X.1.1, X.1.2)) HW.out HWZ.out (by rw [insN_len, insN_len]) (by rw [HSET.out, HS.out]; rfl))
                  clear HJ5 HW HWZ
                  go_wp2
                  exact ⟨⟨j + 1, us.set j (.slice a5 n5 k5), by omega, by go_num, HJ7.out⟩, by simp [intOf]; omega⟩
            · obtain rfl : j = B.length := by omega
              have e1 := heap_alloc_new wr (.cells #[.slice a2 X.1.1.length c2, .string X.1.2] 27)
              have hbA := (Below.refl wr.heap.size wr).alloc (Nat.le_refl _) (.cells #[.slice a2 X.1.1.length c2, .string X.1.2] 27)
              have HJA := Lib.hid (HJ.out.next hbA)
              have HE1 := Lib.hid e1
              obtain ⟨b0, b1, bf0, bf1⟩ := row2_of HJ.out.box
              have hl5 := (Array.getElem?_eq_some_iff.1 HJ.out.box).1
              have HLN := Lib.hid (insN_len X B B.length)
              clear e1 hbA HJ
              have HOW := Lib.hid HJA.out.bz.bs.own
              rw [HLN.out] at HOW
              have hbz := HJA.out.bz.bs.below.size
              go_wp2_with (at_builtin; refine wpList_append_cd1 rfl (.tmp 76) (.tmp 78) rfl HOW.out wr.heap.size (.slice a2 X.1.1.length c2) X.1 HE1.out ⟨_, _, _, rfl⟩ HJA.out.key rfl rfl (by rw [List.length_map, HLN.out]; omega) hbz ?_; intro v5 w5 hown5 hgr5 hv5)
              have hmap5 : (insN X B B.length).map (·.1) ++ [X.1] = (insG ordW.toPla B X).map (·.1) := by rw [← insN_all, List.map_append]; rfl
              have hB5 := HJA.out.bz.bs.below.grown hgr5 HJA.out.bz.bs.below.size (fun j e => by cases e; exact HJA.out.bz.bs.blk.1)
              have hulen : us.length = B.length := by have := HJA.out.bz.bs.own.len; rw [List.length_map, HLN.out] at this; exact this
              rcases ownsRowK_shape hown5.own with ⟨-, hz⟩ | ⟨g3, c3, rfl, -⟩
              · rw [hmap5, List.length_map] at hz
                simp [insG] at hz
              · have hbs5 : BsC w w5 g3 c3 (us ++ [.slice a2 X.1.1.length c2]) (insG ordW.toPla B X) := by
                  have h5 := hown5
                  rw [hmap5, List.length_map] at h5
                  exact ⟨hB5, h5⟩
                have HP5 := Lib.hid (HJA.out.bz.push hgr5 hbs5 rfl hmap5.symm (fun i _ hi => by rw [hi, HLN.out, ← hulen]; simp [List.getD]) HJA.out.zx hv5)
                rw [hmap5, List.length_map] at *
                exact ⟨⟨k + 1, g3, c3, us ++ [.slice a2 X.1.1.length c2], _, by omega, by rw [HY.out, HE.out], by rw [HY.out, List.length_append]; go_num, by go_num, rfl, by rw [HY.out, HE.out]; exact HP5.out⟩, by simp [intOf]; omega⟩
    · have hf : rowsN L L.length = rowsN L k := by
        by_cases hlt : k < L.length
        · have hm : (rowsN L k).length = 20 := by omega
          have := rowsN_full (l := L) (i := k) hm (L.length - k)
          rwa [show k + (L.length - k) = L.length by omega] at this
        · obtain rfl : k = L.length := by omega
          rfl
      apply wp_seq_k; intro K0 hK0
      apply wp_seq_k; intro K1 hK1
      go_cut [25] (fun c wx => c = .bool false ∧ wr = wx)
      case first =>
        by_cases hlt : k < L.length
        · have m1 : ¬ ((rowsN L k).length : Int) < 20 := by omega
          have z1 : (k : Int) < (L.length : Int) := by omega
          clear hf hcells hks HC hx hK0 hK1
          go_wp2_with fail
          go_meet
          exact ⟨rfl, rfl⟩
        · have z1 : ¬ (k : Int) < (L.length : Int) := by omega
          clear hf hcells hks HC hx hK0 hK1
          go_wp2_with fail
          go_meet
          exact ⟨rfl, rfl⟩
      case rest =>
        obtain ⟨rfl, hwx⟩ := hcut
        subst hwx
        refine hK1 _ _ ?_
        clear hK1 hK0
        rw [← hf] at HC
        clear hf hcells hks hx hbl hml
        have hzs := HC.out.zown
        rw [strsL_ld] at hzs
        have hzle := base_z_len L L.length
        obtain ⟨az, nz, cz, hvz, hnz⟩ : ∃ a n c, vz = .slice a n c ∧ ((baseG ordW (rowsN L L.length)).2.map ldW).length = n := by
          rcases ownsRowK_shape hzs with ⟨e1, h0⟩ | ⟨gq, cap, e1, -⟩
          · exact ⟨none, 0, 0, e1, by rw [List.length_map] at h0 ⊢; exact h0⟩
          · exact ⟨_, _, _, e1, by rw [List.length_map, List.length_map]⟩
        subst hvz
        have hL0 : LdO w wr az nz cz (stL ((baseG ordW (rowsN L L.length)).2.map ldW) ⟨y0, hy0⟩ 0).1 := by
          refine ⟨HC.out.bs.below, hnz, ?_⟩
          rw [← hnz]
          show wr.ownsRow _ _ _ _ _ (strsL ((baseG ordW (rowsN L L.length)).2.map ldW))
          rw [List.length_map] at hzs ⊢
          rw [hnz.symm, List.length_map] at hzs
          exact hzs
        have HL0 := Lib.hid hL0
        have hEnd : loadsEnd (rowsN L L.length) ⟨y0, hy0⟩ = (stL ((baseG ordW (rowsN L L.length)).2.map ldW) ⟨y0, hy0⟩ 32).2 := rfl
        have hnz20 : nz ≤ 20 := by rw [← hnz, List.length_map]; exact hzle
        have HEND := Lib.hid hEnd
        clear hzs hzle hL0 hEnd HC
        generalize (baseG ordW (rowsN L L.length)).2.map ldW = Z0 at *
        go_wp2_with fail
        go_loopw [1, 11] (fun v i wx => ∃ (b : Nat) (wy : World), b ≤ 32 ∧ i = .int .i64 b ∧ v = .string (stL Z0 ⟨y0, hy0⟩ b).2.1 ∧ wy = wx ∧ LdO w wy az nz cz (stL Z0 ⟨y0, hy0⟩ b).1) (fun _ i _ => 32 - (intOf i).toNat)
        case atStart => exact ⟨0, _, Nat.zero_le _, rfl, rfl, rfl, HL0.out⟩
        case round =>
          obtain ⟨b, wy, hb, rfl, rfl, hwy, hLd⟩ := hrel
          subst hwy
          have HL := Lib.hid hLd
          clear hLd HL0
          by_cases hb32 : b < 32
          · have z0 : (0 : Int) ≤ (b : Int) := by omega
            have z1 : (b : Int) < 32 := by omega
            have hsu := stL_succ Z0 ⟨y0, hy0⟩ b
            have hv4 := (stL Z0 ⟨y0, hy0⟩ b).2.2
            have heta : stL Z0 ⟨y0, hy0⟩ b = ((stL Z0 ⟨y0, hy0⟩ b).1, (stL Z0 ⟨y0, hy0⟩ b).2) := rfl
            rw [heta] at hsu
            have HSU := Lib.hid hsu
            clear hsu heta
            generalize (stL Z0 ⟨y0, hy0⟩ b).1 = Z at *
            generalize (stL Z0 ⟨y0, hy0⟩ b).2 = yv at *
            have hZl := HL.out.len
            go_wp2_with fail
            go_loopw [12, 13] (fun at' i wx => ∃ (k : Nat) (wz : World), k ≤ nz ∧ i = .int .i64 k ∧ at' = .int .i64 (firstI Z b k) ∧ wy = wx) (fun _ i _ => nz - (intOf i).toNat)
            case atStart => exact ⟨0, wy, Nat.zero_le _, rfl, rfl, rfl⟩
            case round =>
              obtain ⟨k, -, hk, rfl, rfl, hwz⟩ := hrel
              subst hwz
              by_cases hkn : k < nz
              · have y0' : (0 : Int) ≤ (k : Int) := by omega
                have y1 : (k : Int) < (nz : Int) := by omega
                obtain ⟨g, rfl⟩ : ∃ g, az = some ⟨g, 0, none⟩ := by
                  rcases HL.out.own.2 with ⟨e1, h0⟩ | ⟨g, cap, cur, e1, _⟩
                  · omega
                  · cases e1; exact ⟨g, rfl⟩
                obtain ⟨c0, -, -⟩ := HL.out.at k hkn
                have hs4 := (Z.getD k zL4).2
                have SB := Lib.hid (sbit_any (Z.getD k zL4).1 b hs4 hb32 wy)
                have hst : firstI Z b (k + 1) = if firstI Z b k < 0 ∧ bitL (Z.getD k zL4).1 b = true then (k : Int) else firstI Z b k := rfl
                have HST := Lib.hid hst
                clear hst
                generalize firstI Z b k = f at *
                generalize Z.getD k zL4 = zk at *
                generalize hbit : bitL zk.1 b = q at *
                cases q with
                | false =>
                  have hn : firstI Z b (k + 1) = f := by rw [HST.out, if_neg (by simp)]
                  have HN := Lib.hid hn
                  clear hn HST
                  go_wp2_with fail
                  refine SB.out.mono ?_
                  rintro e w2 ⟨rfl, hw2⟩
                  have hw2' := hw2.symm
                  clear hw2
                  subst hw2'
                  clear SB
                  go_wp2_with fail
                  exact ⟨⟨k + 1, wy, by omega, by go_num, by rw [HN.out], by first | trivial | rfl⟩, by simp [intOf]; omega⟩
                | true =>
                  by_cases hf : f < 0
                  · have hn : firstI Z b (k + 1) = (k : Int) := by rw [HST.out, if_pos ⟨hf, rfl⟩]
                    have HN := Lib.hid hn
                    clear hn HST
                    go_wp2_with fail
                    refine SB.out.mono ?_
                    rintro e w2 ⟨rfl, hw2⟩
                    have hw2' := hw2.symm
                    clear hw2
                    subst hw2'
                    clear SB
                    go_wp2_with fail
                    exact ⟨⟨k + 1, wy, by omega, by go_num, by rw [HN.out], by first | trivial | rfl⟩, by simp [intOf]; omega⟩
                  · have hn : firstI Z b (k + 1) = f := by rw [HST.out, if_neg (fun h => hf h.1)]
                    have hdf : decide (f < 0) = false := decide_eq_false hf
                    have HN := Lib.hid hn
                    clear hn HST
                    go_wp2_with fail
                    refine SB.out.mono ?_
                    rintro e w2 ⟨rfl, hw2⟩
                    have hw2' := hw2.symm
                    clear hw2
                    subst hw2'
                    clear SB
                    go_wp2_with fail
                    exact ⟨⟨k + 1, wy, by omega, by go_num, by rw [HN.out], by first | trivial | rfl⟩, by simp [intOf]; omega⟩
              · obtain rfl : k = nz := by omega
                rcases firstI_cases Z b k with ⟨hf, hall⟩ | ⟨i, hik, hf, hbi, hall⟩
                · have hn : stL Z0 ⟨y0, hy0⟩ (b + 1) = (Z, yv) := by rw [HSU.out]; exact elim_none Z yv b fun j hj => hall j (by omega)
                  have HN := Lib.hid hn
                  clear hn hall HSU
                  rw [hf]
                  clear hf
                  go_wp2_with fail
                  exact ⟨⟨b + 1, wy, by omega, by go_num, by rw [HN.out], rfl, by rw [HN.out]; exact HL.out⟩, by simp [intOf]; omega⟩
                · have hn : stL Z0 ⟨y0, hy0⟩ (b + 1) = (mapL (Z.getD i zL4) b Z k, elimF bitsPla (Z.getD i zL4) b yv) := by
                    rw [HSU.out, elim_some Z yv b i (by omega) hbi hall, ← hZl, mapL_all]
                  have HN := Lib.hid hn
                  obtain ⟨g, rfl⟩ : ∃ g, az = some ⟨g, 0, none⟩ := by
                    rcases HL.out.own.2 with ⟨e1, h0⟩ | ⟨g, cap, cur, e1, _⟩
                    · omega
                    · cases e1; exact ⟨g, rfl⟩
                  obtain ⟨c0, -, -⟩ := HL.out.at i hik
                  have x0 : (0 : Int) ≤ (i : Int) := by omega
                  have x1 : (i : Int) < (k : Int) := by omega
                  have x2 : ¬ (i : Int) < 0 := by omega
                  rw [hf]
                  clear hn hall HSU hf hbi
                  generalize Z.getD i zL4 = one at *
                  have HM0 := Lib.hid (show LdO w wy (some ⟨g, 0, none⟩) k cz (mapL one b Z 0) from HL.out)
                  go_wp2_with fail
                  go_loopw [15] (fun j wx => ∃ (m : Nat) (wz : World), m ≤ k ∧ j = .int .i64 m ∧ wz = wx ∧ LdO w wz (some ⟨g, 0, none⟩) k cz (mapL one b Z m)) (fun j _ => k - (intOf j).toNat)
                  case atStart => exact ⟨0, _, Nat.zero_le _, rfl, rfl, HM0.out⟩
                  case round =>
                    obtain ⟨m, wz, hm, rfl, hwz, hLm⟩ := hrel
                    subst hwz
                    have HM := Lib.hid hLm
                    clear hLm HM0 HL c0
                    by_cases hmk : m < k
                    · have y0' : (0 : Int) ≤ (m : Int) := by omega
                      have y1 : (m : Int) < (k : Int) := by omega
                      obtain ⟨c0, f0, hg0⟩ := HM.out.at m hmk
                      rw [mapL_get one b Z m (by omega)] at c0
                      have hs4 := (Z.getD m zL4).2
                      have SB := Lib.hid (sbit_any (Z.getD m zL4).1 b hs4 hb32 wz)
                      have hsa := mapL_same one b Z m (by omega)
                      have hsu := mapL_succ one b Z m (by omega)
                      have hey := elimF_yes one b (Z.getD m zL4)
                      generalize hzm : Z.getD m zL4 = zm at *
                      generalize hbit : bitL zm.1 b = q at *
                      cases q with
                      | false =>
                        have HS := Lib.hid (hsa rfl)
                        clear hsa hsu hey hzm
                        go_wp2_with fail
                        refine SB.out.mono ?_
                        rintro e w2 ⟨rfl, hw2⟩
                        have hw2' := hw2.symm
                        clear hw2
                        subst hw2'
                        clear SB
                        go_wp2_with fail
                        exact ⟨⟨m + 1, wz, by omega, by go_num, rfl, by rw [HS.out]; exact HM.out⟩, by simp [intOf]; omega⟩
                      | true =>
                        rw [hey rfl] at hsu
                        have HS := Lib.hid hsu
                        have SX := Lib.hid (fun w' => sxor_any zm.1 one.1 w' (by omega) (by have := one.2; omega))
                        clear hsa hsu hey hzm
                        go_wp2_with fail
                        refine SB.out.mono ?_
                        rintro e w2 ⟨rfl, hw2⟩
                        have hw2' := hw2.symm
                        clear hw2
                        subst hw2'
                        clear SB
                        go_wp2_with fail
                        refine (SX.out _).mono ?_
                        rintro e w3 ⟨rfl, hb3⟩
                        have HM3 := Lib.hid (HM.out.next hb3)
                        obtain ⟨c1, f1, hg1⟩ := HM3.out.at m hmk
                        have HM4 := Lib.hid (HM3.out.set m (grpL.add zm one))
                        clear hb3 HM HM3 SX c0 f0 hg0
                        go_wp2_with fail
                        exact ⟨⟨m + 1, _, by omega, by go_num, rfl, by rw [HS.out]; exact HM4.out⟩, by simp [intOf]; omega⟩
                    · obtain rfl : m = k := by omega
                      have SB := Lib.hid (sbit_any yv.1 b hv4 hb32 wz)
                      have hey := elimF_yes one b yv
                      have hen := elimF_no one b yv
                      generalize hbit : bitL yv.1 b = q at *
                      cases q with
                      | false =>
                        rw [hen rfl] at HN
                        clear hey hen
                        go_wp2_with fail
                        refine SB.out.mono ?_
                        rintro e w2 ⟨rfl, hw2⟩
                        have hw2' := hw2.symm
                        clear hw2
                        subst hw2'
                        clear SB
                        go_wp2_with fail
                        exact ⟨⟨b + 1, wz, by omega, by go_num, by rw [HN.out], rfl, by rw [HN.out]; exact HM.out⟩, by simp [intOf]; omega⟩
                      | true =>
                        rw [hey rfl] at HN
                        have SX := Lib.hid (fun w' => sxor_any yv.1 one.1 w' (by omega) (by have := one.2; omega))
                        clear hey hen
                        go_wp2_with fail
                        refine SB.out.mono ?_
                        rintro e w2 ⟨rfl, hw2⟩
                        have hw2' := hw2.symm
                        clear hw2
                        subst hw2'
                        clear SB
                        go_wp2_with fail
                        refine (SX.out _).mono ?_
                        rintro e w3 ⟨rfl, hb3⟩
                        have HM3 := Lib.hid (HM.out.next hb3)
                        clear hb3 HM SX
                        go_wp2_with fail
                        exact ⟨⟨b + 1, _, by omega, by go_num, by rw [HN.out]; rfl, rfl, by rw [HN.out]; exact HM3.out⟩, by simp [intOf]; omega⟩
          · obtain rfl : b = 32 := by omega
            have HB := Lib.hid HL.out.below
            have hse : decide ((stL Z0 ⟨y0, hy0⟩ 32).2 = grpL.zero) = ((stL Z0 ⟨y0, hy0⟩ 32).2.1.toList == z4.toList) := by
              rw [strEq, decide_eq_decide]
              exact ⟨fun h => congrArg (·.1) h, fun h => Subtype.ext h⟩
            have HSE := Lib.hid hse
            clear hse HL
            generalize (stL Z0 ⟨y0, hy0⟩ 32).2 = yv at *
            go_wp2_with fail
            refine (szero_any _).mono ?_
            rintro e w2 ⟨rfl, hw2⟩
            have hw2' := hw2.symm
            clear hw2
            subst hw2'
            go_wp2_with fail
            go_ret
            exact ⟨by rw [HEND.out, HSE.out]; rfl, HB.out⟩
end Go.Proofs.Ytcecodjipeahkaa
namespace Go.Proofs.Ytcecodjipeahkaa
open Go.ChangeShapes Go.WideShapes Go.ChangeAt Go.RowKit Go.BigFrame
theorem sload_all : SLoads := fun vl L y0 hy0 w h hl hks => sload_any vl L y0 hy0 w h hl hks
theorem exspanned_walked (v : Value) (L : List C2) (vx : Value) (kx : List K2) (yx : ByteArray) (w : World) (h : cdAv w none v L) (hL : L.length ≤ maxLen) (hx : ∀ x ∈ L, x.1.length ≤ maxLen ∧ x.2.size ≤ maxLen) (hk : keysAt w vx kx) (hkl : kx.length ≤ maxLen) (hyl : yx.size ≤ maxLen) :
    Calls Try.prog 8 #[v, .agg #[vx, .string yx]] w fun e w' => e = .returned (.bool true) ∧ Below w.heap.size w w' :=
  exspanned_walk sload_all v L vx kx yx w h hL hx hk hkl hyl
end Go.Proofs.Ytcecodjipeahkaa
namespace Go.Proofs.Ytcecodjipeahkaa
open Go.ChangeShapes Go.WideShapes Go.ChangeAt Go.RowKit Go.Deep
set_option linter.unusedVariables false

theorem keys_cells {H : Type} {enc : TypeId × Value → H} {W : World} {base : Nat} {sp : Nat → Bool} {held : Bool} {n : Nat} {cs : List Value} {y : DataW H × List MemPlace}
    (h : DataW.trod enc Try.prog W base sp held n 52 cs = some y) : ∃ (v : Value) (ks : List K2), cs = [v] ∧ keysAt W v ks ∧ ks.length ≤ maxLen := by
  rcases open_slice_pairs Try.underlying52 Try.underlying125 (by kernel_rfl) rfl rfl (by kernel_rfl) (by kernel_rfl) h with ⟨hcs, -⟩ | ⟨x, len, cap, m, n, V0, V1, D0, D1, P0, P1, hcs, -, hl, hm, hmm, -, hx⟩
  · exact ⟨_, [], hcs, ⟨none, 0, rfl, by simp, .inl rfl⟩, by simp⟩
  · have hmc : len ≤ m := by
      rw [hmm]
      split <;> omega
    have hev : ∀ i, i < len → ∃ k : K2, W.cell? (x.add (i * 2)) = some (.int .i64 k.1) ∧ W.cell? (x.add (i * 2 + 1)) = some (.int .i64 k.2) := by
      intro i hi
      obtain ⟨h0, h1, t0, t1⟩ := hx i (by omega)
      obtain ⟨z0, e0, -, -⟩ := DataW.trod_int Try.underlying3 t0
      obtain ⟨z1, e1, -, -⟩ := DataW.trod_int Try.underlying3 t1
      have e0 : V0 i = .int .i64 z0 := (List.cons.inj e0).1
      have e1 : V1 i = .int .i64 z1 := (List.cons.inj e1).1
      exact ⟨(z0, z1), by rw [h0, e0], by rw [h1, e1]⟩
    obtain ⟨f, hf2⟩ := choose_lt hev
    refine ⟨_, (List.range len).map f, hcs, ⟨some x, cap, by simp, by simpa using hl, ?_⟩, by simp; omega⟩
    simp only [List.length_map, List.length_range]
    rcases Nat.eq_zero_or_pos len with h0 | h0
    · exact .inl h0
    · obtain ⟨b, off, spot⟩ := x
      have hc := (hf2 0 h0).1
      have hs : spot = none := by simpa [Addr.add] using World.cell?_spot hc
      subst hs
      have hadd : ∀ j, (⟨b, off, none⟩ : Addr).add j = ⟨b, off + j, none⟩ := by
        intro j
        unfold Addr.add
        split
        · rename_i h; simp [h]
        · rfl
      refine .inr ⟨b, off, rfl, World.block_lt_of_cell? W ⟨b, off, none⟩ (by simpa [Addr.add] using hc), fun i hi => ?_⟩
      have e : ((List.range len).map f).getD i (0, 0) = f i := by simp [List.getD, hi]
      have := hf2 i hi
      rw [hadd, hadd] at this
      rw [e]
      exact this
set_option maxRecDepth 10000 in
theorem cd_cells_read {H : Type} {enc : TypeId × Value → H} {W : World} {base : Nat} {sp : Nat → Bool} {held : Bool} {n : Nat} {cs : List Value} {x : DataW H × List MemPlace} (hl : cs.length = 2)
    (h : DataW.trod enc Try.prog W base sp held n 54 cs = some x) : ∃ (v : Value) (ks : List K2) (y : ByteArray), cs = [v, .string y] ∧ keysAt W v ks ∧ ks.length ≤ maxLen ∧ y.size ≤ maxLen := by
  have c0 : Try.prog.cellsOf 52 = 1 := by kernel_rfl
  have c1 : Try.prog.cellsOf 9 = 1 := by kernel_rfl
  match cs, hl with
  | [a, b], _ =>
    obtain ⟨xs, k, hk, hxy, _, hxl, hf⟩ := DataW.trod_struct Try.underlying54 h
    match xs, hxl with
    | [y0, y1], _ =>
      have g0 := hf 0 _ rfl
      have g1 := hf 1 _ rfl
      simp [c0, c1] at g0 g1
      obtain ⟨v, ks, hv, hks, hkl⟩ := keys_cells g0
      obtain ⟨s, e2, -, hs⟩ := DataW.trod_string Try.underlying9 g1
      cases hv; cases e2
      exact ⟨_, ks, s, rfl, hks, hkl, hs⟩
set_option maxRecDepth 10000 in
theorem open_code {H : Type} {enc : TypeId × Value → H} {W : World} {r : Reach} {b0 : Nat} {v : Value} {d : DataW H} {p : List MemPlace} (hv : Value.okWide Try.prog W r b0 54 v) (h : DataW.Trod enc Try.prog W 0 (fun _ => true) true 54 v d p) :
    ∃ (a : Value) (ks : List K2) (y : ByteArray), v = .agg #[a, .string y] ∧ keysAt W a ks ∧ ks.length ≤ maxLen ∧ y.size ≤ maxLen := by
  obtain ⟨cs, rfl, hsz⟩ := okWide_struct Try.underlying54 hv
  have hC : Try.prog.cellsOf 54 = 2 := by kernel_rfl
  obtain ⟨fuel, hf⟩ := h
  obtain ⟨a, ks, y, hq, hk, hl, hy⟩ := cd_cells_read (by simpa [Value.cells] using hsz.trans hC) hf
  refine ⟨a, ks, y, ?_, hk, hl, hy⟩
  simp only [Value.cells] at hq
  rw [← Array.toArray_toList (xs := cs), hq]
end Go.Proofs.Ytcecodjipeahkaa
namespace Go.Proofs.Ytcecodjipeahkaa
open Go.ChangeShapes Go.WideShapes Go.ChangeAt Go.RowKit Go.Deep
set_option linter.unusedVariables false

set_option maxRecDepth 20000 in
theorem open_codes {H : Type} {enc : TypeId × Value → H} {W : World} {r : Reach} {b0 : Nat} {v : Value} {d : DataW H} {p : List MemPlace} (hv : Value.okWide Try.prog W r b0 47 v) (h : DataW.Trod enc Try.prog W 0 (fun _ => true) true 47 v d p) :
    ∃ L : List C2, cdAv W none v L ∧ L.length ≤ maxLen ∧ ∀ x ∈ L, x.1.length ≤ maxLen ∧ x.2.size ≤ maxLen := by
  have hC : Try.prog.cellsOf 54 = 2 := by kernel_rfl
  obtain ⟨a, len, cap, rfl⟩ := okWide_slice Try.underlying47 hv
  obtain ⟨fuel, hf⟩ := h
  rcases open_slice Try.underlying47 hf with ⟨hcs, -⟩ | ⟨x, l, c, m, n, D, Pl, hcs, -, hl, hm, hmm, -, hx⟩
  · simp [Value.cells] at hcs
    obtain ⟨rfl, rfl, rfl⟩ := hcs
    exact ⟨[], ⟨none, 0, rfl, by simp, .inl rfl⟩, by simp, fun x hx => by simp at hx⟩
  · simp [Value.cells] at hcs
    obtain ⟨rfl, rfl, rfl⟩ := hcs
    have hmc : len ≤ m := by rw [hmm]; simp; omega
    have hev : ∀ i, i < len → ∃ q : Value × C2, (W.cell? (x.add (i * 2)) = some q.1 ∧ W.cell? (x.add (i * 2 + 1)) = some (.string q.2.2) ∧ keysAt W q.1 q.2.1) ∧ q.2.1.length ≤ maxLen ∧ q.2.2.size ≤ maxLen := by
      intro i hi
      obtain ⟨cs', h1, h2⟩ := hx i (by omega)
      rw [hC] at h1
      obtain ⟨_, hlen, hcell⟩ := World.cells?_some h1
      obtain ⟨u, ks, y, rfl, hk, hl2, hs⟩ := cd_cells_read hlen h2
      have e0 := hcell 0 (by omega)
      have e1 := hcell 1 (by omega)
      rw [add_add] at e0 e1
      exact ⟨(u, (ks, y)), ⟨by simpa using e0, by simpa using e1, hk⟩, hl2, hs⟩
    obtain ⟨f, hf2⟩ := choose_lt hev
    have hfd : ∀ i, i < len → ((List.range len).map fun i => (f i).2).getD i blankC = (f i).2 := fun i hi => by simp [List.getD, hi]
    refine ⟨(List.range len).map fun i => (f i).2, ⟨some x, cap, by simp, by simpa using hl, ?_⟩, by simp; omega, fun y hy => ?_⟩
    · simp only [List.length_map, List.length_range]
      rcases Nat.eq_zero_or_pos len with h0 | h0
      · exact .inl h0
      · obtain ⟨b, off, spot⟩ := x
        have hc := (hf2 0 h0).1.1
        have hs : spot = none := by simpa [Addr.add] using World.cell?_spot hc
        subst hs
        have hadd : ∀ j, (⟨b, off, none⟩ : Addr).add j = ⟨b, off + j, none⟩ := by
          intro j
          unfold Addr.add
          split
          · rename_i h; simp [h]
          · rfl
        refine .inr ⟨b, off, rfl, World.block_lt_of_cell? W ⟨b, off, none⟩ (by simpa [Addr.add] using hc), fun i hi => ?_⟩
        have := (hf2 i hi).1
        rw [hadd, hadd] at this
        rw [hfd i hi]
        exact ⟨(f i).1, this.1, this.2.1, keysAv_of this.2.2 fun g _ e => by cases e⟩
    · obtain ⟨j, hj, rfl⟩ := List.mem_map.1 hy
      exact (hf2 j (List.mem_range.1 hj)).2
end Go.Proofs.Ytcecodjipeahkaa
