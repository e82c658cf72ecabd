/- What the laws lean on (own lemmas and walks of the called functions). -/
import Derived.Test.YtfohmhigidgfhaaPa2
set_option linter.unusedVariables false
set_option linter.unusedSimpArgs false
namespace Go.Proofs.Ytfohmhigidgfhaa
open Go.ChangeShapes Go.WideShapes Go.ChangeAt Go.RowKit Go.BigFrame
set_option linter.unusedVariables false
set_option linter.unusedSimpArgs false

theorem ld_rds {w : World} {b o : Nat} {v : Value} (c : w.cell? ⟨b, o, none⟩ = some v) : (loadVar 24 ⟨b, o, none⟩).run Try.prog w = .ok v w := load_one (fun w => by simp [isAgg, underlying, Try.underlying24]) c
theorem waitB_at {K : List R3} {W : List C2} {i : Nat} (hi : i < W.length) : waitB K W i = (codeOkB (W.getD i blankC) && decide (2 ≤ (W.getD i blankC).1.length) && decide (atI W (W.getD i blankC).1 = some i) && (W.getD i blankC).1.all fun k => (loadO K k).isNone) := by
  unfold waitB
  rw [List.getD, List.getElem?_eq_getElem hi]
  rfl
set_option maxRecDepth 100000 in
set_option maxHeartbeats 4000000 in
theorem ssinkok_any (s : Snk) (vk vw : Value) (w : World) (hk : rdAt w vk s.known) (hw : cdAv w none vw s.wait) (hsk : s.known.length ≤ 1048576) (hsw : s.wait.length ≤ 1048576) (hx : ∀ x ∈ s.wait, x.1.length ≤ 1048576) :
    Calls Try.prog 15 #[snV s vk vw] w fun e w' => e = .returned (.bool (sinkOkB s)) ∧ Below w.heap.size w w' := by
  obtain ⟨mo, kn, wa, sa, lo, ba⟩ := s
  dsimp only at *
  have hb := (Below.refl w.heap.size w).alloc (Nat.le_refl _) (.cells #[.int .i64 mo, vk, vw, .int .i64 sa, .int .i64 lo, .int .i64 ba] 27)
  have HX := Lib.hid (heap_alloc_new w (.cells #[.int .i64 mo, vk, vw, .int .i64 sa, .int .i64 lo, .int .i64 ba] 27))
  have HB := Lib.hid hb
  have HR := Lib.hid (fun wx (hbx : Below w.heap.size w wx) => sreadingsok_any vk kn wx (rdAt_below hk hbx) (by omega))
  have HKN := Lib.hid (fun wx (hbx : Below w.heap.size w wx) => rdAt_below hk hbx)
  have HWA := Lib.hid (fun wx (hbx : Below w.heap.size w wx) => cdAv_below hw hbx)
  obtain ⟨ak, ck, rfl, -, -⟩ := hk
  obtain ⟨aw, cw, rfl, hcapw, hcellsw⟩ := hw
  have HCW := Lib.hid hcellsw
  clear hcellsw hcapw
  have HS := Lib.hid (show ∀ b : Bool, (SnkP ⟨mo, kn, wa, sa, lo, ba⟩ ↔ b = true) → sinkOkB ⟨mo, kn, wa, sa, lo, ba⟩ = b from fun b h => by
    unfold sinkOkB
    by_cases hp : SnkP ⟨mo, kn, wa, sa, lo, ba⟩
    · rw [decide_eq_true hp, h.1 hp]
    · rw [decide_eq_false hp]
      cases b with
      | false => rfl
      | true => exact absurd (h.2 rfl) hp)
  have HXX := Lib.hid hx
  clear hb hx
  rw [snV_eq]
  unfold snC
  dsimp only
  cases a1 : decide (0 ≤ mo) with
  | false =>
    cases a2 : decide (mo ≤ 12) with
    | _ =>
      have A1 := Lib.hid a1
      have A2 := Lib.hid a2
      have HF := Lib.hid (HS.out false ⟨fun h => (by have h9 := h.most; dsimp only at h9; have := of_decide_eq_false a1; omega), fun h => (by cases h)⟩)
      clear a1 a2
      go_enter Try.func15, Try.ntmps15
      go_upto_region 1 with (fail)
      generalize w.alloc (.cells #[.int .i64 mo, .slice ak kn.length ck, .slice aw wa.length cw, .int .i64 sa, .int .i64 lo, .int .i64 ba] 27) = W at *
      obtain ⟨⟨x0, x1, x2, x3, x4, x5⟩, -⟩ := row6_of HX.out
      go_wp2_with fail
      refine (sin_any _ _ _ _).mono ?_
      rintro e w2 ⟨rfl, rfl⟩
      rw [A1.out, A2.out]
      go_wp2
      go_ret
      exact ⟨by rw [HF.out]; rfl, HB.out⟩
  | true =>
    have A1 := Lib.hid a1
    clear a1
    cases a2 : decide (mo ≤ 12) with
    | false =>
      have A2 := Lib.hid a2
      have HF := Lib.hid (HS.out false ⟨fun h => (by have h9 := h.most; dsimp only at h9; have := of_decide_eq_false a2; omega), fun h => (by cases h)⟩)
      clear a2
      go_enter Try.func15, Try.ntmps15
      go_upto_region 1 with (fail)
      generalize w.alloc (.cells #[.int .i64 mo, .slice ak kn.length ck, .slice aw wa.length cw, .int .i64 sa, .int .i64 lo, .int .i64 ba] 27) = W at *
      obtain ⟨⟨x0, x1, x2, x3, x4, x5⟩, -⟩ := row6_of HX.out
      go_wp2_with fail
      refine (sin_any _ _ _ _).mono ?_
      rintro e w2 ⟨rfl, rfl⟩
      rw [A1.out, A2.out]
      go_wp2
      go_ret
      exact ⟨by rw [HF.out]; rfl, HB.out⟩
    | true =>
      have A2 := Lib.hid a2
      clear a2
      cases c4 : rdsOkR kn with
      | false =>
        have C4 := Lib.hid c4
        have HF := Lib.hid (HS.out false ⟨fun h => (by have h9 := h.known; dsimp only at h9; rw [c4] at h9; cases h9), fun h => (by cases h)⟩)
        clear c4
        go_enter Try.func15, Try.ntmps15
        go_upto_region 1 with (fail)
        generalize w.alloc (.cells #[.int .i64 mo, .slice ak kn.length ck, .slice aw wa.length cw, .int .i64 sa, .int .i64 lo, .int .i64 ba] 27) = W at *
        obtain ⟨⟨x0, x1, x2, x3, x4, x5⟩, -⟩ := row6_of HX.out
        go_wp2_with fail
        refine (sin_any _ _ _ _).mono ?_
        rintro e w2 ⟨rfl, rfl⟩
        rw [A1.out, A2.out]
        go_wp2_with fail
        refine (HR.out _ HB.out).mono ?_
        rintro e w7 ⟨rfl, hb7⟩
        rw [C4.out]
        have HB7 := Lib.hid (HB.out.trans (hb7.mono HB.out.size))
        have HX7 := Lib.hid ((hb7.block _ (Array.getElem?_eq_some_iff.1 HX.out).1).trans HX.out)
        obtain ⟨⟨x0, x1, x2, x3, x4, x5⟩, -⟩ := row6_of HX7.out
        clear hb7
        go_wp2
        go_ret
        exact ⟨by rw [HF.out]; rfl, HB7.out⟩
      | true =>
        have C4 := Lib.hid c4
        clear c4
        by_cases a5 : (wa.length : Int) > mo
        · have HF := Lib.hid (HS.out false ⟨fun h => (by have h9 := h.room; dsimp only at h9; omega), fun h => (by cases h)⟩)
          go_enter Try.func15, Try.ntmps15
          go_upto_region 1 with (fail)
          generalize w.alloc (.cells #[.int .i64 mo, .slice ak kn.length ck, .slice aw wa.length cw, .int .i64 sa, .int .i64 lo, .int .i64 ba] 27) = W at *
          obtain ⟨⟨x0, x1, x2, x3, x4, x5⟩, -⟩ := row6_of HX.out
          go_wp2_with fail
          refine (sin_any _ _ _ _).mono ?_
          rintro e w2 ⟨rfl, rfl⟩
          rw [A1.out, A2.out]
          go_wp2_with fail
          refine (HR.out _ HB.out).mono ?_
          rintro e w7 ⟨rfl, hb7⟩
          rw [C4.out]
          have HB7 := Lib.hid (HB.out.trans (hb7.mono HB.out.size))
          have HX7 := Lib.hid ((hb7.block _ (Array.getElem?_eq_some_iff.1 HX.out).1).trans HX.out)
          obtain ⟨⟨x0, x1, x2, x3, x4, x5⟩, -⟩ := row6_of HX7.out
          clear hb7
          go_wp2
          go_ret
          exact ⟨by rw [HF.out]; rfl, HB7.out⟩
        have A5 := Lib.hid a5
        cases c1 : cntOk sa with
        | false =>
          have C1 := Lib.hid c1
          have HF := Lib.hid (HS.out false ⟨fun h => (by have h9 := h.same; dsimp only at h9; rw [c1] at h9; cases h9), fun h => (by cases h)⟩)
          clear c1
          go_enter Try.func15, Try.ntmps15
          go_upto_region 1 with (fail)
          generalize w.alloc (.cells #[.int .i64 mo, .slice ak kn.length ck, .slice aw wa.length cw, .int .i64 sa, .int .i64 lo, .int .i64 ba] 27) = W at *
          obtain ⟨⟨x0, x1, x2, x3, x4, x5⟩, -⟩ := row6_of HX.out
          go_wp2_with fail
          refine (sin_any _ _ _ _).mono ?_
          rintro e w2 ⟨rfl, rfl⟩
          rw [A1.out, A2.out]
          go_wp2_with fail
          refine (HR.out _ HB.out).mono ?_
          rintro e w7 ⟨rfl, hb7⟩
          rw [C4.out]
          have HB7 := Lib.hid (HB.out.trans (hb7.mono HB.out.size))
          have HX7 := Lib.hid ((hb7.block _ (Array.getElem?_eq_some_iff.1 HX.out).1).trans HX.out)
          obtain ⟨⟨x0, x1, x2, x3, x4, x5⟩, -⟩ := row6_of HX7.out
          clear hb7
          go_wp2_with fail
          refine (scount_any _ _).mono ?_
          rintro e wc ⟨rfl, rfl⟩
          rw [C1.out]
          go_wp2
          go_ret
          exact ⟨by rw [HF.out]; rfl, HB7.out⟩
        | true =>
          have C1 := Lib.hid c1
          clear c1
          cases c2 : cntOk lo with
          | false =>
            have C2 := Lib.hid c2
            have HF := Lib.hid (HS.out false ⟨fun h => (by have h9 := h.lost; dsimp only at h9; rw [c2] at h9; cases h9), fun h => (by cases h)⟩)
            clear c2
            go_enter Try.func15, Try.ntmps15
            go_upto_region 1 with (fail)
            generalize w.alloc (.cells #[.int .i64 mo, .slice ak kn.length ck, .slice aw wa.length cw, .int .i64 sa, .int .i64 lo, .int .i64 ba] 27) = W at *
            obtain ⟨⟨x0, x1, x2, x3, x4, x5⟩, -⟩ := row6_of HX.out
            go_wp2_with fail
            refine (sin_any _ _ _ _).mono ?_
            rintro e w2 ⟨rfl, rfl⟩
            rw [A1.out, A2.out]
            go_wp2_with fail
            refine (HR.out _ HB.out).mono ?_
            rintro e w7 ⟨rfl, hb7⟩
            rw [C4.out]
            have HB7 := Lib.hid (HB.out.trans (hb7.mono HB.out.size))
            have HX7 := Lib.hid ((hb7.block _ (Array.getElem?_eq_some_iff.1 HX.out).1).trans HX.out)
            obtain ⟨⟨x0, x1, x2, x3, x4, x5⟩, -⟩ := row6_of HX7.out
            clear hb7
            go_wp2_with fail
            refine (scount_any _ _).mono ?_
            rintro e wc ⟨rfl, rfl⟩
            rw [C1.out]
            go_wp2_with fail
            refine (scount_any _ _).mono ?_
            rintro e wc ⟨rfl, rfl⟩
            rw [C2.out]
            go_wp2
            go_ret
            exact ⟨by rw [HF.out]; rfl, HB7.out⟩
          | true =>
            have C2 := Lib.hid c2
            clear c2
            cases c3 : cntOk ba with
            | false =>
              have C3 := Lib.hid c3
              have HF := Lib.hid (HS.out false ⟨fun h => (by have h9 := h.bad; dsimp only at h9; rw [c3] at h9; cases h9), fun h => (by cases h)⟩)
              clear c3
              go_enter Try.func15, Try.ntmps15
              go_upto_region 1 with (fail)
              generalize w.alloc (.cells #[.int .i64 mo, .slice ak kn.length ck, .slice aw wa.length cw, .int .i64 sa, .int .i64 lo, .int .i64 ba] 27) = W at *
              obtain ⟨⟨x0, x1, x2, x3, x4, x5⟩, -⟩ := row6_of HX.out
              go_wp2_with fail
              refine (sin_any _ _ _ _).mono ?_
              rintro e w2 ⟨rfl, rfl⟩
              rw [A1.out, A2.out]
              go_wp2_with fail
              refine (HR.out _ HB.out).mono ?_
              rintro e w7 ⟨rfl, hb7⟩
              rw [C4.out]
              have HB7 := Lib.hid (HB.out.trans (hb7.mono HB.out.size))
              have HX7 := Lib.hid ((hb7.block _ (Array.getElem?_eq_some_iff.1 HX.out).1).trans HX.out)
              obtain ⟨⟨x0, x1, x2, x3, x4, x5⟩, -⟩ := row6_of HX7.out
              clear hb7
              go_wp2_with fail
              refine (scount_any _ _).mono ?_
              rintro e wc ⟨rfl, rfl⟩
              rw [C1.out]
              go_wp2_with fail
              refine (scount_any _ _).mono ?_
              rintro e wc ⟨rfl, rfl⟩
              rw [C2.out]
              go_wp2_with fail
              refine (scount_any _ _).mono ?_
              rintro e wc ⟨rfl, rfl⟩
              rw [C3.out]
              go_wp2
              go_ret
              exact ⟨by rw [HF.out]; rfl, HB7.out⟩
            | true =>
              have C3 := Lib.hid c3
              clear c3
              have HPP := Lib.hid (show (∀ i, i < wa.length → waitB kn wa i = true) → sinkOkB ⟨mo, kn, wa, sa, lo, ba⟩ = true from fun h => HS.out true ⟨fun _ => rfl, fun _ => ⟨⟨of_decide_eq_true A1.out, of_decide_eq_true A2.out⟩, C4.out, by have := A5.out; dsimp only; omega, C1.out, C2.out, C3.out, (waitP_iff _ _).2 h⟩⟩)
              have HNN := Lib.hid (show ∀ i, i < wa.length → waitB kn wa i = false → sinkOkB ⟨mo, kn, wa, sa, lo, ba⟩ = false from fun i hi h => HS.out false ⟨fun hp => (by have h9 := (waitP_iff _ _).1 hp.wait i hi; dsimp only at h9; rw [h] at h9; cases h9), fun h => (by cases h)⟩)
              go_enter Try.func15, Try.ntmps15
              go_upto_region 1 with (fail)
              generalize w.alloc (.cells #[.int .i64 mo, .slice ak kn.length ck, .slice aw wa.length cw, .int .i64 sa, .int .i64 lo, .int .i64 ba] 27) = W at *
              obtain ⟨⟨x0, x1, x2, x3, x4, x5⟩, -⟩ := row6_of HX.out
              go_wp2_with fail
              refine (sin_any _ _ _ _).mono ?_
              rintro e w2 ⟨rfl, rfl⟩
              rw [A1.out, A2.out]
              go_wp2_with fail
              refine (HR.out _ HB.out).mono ?_
              rintro e w7 ⟨rfl, hb7⟩
              rw [C4.out]
              have HB7 := Lib.hid (HB.out.trans (hb7.mono HB.out.size))
              have HX7 := Lib.hid ((hb7.block _ (Array.getElem?_eq_some_iff.1 HX.out).1).trans HX.out)
              obtain ⟨⟨x0, x1, x2, x3, x4, x5⟩, -⟩ := row6_of HX7.out
              clear hb7
              go_wp2_with fail
              refine (scount_any _ _).mono ?_
              rintro e wc ⟨rfl, rfl⟩
              rw [C1.out]
              go_wp2_with fail
              refine (scount_any _ _).mono ?_
              rintro e wc ⟨rfl, rfl⟩
              rw [C2.out]
              go_wp2_with fail
              refine (scount_any _ _).mono ?_
              rintro e wc ⟨rfl, rfl⟩
              rw [C3.out]
              go_wp2_with fail
              clear x0 x1 x2 x3 x4 x5

              go_loopw [3] (fun i wr => ∃ (k : Nat) (wz : World), wz = wr ∧ k ≤ wa.length ∧ i = .int .i64 k ∧ (∀ j, j < k → waitB kn wa j = true) ∧ Below wc.heap.size wc wr) (fun i _ => wa.length - (intOf i).toNat)
              case atStart => exact ⟨0, _, rfl, Nat.zero_le _, rfl, fun j hj => by omega, Below.refl _ _⟩
              case round =>
                obtain ⟨k, wr, hwr, hkl, rfl, hall, hbr⟩ := hrel
                subst hwr
                have HBR := Lib.hid (HB7.out.trans (hbr.mono HB7.out.size))
                have HXR := Lib.hid ((hbr.block _ (Array.getElem?_eq_some_iff.1 HX7.out).1).trans HX7.out)
                have HB9 := Lib.hid hbr
                obtain ⟨⟨x0, x1, x2, x3, x4, x5⟩, -⟩ := row6_of HXR.out
                clear hbr
                by_cases hlt : k < wa.length
                · obtain ⟨g, off, rfl, hg, hcs⟩ := HCW.out.resolve_left (by omega)
                  have z0 : (0 : Int) ≤ (k : Int) := by omega
                  have z1 : (k : Int) < (wa.length : Int) := by omega
                  obtain ⟨u, c1, c2, c3⟩ := hcs k hlt
                  have C1x := (HBR.out.cell (p := ⟨g, off + k * 2, none⟩) hg).trans c1
                  have C2x := (HBR.out.cell (p := ⟨g, off + k * 2 + 1, none⟩) hg).trans c2
                  have hxx := HXX.out (wa.getD k blankC) (getW hlt)
                  have HWB := Lib.hid (waitB_at (K := kn) hlt)
                  have HBAD := Lib.hid (HNN.out k hlt)
                  have HNX := Lib.hid (show waitB kn wa k = true → ∀ j, j < k + 1 → waitB kn wa j = true from fun e j hj => by
                    rcases (by omega : j < k ∨ j = k) with h1 | rfl
                    · exact hall j h1
                    · exact e)
                  clear hcs c1 c2 hall
                  generalize wa.getD k blankC = x at *
                  obtain ⟨ks, y⟩ := x
                  dsimp only at *
                  have hba := (Below.refl wr.heap.size wr).alloc (Nat.le_refl _) (.cells #[u, .string y] 30)
                  have HXB := Lib.hid (heap_alloc_new wr (.cells #[u, .string y] 30))
                  have HXS := Lib.hid ((hba.block _ (Array.getElem?_eq_some_iff.1 HXR.out).1).trans HXR.out)
                  have HKY := Lib.hid (fun wx (hbx : Below w.heap.size w wx) => keysAt_below c3.to hbx)
                  have HBA := Lib.hid (HBR.out.trans (hba.mono HBR.out.size))
                  have HB9A := Lib.hid (HB9.out.trans (hba.mono HB9.out.size))
                  obtain ⟨au, cu, rfl, -, -⟩ := c3
                  clear hba
                  go_upto_region 7 with (fail)
                  generalize wr.alloc (.cells #[.slice au ks.length cu, .string y] 30) = W1 at *
                  clear x0 x1 x2 x3 x4 x5 C1x C2x
                  obtain ⟨⟨x0, x1, x2, x3, x4, x5⟩, -⟩ := row6_of HXS.out
                  obtain ⟨y0, y1, -, -⟩ := row2_of HXB.out
                  cases d1 : codeOkB (ks, y) with
                  | false =>
                    have D1 := Lib.hid d1
                    have HF := Lib.hid (HBAD.out (by rw [HWB.out, d1]; rfl))
                    clear d1
                    go_wp2_with fail
                    refine (scodeok_any (.slice au ks.length cu) ks y W1 (HKY.out _ HBA.out) (by omega)).mono ?_
                    rintro e w10 ⟨rfl, hb10⟩
                    rw [D1.out]
                    have HB10 := Lib.hid (HBA.out.trans (hb10.mono HBA.out.size))
                    have HB90 := Lib.hid (HB9A.out.trans (hb10.mono HB9A.out.size))
                    have HXS10 := Lib.hid ((hb10.block _ (Array.getElem?_eq_some_iff.1 HXS.out).1).trans HXS.out)
                    have HXB10 := Lib.hid ((hb10.block _ (Array.getElem?_eq_some_iff.1 HXB.out).1).trans HXB.out)
                    clear x0 x1 x2 x3 x4 x5 y0 y1 hb10
                    obtain ⟨⟨x0, x1, x2, x3, x4, x5⟩, -⟩ := row6_of HXS10.out
                    obtain ⟨y0, y1, -, -⟩ := row2_of HXB10.out
                    go_wp2
                    go_ret
                    exact ⟨by rw [HF.out]; rfl, HB10.out⟩
                  | true =>
                    have D1 := Lib.hid d1
                    clear d1
                    by_cases d2 : (ks.length : Int) < 2
                    · have HF := Lib.hid (HBAD.out (by rw [HWB.out, D1.out, decide_eq_false (by omega)]; rfl))
                      go_wp2_with fail
                      refine (scodeok_any (.slice au ks.length cu) ks y W1 (HKY.out _ HBA.out) (by omega)).mono ?_
                      rintro e w10 ⟨rfl, hb10⟩
                      rw [D1.out]
                      have HB10 := Lib.hid (HBA.out.trans (hb10.mono HBA.out.size))
                      have HB90 := Lib.hid (HB9A.out.trans (hb10.mono HB9A.out.size))
                      have HXS10 := Lib.hid ((hb10.block _ (Array.getElem?_eq_some_iff.1 HXS.out).1).trans HXS.out)
                      have HXB10 := Lib.hid ((hb10.block _ (Array.getElem?_eq_some_iff.1 HXB.out).1).trans HXB.out)
                      clear x0 x1 x2 x3 x4 x5 y0 y1 hb10
                      obtain ⟨⟨x0, x1, x2, x3, x4, x5⟩, -⟩ := row6_of HXS10.out
                      obtain ⟨y0, y1, -, -⟩ := row2_of HXB10.out
                      go_wp2
                      go_ret
                      exact ⟨by rw [HF.out]; rfl, HB10.out⟩
                    have D2 := Lib.hid (show decide (2 ≤ ks.length) = true from decide_eq_true (by omega))
                    by_cases d3 : atI wa ks = some k
                    · have D3 := Lib.hid (decide_eq_true d3)
                      have hpl : plI (atI wa ks) = (k : Int) := by rw [d3]; rfl
                      have d3n : ¬ plI (atI wa ks) ≠ (k : Int) := fun h => h hpl
                      clear d3
                      go_wp2_with fail
                      refine (scodeok_any (.slice au ks.length cu) ks y W1 (HKY.out _ HBA.out) (by omega)).mono ?_
                      rintro e w10 ⟨rfl, hb10⟩
                      rw [D1.out]
                      have HB10 := Lib.hid (HBA.out.trans (hb10.mono HBA.out.size))
                      have HB90 := Lib.hid (HB9A.out.trans (hb10.mono HB9A.out.size))
                      have HXS10 := Lib.hid ((hb10.block _ (Array.getElem?_eq_some_iff.1 HXS.out).1).trans HXS.out)
                      have HXB10 := Lib.hid ((hb10.block _ (Array.getElem?_eq_some_iff.1 HXB.out).1).trans HXB.out)
                      clear x0 x1 x2 x3 x4 x5 y0 y1 hb10
                      obtain ⟨⟨x0, x1, x2, x3, x4, x5⟩, -⟩ := row6_of HXS10.out
                      obtain ⟨y0, y1, -, -⟩ := row2_of HXB10.out
                      go_wp2_with fail
                      refine (sat_any _ wa (.slice au ks.length cu) ks w10 (HWA.out _ HB10.out) (HKY.out _ HB10.out) (by omega) (fun x hx => by have := HXX.out x hx; omega) (by omega)).mono ?_
                      rintro e w11 ⟨rfl, hb11⟩
                      have HB11 := Lib.hid (HB10.out.trans (hb11.mono HB10.out.size))
                      have HB91 := Lib.hid (HB90.out.trans (hb11.mono HB90.out.size))
                      have HXS11 := Lib.hid ((hb11.block _ (Array.getElem?_eq_some_iff.1 HXS10.out).1).trans HXS10.out)
                      have HXB11 := Lib.hid ((hb11.block _ (Array.getElem?_eq_some_iff.1 HXB10.out).1).trans HXB10.out)
                      clear x0 x1 x2 x3 x4 x5 y0 y1 hb11
                      rw [hpl]
                      clear d3n hpl
                      go_wp2_with fail
                      go_loopw [5] (fun i wq => ∃ (m : Nat) (wz : World), wz = wq ∧ m ≤ ks.length ∧ i = .int .i64 m ∧ (∀ j, j < m → loadO kn (ks.getD j (0, 0)) = none) ∧ Below w11.heap.size w11 wq) (fun i _ => ks.length - (intOf i).toNat)
                      case atStart => exact ⟨0, _, rfl, Nat.zero_le _, rfl, fun j hj => by omega, Below.refl _ _⟩
                      case round =>
                        obtain ⟨m, wq, hwq, hml, rfl, hal2, hbq⟩ := hrel
                        subst hwq
                        have HBQ := Lib.hid (HB11.out.trans (hbq.mono HB11.out.size))
                        have HB9Q := Lib.hid (HB91.out.trans (hbq.mono HB91.out.size))
                        have HXSQ := Lib.hid ((hbq.block _ (Array.getElem?_eq_some_iff.1 HXS11.out).1).trans HXS11.out)
                        have HXBQ := Lib.hid ((hbq.block _ (Array.getElem?_eq_some_iff.1 HXB11.out).1).trans HXB11.out)
                        have HBQ11 := Lib.hid hbq
                        obtain ⟨y0, y1, -, -⟩ := row2_of HXBQ.out
                        clear hbq
                        by_cases hm : m < ks.length
                        · obtain ⟨a', c', e1, -, hky⟩ := HKY.out _ HBQ.out
                          cases e1
                          obtain ⟨gk, ok, rfl, hgk, hkc⟩ := hky.resolve_left (by omega)
                          have u0 : (0 : Int) ≤ (m : Int) := by omega
                          have u1 : (m : Int) < (ks.length : Int) := by omega
                          have k1 := hkc m hm
                          have HAL := Lib.hid (fun (e : loadO kn (ks.getD m (0, 0)) = none) => show ∀ j, j < m + 1 → loadO kn (ks.getD j (0, 0)) = none from fun j hj => by
                            rcases (by omega : j < m ∨ j = m) with h1 | rfl
                            · exact hal2 j h1
                            · exact e)
                          have HSM := Lib.hid (fun (z : ByteArray) (e : loadO kn (ks.getD m (0, 0)) = some z) => show waitB kn wa k = false from by
                            rw [HWB.out, D1.out, D2.out, D3.out]
                            have : (ks.all fun k => (loadO kn k).isNone) = false := by
                              cases hh : ks.all fun k => (loadO kn k).isNone with
                              | false => rfl
                              | true =>
                                have := List.all_eq_true.1 hh (ks.getD m (0, 0)) (by rw [List.getD, List.getElem?_eq_getElem hm]; exact List.getElem_mem hm)
                                rw [e] at this; cases this
                            rw [this]; rfl)
                          clear hkc hal2 hky
                          generalize ks.getD m (0, 0) = kx at *
                          have L1 : ∀ w', Below wq.heap.size wq w' → (loadVar 24 ⟨w.heap.size, 1, none⟩).run Try.prog w' = .ok (.slice ak kn.length ck) w' := fun w' hb => ld_rds (row6_of ((hb.block _ (Array.getElem?_eq_some_iff.1 HXSQ.out).1).trans HXSQ.out)).1.2.1
                          have L2 : ∀ w', Below wq.heap.size wq w' → (loadVar 28 ⟨wr.heap.size, 0, none⟩).run Try.prog w' = .ok (.slice (some ⟨gk, ok, none⟩) ks.length cu) w' := fun w' hb => cd_loadk HXBQ.out hb
                          have L3 : ∀ w', Below wq.heap.size wq w' → (loadVar 43 ⟨gk, ok + m * 2, none⟩).run Try.prog w' = .ok (kv kx) w' := fun w' h => key_load k1 hgk h
                          have HLO := Lib.hid (fun w' (hb : Below wq.heap.size wq w') => sloadof_any (.slice ak kn.length ck) kn kx w' (HKN.out _ (HBQ.out.trans (hb.mono HBQ.out.size))) (by omega))
                          clear k1
                          cases hlo : loadO kn kx with
                          | none =>
                            have HN := Lib.hid (HAL.out hlo)
                            rw [hlo] at HLO
                            rw [show loadV (none : Option ByteArray) = .tuple #[.string ⟨#[]⟩, .bool false] from rfl] at HLO
                            clear hlo
                            go_upto_region 12 with (fail)
                            refine wp_region_below wq (by kernel_rfl) (by kernel_rfl) (Below.refl _ _) ?_
                            repeat (first
                              | go_big_quiet_skip
                              | (go_big_quiet_want
                                 first
                                   | (go_big_quiet_op; go_big_quiet_on)
                                   | (refine q_load 24 _ _ _ rfl rfl L1 ?_; simp only [Act.put, List.setIfInBounds_toArray, List.set_cons_zero, List.set_cons_succ]; go_big_quiet_on)
                                   | (refine q_load 28 _ _ _ rfl rfl L2 ?_; simp only [Act.put, List.setIfInBounds_toArray, List.set_cons_zero, List.set_cons_succ]; go_big_quiet_on)
                                   | (refine q_load 43 _ _ _ rfl rfl L3 ?_; simp only [Act.put, List.setIfInBounds_toArray, List.set_cons_zero, List.set_cons_succ]; go_big_quiet_on)
                                   | (go_big_quiet_op; refine ⟨_, fun _ _ => rfl, ?_⟩; go_big_quiet_on)
                                   | (go_big_quiet_op; apply Exists.intro; refine ⟨fun w' hw' => ?_, ?_⟩
                                      · first
                                        | (with_reducible refine (HLO.out w' hw').mono ?_
                                           rintro e w2 ⟨rfl, hb2⟩
                                           exact ⟨rfl, hw'.trans (hb2.mono hw'.size)⟩)
                                      go_big_quiet_on)))
                            refine wpQuiet_nil ?_
                            intro w12 hb12
                            have HB12 := Lib.hid (HBQ11.out.trans (hb12.mono HBQ11.out.size))
                            clear L1 L2 L3 HLO hb12 y0 y1
                            go_wp2
                            exact ⟨⟨m + 1, _, rfl, by omega, by go_num, HN.out, HB12.out⟩, by simp [intOf]; omega⟩
                          | some z =>
                            have HF := Lib.hid (HBAD.out (HSM.out z hlo))
                            rw [hlo] at HLO
                            rw [show loadV (some z) = .tuple #[.string z, .bool true] from rfl] at HLO
                            clear hlo
                            go_upto_region 12 with (fail)
                            refine wp_region_below wq (by kernel_rfl) (by kernel_rfl) (Below.refl _ _) ?_
                            repeat (first
                              | go_big_quiet_skip
                              | (go_big_quiet_want
                                 first
                                   | (go_big_quiet_op; go_big_quiet_on)
                                   | (refine q_load 24 _ _ _ rfl rfl L1 ?_; simp only [Act.put, List.setIfInBounds_toArray, List.set_cons_zero, List.set_cons_succ]; go_big_quiet_on)
                                   | (refine q_load 28 _ _ _ rfl rfl L2 ?_; simp only [Act.put, List.setIfInBounds_toArray, List.set_cons_zero, List.set_cons_succ]; go_big_quiet_on)
                                   | (refine q_load 43 _ _ _ rfl rfl L3 ?_; simp only [Act.put, List.setIfInBounds_toArray, List.set_cons_zero, List.set_cons_succ]; go_big_quiet_on)
                                   | (go_big_quiet_op; refine ⟨_, fun _ _ => rfl, ?_⟩; go_big_quiet_on)
                                   | (go_big_quiet_op; apply Exists.intro; refine ⟨fun w' hw' => ?_, ?_⟩
                                      · first
                                        | (with_reducible refine (HLO.out w' hw').mono ?_
                                           rintro e w2 ⟨rfl, hb2⟩
                                           exact ⟨rfl, hw'.trans (hb2.mono hw'.size)⟩)
                                      go_big_quiet_on)))
                            refine wpQuiet_nil ?_
                            intro w12 hb12
                            have HB12 := Lib.hid (HBQ.out.trans (hb12.mono HBQ.out.size))
                            clear L1 L2 L3 HLO hb12 y0 y1
                            go_wp2
                            go_ret
                            exact ⟨by rw [HF.out]; rfl, HB12.out⟩
                        · obtain rfl : m = ks.length := by omega
                          have HN := Lib.hid (HNX.out (by
                            rw [HWB.out, D1.out, D2.out, D3.out]
                            have : (ks.all fun k => (loadO kn k).isNone) = true := List.all_eq_true.2 fun x hx => by
                              obtain ⟨j, hj, rfl⟩ := List.getElem_of_mem hx
                              have := hal2 j hj
                              rw [List.getD, List.getElem?_eq_getElem hj] at this
                              rw [show loadO kn ks[j] = none from this]; rfl
                            rw [this]; rfl))
                          clear hal2
                          go_wp2
                          exact ⟨⟨k + 1, _, rfl, by omega, by go_num, HN.out, HB9Q.out⟩, by simp [intOf]; omega⟩
                    · have hpl : ¬ plI (atI wa ks) = (k : Int) := fun h => d3 (by
                        cases ha : atI wa ks with
                        | none => rw [ha] at h; exact absurd h (by show ¬ (-1 : Int) = (k : Int); omega)
                        | some j => rw [ha] at h; have h2 : (j : Int) = (k : Int) := h; have : j = k := (by omega); rw [this])
                      have hpb : (plI (atI wa ks) == (k : Int)) = false := beq_eq_false_iff_ne.2 hpl
                      have hpn : (plI (atI wa ks) != (k : Int)) = true := by unfold bne; rw [hpb]; rfl
                      have HF := Lib.hid (HBAD.out (by rw [HWB.out, D1.out, D2.out, decide_eq_false d3]; rfl))
                      clear d3
                      go_wp2_with fail
                      refine (scodeok_any (.slice au ks.length cu) ks y W1 (HKY.out _ HBA.out) (by omega)).mono ?_
                      rintro e w10 ⟨rfl, hb10⟩
                      rw [D1.out]
                      have HB10 := Lib.hid (HBA.out.trans (hb10.mono HBA.out.size))
                      have HB90 := Lib.hid (HB9A.out.trans (hb10.mono HB9A.out.size))
                      have HXS10 := Lib.hid ((hb10.block _ (Array.getElem?_eq_some_iff.1 HXS.out).1).trans HXS.out)
                      have HXB10 := Lib.hid ((hb10.block _ (Array.getElem?_eq_some_iff.1 HXB.out).1).trans HXB.out)
                      clear x0 x1 x2 x3 x4 x5 y0 y1 hb10
                      obtain ⟨⟨x0, x1, x2, x3, x4, x5⟩, -⟩ := row6_of HXS10.out
                      obtain ⟨y0, y1, -, -⟩ := row2_of HXB10.out
                      go_wp2_with fail
                      refine (sat_any _ wa (.slice au ks.length cu) ks w10 (HWA.out _ HB10.out) (HKY.out _ HB10.out) (by omega) (fun x hx => by have := HXX.out x hx; omega) (by omega)).mono ?_
                      rintro e w11 ⟨rfl, hb11⟩
                      have HB11 := Lib.hid (HB10.out.trans (hb11.mono HB10.out.size))
                      have HB91 := Lib.hid (HB90.out.trans (hb11.mono HB90.out.size))
                      have HXS11 := Lib.hid ((hb11.block _ (Array.getElem?_eq_some_iff.1 HXS10.out).1).trans HXS10.out)
                      have HXB11 := Lib.hid ((hb11.block _ (Array.getElem?_eq_some_iff.1 HXB10.out).1).trans HXB10.out)
                      clear x0 x1 x2 x3 x4 x5 y0 y1 hb11
                      go_wp2
                      go_ret
                      exact ⟨by rw [HF.out]; rfl, HB11.out⟩
                · obtain rfl : k = wa.length := by omega
                  have HF := Lib.hid (HPP.out hall)
                  clear hall
                  go_wp2
                  go_ret
                  exact ⟨by rw [HF.out]; rfl, HBR.out⟩
end Go.Proofs.Ytfohmhigidgfhaa
namespace Go.Proofs.Ytfohmhigidgfhaa
open Go.ChangeShapes Go.WideShapes Go.ChangeAt Go.RowKit Go.BigFrame
set_option linter.unusedVariables false
set_option linter.unusedSimpArgs false

theorem SnIn.below {w w' : World} {s : Snk} {vk vw : Value} (h : SnIn w s vk vw) (hb : Below w.heap.size w w') : SnIn w' s vk vw :=
  ⟨rdAt_below h.known hb, cdAv_below h.wait hb, h.nk, h.xk, h.nw, h.xw, h.most, h.same, h.lost, h.bad⟩
theorem sn_loadL {W w' : World} {b : Nat} {v0 v1 v2 v3 v4 v5 : Value} (h : W.heap[b]? = some (.cells #[v0, v1, v2, v3, v4, v5] 53 (0, 0))) (hb : Below W.heap.size W w') : (loadVar 53 ⟨b, 0, none⟩).run Try.prog w' = .ok (.agg #[v0, v1, v2, v3, v4, v5]) w' :=
  run_loadVar_row (P := Try.prog) w' b 53 53 #[v0, v1, v2, v3, v4, v5] (0, 0) _ ((hb.block _ (Array.getElem?_eq_some_iff.1 h).1).trans h) Try.underlying53 rfl (by kernel_rfl)
theorem sn_loadI {W w' : World} {b : Nat} {v0 v1 v2 v3 v4 v5 : Value} (h : W.heap[b]? = some (.cells #[v0, v1, v2, v3, v4, v5] 27 (0, 0))) (hb : Below W.heap.size W w') : (loadVar 27 ⟨b, 0, none⟩).run Try.prog w' = .ok (.agg #[v0, v1, v2, v3, v4, v5]) w' :=
  sn_load ((hb.block _ (Array.getElem?_eq_some_iff.1 h).1).trans h)
set_option maxRecDepth 100000 in
set_option maxHeartbeats 4000000 in
theorem exsinkok_walk (s : Snk) (vk vw : Value) (w : World) (h : SnIn w s vk vw) :
    Calls Try.prog 6 #[snV s vk vw] w fun e w' => e = .returned (.bool true) ∧ Below w.heap.size w w' := by
  have HSZ := Lib.hid (fun wx (hb : Below w.heap.size w wx) => szsink_any s vk vw 1048576 wx (h.below hb) ⟨by omega, by omega⟩)
  have h1 := h.known
  have h2 := h.wait
  clear h
  have HTO := Lib.hid (fun wx (hb : Below w.heap.size w wx) (a : s.known.length ≤ 1900000) (b : s.wait.length ≤ 1900000) (c : ∀ x ∈ s.wait, x.1.length ≤ 1900000) => tosink_any s vk vw wx (rdAt_below h1 hb) (cdAv_below h2 hb) a b c)
  have HSS := Lib.hid (fun ka va wx (h1 : rdAt wx ka s.known) (h2 : cdAv wx none va s.wait) => ssinkok_any s ka va wx h1 h2)
  have HIS := Lib.hid (fun ka va wx (h1 : rdAt wx ka s.known) (h2 : cdAv wx none va s.wait) => isinkok_any s ka va wx h1 h2)
  have HEQ := Lib.hid (fun ka va kb vb wx (h1 : rdAt wx ka s.known) (h1' : rdAt wx kb s.known) (h2 : cdAv wx none va s.wait) (h2' : cdAv wx none vb s.wait) => eqsink_self s ka va kb vb wx h1 h1' h2 h2')
  generalize sinkOkB s = bb at *
  obtain ⟨mo, kn, wa, sa, lo, ba⟩ := s
  have hvk := rd_shape h1
  obtain ⟨aw, cw, rfl, -, -⟩ := h2
  obtain ⟨ak, ck, rfl⟩ := hvk
  clear h1
  unfold toV snV at *
  dsimp only at *
  have hb0 := (Below.refl w.heap.size w).alloc (Nat.le_refl _) (.cells #[.int .i64 mo, .slice ak kn.length ck, .slice aw wa.length cw, .int .i64 sa, .int .i64 lo, .int .i64 ba] 53)
  have HX := Lib.hid (heap_alloc_new w (.cells #[.int .i64 mo, .slice ak kn.length ck, .slice aw wa.length cw, .int .i64 sa, .int .i64 lo, .int .i64 ba] 53))
  have HB := Lib.hid hb0
  clear hb0
  go_enter Try.func6, Try.ntmps6
  go_upto_region 1 with (fail)
  generalize w.alloc (.cells #[.int .i64 mo, .slice ak kn.length ck, .slice aw wa.length cw, .int .i64 sa, .int .i64 lo, .int .i64 ba] 53) = W at *
  obtain ⟨⟨x0, x1, x2, x3, x4, x5⟩, -⟩ := row6_of HX.out
  go_wp2_with fail
  refine (HSZ.out _ HB.out).mono ?_
  rintro e w1 ⟨z, rfl, hz, hb1⟩
  have HB1 := Lib.hid (HB.out.trans (hb1.mono HB.out.size))
  have HX1 := Lib.hid ((hb1.block _ (Array.getElem?_eq_some_iff.1 HX.out).1).trans HX.out)
  clear x0 x1 x2 x3 x4 x5 hb1 HSZ
  by_cases hneg : z < 0
  · go_wp2
    go_ret
    exact ⟨rfl, HB1.out⟩
  · obtain ⟨k1, k2, k3, k4, k5⟩ := hz.resolve_left hneg
    have l1 : kn.length ≤ 1048576 := by omega
    have l2 : wa.length ≤ 1048576 := by omega
    have L3 := Lib.hid (show ∀ x ∈ wa, x.1.length ≤ 1048576 from fun x hx => by have := (k4 x hx).1; omega)
    clear k1 k2 k3 k4 k5 hz
    obtain ⟨⟨x0, x1, x2, x3, x4, x5⟩, -⟩ := row6_of HX1.out
    go_wp2_with fail
    refine (HTO.out _ HB1.out (by omega) (by omega) (fun x hx => by have := L3.out x hx; omega)).mono ?_
    rintro e w2 ⟨gk, gw, us, rfl, hT⟩
    have HB2 := Lib.hid (HB1.out.trans (hT.wait.below.mono HB1.out.size))
    have HX2 := Lib.hid ((hT.wait.below.block _ (Array.getElem?_eq_some_iff.1 HX1.out).1).trans HX1.out)
    have HT := Lib.hid (And.intro hT.rd hT.wait.at)
    clear x0 x1 x2 x3 x4 x5 hT
    go_wp2_with fail
    refine (HSS.out _ _ _ HT.out.1 HT.out.2 l1 l2 L3.out).mono ?_
    rintro e w3 ⟨rfl, hb3⟩
    have HB3 := Lib.hid (HB2.out.trans (hb3.mono HB2.out.size))
    have HX3 := Lib.hid ((hb3.block _ (Array.getElem?_eq_some_iff.1 HX2.out).1).trans HX2.out)
    clear hb3 HT HSS
    obtain ⟨⟨x0, x1, x2, x3, x4, x5⟩, -⟩ := row6_of HX3.out
    go_wp2_with fail
    refine (HTO.out _ HB3.out (by omega) (by omega) (fun x hx => by have := L3.out x hx; omega)).mono ?_
    rintro e w4 ⟨gk4, gw4, us4, rfl, hT⟩
    have HB4 := Lib.hid (HB3.out.trans (hT.wait.below.mono HB3.out.size))
    have HX4 := Lib.hid ((hT.wait.below.block _ (Array.getElem?_eq_some_iff.1 HX3.out).1).trans HX3.out)
    have HT4 := Lib.hid hT
    clear x0 x1 x2 x3 x4 x5 hT
    have hba := (Below.refl w4.heap.size w4).alloc (Nat.le_refl _) (.cells #[.int .i64 mo, .slice (some ⟨gk4, 0, none⟩) kn.length kn.length, .slice (some ⟨gw4, 0, none⟩) wa.length wa.length, .int .i64 sa, .int .i64 lo, .int .i64 ba] 27)
    have HY := Lib.hid (heap_alloc_new w4 (.cells #[.int .i64 mo, .slice (some ⟨gk4, 0, none⟩) kn.length kn.length, .slice (some ⟨gw4, 0, none⟩) wa.length wa.length, .int .i64 sa, .int .i64 lo, .int .i64 ba] 27))
    have HB5 := Lib.hid (HB4.out.trans (hba.mono HB4.out.size))
    have HX5 := Lib.hid ((hba.block _ (Array.getElem?_eq_some_iff.1 HX4.out).1).trans HX4.out)
    have HT5 := Lib.hid (HT4.out.next hba)
    clear hba
    go_upto_region 7 with (fail)
    generalize w4.alloc (.cells #[.int .i64 mo, .slice (some ⟨gk4, 0, none⟩) kn.length kn.length, .slice (some ⟨gw4, 0, none⟩) wa.length wa.length, .int .i64 sa, .int .i64 lo, .int .i64 ba] 27) = W5 at *
    obtain ⟨⟨y0, y1, y2, y3, y4, y5⟩, -⟩ := row6_of HY.out
    go_wp2_with fail
    refine (HIS.out _ _ _ HT5.out.rd HT5.out.wait.at l1 l2 L3.out).mono ?_
    rintro e w6 ⟨rfl, hb6⟩
    have HB6 := Lib.hid (HB5.out.trans (hb6.mono HB5.out.size))
    have HX6 := Lib.hid ((hb6.block _ (Array.getElem?_eq_some_iff.1 HX5.out).1).trans HX5.out)
    have HY6 := Lib.hid ((hb6.block _ (Array.getElem?_eq_some_iff.1 HY.out).1).trans HY.out)
    have HT6 := Lib.hid (HT5.out.next hb6)
    clear hb6 y0 y1 y2 y3 y4 y5 HY HT4 HT5 HIS
    have e0 : ¬ (bb != bb) = true := by simp
    have e1 : (bb != bb) = false := by simp
    have e2 : (bb == bb) = true := by simp
    have LX : ∀ w', Below w6.heap.size w6 w' → (loadVar 53 ⟨w.heap.size, 0, none⟩).run Try.prog w' = .ok (.agg #[.int .i64 mo, .slice ak kn.length ck, .slice aw wa.length cw, .int .i64 sa, .int .i64 lo, .int .i64 ba]) w' := fun w' hb => sn_loadL HX6.out hb
    have LY : ∀ w', Below w6.heap.size w6 w' → (loadVar 27 ⟨w4.heap.size, 0, none⟩).run Try.prog w' = .ok (.agg #[.int .i64 mo, .slice (some ⟨gk4, 0, none⟩) kn.length kn.length, .slice (some ⟨gw4, 0, none⟩) wa.length wa.length, .int .i64 sa, .int .i64 lo, .int .i64 ba]) w' := fun w' hb => sn_loadI HY6.out hb
    have HBC := Lib.hid (Below.refl w6.heap.size w6).drew
    go_upto_region 10 with (fail)
    refine wp_region_G (fun wx => Below w6.heap.size w6 wx) (by kernel_rfl) ?_
    refine wpG_seg [true, true] [2] 2 (by kernel_rfl) (by intro c a d v w h; cases d <;> exact h) (by kernel_rfl) HBC.out ?_
    try simp only [maskRows]
    repeat (first
      | go_big_quiet_skip
      | (go_big_quiet_want
         first
           | (go_big_quiet_op; go_big_quiet_on)
           | (refine q_load 53 _ _ _ rfl rfl LX ?_; simp only [Act.put, List.setIfInBounds_toArray, List.set_cons_zero, List.set_cons_succ]; go_big_quiet_on)
           | (refine q_load 27 _ _ _ rfl rfl LY ?_; simp only [Act.put, List.setIfInBounds_toArray, List.set_cons_zero, List.set_cons_succ]; go_big_quiet_on)
           | (go_big_quiet_op; refine ⟨_, fun _ _ => rfl, ?_⟩; go_big_quiet_on)
           | (go_big_quiet_op; refine ⟨_, fun _ _ _ => rfl, ?_⟩; go_big_quiet_on)))
    refine wpQuiet_nil ?_
    refine List.forall_mem_singleton.2 ?_
    refine segt_run rfl (by rfl) (fun K hK => ?_)
    go_simp
    refine (HTO.out _ (HB6.out.trans (HBC.out.mono HB6.out.size)) (by omega) (by omega) (fun x hx => by have := L3.out x hx; omega)).mono ?_
    rintro e w7 ⟨gk7, gw7, us7, rfl, hT⟩
    dsimp only
    have HT7 := Lib.hid (And.intro hT.rd hT.wait.at)
    have HT6b := Lib.hid (HT6.out.next (HBC.out.trans (hT.wait.below.mono HBC.out.size)))
    replace HBC := Lib.hid (HBC.out.trans (hT.wait.below.mono HBC.out.size))
    clear hT
    refine hK _ _ ⟨_, fun _ h => h, HBC.out, ?_⟩
    clear hK K
    try simp only [Act.put, List.setIfInBounds_toArray, List.set_cons_zero, List.set_cons_succ]
    refine wpG_seg [] [3] 1 (by kernel_rfl) (by intro c a d v w h; cases d <;> exact h) (by kernel_rfl) HBC.out ?_
    try simp only [maskRows]
    refine wpQuiet_nil ?_
    refine List.forall_mem_singleton.2 ?_
    refine segt_run rfl (by rfl) (fun K hK => ?_)
    go_simp
    refine (HEQ.out _ _ _ _ _ HT6b.out.rd HT7.out.1 HT6b.out.wait.at HT7.out.2 (by omega) (by omega) (fun x hx => by have := L3.out x hx; omega)).mono ?_
    rintro e w8 ⟨rfl, hb8⟩
    dsimp only
    replace HBC := Lib.hid (HBC.out.trans (hb8.mono HBC.out.size))
    clear hb8
    refine hK _ _ ⟨_, fun _ h => h, HBC.out, ?_⟩
    clear hK K
    try simp only [Act.put, List.setIfInBounds_toArray, List.set_cons_zero, List.set_cons_succ]
    refine wpG_end [false, false, false, false, true] (by kernel_rfl) (by intro c a d v w h; cases d <;> exact h) (by kernel_rfl) HBC.out ?_
    try simp only [maskRows]
    repeat (first
      | go_big_quiet_skip
      | (go_big_quiet_want
         first
           | (go_big_quiet_op; go_big_quiet_on)
           | (refine q_load 53 _ _ _ rfl rfl LX ?_; simp only [Act.put, List.setIfInBounds_toArray, List.set_cons_zero, List.set_cons_succ]; go_big_quiet_on)
           | (refine q_load 27 _ _ _ rfl rfl LY ?_; simp only [Act.put, List.setIfInBounds_toArray, List.set_cons_zero, List.set_cons_succ]; go_big_quiet_on)
           | (go_big_quiet_op; refine ⟨_, fun _ _ => rfl, ?_⟩; go_big_quiet_on)
           | (go_big_quiet_op; refine ⟨_, fun _ _ _ => rfl, ?_⟩; go_big_quiet_on)))
    refine wpQuiet_nil ?_
    clear LX LY
    have HB9 := Lib.hid (HB6.out.trans (HBC.out.mono HB6.out.size))
    go_wp2
    go_ret
    exact ⟨rfl, HB9.out⟩
set_option maxRecDepth 100000 in
set_option maxHeartbeats 1000000 in
theorem marksink_none (s : Snk) (k : Int) (w : World) : Calls Try.prog 29 #[snV s (.slice none 0 0) (.slice none 0 0), .int .i64 k] w fun e w' => e = .returned (.int .i64 k) ∧ Below w.heap.size w w' := by
  obtain ⟨mo, kn, wa, sa, lo, ba⟩ := s
  have HMR : Hid (∀ wx : World, Calls Try.prog 74 #[.slice none 0 0, .int .i64 k] wx fun e w' => e = .returned (.int .i64 k) ∧ w' = wx) := Lib.hid fun wx => by
    go_enter Try.func74, Try.ntmps74
    go_wp2
    go_loopw [1, 5] (fun c i wr => c = .int .i64 k ∧ i = .int .i64 0 ∧ wr = wx) (fun _ _ _ => 0)
    case atStart => exact ⟨rfl, rfl, rfl⟩
    case round =>
      obtain ⟨rfl, rfl, rfl⟩ := hrel
      go_wp2
      go_ret
      exact ⟨rfl, rfl⟩
  have HMC : Hid (∀ wx : World, Calls Try.prog 75 #[.slice none 0 0, .int .i64 k] wx fun e w' => e = .returned (.int .i64 k) ∧ w' = wx) := Lib.hid fun wx => by
    go_enter Try.func75, Try.ntmps75
    go_wp2
    go_loopw [1, 5] (fun c i wr => c = .int .i64 k ∧ i = .int .i64 0 ∧ wr = wx) (fun _ _ _ => 0)
    case atStart => exact ⟨rfl, rfl, rfl⟩
    case round =>
      obtain ⟨rfl, rfl, rfl⟩ := hrel
      go_wp2
      go_ret
      exact ⟨rfl, rfl⟩
  unfold snV
  dsimp only
  have HX := Lib.hid (heap_alloc_new w (.cells #[.int .i64 mo, .slice none 0 0, .slice none 0 0, .int .i64 sa, .int .i64 lo, .int .i64 ba] 27))
  have HB := Lib.hid ((Below.refl w.heap.size w).alloc (Nat.le_refl _) (.cells #[.int .i64 mo, .slice none 0 0, .slice none 0 0, .int .i64 sa, .int .i64 lo, .int .i64 ba] 27))
  go_enter Try.func29, Try.ntmps29
  go_upto_region 1 with (fail)
  generalize w.alloc (.cells #[.int .i64 mo, .slice none 0 0, .slice none 0 0, .int .i64 sa, .int .i64 lo, .int .i64 ba] 27) = W at *
  obtain ⟨⟨x0, x1, x2, x3, x4, x5⟩, -⟩ := row6_of HX.out
  go_wp2_with fail
  refine (HMR.out _).mono ?_
  rintro e w2 ⟨rfl, rfl⟩
  go_wp2_with fail
  refine (HMC.out _).mono ?_
  rintro e w2 ⟨rfl, rfl⟩
  go_wp2
  go_ret
  exact ⟨rfl, HB.out⟩
set_option maxRecDepth 100000 in
set_option maxHeartbeats 1000000 in
theorem heldsink_none (s : Snk) (k : Int) (hk : 0 ≤ k) (w : World) : Calls Try.prog 30 #[snV s (.slice none 0 0) (.slice none 0 0), .int .i64 k] w fun e w' => e = .returned (.int .i64 k) ∧ Below w.heap.size w w' := by
  obtain ⟨mo, kn, wa, sa, lo, ba⟩ := s
  have n0 : ¬ k < 0 := by omega
  have HMR : Hid (∀ wx : World, Calls Try.prog 76 #[.slice none 0 0, .int .i64 k] wx fun e w' => e = .returned (.int .i64 k) ∧ w' = wx) := Lib.hid fun wx => by
    go_enter Try.func76, Try.ntmps76
    go_wp2
    go_loopw [1, 5] (fun c i wr => c = .int .i64 k ∧ i = .int .i64 0 ∧ wr = wx) (fun _ _ _ => 0)
    case atStart => exact ⟨rfl, rfl, rfl⟩
    case round =>
      obtain ⟨rfl, rfl, rfl⟩ := hrel
      go_wp2
      go_ret
      exact ⟨rfl, rfl⟩
  have HMC : Hid (∀ wx : World, Calls Try.prog 77 #[.slice none 0 0, .int .i64 k] wx fun e w' => e = .returned (.int .i64 k) ∧ w' = wx) := Lib.hid fun wx => by
    go_enter Try.func77, Try.ntmps77
    go_wp2
    go_loopw [1, 5] (fun c i wr => c = .int .i64 k ∧ i = .int .i64 0 ∧ wr = wx) (fun _ _ _ => 0)
    case atStart => exact ⟨rfl, rfl, rfl⟩
    case round =>
      obtain ⟨rfl, rfl, rfl⟩ := hrel
      go_wp2
      go_ret
      exact ⟨rfl, rfl⟩
  unfold snV
  dsimp only
  have HX := Lib.hid (heap_alloc_new w (.cells #[.int .i64 mo, .slice none 0 0, .slice none 0 0, .int .i64 sa, .int .i64 lo, .int .i64 ba] 27))
  have HB := Lib.hid ((Below.refl w.heap.size w).alloc (Nat.le_refl _) (.cells #[.int .i64 mo, .slice none 0 0, .slice none 0 0, .int .i64 sa, .int .i64 lo, .int .i64 ba] 27))
  go_enter Try.func30, Try.ntmps30
  go_upto_region 1 with (fail)
  generalize w.alloc (.cells #[.int .i64 mo, .slice none 0 0, .slice none 0 0, .int .i64 sa, .int .i64 lo, .int .i64 ba] 27) = W at *
  obtain ⟨⟨x0, x1, x2, x3, x4, x5⟩, -⟩ := row6_of HX.out
  go_wp2_with fail
  refine (HMR.out _).mono ?_
  rintro e w2 ⟨rfl, rfl⟩
  go_wp2_with fail
  refine (HMC.out _).mono ?_
  rintro e w2 ⟨rfl, rfl⟩
  go_wp2
  go_ret
  exact ⟨rfl, HB.out⟩
theorem newM_none (n : Int) : (newM n).known = [] ∧ (newM n).wait = [] := by
  unfold newM
  split <;> exact ⟨rfl, rfl⟩
set_option maxRecDepth 100000 in
set_option maxHeartbeats 4000000 in
theorem exnewsink_walk (n : Int) (w : World) (hn : (Lit.int .i64 n).wf = true) :
    Calls Try.prog 7 #[.int .i64 n] w fun e w' => e = .returned (.bool true) ∧ Below w.heap.size w w' := by
  have HI := Lib.hid (fun wx => inewsink_any n wx)
  have HS := Lib.hid (fun wx => snewsink_any n wx)
  have hnone := newM_none n
  generalize newM n = s at *
  have HEQ := Lib.hid (fun wx => eqsink_self s (.slice none 0 0) (.slice none 0 0) (.slice none 0 0) (.slice none 0 0) wx (by rw [hnone.1]; exact ⟨none, 0, rfl, Nat.le_refl _, .inl rfl⟩) (by rw [hnone.1]; exact ⟨none, 0, rfl, Nat.le_refl _, .inl rfl⟩) (by rw [hnone.2]; exact ⟨none, 0, rfl, Nat.le_refl _, .inl rfl⟩) (by rw [hnone.2]; exact ⟨none, 0, rfl, Nat.le_refl _, .inl rfl⟩) (by rw [hnone.1]; simp) (by rw [hnone.2]; simp) (fun x hx => by rw [hnone.2] at hx; cases hx))
  have HM := Lib.hid (fun wx => marksink_none s 1 wx)
  have HH := Lib.hid (fun wx => heldsink_none s 1 (by omega) wx)
  clear hnone hn
  obtain ⟨mo, kn, wa, sa, lo, ba⟩ := s
  unfold snV at *
  dsimp only at *
  go_enter Try.func7, Try.ntmps7
  go_wp2_with fail
  refine (HS.out _).mono ?_
  rintro e w1 ⟨rfl, hb1⟩
  have HB1 := Lib.hid (hb1.alloc hb1.size (.cells #[.int .i64 mo, .slice none 0 0, .slice none 0 0, .int .i64 sa, .int .i64 lo, .int .i64 ba] 27))
  have HX1 := Lib.hid (heap_alloc_new w1 (.cells #[.int .i64 mo, .slice none 0 0, .slice none 0 0, .int .i64 sa, .int .i64 lo, .int .i64 ba] 27))
  clear hb1
  go_upto_region 2 with (fail)
  generalize w1.alloc (.cells #[.int .i64 mo, .slice none 0 0, .slice none 0 0, .int .i64 sa, .int .i64 lo, .int .i64 ba] 27) = W1 at *
  go_wp2_with fail
  refine (HI.out _).mono ?_
  rintro e w2 ⟨rfl, hb2⟩
  have HB2 := Lib.hid (HB1.out.trans ((hb2.alloc hb2.size (.cells #[.int .i64 mo, .slice none 0 0, .slice none 0 0, .int .i64 sa, .int .i64 lo, .int .i64 ba] 27)).mono HB1.out.size))
  have HX2 := Lib.hid ((Below.heap_alloc w2 (.cells #[.int .i64 mo, .slice none 0 0, .slice none 0 0, .int .i64 sa, .int .i64 lo, .int .i64 ba] 27) _ (Nat.lt_of_lt_of_le (Array.getElem?_eq_some_iff.1 HX1.out).1 hb2.size)).trans ((hb2.block _ (Array.getElem?_eq_some_iff.1 HX1.out).1).trans HX1.out))
  have HY2 := Lib.hid (heap_alloc_new w2 (.cells #[.int .i64 mo, .slice none 0 0, .slice none 0 0, .int .i64 sa, .int .i64 lo, .int .i64 ba] 27))
  clear hb2
  go_upto_region 3 with (fail)
  generalize w2.alloc (.cells #[.int .i64 mo, .slice none 0 0, .slice none 0 0, .int .i64 sa, .int .i64 lo, .int .i64 ba] 27) = W2 at *
  obtain ⟨⟨x0, x1, x2, x3, x4, x5⟩, -⟩ := row6_of HX2.out
  obtain ⟨⟨y0, y1, y2, y3, y4, y5⟩, -⟩ := row6_of HY2.out
  go_wp2_with fail
  refine (HEQ.out _).mono ?_
  rintro e w3 ⟨rfl, hb3⟩
  have HB3 := Lib.hid (HB2.out.trans (hb3.mono HB2.out.size))
  have HX3 := Lib.hid ((hb3.block _ (Array.getElem?_eq_some_iff.1 HX2.out).1).trans HX2.out)
  have HY3 := Lib.hid ((hb3.block _ (Array.getElem?_eq_some_iff.1 HY2.out).1).trans HY2.out)
  clear x0 x1 x2 x3 x4 x5 y0 y1 y2 y3 y4 y5 hb3
  obtain ⟨⟨x0, x1, x2, x3, x4, x5⟩, -⟩ := row6_of HX3.out
  obtain ⟨⟨y0, y1, y2, y3, y4, y5⟩, -⟩ := row6_of HY3.out
  go_wp2_with fail
  refine (HM.out _).mono ?_
  rintro e w4 ⟨rfl, hb4⟩
  have HB4 := Lib.hid (HB3.out.trans (hb4.mono HB3.out.size))
  have HX4 := Lib.hid ((hb4.block _ (Array.getElem?_eq_some_iff.1 HX3.out).1).trans HX3.out)
  have HY4 := Lib.hid ((hb4.block _ (Array.getElem?_eq_some_iff.1 HY3.out).1).trans HY3.out)
  clear x0 x1 x2 x3 x4 x5 y0 y1 y2 y3 y4 y5 hb4
  obtain ⟨⟨x0, x1, x2, x3, x4, x5⟩, -⟩ := row6_of HX4.out
  obtain ⟨⟨y0, y1, y2, y3, y4, y5⟩, -⟩ := row6_of HY4.out
  go_wp2_with fail
  refine (HH.out _).mono ?_
  rintro e w5 ⟨rfl, hb5⟩
  have HB5 := Lib.hid (HB4.out.trans (hb5.mono HB4.out.size))
  have HX5 := Lib.hid ((hb5.block _ (Array.getElem?_eq_some_iff.1 HX4.out).1).trans HX4.out)
  have HY5 := Lib.hid ((hb5.block _ (Array.getElem?_eq_some_iff.1 HY4.out).1).trans HY4.out)
  clear x0 x1 x2 x3 x4 x5 y0 y1 y2 y3 y4 y5 hb5
  obtain ⟨⟨x0, x1, x2, x3, x4, x5⟩, -⟩ := row6_of HX5.out
  obtain ⟨⟨y0, y1, y2, y3, y4, y5⟩, -⟩ := row6_of HY5.out
  go_wp2_with fail
  refine (HI.out _).mono ?_
  rintro e w6 ⟨rfl, hb6⟩
  have HB6 := Lib.hid (HB5.out.trans (hb6.mono HB5.out.size))
  have HX6 := Lib.hid ((hb6.block _ (Array.getElem?_eq_some_iff.1 HX5.out).1).trans HX5.out)
  have HY6 := Lib.hid ((hb6.block _ (Array.getElem?_eq_some_iff.1 HY5.out).1).trans HY5.out)
  clear x0 x1 x2 x3 x4 x5 y0 y1 y2 y3 y4 y5 hb6
  obtain ⟨⟨x0, x1, x2, x3, x4, x5⟩, -⟩ := row6_of HX6.out
  obtain ⟨⟨y0, y1, y2, y3, y4, y5⟩, -⟩ := row6_of HY6.out
  have HB7 := Lib.hid (HB6.out.alloc HB6.out.size (.cells #[.int .i64 mo, .slice none 0 0, .slice none 0 0, .int .i64 sa, .int .i64 lo, .int .i64 ba] 27))
  have HX7 := Lib.hid ((Below.heap_alloc w6 (.cells #[.int .i64 mo, .slice none 0 0, .slice none 0 0, .int .i64 sa, .int .i64 lo, .int .i64 ba] 27) _ (Array.getElem?_eq_some_iff.1 HX6.out).1).trans HX6.out)
  have HY7 := Lib.hid ((Below.heap_alloc w6 (.cells #[.int .i64 mo, .slice none 0 0, .slice none 0 0, .int .i64 sa, .int .i64 lo, .int .i64 ba] 27) _ (Array.getElem?_eq_some_iff.1 HY6.out).1).trans HY6.out)
  have HZ7 := Lib.hid (heap_alloc_new w6 (.cells #[.int .i64 mo, .slice none 0 0, .slice none 0 0, .int .i64 sa, .int .i64 lo, .int .i64 ba] 27))
  clear x0 x1 x2 x3 x4 x5 y0 y1 y2 y3 y4 y5
  go_upto_region 14 with (fail)
  generalize w6.alloc (.cells #[.int .i64 mo, .slice none 0 0, .slice none 0 0, .int .i64 sa, .int .i64 lo, .int .i64 ba] 27) = W7 at *
  obtain ⟨⟨x0, x1, x2, x3, x4, x5⟩, -⟩ := row6_of HX7.out
  obtain ⟨⟨y0, y1, y2, y3, y4, y5⟩, -⟩ := row6_of HY7.out
  obtain ⟨⟨z0, z1, z2, z3, z4, z5⟩, -⟩ := row6_of HZ7.out
  go_wp2_with fail
  refine (HEQ.out _).mono ?_
  rintro e w8 ⟨rfl, hb8⟩
  have HB8 := Lib.hid (HB7.out.trans (hb8.mono HB7.out.size))
  have HY8 := Lib.hid ((hb8.block _ (Array.getElem?_eq_some_iff.1 HY7.out).1).trans HY7.out)
  clear x0 x1 x2 x3 x4 x5 y0 y1 y2 y3 y4 y5 z0 z1 z2 z3 z4 z5 hb8
  obtain ⟨⟨y0, y1, y2, y3, y4, y5⟩, -⟩ := row6_of HY8.out
  go_wp2_with fail
  refine (HH.out _).mono ?_
  rintro e w9 ⟨rfl, hb9⟩
  have HB9 := Lib.hid (HB8.out.trans (hb9.mono HB8.out.size))
  clear hb9
  go_wp2
  go_ret
  exact ⟨rfl, HB9.out⟩
end Go.Proofs.Ytfohmhigidgfhaa
