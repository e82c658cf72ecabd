/- What the laws lean on (own lemmas and walks of the called functions). -/
import Derived.Test.YtadjmfhhpkjpaaaDoorPx2
set_option linter.unusedVariables false
set_option linter.unusedSimpArgs false
namespace Go.Proofs.YtadjmfhhpkjpaaaDoor
open Go.ChangeShapes Go.WideShapes Go.ChangeAt Go.RowKit Go.BigFrame
set_option linter.unusedVariables false
set_option linter.unusedSimpArgs false

theorem infoStrT : (Tryd.prog.info? 9).map (fun i => (i.zero, i.size, i.bytes)) = some (some (.string ByteArray.empty), 1, 16) := by kernel_rfl
def strV (xs : List (List UInt8)) : List Value := xs.map fun x => .string (tB x)
theorem own_shapeT {w : World} {base n : Nat} {e : TypeId} {v : Value} {size : Nat} {xs : List Value} (h : w.ownsRow base e size v n xs) : (v = .slice none 0 0 ∧ n = 0) ∨ ∃ g c, v = .slice (some ⟨g, 0, none⟩) n c ∧ n ≤ c := by
  rcases h.2 with ⟨h1, h0⟩ | ⟨g, cap, cur, hv, _, _, hc, _⟩
  · exact .inl ⟨h1, h0⟩
  · exact .inr ⟨g, cap, hv, by omega⟩
/-- texts of one's own, joined -/
theorem join_own (base : Nat) (v : Value) (xs : List (List UInt8)) (w : World) (h : w.ownsRow base 9 1 v xs.length (strV xs)) (hn : xs.length ≤ 2000000) (hl : (jn xs).length ≤ 1000000000) :
    Calls Tryd.prog 19 #[v, .string ⟨#[32]⟩] w fun e w' => e = .returned (.string (tB (jn xs))) ∧ Below w.heap.size w w' := by
  by_cases h0 : xs.length = 0
  · obtain rfl : xs = [] := List.eq_nil_of_length_eq_zero h0
    have : ∃ a c, v = .slice a 0 c := by
      rcases own_shapeT h with ⟨h1, -⟩ | ⟨g, c, h1, -⟩
      · exact ⟨_, _, h1⟩
      · exact ⟨_, _, h1⟩
    obtain ⟨a, c, rfl⟩ := this
    exact (Tryd.strings_Join_none a c ⟨#[32]⟩ w).mono fun e w' h => ⟨h.1, by rw [h.2]; exact Below.refl _ _⟩
  · rcases own_shapeT h with ⟨-, h1⟩ | ⟨g, c, rfl, hc⟩
    · exact absurd h1 h0
    · have hm : ((xs.map tB).map (·.data.toList)) = xs := by
        rw [List.map_map]
        conv => rhs; rw [← List.map_id xs]
        exact List.map_congr_left fun x _ => by simp [tB]
      have hJ := Tryd.strings_Join g 0 c (xs.map tB) ⟨#[32]⟩ w (fun j x hj => by
        have hlt := (List.getElem?_eq_some_iff.1 hj).1
        rw [List.length_map] at hlt
        rw [Nat.zero_add, h.cellAt j (by omega)]
        unfold strV
        simp only [List.getElem?_map] at hj ⊢
        cases hk : xs[j]? with
        | none => rw [hk] at hj; cases hj
        | some y => rw [hk] at hj; cases hj; rfl) (h.lt g rfl).2 (by rw [List.length_map]; omega) (by rw [List.length_map]; exact hc) (by rw [hm]; exact Nat.le_trans hl (by omega))
      rw [hm, List.length_map] at hJ
      exact hJ
/-- three texts, laid just now, joined by what stands between parts -/
theorem join_three (A B C : List UInt8) (b c : Nat) (w : World) (hr : w.heap[b]? = some (.cells #[.string (tB A), .string (tB B), .string (tB C)] 9 (0, 0))) (hc : 3 ≤ c) (hl : A.length + B.length + C.length ≤ 1000000000) :
    Calls Tryd.prog 19 #[.slice (some ⟨b, 0, none⟩) 3 c, .string ⟨#[32, 124, 32]⟩] w fun e w' => e = .returned (.string (tB (Lib.join [A, B, C] [32, 124, 32]))) ∧ Below w.heap.size w w' := by
  have hJ := Tryd.strings_Join b 0 c [tB A, tB B, tB C] ⟨#[32, 124, 32]⟩ w (fun j x hj => by
    rw [Nat.zero_add, cell_of_row _ _ j _ _ _ hr]
    match j, hj with
    | 0, h => cases h; rfl
    | 1, h => cases h; rfl
    | 2, h => cases h; rfl
    | j + 3, h => simp at h) (Array.getElem?_eq_some_iff.1 hr).1 (by simp) (by simpa using hc) (by
      simp only [List.map_cons, List.map_nil, Lib.join_cons, Lib.joinTail, List.flatten_cons, List.flatten_nil, List.length_append, List.length_nil]
      simp [tB]
      omega)
  exact hJ.mono fun e w' h => ⟨by rw [h.1]; simp [tB], h.2⟩
theorem join_three1 (A B C : List UInt8) (b c : Nat) (w : World) (hr : w.heap[b]? = some (.cells #[.string (tB A), .string (tB B), .string (tB C)] 9 (0, 0))) (hc : 3 ≤ c) (hl : A.length + B.length + C.length ≤ 1000000000) :
    Calls Tryd.prog 19 #[.slice (some ⟨b, 0, none⟩) 3 c, .string ⟨#[32]⟩] w fun e w' => e = .returned (.string (tB (jn [A, B, C]))) ∧ Below w.heap.size w w' := by
  have hJ := Tryd.strings_Join b 0 c [tB A, tB B, tB C] ⟨#[32]⟩ w (fun j x hj => by
    rw [Nat.zero_add, cell_of_row _ _ j _ _ _ hr]
    match j, hj with
    | 0, h => cases h; rfl
    | 1, h => cases h; rfl
    | 2, h => cases h; rfl
    | j + 3, h => simp at h) (Array.getElem?_eq_some_iff.1 hr).1 (by simp) (by simpa using hc) (by
      simp only [List.map_cons, List.map_nil, Lib.join_cons, Lib.joinTail, List.flatten_cons, List.flatten_nil, List.length_append, List.length_nil]
      simp [tB]
      omega)
  exact hJ.mono fun e w' h => ⟨by rw [h.1]; simp [tB, jn], h.2⟩
set_option maxRecDepth 100000 in
set_option maxHeartbeats 8000000 in
theorem isinktext_any (mo sa lo ba : Int) (Kn : List R3) (Wd : List C2) (vk vw : Value) (w : World) (hk : rdAt w vk Kn) (hw : cdAv w none vw Wd) (hsk : Kn.length ≤ 1048576) (hsw : Wd.length ≤ 1048576) (hxw : ∀ x ∈ Wd, x.1.length ≤ 2000000)
    (hs1 : -9223372036854775808 ≤ sa ∧ sa ≤ 9223372036854775807) (hs2 : -9223372036854775808 ≤ lo ∧ lo ≤ 9223372036854775807) (hs3 : -9223372036854775808 ≤ ba ∧ ba ≤ 9223372036854775807) (hT : Lib.TabIs Tryd.prog w "internal/strconv.uint64pow10" IntKind.u64 Lib.pow10Tab) :
    Calls Tryd.prog 7 #[snV ⟨mo, Kn, Wd, sa, lo, ba⟩ vk vw] w fun e w' => e = .returned (.string (tB (sinkL ⟨mo, Kn, Wd, sa, lo, ba⟩))) ∧ Below w.heap.size w w' := by
  obtain ⟨i0, hi, hz0, hz1, hz2⟩ := info_parts infoStrT
  obtain ⟨ak, ck, rfl, hcap, hkc⟩ := hk
  obtain ⟨aw, cw, rfl, hcap2, hwc⟩ := hw
  unfold snV
  dsimp only
  have HX := Lib.hid (heap_alloc_new w (.cells #[.int .i64 mo, .slice ak Kn.length ck, .slice aw Wd.length cw, .int .i64 sa, .int .i64 lo, .int .i64 ba] 31))
  have HB := Lib.hid ((Below.refl w.heap.size w).alloc (Nat.le_refl _) (.cells #[.int .i64 mo, .slice ak Kn.length ck, .slice aw Wd.length cw, .int .i64 sa, .int .i64 lo, .int .i64 ba] 31))
  have HT := Lib.hid hT
  clear hT
  have hleA : (jn (Kn.map rtL)).length ≤ 100000000 := by
    have := jn_len (Kn.map rtL) 60 (fun x hx => by obtain ⟨r, _, rfl⟩ := List.mem_map.1 hx; exact rtL_len r)
    rw [List.length_map] at this
    omega
  have hleB : (jn (Wd.map cdL)).length ≤ 500000000 := by
    have := jn_len (Wd.map cdL) 300 (fun x hx => by obtain ⟨r, _, rfl⟩ := List.mem_map.1 hx; exact cdL_len r)
    rw [List.length_map] at this
    omega
  have HLE := Lib.hid (And.intro hleA hleB)
  clear hleA hleB
  go_enter Tryd.func7, Tryd.ntmps7
  go_upto_region 1 with (fail)
  have hle := HB.out.size
  generalize w.alloc (.cells #[.int .i64 mo, .slice ak Kn.length ck, .slice aw Wd.length cw, .int .i64 sa, .int .i64 lo, .int .i64 ba] 31) = W at *
  obtain ⟨x0, x1, x2, x3, x4, x5⟩ := row6T HX.out
  obtain ⟨W0, hmk, hown0, hgr0⟩ := run_make_own (P := Tryd.prog) W W.heap.size 49 9 i0 (.string ⟨#[]⟩) 1 Tryd.underlying49 hi hz0 hz1 .i64 .i64 Kn.length (by rw [hz2]; omega) (by unfold maxLen; omega) (Nat.le_refl _)
  have hb0 : Below W.heap.size W W0 := (Below.refl W.heap.size W).grown hgr0 (Nat.le_refl _) (fun k e => by cases e)
  go_upto_region 2 with (fail)
  clear hmk hgr0 x0 x1 x2 x3 x4 x5
  obtain ⟨x0, x1, x2, x3, x4, x5⟩ := row6T ((hb0.block _ (Array.getElem?_eq_some_iff.1 HX.out).1).trans HX.out)
  go_wp2_with fail
  clear x0 x1 x2 x3 x4 x5
  go_loopw [3, 18] (fun v i wr => ∃ (k : Nat) (v0 : Value) (wz : World), k ≤ Kn.length ∧ i = .int .i64 k ∧ v0 = v ∧ wz = wr ∧ wz.ownsRow W.heap.size 9 1 v0 k (strV ((Kn.take k).map rtL)) ∧ Below W.heap.size W wz)
    (fun _ i _ => Kn.length - (intOf i).toNat)
  case atStart => exact ⟨0, _, _, Nat.zero_le _, rfl, rfl, rfl, hown0, hb0⟩
  case round =>
    obtain ⟨k, v, wz, hkl, rfl, rfl, hwz, hown, hbr⟩ := hrel
    subst hwz
    clear hown0 hb0
    have HBR := Lib.hid hbr
    by_cases hlt : k < Kn.length
    · obtain ⟨g, off, rfl, hg, hcs⟩ := hkc.resolve_left (by omega)
      have hc := hcs k hlt
      have z0 : (0 : Int) ≤ (k : Int) := by omega
      have z1 : (k : Int) < (Kn.length : Int) := by omega
      have hgW : g < W.heap.size := by omega
      have tr : ∀ j, wz.cell? ⟨g, j, none⟩ = w.cell? ⟨g, j, none⟩ := fun j => (hbr.cell (p := ⟨g, j, none⟩) hgW).trans (HB.out.cell (p := ⟨g, j, none⟩) hg)
      have d0 := (tr _).trans hc.1
      have d1 := (tr _).trans hc.2.1
      have d2 := (tr _).trans hc.2.2
      have hks : Kn.take (k + 1) = Kn.take k ++ [Kn.getD k r0] := by rw [List.take_add_one]; simp [List.getD, hlt]
      have HC := Lib.hid (fun w' (hb : Below w.heap.size w w') => ireadingtext_any (Kn.getD k r0) w' (tab_below HT.out hb))
      have HXN := Lib.hid (show strV ((Kn.take k).map rtL) ++ [.string (rtB (Kn.getD k r0))] = strV ((Kn.take (k + 1)).map rtL) from by
        rw [hks, List.map_append]; unfold strV; rw [List.map_append, List.map_singleton, List.map_singleton]; show _ = _ ++ [Value.string (tB (rtB (Kn.getD k r0)).data.toList)]; rw [tB_dataT])
      clear hcs hc tr hks hkc hwc hbr hxw
      generalize strV ((Kn.take k).map rtL) = V1 at *
      generalize hr : Kn.getD k r0 = r at *
      obtain ⟨⟨p, q⟩, yy⟩ := r
      unfold rv at HC
      dsimp only at *
      clear hr
      generalize rtB ((p, q), yy) = Y at *
      have HOW := Lib.hid hown
      clear hown
      go_upto_region 5 with (fail)
      have hr5 := heap_alloc_new wz (.cells #[.int .i64 p, .int .i64 q, .string yy] 41)
      have HO5 := Lib.hid (own_below HOW.out ((Below.refl wz.heap.size wz).alloc (Nat.le_refl _) (.cells #[.int .i64 p, .int .i64 q, .string yy] 41)))
      have HB5 := Lib.hid (HBR.out.alloc HBR.out.size (.cells #[.int .i64 p, .int .i64 q, .string yy] 41))
      clear d0 d1 d2 HOW HBR
      generalize wz.alloc (.cells #[.int .i64 p, .int .i64 q, .string yy] 41) = w5 at *
      generalize wz.heap.size = b5 at *
      have f0 : w5.cell? ⟨b5, 0, none⟩ = some (.int .i64 p) := by rw [cell_of_row _ _ 0 _ _ _ hr5]; rfl
      have f1 : w5.cell? ⟨b5, 1, none⟩ = some (.int .i64 q) := by rw [cell_of_row _ _ 1 _ _ _ hr5]; rfl
      have f2 : w5.cell? ⟨b5, 2, none⟩ = some (.string yy) := by rw [cell_of_row _ _ 2 _ _ _ hr5]; rfl
      clear hr5
      go_wp2_with fail
      refine (HC.out _ (HB.out.trans (HB5.out.mono HB.out.size))).mono ?_
      rintro e w6 ⟨rfl, hb6⟩
      have hown6 := own_below HO5.out hb6
      have HB6 := Lib.hid (HB5.out.trans (hb6.mono HB5.out.size))
      have hz6 := HB6.out.size
      clear hb6 HB5 HO5 f0 f1 f2
      go_wp2_with (at_builtin; refine wpList_append_own _ rfl (.tmp 22) (.tmp 25) 49 rfl W.heap.size 9 i0 (.string ByteArray.empty) 1 16 Tryd.underlying49 hi hz0 hz1 hz2 rfl (by decide) _ _ _ rfl (hown6.alloc _) ⟨w6.heap.size, 0, none⟩ 1 1 [.string Y] rfl rfl (cell_one_new _ _ _) (by intro u hu; simp at hu; subst hu; rfl) (by unfold maxLen; omega) (by omega) (by simp; omega) ?_; intro v' w7 hown' hgrow _)
      have R : w7.ownsRow W.heap.size 9 1 v' (k + 1) (strV ((Kn.take (k + 1)).map rtL)) ∧ Below W.heap.size W w7 := by
        refine ⟨?_, (HB6.out.alloc HB6.out.size _).grown hgrow (by have := HB6.out.size; simp; omega) (fun g hg => (hown6.lt g hg).1)⟩
        rw [← HXN.out]
        exact hown'
      clear hown' hgrow hown6 hz6
      go_wp2
      go_roundw
      case rel => exact ⟨k + 1, _, _, by omega, by go_num, rfl, rfl, R.1, R.2⟩
      case measure => simp [intOf]; omega
    · obtain rfl : k = Kn.length := by omega
      rw [List.take_length] at hown
      have HO1 := Lib.hid (show wz.ownsRow W.heap.size 9 1 v (Kn.map rtL).length (strV (Kn.map rtL)) from by rw [List.length_map]; exact hown)
      have HB1 := Lib.hid hbr
      have hl0 := hbr.size
      obtain ⟨x0, x1, x2, x3, x4, x5⟩ := row6T ((hbr.block _ (Array.getElem?_eq_some_iff.1 HX.out).1).trans HX.out)
      have HXZ := Lib.hid ((hbr.block _ (Array.getElem?_eq_some_iff.1 HX.out).1).trans HX.out)
      clear hown hbr HBR hkc
      obtain ⟨W3, hmk, hown0, hgr0⟩ := run_make_own (P := Tryd.prog) wz wz.heap.size 49 9 i0 (.string ⟨#[]⟩) 1 Tryd.underlying49 hi hz0 hz1 .i64 .i64 Wd.length (by rw [hz2]; omega) (by unfold maxLen; omega) (Nat.le_refl _)
      have hb0 : Below wz.heap.size wz W3 := (Below.refl wz.heap.size wz).grown hgr0 (Nat.le_refl _) (fun k e => by cases e)
      go_upto_region 8 with (fail)
      clear hmk hgr0 x0 x1 x2 x3 x4 x5
      obtain ⟨x0, x1, x2, x3, x4, x5⟩ := row6T ((hb0.block _ (Array.getElem?_eq_some_iff.1 HXZ.out).1).trans HXZ.out)
      go_wp2_with fail
      clear x0 x1 x2 x3 x4 x5
      go_loopw [6, 35] (fun v i wr => ∃ (k : Nat) (v0 : Value) (wq : World), k ≤ Wd.length ∧ i = .int .i64 k ∧ v0 = v ∧ wq = wr ∧ wq.ownsRow wz.heap.size 9 1 v0 k (strV ((Wd.take k).map cdL)) ∧ Below wz.heap.size wz wq)
        (fun _ i _ => Wd.length - (intOf i).toNat)
      case atStart => exact ⟨0, _, _, Nat.zero_le _, rfl, rfl, rfl, hown0, hb0⟩
      case round =>
        obtain ⟨k, v2, wq, hkl, rfl, rfl, hwq, hown, hbr⟩ := hrel
        subst hwq
        clear hown0 hb0
        have HBR := Lib.hid hbr
        by_cases hlt : k < Wd.length
        · obtain ⟨g, off, rfl, hg, hcs⟩ := hwc.resolve_left (by omega)
          obtain ⟨u9, q1, q2, q3⟩ := hcs k hlt
          have z0 : (0 : Int) ≤ (k : Int) := by omega
          have z1 : (k : Int) < (Wd.length : Int) := by omega
          have hWQ := Lib.hid (HB.out.trans ((HB1.out.trans (hbr.mono HB1.out.size)).mono HB.out.size))
          have d0 := (hWQ.out.cell (p := ⟨g, off + k * 2, none⟩) hg).trans q1
          have d1 := (hWQ.out.cell (p := ⟨g, off + k * 2 + 1, none⟩) hg).trans q2
          have hxm : Wd.getD k blankC ∈ Wd := by rw [List.getD, List.getElem?_eq_getElem hlt]; exact List.getElem_mem hlt
          have hxl := hxw _ hxm
          have hks : Wd.take (k + 1) = Wd.take k ++ [Wd.getD k blankC] := by rw [List.take_add_one]; simp [List.getD, hlt]
          have HC := Lib.hid (fun w' (hb : Below w.heap.size w w') => icodetext_any u9 (Wd.getD k blankC).1 (Wd.getD k blankC).2 w' (keysAt_below q3.to hb) hxl (tab_below HT.out hb))
          have HXN := Lib.hid (show strV ((Wd.take k).map cdL) ++ [.string (cdT (Wd.getD k blankC))] = strV ((Wd.take (k + 1)).map cdL) from by
            rw [hks, List.map_append]; unfold strV; rw [List.map_append, List.map_singleton, List.map_singleton]; show _ = _ ++ [Value.string (tB (cdT (Wd.getD k blankC)).data.toList)]; rw [tB_dataT])
          obtain ⟨a9, c9, rfl, -, -⟩ := q3.to
          clear hcs q1 q2 q3 hks hwc hbr hxw hxm hxl
          generalize strV ((Wd.take k).map cdL) = V1 at *
          generalize hr : Wd.getD k blankC = r at *
          obtain ⟨ks, yy⟩ := r
          dsimp only at *
          clear hr
          generalize cdT (ks, yy) = Y at *
          have HOW := Lib.hid hown
          clear hown
          go_upto_region 11 with (fail)
          have hr5 := heap_alloc_new wq (.cells #[.slice a9 ks.length c9, .string yy] 45)
          have HO5 := Lib.hid (own_below HOW.out ((Below.refl wq.heap.size wq).alloc (Nat.le_refl _) (.cells #[.slice a9 ks.length c9, .string yy] 45)))
          have HB5 := Lib.hid (HBR.out.alloc HBR.out.size (.cells #[.slice a9 ks.length c9, .string yy] 45))
          clear d0 d1 HOW HBR hWQ
          generalize wq.alloc (.cells #[.slice a9 ks.length c9, .string yy] 45) = w5 at *
          generalize wq.heap.size = b5 at *
          have f0 : w5.cell? ⟨b5, 0, none⟩ = some (.slice a9 ks.length c9) := by rw [cell_of_row _ _ 0 _ _ _ hr5]; rfl
          have f1 : w5.cell? ⟨b5, 1, none⟩ = some (.string yy) := by rw [cell_of_row _ _ 1 _ _ _ hr5]; rfl
          clear hr5
          go_wp2_with fail
          refine (HC.out _ (HB.out.trans ((HB1.out.trans (HB5.out.mono HB1.out.size)).mono HB.out.size))).mono ?_
          rintro e w6 ⟨rfl, hb6⟩
          have hown6 := own_below HO5.out hb6
          have HB6 := Lib.hid (HB5.out.trans (hb6.mono HB5.out.size))
          have hz6 := HB6.out.size
          clear hb6 HB5 HO5 f0 f1
          go_wp2_with (at_builtin; refine wpList_append_own _ rfl (.tmp 39) (.tmp 42) 49 rfl wz.heap.size 9 i0 (.string ByteArray.empty) 1 16 Tryd.underlying49 hi hz0 hz1 hz2 rfl (by decide) _ _ _ rfl (hown6.alloc _) ⟨w6.heap.size, 0, none⟩ 1 1 [.string Y] rfl rfl (cell_one_new _ _ _) (by intro u hu; simp at hu; subst hu; rfl) (by unfold maxLen; omega) (by omega) (by simp; omega) ?_; intro v' w7 hown' hgrow _)
          have R : w7.ownsRow wz.heap.size 9 1 v' (k + 1) (strV ((Wd.take (k + 1)).map cdL)) ∧ Below wz.heap.size wz w7 := by
            refine ⟨?_, (HB6.out.alloc HB6.out.size _).grown hgrow (by have := HB6.out.size; simp; omega) (fun g hg => (hown6.lt g hg).1)⟩
            rw [← HXN.out]
            exact hown'
          clear hown' hgrow hown6 hz6
          go_wp2
          go_roundw
          case rel => exact ⟨k + 1, _, _, by omega, by go_num, rfl, rfl, R.1, R.2⟩
          case measure => simp [intOf]; omega
        · obtain rfl : k = Wd.length := by omega
          rw [List.take_length] at hown
          have HO2 := Lib.hid (show wq.ownsRow wz.heap.size 9 1 v2 (Wd.map cdL).length (strV (Wd.map cdL)) from by rw [List.length_map]; exact hown)
          have HO1q := Lib.hid (own_below HO1.out hbr)
          have HBQ := Lib.hid (HB.out.trans ((HB1.out.trans (hbr.mono HB1.out.size)).mono HB.out.size))
          obtain ⟨x0, x1, x2, x3, x4, x5⟩ := row6T ((hbr.block _ (Array.getElem?_eq_some_iff.1 HXZ.out).1).trans HXZ.out)
          have hwlt : w.heap.size < wq.heap.size := (Array.getElem?_eq_some_iff.1 ((hbr.block _ (Array.getElem?_eq_some_iff.1 HXZ.out).1).trans HXZ.out)).1
          have hn1 : (Kn.map rtL).length ≤ 2000000 := by rw [List.length_map]; omega
          have hn2 : (Wd.map cdL).length ≤ 2000000 := by rw [List.length_map]; omega
          have hl3 : (Lib.itoa sa).length + (Lib.itoa lo).length + (Lib.itoa ba).length ≤ 1000 := by have h1 := itoaB_len sa hs1.1 hs1.2; have h2 := itoaB_len lo hs2.1 hs2.2; have h3 := itoaB_len ba hs3.1 hs3.2; omega
          have HD1 := Lib.hid (fun w' (hb : Below w.heap.size w w') => show Calls Tryd.prog 18 #[.int .i64 sa] w' fun e w2 => e = .returned (.string (tB (Lib.itoa sa))) ∧ Below w'.heap.size w' w2 from idec_any sa w' hs1.1 hs1.2 (tab_below HT.out hb))
          have HD2 := Lib.hid (fun w' (hb : Below w.heap.size w w') => show Calls Tryd.prog 18 #[.int .i64 lo] w' fun e w2 => e = .returned (.string (tB (Lib.itoa lo))) ∧ Below w'.heap.size w' w2 from idec_any lo w' hs2.1 hs2.2 (tab_below HT.out hb))
          have HD3 := Lib.hid (fun w' (hb : Below w.heap.size w w') => show Calls Tryd.prog 18 #[.int .i64 ba] w' fun e w2 => e = .returned (.string (tB (Lib.itoa ba))) ∧ Below w'.heap.size w' w2 from idec_any ba w' hs3.1 hs3.2 (tab_below HT.out hb))
          have LI3 : ∀ wx : World, Below wq.heap.size wq wx → (loadVar 3 ⟨w.heap.size, 3, none⟩).run Tryd.prog wx = .ok (.int .i64 sa) wx := fun wx hb => ld_intT ((hb.cell (p := ⟨w.heap.size, 3, none⟩) hwlt).trans x3)
          have LI4 : ∀ wx : World, Below wq.heap.size wq wx → (loadVar 3 ⟨w.heap.size, 4, none⟩).run Tryd.prog wx = .ok (.int .i64 lo) wx := fun wx hb => ld_intT ((hb.cell (p := ⟨w.heap.size, 4, none⟩) hwlt).trans x4)
          have LI5 : ∀ wx : World, Below wq.heap.size wq wx → (loadVar 3 ⟨w.heap.size, 5, none⟩).run Tryd.prog wx = .ok (.int .i64 ba) wx := fun wx hb => ld_intT ((hb.cell (p := ⟨w.heap.size, 5, none⟩) hwlt).trans x5)
          clear hown hwc hxw hbr x0 x1 x2 x3 x4 x5 hs1 hs2 hs3 HBR HX HXZ
          go_upto_region 13 with (fail)
          have HBC := Lib.hid (Below.refl wq.heap.size wq).drew
          refine wp_region_G (fun wx => Below wq.heap.size wq wx) (by kernel_rfl) ?_
          refine wpG_seg [true, true, false, true, true, false, true, true] [2] 4 (by kernel_rfl) (by intro c a d v w h; cases d <;> exact h) (by kernel_rfl) HBC.out ?_
          try simp only [maskRows]
          repeat (first
            | go_big_quiet_skip
            | (go_big_quiet_want
               first
                 | (go_big_quiet_op; go_big_quiet_on)
                 | (refine q_load 3 _ _ _ rfl rfl LI3 ?_; simp only [Act.put, List.setIfInBounds_toArray, List.set_cons_zero, List.set_cons_succ]; go_big_quiet_on)
                 | (refine q_load 3 _ _ _ rfl rfl LI4 ?_; simp only [Act.put, List.setIfInBounds_toArray, List.set_cons_zero, List.set_cons_succ]; go_big_quiet_on)
                 | (refine q_load 3 _ _ _ rfl rfl LI5 ?_; simp only [Act.put, List.setIfInBounds_toArray, List.set_cons_zero, List.set_cons_succ]; go_big_quiet_on)
                 | (go_big_quiet_op; refine ⟨_, fun _ _ => rfl, ?_⟩; go_big_quiet_on)
                 | (go_big_quiet_op; refine ⟨_, fun _ _ _ => rfl, ?_⟩; go_big_quiet_on)
                 | (go_big_quiet_op; refine ⟨_, fun _ _ _ _ => rfl, ?_⟩; go_big_quiet_on)))
          refine wpQuiet_nil ?_
          refine List.forall_mem_singleton.2 ?_
          refine segt_run rfl (by rfl) (fun K hK => ?_)
          go_simp
          refine (HD1.out _ (HBQ.out.trans (HBC.out.mono HBQ.out.size))).mono ?_
          rintro e wd1 ⟨rfl, hbd⟩
          dsimp only
          replace HBC := Lib.hid (HBC.out.trans (hbd.mono HBC.out.size))
          clear hbd
          refine hK _ _ ⟨_, fun _ h => h, HBC.out, ?_⟩
          clear hK K
          try simp only [Act.put, List.setIfInBounds_toArray, List.set_cons_zero, List.set_cons_succ]
          refine wpG_seg [] [5] 3 (by kernel_rfl) (by intro c a d v w h; cases d <;> exact h) (by kernel_rfl) HBC.out ?_
          try simp only [maskRows]
          refine wpQuiet_nil ?_
          refine List.forall_mem_singleton.2 ?_
          refine segt_run rfl (by rfl) (fun K hK => ?_)
          go_simp
          refine (HD2.out _ (HBQ.out.trans (HBC.out.mono HBQ.out.size))).mono ?_
          rintro e wd2 ⟨rfl, hbd⟩
          dsimp only
          replace HBC := Lib.hid (HBC.out.trans (hbd.mono HBC.out.size))
          clear hbd
          refine hK _ _ ⟨_, fun _ h => h, HBC.out, ?_⟩
          clear hK K
          try simp only [Act.put, List.setIfInBounds_toArray, List.set_cons_zero, List.set_cons_succ]
          refine wpG_seg [] [8] 2 (by kernel_rfl) (by intro c a d v w h; cases d <;> exact h) (by kernel_rfl) HBC.out ?_
          try simp only [maskRows]
          refine wpQuiet_nil ?_
          refine List.forall_mem_singleton.2 ?_
          refine segt_run rfl (by rfl) (fun K hK => ?_)
          go_simp
          refine (HD3.out _ (HBQ.out.trans (HBC.out.mono HBQ.out.size))).mono ?_
          rintro e wd3 ⟨rfl, hbd⟩
          dsimp only
          replace HBC := Lib.hid (HBC.out.trans (hbd.mono HBC.out.size))
          clear hbd
          refine hK _ _ ⟨_, fun _ h => h, HBC.out, ?_⟩
          clear hK K
          try simp only [Act.put, List.setIfInBounds_toArray, List.set_cons_zero, List.set_cons_succ]
          refine wpG_seg [] [9] 1 (by kernel_rfl) (by intro c a d v w h; cases d <;> exact h) (by kernel_rfl) HBC.out ?_
          try simp only [maskRows]
          refine wpQuiet_nil ?_
          refine List.forall_mem_singleton.2 ?_
          refine segt_run rfl (by rfl) (fun K hK => ?_)
          go_simp
          have HR9 := Lib.hid (heap_alloc_new wd3 (.cells #[.string (tB (Lib.itoa sa)), .string (tB (Lib.itoa lo)), .string (tB (Lib.itoa ba))] 9))
          replace HBC := Lib.hid (HBC.out.alloc HBC.out.size (.cells #[.string (tB (Lib.itoa sa)), .string (tB (Lib.itoa lo)), .string (tB (Lib.itoa ba))] 9))
          refine hK _ _ ⟨_, fun _ h => h, HBC.out, ?_⟩
          clear hK K
          try simp only [Act.put, List.setIfInBounds_toArray, List.set_cons_zero, List.set_cons_succ]
          refine wpG_end [false, false, false, false, false, false, false, false, false, false, true] (by kernel_rfl) (by intro c a d v w h; cases d <;> exact h) (by kernel_rfl) HBC.out ?_
          try simp only [maskRows]
          repeat (first
            | go_big_quiet_skip
            | (go_big_quiet_want
               first
                 | (go_big_quiet_op; go_big_quiet_on)
                 | (refine q_load 3 _ _ _ rfl rfl LI3 ?_; simp only [Act.put, List.setIfInBounds_toArray, List.set_cons_zero, List.set_cons_succ]; go_big_quiet_on)
                 | (refine q_load 3 _ _ _ rfl rfl LI4 ?_; simp only [Act.put, List.setIfInBounds_toArray, List.set_cons_zero, List.set_cons_succ]; go_big_quiet_on)
                 | (refine q_load 3 _ _ _ rfl rfl LI5 ?_; simp only [Act.put, List.setIfInBounds_toArray, List.set_cons_zero, List.set_cons_succ]; go_big_quiet_on)
                 | (go_big_quiet_op; refine ⟨_, fun _ _ => rfl, ?_⟩; go_big_quiet_on)
                 | (go_big_quiet_op; refine ⟨_, fun _ _ _ => rfl, ?_⟩; go_big_quiet_on)
                 | (go_big_quiet_op; refine ⟨_, fun _ _ _ _ => rfl, ?_⟩; go_big_quiet_on)))
          refine wpQuiet_nil ?_
          clear LI3 LI4 LI5 HD1 HD2 HD3
          generalize wd3.alloc (.cells #[.string (tB (Lib.itoa sa)), .string (tB (Lib.itoa lo)), .string (tB (Lib.itoa ba))] 9) = w9 at *
          generalize wd3.heap.size = b9 at *
          have HA := Lib.hid (own_below HO1q.out HBC.out)
          have HBB := Lib.hid (own_below HO2.out HBC.out)
          have HBN := Lib.hid (HBQ.out.trans (HBC.out.mono HBQ.out.size))
          clear HO1q HO2 HBC HBQ HB HB1 HO1
          go_wp2_with fail
          refine (join_own _ v (Kn.map rtL) _ HA.out hn1 (by have := HLE.out.1; omega)).mono ?_
          rintro e wA ⟨rfl, hbA⟩
          have HBB2 := Lib.hid (own_below HBB.out hbA)
          have HR10 := Lib.hid ((hbA.block _ (Array.getElem?_eq_some_iff.1 HR9.out).1).trans HR9.out)
          have HBA := Lib.hid (HBN.out.trans (hbA.mono HBN.out.size))
          clear hbA HA HBB HR9 HBN
          go_wp2_with fail
          refine (join_own _ v2 (Wd.map cdL) _ HBB2.out hn2 (by have := HLE.out.2; omega)).mono ?_
          rintro e wB ⟨rfl, hbB⟩
          have HR11 := Lib.hid ((hbB.block _ (Array.getElem?_eq_some_iff.1 HR10.out).1).trans HR10.out)
          have HBBB := Lib.hid (HBA.out.trans (hbB.mono HBA.out.size))
          clear hbB HBB2 HR10 HBA
          go_wp2_with fail
          refine (join_three1 (Lib.itoa sa) (Lib.itoa lo) (Lib.itoa ba) b9 3 _ HR11.out (Nat.le_refl _) (by omega)).mono ?_
          rintro e wC ⟨rfl, hbC⟩
          have HBCC := Lib.hid (HBBB.out.trans (hbC.mono HBBB.out.size))
          clear hbC HR11 HBBB
          have hj3 := jn_len [Lib.itoa sa, Lib.itoa lo, Lib.itoa ba] 1000 (fun x hx => by
            simp only [List.mem_cons, List.not_mem_nil, or_false] at hx
            rcases hx with rfl | rfl | rfl <;> omega)
          have HSL := Lib.hid (show Lib.join [jn (Kn.map rtL), jn (Wd.map cdL), jn [Lib.itoa sa, Lib.itoa lo, Lib.itoa ba]] [32, 124, 32] = sinkL ⟨mo, Kn, Wd, sa, lo, ba⟩ from rfl)
          have hlA := HLE.out.1
          have hlB := HLE.out.2
          clear HLE hl3
          generalize jn (Kn.map rtL) = jA at *
          generalize jn (Wd.map cdL) = jB at *
          have hj3' : (jn [Lib.itoa sa, Lib.itoa lo, Lib.itoa ba]).length ≤ 3003 := hj3
          clear hj3
          generalize jn [Lib.itoa sa, Lib.itoa lo, Lib.itoa ba] = jC at *
          go_upto_region 15 with (fail)
          have HR12 := Lib.hid (heap_alloc_new wC (.cells #[.string (tB jA), .string (tB jB), .string (tB jC)] 9))
          have HBD := Lib.hid (HBCC.out.alloc HBCC.out.size (.cells #[.string (tB jA), .string (tB jB), .string (tB jC)] 9))
          go_wp2_with fail
          refine (join_three jA jB jC wC.heap.size 3 _ HR12.out (Nat.le_refl _) (by omega)).mono ?_
          rintro e wD ⟨rfl, hbD⟩
          rw [HSL.out]
          have HBE := Lib.hid (HBD.out.trans (hbD.mono HBD.out.size))
          go_wp2
          go_ret
          exact ⟨rfl, HBE.out⟩
end Go.Proofs.YtadjmfhhpkjpaaaDoor
namespace Go.Proofs.YtadjmfhhpkjpaaaDoor
open Go.ChangeShapes Go.WideShapes Go.ChangeAt Go.RowKit Go.BigFrame
set_option linter.unusedVariables false
set_option linter.unusedSimpArgs false

theorem SnIn.belowT {w w' : World} {s : Snk} {vk vw : Value} (h : SnIn w s vk vw) (hb : Below w.heap.size w w') : SnIn w' s vk vw :=
  ⟨rdAt_below h.known hb, cdAv_below h.wait hb, h.nk, h.xk, h.nw, h.xw, h.most, h.same, h.lost, h.bad⟩
theorem sn_loadLT {W w' : World} {b : Nat} {v0 v1 v2 v3 v4 v5 : Value} (h : W.heap[b]? = some (.cells #[v0, v1, v2, v3, v4, v5] 25 (0, 0))) (hb : Below W.heap.size W w') : (loadVar 25 ⟨b, 0, none⟩).run Tryd.prog w' = .ok (.agg #[v0, v1, v2, v3, v4, v5]) w' :=
  run_loadVar_row (P := Tryd.prog) w' b 25 25 #[v0, v1, v2, v3, v4, v5] (0, 0) _ ((hb.block _ (Array.getElem?_eq_some_iff.1 h).1).trans h) Tryd.underlying25 rfl (by kernel_rfl)
theorem sn_loadIT {W w' : World} {b : Nat} {v0 v1 v2 v3 v4 v5 : Value} (h : W.heap[b]? = some (.cells #[v0, v1, v2, v3, v4, v5] 31 (0, 0))) (hb : Below W.heap.size W w') : (loadVar 31 ⟨b, 0, none⟩).run Tryd.prog w' = .ok (.agg #[v0, v1, v2, v3, v4, v5]) w' :=
  sn_load ((hb.block _ (Array.getElem?_eq_some_iff.1 h).1).trans h)
set_option maxRecDepth 100000 in
set_option maxHeartbeats 4000000 in
theorem exsinktext_walk (s : Snk) (vk vw : Value) (w : World) (h : SnIn w s vk vw) (hT : Lib.TabIs Tryd.prog w "internal/strconv.uint64pow10" IntKind.u64 Lib.pow10Tab) :
    Calls Tryd.prog 3 #[snV s vk vw] w fun e w' => e = .returned (.bool true) ∧ Below w.heap.size w w' := by
  have HSZ := Lib.hid (fun wx (hb : Below w.heap.size w wx) => szsink_any s vk vw 1048576 wx (h.belowT hb) ⟨by omega, by omega⟩)
  have h1 := h.known
  have h2 := h.wait
  have HTO := Lib.hid (fun wx (hb : Below w.heap.size w wx) (a : s.known.length ≤ 1900000) (b : s.wait.length ≤ 1900000) (c : ∀ x ∈ s.wait, x.1.length ≤ 1900000) => tosink_any s vk vw wx (rdAt_below h1 hb) (cdAv_below h2 hb) a b c)
  have hq1 := bounds_i64 h.same
  have hq2 := bounds_i64 h.lost
  have hq3 := bounds_i64 h.bad
  clear h
  have HSS := Lib.hid (fun ka va wx (h1 : rdAt wx ka s.known) (h2 : cdAv wx none va s.wait) (a : s.known.length ≤ 1048576) (b : s.wait.length ≤ 1048576) (c : ∀ x ∈ s.wait, x.1.length ≤ 1048576) => ssinktext_any s.most s.same s.lost s.bad s.known s.wait ka va wx h1 h2 a b (fun x hx => by have := c x hx; omega) hq1 hq2 hq3)
  have HIS := Lib.hid (fun ka va wx (hb : Below w.heap.size w wx) (h1 : rdAt wx ka s.known) (h2 : cdAv wx none va s.wait) (a : s.known.length ≤ 1048576) (b : s.wait.length ≤ 1048576) (c : ∀ x ∈ s.wait, x.1.length ≤ 1048576) => isinktext_any s.most s.same s.lost s.bad s.known s.wait ka va wx h1 h2 a b (fun x hx => by have := c x hx; omega) hq1 hq2 hq3 (tab_below hT hb))
  have HEQ := Lib.hid (fun ka va kb vb wx (h1 : rdAt wx ka s.known) (h1' : rdAt wx kb s.known) (h2 : cdAv wx none va s.wait) (h2' : cdAv wx none vb s.wait) => eqsink_self s ka va kb vb wx h1 h1' h2 h2')
  clear hT hq1 hq2 hq3
  obtain ⟨mo, kn, wa, sa, lo, ba⟩ := s
  have hvk := rd_shape h1
  obtain ⟨aw, cw, rfl, -, -⟩ := h2
  obtain ⟨ak, ck, rfl⟩ := hvk
  clear h1
  unfold toV snV at *
  dsimp only at *
  generalize tB (sinkL ⟨mo, kn, wa, sa, lo, ba⟩) = TT at *
  have hb0 := (Below.refl w.heap.size w).alloc (Nat.le_refl _) (.cells #[.int .i64 mo, .slice ak kn.length ck, .slice aw wa.length cw, .int .i64 sa, .int .i64 lo, .int .i64 ba] 25)
  have HX := Lib.hid (heap_alloc_new w (.cells #[.int .i64 mo, .slice ak kn.length ck, .slice aw wa.length cw, .int .i64 sa, .int .i64 lo, .int .i64 ba] 25))
  have HB := Lib.hid hb0
  clear hb0
  go_enter Tryd.func3, Tryd.ntmps3
  go_upto_region 1 with (fail)
  generalize w.alloc (.cells #[.int .i64 mo, .slice ak kn.length ck, .slice aw wa.length cw, .int .i64 sa, .int .i64 lo, .int .i64 ba] 25) = W at *
  obtain ⟨⟨x0, x1, x2, x3, x4, x5⟩, -⟩ := row6_of HX.out
  go_wp2_with fail
  refine (HSZ.out _ HB.out).mono ?_
  rintro e w1 ⟨z, rfl, hz, hb1⟩
  have HB1 := Lib.hid (HB.out.trans (hb1.mono HB.out.size))
  have HX1 := Lib.hid ((hb1.block _ (Array.getElem?_eq_some_iff.1 HX.out).1).trans HX.out)
  clear x0 x1 x2 x3 x4 x5 hb1 HSZ
  by_cases hneg : z < 0
  · go_wp2
    go_ret
    exact ⟨rfl, HB1.out⟩
  · obtain ⟨k1, k2, k3, k4, k5⟩ := hz.resolve_left hneg
    have l1 : kn.length ≤ 1048576 := by omega
    have l2 : wa.length ≤ 1048576 := by omega
    have L3 := Lib.hid (show ∀ x ∈ wa, x.1.length ≤ 1048576 from fun x hx => by have := (k4 x hx).1; omega)
    clear k1 k2 k3 k4 k5 hz
    obtain ⟨⟨x0, x1, x2, x3, x4, x5⟩, -⟩ := row6_of HX1.out
    go_wp2_with fail
    refine (HTO.out _ HB1.out (by omega) (by omega) (fun x hx => by have := L3.out x hx; omega)).mono ?_
    rintro e w2 ⟨gk, gw, us, rfl, hT⟩
    have HB2 := Lib.hid (HB1.out.trans (hT.wait.below.mono HB1.out.size))
    have HX2 := Lib.hid ((hT.wait.below.block _ (Array.getElem?_eq_some_iff.1 HX1.out).1).trans HX1.out)
    have HT := Lib.hid (And.intro hT.rd hT.wait.at)
    clear x0 x1 x2 x3 x4 x5 hT
    go_wp2_with fail
    refine (HSS.out _ _ _ HT.out.1 HT.out.2 l1 l2 L3.out).mono ?_
    rintro e w3 ⟨rfl, hb3⟩
    have HB3 := Lib.hid (HB2.out.trans (hb3.mono HB2.out.size))
    have HX3 := Lib.hid ((hb3.block _ (Array.getElem?_eq_some_iff.1 HX2.out).1).trans HX2.out)
    clear hb3 HT HSS
    obtain ⟨⟨x0, x1, x2, x3, x4, x5⟩, -⟩ := row6_of HX3.out
    go_wp2_with fail
    refine (HTO.out _ HB3.out (by omega) (by omega) (fun x hx => by have := L3.out x hx; omega)).mono ?_
    rintro e w4 ⟨gk4, gw4, us4, rfl, hT⟩
    have HB4 := Lib.hid (HB3.out.trans (hT.wait.below.mono HB3.out.size))
    have HX4 := Lib.hid ((hT.wait.below.block _ (Array.getElem?_eq_some_iff.1 HX3.out).1).trans HX3.out)
    have HT4 := Lib.hid hT
    clear x0 x1 x2 x3 x4 x5 hT
    have hba := (Below.refl w4.heap.size w4).alloc (Nat.le_refl _) (.cells #[.int .i64 mo, .slice (some ⟨gk4, 0, none⟩) kn.length kn.length, .slice (some ⟨gw4, 0, none⟩) wa.length wa.length, .int .i64 sa, .int .i64 lo, .int .i64 ba] 31)
    have HY := Lib.hid (heap_alloc_new w4 (.cells #[.int .i64 mo, .slice (some ⟨gk4, 0, none⟩) kn.length kn.length, .slice (some ⟨gw4, 0, none⟩) wa.length wa.length, .int .i64 sa, .int .i64 lo, .int .i64 ba] 31))
    have HB5 := Lib.hid (HB4.out.trans (hba.mono HB4.out.size))
    have HX5 := Lib.hid ((hba.block _ (Array.getElem?_eq_some_iff.1 HX4.out).1).trans HX4.out)
    have HT5 := Lib.hid (HT4.out.next hba)
    clear hba
    go_upto_region 7 with (fail)
    generalize w4.alloc (.cells #[.int .i64 mo, .slice (some ⟨gk4, 0, none⟩) kn.length kn.length, .slice (some ⟨gw4, 0, none⟩) wa.length wa.length, .int .i64 sa, .int .i64 lo, .int .i64 ba] 31) = W5 at *
    obtain ⟨⟨y0, y1, y2, y3, y4, y5⟩, -⟩ := row6_of HY.out
    go_wp2_with fail
    refine (HIS.out _ _ _ HB5.out HT5.out.rd HT5.out.wait.at l1 l2 L3.out).mono ?_
    rintro e w6 ⟨rfl, hb6⟩
    have HB6 := Lib.hid (HB5.out.trans (hb6.mono HB5.out.size))
    have HX6 := Lib.hid ((hb6.block _ (Array.getElem?_eq_some_iff.1 HX5.out).1).trans HX5.out)
    have HY6 := Lib.hid ((hb6.block _ (Array.getElem?_eq_some_iff.1 HY.out).1).trans HY.out)
    have HT6 := Lib.hid (HT5.out.next hb6)
    clear hb6 y0 y1 y2 y3 y4 y5 HY HT4 HT5 HIS
    have e1 : (TT.toList != TT.toList) = false := by unfold bne; rw [beq_self_eq_true]; rfl
    have LX : ∀ w', Below w6.heap.size w6 w' → (loadVar 25 ⟨w.heap.size, 0, none⟩).run Tryd.prog w' = .ok (.agg #[.int .i64 mo, .slice ak kn.length ck, .slice aw wa.length cw, .int .i64 sa, .int .i64 lo, .int .i64 ba]) w' := fun w' hb => sn_loadLT HX6.out hb
    have LY : ∀ w', Below w6.heap.size w6 w' → (loadVar 31 ⟨w4.heap.size, 0, none⟩).run Tryd.prog w' = .ok (.agg #[.int .i64 mo, .slice (some ⟨gk4, 0, none⟩) kn.length kn.length, .slice (some ⟨gw4, 0, none⟩) wa.length wa.length, .int .i64 sa, .int .i64 lo, .int .i64 ba]) w' := fun w' hb => sn_loadIT HY6.out hb
    have HBC := Lib.hid (Below.refl w6.heap.size w6).drew
    go_upto_region 10 with (fail)
    refine wp_region_G (fun wx => Below w6.heap.size w6 wx) (by kernel_rfl) ?_
    refine wpG_seg [true, true] [2] 2 (by kernel_rfl) (by intro c a d v w h; cases d <;> exact h) (by kernel_rfl) HBC.out ?_
    try simp only [maskRows]
    repeat (first
      | go_big_quiet_skip
      | (go_big_quiet_want
         first
           | (go_big_quiet_op; go_big_quiet_on)
           | (refine q_load 25 _ _ _ rfl rfl LX ?_; simp only [Act.put, List.setIfInBounds_toArray, List.set_cons_zero, List.set_cons_succ]; go_big_quiet_on)
           | (refine q_load 31 _ _ _ rfl rfl LY ?_; simp only [Act.put, List.setIfInBounds_toArray, List.set_cons_zero, List.set_cons_succ]; go_big_quiet_on)
           | (go_big_quiet_op; refine ⟨_, fun _ _ => rfl, ?_⟩; go_big_quiet_on)
           | (go_big_quiet_op; refine ⟨_, fun _ _ _ => rfl, ?_⟩; go_big_quiet_on)))
    refine wpQuiet_nil ?_
    refine List.forall_mem_singleton.2 ?_
    refine segt_run rfl (by rfl) (fun K hK => ?_)
    go_simp
    refine (HTO.out _ (HB6.out.trans (HBC.out.mono HB6.out.size)) (by omega) (by omega) (fun x hx => by have := L3.out x hx; omega)).mono ?_
    rintro e w7 ⟨gk7, gw7, us7, rfl, hT⟩
    dsimp only
    have HT7 := Lib.hid (And.intro hT.rd hT.wait.at)
    have HT6b := Lib.hid (HT6.out.next (HBC.out.trans (hT.wait.below.mono HBC.out.size)))
    replace HBC := Lib.hid (HBC.out.trans (hT.wait.below.mono HBC.out.size))
    clear hT
    refine hK _ _ ⟨_, fun _ h => h, HBC.out, ?_⟩
    clear hK K
    try simp only [Act.put, List.setIfInBounds_toArray, List.set_cons_zero, List.set_cons_succ]
    refine wpG_seg [] [3] 1 (by kernel_rfl) (by intro c a d v w h; cases d <;> exact h) (by kernel_rfl) HBC.out ?_
    try simp only [maskRows]
    refine wpQuiet_nil ?_
    refine List.forall_mem_singleton.2 ?_
    refine segt_run rfl (by rfl) (fun K hK => ?_)
    go_simp
    refine (HEQ.out _ _ _ _ _ HT6b.out.rd HT7.out.1 HT6b.out.wait.at HT7.out.2 (by omega) (by omega) (fun x hx => by have := L3.out x hx; omega)).mono ?_
    rintro e w8 ⟨rfl, hb8⟩
    dsimp only
    replace HBC := Lib.hid (HBC.out.trans (hb8.mono HBC.out.size))
    clear hb8
    refine hK _ _ ⟨_, fun _ h => h, HBC.out, ?_⟩
    clear hK K
    try simp only [Act.put, List.setIfInBounds_toArray, List.set_cons_zero, List.set_cons_succ]
    refine wpG_end [false, false, false, false, true] (by kernel_rfl) (by intro c a d v w h; cases d <;> exact h) (by kernel_rfl) HBC.out ?_
    try simp only [maskRows]
    repeat (first
      | go_big_quiet_skip
      | (go_big_quiet_want
         first
           | (go_big_quiet_op; go_big_quiet_on)
           | (refine q_load 25 _ _ _ rfl rfl LX ?_; simp only [Act.put, List.setIfInBounds_toArray, List.set_cons_zero, List.set_cons_succ]; go_big_quiet_on)
           | (refine q_load 31 _ _ _ rfl rfl LY ?_; simp only [Act.put, List.setIfInBounds_toArray, List.set_cons_zero, List.set_cons_succ]; go_big_quiet_on)
           | (go_big_quiet_op; refine ⟨_, fun _ _ => rfl, ?_⟩; go_big_quiet_on)
           | (go_big_quiet_op; refine ⟨_, fun _ _ _ => rfl, ?_⟩; go_big_quiet_on)))
    refine wpQuiet_nil ?_
    clear LX LY
    have HB9 := Lib.hid (HB6.out.trans (HBC.out.mono HB6.out.size))
    go_wp2
    go_ret
    exact ⟨rfl, HB9.out⟩
end Go.Proofs.YtadjmfhhpkjpaaaDoor
