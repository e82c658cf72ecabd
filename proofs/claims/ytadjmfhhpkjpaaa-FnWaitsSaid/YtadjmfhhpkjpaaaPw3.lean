/- What the laws lean on (own lemmas and walks of the called functions). -/
import Derived.Test.YtadjmfhhpkjpaaaPw2
set_option linter.unusedVariables false
set_option linter.unusedSimpArgs false
namespace Go.Proofs.Ytadjmfhhpkjpaaa
open Go.ChangeShapes Go.WideShapes Go.ChangeAt Go.RowKit Go.BigFrame Go.Shelf
attribute [local go_sem] Oper.semAt_some
set_option linter.unusedVariables false

def rowA (y : ByteArray) : Array Value := (Lib.byteCells y.data.toList).toArray
theorem rowA_four (y : ByteArray) (h : y.size = 4) : ∃ p q r s : Int, rowA y = #[.int .u8 p, .int .u8 q, .int .u8 r, .int .u8 s] ∧ arr4 y = .agg #[.int .u8 p, .int .u8 q, .int .u8 r, .int .u8 s] := by
  obtain ⟨a, b, c, d, hd⟩ := four_bytes y h
  exact ⟨a.toNat, b.toNat, c.toNat, d.toNat, by unfold rowA; rw [hd]; rfl, by unfold arr4; rw [hd]; rfl⟩
theorem grown4 (w : World) (b : Nat) (p q r s : Value) : w.grownBy ((((w.setCell ⟨b, 0, none⟩ p).setCell ⟨b, 1, none⟩ q).setCell ⟨b, 2, none⟩ r).setCell ⟨b, 3, none⟩ s) (some b) :=
  grownT (grownT (grownT (Lib.grownBy_setCell w b 0 p) (Lib.grownBy_setCell _ b 1 q)) (Lib.grownBy_setCell _ b 2 r)) (Lib.grownBy_setCell _ b 3 s)
set_option maxRecDepth 100000 in
set_option maxHeartbeats 8000000 in
theorem ireduced_yes (vx : Value) (ks : List K2) (y : ByteArray) (vT : Value) (T : List R3) (w : World) (hx : keysAt w vx ks) (hT : rdAt w vT T) (hs : ks.length ≤ 1048576) (hsT : T.length ≤ 1048576) (hok : codeOkB (ks, y) = true) (hokT : rdsOkR T = true) :
    Calls Try.prog 40 #[.agg #[vx, .string y], vT] w fun e w' => ∃ v', e = .returned (.agg #[v', .string (accR T y ks)]) ∧ w'.ownsRow w.heap.size 43 2 v' (outK T ks).length (keyCells (outK T ks)) ∧ Below w.heap.size w w' := by
  refine (callsIn_wide (n := 9)).1 ?_
  obtain ⟨i0, hi, hz0, hz1, hz2⟩ := info_parts infoK
  have hy : y.size = 4 := ((codeOk_iff (ks, y)).1 hok).2.2.1
  have h4 : ∀ r ∈ T, r.2.size = 4 := rds_four hokT
  have hx0 := keysIn0_of hx
  have CX := Lib.hid (fun w' (hb : Below w.heap.size w w') => icodeok_any vx ks y w' (keysAt_below hx hb) (by omega))
  have CT := Lib.hid (fun w' (hb : Below w.heap.size w w') => ireadingsok_any vT T w' (rdAt_below hT hb) (by omega))
  have CL := Lib.hid (fun w' k (hb : Below w.heap.size w w') => iloadof_any vT T k w' (rdAt_below hT hb) (by omega) (fun r hr => by rw [h4 r hr]; omega))
  rw [hok] at CX
  rw [hokT] at CT
  have hb1 := (Below.refl w.heap.size w).alloc (Nat.le_refl _) (.cells #[vx, .string y] 30)
  have hb2 := hb1.alloc hb1.size (.cells #[vT] 24)
  have HB := Lib.hid (hb2.alloc hb2.size (.cells #[.slice none 0 0, .string ⟨#[]⟩] 30))
  have RX := Lib.hid ((Below.heap_alloc ((w.alloc (.cells #[vx, .string y] 30)).alloc (.cells #[vT] 24)) (.cells #[.slice none 0 0, .string ⟨#[]⟩] 30) w.heap.size (by simp; omega)).trans (heap_first w (.cells #[vT] 24) (.cells #[vx, .string y] 30)))
  have RT := Lib.hid (heap_mid w (.cells #[vx, .string y] 30) (.cells #[vT] 24) (.cells #[.slice none 0 0, .string ⟨#[]⟩] 30))
  have rr := heap_alloc_new ((w.alloc (.cells #[vx, .string y] 30)).alloc (.cells #[vT] 24)) (.cells #[.slice none 0 0, .string ⟨#[]⟩] 30)
  rw [show ((w.alloc (.cells #[vx, .string y] 30)).alloc (.cells #[vT] 24)).heap.size = w.heap.size + 2 by simp] at rr
  have RR := Lib.hid rr
  have hqz : w.heap.size + 3 ≤ (((w.alloc (.cells #[vx, .string y] 30)).alloc (.cells #[vT] 24)).alloc (.cells #[.slice none 0 0, .string ⟨#[]⟩] 30)).heap.size := by simp
  clear hb1 hb2 rr
  obtain ⟨ax, cx, rfl, -, -⟩ := hx
  obtain ⟨aT, cT, rfl, -, -⟩ := hT
  refine callsIn_of_wp_marks Try.func40 rfl trivial ?_ rfl
  simp only [Try.ntmps40, List.size_toArray, List.length_cons, List.length_nil, Nat.reduceAdd, Nat.reduceSub, Array.replicate_succ, Array.replicate_zero, List.push_toArray, List.append_toArray, List.nil_append, List.cons_append]
  obtain ⟨x0, x1, -, -⟩ := row2_of RX.out
  gi_wp2
  generalize (((w.alloc (.cells #[.slice ax ks.length cx, .string y] 30)).alloc (.cells #[.slice aT T.length cT] 24)).alloc (.cells #[.slice none 0 0, .string ⟨#[]⟩] 30)) = W at *
  refine ⟨trivial, (callsIn_wide.2 (CX.out _ HB.out)).mono ?_⟩
  rintro e w1 ⟨rfl, hb⟩
  replace HB := Lib.hid (HB.out.trans (hb.mono HB.out.size))
  replace RX := Lib.hid ((hb.block _ (Array.getElem?_eq_some_iff.1 RX.out).1).trans RX.out)
  replace RT := Lib.hid ((hb.block _ (Array.getElem?_eq_some_iff.1 RT.out).1).trans RT.out)
  replace RR := Lib.hid ((hb.block _ (Array.getElem?_eq_some_iff.1 RR.out).1).trans RR.out)
  have hq1z := Nat.le_trans hqz hb.size
  clear hb x0 x1 CX hqz
  have t0 : w1.cell? ⟨w.heap.size + 1, 0, none⟩ = some (.slice aT T.length cT) := by rw [cell_of_row _ _ 0 _ _ _ RT.out]; rfl
  gi_wp2
  refine ⟨trivial, (callsIn_wide.2 (CT.out _ HB.out)).mono ?_⟩
  rintro e w2 ⟨rfl, hb⟩
  replace HB := Lib.hid (HB.out.trans (hb.mono HB.out.size))
  replace RX := Lib.hid ((hb.block _ (Array.getElem?_eq_some_iff.1 RX.out).1).trans RX.out)
  replace RT := Lib.hid ((hb.block _ (Array.getElem?_eq_some_iff.1 RT.out).1).trans RT.out)
  replace RR := Lib.hid ((hb.block _ (Array.getElem?_eq_some_iff.1 RR.out).1).trans RR.out)
  have hq2z := Nat.le_trans hq1z hb.size
  clear hb t0 CT
  -- the box of the keys that are left
  have bK := Boxed.new w2 28 (.slice none 0 0)
  replace RX := Lib.hid ((Below.heap_alloc w2 (.cells #[.slice none 0 0] 28) _ (Array.getElem?_eq_some_iff.1 RX.out).1).trans RX.out)
  replace RT := Lib.hid ((Below.heap_alloc w2 (.cells #[.slice none 0 0] 28) _ (Array.getElem?_eq_some_iff.1 RT.out).1).trans RT.out)
  replace RR := Lib.hid ((Below.heap_alloc w2 (.cells #[.slice none 0 0] 28) _ (Array.getElem?_eq_some_iff.1 RR.out).1).trans RR.out)
  replace HB := Lib.hid (HB.out.alloc HB.out.size (.cells #[.slice none 0 0] 28))
  have hq3z : w2.heap.size + 1 = (w2.alloc (.cells #[.slice none 0 0] 28)).heap.size := by simp
  obtain ⟨x0, x1, -, -⟩ := row2_of RX.out
  gi_wp2
  generalize w2.alloc (.cells #[.slice none 0 0] 28) = W3 at *
  have hzz : w.heap.size + 3 ≤ w2.heap.size := by omega
  generalize w2.heap.size = nK at *
  refine ⟨trivial, (callsIn_wide.2 (iloadbytes_any y _ hy)).mono ?_⟩
  rintro e w4 ⟨rfl, hb⟩
  obtain ⟨p0, p1, p2, p3, hrow, harr⟩ := rowA_four y hy
  rw [harr]
  replace HB := Lib.hid (HB.out.trans (hb.mono HB.out.size))
  replace RX := Lib.hid ((hb.block _ (Array.getElem?_eq_some_iff.1 RX.out).1).trans RX.out)
  replace RT := Lib.hid ((hb.block _ (Array.getElem?_eq_some_iff.1 RT.out).1).trans RT.out)
  replace RR := Lib.hid ((hb.block _ (Array.getElem?_eq_some_iff.1 RR.out).1).trans RR.out)
  have bK : Boxed w4 nK 28 (.slice none 0 0) := (hb.block _ bK.lt).trans bK
  have hq4z := hb.size
  clear hb x0 x1
  have RL := heap_alloc_new w4 (.cells #[.int .u8 p0, .int .u8 p1, .int .u8 p2, .int .u8 p3] 113)
  have bK := bK.alloc (.cells #[.int .u8 p0, .int .u8 p1, .int .u8 p2, .int .u8 p3] 113)
  replace RX := Lib.hid ((Below.heap_alloc w4 (.cells #[.int .u8 p0, .int .u8 p1, .int .u8 p2, .int .u8 p3] 113) _ (Array.getElem?_eq_some_iff.1 RX.out).1).trans RX.out)
  replace RT := Lib.hid ((Below.heap_alloc w4 (.cells #[.int .u8 p0, .int .u8 p1, .int .u8 p2, .int .u8 p3] 113) _ (Array.getElem?_eq_some_iff.1 RT.out).1).trans RT.out)
  replace RR := Lib.hid ((Below.heap_alloc w4 (.cells #[.int .u8 p0, .int .u8 p1, .int .u8 p2, .int .u8 p3] 113) _ (Array.getElem?_eq_some_iff.1 RR.out).1).trans RR.out)
  replace HB := Lib.hid (HB.out.alloc HB.out.size (.cells #[.int .u8 p0, .int .u8 p1, .int .u8 p2, .int .u8 p3] 113))
  have hq5z : (w4.alloc (.cells #[.int .u8 p0, .int .u8 p1, .int .u8 p2, .int .u8 p3] 113)).heap.size = w4.heap.size + 1 := by simp
  obtain ⟨x0, x1, -, -⟩ := row2_of RX.out
  gi_wp2
  generalize w4.alloc (.cells #[.int .u8 p0, .int .u8 p1, .int .u8 p2, .int .u8 p3] 113) = W5 at *
  have hlz : nK < w4.heap.size := by omega
  generalize w4.heap.size = nL at *
  refine ⟨trivial, (callsIn_wide.2 (kin_any _ _ _ _)).mono ?_⟩
  rintro e w6 ⟨rfl, rfl⟩
  have bS := Boxed.new W5 28 (.slice ax ks.length cx)
  have bK := bK.alloc (.cells #[.slice ax ks.length cx] 28)
  have RL := (Below.heap_alloc W5 (.cells #[.slice ax ks.length cx] 28) _ (Array.getElem?_eq_some_iff.1 RL).1).trans RL
  have bT : Boxed (W5.alloc (.cells #[.slice ax ks.length cx] 28)) (w.heap.size + 1) 24 (.slice aT T.length cT) := (Below.heap_alloc W5 (.cells #[.slice ax ks.length cx] 28) _ (Array.getElem?_eq_some_iff.1 RT.out).1).trans RT.out
  have hRR := (Below.heap_alloc W5 (.cells #[.slice ax ks.length cx] 28) _ (Array.getElem?_eq_some_iff.1 RR.out).1).trans RR.out
  have hB0 := HB.out.alloc HB.out.size (.cells #[.slice ax ks.length cx] 28)
  have hsz : (W5.alloc (.cells #[.slice ax ks.length cx] 28)).heap.size = nL + 2 := by simp; omega
  have hnS : W5.heap.size = nL + 1 := by omega
  rw [hnS] at bS
  clear RX RT RR HB x0 x1
  gi_wp2
  generalize W5.alloc (.cells #[.slice ax ks.length cx] 28) = W0 at *
  have hlen : ∀ l, (outK T l).length ≤ l.length := fun l => List.length_filter_le _ _
  refine wpIn_rangeFunc_ownH (n := 9) rfl (by omega) (gf := 130) (lb := #[.pointer (some ⟨nL + 1, 0, none⟩)]) rfl trivial (enters_of Try.func130 (by kernel_rfl) rfl)
    (kin_stops 8 (nL + 1) w.heap.size (.slice ax ks.length cx) ks (by omega) (by omega) W0 (by omega) (by omega) bS.cell (hx0.below hB0)) belowK_t (belowK_b (by omega)) (Below.refl _ _) (fun _ => rfl)
    (fun pre W => (∃ v, Boxed W nK 28 v ∧ W.ownsRow w.heap.size 43 2 v (outK T pre).length (keyCells (outK T pre)) ∧ True) ∧ W.heap[nL]? = some (.cells (rowA (accR T y pre)) 113 (0, 0)) ∧ Boxed W (w.heap.size + 1) 24 (.slice aT T.length cT) ∧ W.heap[w.heap.size + 2]? = some (.cells #[.slice none 0 0, .string ⟨#[]⟩] 30 (0, 0)) ∧ Below w.heap.size w W)
    (fun _ _ _ => False)
    (OwnFrom.and (Own.from (holdsRow_own w.heap.size nK 28 43 2 (fun pre : List K2 => (outK T pre).length) (fun pre => keyCells (outK T pre)) (fun pre v => True)) _) (OwnFrom.and (Own.from (cells_own nL (fun pre : List K2 => rowA (accR T y pre)) 113) _) (OwnFrom.and (Own.from (boxed_own _ _ (fun _ => .slice aT T.length cT)) _) (OwnFrom.and (Own.from (cells_own (w.heap.size + 2) (fun _ => #[.slice none 0 0, .string ⟨#[]⟩]) 30) _) (ownFrom_below (Nat.le_refl _) (by omega))))))
    (fun _ _ _ _ _ hs _ _ => hs)
    ⟨⟨_, bK, World.ownsRow_nil _ _ _ _, trivial⟩, by rw [← hrow] at RL; exact RL, bT, hRR, hB0⟩
    (fun x a' W => ∃ Bx, nL < Bx ∧ KBoxed W Bx x ∧ (∃ v, Boxed W nK 28 v ∧ v.ownBlock ≠ some Bx) ∧ a' = { tmps := #[.agg #[.slice ax ks.length cx, .string y], .slice aT T.length cT, .pointer (some ⟨w.heap.size, 0, none⟩), .pointer (some ⟨w.heap.size + 1, 0, none⟩), .pointer (some ⟨w.heap.size + 1 + 1, 0, none⟩), .pointer (some ⟨nK, 0, none⟩), .pointer (some ⟨nL, 0, none⟩), .pointer (some ⟨Bx, 0, none⟩), undef, undef, .agg #[.slice ax ks.length cx, .string y], .bool true, .bool false, .bool false, .slice aT T.length cT, .bool true, .bool false, .bool false, undef, undef, .pointer (some ⟨w.heap.size, 1, none⟩), .string y, .agg #[.int .u8 p0, .int .u8 p1, .int .u8 p2, .int .u8 p3], .pointer (some ⟨w.heap.size, 0, none⟩), .slice ax ks.length cx, .func (.func 130) #[] #[.pointer (some ⟨nL + 1, 0, none⟩)], kv x, undef, undef, undef, undef, undef, undef, undef, undef, undef, undef, undef, undef, undef, undef, undef, undef, undef, undef], defers := [] })
    (fun x a' _ X Y row hs hg hr => by
      obtain ⟨Bx, e1, e2, e3, e4⟩ := hs
      exact ⟨Bx, e1, kboxed_own Bx x () X Y row e2 hg (fun r e => (hr r e).2), boxG_own nK 28 (fun (_ : Unit) v => v.ownBlock ≠ some Bx) () X Y row e3 hg (fun r e => (hr r e).2), e4⟩)
    ?assign ?body ?done ?stop
  case assign =>
    rintro l pre ⟨p, q⟩ W K ⟨⟨v, hv, hrow, -⟩, hRL, hTb, hRes, hB⟩ hK
    unfold kv at *
    dsimp only at *
    gi_wp2
    exact hK _ _ ((KeepsOthers.alloc _ _).from _) ((Below.refl _ W).alloc hB.size _) ⟨⟨_, hv.alloc _, (hrow.alloc _), trivial⟩, (Below.heap_alloc _ _ _ (Array.getElem?_eq_some_iff.1 hRL).1).trans hRL, hTb.alloc _, (Below.heap_alloc _ _ _ (Array.getElem?_eq_some_iff.1 hRes).1).trans hRes, hB.alloc hB.size _⟩ ⟨W.heap.size, (Array.getElem?_eq_some_iff.1 hRL).1, KBoxed.new W (p, q), ⟨_, hv.alloc _, fun e => by have := (hrow.lt _ e).2; omega⟩, rfl⟩
  case body =>
    rintro l pre ⟨p, q⟩ a' W hl ⟨r, hr⟩ ⟨⟨v, hv, hrw, -⟩, hRL, hTb, hRes, hB⟩ ⟨Bx, hBx, bX, ⟨v2, hv2, hne⟩, rfl⟩ hlt
    obtain rfl := boxed_uniq hv hv2
    clear hv2
    have hsn := outK_snoc T pre (p, q)
    have han := accR_snoc T y pre (p, q)
    have hsz1 := accR_size h4 pre hy
    have hl1 := hlen pre
    have hsW := hB.size
    generalize hM : outK T pre = M at *
    generalize hA : accR T y pre = A at *
    have HSN := Lib.hid hsn
    have HAN := Lib.hid han
    clear hsn han
    have CLx := Lib.hid (CL.out W (p, q) hB)
    unfold kv at *
    dsimp only at *
    have cX0 := bX.cell0
    have cX1 := bX.cell1
    have cTb := hTb.cell
    dsimp only at cX0 cX1
    cases hlo : loadO T (p, q) with
    | some z =>
      rw [hlo] at CLx HSN HAN
      have hz4 := loadO_four h4 hlo
      dsimp only at HSN HAN
      rw [show loadV (some z) = .tuple #[.string z, .bool true] from rfl] at CLx
      gi_wp2
      refine ⟨trivial, (CallsIn.inRound l (callsIn_wide.2 CLx.out)).mono ?_⟩
      rintro e W1 ⟨rfl, hb1⟩
      have g1 := grownN hb1
      have hv1 := hv.kept g1 (by simp)
      have hRL1 := (hb1.block _ (Array.getElem?_eq_some_iff.1 hRL).1).trans hRL
      have hTb1 := hTb.kept g1 (by simp)
      have hRes1 := (hb1.block _ (Array.getElem?_eq_some_iff.1 hRes).1).trans hRes
      have bX1 := bX.kept g1 (by simp)
      have hrw1 := own_below hrw hb1
      have hs1 := Nat.le_trans hsW hb1.size
      have hk1 : KeepsOthers W W1 := KeepsOthers.of_grownBy g1 (fun j o e => by cases e)
      have hB1 := hB.trans (hb1.mono hsW)
      have HBP1 := Lib.hid (hb1.mono hsW)
      have HK1 := Lib.hid hk1
      clear hv hRL hTb hRes bX hrw hb1 g1 hk1 hB CLx cX0 cX1 cTb
      obtain ⟨a0, a1, a2, a3, hrA, haA⟩ := rowA_four A hsz1
      have hxz : (xorS A z).size = 4 := by rw [xorS_size A z (by omega)]; exact hsz1
      obtain ⟨b0, b1, b2, b3, hrZ, haZ⟩ := rowA_four (xorS A z) hxz
      have HLB := Lib.hid (fun w => iloadbytes_any z w hz4)
      have HOR := Lib.hid (fun w => iorof_any A z hsz1 hz4 w)
      rw [haA, haZ] at HOR
      have HRL := Lib.hid (hrA ▸ hRL1 : W1.heap[nL]? = some (.cells #[.int .u8 a0, .int .u8 a1, .int .u8 a2, .int .u8 a3] 113 (0, 0)))
      have HV := Lib.hid hv1
      have HT := Lib.hid hTb1
      have HRE := Lib.hid hRes1
      have HO := Lib.hid hrw1
      have HBB := Lib.hid hB1
      have HSZ := Lib.hid hs1
      have hnlW : nL < W1.heap.size := (Array.getElem?_eq_some_iff.1 hRL1).1
      clear hRL1 hv1 hTb1 hRes1 hrw1 hB1 bX1
      gi_wp2
      have LA : ∀ w' : World, w'.heap[nL]? = some (.cells #[.int .u8 a0, .int .u8 a1, .int .u8 a2, .int .u8 a3] 113 (0, 0)) → (loadVar 113 ⟨nL, 0, none⟩).run Try.prog w' = .ok (.agg #[.int .u8 a0, .int .u8 a1, .int .u8 a2, .int .u8 a3]) w' := fun w' h => arr4_load h (Below.refl _ _)
      refine wpIn_region_H (fun w' => w'.heap[nL]? = some (.cells #[.int .u8 a0, .int .u8 a1, .int .u8 a2, .int .u8 a3] 113 (0, 0))) (by kernel_rfl) (by kernel_rfl) ?_
      have hb := (Below.refl W1.heap.size W1).drew
      have g2 := grownN hb
      replace HRL := Lib.hid ((hb.block _ (Array.getElem?_eq_some_iff.1 HRL.out).1).trans HRL.out)
      replace HV := Lib.hid (HV.out.kept g2 (by simp))
      replace HT := Lib.hid (HT.out.kept g2 (by simp))
      replace HRE := Lib.hid ((hb.block _ (Array.getElem?_eq_some_iff.1 HRE.out).1).trans HRE.out)
      replace HO := Lib.hid (own_below HO.out hb)
      replace HBP1 := Lib.hid (HBP1.out.trans (hb.mono HSZ.out))
      replace HBB := Lib.hid (HBB.out.trans (hb.mono HSZ.out))
      replace HK1 := Lib.hid (HK1.out.trans (KeepsOthers.of_grownBy g2 (fun j o e => by cases e)))
      replace HSZ := Lib.hid (Nat.le_trans HSZ.out hb.size)
      clear hb g2
      generalize W1.drew = w2 at *
      refine wpH_seg [true, true] [2] 2 (by kernel_rfl) (fun _ _ _ _ _ h => h) (by kernel_rfl) HRL.out ?_
      try simp only [maskRows]
      repeat (first
        | go_big_quiet_skip
        | (go_big_quiet_want
           first
             | (go_big_quiet_op; go_big_quiet_on)
             | (refine q_load 113 _ _ _ rfl rfl LA ?_; simp only [Act.put, List.setIfInBounds_toArray, List.set_cons_zero, List.set_cons_succ]; go_big_quiet_on)
             | (go_big_quiet_op; refine ⟨_, fun _ _ => rfl, ?_⟩; go_big_quiet_on)
             | (go_big_quiet_op; refine ⟨_, fun _ _ _ => rfl, ?_⟩; go_big_quiet_on)))
      refine wpQuiet_nil ?_
      refine List.forall_mem_singleton.2 ?_
      refine segh_run rfl (by rfl) (fun K hK => ?_)
      go_simp
      refine (HLB.out _).mono ?_
      rintro e w3 ⟨rfl, hb⟩
      dsimp only
      have g3 := grownN hb
      replace HRL := Lib.hid ((hb.block _ (Array.getElem?_eq_some_iff.1 HRL.out).1).trans HRL.out)
      replace HV := Lib.hid (HV.out.kept g3 (by simp))
      replace HT := Lib.hid (HT.out.kept g3 (by simp))
      replace HRE := Lib.hid ((hb.block _ (Array.getElem?_eq_some_iff.1 HRE.out).1).trans HRE.out)
      replace HO := Lib.hid (own_below HO.out hb)
      replace HBP1 := Lib.hid (HBP1.out.trans (hb.mono HSZ.out))
      replace HBB := Lib.hid (HBB.out.trans (hb.mono HSZ.out))
      replace HK1 := Lib.hid (HK1.out.trans (KeepsOthers.of_grownBy g3 (fun j o e => by cases e)))
      replace HSZ := Lib.hid (Nat.le_trans HSZ.out hb.size)
      clear hb g3
      refine hK _ _ (.inr ⟨_, fun _ h => h, HRL.out, ?_⟩)
      clear hK K
      try simp only [Act.put, List.setIfInBounds_toArray, List.set_cons_zero, List.set_cons_succ]
      refine wpH_seg [] [3] 1 (by kernel_rfl) (fun _ _ _ _ _ h => h) (by kernel_rfl) HRL.out ?_
      try simp only [maskRows]
      refine wpQuiet_nil ?_
      refine List.forall_mem_singleton.2 ?_
      refine segh_run rfl (by rfl) (fun K hK => ?_)
      go_simp
      refine (HOR.out _).mono ?_
      rintro e w4 ⟨rfl, hb⟩
      dsimp only
      have g4 := grownN hb
      replace HRL := Lib.hid ((hb.block _ (Array.getElem?_eq_some_iff.1 HRL.out).1).trans HRL.out)
      replace HV := Lib.hid (HV.out.kept g4 (by simp))
      replace HT := Lib.hid (HT.out.kept g4 (by simp))
      replace HRE := Lib.hid ((hb.block _ (Array.getElem?_eq_some_iff.1 HRE.out).1).trans HRE.out)
      replace HO := Lib.hid (own_below HO.out hb)
      replace HBP1 := Lib.hid (HBP1.out.trans (hb.mono HSZ.out))
      replace HBB := Lib.hid (HBB.out.trans (hb.mono HSZ.out))
      replace HK1 := Lib.hid (HK1.out.trans (KeepsOthers.of_grownBy g4 (fun j o e => by cases e)))
      replace HSZ := Lib.hid (Nat.le_trans HSZ.out hb.size)
      clear hb g4
      refine hK _ _ (.inr ⟨_, fun _ h => h, HRL.out, ?_⟩)
      clear hK K
      try simp only [Act.put, List.setIfInBounds_toArray, List.set_cons_zero, List.set_cons_succ]
      refine wpH_seg [] [4] 0 (by kernel_rfl) (fun _ _ _ _ _ h => h) (by kernel_rfl) HRL.out ?_
      try simp only [maskRows]
      refine wpQuiet_nil ?_
      refine List.forall_mem_singleton.2 ?_
      obtain ⟨c0, c1, c2, c3, f0, f1, f2, f3⟩ := row4_of HRL.out
      have hlt := (Array.getElem?_eq_some_iff.1 HRL.out).1
      refine segh_run rfl (by rfl) (fun K hK => ?_)
      go_simp
      have hRL2 := set4 (.int .u8 b0) (.int .u8 b1) (.int .u8 b2) (.int .u8 b3) HRL.out
      have g9 := grown4 w4 nL (.int .u8 b0) (.int .u8 b1) (.int .u8 b2) (.int .u8 b3)
      have hne9 : ∀ B, B ≠ nL → some B ≠ some nL := fun B h e => h (Option.some.inj e)
      have HV2 := Lib.hid (HV.out.kept g9 (hne9 _ (by omega)))
      have HT2 := Lib.hid (HT.out.kept g9 (hne9 _ (by omega)))
      have HRE2 := Lib.hid ((g9.block _ (Array.getElem?_eq_some_iff.1 HRE.out).1 (hne9 _ (by omega))).trans HRE.out)
      have HO2 := Lib.hid (HO.out.kept g9 (.inr fun e => by
        rcases HO.out.2 with ⟨h, _⟩ | ⟨g', cap', cur', h, _, hgb, _⟩
        · rw [h] at e; cases e
        · rw [h] at e
          have e2 : g' = nL := Option.some.inj e
          subst e2
          rw [HRL.out] at hgb
          injection hgb with h1
          injection h1 with h2 h3
          revert h3
          decide))
      have HBP2 := Lib.hid (below4 HBP1.out (by omega : w.heap.size ≤ nL) (.int .u8 b0) (.int .u8 b1) (.int .u8 b2) (.int .u8 b3))
      have HBB2 := Lib.hid (below4 HBB.out (by omega : w.heap.size ≤ nL) (.int .u8 b0) (.int .u8 b1) (.int .u8 b2) (.int .u8 b3))
      have HK2 := Lib.hid (HK1.out.trans (KeepsOthers.of_grownBy g9 (fun j o e ho => by cases e; rw [HRL.out] at ho; cases ho; rfl)))
      have HRL3 := Lib.hid hRL2
      clear HV HT HRE HO HBP1 HBB HK1 HSZ c0 c1 c2 c3 f0 f1 f2 f3 hlt g9 hne9 hRL2
      replace HRL := HRL3
      clear HRL3
      refine hK _ _ (.inl ⟨⟨lastP_of (by kernel_rfl), by kernel_rfl⟩, ?_⟩)
      clear hK K
      try simp only [Act.put, List.setIfInBounds_toArray, List.set_cons_zero, List.set_cons_succ]
      simp only [OnlyNormal]
      have HRF := Lib.hid (show _ = some (Obj.cells (rowA (xorS A z)) 113 (0, 0)) from hrZ ▸ HRL.out)
      clear HRL
      gi_wp2
      exact ⟨HK2.out.from _, HBP2.out, ⟨_, HV2.out, by rw [HSN.out]; exact HO2.out, trivial⟩, by rw [HAN.out]; exact HRF.out, HT2.out, HRE2.out, HBB2.out⟩
    | none =>
      rw [hlo] at CLx HSN HAN
      dsimp only at HSN HAN
      rw [show loadV (none : Option ByteArray) = .tuple #[.string ⟨#[]⟩, .bool false] from rfl] at CLx
      gi_wp2
      refine ⟨trivial, (CallsIn.inRound l (callsIn_wide.2 CLx.out)).mono ?_⟩
      rintro e W1 ⟨rfl, hb1⟩
      have g1 := grownN hb1
      have hv1 := hv.kept g1 (by simp)
      have hRL1 := (hb1.block _ (Array.getElem?_eq_some_iff.1 hRL).1).trans hRL
      have hTb1 := hTb.kept g1 (by simp)
      have hRes1 := (hb1.block _ (Array.getElem?_eq_some_iff.1 hRes).1).trans hRes
      have bX1 := bX.kept g1 (by simp)
      have hrw1 := own_below hrw hb1
      have hs1 := Nat.le_trans hsW hb1.size
      have hk1 : KeepsOthers W W1 := KeepsOthers.of_grownBy g1 (fun j o e => by cases e)
      have hB1 := hB.trans (hb1.mono hsW)
      have HBP1 := Lib.hid (hb1.mono hsW)
      have HK1 := Lib.hid hk1
      clear hv hRL hTb hRes bX hrw hb1 g1 hk1 hB CLx cX0 cX1 cTb
      have cL1 := hv1.cell
      have cX0 := bX1.cell0
      have cX1 := bX1.cell1
      dsimp only at cX0 cX1
      have hnlW := (Array.getElem?_eq_some_iff.1 hRL1).1
      have HRL1 := Lib.hid hRL1
      have HT1 := Lib.hid hTb1
      have HRE1 := Lib.hid hRes1
      clear hRL1 hTb1 hRes1
      gi_wp2_with (gi_at_builtin; refine wpListIn_append_own_at _ rfl (.tmp 38) (.tmp 40) 28 rfl w.heap.size 43 i0 (.agg #[.int .i64 0, .int .i64 0]) 2 16 Try.underlying28 hi hz0 hz1 hz2 rfl (by decide) _ _ _ rfl (hrw1.alloc _) ⟨W1.heap.size, 0, none⟩ 1 1 [.int .i64 p, .int .i64 q] rfl rfl (cell_two_new _ _ _ _) (by intro u hu; simp at hu; rcases hu with rfl | rfl <;> rfl) (by unfold maxLen; omega) (by omega) (by rw [World.size_alloc]; omega) ?_; intro v5 w5 hown5 hgrow5 _ hat5; obtain ⟨g5, cap5, rfl⟩ := ownsRow_succ hown5; obtain ⟨hvx, hvy, hrz, hkz, hbz⟩ := hv1.appended (by decide) hrw1 hs1 (by omega) hown5 hgrow5; have hc5 := hvx.cell; have hf5 := hvx.frozen)
      have hal := (Below.heap_alloc W1 (.cells #[.int .i64 p, .int .i64 q] 43) nL hnlW).trans HRL1.out
      have hrl5 := (hgrow5.block nL (by simp; omega) (fun e => by
        rcases hrw1.2 with ⟨h, _⟩ | ⟨g', cap', cur', h, _, hgb, _⟩
        · rw [h] at e; cases e
        · rw [h] at e
          have e2 : g' = nL := (Option.some.inj e).symm
          subst e2
          rw [HRL1.out] at hgb
          injection hgb with h1
          injection h1 with h2 h3
          revert h3
          decide)).trans hal
      have hre := (Below.heap_alloc W1 (.cells #[.int .i64 p, .int .i64 q] 43) _ (Array.getElem?_eq_some_iff.1 HRE1.out).1).trans HRE1.out
      have hre5 := (hgrow5.block (w.heap.size + 2) (by simp; omega) (fun e => by
        rcases hrw1.2 with ⟨h, _⟩ | ⟨g', cap', cur', h, _, hgb, _⟩
        · rw [h] at e; cases e
        · rw [h] at e
          have e2 : g' = w.heap.size + 2 := (Option.some.inj e).symm
          subst e2
          rw [HRE1.out] at hgb
          injection hgb with h1
          injection h1 with h2 h3
          revert h3
          decide)).trans hre
      have HF := Lib.hid (And.intro ((Below.heap_setCell _ ⟨nK, 0, none⟩ (.slice (some ⟨g5, 0, none⟩) (M.length + 1) cap5) nL (by simp; omega)).trans hrl5) ((Below.heap_setCell _ ⟨nK, 0, none⟩ (.slice (some ⟨g5, 0, none⟩) (M.length + 1) cap5) (w.heap.size + 2) (by simp; omega)).trans hre5))
      clear hal hrl5 hre hre5
      exact ⟨(HK1.out.trans hkz).from _, HBP1.out.trans hbz, ⟨_, hvy, by rw [HSN.out, keyCells_snoc]; simpa using hrz, trivial⟩, by rw [HAN.out]; exact HF.out.1, boxed_app HT1.out (by decide) hrw1 hgrow5 (by omega) _, HF.out.2, hB1.trans hbz⟩
  case done =>
    rintro D ys W hD hys ⟨⟨v, hv, hrow, -⟩, hRL, hTb, hRes, hB⟩ hK
    subst hys
    have hll := hlen ys
    have h4y := accR_size h4 ys hy
    obtain ⟨a3, n3, k3, rfl⟩ := own_shape hrow
    obtain ⟨a0, a1, a2, a3', hrA, haA⟩ := rowA_four (accR T y ys) h4y
    rw [hrA] at hRL
    have HC := Lib.hid (fun w => icodeof_any a3 n3 k3 (accR T y ys) h4y w)
    rw [haA] at HC
    have cK := hv.cell
    obtain ⟨d0, d1, d2, d3, -, -, -, -⟩ := row4_of hRL
    have hsW := hB.size
    gi_wp2
    refine ⟨trivial, (callsIn_wide.2 (HC.out _)).mono ?_⟩
    rintro e W1 ⟨rfl, hb⟩
    have hR1 := (hb.block _ (Array.getElem?_eq_some_iff.1 hRes).1).trans hRes
    have hK1 := (hb.block D (Array.getElem?_eq_some_iff.1 hK).1).trans hK
    have ho1 := own_below hrow hb
    have hB1 := hB.trans (hb.mono hsW)
    obtain ⟨c0, c1, f0, f1⟩ := row2_of hR1
    have hlt := (Array.getElem?_eq_some_iff.1 hR1).1
    have hD2 : w.heap.size + 2 ≠ D := by omega
    have hR2 := set2 (.slice a3 n3 k3) (.string (accR T y ys)) hR1
    have hK2 := row_set2 hK1 (b := w.heap.size + 2) (by omega) (.slice a3 n3 k3) (.string (accR T y ys))
    have ho2 := ho1.kept (grown2 W1 (w.heap.size + 2) (.slice a3 n3 k3) (.string (accR T y ys))) (.inr fun e => by
      rcases ho1.2 with ⟨h, _⟩ | ⟨g', cap', cur', h, _, hgb, _⟩
      · rw [h] at e; cases e
      · rw [h] at e
        have e2 : g' = w.heap.size + 2 := Option.some.inj e
        subst e2
        rw [hR1] at hgb
        injection hgb with h1
        injection h1 with h2 h3
        revert h3
        decide)
    have hB2 := below2 hB1 (by omega : w.heap.size ≤ w.heap.size + 2) (.slice a3 n3 k3) (.string (accR T y ys))
    have HF := Lib.hid (And.intro hR2 (And.intro hK2 (And.intro ho2 hB2)))
    clear hR1 hK1 ho1 hB1 hR2 hK2 ho2 hB2 hb hv hRL hTb hRes hrow hB cK d0 d1 d2 d3 hK
    gi_wp2
    obtain ⟨hR2, hK2, ho2, hB2⟩ := HF.out
    try rw [Exit.noGoto_ret]
    refine ⟨by simp, .inl ⟨_, _, rfl, run_takeDeferred hK2, ?_⟩⟩
    have hR3 := (World.putObj_heap_other (w := (World.setCell (World.setCell W1 ⟨w.heap.size + 2, 0, none⟩ (.slice a3 n3 k3)) ⟨w.heap.size + 2, 1, none⟩ (.string (accR T y ys)))) (r := D) (o := .deferred none) hD2).trans hR2
    have l3 := cd_load hR3 (Below.refl _ _)
    refine ⟨.agg #[.slice a3 n3 k3, .string (accR T y ys)], ?_, _, rfl, ownsRow_putObj ho2 (.deferred none) hK2 rfl, hB2.trans (belowK_b (w := w) (Nat.le_refl _) _ D _ _ (by omega) hK2 rfl rfl)⟩
    rw [results_cell (p := 4) (ty := 30) (by kernel_rfl)]
    simp [asAddr, Result.andThen, l3]
  case stop =>
    rintro D c pre W _ _ h _
    exact h.elim
theorem ireduced_any (vx : Value) (ks : List K2) (y : ByteArray) (vT : Value) (T : List R3) (w : World) (hx : keysAt w vx ks) (hT : rdAt w vT T) (hs : ks.length ≤ 1048576) (hsT : T.length ≤ 1048576) (hy : y.size ≤ 2000000) :
    Calls Try.prog 40 #[.agg #[vx, .string y], vT] w fun e w' => ∃ v', e = .returned (.agg #[v', .string (redM (ks, y) T).2]) ∧ w'.ownsRow w.heap.size 43 2 v' (redM (ks, y) T).1.length (keyCells (redM (ks, y) T).1) ∧ Below w.heap.size w w' := by
  by_cases h : codeOkB (ks, y) = true ∧ rdsOkR T = true
  · have h4y : y.size = 4 := ((codeOk_iff (ks, y)).1 h.1).2.2.1
    rw [redM_form h.1 h.2]
    dsimp only
    rw [← accR_form (rds_four h.2) h4y ks]
    exact ireduced_yes vx ks y vT T w hx hT hs hsT h.1 h.2
  · have e : redM (ks, y) T = (ks, y) := by unfold redM; rw [if_neg h]
    rw [e]
    exact ireduced_no vx ks y vT T w hx hT hs hsT hy h
end Go.Proofs.Ytadjmfhhpkjpaaa
namespace Go.Proofs.Ytadjmfhhpkjpaaa
open Go.ChangeShapes Go.WideShapes Go.ChangeAt Go.RowKit Go.BigFrame Go.Maps
set_option linter.unusedVariables false
set_option linter.unusedSimpArgs false

theorem agg_keysS (w : World) : (isAgg 28).run Try.prog w = .ok false w := by simp [isAgg, underlying, Try.underlying28]
theorem agg_strS (w : World) : (isAgg 9).run Try.prog w = .ok false w := by simp [isAgg, underlying, Try.underlying9]
theorem run_field0 (v : Value) (y : ByteArray) (w : World) : (Instr.field 30 (.agg #[v, .string y]) 0).run Try.prog w = .ok v w := by
  simp only [Instr.field, underlying, part, asAgg, Sem.run_bind, agg_keysS, Try.underlying30, Result.andThen_ok]
  simp [part, Sem.run_bind, agg_keysS]
theorem run_field1 (v : Value) (y : ByteArray) (w : World) : (Instr.field 30 (.agg #[v, .string y]) 1).run Try.prog w = .ok (.string y) w := by
  simp only [Instr.field, underlying, part, asAgg, Sem.run_bind, agg_strS, Try.underlying30, Result.andThen_ok]
  simp [part, Sem.run_bind, agg_strS]
theorem q_field {P : Program} {C : World → Prop} {a : Act} {o : Oper} {K : Act → Prop} (t : TypeId) (x : Operand) (i : Nat) (v z : Value) (ho : o.op = .field t x i) (hx : a.eval x = v) (hf : ∀ w, (Instr.field t v i).run P w = .ok z w) (hk : K (a.put o.dst z)) : o.quiet P a C K := by
  refine ⟨z, fun w hw => ?_, hk⟩
  unfold Oper.quietAt execOp
  simp only [ho, hx, Sem.run_bind, Sem.run_pure, Result.andThen_ok, hf w]
  exact ⟨rfl, rfl⟩
theorem cd_load_b {w w' : World} {g : Nat} {u : Value} {y : ByteArray} (h : w.heap[g]? = some (.cells #[u, .string y] 30 (0, 0))) (hb : Below w.heap.size w w') : (loadVar 30 ⟨g, 0, none⟩).run Try.prog w' = .ok (.agg #[u, .string y]) w' :=
  run_loadVar_row (P := Try.prog) w' g 30 30 #[u, .string y] (0, 0) _ ((hb.block _ (Array.getElem?_eq_some_iff.1 h).1).trans h) Try.underlying30 rfl (by kernel_rfl)
theorem own_lenS {w : World} {base n m c : Nat} {e : TypeId} {size : Nat} {a : Option Addr} {xs : List Value} (h : w.ownsRow base e size (.slice a n c) m xs) : n = m := by
  rcases h.2 with ⟨h1, h0⟩ | ⟨g, cap, cur, h1, -⟩
  · cases h1; exact h0.symm
  · cases h1; rfl
/-- whether a word may wait, alone -/
def wGood (K : List R3) (x : C2) : Bool := codeOkB x && decide (2 ≤ x.1.length) && x.1.all fun k => (loadO K k).isNone
theorem waitP_good (K : List R3) (L : List C2) : WaitP K L ↔ (∀ i, i < L.length → wGood K (L.getD i blankC) = true) ∧ (L.map (·.1)).Nodup := by
  have e : ∀ x, wGood K x = true ↔ codeOkB x = true ∧ 2 ≤ x.1.length ∧ ∀ k ∈ x.1, loadO K k = none := by
    intro x
    unfold wGood
    simp only [Bool.and_eq_true, decide_eq_true_eq, List.all_eq_true, Option.isNone_iff_eq_none]
    constructor
    · rintro ⟨⟨h1, h2⟩, h3⟩; exact ⟨h1, h2, h3⟩
    · rintro ⟨h1, h2, h3⟩; exact ⟨⟨h1, h2⟩, h3⟩
  constructor
  · intro h
    exact ⟨fun i hi => (e _).2 (h.ok _ (getW hi)), h.apart⟩
  · rintro ⟨h1, h2⟩
    refine ⟨fun x hx => ?_, h2⟩
    obtain ⟨i, hi, rfl⟩ := List.getElem_of_mem hx
    have := (e _).1 (h1 i hi)
    rwa [List.getD, List.getElem?_eq_getElem hi] at this
theorem red_less {x : C2} {K : List R3} (hx : codeOkB x = true) (hK : rdsOkR K = true) : decide ((redM x K).1.length < x.1.length) = !(x.1.all fun k => (loadO K k).isNone) := by
  rw [redM_form hx hK]
  show decide ((outK K x.1).length < x.1.length) = _
  unfold outK
  have hle := List.length_filter_le (fun k => (loadO K k).isNone) x.1
  cases h : x.1.all fun k => (loadO K k).isNone with
  | true =>
    rw [List.filter_eq_self.2 (fun k hk => List.all_eq_true.1 h k hk)]
    simp
  | false =>
    have : (x.1.filter fun k => (loadO K k).isNone).length ≠ x.1.length := by
      intro e
      have := List.length_filter_eq_length_iff.1 e
      rw [List.all_eq_true.2 this] at h
      cases h
    simp only [Bool.not_false, decide_eq_true_eq]
    omega
set_option maxRecDepth 100000 in
set_option maxHeartbeats 2000000 in
theorem iwaitok_any (v : Value) (L : List C2) (vk : Value) (K : List R3) (w : World) (h : cdAv w none v L) (hk : rdAt w vk K) (hL : L.length ≤ 1900000) (hK : K.length ≤ 1048576) (hok : rdsOkR K = true) (hx : ∀ x ∈ L, x.1.length ≤ 1048576) :
    Calls Try.prog 54 #[v, vk] w fun e w' => e = .returned (.bool (decide (WaitP K L))) ∧ Below w.heap.size w w' := by
  have HP := Lib.hid (fun wx (hb : Below w.heap.size w wx) (hg : ∀ i, i < L.length → wGood K (L.getD i blankC) = true) => iplacesof_any v L wx (cdAv_below h hb) hL (fun x hx => by
    obtain ⟨i, hi, rfl⟩ := List.getElem_of_mem hx
    have := hg i hi
    unfold wGood at this
    simp only [Bool.and_eq_true] at this
    have e : L.getD i blankC = L[i] := by rw [List.getD, List.getElem?_eq_getElem hi]; rfl
    rw [e] at this
    exact setOk_code this.1.1))
  have HRD := Lib.hid (fun wx (hb : Below w.heap.size w wx) => rdAt_below hk hb)
  obtain ⟨a, cap, rfl, hcap, hcells⟩ := h
  obtain ⟨ak, ck, rfl, -, -⟩ := hk
  have HWP := Lib.hid (waitP_good K L)
  have HKO := Lib.hid hok
  clear hok
  go_enter Try.func54, Try.ntmps54
  go_wp2
  go_loopw [9] (fun i wr => ∃ k : Nat, k ≤ L.length ∧ i = .int .i64 k ∧ (∀ j, j < k → wGood K (L.getD j blankC) = true) ∧ Below w.heap.size w wr) (fun i _ => L.length - (intOf i).toNat)
  case atStart => exact ⟨0, Nat.zero_le _, rfl, fun j hj => by omega, Below.refl _ _⟩
  case round =>
    obtain ⟨k, hkl, rfl, hall, hb⟩ := hrel
    rename_i wr
    by_cases hlt : k < L.length
    · obtain ⟨g, off, rfl, hg, hcs⟩ := hcells.resolve_left (by omega)
      have z0 : (0 : Int) ≤ (k : Int) := by omega
      have z1 : (k : Int) < (L.length : Int) := by omega
      obtain ⟨u, c1, c2, c3⟩ := hcs k hlt
      have C1 := (hb.cell (p := ⟨g, off + k * 2, none⟩) hg).trans c1
      have C2 := (hb.cell (p := ⟨g, off + k * 2 + 1, none⟩) hg).trans c2
      have hxx := hx (L.getD k blankC) (getW hlt)
      have HBAD := Lib.hid (show wGood K (L.getD k blankC) = false → decide (WaitP K L) = false from fun e => decide_eq_false fun hw => by
        have := (HWP.out.1 hw).1 k hlt
        rw [e] at this; cases this)
      have HNX := Lib.hid (show wGood K (L.getD k blankC) = true → ∀ j, j < k + 1 → wGood K (L.getD j blankC) = true from fun e j hj => by
        rcases (by omega : j < k ∨ j = k) with h1 | rfl
        · exact hall j h1
        · exact e)
      clear hcells hcs c1 c2 hall
      generalize L.getD k blankC = x at *
      obtain ⟨ks, y⟩ := x
      dsimp only at *
      have hba := (Below.refl wr.heap.size wr).alloc (Nat.le_refl _) (.cells #[u, .string y] 30)
      have HX := Lib.hid (heap_alloc_new wr (.cells #[u, .string y] 30))
      have HC := Lib.hid (fun wx (hbx : Below wr.heap.size wr wx) => icodeok_any u ks y wx (keysAt_below (keysAt_below c3.to hb) hbx) (by omega))
      have HR := Lib.hid (fun wx (hbx : Below wr.heap.size wr wx) (hco : codeOkB (ks, y) = true) => ireduced_any u ks y _ K wx (keysAt_below (keysAt_below c3.to hb) hbx) (HRD.out wx (hb.trans (hbx.mono hb.size))) hxx hK (by have := ((codeOk_iff (ks, y)).1 hco).2.2.1; dsimp only at this; omega))
      have HB1 := Lib.hid hb
      have HBA := Lib.hid hba
      obtain ⟨au, cu, rfl, -, -⟩ := c3
      clear hb hba
      have hgo : wGood K (ks, y) = (codeOkB (ks, y) && decide (2 ≤ ks.length) && ks.all fun k => (loadO K k).isNone) := rfl
      have HLS := Lib.hid (fun (hco : codeOkB (ks, y) = true) => red_less hco HKO.out)
      have HGO := Lib.hid hgo
      clear hgo
      go_upto_region 4 with (fail)
      generalize wr.alloc (.cells #[.slice au ks.length cu, .string y] 30) = W at *
      have LX : ∀ w', Below W.heap.size W w' → (loadVar 30 ⟨wr.heap.size, 0, none⟩).run Try.prog w' = .ok (.agg #[.slice au ks.length cu, .string y]) w' := fun w' hb => cd_load_b HX.out hb
      have LK : ∀ w', Below W.heap.size W w' → (loadVar 28 ⟨wr.heap.size, 0, none⟩).run Try.prog w' = .ok (.slice au ks.length cu) w' := fun w' hb => cd_loadk HX.out hb
      cases hco : codeOkB (ks, y) with
      | false =>
        have HF := Lib.hid (HBAD.out (by rw [HGO.out, hco]; rfl))
        have HCO := Lib.hid hco
        clear hco
        refine wp_region_below W (by kernel_rfl) (by kernel_rfl) (Below.refl _ _) ?_
        repeat (first
          | go_big_quiet_skip
          | (go_big_quiet_want
             first
               | (go_big_quiet_op; go_big_quiet_on)
               | (refine q_load 30 _ _ _ rfl rfl LX ?_; simp only [Act.put, List.setIfInBounds_toArray, List.set_cons_zero, List.set_cons_succ]; go_big_quiet_on)
               | (refine q_load 28 _ _ _ rfl rfl LK ?_; simp only [Act.put, List.setIfInBounds_toArray, List.set_cons_zero, List.set_cons_succ]; go_big_quiet_on)
               | (go_big_quiet_op; refine ⟨_, fun _ _ => rfl, ?_⟩; go_big_quiet_on)
               | (go_big_quiet_op; apply Exists.intro; refine ⟨fun w' hw' => ?_, ?_⟩
                  · first
                    | (with_reducible refine (HC.out w' (HBA.out.trans (hw'.mono HBA.out.size))).mono ?_
                       rintro e w2 ⟨rfl, hb2⟩
                       exact ⟨by rw [HCO.out], hw'.trans (hb2.mono hw'.size)⟩)
                  go_big_quiet_on)))
        refine wpQuiet_nil ?_
        intro w5 hb5
        have HB5 := Lib.hid (HB1.out.trans ((HBA.out.trans (hb5.mono HBA.out.size)).mono HB1.out.size))
        clear LX LK hb5
        go_wp2
        go_ret
        exact ⟨by rw [HF.out]; rfl, HB5.out⟩
      | true =>
        have HCO := Lib.hid hco
        clear hco
        by_cases hl2 : ks.length < 2
        · have z2 : (ks.length : Int) < 2 := by omega
          have HF := Lib.hid (HBAD.out (by rw [HGO.out, HCO.out, decide_eq_false (by omega)]; rfl))
          clear hl2
          refine wp_region_below W (by kernel_rfl) (by kernel_rfl) (Below.refl _ _) ?_
          repeat (first
            | go_big_quiet_skip
            | (go_big_quiet_want
               first
                 | (go_big_quiet_op; go_big_quiet_on)
                 | (refine q_load 30 _ _ _ rfl rfl LX ?_; simp only [Act.put, List.setIfInBounds_toArray, List.set_cons_zero, List.set_cons_succ]; go_big_quiet_on)
                 | (refine q_load 28 _ _ _ rfl rfl LK ?_; simp only [Act.put, List.setIfInBounds_toArray, List.set_cons_zero, List.set_cons_succ]; go_big_quiet_on)
                 | (go_big_quiet_op; refine ⟨_, fun _ _ => rfl, ?_⟩; go_big_quiet_on)
                 | (go_big_quiet_op; apply Exists.intro; refine ⟨fun w' hw' => ?_, ?_⟩
                    · first
                      | (with_reducible refine (HC.out w' (HBA.out.trans (hw'.mono HBA.out.size))).mono ?_
                         rintro e w2 ⟨rfl, hb2⟩
                         exact ⟨by rw [HCO.out], hw'.trans (hb2.mono hw'.size)⟩)
                    go_big_quiet_on)))
          refine wpQuiet_nil ?_
          intro w5 hb5
          have HB5 := Lib.hid (HB1.out.trans ((HBA.out.trans (hb5.mono HBA.out.size)).mono HB1.out.size))
          clear LX LK hb5
          go_wp2
          go_ret
          exact ⟨by rw [HF.out]; rfl, HB5.out⟩
        · have z2 : ¬ (ks.length : Int) < 2 := by omega
          have HL2 := Lib.hid hl2
          have HBC := Lib.hid (Below.refl W.heap.size W).drew
          clear hl2
          by_cases hls : (redM (ks, y) K).1.length < ks.length
          · have z3 : ((redM (ks, y) K).1.length : Int) < (ks.length : Int) := by omega
            have HF := Lib.hid (HBAD.out (by rw [HGO.out, HCO.out, decide_eq_true (show 2 ≤ ks.length by have := HL2.out; omega)]; have h9 := HLS.out HCO.out; dsimp only at h9; rw [decide_eq_true hls] at h9; simpa using h9.symm))
            clear hls
            refine wp_region_G (fun wx => Below W.heap.size W wx) (by kernel_rfl) ?_
            refine wpG_seg [true] [1] 18 (by kernel_rfl) (by intro c a d v w h; cases d <;> exact h) (by kernel_rfl) HBC.out ?_
            try simp only [maskRows]
            repeat (first
              | go_big_quiet_skip
              | (go_big_quiet_want
                 first
                   | (go_big_quiet_op; go_big_quiet_on)
                   | (refine q_load 30 _ _ _ rfl rfl LX ?_; simp only [Act.put, List.setIfInBounds_toArray, List.set_cons_zero, List.set_cons_succ]; go_big_quiet_on)
                   | (refine q_load 28 _ _ _ rfl rfl LK ?_; simp only [Act.put, List.setIfInBounds_toArray, List.set_cons_zero, List.set_cons_succ]; go_big_quiet_on)
                   | (refine q_field 30 _ 0 _ _ rfl rfl (fun w => run_field0 _ _ w) ?_; simp only [Act.put, List.setIfInBounds_toArray, List.set_cons_zero, List.set_cons_succ]; go_big_quiet_on)
                   | (go_big_quiet_op; refine ⟨_, fun _ _ => rfl, ?_⟩; go_big_quiet_on)
                   | (go_big_quiet_op; refine ⟨_, fun _ _ _ => rfl, ?_⟩; go_big_quiet_on)))
            refine wpQuiet_nil ?_
            refine List.forall_mem_singleton.2 ?_
            refine segt_run rfl (by rfl) (fun K hK => ?_)
            go_simp
            refine (HC.out _ (HBA.out.trans (HBC.out.mono HBA.out.size))).mono ?_
            rintro e w2 ⟨rfl, hb2⟩
            dsimp only
            rw [HCO.out]
            replace HBC := Lib.hid (HBC.out.trans (hb2.mono HBC.out.size))
            clear hb2
            refine hK _ _ ⟨_, fun _ h => h, HBC.out, ?_⟩
            clear hK K
            try simp only [Act.put, List.setIfInBounds_toArray, List.set_cons_zero, List.set_cons_succ]
            refine wpG_seg [false, false, true, true, true, true] [6] 13 (by kernel_rfl) (by intro c a d v w h; cases d <;> exact h) (by kernel_rfl) HBC.out ?_
            try simp only [maskRows]
            repeat (first
              | go_big_quiet_skip
              | (go_big_quiet_want
                 first
                   | (go_big_quiet_op; go_big_quiet_on)
                   | (refine q_load 30 _ _ _ rfl rfl LX ?_; simp only [Act.put, List.setIfInBounds_toArray, List.set_cons_zero, List.set_cons_succ]; go_big_quiet_on)
                   | (refine q_load 28 _ _ _ rfl rfl LK ?_; simp only [Act.put, List.setIfInBounds_toArray, List.set_cons_zero, List.set_cons_succ]; go_big_quiet_on)
                   | (refine q_field 30 _ 0 _ _ rfl rfl (fun w => run_field0 _ _ w) ?_; simp only [Act.put, List.setIfInBounds_toArray, List.set_cons_zero, List.set_cons_succ]; go_big_quiet_on)
                   | (go_big_quiet_op; refine ⟨_, fun _ _ => rfl, ?_⟩; go_big_quiet_on)
                   | (go_big_quiet_op; refine ⟨_, fun _ _ _ => rfl, ?_⟩; go_big_quiet_on)))
            refine wpQuiet_nil ?_
            refine List.forall_mem_singleton.2 ?_
            refine segt_run rfl (by rfl) (fun K hK => ?_)
            go_simp
            refine hK _ _ ⟨_, fun _ h => h, HBC.out, ?_⟩
            clear hK K
            try simp only [Act.put, List.setIfInBounds_toArray, List.set_cons_zero, List.set_cons_succ]
            refine wpG_seg [false, false, false, false, false, false, false, true, true, true, true, true, false, false, false, true, true] [12, 17] 5 (by kernel_rfl) (by intro c a d v w h; cases d <;> exact h) (by kernel_rfl) HBC.out ?_
            try simp only [maskRows]
            repeat (first
              | go_big_quiet_skip
              | (go_big_quiet_want
                 first
                   | (go_big_quiet_op; go_big_quiet_on)
                   | (refine q_load 30 _ _ _ rfl rfl LX ?_; simp only [Act.put, List.setIfInBounds_toArray, List.set_cons_zero, List.set_cons_succ]; go_big_quiet_on)
                   | (refine q_load 28 _ _ _ rfl rfl LK ?_; simp only [Act.put, List.setIfInBounds_toArray, List.set_cons_zero, List.set_cons_succ]; go_big_quiet_on)
                   | (refine q_field 30 _ 0 _ _ rfl rfl (fun w => run_field0 _ _ w) ?_; simp only [Act.put, List.setIfInBounds_toArray, List.set_cons_zero, List.set_cons_succ]; go_big_quiet_on)
                   | (go_big_quiet_op; refine ⟨_, fun _ _ => rfl, ?_⟩; go_big_quiet_on)
                   | (go_big_quiet_op; refine ⟨_, fun _ _ _ => rfl, ?_⟩; go_big_quiet_on)))
            refine wpQuiet_nil ?_
            refine List.forall_mem_cons.2 ⟨?_, List.forall_mem_singleton.2 ?_⟩
            · refine segt_run rfl (by rfl) (fun K hK => ?_)
              go_simp
              refine (HR.out _ (HBA.out.trans (HBC.out.mono HBA.out.size)) HCO.out).mono ?_
              rintro e w3 ⟨v3, rfl, ho3, hb3⟩
              dsimp only
              replace HBC := Lib.hid (HBC.out.trans (hb3.mono HBC.out.size))
              obtain ⟨a3, n3, c3, rfl⟩ := own_shape ho3
              have hn3 := own_lenS ho3
              subst hn3
              clear hb3 ho3
              refine hK _ _ ⟨_, fun _ h => h, HBC.out, ?_⟩
              clear hK K
              try simp only [Act.put, List.setIfInBounds_toArray, List.set_cons_zero, List.set_cons_succ]
              refine wpG_seg [false, false, false, false, false, false, false, false, false, false, false, false, false, true] [14, 17] 3 (by kernel_rfl) (by intro c a d v w h; cases d <;> exact h) (by kernel_rfl) HBC.out ?_
              try simp only [maskRows]
              repeat (first
                | go_big_quiet_skip
                | (go_big_quiet_want
                   first
                     | (go_big_quiet_op; go_big_quiet_on)
                     | (refine q_load 30 _ _ _ rfl rfl LX ?_; simp only [Act.put, List.setIfInBounds_toArray, List.set_cons_zero, List.set_cons_succ]; go_big_quiet_on)
                     | (refine q_load 28 _ _ _ rfl rfl LK ?_; simp only [Act.put, List.setIfInBounds_toArray, List.set_cons_zero, List.set_cons_succ]; go_big_quiet_on)
                     | (refine q_field 30 _ 0 _ _ rfl rfl (fun w => run_field0 _ _ w) ?_; simp only [Act.put, List.setIfInBounds_toArray, List.set_cons_zero, List.set_cons_succ]; go_big_quiet_on)
                     | (go_big_quiet_op; refine ⟨_, fun _ _ => rfl, ?_⟩; go_big_quiet_on)
                     | (go_big_quiet_op; refine ⟨_, fun _ _ _ => rfl, ?_⟩; go_big_quiet_on)))
              refine wpQuiet_nil ?_
              refine List.forall_mem_cons.2 ⟨?_, List.forall_mem_singleton.2 ?_⟩
              · refine segt_run rfl (by rfl) (fun K hK => ?_)
                go_simp
                refine hK _ _ ⟨_, fun _ h => h, HBC.out, ?_⟩
                clear hK K
                try simp only [Act.put, List.setIfInBounds_toArray, List.set_cons_zero, List.set_cons_succ]
                refine wpG_seg [] [17] 2 (by kernel_rfl) (by intro c a d v w h; cases d <;> exact h) (by kernel_rfl) HBC.out ?_
                try simp only [maskRows]
                refine wpQuiet_nil ?_
                refine List.forall_mem_singleton.2 ?_
                refine segt_run rfl (by rfl) (fun K hK => ?_)
                go_simp
                refine hK _ _ ⟨_, fun _ h => h, HBC.out, ?_⟩
                clear hK K
                try simp only [Act.put, List.setIfInBounds_toArray, List.set_cons_zero, List.set_cons_succ]
                refine wpG_end [false, false, false, false, false, false, false, false, false, false, false, false, false, false, false, false, false, false, true, true] (by kernel_rfl) (by intro c a d v w h; cases d <;> exact h) (by kernel_rfl) HBC.out ?_
                try simp only [maskRows]
                repeat (first
                  | go_big_quiet_skip
                  | (go_big_quiet_want
                     first
                       | (go_big_quiet_op; go_big_quiet_on)
                       | (refine q_load 30 _ _ _ rfl rfl LX ?_; simp only [Act.put, List.setIfInBounds_toArray, List.set_cons_zero, List.set_cons_succ]; go_big_quiet_on)
                       | (refine q_load 28 _ _ _ rfl rfl LK ?_; simp only [Act.put, List.setIfInBounds_toArray, List.set_cons_zero, List.set_cons_succ]; go_big_quiet_on)
                       | (refine q_field 30 _ 0 _ _ rfl rfl (fun w => run_field0 _ _ w) ?_; simp only [Act.put, List.setIfInBounds_toArray, List.set_cons_zero, List.set_cons_succ]; go_big_quiet_on)
                       | (go_big_quiet_op; refine ⟨_, fun _ _ => rfl, ?_⟩; go_big_quiet_on)
                       | (go_big_quiet_op; refine ⟨_, fun _ _ _ => rfl, ?_⟩; go_big_quiet_on)))
                refine wpQuiet_nil ?_
                clear LX LK
                have HB5 := Lib.hid (HB1.out.trans ((HBA.out.trans (HBC.out.mono HBA.out.size)).mono HB1.out.size))
                go_wp2
                go_ret
                exact ⟨by rw [HF.out]; rfl, HB5.out⟩
              · refine segt_run rfl (by rfl) (fun K hK => ?_)
                go_simp
                refine hK _ _ ⟨_, fun _ h => h, HBC.out, ?_⟩
                clear hK K
                try simp only [Act.put, List.setIfInBounds_toArray, List.set_cons_zero, List.set_cons_succ]
                refine wpG_seg [] [14] 2 (by kernel_rfl) (by intro c a d v w h; cases d <;> exact h) (by kernel_rfl) HBC.out ?_
                try simp only [maskRows]
                refine wpQuiet_nil ?_
                refine List.forall_mem_singleton.2 ?_
                refine segt_run rfl (by rfl) (fun K hK => ?_)
                go_simp
                refine hK _ _ ⟨_, fun _ h => h, HBC.out, ?_⟩
                clear hK K
                try simp only [Act.put, List.setIfInBounds_toArray, List.set_cons_zero, List.set_cons_succ]
                refine wpG_end [false, false, false, false, false, false, false, false, false, false, false, false, false, false, false, false, false, false, true, true] (by kernel_rfl) (by intro c a d v w h; cases d <;> exact h) (by kernel_rfl) HBC.out ?_
                try simp only [maskRows]
                repeat (first
                  | go_big_quiet_skip
                  | (go_big_quiet_want
                     first
                       | (go_big_quiet_op; go_big_quiet_on)
                       | (refine q_load 30 _ _ _ rfl rfl LX ?_; simp only [Act.put, List.setIfInBounds_toArray, List.set_cons_zero, List.set_cons_succ]; go_big_quiet_on)
                       | (refine q_load 28 _ _ _ rfl rfl LK ?_; simp only [Act.put, List.setIfInBounds_toArray, List.set_cons_zero, List.set_cons_succ]; go_big_quiet_on)
                       | (refine q_field 30 _ 0 _ _ rfl rfl (fun w => run_field0 _ _ w) ?_; simp only [Act.put, List.setIfInBounds_toArray, List.set_cons_zero, List.set_cons_succ]; go_big_quiet_on)
                       | (go_big_quiet_op; refine ⟨_, fun _ _ => rfl, ?_⟩; go_big_quiet_on)
                       | (go_big_quiet_op; refine ⟨_, fun _ _ _ => rfl, ?_⟩; go_big_quiet_on)))
                refine wpQuiet_nil ?_
                clear LX LK
                have HB5 := Lib.hid (HB1.out.trans ((HBA.out.trans (HBC.out.mono HBA.out.size)).mono HB1.out.size))
                go_wp2
                go_ret
                exact ⟨by rw [HF.out]; rfl, HB5.out⟩
            · refine segt_run rfl (by rfl) (fun K hK => ?_)
              go_simp
              refine hK _ _ ⟨_, fun _ h => h, HBC.out, ?_⟩
              clear hK K
              try simp only [Act.put, List.setIfInBounds_toArray, List.set_cons_zero, List.set_cons_succ]
              refine wpG_seg [] [12] 4 (by kernel_rfl) (by intro c a d v w h; cases d <;> exact h) (by kernel_rfl) HBC.out ?_
              try simp only [maskRows]
              refine wpQuiet_nil ?_
              refine List.forall_mem_singleton.2 ?_
              refine segt_run rfl (by rfl) (fun K hK => ?_)
              go_simp
              refine (HR.out _ (HBA.out.trans (HBC.out.mono HBA.out.size)) HCO.out).mono ?_
              rintro e w3 ⟨v3, rfl, ho3, hb3⟩
              dsimp only
              replace HBC := Lib.hid (HBC.out.trans (hb3.mono HBC.out.size))
              obtain ⟨a3, n3, c3, rfl⟩ := own_shape ho3
              have hn3 := own_lenS ho3
              subst hn3
              clear hb3 ho3
              refine hK _ _ ⟨_, fun _ h => h, HBC.out, ?_⟩
              clear hK K
              try simp only [Act.put, List.setIfInBounds_toArray, List.set_cons_zero, List.set_cons_succ]
              refine wpG_seg [false, false, false, false, false, false, false, false, false, false, false, false, false, true] [14] 2 (by kernel_rfl) (by intro c a d v w h; cases d <;> exact h) (by kernel_rfl) HBC.out ?_
              try simp only [maskRows]
              repeat (first
                | go_big_quiet_skip
                | (go_big_quiet_want
                   first
                     | (go_big_quiet_op; go_big_quiet_on)
                     | (refine q_load 30 _ _ _ rfl rfl LX ?_; simp only [Act.put, List.setIfInBounds_toArray, List.set_cons_zero, List.set_cons_succ]; go_big_quiet_on)
                     | (refine q_load 28 _ _ _ rfl rfl LK ?_; simp only [Act.put, List.setIfInBounds_toArray, List.set_cons_zero, List.set_cons_succ]; go_big_quiet_on)
                     | (refine q_field 30 _ 0 _ _ rfl rfl (fun w => run_field0 _ _ w) ?_; simp only [Act.put, List.setIfInBounds_toArray, List.set_cons_zero, List.set_cons_succ]; go_big_quiet_on)
                     | (go_big_quiet_op; refine ⟨_, fun _ _ => rfl, ?_⟩; go_big_quiet_on)
                     | (go_big_quiet_op; refine ⟨_, fun _ _ _ => rfl, ?_⟩; go_big_quiet_on)))
              refine wpQuiet_nil ?_
              refine List.forall_mem_singleton.2 ?_
              refine segt_run rfl (by rfl) (fun K hK => ?_)
              go_simp
              refine hK _ _ ⟨_, fun _ h => h, HBC.out, ?_⟩
              clear hK K
              try simp only [Act.put, List.setIfInBounds_toArray, List.set_cons_zero, List.set_cons_succ]
              refine wpG_end [false, false, false, false, false, false, false, false, false, false, false, false, false, false, false, false, false, false, true, true] (by kernel_rfl) (by intro c a d v w h; cases d <;> exact h) (by kernel_rfl) HBC.out ?_
              try simp only [maskRows]
              repeat (first
                | go_big_quiet_skip
                | (go_big_quiet_want
                   first
                     | (go_big_quiet_op; go_big_quiet_on)
                     | (refine q_load 30 _ _ _ rfl rfl LX ?_; simp only [Act.put, List.setIfInBounds_toArray, List.set_cons_zero, List.set_cons_succ]; go_big_quiet_on)
                     | (refine q_load 28 _ _ _ rfl rfl LK ?_; simp only [Act.put, List.setIfInBounds_toArray, List.set_cons_zero, List.set_cons_succ]; go_big_quiet_on)
                     | (refine q_field 30 _ 0 _ _ rfl rfl (fun w => run_field0 _ _ w) ?_; simp only [Act.put, List.setIfInBounds_toArray, List.set_cons_zero, List.set_cons_succ]; go_big_quiet_on)
                     | (go_big_quiet_op; refine ⟨_, fun _ _ => rfl, ?_⟩; go_big_quiet_on)
                     | (go_big_quiet_op; refine ⟨_, fun _ _ _ => rfl, ?_⟩; go_big_quiet_on)))
              refine wpQuiet_nil ?_
              clear LX LK
              have HB5 := Lib.hid (HB1.out.trans ((HBA.out.trans (HBC.out.mono HBA.out.size)).mono HB1.out.size))
              go_wp2
              go_ret
              exact ⟨by rw [HF.out]; rfl, HB5.out⟩
          · have z3 : ¬ ((redM (ks, y) K).1.length : Int) < (ks.length : Int) := by omega
            have HF := Lib.hid (HNX.out (by rw [HGO.out, HCO.out, decide_eq_true (show 2 ≤ ks.length by have := HL2.out; omega)]; have h9 := HLS.out HCO.out; dsimp only at h9; rw [decide_eq_false hls] at h9; simpa using h9.symm))
            clear hls
            refine wp_region_G (fun wx => Below W.heap.size W wx) (by kernel_rfl) ?_
            refine wpG_seg [true] [1] 18 (by kernel_rfl) (by intro c a d v w h; cases d <;> exact h) (by kernel_rfl) HBC.out ?_
            try simp only [maskRows]
            repeat (first
              | go_big_quiet_skip
              | (go_big_quiet_want
                 first
                   | (go_big_quiet_op; go_big_quiet_on)
                   | (refine q_load 30 _ _ _ rfl rfl LX ?_; simp only [Act.put, List.setIfInBounds_toArray, List.set_cons_zero, List.set_cons_succ]; go_big_quiet_on)
                   | (refine q_load 28 _ _ _ rfl rfl LK ?_; simp only [Act.put, List.setIfInBounds_toArray, List.set_cons_zero, List.set_cons_succ]; go_big_quiet_on)
                   | (refine q_field 30 _ 0 _ _ rfl rfl (fun w => run_field0 _ _ w) ?_; simp only [Act.put, List.setIfInBounds_toArray, List.set_cons_zero, List.set_cons_succ]; go_big_quiet_on)
                   | (go_big_quiet_op; refine ⟨_, fun _ _ => rfl, ?_⟩; go_big_quiet_on)
                   | (go_big_quiet_op; refine ⟨_, fun _ _ _ => rfl, ?_⟩; go_big_quiet_on)))
            refine wpQuiet_nil ?_
            refine List.forall_mem_singleton.2 ?_
            refine segt_run rfl (by rfl) (fun K hK => ?_)
            go_simp
            refine (HC.out _ (HBA.out.trans (HBC.out.mono HBA.out.size))).mono ?_
            rintro e w2 ⟨rfl, hb2⟩
            dsimp only
            rw [HCO.out]
            replace HBC := Lib.hid (HBC.out.trans (hb2.mono HBC.out.size))
            clear hb2
            refine hK _ _ ⟨_, fun _ h => h, HBC.out, ?_⟩
            clear hK K
            try simp only [Act.put, List.setIfInBounds_toArray, List.set_cons_zero, List.set_cons_succ]
            refine wpG_seg [false, false, true, true, true, true] [6] 13 (by kernel_rfl) (by intro c a d v w h; cases d <;> exact h) (by kernel_rfl) HBC.out ?_
            try simp only [maskRows]
            repeat (first
              | go_big_quiet_skip
              | (go_big_quiet_want
                 first
                   | (go_big_quiet_op; go_big_quiet_on)
                   | (refine q_load 30 _ _ _ rfl rfl LX ?_; simp only [Act.put, List.setIfInBounds_toArray, List.set_cons_zero, List.set_cons_succ]; go_big_quiet_on)
                   | (refine q_load 28 _ _ _ rfl rfl LK ?_; simp only [Act.put, List.setIfInBounds_toArray, List.set_cons_zero, List.set_cons_succ]; go_big_quiet_on)
                   | (refine q_field 30 _ 0 _ _ rfl rfl (fun w => run_field0 _ _ w) ?_; simp only [Act.put, List.setIfInBounds_toArray, List.set_cons_zero, List.set_cons_succ]; go_big_quiet_on)
                   | (go_big_quiet_op; refine ⟨_, fun _ _ => rfl, ?_⟩; go_big_quiet_on)
                   | (go_big_quiet_op; refine ⟨_, fun _ _ _ => rfl, ?_⟩; go_big_quiet_on)))
            refine wpQuiet_nil ?_
            refine List.forall_mem_singleton.2 ?_
            refine segt_run rfl (by rfl) (fun K hK => ?_)
            go_simp
            refine hK _ _ ⟨_, fun _ h => h, HBC.out, ?_⟩
            clear hK K
            try simp only [Act.put, List.setIfInBounds_toArray, List.set_cons_zero, List.set_cons_succ]
            refine wpG_seg [false, false, false, false, false, false, false, true, true, true, true, true, false, false, false, true, true] [12, 17] 5 (by kernel_rfl) (by intro c a d v w h; cases d <;> exact h) (by kernel_rfl) HBC.out ?_
            try simp only [maskRows]
            repeat (first
              | go_big_quiet_skip
              | (go_big_quiet_want
                 first
                   | (go_big_quiet_op; go_big_quiet_on)
                   | (refine q_load 30 _ _ _ rfl rfl LX ?_; simp only [Act.put, List.setIfInBounds_toArray, List.set_cons_zero, List.set_cons_succ]; go_big_quiet_on)
                   | (refine q_load 28 _ _ _ rfl rfl LK ?_; simp only [Act.put, List.setIfInBounds_toArray, List.set_cons_zero, List.set_cons_succ]; go_big_quiet_on)
                   | (refine q_field 30 _ 0 _ _ rfl rfl (fun w => run_field0 _ _ w) ?_; simp only [Act.put, List.setIfInBounds_toArray, List.set_cons_zero, List.set_cons_succ]; go_big_quiet_on)
                   | (go_big_quiet_op; refine ⟨_, fun _ _ => rfl, ?_⟩; go_big_quiet_on)
                   | (go_big_quiet_op; refine ⟨_, fun _ _ _ => rfl, ?_⟩; go_big_quiet_on)))
            refine wpQuiet_nil ?_
            refine List.forall_mem_cons.2 ⟨?_, List.forall_mem_singleton.2 ?_⟩
            · refine segt_run rfl (by rfl) (fun K hK => ?_)
              go_simp
              refine (HR.out _ (HBA.out.trans (HBC.out.mono HBA.out.size)) HCO.out).mono ?_
              rintro e w3 ⟨v3, rfl, ho3, hb3⟩
              dsimp only
              replace HBC := Lib.hid (HBC.out.trans (hb3.mono HBC.out.size))
              obtain ⟨a3, n3, c3, rfl⟩ := own_shape ho3
              have hn3 := own_lenS ho3
              subst hn3
              clear hb3 ho3
              refine hK _ _ ⟨_, fun _ h => h, HBC.out, ?_⟩
              clear hK K
              try simp only [Act.put, List.setIfInBounds_toArray, List.set_cons_zero, List.set_cons_succ]
              refine wpG_seg [false, false, false, false, false, false, false, false, false, false, false, false, false, true] [14, 17] 3 (by kernel_rfl) (by intro c a d v w h; cases d <;> exact h) (by kernel_rfl) HBC.out ?_
              try simp only [maskRows]
              repeat (first
                | go_big_quiet_skip
                | (go_big_quiet_want
                   first
                     | (go_big_quiet_op; go_big_quiet_on)
                     | (refine q_load 30 _ _ _ rfl rfl LX ?_; simp only [Act.put, List.setIfInBounds_toArray, List.set_cons_zero, List.set_cons_succ]; go_big_quiet_on)
                     | (refine q_load 28 _ _ _ rfl rfl LK ?_; simp only [Act.put, List.setIfInBounds_toArray, List.set_cons_zero, List.set_cons_succ]; go_big_quiet_on)
                     | (refine q_field 30 _ 0 _ _ rfl rfl (fun w => run_field0 _ _ w) ?_; simp only [Act.put, List.setIfInBounds_toArray, List.set_cons_zero, List.set_cons_succ]; go_big_quiet_on)
                     | (go_big_quiet_op; refine ⟨_, fun _ _ => rfl, ?_⟩; go_big_quiet_on)
                     | (go_big_quiet_op; refine ⟨_, fun _ _ _ => rfl, ?_⟩; go_big_quiet_on)))
              refine wpQuiet_nil ?_
              refine List.forall_mem_cons.2 ⟨?_, List.forall_mem_singleton.2 ?_⟩
              · refine segt_run rfl (by rfl) (fun K hK => ?_)
                go_simp
                refine hK _ _ ⟨_, fun _ h => h, HBC.out, ?_⟩
                clear hK K
                try simp only [Act.put, List.setIfInBounds_toArray, List.set_cons_zero, List.set_cons_succ]
                refine wpG_seg [] [17] 2 (by kernel_rfl) (by intro c a d v w h; cases d <;> exact h) (by kernel_rfl) HBC.out ?_
                try simp only [maskRows]
                refine wpQuiet_nil ?_
                refine List.forall_mem_singleton.2 ?_
                refine segt_run rfl (by rfl) (fun K hK => ?_)
                go_simp
                refine hK _ _ ⟨_, fun _ h => h, HBC.out, ?_⟩
                clear hK K
                try simp only [Act.put, List.setIfInBounds_toArray, List.set_cons_zero, List.set_cons_succ]
                refine wpG_end [false, false, false, false, false, false, false, false, false, false, false, false, false, false, false, false, false, false, true, true] (by kernel_rfl) (by intro c a d v w h; cases d <;> exact h) (by kernel_rfl) HBC.out ?_
                try simp only [maskRows]
                repeat (first
                  | go_big_quiet_skip
                  | (go_big_quiet_want
                     first
                       | (go_big_quiet_op; go_big_quiet_on)
                       | (refine q_load 30 _ _ _ rfl rfl LX ?_; simp only [Act.put, List.setIfInBounds_toArray, List.set_cons_zero, List.set_cons_succ]; go_big_quiet_on)
                       | (refine q_load 28 _ _ _ rfl rfl LK ?_; simp only [Act.put, List.setIfInBounds_toArray, List.set_cons_zero, List.set_cons_succ]; go_big_quiet_on)
                       | (refine q_field 30 _ 0 _ _ rfl rfl (fun w => run_field0 _ _ w) ?_; simp only [Act.put, List.setIfInBounds_toArray, List.set_cons_zero, List.set_cons_succ]; go_big_quiet_on)
                       | (go_big_quiet_op; refine ⟨_, fun _ _ => rfl, ?_⟩; go_big_quiet_on)
                       | (go_big_quiet_op; refine ⟨_, fun _ _ _ => rfl, ?_⟩; go_big_quiet_on)))
                refine wpQuiet_nil ?_
                clear LX LK
                have HB5 := Lib.hid (HB1.out.trans ((HBA.out.trans (HBC.out.mono HBA.out.size)).mono HB1.out.size))
                go_wp2
                exact ⟨⟨k + 1, by omega, by go_num, HF.out, HB5.out⟩, by simp [intOf]; omega⟩
              · refine segt_run rfl (by rfl) (fun K hK => ?_)
                go_simp
                refine hK _ _ ⟨_, fun _ h => h, HBC.out, ?_⟩
                clear hK K
                try simp only [Act.put, List.setIfInBounds_toArray, List.set_cons_zero, List.set_cons_succ]
                refine wpG_seg [] [14] 2 (by kernel_rfl) (by intro c a d v w h; cases d <;> exact h) (by kernel_rfl) HBC.out ?_
                try simp only [maskRows]
                refine wpQuiet_nil ?_
                refine List.forall_mem_singleton.2 ?_
                refine segt_run rfl (by rfl) (fun K hK => ?_)
                go_simp
                refine hK _ _ ⟨_, fun _ h => h, HBC.out, ?_⟩
                clear hK K
                try simp only [Act.put, List.setIfInBounds_toArray, List.set_cons_zero, List.set_cons_succ]
                refine wpG_end [false, false, false, false, false, false, false, false, false, false, false, false, false, false, false, false, false, false, true, true] (by kernel_rfl) (by intro c a d v w h; cases d <;> exact h) (by kernel_rfl) HBC.out ?_
                try simp only [maskRows]
                repeat (first
                  | go_big_quiet_skip
                  | (go_big_quiet_want
                     first
                       | (go_big_quiet_op; go_big_quiet_on)
                       | (refine q_load 30 _ _ _ rfl rfl LX ?_; simp only [Act.put, List.setIfInBounds_toArray, List.set_cons_zero, List.set_cons_succ]; go_big_quiet_on)
                       | (refine q_load 28 _ _ _ rfl rfl LK ?_; simp only [Act.put, List.setIfInBounds_toArray, List.set_cons_zero, List.set_cons_succ]; go_big_quiet_on)
                       | (refine q_field 30 _ 0 _ _ rfl rfl (fun w => run_field0 _ _ w) ?_; simp only [Act.put, List.setIfInBounds_toArray, List.set_cons_zero, List.set_cons_succ]; go_big_quiet_on)
                       | (go_big_quiet_op; refine ⟨_, fun _ _ => rfl, ?_⟩; go_big_quiet_on)
                       | (go_big_quiet_op; refine ⟨_, fun _ _ _ => rfl, ?_⟩; go_big_quiet_on)))
                refine wpQuiet_nil ?_
                clear LX LK
                have HB5 := Lib.hid (HB1.out.trans ((HBA.out.trans (HBC.out.mono HBA.out.size)).mono HB1.out.size))
                go_wp2
                exact ⟨⟨k + 1, by omega, by go_num, HF.out, HB5.out⟩, by simp [intOf]; omega⟩
            · refine segt_run rfl (by rfl) (fun K hK => ?_)
              go_simp
              refine hK _ _ ⟨_, fun _ h => h, HBC.out, ?_⟩
              clear hK K
              try simp only [Act.put, List.setIfInBounds_toArray, List.set_cons_zero, List.set_cons_succ]
              refine wpG_seg [] [12] 4 (by kernel_rfl) (by intro c a d v w h; cases d <;> exact h) (by kernel_rfl) HBC.out ?_
              try simp only [maskRows]
              refine wpQuiet_nil ?_
              refine List.forall_mem_singleton.2 ?_
              refine segt_run rfl (by rfl) (fun K hK => ?_)
              go_simp
              refine (HR.out _ (HBA.out.trans (HBC.out.mono HBA.out.size)) HCO.out).mono ?_
              rintro e w3 ⟨v3, rfl, ho3, hb3⟩
              dsimp only
              replace HBC := Lib.hid (HBC.out.trans (hb3.mono HBC.out.size))
              obtain ⟨a3, n3, c3, rfl⟩ := own_shape ho3
              have hn3 := own_lenS ho3
              subst hn3
              clear hb3 ho3
              refine hK _ _ ⟨_, fun _ h => h, HBC.out, ?_⟩
              clear hK K
              try simp only [Act.put, List.setIfInBounds_toArray, List.set_cons_zero, List.set_cons_succ]
              refine wpG_seg [false, false, false, false, false, false, false, false, false, false, false, false, false, true] [14] 2 (by kernel_rfl) (by intro c a d v w h; cases d <;> exact h) (by kernel_rfl) HBC.out ?_
              try simp only [maskRows]
              repeat (first
                | go_big_quiet_skip
                | (go_big_quiet_want
                   first
                     | (go_big_quiet_op; go_big_quiet_on)
                     | (refine q_load 30 _ _ _ rfl rfl LX ?_; simp only [Act.put, List.setIfInBounds_toArray, List.set_cons_zero, List.set_cons_succ]; go_big_quiet_on)
                     | (refine q_load 28 _ _ _ rfl rfl LK ?_; simp only [Act.put, List.setIfInBounds_toArray, List.set_cons_zero, List.set_cons_succ]; go_big_quiet_on)
                     | (refine q_field 30 _ 0 _ _ rfl rfl (fun w => run_field0 _ _ w) ?_; simp only [Act.put, List.setIfInBounds_toArray, List.set_cons_zero, List.set_cons_succ]; go_big_quiet_on)
                     | (go_big_quiet_op; refine ⟨_, fun _ _ => rfl, ?_⟩; go_big_quiet_on)
                     | (go_big_quiet_op; refine ⟨_, fun _ _ _ => rfl, ?_⟩; go_big_quiet_on)))
              refine wpQuiet_nil ?_
              refine List.forall_mem_singleton.2 ?_
              refine segt_run rfl (by rfl) (fun K hK => ?_)
              go_simp
              refine hK _ _ ⟨_, fun _ h => h, HBC.out, ?_⟩
              clear hK K
              try simp only [Act.put, List.setIfInBounds_toArray, List.set_cons_zero, List.set_cons_succ]
              refine wpG_end [false, false, false, false, false, false, false, false, false, false, false, false, false, false, false, false, false, false, true, true] (by kernel_rfl) (by intro c a d v w h; cases d <;> exact h) (by kernel_rfl) HBC.out ?_
              try simp only [maskRows]
              repeat (first
                | go_big_quiet_skip
                | (go_big_quiet_want
                   first
                     | (go_big_quiet_op; go_big_quiet_on)
                     | (refine q_load 30 _ _ _ rfl rfl LX ?_; simp only [Act.put, List.setIfInBounds_toArray, List.set_cons_zero, List.set_cons_succ]; go_big_quiet_on)
                     | (refine q_load 28 _ _ _ rfl rfl LK ?_; simp only [Act.put, List.setIfInBounds_toArray, List.set_cons_zero, List.set_cons_succ]; go_big_quiet_on)
                     | (refine q_field 30 _ 0 _ _ rfl rfl (fun w => run_field0 _ _ w) ?_; simp only [Act.put, List.setIfInBounds_toArray, List.set_cons_zero, List.set_cons_succ]; go_big_quiet_on)
                     | (go_big_quiet_op; refine ⟨_, fun _ _ => rfl, ?_⟩; go_big_quiet_on)
                     | (go_big_quiet_op; refine ⟨_, fun _ _ _ => rfl, ?_⟩; go_big_quiet_on)))
              refine wpQuiet_nil ?_
              clear LX LK
              have HB5 := Lib.hid (HB1.out.trans ((HBA.out.trans (HBC.out.mono HBA.out.size)).mono HB1.out.size))
              go_wp2
              exact ⟨⟨k + 1, by omega, by go_num, HF.out, HB5.out⟩, by simp [intOf]; omega⟩
    · obtain rfl : k = L.length := by omega
      have HB := Lib.hid hb
      have HPP := Lib.hid (HP.out _ hb hall)
      have HDE := Lib.hid (show decide (WaitP K L) = ((cntP L L.length : Int) == (L.length : Int)) from by
        by_cases hw : WaitP K L
        · rw [decide_eq_true hw, (cnt_nodup L).2 (HWP.out.1 hw).2]; simp
        · rw [decide_eq_false hw]
          symm
          refine beq_eq_false_iff_ne.2 fun e => hw (HWP.out.2 ⟨hall, (cnt_nodup L).1 (by omega)⟩))
      clear hcells hall hb
      go_wp2_with fail
      refine HPP.out.mono ?_
      rintro e w2 ⟨rfl, hpl, hb2⟩
      have hlen := fun ty => hpl.len ty
      have HB2 := Lib.hid (HB.out.trans (hb2.mono HB.out.size))
      clear hpl hb2
      go_wp2
      go_ret
      exact ⟨by rw [HDE.out]; rfl, HB2.out⟩
end Go.Proofs.Ytadjmfhhpkjpaaa
namespace Go.Proofs.Ytadjmfhhpkjpaaa
open Go.ChangeShapes Go.WideShapes Go.ChangeAt Go.RowKit Go.BigFrame
set_option linter.unusedVariables false
set_option linter.unusedSimpArgs false

def snV (s : Snk) (vk vw : Value) : Value := .agg #[.int .i64 s.most, vk, vw, .int .i64 s.same, .int .i64 s.lost, .int .i64 s.bad]
end Go.Proofs.Ytadjmfhhpkjpaaa
namespace Go.Proofs.Ytadjmfhhpkjpaaa
open Go.ChangeShapes Go.WideShapes Go.ChangeAt Go.RowKit Go.BigFrame Go.Maps
set_option linter.unusedVariables false
set_option linter.unusedSimpArgs false

def snC (s : Snk) (vk vw : Value) : Array Value := #[.int .i64 s.most, vk, vw, .int .i64 s.same, .int .i64 s.lost, .int .i64 s.bad]
theorem snV_eq (s : Snk) (vk vw : Value) : snV s vk vw = .agg (snC s vk vw) := rfl
theorem row6_of {W : World} {b : Nat} {v0 v1 v2 v3 v4 v5 : Value} {T : TypeId} (h : W.heap[b]? = some (.cells #[v0, v1, v2, v3, v4, v5] T (0, 0))) :
    (W.cell? ⟨b, 0, none⟩ = some v0 ∧ W.cell? ⟨b, 1, none⟩ = some v1 ∧ W.cell? ⟨b, 2, none⟩ = some v2 ∧ W.cell? ⟨b, 3, none⟩ = some v3 ∧ W.cell? ⟨b, 4, none⟩ = some v4 ∧ W.cell? ⟨b, 5, none⟩ = some v5) ∧
    (W.frozen? ⟨b, 0, none⟩ = false ∧ W.frozen? ⟨b, 1, none⟩ = false ∧ W.frozen? ⟨b, 2, none⟩ = false ∧ W.frozen? ⟨b, 3, none⟩ = false ∧ W.frozen? ⟨b, 4, none⟩ = false ∧ W.frozen? ⟨b, 5, none⟩ = false) := by
  refine ⟨⟨?_, ?_, ?_, ?_, ?_, ?_⟩, ?_, ?_, ?_, ?_, ?_, ?_⟩
  · rw [cell_of_row _ _ 0 _ _ _ h]; rfl
  · rw [cell_of_row _ _ 1 _ _ _ h]; rfl
  · rw [cell_of_row _ _ 2 _ _ _ h]; rfl
  · rw [cell_of_row _ _ 3 _ _ _ h]; rfl
  · rw [cell_of_row _ _ 4 _ _ _ h]; rfl
  · rw [cell_of_row _ _ 5 _ _ _ h]; rfl
  all_goals simp [World.frozen?, h]
/-- a sink's six cells, written one by one -/
abbrev set6 (W : World) (b : Nat) (u0 u1 u2 u3 u4 u5 : Value) : World := (((((W.setCell ⟨b, 0, none⟩ u0).setCell ⟨b, 1, none⟩ u1).setCell ⟨b, 2, none⟩ u2).setCell ⟨b, 3, none⟩ u3).setCell ⟨b, 4, none⟩ u4).setCell ⟨b, 5, none⟩ u5
theorem sn_set {W : World} {b : Nat} {v0 v1 v2 v3 v4 v5 : Value} {T : TypeId} (h : W.heap[b]? = some (.cells #[v0, v1, v2, v3, v4, v5] T (0, 0))) (u0 u1 u2 u3 u4 u5 : Value) :
    (set6 W b u0 u1 u2 u3 u4 u5).heap[b]? = some (.cells #[u0, u1, u2, u3, u4, u5] T (0, 0)) :=
  set_cellsR _ (set_cellsR _ (set_cellsR _ (set_cellsR _ (set_cellsR _ (set_cellsR _ h)))))
theorem sn_setB {w W : World} {B b : Nat} (h : Below B w W) (hb : B ≤ b) (u0 u1 u2 u3 u4 u5 : Value) : Below B w (set6 W b u0 u1 u2 u3 u4 u5) :=
  (((((h.setCell (p := ⟨b, 0, none⟩) hb u0).setCell (p := ⟨b, 1, none⟩) hb u1).setCell (p := ⟨b, 2, none⟩) hb u2).setCell (p := ⟨b, 3, none⟩) hb u3).setCell (p := ⟨b, 4, none⟩) hb u4).setCell (p := ⟨b, 5, none⟩) hb u5
theorem sn_load {W : World} {b : Nat} {v0 v1 v2 v3 v4 v5 : Value} (h : W.heap[b]? = some (.cells #[v0, v1, v2, v3, v4, v5] 27 (0, 0))) : (loadVar 27 ⟨b, 0, none⟩).run Try.prog W = .ok (.agg #[v0, v1, v2, v3, v4, v5]) W :=
  run_loadVar_row (P := Try.prog) W b 27 27 #[v0, v1, v2, v3, v4, v5] (0, 0) _ h Try.underlying27 rfl (by kernel_rfl)
set_option maxRecDepth 20000 in
theorem icountok_any (n : Int) (w : World) : Calls Try.prog 52 #[.int .i64 n] w fun e w' => e = .returned (.bool (cntOk n)) ∧ w' = w := by
  have e : cntOk n = (decide (0 ≤ n) && decide (n ≤ 1000000000)) := rfl
  rw [e]
  go_enter Try.func52, Try.ntmps52
  by_cases h1 : 0 ≤ n
  · by_cases h2 : n ≤ 1000000000
    · go_wp2
      go_ret
      simp [h1, h2]
    · go_wp2
      go_ret
      simp [h1, h2]
  · go_wp2
    go_ret
    simp [h1]
    try omega
set_option maxRecDepth 100000 in
set_option maxHeartbeats 2000000 in
theorem isinkok_any (s : Snk) (vk vw : Value) (w : World) (hk : rdAt w vk s.known) (hw : cdAv w none vw s.wait) (hsk : s.known.length ≤ 1048576) (hsw : s.wait.length ≤ 1048576) (hx : ∀ x ∈ s.wait, x.1.length ≤ 1048576) :
    Calls Try.prog 12 #[snV s vk vw] w fun e w' => e = .returned (.bool (sinkOkB s)) ∧ Below w.heap.size w w' := by
  obtain ⟨mo, kn, wa, sa, lo, ba⟩ := s
  dsimp only at *
  have hb := (Below.refl w.heap.size w).alloc (Nat.le_refl _) (.cells #[.int .i64 mo, vk, vw, .int .i64 sa, .int .i64 lo, .int .i64 ba] 27)
  have HX := Lib.hid (heap_alloc_new w (.cells #[.int .i64 mo, vk, vw, .int .i64 sa, .int .i64 lo, .int .i64 ba] 27))
  have HB := Lib.hid hb
  have HR := Lib.hid (fun wx (hbx : Below w.heap.size w wx) => ireadingsok_any vk kn wx (rdAt_below hk hbx) (by omega))
  have HW := Lib.hid (fun wx (hbx : Below w.heap.size w wx) (hok : rdsOkR kn = true) => iwaitok_any vw wa vk kn wx (cdAv_below hw hbx) (rdAt_below hk hbx) (by omega) hsk hok hx)
  obtain ⟨ak, ck, rfl, -, -⟩ := hk
  obtain ⟨aw, cw, rfl, -, -⟩ := hw
  have HS := Lib.hid (show ∀ b : Bool, (SnkP ⟨mo, kn, wa, sa, lo, ba⟩ ↔ b = true) → sinkOkB ⟨mo, kn, wa, sa, lo, ba⟩ = b from fun b h => by
    unfold sinkOkB
    by_cases hp : SnkP ⟨mo, kn, wa, sa, lo, ba⟩
    · rw [decide_eq_true hp, h.1 hp]
    · rw [decide_eq_false hp]
      cases b with
      | false => rfl
      | true => exact absurd (h.2 rfl) hp)
  clear hb
  rw [snV_eq]
  unfold snC
  dsimp only
  by_cases a1 : mo < 0
  · have HF := Lib.hid (HS.out false ⟨fun h => (by have h9 := h.most; dsimp only at h9; omega), fun h => (by cases h)⟩)
    go_enter Try.func12, Try.ntmps12
    go_upto_region 1 with (fail)
    generalize w.alloc (.cells #[.int .i64 mo, .slice ak kn.length ck, .slice aw wa.length cw, .int .i64 sa, .int .i64 lo, .int .i64 ba] 27) = W at *
    obtain ⟨⟨x0, x1, x2, x3, x4, x5⟩, -⟩ := row6_of HX.out
    go_wp2
    go_ret
    exact ⟨by rw [HF.out]; rfl, HB.out⟩
  by_cases a2 : 12 < mo
  · have HF := Lib.hid (HS.out false ⟨fun h => (by have h9 := h.most; dsimp only at h9; omega), fun h => (by cases h)⟩)
    go_enter Try.func12, Try.ntmps12
    go_upto_region 1 with (fail)
    generalize w.alloc (.cells #[.int .i64 mo, .slice ak kn.length ck, .slice aw wa.length cw, .int .i64 sa, .int .i64 lo, .int .i64 ba] 27) = W at *
    obtain ⟨⟨x0, x1, x2, x3, x4, x5⟩, -⟩ := row6_of HX.out
    go_wp2
    go_ret
    exact ⟨by rw [HF.out]; rfl, HB.out⟩
  cases c1 : cntOk sa with
  | false =>
    have C1 := Lib.hid c1
    have HF := Lib.hid (HS.out false ⟨fun h => (by have h9 := h.same; dsimp only at h9; rw [c1] at h9; cases h9), fun h => (by cases h)⟩)
    clear c1
    go_enter Try.func12, Try.ntmps12
    go_upto_region 1 with (fail)
    generalize w.alloc (.cells #[.int .i64 mo, .slice ak kn.length ck, .slice aw wa.length cw, .int .i64 sa, .int .i64 lo, .int .i64 ba] 27) = W at *
    obtain ⟨⟨x0, x1, x2, x3, x4, x5⟩, -⟩ := row6_of HX.out
    go_wp2_with fail
    refine (icountok_any _ _).mono ?_
    rintro e w2 ⟨rfl, rfl⟩
    rw [C1.out]
    go_wp2
    go_ret
    exact ⟨by rw [HF.out]; rfl, HB.out⟩
  | true =>
    have C1 := Lib.hid c1
    clear c1
    cases c2 : cntOk lo with
    | false =>
      have C2 := Lib.hid c2
      have HF := Lib.hid (HS.out false ⟨fun h => (by have h9 := h.lost; dsimp only at h9; rw [c2] at h9; cases h9), fun h => (by cases h)⟩)
      clear c2
      go_enter Try.func12, Try.ntmps12
      go_upto_region 1 with (fail)
      generalize w.alloc (.cells #[.int .i64 mo, .slice ak kn.length ck, .slice aw wa.length cw, .int .i64 sa, .int .i64 lo, .int .i64 ba] 27) = W at *
      obtain ⟨⟨x0, x1, x2, x3, x4, x5⟩, -⟩ := row6_of HX.out
      go_wp2_with fail
      refine (icountok_any _ _).mono ?_
      rintro e w2 ⟨rfl, rfl⟩
      rw [C1.out]
      go_wp2_with fail
      refine (icountok_any _ _).mono ?_
      rintro e w3 ⟨rfl, rfl⟩
      rw [C2.out]
      go_wp2
      go_ret
      exact ⟨by rw [HF.out]; rfl, HB.out⟩
    | true =>
      have C2 := Lib.hid c2
      clear c2
      cases c3 : cntOk ba with
      | false =>
        have C3 := Lib.hid c3
        have HF := Lib.hid (HS.out false ⟨fun h => (by have h9 := h.bad; dsimp only at h9; rw [c3] at h9; cases h9), fun h => (by cases h)⟩)
        clear c3
        go_enter Try.func12, Try.ntmps12
        go_upto_region 1 with (fail)
        generalize w.alloc (.cells #[.int .i64 mo, .slice ak kn.length ck, .slice aw wa.length cw, .int .i64 sa, .int .i64 lo, .int .i64 ba] 27) = W at *
        obtain ⟨⟨x0, x1, x2, x3, x4, x5⟩, -⟩ := row6_of HX.out
        go_wp2_with fail
        refine (icountok_any _ _).mono ?_
        rintro e w2 ⟨rfl, rfl⟩
        rw [C1.out]
        go_wp2_with fail
        refine (icountok_any _ _).mono ?_
        rintro e w3 ⟨rfl, rfl⟩
        rw [C2.out]
        go_wp2_with fail
        refine (icountok_any _ _).mono ?_
        rintro e w4 ⟨rfl, rfl⟩
        rw [C3.out]
        go_wp2
        go_ret
        exact ⟨by rw [HF.out]; rfl, HB.out⟩
      | true =>
        have C3 := Lib.hid c3
        clear c3
        cases c4 : rdsOkR kn with
        | false =>
          have C4 := Lib.hid c4
          have HF := Lib.hid (HS.out false ⟨fun h => (by have h9 := h.known; dsimp only at h9; rw [c4] at h9; cases h9), fun h => (by cases h)⟩)
          clear c4
          go_enter Try.func12, Try.ntmps12
          go_upto_region 1 with (fail)
          generalize w.alloc (.cells #[.int .i64 mo, .slice ak kn.length ck, .slice aw wa.length cw, .int .i64 sa, .int .i64 lo, .int .i64 ba] 27) = W at *
          obtain ⟨⟨x0, x1, x2, x3, x4, x5⟩, -⟩ := row6_of HX.out
          go_wp2_with fail
          refine (icountok_any _ _).mono ?_
          rintro e w2 ⟨rfl, rfl⟩
          rw [C1.out]
          go_wp2_with fail
          refine (icountok_any _ _).mono ?_
          rintro e w3 ⟨rfl, rfl⟩
          rw [C2.out]
          go_wp2_with fail
          refine (icountok_any _ _).mono ?_
          rintro e w4 ⟨rfl, rfl⟩
          rw [C3.out]
          go_wp2_with fail
          refine (HR.out _ HB.out).mono ?_
          rintro e w7 ⟨rfl, hb7⟩
          rw [C4.out]
          have HB7 := Lib.hid (HB.out.trans (hb7.mono HB.out.size))
          obtain ⟨⟨x0, x1, x2, x3, x4, x5⟩, -⟩ := row6_of ((hb7.block _ (Array.getElem?_eq_some_iff.1 HX.out).1).trans HX.out)
          clear hb7
          go_wp2
          go_ret
          exact ⟨by rw [HF.out]; rfl, HB7.out⟩
        | true =>
          have C4 := Lib.hid c4
          clear c4
          by_cases a5 : (wa.length : Int) ≤ mo
          · have A5 := Lib.hid a5
            have HF := Lib.hid (HS.out (decide (WaitP kn wa)) ⟨fun h => decide_eq_true h.wait, fun h => ⟨⟨by dsimp only; omega, by dsimp only; omega⟩, C4.out, A5.out, C1.out, C2.out, C3.out, of_decide_eq_true h⟩⟩)
            go_enter Try.func12, Try.ntmps12
            go_upto_region 1 with (fail)
            generalize w.alloc (.cells #[.int .i64 mo, .slice ak kn.length ck, .slice aw wa.length cw, .int .i64 sa, .int .i64 lo, .int .i64 ba] 27) = W at *
            obtain ⟨⟨x0, x1, x2, x3, x4, x5⟩, -⟩ := row6_of HX.out
            go_wp2_with fail
            refine (icountok_any _ _).mono ?_
            rintro e w2 ⟨rfl, rfl⟩
            rw [C1.out]
            go_wp2_with fail
            refine (icountok_any _ _).mono ?_
            rintro e w3 ⟨rfl, rfl⟩
            rw [C2.out]
            go_wp2_with fail
            refine (icountok_any _ _).mono ?_
            rintro e w4 ⟨rfl, rfl⟩
            rw [C3.out]
            go_wp2_with fail
            refine (HR.out _ HB.out).mono ?_
            rintro e w7 ⟨rfl, hb7⟩
            rw [C4.out]
            have HB7 := Lib.hid (HB.out.trans (hb7.mono HB.out.size))
            obtain ⟨⟨x0, x1, x2, x3, x4, x5⟩, -⟩ := row6_of ((hb7.block _ (Array.getElem?_eq_some_iff.1 HX.out).1).trans HX.out)
            clear hb7
            go_wp2_with fail
            refine (HW.out _ HB7.out C4.out).mono ?_
            rintro e w8 ⟨rfl, hb8⟩
            have HB8 := Lib.hid (HB7.out.trans (hb8.mono HB7.out.size))
            clear hb8
            go_wp2
            go_ret
            exact ⟨by rw [HF.out]; rfl, HB8.out⟩
          · have HF := Lib.hid (HS.out false ⟨fun h => (by have h9 := h.room; exact absurd h9 a5), fun h => (by cases h)⟩)
            go_enter Try.func12, Try.ntmps12
            go_upto_region 1 with (fail)
            generalize w.alloc (.cells #[.int .i64 mo, .slice ak kn.length ck, .slice aw wa.length cw, .int .i64 sa, .int .i64 lo, .int .i64 ba] 27) = W at *
            obtain ⟨⟨x0, x1, x2, x3, x4, x5⟩, -⟩ := row6_of HX.out
            go_wp2_with fail
            refine (icountok_any _ _).mono ?_
            rintro e w2 ⟨rfl, rfl⟩
            rw [C1.out]
            go_wp2_with fail
            refine (icountok_any _ _).mono ?_
            rintro e w3 ⟨rfl, rfl⟩
            rw [C2.out]
            go_wp2_with fail
            refine (icountok_any _ _).mono ?_
            rintro e w4 ⟨rfl, rfl⟩
            rw [C3.out]
            go_wp2_with fail
            refine (HR.out _ HB.out).mono ?_
            rintro e w7 ⟨rfl, hb7⟩
            rw [C4.out]
            have HB7 := Lib.hid (HB.out.trans (hb7.mono HB.out.size))
            obtain ⟨⟨x0, x1, x2, x3, x4, x5⟩, -⟩ := row6_of ((hb7.block _ (Array.getElem?_eq_some_iff.1 HX.out).1).trans HX.out)
            clear hb7
            go_wp2
            go_ret
            exact ⟨by rw [HF.out]; rfl, HB7.out⟩
set_option maxRecDepth 100000 in
set_option maxHeartbeats 1000000 in
theorem inewsink_any (n : Int) (w : World) : Calls Try.prog 19 #[.int .i64 n] w fun e w' => e = .returned (snV (newM n) (.slice none 0 0) (.slice none 0 0)) ∧ Below w.heap.size w w' := by
  have hb0 := (Below.refl w.heap.size w).alloc (Nat.le_refl _) (.cells #[.int .i64 0, .slice none 0 0, .slice none 0 0, .int .i64 0, .int .i64 0, .int .i64 0] 27)
  have hb1 := hb0.alloc hb0.size (.cells #[.int .i64 n, .slice none 0 0, .slice none 0 0, .int .i64 0, .int .i64 0, .int .i64 0] 27)
  have hx := heap_alloc_new (w.alloc (.cells #[.int .i64 0, .slice none 0 0, .slice none 0 0, .int .i64 0, .int .i64 0, .int .i64 0] 27)) (.cells #[.int .i64 n, .slice none 0 0, .slice none 0 0, .int .i64 0, .int .i64 0, .int .i64 0] 27)
  rw [show (w.alloc (.cells #[.int .i64 0, .slice none 0 0, .slice none 0 0, .int .i64 0, .int .i64 0, .int .i64 0] 27)).heap.size = w.heap.size + 1 by simp] at hx
  have HX := Lib.hid hx
  have HR := Lib.hid (heap_first w (.cells #[.int .i64 n, .slice none 0 0, .slice none 0 0, .int .i64 0, .int .i64 0, .int .i64 0] 27) (.cells #[.int .i64 0, .slice none 0 0, .slice none 0 0, .int .i64 0, .int .i64 0, .int .i64 0] 27))
  have HB := Lib.hid hb1
  have HS := Lib.hid (fun wx => isinkok_any ⟨n, [], [], 0, 0, 0⟩ (.slice none 0 0) (.slice none 0 0) wx ⟨none, 0, rfl, Nat.le_refl _, .inl rfl⟩ ⟨none, 0, rfl, Nat.le_refl _, .inl rfl⟩ (by simp) (by simp) (fun x hx => by cases hx))
  have hm : sinkOkB ⟨n, [], [], 0, 0, 0⟩ = decide (0 ≤ n ∧ n ≤ 12) := by
    unfold sinkOkB
    by_cases h : 0 ≤ n ∧ n ≤ 12
    · rw [decide_eq_true h]
      exact decide_eq_true ⟨h, rfl, by simpa using h.1, rfl, rfl, rfl, WaitP.nil _⟩
    · rw [decide_eq_false h]
      exact decide_eq_false fun hp => h hp.most
  unfold snV at HS
  dsimp only at HS
  clear hb0 hb1 hx
  go_enter Try.func19, Try.ntmps19
  go_upto_region 2 with (fail)
  generalize (w.alloc (.cells #[.int .i64 0, .slice none 0 0, .slice none 0 0, .int .i64 0, .int .i64 0, .int .i64 0] 27)).alloc (.cells #[.int .i64 n, .slice none 0 0, .slice none 0 0, .int .i64 0, .int .i64 0, .int .i64 0] 27) = W at *
  obtain ⟨⟨x0, x1, x2, x3, x4, x5⟩, -⟩ := row6_of HX.out
  go_wp2_with fail
  refine (HS.out _).mono ?_
  rintro e w2 ⟨rfl, hb2⟩
  rw [hm]
  have hr2 := (hb2.block _ (Array.getElem?_eq_some_iff.1 HR.out).1).trans HR.out
  have hx2 := (hb2.block _ (Array.getElem?_eq_some_iff.1 HX.out).1).trans HX.out
  have HB2 := Lib.hid (HB.out.trans (hb2.mono HB.out.size))
  have HN := Lib.hid (show newM n = if 0 ≤ n ∧ n ≤ 12 then ⟨n, [], [], 0, 0, 0⟩ else noSnk from rfl)
  clear x0 x1 x2 x3 x4 x5 hb2 hm HS
  obtain ⟨⟨x0, x1, x2, x3, x4, x5⟩, -⟩ := row6_of hx2
  obtain ⟨⟨y0, y1, y2, y3, y4, y5⟩, f0, f1, f2, f3, f4, f5⟩ := row6_of hr2
  by_cases hn : 0 ≤ n ∧ n ≤ 12
  · rw [decide_eq_true hn]
    have HFV := Lib.hid (show newM n = ⟨n, [], [], 0, 0, 0⟩ by rw [HN.out, if_pos hn])
    clear hn HN
    have HF := Lib.hid (sn_set hr2 (.int .i64 n) (.slice none 0 0) (.slice none 0 0) (.int .i64 0) (.int .i64 0) (.int .i64 0))
    have HBF := Lib.hid (sn_setB HB2.out (Nat.le_refl _) (.int .i64 n) (.slice none 0 0) (.slice none 0 0) (.int .i64 0) (.int .i64 0) (.int .i64 0))
    clear hr2 hx2
    go_wp2
    refine bodyPost_ret (v := snV ⟨n, [], [], 0, 0, 0⟩ (.slice none 0 0) (.slice none 0 0)) ?_ rfl ⟨by rw [HFV.out], HBF.out⟩
    rw [results_cell (p := 2) (ty := 27) (by kernel_rfl)]
    have l2 := sn_load HF.out
    simp [asAddr, Result.andThen, l2, snV]
  · rw [decide_eq_false hn]
    have HFV := Lib.hid (show newM n = noSnk by rw [HN.out, if_neg hn])
    clear hn HN
    have HF := Lib.hid (sn_set hr2 (.int .i64 0) (.slice none 0 0) (.slice none 0 0) (.int .i64 0) (.int .i64 0) (.int .i64 0))
    have HBF := Lib.hid (sn_setB HB2.out (Nat.le_refl _) (.int .i64 0) (.slice none 0 0) (.slice none 0 0) (.int .i64 0) (.int .i64 0) (.int .i64 0))
    clear hr2 hx2
    go_wp2
    refine bodyPost_ret (v := snV noSnk (.slice none 0 0) (.slice none 0 0)) ?_ rfl ⟨by rw [HFV.out], HBF.out⟩
    rw [results_cell (p := 2) (ty := 27) (by kernel_rfl)]
    have l2 := sn_load HF.out
    simp [asAddr, Result.andThen, l2, snV, noSnk]
end Go.Proofs.Ytadjmfhhpkjpaaa
namespace Go.Proofs.Ytadjmfhhpkjpaaa
open Go.ChangeShapes Go.WideShapes Go.ChangeAt Go.RowKit Go.BigFrame Go.Maps
set_option linter.unusedVariables false
set_option linter.unusedSimpArgs false

/-- all old blocks are as they were, but those of X -/
structure KeepX (X : Nat → Prop) (w w' : World) : Prop where
  os : w'.os = w.os
  tape : w'.tape = w.tape
  output : w'.output = w.output
  size : w.heap.size ≤ w'.heap.size
  block : ∀ k, k < w.heap.size → ¬ X k → w'.heap[k]? = w.heap[k]?
theorem KeepX.refl (X : Nat → Prop) (w : World) : KeepX X w w := ⟨rfl, rfl, rfl, Nat.le_refl _, fun _ _ _ => rfl⟩
theorem KeepX.trans {X : Nat → Prop} {a b c : World} (h : KeepX X a b) (k : KeepX X b c) : KeepX X a c :=
  ⟨k.os.trans h.os, k.tape.trans h.tape, k.output.trans h.output, Nat.le_trans h.size k.size, fun j hj hx => (k.block j (Nat.lt_of_lt_of_le hj h.size) hx).trans (h.block j hj hx)⟩
theorem KeepX.wider {X Y : Nat → Prop} {a b : World} (h : KeepX X a b) (hxy : ∀ k, X k → Y k) : KeepX Y a b := ⟨h.os, h.tape, h.output, h.size, fun k hk hy => h.block k hk (fun hx => hy (hxy k hx))⟩
theorem KeepX.below {X : Nat → Prop} {a b : World} (h : Below a.heap.size a b) : KeepX X a b := ⟨h.os, h.tape, h.output, h.size, fun k hk _ => h.block k hk⟩
theorem KeepX.grown {X : Nat → Prop} {a b : World} {row : Option Nat} (h : a.grownBy b row) (hx : ∀ k, row = some k → X k) : KeepX X a b := ⟨h.os, h.tape, h.output, h.size, fun k hk hn => h.block k hk (fun e => hn (hx k e.symm))⟩
/-- new blocks, and blocks of X that are not old for base -/
theorem KeepX.toBelow {X : Nat → Prop} {B : Nat} {w0 a b : World} (h : KeepX X a b) (h0 : Below B w0 a) (hB : B ≤ a.heap.size) (hx : ∀ k, X k → B ≤ k) : Below B w0 b :=
  ⟨h.os.trans h0.os, h.tape.trans h0.tape, h.output.trans h0.output, Nat.le_trans h0.size h.size, fun k hk => (h.block k (Nat.lt_of_lt_of_le hk hB) (fun x => by have := hx k x; omega)).trans (h0.block k hk)⟩
theorem own_block {w w' : World} {base n : Nat} {e : TypeId} {size : Nat} {v : Value} {xs : List Value} (h : w.ownsRow base e size v n xs) (hb : ∀ g, v.ownBlock = some g → w'.heap[g]? = w.heap[g]?) : w'.ownsRow base e size v n xs := by
  refine ⟨h.1, ?_⟩
  rcases h.2 with h1 | ⟨g, cap, cur, rfl, h2, h3, h4, h5, h6⟩
  · exact .inl h1
  · exact .inr ⟨g, cap, cur, rfl, h2, (hb g rfl).trans h3, h4, h5, h6⟩
theorem KeepX.own {X : Nat → Prop} {w w' : World} (h : KeepX X w w') {base n : Nat} {e : TypeId} {size : Nat} {v : Value} {xs : List Value} (ho : w.ownsRow base e size v n xs) (hx : ∀ g, v.ownBlock = some g → ¬ X g) : w'.ownsRow base e size v n xs :=
  own_block ho fun g hg => h.block g (ho.lt g hg).2 (hx g hg)
theorem KeepX.row {X : Nat → Prop} {w w' : World} (h : KeepX X w w') {b : Nat} {o : Obj} (hr : w.heap[b]? = some o) (hx : ¬ X b) : w'.heap[b]? = some o := (h.block b (Array.getElem?_eq_some_iff.1 hr).1 hx).trans hr
theorem KeepX.map {X : Nat → Prop} {w w' : World} (h : KeepX X w w') {b m : Nat} {P : List K2 → Option Nat} (hp : PlI w b P m) (hx : ¬ X b) : PlI w' b P m := by
  obtain ⟨D, h1, ⟨es, clock, hb, r⟩, h3, h4⟩ := hp
  exact ⟨D, h1, ⟨es, clock, h.row hb hx, r⟩, h3, h4⟩
/-- words of one's own, each with keys of its own -/
structure CdD (w : World) (base : Nat) (v : Value) (us : List Value) (L : List C2) : Prop where
  len : us.length = L.length
  own : w.ownsRow base 30 2 v L.length (cdCells us L)
  keys : ∀ i, i < L.length → w.ownsRow base 43 2 (us.getD i undef) (L.getD i blankC).1.length (keyCells (L.getD i blankC).1)
  ne : ∀ i, i < L.length → ∀ b, (us.getD i undef).ownBlock = some b → v.ownBlock ≠ some b
  dist : ∀ i j, i < j → j < L.length → ∀ b, (us.getD j undef).ownBlock = some b → (us.getD i undef).ownBlock ≠ some b
theorem CdD.nil (w : World) (base : Nat) : CdD w base (.slice none 0 0) [] [] := ⟨rfl, World.ownsRow_nil .., fun i hi => by simp at hi, fun i hi => by simp at hi, fun i j _ hj => by simp at hj⟩
theorem keysAv_ne {w : World} {base : Nat} {v : Value} {ks : List K2} {b : Option Nat} (h : w.ownsRow base 43 2 v ks.length (keyCells ks)) (hb : ∀ g, v.ownBlock = some g → b ≠ some g) : keysAv w b v ks := by
  rcases h.2 with ⟨rfl, h0⟩ | ⟨g, cap, cur, rfl, hbg, hg, hn, hm, hs, ht⟩
  · exact ⟨none, 0, by rw [h0], by omega, .inl h0⟩
  · refine ⟨_, cap, rfl, hn, .inr ⟨g, 0, rfl, (Array.getElem?_eq_some_iff.1 hg).1, fun e => hb g rfl e.symm, fun i hi => ?_⟩⟩
    have hc := keyCells_get ks i hi
    rw [Nat.zero_add, h.cellAt (i * 2) (by omega), h.cellAt (i * 2 + 1) (by omega)]
    exact hc
theorem CdD.cd {w : World} {base : Nat} {v : Value} {us : List Value} {L : List C2} (h : CdD w base v us L) : cdOwn w base v us L := ⟨h.len, h.own, fun i hi => keysAv_ne (h.keys i hi) (h.ne i hi)⟩
theorem CdD.at {w : World} {base : Nat} {v : Value} {us : List Value} {L : List C2} (h : CdD w base v us L) : cdAv w none v L := cdAv_any h.cd.to
theorem CdD.base {w : World} {base base' : Nat} {v : Value} {us : List Value} {L : List C2} (h : CdD w base v us L) (hb : base' ≤ base) : CdD w base' v us L :=
  ⟨h.len, own_base h.own hb, fun i hi => own_base (h.keys i hi) hb, h.ne, h.dist⟩
theorem CdD.keep {X : Nat → Prop} {w w' : World} {base : Nat} {v : Value} {us : List Value} {L : List C2} (h : CdD w base v us L) (hk : KeepX X w w') (h1 : ∀ g, v.ownBlock = some g → ¬ X g) (h2 : ∀ i, i < L.length → ∀ g, (us.getD i undef).ownBlock = some g → ¬ X g) : CdD w' base v us L :=
  ⟨h.len, hk.own h.own h1, fun i hi => hk.own (h.keys i hi) (h2 i hi), h.ne, h.dist⟩
theorem CdD.below {w w' : World} {base : Nat} {v : Value} {us : List Value} {L : List C2} (h : CdD w base v us L) (hb : Below w.heap.size w w') : CdD w' base v us L :=
  h.keep (KeepX.below (X := fun _ => False) hb) (fun _ _ h => h) (fun _ _ _ _ h => h)
theorem getD_app {A : Type} (d : A) (a b : List A) (i : Nat) : (a ++ b).getD i d = if i < a.length then a.getD i d else b.getD (i - a.length) d := by
  split
  · rename_i h; simp only [List.getD]; rw [List.getElem?_append_left h]
  · rename_i h; simp only [List.getD]; rw [List.getElem?_append_right (by omega)]
/-- a word more, behind -/
theorem CdD.push {w : World} {base : Nat} {v : Value} {us : List Value} {L : List C2} (h : CdD w base v us L) (g0 c0 : Nat) (u : Value) (x : C2) (ty : TypeId) (hrow : w.heap[g0]? = some (.cells #[u, .string x.2] 30 (0, 0)))
    (hu : w.ownsRow base 43 2 u x.1.length (keyCells x.1)) (hne : ∀ b, u.ownBlock = some b → v.ownBlock ≠ some b) (hdist : ∀ i, i < L.length → ∀ b, u.ownBlock = some b → (us.getD i undef).ownBlock ≠ some b)
    (hn : L.length ≤ 1000000) (hbase : base ≤ w.heap.size) :
    ∃ v' w', (Builtin.append_ #[25, 25] ty #[v, .slice (some ⟨g0, 0, none⟩) 1 c0]).run Try.prog w = .ok v' w' ∧ CdD w' base v' (us ++ [u]) (L ++ [x]) ∧ w.grownBy w' v.ownBlock ∧ (v'.ownBlock = v.ownBlock ∨ v'.ownBlock = some w.heap.size) := by
  obtain ⟨i0, hi, hz0, hz1, hz2⟩ := info_parts infoC
  obtain ⟨ua, un, uc, rfl⟩ := own_shape hu
  obtain ⟨v', w', hr, h2, h3, h4, h5⟩ := run_append_own_at (P := Try.prog) w base 25 ty 30 i0 (.agg #[.slice none 0 0, .string ⟨#[]⟩]) 2 40 Try.underlying25 hi hz0 hz1 hz2 rfl (by decide) v L.length (cdCells us L) h.own ⟨g0, 0, none⟩ 1 c0 (cdCells [.slice ua un uc] [x]) rfl
    (fun j q hj => by
      have hadd : (⟨g0, 0, none⟩ : Addr).add j = ⟨g0, j, none⟩ := by unfold Addr.add; split <;> simp_all
      rw [hadd, cell_of_row _ _ _ _ _ _ hrow]; simpa [cdCells] using hj) (cdCells_one [.slice ua un uc] [x] (fun q hq => by rw [List.mem_singleton.1 hq]; exact ⟨_, _, _, rfl⟩)) (by unfold maxLen; omega) (by omega) hbase
  have hl1 : (L ++ [x]).length = L.length + 1 := by simp
  refine ⟨v', w', hr, ⟨by simp [h.len], by rw [hl1, cdCells_app _ _ _ _ h.len]; exact h2, fun i hi => ?_, fun i hi b hb => ?_, fun i j hij hj b hb => ?_⟩, h3, h5⟩
  · rw [hl1] at hi
    rw [getD_app, getD_app, h.len]
    by_cases hlt : i < L.length
    · rw [if_pos hlt, if_pos hlt]
      refine (h.keys i hlt).kept h3 ?_
      cases hv : (us.getD i undef).ownBlock with
      | none => exact .inl rfl
      | some b => exact .inr fun e => h.ne i hlt b hv e.symm
    · obtain rfl : i = L.length := by omega
      rw [if_neg hlt, if_neg hlt, Nat.sub_self]
      have hd : (Value.slice ua un uc).ownBlock = none ∨ (Value.slice ua un uc).ownBlock ≠ v.ownBlock := by
        cases hv : (Value.slice ua un uc).ownBlock with
        | none => exact .inl rfl
        | some b => exact .inr fun e => hne b hv e.symm
      exact World.ownsRow.kept hu h3 hd
  · rw [hl1] at hi
    rw [getD_app, h.len] at hb
    have hold : v.ownBlock ≠ some b ∧ b < w.heap.size := by
      by_cases hlt : i < L.length
      · rw [if_pos hlt] at hb; exact ⟨h.ne i hlt b hb, ((h.keys i hlt).lt b hb).2⟩
      · obtain rfl : i = L.length := by omega
        rw [if_neg hlt, Nat.sub_self] at hb
        exact ⟨hne b hb, (hu.lt b hb).2⟩
    rcases h5 with e | e
    · rw [e]; exact hold.1
    · rw [e]; intro e2; have := Option.some.inj e2; omega
  · rw [hl1] at hj
    rw [getD_app, h.len] at hb ⊢
    rw [if_pos (by omega)]
    by_cases hlt : j < L.length
    · rw [if_pos hlt] at hb
      exact h.dist i j hij hlt b hb
    · obtain rfl : j = L.length := by omega
      rw [if_neg hlt, Nat.sub_self] at hb
      exact hdist i hij b hb
/-- the word at a place, written anew -/
theorem CdD.set {w : World} {base g cap : Nat} {us : List Value} {L : List C2} (h : CdD w base (.slice (some ⟨g, 0, none⟩) L.length cap) us L) {at' : Nat} (hat : at' < L.length) {u : Value} {x : C2} (hu : w.ownsRow base 43 2 u x.1.length (keyCells x.1))
    (hne : u.ownBlock ≠ some g) (hdist : ∀ i, i < L.length → ∀ b, u.ownBlock = some b → (us.getD i undef).ownBlock ≠ some b) :
    CdD ((w.setCell ⟨g, at' * 2, none⟩ u).setCell ⟨g, at' * 2 + 1, none⟩ (.string x.2)) base (.slice (some ⟨g, 0, none⟩) L.length cap) (us.set at' u) (L.set at' x) := by
  have st1 := h.own.stored (at' * 2) u
  have st2 := st1.1.stored (at' * 2 + 1) (.string x.2)
  rw [cdCells_set us L at' u x h.len] at st2
  have hgr : w.grownBy ((w.setCell ⟨g, at' * 2, none⟩ u).setCell ⟨g, at' * 2 + 1, none⟩ (.string x.2)) (some g) := grown_trans (Lib.grownBy_setCell w g (at' * 2) u) (Lib.grownBy_setCell _ g (at' * 2 + 1) (.string x.2))
  have hgu : ∀ i, (us.set at' u).getD i undef = if i = at' then u else us.getD i undef := fun i => by
    simp only [List.getD]
    by_cases e : i = at'
    · rw [if_pos e, e, List.getElem?_set_self (by rw [h.len]; exact hat)]; rfl
    · rw [if_neg e, List.getElem?_set_ne (fun e2 => e e2.symm)]
  have hgL : ∀ i, (L.set at' x).getD i blankC = if i = at' then x else L.getD i blankC := fun i => by
    simp only [List.getD]
    by_cases e : i = at'
    · rw [if_pos e, e, List.getElem?_set_self hat]; rfl
    · rw [if_neg e, List.getElem?_set_ne (fun e2 => e e2.symm)]
  have hk : ∀ (v : Value) (n : Nat) (xs : List Value), w.ownsRow base 43 2 v n xs → v.ownBlock ≠ some g → ((w.setCell ⟨g, at' * 2, none⟩ u).setCell ⟨g, at' * 2 + 1, none⟩ (.string x.2)).ownsRow base 43 2 v n xs := fun v n xs ho hn => ho.kept hgr (.inr hn)
  have hne' : ∀ i, i < L.length → (us.getD i undef).ownBlock ≠ some g := fun i hi e => h.ne i hi g e rfl
  refine ⟨by simp [h.len], by rw [List.length_set]; exact st2.1, fun i hi => ?_, fun i hi b hb => ?_, fun i j hij hj b hb => ?_⟩
  · rw [List.length_set] at hi
    rw [hgu, hgL]
    split
    · exact hk _ _ _ hu hne
    · exact hk _ _ _ (h.keys i hi) (hne' i hi)
  · rw [List.length_set] at hi
    rw [hgu] at hb
    split at hb
    · intro e; have : g = b := Option.some.inj e; exact hne (this ▸ hb)
    · exact h.ne i hi b hb
  · rw [List.length_set] at hj
    rw [hgu] at hb ⊢
    split at hb
    · rw [if_neg (by omega)]; exact hdist i (by omega) b hb
    · split
      · intro e; exact hdist j hj b e hb
      · exact h.dist i j hij hj b hb
end Go.Proofs.Ytadjmfhhpkjpaaa
namespace Go.Proofs.Ytadjmfhhpkjpaaa
open Go.ChangeShapes Go.WideShapes Go.ChangeAt Go.RowKit Go.BigFrame Go.Maps
set_option linter.unusedVariables false
set_option linter.unusedSimpArgs false

theorem grown_setCellsQ (g : Nat) : ∀ (vs : List Value) (o : Nat) (w : World), w.grownBy (w.setCells g o vs) (some g)
  | [], _, w => World.grownBy.refl _ _
  | v :: r, o, w => grown_trans (Lib.grownBy_setCell w g o v) (grown_setCellsQ g r (o + 1) _)
def QRd (w : World) (base : Nat) (v : Value) (C : List R3) : Prop :=
  (v = .slice none 0 0 ∧ C = []) ∨ ∃ b off c, v = .slice (some ⟨b, off, none⟩) C.length c ∧ base ≤ b ∧ b < w.heap.size ∧ C.length ≤ c ∧
    (∀ j, j < C.length * 3 → w.cell? ⟨b, off + j, none⟩ = (rdCells C)[j]?) ∧ ∀ j, j < c * 3 → (w.cell? ⟨b, off + j, none⟩).isSome = true ∧ w.frozen? ⟨b, off + j, none⟩ = false
theorem QRd.of_own {w : World} {base : Nat} {v : Value} {C : List R3} (h : w.ownsRow base 46 3 v C.length (rdCells C)) : QRd w base v C := by
  have hall := h
  rcases h.2 with ⟨rfl, h0⟩ | ⟨g, cap, cur, rfl, hb, hblk, hn, hm, hsz, hpre⟩
  · exact .inl ⟨rfl, List.length_eq_zero_iff.1 h0⟩
  · refine .inr ⟨g, 0, cap, rfl, hb, (hall.lt g rfl).2, hn, fun j hj => ?_, fun j hj => ⟨?_, ?_⟩⟩
    · rw [Nat.zero_add]; exact hall.cellAt j hj
    · rw [Nat.zero_add]
      have : w.cell? ⟨g, j, none⟩ = cur[j]? := by simp [World.cell?, hblk]
      rw [this, Array.getElem?_eq_getElem (by omega)]; rfl
    · rw [Nat.zero_add]; exact hall.frozenAt j
theorem QRd.kept {w w' : World} {base : Nat} {v : Value} {C : List R3} {row : Option Nat} (h : QRd w base v C) (hg : w.grownBy w' row) (hne : v.ownBlock = none ∨ v.ownBlock ≠ row) : QRd w' base v C := by
  rcases h with h | ⟨b, off, c, rfl, h1, h2, h3, h4, h5⟩
  · exact .inl h
  · have hbk : w'.heap[b]? = w.heap[b]? := hg.block b h2 (fun e => by rcases hne with h | h; cases h; exact h (show some b = row from e))
    refine .inr ⟨b, off, c, rfl, h1, Nat.lt_of_lt_of_le h2 hg.size, h3, fun j hj => ?_, fun j hj => ⟨?_, ?_⟩⟩
    · rw [World.cell?_of_block (w := w) (w' := w') (a := ⟨b, off + j, none⟩) hbk]; exact h4 j hj
    · rw [World.cell?_of_block (w := w) (w' := w') (a := ⟨b, off + j, none⟩) hbk]; exact (h5 j hj).1
    · rw [World.frozen?_of_block (w := w) (w' := w') (a := ⟨b, off + j, none⟩) hbk]; exact (h5 j hj).2
theorem QRd.below {w w' : World} {base : Nat} {v : Value} {C : List R3} (h : QRd w base v C) (hb : Below w.heap.size w w') : QRd w' base v C := by
  refine h.kept (grown_of_below' hb none) ?_
  cases v.ownBlock with
  | none => exact .inl rfl
  | some g => exact .inr (fun e => by cases e)
theorem QRd.shape {w : World} {base : Nat} {v : Value} {C : List R3} (h : QRd w base v C) : ∃ a c, v = .slice a C.length c := by
  rcases h with ⟨rfl, rfl⟩ | ⟨b, off, c, rfl, -⟩
  · exact ⟨_, _, rfl⟩
  · exact ⟨_, _, rfl⟩
theorem slice_oneR (g o n c : Nat) (hc : n + 1 ≤ c) : ∃ o', ((c - 1 = 0 ∧ o' = o) ∨ o' = o + 3) ∧ ∀ w : World, (Instr.slice 24 (.slice (some ⟨g, o, none⟩) (n + 1) c) (some (.int .i64 1)) none none).run Try.prog w = .ok (.slice (some ⟨g, o', none⟩) n (c - 1)) w := by
  have u := Try.underlying24
  obtain ⟨i0, hi, hz0, hz1, hz2⟩ := info_parts infoR
  by_cases h : c = 1
  · subst h
    obtain rfl : n = 0 := by omega
    exact ⟨o, .inl ⟨rfl, rfl⟩, fun w => by go_simp⟩
  · refine ⟨o + 3, .inr rfl, fun w => ?_⟩
    have h1 : ¬ c - 1 = 0 := by omega
    have h2 : (1 : Int) ≤ (n : Int) + 1 := by omega
    have h3 : (n : Int) + 1 ≤ (c : Int) := by omega
    go_simp
theorem QRd.head {w : World} {base : Nat} {v : Value} {k : R3} {C : List R3} (h : QRd w base v (k :: C)) :
    ∃ b off c, v = .slice (some ⟨b, off, none⟩) (C.length + 1) c ∧ base ≤ b ∧ b < w.heap.size ∧ w.cell? ⟨b, off, none⟩ = some (.int .i64 k.1.1) ∧ w.cell? ⟨b, off + 1, none⟩ = some (.int .i64 k.1.2) ∧ w.cell? ⟨b, off + 2, none⟩ = some (.string k.2) := by
  rcases h with ⟨-, h⟩ | ⟨b, off, c, rfl, h1, h2, h3, h4, h5⟩
  · cases h
  · exact ⟨b, off, c, rfl, h1, h2, (h4 0 (by simp)).trans rfl, (h4 1 (by simp; omega)).trans rfl, (h4 2 (by simp; omega)).trans rfl⟩
theorem QRd.tail {w : World} {base : Nat} {v : Value} {k : R3} {C : List R3} (h : QRd w base v (k :: C)) :
    ∃ v', (∀ w' : World, (Instr.slice 24 v (some (.int .i64 1)) none none).run Try.prog w' = .ok v' w') ∧ QRd w base v' C ∧ v'.ownBlock = v.ownBlock := by
  rcases h with ⟨-, h⟩ | ⟨b, off, c, rfl, h1, h2, h3, h4, h5⟩
  · cases h
  · rw [List.length_cons] at h3 h4 ⊢
    obtain ⟨o', ho, hr⟩ := slice_oneR b off C.length c h3
    refine ⟨_, hr, .inr ⟨b, o', c - 1, rfl, h1, h2, by omega, fun j hj => ?_, fun j hj => ?_⟩, rfl⟩
    · rcases ho with ⟨h0, -⟩ | rfl
      · omega
      · rw [show off + 3 + j = off + (j + 3) by omega, h4 (j + 3) (by omega)]
        rfl
    · rcases ho with ⟨h0, -⟩ | rfl
      · omega
      · rw [show off + 3 + j = off + (j + 3) by omega]
        exact h5 (j + 3) (by omega)
theorem rdCells_appQ (a b : List R3) : rdCells (a ++ b) = rdCells a ++ rdCells b := by simp [rdCells]
theorem src_rds {w : World} {u : Value} {ks : List R3} (hu : rdAt w u ks) : Src Try.prog 3 24 u ks.length (rdCells ks) w := by
  obtain ⟨a, cap, rfl, hcap, hcells⟩ := hu
  by_cases h0 : ks.length = 0
  · obtain rfl : ks = [] := List.length_eq_zero_iff.1 h0
    cases a with
    | none => exact Src.ofNil w Try.underlying24 cap
    | some a => exact Src.ofSlice w Try.underlying24 a 0 cap [] rfl (fun j u h => by cases h) (fun u h => by cases h)
  · obtain ⟨g, off, rfl, hg, hcs⟩ := hcells.resolve_left h0
    exact Src.ofSlice w Try.underlying24 ⟨g, off, none⟩ ks.length cap (rdCells ks) (rdCells_len ks) (rdCells_at hcs) (rdCells_one ks)
theorem QRd.append {w : World} {base : Nat} {v : Value} {C : List R3} (h : QRd w base v C) (u : Value) (ks : List R3) (hu : rdAt w u ks) (ty : TypeId) (hn : C.length + ks.length ≤ 4000000) (hbase : base ≤ w.heap.size) :
    ∃ v' w', (Builtin.append_ #[24, 24] ty #[v, u]).run Try.prog w = .ok v' w' ∧ QRd w' base v' (C ++ ks) ∧ w.grownBy w' v.ownBlock ∧ (v'.ownBlock = v.ownBlock ∨ v'.ownBlock = some w.heap.size) := by
  obtain ⟨i0, hi, hz0, hz1, hz2⟩ := info_parts infoR
  have hs := src_rds hu
  rcases h with ⟨rfl, rfl⟩ | ⟨b, off, c, rfl, h1, h2, h3, h4, h5⟩
  · obtain ⟨v', w', hr, g2, g3, g5⟩ := run_append_rd5 (World.ownsRow_nil w base 46 3) u ks hu ty (by simpa using hn) hbase
    have g2' : w'.ownsRow base 46 3 v' ks.length (rdCells ks) := by simpa using g2
    exact ⟨v', w', hr, QRd.of_own g2', g3, g5⟩
  · by_cases hfit : C.length + ks.length ≤ c
    · have hkl := rdCells_len ks
      have hrun := run_append_room_src (P := Try.prog) w 24 24 ty 46 i0 Try.underlying24 hi b off C.length c u ks.length (rdCells ks) (by rw [hz1]; exact hs) hfit
        (fun j hj => by rw [hz1, Nat.add_assoc]; exact (h5 _ (by omega)).1) (fun j hj => by rw [hz1, Nat.add_assoc]; exact (h5 _ (by omega)).2)
      rw [hz1] at hrun
      have hsome : ∀ j, j < (rdCells ks).length → (w.cell? ⟨b, off + C.length * 3 + j, none⟩).isSome = true := fun j hj => by rw [Nat.add_assoc]; exact (h5 _ (by omega)).1
      have hin : ∀ j (hj : j < (rdCells ks).length), (w.setCells b (off + C.length * 3) (rdCells ks)).cell? ⟨b, off + (C.length * 3 + j), none⟩ = some (rdCells ks)[j] := fun j hj => by
        rw [← Nat.add_assoc]
        exact World.cell?_setCells_in b (rdCells ks) (off + C.length * 3) w hsome j hj
      have hout : ∀ j, j < C.length * 3 ∨ C.length * 3 + (rdCells ks).length ≤ j → (w.setCells b (off + C.length * 3) (rdCells ks)).cell? ⟨b, off + j, none⟩ = w.cell? ⟨b, off + j, none⟩ := fun j hj =>
        World.cell?_setCells_out b _ _ _ _ (fun _ _ => by show off + j < off + C.length * 3 ∨ off + C.length * 3 + (rdCells ks).length ≤ off + j; omega)
      have hgr := grown_setCellsQ b (rdCells ks) (off + C.length * 3) w
      refine ⟨_, _, hrun, .inr ⟨b, off, c, by rw [List.length_append], h1, Nat.lt_of_lt_of_le h2 hgr.size, by rw [List.length_append]; exact hfit, fun j hj => ?_, fun j hj => ⟨?_, ?_⟩⟩, hgr, .inl rfl⟩
      · rw [List.length_append] at hj
        rw [rdCells_appQ]
        by_cases hj2 : j < C.length * 3
        · rw [hout j (.inl hj2), h4 j hj2, List.getElem?_append_left (by rw [rdCells_len]; exact hj2)]
        · obtain ⟨t, rfl⟩ : ∃ t, j = C.length * 3 + t := ⟨j - C.length * 3, by omega⟩
          have ht : t < (rdCells ks).length := by omega
          have e1 : (rdCells C ++ rdCells ks)[C.length * 3 + t]? = some (rdCells ks)[t] := by
            rw [List.getElem?_append_right (by rw [rdCells_len]; omega), show C.length * 3 + t - (rdCells C).length = t by rw [rdCells_len]; omega, List.getElem?_eq_getElem ht]
          rw [hin t ht, e1]
      · by_cases hj2 : j < C.length * 3 ∨ C.length * 3 + (rdCells ks).length ≤ j
        · rw [hout j hj2]; exact (h5 j hj).1
        · obtain ⟨t, rfl⟩ : ∃ t, j = C.length * 3 + t := ⟨j - C.length * 3, by omega⟩
          rw [hin t (by omega)]; rfl
      · rw [World.frozen?_setCells]; exact (h5 j hj).2
    · have hold : (Builtin.firstCells i0.size C.length (.slice (some ⟨b, off, none⟩) C.length c)).run Try.prog w.drew = .ok (rdCells C).toArray w.drew := by
        rw [hz1]
        refine run_firstCells_some w.drew 3 C.length ⟨b, off, none⟩ C.length c (rdCells C) (rdCells_len C) (fun j u hu => ?_)
        rw [addr_plusK]
        have hj : j < C.length * 3 := by rw [← rdCells_len]; exact (List.getElem?_eq_some_iff.1 hu).1
        exact (h4 j hj).trans hu
      have hrun := run_append_grow_src (P := Try.prog) w 24 24 ty 46 i0 (.agg #[.int .i64 0, .int .i64 0, .string ⟨#[]⟩]) Try.underlying24 hi hz0 (some ⟨b, off, none⟩) C.length c (rdCells C) hold u ks.length (rdCells ks) (by rw [hz1]; exact hs) (by omega) (by omega) (growslice_fits (by omega) (by rw [hz2]; omega))
      have hge := grownCap_ge w (C.length + ks.length) c 46
      generalize grownCap w (C.length + ks.length) c 46 = gc at *
      have hsz : ((rdCells C ++ rdCells ks).toArray ++ Builtin.zeroCells (Value.cells (.agg #[.int .i64 0, .int .i64 0, .string ⟨#[]⟩])) (gc - (C.length + ks.length))).size = gc * 3 := by
        have h9 : (Value.cells (.agg #[.int .i64 0, .int .i64 0, .string ⟨#[]⟩])).size = 3 := rfl
        rw [Array.size_append, List.size_toArray, List.length_append, rdCells_len, rdCells_len, size_zeroCells, h9]
        omega
      have hbb : Below w.heap.size w (w.drew.alloc (.cells ((rdCells C ++ rdCells ks).toArray ++ Builtin.zeroCells (Value.cells (.agg #[.int .i64 0, .int .i64 0, .string ⟨#[]⟩])) (gc - (C.length + ks.length))) 46)) :=
        ⟨rfl, rfl, rfl, by simp, fun k hk => Below.heap_alloc w.drew _ k hk⟩
      refine ⟨_, _, hrun, .inr ⟨w.heap.size, 0, gc, by rw [List.length_append], hbase, ?_, by rw [List.length_append]; exact hge, fun j hj => ?_, fun j hj => ⟨?_, ?_⟩⟩, grown_of_below' hbb _, .inr rfl⟩
      · have : (w.drew.alloc (.cells ((rdCells C ++ rdCells ks).toArray ++ Builtin.zeroCells (Value.cells (.agg #[.int .i64 0, .int .i64 0, .string ⟨#[]⟩])) (gc - (C.length + ks.length))) 46)).heap.size = w.heap.size + 1 := by simp
        omega
      · rw [List.length_append] at hj
        rw [Nat.zero_add]
        refine (World.cell?_alloc_new w.drew _ _ j).trans ?_
        rw [Array.getElem?_append_left (by rw [List.size_toArray, List.length_append, rdCells_len, rdCells_len]; omega), List.getElem?_toArray, rdCells_appQ]
      · rw [Nat.zero_add]
        rw [show World.cell? _ ⟨w.heap.size, j, none⟩ = _ from World.cell?_alloc_new w.drew _ _ j, Array.getElem?_eq_getElem (by rw [hsz]; exact hj)]
        rfl
      · rw [Nat.zero_add]
        exact World.frozen?_alloc_new w.drew _ _ j
theorem QRd.keep {X : Nat → Prop} {w w' : World} {base : Nat} {v : Value} {C : List R3} (h : QRd w base v C) (hk : KeepX X w w') (h1 : ∀ g, v.ownBlock = some g → ¬ X g) : QRd w' base v C := by
  rcases h with h | ⟨b, off, c, rfl, h2, h3, h4, h5, h6⟩
  · exact .inl h
  · have hbk := hk.block b h3 (h1 b rfl)
    refine .inr ⟨b, off, c, rfl, h2, Nat.lt_of_lt_of_le h3 hk.size, h4, fun j hj => ?_, fun j hj => ⟨?_, ?_⟩⟩
    · rw [World.cell?_of_block (w := w) (w' := w') (a := ⟨b, off + j, none⟩) hbk]; exact h5 j hj
    · rw [World.cell?_of_block (w := w) (w' := w') (a := ⟨b, off + j, none⟩) hbk]; exact (h6 j hj).1
    · rw [World.frozen?_of_block (w := w) (w' := w') (a := ⟨b, off + j, none⟩) hbk]; exact (h6 j hj).2
theorem QRd.nil (w : World) (base : Nat) : QRd w base (.slice none 0 0) [] := .inl ⟨rfl, rfl⟩
theorem QRd.lt {w : World} {base : Nat} {v : Value} {C : List R3} (h : QRd w base v C) : ∀ g, v.ownBlock = some g → base ≤ g ∧ g < w.heap.size := by
  rcases h with ⟨rfl, -⟩ | ⟨b, off, c, rfl, h2, h3, -⟩
  · intro g e; cases e
  · intro g e; cases e; exact ⟨h2, h3⟩
end Go.Proofs.Ytadjmfhhpkjpaaa
namespace Go.Proofs.Ytadjmfhhpkjpaaa

theorem aheadN_at (x : K2) : ∀ (rs : List R3) (k : Nat), k ≤ rs.length → (∀ j, j < k → aheadB (rs.getD j r0).1 x = true) → (k = rs.length ∨ aheadB (rs.getD k r0).1 x = false) → aheadN rs x = k
  | [], k, hk, _, _ => by simp at hk; simp [aheadN, hk]
  | r :: l, 0, _, _, h => by
    unfold aheadN
    rcases h with h | h
    · simp at h
    · rw [if_neg (by simpa using h)]
  | r :: l, k + 1, hk, hn, h => by
    unfold aheadN
    rw [if_pos (by simpa using hn 0 (by omega)), aheadN_at x l k (by simpa using hk) (fun j hj => by simpa using hn (j + 1) (by omega)) (by simpa using h)]
end Go.Proofs.Ytadjmfhhpkjpaaa
namespace Go.Proofs.Ytadjmfhhpkjpaaa
open Go.ChangeShapes Go.WideShapes Go.ChangeAt Go.RowKit Go.BigFrame
set_option linter.unusedVariables false

theorem rd_row {w : World} {j : Nat} {r : R3} (h : w.heap[j]? = some (.cells #[.int .i64 r.1.1, .int .i64 r.1.2, .string r.2] 46)) : rdAt w (.slice (some ⟨j, 0, none⟩) 1 1) [r] := by
  refine ⟨_, 1, rfl, by simp, .inr ⟨j, 0, rfl, (Array.getElem?_eq_some_iff.1 h).1, fun i hi => ?_⟩⟩
  obtain rfl : i = 0 := by simp at hi; omega
  exact ⟨by rw [cell_of_row _ _ _ _ _ _ h]; rfl, by rw [cell_of_row _ _ _ _ _ _ h]; rfl, by rw [cell_of_row _ _ _ _ _ _ h]; rfl⟩
theorem rd_newR (w : World) (r : R3) : rdAt (w.alloc (.cells #[.int .i64 r.1.1, .int .i64 r.1.2, .string r.2] 46)) (.slice (some ⟨w.heap.size, 0, none⟩) 1 1) [r] := rd_row (heap_alloc_new w _)
end Go.Proofs.Ytadjmfhhpkjpaaa
namespace Go.Proofs.Ytadjmfhhpkjpaaa
open Go.ChangeShapes Go.WideShapes Go.ChangeAt Go.RowKit Go.BigFrame Go.Maps
set_option linter.unusedVariables false
set_option linter.unusedSimpArgs false

theorem row1_of {W : World} {b : Nat} {v0 : Value} {T : TypeId} (h : W.heap[b]? = some (.cells #[v0] T (0, 0))) : W.cell? ⟨b, 0, none⟩ = some v0 ∧ W.frozen? ⟨b, 0, none⟩ = false := by
  refine ⟨?_, ?_⟩
  · rw [cell_of_row _ _ 0 _ _ _ h]; rfl
  · simp [World.frozen?, h]
theorem step_append_qr {ops : Array Oper} {o : Oper} {a : Act} {w : World} {K : Act → World → Prop} {Q : Exit → Act → World → Prop} {E : Prop} (hgd : o.guard = none) (s x : Operand)
    (ho : o.op = .call { callee := .builtin .append, args := #[s, x], argTypes := #[24, 24] })
    {base : Nat} {v : Value} {C : List R3} (hq : QRd w base v C) (u : Value) (ks : List R3) (hu : rdAt w u ks) (hs : a.eval s = v) (hx : a.eval x = u) (hn : C.length + ks.length ≤ 4000000) (hbase : base ≤ w.heap.size)
    (h : ∀ v' w', QRd w' base v' (C ++ ks) → w.grownBy w' v.ownBlock → (v'.ownBlock = v.ownBlock ∨ v'.ownBlock = some w.heap.size) → K (a.put o.dst v') w') :
    if Region.wanted o (yielded ops a.tmps) = true then Oper.wp Try.prog o a w K Q else E := by
  have hw : Region.wanted o (yielded ops a.tmps) = true := by simp [Region.wanted, hgd]
  rw [if_pos hw]
  obtain ⟨v', w', hr, h2, h3, h5⟩ := hq.append u ks hu o.type hn hbase
  unfold Oper.wp execOp
  simp only [ho, resolve, invoke, builtin, Sem.run_bind, Sem.run_pure, Result.andThen_ok, List.map_toArray, List.map_cons, List.map_nil, hs, hx, hr]
  exact h v' w' h2 h3 h5
theorem rd_row_load {W : World} {b : Nat} {v0 v1 v2 : Value} (h : W.heap[b]? = some (.cells #[v0, v1, v2] 46 (0, 0))) : (loadVar 46 ⟨b, 0, none⟩).run Try.prog W = .ok (.agg #[v0, v1, v2]) W :=
  run_loadVar_row (P := Try.prog) W b 46 46 #[v0, v1, v2] (0, 0) _ h Try.underlying46 rfl (by kernel_rfl)
set_option maxRecDepth 20000 in
theorem icounted_any (n : Int) (m : Nat) (w : World) (h : cntOk n = true) (hm : m ≤ 1000000) : Calls Try.prog 95 #[.int .i64 n, .int .i64 m] w fun e w' => e = .returned (.int .i64 (bump m n)) ∧ w' = w := by
  have h' : 0 ≤ n ∧ n ≤ 1000000000 := by unfold cntOk at h; simpa using h
  obtain ⟨h0, h1⟩ := h'
  have hw : wrap64 (n + (m : Int)) = n + (m : Int) := IntWalk.wrap64_in _ (by omega)
  have hw2 : IntKind.i64.wrap (n + (m : Int)) = n + (m : Int) := IntWalk.i64_in _ (by omega)
  have hbm := bump_eq h1 m
  by_cases hc : n + (m : Int) ≤ 1000000000
  · rw [if_pos hc] at hbm
    rw [hbm]
    clear hbm h
    go_enter Try.func95, Try.ntmps95
    go_wp2
    go_ret
    refine ⟨?_, rfl⟩
    show Ending.returned (Value.int .i64 (min (n + (m : Int)) 1000000000)) = _
    rw [Int.min_eq_left (by omega)]
  · rw [if_neg hc] at hbm
    rw [hbm]
    clear hbm h
    go_enter Try.func95, Try.ntmps95
    go_wp2
    go_ret
    refine ⟨?_, rfl⟩
    show Ending.returned (Value.int .i64 (min (n + (m : Int)) 1000000000)) = _
    rw [Int.min_eq_right (by omega)]
set_option maxRecDepth 100000 in
set_option maxHeartbeats 2000000 in
theorem iqput_any (base b6 : Nat) (vq : Value) (C : List R3) (x : R3) (w : World) (hrow : w.heap[b6]? = some (.cells #[vq] 126 (0, 0))) (hq : QRd w base vq C) (hne : vq.ownBlock ≠ some b6) (hn : C.length ≤ 1000000) (hbase : base ≤ w.heap.size) :
    Calls Try.prog 97 #[.pointer (some ⟨b6, 0, none⟩), rv x] w fun e w' => e = .returned (.tuple #[]) ∧ ∃ vq', w'.heap[b6]? = some (.cells #[vq'] 126 (0, 0)) ∧ QRd w' base vq' (C ++ [x]) ∧
      KeepX (fun k => k = b6 ∨ vq.ownBlock = some k) w w' ∧ (vq'.ownBlock = vq.ownBlock ∨ ∃ g, vq'.ownBlock = some g ∧ w.heap.size ≤ g) := by
  obtain ⟨⟨p, q⟩, y⟩ := x
  unfold rv
  dsimp only
  have hlt := (Array.getElem?_eq_some_iff.1 hrow).1
  have hb0 := (Below.refl w.heap.size w).alloc (Nat.le_refl _) (.cells #[.int .i64 p, .int .i64 q, .string y] 46)
  have hb1 := (hb0.alloc hb0.size (.cells #[.int .i64 p, .int .i64 q, .string y] 46)).drew
  have HX := Lib.hid (heap_alloc_new w (.cells #[.int .i64 p, .int .i64 q, .string y] 46))
  have HQ := Lib.hid (hq.below hb1)
  have HR0 := Lib.hid ((hb0.block _ hlt).trans hrow)
  have HR1 := Lib.hid ((hb1.block _ hlt).trans hrow)
  have HU := Lib.hid (show rdAt ((w.alloc (.cells #[.int .i64 p, .int .i64 q, .string y] 46)).alloc (.cells #[.int .i64 p, .int .i64 q, .string y] 46)).drew (.slice (some ⟨(w.alloc (.cells #[.int .i64 p, .int .i64 q, .string y] 46)).heap.size, 0, none⟩) 1 1) [((p, q), y)] from
    rdAt_below (rd_newR (w.alloc (.cells #[.int .i64 p, .int .i64 q, .string y] 46)) ((p, q), y)) (Below.refl _ _).drew)
  have HB1 := Lib.hid hb1
  have hs2 : (w.alloc (.cells #[.int .i64 p, .int .i64 q, .string y] 46)).heap.size = w.heap.size + 1 := by simp
  have HS2 := Lib.hid hs2
  have hsz : base ≤ (((w.alloc (.cells #[.int .i64 p, .int .i64 q, .string y] 46)).alloc (.cells #[.int .i64 p, .int .i64 q, .string y] 46)).drew).heap.size := Nat.le_trans hbase hb1.size
  have HNE := Lib.hid hne
  have HQL := Lib.hid hq.lt
  obtain ⟨aq, cq, rfl⟩ := hq.shape
  clear hb0 hb1 hq hs2 hne
  go_enter Try.func97, Try.ntmps97
  go_upto_region 1 with (fail)
  obtain ⟨x0, x1, x2, -⟩ := row3_of HX.out
  obtain ⟨y0, y1⟩ := row1_of HR0.out
  generalize w.alloc (.cells #[.int .i64 p, .int .i64 q, .string y] 46) = W at *
  have n6 : b6 ≠ W.heap.size := by have := HS2.out; omega
  have n7 : W.heap.size ≠ b6 := fun e => n6 e.symm
  have hRA : (W.alloc (.cells #[.int .i64 p, .int .i64 q, .string y] 46)).heap[b6]? = some (.cells #[.slice aq C.length cq] 126 (0, 0)) := HR1.out
  obtain ⟨ya, yb⟩ := row1_of hRA
  go_region_law (first
    | (refine step_append_qr rfl (.tmp 8) (.tmp 10) rfl HQ.out _ [((p, q), y)] HU.out rfl rfl (by simp; omega) hsz ?_
       intro v6 w6 hq6 hg6 hl6
       have HQ6 := Lib.hid hq6
       have HG6 := Lib.hid hg6
       have HL6 := Lib.hid hl6
       have hrow6 := (hg6.block _ (Nat.lt_of_lt_of_le hlt HB1.out.size) (fun e => HNE.out e.symm)).trans HR1.out
       obtain ⟨z0, z1⟩ := row1_of hrow6
       have HR6 := Lib.hid hrow6
       obtain ⟨a6, c6, rfl⟩ := HQ6.out.shape
       clear hq6 hg6 hl6 hrow6))
  all_goals
    have hl6 : (C ++ [((p, q), y)]).length = C.length + 1 := by simp
    rw [hl6] at HQ6 HL6
    clear hl6
    generalize hv6 : Value.slice a6 (C.length + 1) c6 = v6 at *
    have hb6s : b6 < W.heap.size := by have := HS2.out; omega
    have HF := Lib.hid (show (w6.setCell ⟨b6, 0, none⟩ v6).heap[b6]? = some (.cells #[v6] 126 (0, 0)) from set_cellsR (w := w6) (B := b6) (j := 0) v6 HR6.out)
    have hnv : v6.ownBlock ≠ some b6 := by
      rcases HL6.out with e | e
      · rw [e]; exact HNE.out
      · rw [e]; intro e2; have h9 := Option.some.inj e2; have h8 : w.heap.size ≤ (W.alloc (.cells #[.int .i64 p, .int .i64 q, .string y] 46)).drew.heap.size := HB1.out.size; omega
    have HQF := Lib.hid (HQ6.out.keep (KeepX.grown (X := fun k => k = b6) (Lib.grownBy_setCell w6 b6 0 v6) (fun k e => (Option.some.inj e).symm)) (fun g hg e => hnv (e ▸ hg)))
    have HKF := Lib.hid (((KeepX.below (X := fun k => k = b6 ∨ (Value.slice aq C.length cq).ownBlock = some k) HB1.out).trans (KeepX.grown HG6.out (fun k e => .inr e))).trans (KeepX.grown (Lib.grownBy_setCell w6 b6 0 v6) (fun k e => .inl (Option.some.inj e).symm)))
    have HLF := Lib.hid (show v6.ownBlock = (Value.slice aq C.length cq).ownBlock ∨ ∃ g, v6.ownBlock = some g ∧ w.heap.size ≤ g from by
      rcases HL6.out with e | e
      · exact .inl e
      · exact .inr ⟨_, e, HB1.out.size⟩)
    clear hnv hb6s
    go_wp2
    go_end0
    subst hv6
    exact ⟨rfl, _, HF.out, HQF.out, HKF.out, HLF.out⟩
set_option maxRecDepth 100000 in
set_option maxHeartbeats 2000000 in
theorem iqnext_nil (base b6 : Nat) (vq : Value) (w : World) (hrow : w.heap[b6]? = some (.cells #[vq] 126 (0, 0))) (hq : QRd w base vq []) :
    Calls Try.prog 98 #[.pointer (some ⟨b6, 0, none⟩)] w fun e w' => e = .returned (.tuple #[.agg #[.int .i64 0, .int .i64 0, .string ⟨#[]⟩], .bool false]) ∧ Below w.heap.size w w' := by
  have hlt := (Array.getElem?_eq_some_iff.1 hrow).1
  have hb0 := (Below.refl w.heap.size w).alloc (Nat.le_refl _) (.cells #[.int .i64 0, .int .i64 0, .string ⟨#[]⟩] 46)
  have hb1 := hb0.alloc hb0.size (.cells #[.int .i64 0, .int .i64 0, .string ⟨#[]⟩] 46)
  have HR1 := Lib.hid ((hb1.block _ hlt).trans hrow)
  have HX := Lib.hid (heap_first w (.cells #[.int .i64 0, .int .i64 0, .string ⟨#[]⟩] 46) (.cells #[.int .i64 0, .int .i64 0, .string ⟨#[]⟩] 46))
  have hy := heap_alloc_new (w.alloc (.cells #[.int .i64 0, .int .i64 0, .string ⟨#[]⟩] 46)) (.cells #[.int .i64 0, .int .i64 0, .string ⟨#[]⟩] 46)
  rw [show (w.alloc (.cells #[.int .i64 0, .int .i64 0, .string ⟨#[]⟩] 46)).heap.size = w.heap.size + 1 by simp] at hy
  have HY := Lib.hid hy
  have HB1 := Lib.hid hb1
  obtain ⟨aq, cq, rfl⟩ := hq.shape
  clear hb0 hb1 hq hy
  go_enter Try.func98, Try.ntmps98
  go_upto_region 2 with (fail)
  generalize (w.alloc (.cells #[.int .i64 0, .int .i64 0, .string ⟨#[]⟩] 46)).alloc (.cells #[.int .i64 0, .int .i64 0, .string ⟨#[]⟩] 46) = W at *
  obtain ⟨z0, -⟩ := row1_of HR1.out
  obtain ⟨x0, x1, x2, f0, f1, f2⟩ := row3_of HX.out
  obtain ⟨y0, y1, y2, -⟩ := row3_of HY.out
  have hne : w.heap.size + 1 ≠ w.heap.size := by omega
  have HF := Lib.hid (set3 (.int .i64 0) (.int .i64 0) (.string ⟨#[]⟩) HX.out)
  have HBF := Lib.hid (((HB1.out.setCell (p := ⟨w.heap.size, 0, none⟩) (Nat.le_refl _) (.int .i64 0)).setCell (p := ⟨w.heap.size, 1, none⟩) (Nat.le_refl _) (.int .i64 0)).setCell (p := ⟨w.heap.size, 2, none⟩) (Nat.le_refl _) (.string ⟨#[]⟩))
  go_wp2
  refine bodyPost_ret (v := .tuple #[.agg #[.int .i64 0, .int .i64 0, .string ⟨#[]⟩], .bool false]) ?_ rfl ⟨rfl, HBF.out⟩
  rw [results_cell_slot (p := 2) (u := 3) (ty := 46) (by kernel_rfl)]
  have l2 := rd_row_load HF.out
  simp [asAddr, Result.andThen, l2]
set_option maxRecDepth 100000 in
set_option maxHeartbeats 2000000 in
theorem iqnext_cons (base b6 : Nat) (vq : Value) (x : R3) (C : List R3) (w : World) (hrow : w.heap[b6]? = some (.cells #[vq] 126 (0, 0))) (hq : QRd w base vq (x :: C)) (hne : vq.ownBlock ≠ some b6) (hn : C.length ≤ 1000000) :
    Calls Try.prog 98 #[.pointer (some ⟨b6, 0, none⟩)] w fun e w' => e = .returned (.tuple #[rv x, .bool true]) ∧ ∃ vq', w'.heap[b6]? = some (.cells #[vq'] 126 (0, 0)) ∧ QRd w' base vq' C ∧ vq'.ownBlock = vq.ownBlock ∧ KeepX (fun k => k = b6) w w' := by
  obtain ⟨⟨p, q⟩, y⟩ := x
  unfold rv
  dsimp only
  have hlt := (Array.getElem?_eq_some_iff.1 hrow).1
  have hb0 := (Below.refl w.heap.size w).alloc (Nat.le_refl _) (.cells #[.int .i64 0, .int .i64 0, .string ⟨#[]⟩] 46)
  have hb1 := hb0.alloc hb0.size (.cells #[.int .i64 0, .int .i64 0, .string ⟨#[]⟩] 46)
  have HR1 := Lib.hid ((hb1.block _ hlt).trans hrow)
  have HX := Lib.hid (heap_first w (.cells #[.int .i64 0, .int .i64 0, .string ⟨#[]⟩] 46) (.cells #[.int .i64 0, .int .i64 0, .string ⟨#[]⟩] 46))
  have hy := heap_alloc_new (w.alloc (.cells #[.int .i64 0, .int .i64 0, .string ⟨#[]⟩] 46)) (.cells #[.int .i64 0, .int .i64 0, .string ⟨#[]⟩] 46)
  rw [show (w.alloc (.cells #[.int .i64 0, .int .i64 0, .string ⟨#[]⟩] 46)).heap.size = w.heap.size + 1 by simp] at hy
  have HY := Lib.hid hy
  have HB1 := Lib.hid hb1
  have hq1 := hq.below hb1
  obtain ⟨vt, hsl, hqt, hto⟩ := hq1.tail
  obtain ⟨gq, oq, cq, e0, hbq, hgq, c0, c1, c2⟩ := hq1.head
  subst e0
  have HQT := Lib.hid hqt
  have HTO := Lib.hid hto
  obtain ⟨at', ct', rfl⟩ := hqt.shape
  have hgb : gq ≠ b6 := fun e => hne (by rw [← e]; rfl)
  have HGB := Lib.hid hgb
  have HQL := Lib.hid hq.lt
  have hgq0 : gq < w.heap.size := (hq.lt gq rfl).2
  clear hb0 hb1 hq hy hqt hq1 hto hne
  go_enter Try.func98, Try.ntmps98
  go_upto_region 2 with (fail)
  generalize (w.alloc (.cells #[.int .i64 0, .int .i64 0, .string ⟨#[]⟩] 46)).alloc (.cells #[.int .i64 0, .int .i64 0, .string ⟨#[]⟩] 46) = W at *
  obtain ⟨z0, zf⟩ := row1_of HR1.out
  obtain ⟨x0, x1, x2, f0, f1, f2⟩ := row3_of HX.out
  obtain ⟨y0, y1, y2, g0, g1, g2⟩ := row3_of HY.out
  have n1 : w.heap.size + 1 ≠ w.heap.size := by omega
  have n2 : b6 ≠ w.heap.size := by omega
  have n3 : b6 ≠ w.heap.size + 1 := by omega
  have n4 : gq ≠ w.heap.size := by omega
  have n5 : gq ≠ w.heap.size + 1 := by omega
  have k0 : (C.length : Int) + 1 ≠ 0 := by omega
  have k1 : (0 : Int) < (C.length : Int) + 1 := by omega
  go_upto_region 4 with (fail)
  go_region_law (fail)
  all_goals
    have hB2 := (((HB1.out.setCell (p := ⟨w.heap.size + 1, 0, none⟩) (by show w.heap.size ≤ w.heap.size + 1; omega) (.int .i64 p)).setCell (p := ⟨w.heap.size + 1, 1, none⟩) (by show w.heap.size ≤ w.heap.size + 1; omega) (.int .i64 q)).setCell (p := ⟨w.heap.size + 1, 2, none⟩) (by show w.heap.size ≤ w.heap.size + 1; omega) (.string y))
    have hgr := grown3 W (w.heap.size + 1) (.int .i64 p) (.int .i64 q) (.string y)
    have hR2 := (hgr.block b6 (Array.getElem?_eq_some_iff.1 HR1.out).1 (fun e => n3 (Option.some.inj e))).trans HR1.out
    have hX2 := (hgr.block w.heap.size (Array.getElem?_eq_some_iff.1 HX.out).1 (fun e => by have h9 : w.heap.size = w.heap.size + 1 := Option.some.inj e; omega)).trans HX.out
    have hY2 := set3 (.int .i64 p) (.int .i64 q) (.string y) HY.out
    have hQ2 := HQT.out.keep (KeepX.grown (X := fun k => k = w.heap.size + 1) hgr (fun k e => (Option.some.inj e).symm)) (fun g hg e => by rw [HTO.out] at hg; have h9 : gq = g := Option.some.inj hg; omega)
    clear z0 zf x0 x1 x2 f0 f1 f2 y0 y1 y2 g0 g1 g2 hgr c0 c1 c2 hsl
    generalize ((W.setCell ⟨w.heap.size + 1, 0, none⟩ (.int .i64 p)).setCell ⟨w.heap.size + 1, 1, none⟩ (.int .i64 q)).setCell ⟨w.heap.size + 1, 2, none⟩ (.string y) = W2 at *
    have hk3 := (KeepX.below (X := fun k => k = b6) hB2).trans (KeepX.grown (Lib.grownBy_setCell W2 b6 0 (.slice at' C.length ct')) (fun k e => (Option.some.inj e).symm))
    have hR3 : (W2.setCell ⟨b6, 0, none⟩ (.slice at' C.length ct')).drew.heap[b6]? = some (.cells #[.slice at' C.length ct'] 126 (0, 0)) := set_cellsR (w := W2) (B := b6) (j := 0) _ hR2
    have hX3 : (W2.setCell ⟨b6, 0, none⟩ (.slice at' C.length ct')).drew.heap[w.heap.size]? = some (.cells #[.int .i64 0, .int .i64 0, .string ⟨#[]⟩] 46 (0, 0)) := (Below.heap_setCell W2 ⟨b6, 0, none⟩ (.slice at' C.length ct') w.heap.size (by show w.heap.size ≠ b6; omega)).trans hX2
    have hY3 : (W2.setCell ⟨b6, 0, none⟩ (.slice at' C.length ct')).drew.heap[w.heap.size + 1]? = some (.cells #[.int .i64 p, .int .i64 q, .string y] 46 (0, 0)) := (Below.heap_setCell W2 ⟨b6, 0, none⟩ (.slice at' C.length ct') (w.heap.size + 1) (by show w.heap.size + 1 ≠ b6; omega)).trans hY2
    have hQ3 : QRd (W2.setCell ⟨b6, 0, none⟩ (.slice at' C.length ct')).drew base (.slice at' C.length ct') C := (hQ2.keep (KeepX.grown (X := fun k => k = b6) (Lib.grownBy_setCell W2 b6 0 (.slice at' C.length ct')) (fun k e => (Option.some.inj e).symm)) (fun g hg e => by rw [HTO.out] at hg; have h9 : gq = g := Option.some.inj hg; exact HGB.out (h9.trans e))).below (Below.refl _ _).drew
    have hk4 : KeepX (fun k => k = b6) w (W2.setCell ⟨b6, 0, none⟩ (.slice at' C.length ct')).drew := hk3.trans (KeepX.below (Below.refl _ _).drew)
    clear hk3 hB2 hR2 hX2 hY2 hQ2
    generalize (W2.setCell ⟨b6, 0, none⟩ (.slice at' C.length ct')).drew = W3 at *
    obtain ⟨x0, x1, x2, f0, f1, f2⟩ := row3_of hX3
    obtain ⟨y0, y1, y2, -⟩ := row3_of hY3
    have hgr4 := grown3 W3 w.heap.size (.int .i64 p) (.int .i64 q) (.string y)
    have HF := Lib.hid (set3 (.int .i64 p) (.int .i64 q) (.string y) hX3)
    have HR4 := Lib.hid ((hgr4.block b6 (Array.getElem?_eq_some_iff.1 hR3).1 (fun e => n2 (Option.some.inj e))).trans hR3)
    have HQ4 := Lib.hid (hQ3.keep (KeepX.grown (X := fun k => k = w.heap.size) hgr4 (fun k e => (Option.some.inj e).symm)) (fun g hg e => by rw [HTO.out] at hg; have h9 : gq = g := Option.some.inj hg; omega))
    have hgr5 : KeepX (fun k => k = w.heap.size) W3 _ := KeepX.grown hgr4 (fun k e => (Option.some.inj e).symm)
    have HK5 := Lib.hid (show KeepX (fun k => k = b6) w (((W3.setCell ⟨w.heap.size, 0, none⟩ (.int .i64 p)).setCell ⟨w.heap.size, 1, none⟩ (.int .i64 q)).setCell ⟨w.heap.size, 2, none⟩ (.string y)) from
      ⟨hgr5.os.trans hk4.os, hgr5.tape.trans hk4.tape, hgr5.output.trans hk4.output, Nat.le_trans hk4.size hgr5.size, fun k hk hx => (hgr5.block k (Nat.lt_of_lt_of_le hk hk4.size) (fun e => by omega)).trans (hk4.block k hk hx)⟩)
    clear hR3 hX3 hY3 hQ3 hk4 hgr4 hgr5
    go_wp2
    refine bodyPost_ret (v := .tuple #[.agg #[.int .i64 p, .int .i64 q, .string y], .bool true]) ?_ rfl ⟨rfl, _, HR4.out, HQ4.out, HTO.out, HK5.out⟩
    rw [results_cell_slot (p := 2) (u := 3) (ty := 46) (by kernel_rfl)]
    have l2 := rd_row_load HF.out
    simp [asAddr, Result.andThen, l2]
end Go.Proofs.Ytadjmfhhpkjpaaa
namespace Go.Proofs.Ytadjmfhhpkjpaaa
open Go.ChangeShapes Go.WideShapes Go.ChangeAt Go.RowKit Go.BigFrame Go.Maps
set_option linter.unusedVariables false
set_option linter.unusedSimpArgs false

theorem ld_mp {w : World} {b o : Nat} {v : Value} (c : w.cell? ⟨b, o, none⟩ = some v) : (loadVar 121 ⟨b, o, none⟩).run Try.prog w = .ok v w := load_one (fun w => by simp [isAgg, underlying, Try.underlying121]) c
theorem ld_cdsY {w : World} {b o : Nat} {v : Value} (c : w.cell? ⟨b, o, none⟩ = some v) : (loadVar 25 ⟨b, o, none⟩).run Try.prog w = .ok v w := load_one (fun w => by simp [isAgg, underlying, Try.underlying25]) c
theorem ld_kysY {w : World} {b o : Nat} {v : Value} (c : w.cell? ⟨b, o, none⟩ = some v) : (loadVar 28 ⟨b, o, none⟩).run Try.prog w = .ok v w := load_one (fun w => by simp [isAgg, underlying, Try.underlying28]) c
set_option maxRecDepth 20000 in
theorem iisalone_any (v : Value) (ks : List K2) (y : ByteArray) (w : World) (h : keysAt w v ks) : Calls Try.prog 43 #[.agg #[v, .string y]] w fun e w' => e = .returned (.bool (decide (ks.length = 1))) ∧ Below w.heap.size w w' := by
  obtain ⟨a, c, rfl, -, -⟩ := h
  have HX := Lib.hid (heap_alloc_new w (.cells #[.slice a ks.length c, .string y] 30))
  have HB := Lib.hid ((Below.refl w.heap.size w).alloc (Nat.le_refl _) (.cells #[.slice a ks.length c, .string y] 30))
  go_enter Try.func43, Try.ntmps43
  go_upto_region 1 with (fail)
  generalize w.alloc (.cells #[.slice a ks.length c, .string y] 30) = W at *
  obtain ⟨x0, x1, -, -⟩ := row2_of HX.out
  by_cases h1 : ks.length = 1
  · have i1 : (ks.length : Int) = 1 := by omega
    have e1 : ((ks.length : Int) == 1) = true := by simp [i1]
    have HD := Lib.hid (decide_eq_true h1)
    clear h1
    go_wp2
    go_ret
    exact ⟨by rw [HD.out]; first | rfl | (rw [← e1]; rfl), HB.out⟩
  · have i1 : ¬ (ks.length : Int) = 1 := by omega
    have e1 : ((ks.length : Int) == 1) = false := by simpa using i1
    have HD := Lib.hid (decide_eq_false h1)
    clear h1
    go_wp2
    go_ret
    exact ⟨by rw [HD.out]; first | rfl | (rw [← e1]; rfl), HB.out⟩
set_option maxRecDepth 100000 in
set_option maxHeartbeats 4000000 in
theorem iwaits_any (vw : Value) (L : List C2) (bm m : Nat) (P : Pl) (i : Nat) (w : World) (hw : cdAv w none vw L) (hp : PlI w bm P m) (hi : i < L.length) (hok : ksetOk (L.getD i blankC).1) (hL : L.length ≤ 1000000) :
    Calls Try.prog 133 #[.agg #[vw, .map (some bm)], .int .i64 i] w fun e w' => e = .returned (.bool (decide (P (L.getD i blankC).1 = some i))) ∧ Below w.heap.size w w' := by
  obtain ⟨a, c, rfl, hcap, hcells⟩ := hw
  obtain ⟨g, off, rfl, hg, hcs⟩ := hcells.resolve_left (by omega)
  obtain ⟨u, c1, c2, c3⟩ := hcs i hi
  have hb0 := (Below.refl w.heap.size w).alloc (Nat.le_refl _) (.cells #[.slice (some ⟨g, off, none⟩) L.length c, .map (some bm)] 124)
  have HX := Lib.hid (heap_alloc_new w (.cells #[.slice (some ⟨g, off, none⟩) L.length c, .map (some bm)] 124))
  have HB := Lib.hid hb0
  have HS := Lib.hid (fun wx (hb : Below w.heap.size w wx) => isetof_any u (L.getD i blankC).1 wx (keysAt_below c3.to hb) hok.1)
  have HLK := Lib.hid (fun wx (hb : Below w.heap.size w wx) => (hp.below hb).look hok)
  have C1 := Lib.hid c1
  have HG := Lib.hid hg
  have z0 : (0 : Int) ≤ (i : Int) := by omega
  have z1 : (i : Int) < (L.length : Int) := by omega
  obtain ⟨au, cu, rfl, -, -⟩ := c3
  clear hb0 hcells hcs c1 c2 hp hok hg
  generalize (L.getD i blankC).1 = ks at *
  unfold atP at HLK
  go_enter Try.func133, Try.ntmps133
  go_upto_region 1 with (fail)
  generalize w.alloc (.cells #[.slice (some ⟨g, off, none⟩) L.length c, .map (some bm)] 124) = W at *
  have LM : ∀ w', Below W.heap.size W w' → (loadVar 121 ⟨w.heap.size, 1, none⟩).run Try.prog w' = .ok (.map (some bm)) w' := fun w' hb => ld_mp (row2_of ((hb.block _ (Array.getElem?_eq_some_iff.1 HX.out).1).trans HX.out)).c1
  have LW : ∀ w', Below W.heap.size W w' → (loadVar 25 ⟨w.heap.size, 0, none⟩).run Try.prog w' = .ok (.slice (some ⟨g, off, none⟩) L.length c) w' := fun w' hb => ld_cdsY (row2_of ((hb.block _ (Array.getElem?_eq_some_iff.1 HX.out).1).trans HX.out)).c0
  have LK : ∀ w', Below W.heap.size W w' → (loadVar 28 ⟨g, off + i * 2, none⟩).run Try.prog w' = .ok (.slice au ks.length cu) w' := fun w' hb => ld_kysY (((HB.out.trans (hb.mono HB.out.size)).cell (p := ⟨g, off + i * 2, none⟩) HG.out).trans C1.out)
  have HBC := Lib.hid (Below.refl W.heap.size W).drew
  cases hP : P ks with
  | none =>
    have HPD := Lib.hid (show decide (P ks = some i) = false by rw [hP]; simp)
    rw [hP] at HLK
    clear hP
    refine wp_region_G (fun wx => Below W.heap.size W wx) (by kernel_rfl) ?_
    refine wpG_seg [true, true, true, true, true, true, true, true] [8] 6 (by kernel_rfl) (by intro c a d v w h; cases d <;> exact h) (by kernel_rfl) HBC.out ?_
    try simp only [maskRows]
    repeat (first
      | go_big_quiet_skip
      | (go_big_quiet_want
         first
           | (go_big_quiet_op; go_big_quiet_on)
           | (refine q_load 121 _ _ _ rfl rfl LM ?_; simp only [Act.put, List.setIfInBounds_toArray, List.set_cons_zero, List.set_cons_succ]; go_big_quiet_on)
           | (refine q_load 25 _ _ _ rfl rfl LW ?_; simp only [Act.put, List.setIfInBounds_toArray, List.set_cons_zero, List.set_cons_succ]; go_big_quiet_on)
           | (refine q_load 28 _ _ _ rfl rfl LK ?_; simp only [Act.put, List.setIfInBounds_toArray, List.set_cons_zero, List.set_cons_succ]; go_big_quiet_on)
           | (go_big_quiet_op; refine ⟨_, fun _ _ => rfl, ?_⟩; go_big_quiet_on)
           | (go_big_quiet_op; refine ⟨_, fun _ _ _ => rfl, ?_⟩; go_big_quiet_on)))
    refine wpQuiet_nil ?_
    refine List.forall_mem_singleton.2 ?_
    refine segt_run rfl (by rfl) (fun K hK => ?_)
    go_simp
    refine (HS.out _ (HB.out.trans (HBC.out.mono HB.out.size))).mono ?_
    rintro e w2 ⟨rfl, hb2⟩
    dsimp only
    replace HBC := Lib.hid (HBC.out.trans (hb2.mono HBC.out.size))
    have hlook := HLK.out _ (HB.out.trans (HBC.out.mono HB.out.size))
    dsimp only [Option.getD, Option.isSome] at hlook
    clear hb2
    refine hK _ _ ⟨_, fun _ h => h, HBC.out, ?_⟩
    clear hK K
    try simp only [Act.put, List.setIfInBounds_toArray, List.set_cons_zero, List.set_cons_succ]
    refine wpG_seg [] [9] 5 (by kernel_rfl) (by intro c a d v w h; cases d <;> exact h) (by kernel_rfl) HBC.out ?_
    try simp only [maskRows]
    refine wpQuiet_nil ?_
    refine List.forall_mem_singleton.2 ?_
    refine segt_run rfl (by rfl) (fun K hK => ?_)
    go_simp
    clear hlook
    refine hK _ _ ⟨_, fun _ h => h, HBC.out, ?_⟩
    clear hK K
    try simp only [Act.put, List.setIfInBounds_toArray, List.set_cons_zero, List.set_cons_succ]
    refine wpG_end [false, false, false, false, false, false, false, false, false, false, true, true, true, true, true] (by kernel_rfl) (by intro c a d v w h; cases d <;> exact h) (by kernel_rfl) HBC.out ?_
    try simp only [maskRows]
    repeat (first
      | go_big_quiet_skip
      | (go_big_quiet_want
         first
           | (go_big_quiet_op; go_big_quiet_on)
           | (refine q_load 121 _ _ _ rfl rfl LM ?_; simp only [Act.put, List.setIfInBounds_toArray, List.set_cons_zero, List.set_cons_succ]; go_big_quiet_on)
           | (refine q_load 25 _ _ _ rfl rfl LW ?_; simp only [Act.put, List.setIfInBounds_toArray, List.set_cons_zero, List.set_cons_succ]; go_big_quiet_on)
           | (refine q_load 28 _ _ _ rfl rfl LK ?_; simp only [Act.put, List.setIfInBounds_toArray, List.set_cons_zero, List.set_cons_succ]; go_big_quiet_on)
           | (go_big_quiet_op; refine ⟨_, fun _ _ => rfl, ?_⟩; go_big_quiet_on)
           | (go_big_quiet_op; refine ⟨_, fun _ _ _ => rfl, ?_⟩; go_big_quiet_on)))
    refine wpQuiet_nil ?_
    clear LM LW LK
    have HB5 := Lib.hid (HB.out.trans (HBC.out.mono HB.out.size))
    go_wp2
    go_ret
    exact ⟨by rw [HPD.out]; first | rfl | (rw [← e1]; rfl), HB5.out⟩
  | some j =>
    rw [hP] at HLK
    by_cases hj : j = i
    · subst hj
      have HPD := Lib.hid (show decide (P ks = some j) = true from decide_eq_true hP)
      clear hP
      have e1 : ((j : Int) == (j : Int)) = true := by simp
      refine wp_region_G (fun wx => Below W.heap.size W wx) (by kernel_rfl) ?_
      refine wpG_seg [true, true, true, true, true, true, true, true] [8] 6 (by kernel_rfl) (by intro c a d v w h; cases d <;> exact h) (by kernel_rfl) HBC.out ?_
      try simp only [maskRows]
      repeat (first
        | go_big_quiet_skip
        | (go_big_quiet_want
           first
             | (go_big_quiet_op; go_big_quiet_on)
             | (refine q_load 121 _ _ _ rfl rfl LM ?_; simp only [Act.put, List.setIfInBounds_toArray, List.set_cons_zero, List.set_cons_succ]; go_big_quiet_on)
             | (refine q_load 25 _ _ _ rfl rfl LW ?_; simp only [Act.put, List.setIfInBounds_toArray, List.set_cons_zero, List.set_cons_succ]; go_big_quiet_on)
             | (refine q_load 28 _ _ _ rfl rfl LK ?_; simp only [Act.put, List.setIfInBounds_toArray, List.set_cons_zero, List.set_cons_succ]; go_big_quiet_on)
             | (go_big_quiet_op; refine ⟨_, fun _ _ => rfl, ?_⟩; go_big_quiet_on)
             | (go_big_quiet_op; refine ⟨_, fun _ _ _ => rfl, ?_⟩; go_big_quiet_on)))
      refine wpQuiet_nil ?_
      refine List.forall_mem_singleton.2 ?_
      refine segt_run rfl (by rfl) (fun K hK => ?_)
      go_simp
      refine (HS.out _ (HB.out.trans (HBC.out.mono HB.out.size))).mono ?_
      rintro e w2 ⟨rfl, hb2⟩
      dsimp only
      replace HBC := Lib.hid (HBC.out.trans (hb2.mono HBC.out.size))
      have hlook := HLK.out _ (HB.out.trans (HBC.out.mono HB.out.size))
      dsimp only [Option.getD, Option.isSome] at hlook
      clear hb2
      refine hK _ _ ⟨_, fun _ h => h, HBC.out, ?_⟩
      clear hK K
      try simp only [Act.put, List.setIfInBounds_toArray, List.set_cons_zero, List.set_cons_succ]
      refine wpG_seg [] [9] 5 (by kernel_rfl) (by intro c a d v w h; cases d <;> exact h) (by kernel_rfl) HBC.out ?_
      try simp only [maskRows]
      refine wpQuiet_nil ?_
      refine List.forall_mem_singleton.2 ?_
      refine segt_run rfl (by rfl) (fun K hK => ?_)
      go_simp
      clear hlook
      refine hK _ _ ⟨_, fun _ h => h, HBC.out, ?_⟩
      clear hK K
      try simp only [Act.put, List.setIfInBounds_toArray, List.set_cons_zero, List.set_cons_succ]
      refine wpG_end [false, false, false, false, false, false, false, false, false, false, true, true, true, true, true] (by kernel_rfl) (by intro c a d v w h; cases d <;> exact h) (by kernel_rfl) HBC.out ?_
      try simp only [maskRows]
      repeat (first
        | go_big_quiet_skip
        | (go_big_quiet_want
           first
             | (go_big_quiet_op; go_big_quiet_on)
             | (refine q_load 121 _ _ _ rfl rfl LM ?_; simp only [Act.put, List.setIfInBounds_toArray, List.set_cons_zero, List.set_cons_succ]; go_big_quiet_on)
             | (refine q_load 25 _ _ _ rfl rfl LW ?_; simp only [Act.put, List.setIfInBounds_toArray, List.set_cons_zero, List.set_cons_succ]; go_big_quiet_on)
             | (refine q_load 28 _ _ _ rfl rfl LK ?_; simp only [Act.put, List.setIfInBounds_toArray, List.set_cons_zero, List.set_cons_succ]; go_big_quiet_on)
             | (go_big_quiet_op; refine ⟨_, fun _ _ => rfl, ?_⟩; go_big_quiet_on)
             | (go_big_quiet_op; refine ⟨_, fun _ _ _ => rfl, ?_⟩; go_big_quiet_on)))
      refine wpQuiet_nil ?_
      clear LM LW LK
      have HB5 := Lib.hid (HB.out.trans (HBC.out.mono HB.out.size))
      go_wp2
      go_ret
      exact ⟨by rw [HPD.out]; first | rfl | (rw [← e1]; rfl), HB5.out⟩
    · have hji : ¬ (j : Int) = (i : Int) := by omega
      have e1 : ((j : Int) == (i : Int)) = false := by simpa using hji
      have HPD := Lib.hid (show decide (P ks = some i) = false from decide_eq_false (fun e => hj (Option.some.inj (hP.symm.trans e))))
      clear hj hP
      refine wp_region_G (fun wx => Below W.heap.size W wx) (by kernel_rfl) ?_
      refine wpG_seg [true, true, true, true, true, true, true, true] [8] 6 (by kernel_rfl) (by intro c a d v w h; cases d <;> exact h) (by kernel_rfl) HBC.out ?_
      try simp only [maskRows]
      repeat (first
        | go_big_quiet_skip
        | (go_big_quiet_want
           first
             | (go_big_quiet_op; go_big_quiet_on)
             | (refine q_load 121 _ _ _ rfl rfl LM ?_; simp only [Act.put, List.setIfInBounds_toArray, List.set_cons_zero, List.set_cons_succ]; go_big_quiet_on)
             | (refine q_load 25 _ _ _ rfl rfl LW ?_; simp only [Act.put, List.setIfInBounds_toArray, List.set_cons_zero, List.set_cons_succ]; go_big_quiet_on)
             | (refine q_load 28 _ _ _ rfl rfl LK ?_; simp only [Act.put, List.setIfInBounds_toArray, List.set_cons_zero, List.set_cons_succ]; go_big_quiet_on)
             | (go_big_quiet_op; refine ⟨_, fun _ _ => rfl, ?_⟩; go_big_quiet_on)
             | (go_big_quiet_op; refine ⟨_, fun _ _ _ => rfl, ?_⟩; go_big_quiet_on)))
      refine wpQuiet_nil ?_
      refine List.forall_mem_singleton.2 ?_
      refine segt_run rfl (by rfl) (fun K hK => ?_)
      go_simp
      refine (HS.out _ (HB.out.trans (HBC.out.mono HB.out.size))).mono ?_
      rintro e w2 ⟨rfl, hb2⟩
      dsimp only
      replace HBC := Lib.hid (HBC.out.trans (hb2.mono HBC.out.size))
      have hlook := HLK.out _ (HB.out.trans (HBC.out.mono HB.out.size))
      dsimp only [Option.getD, Option.isSome] at hlook
      clear hb2
      refine hK _ _ ⟨_, fun _ h => h, HBC.out, ?_⟩
      clear hK K
      try simp only [Act.put, List.setIfInBounds_toArray, List.set_cons_zero, List.set_cons_succ]
      refine wpG_seg [] [9] 5 (by kernel_rfl) (by intro c a d v w h; cases d <;> exact h) (by kernel_rfl) HBC.out ?_
      try simp only [maskRows]
      refine wpQuiet_nil ?_
      refine List.forall_mem_singleton.2 ?_
      refine segt_run rfl (by rfl) (fun K hK => ?_)
      go_simp
      clear hlook
      refine hK _ _ ⟨_, fun _ h => h, HBC.out, ?_⟩
      clear hK K
      try simp only [Act.put, List.setIfInBounds_toArray, List.set_cons_zero, List.set_cons_succ]
      refine wpG_end [false, false, false, false, false, false, false, false, false, false, true, true, true, true, true] (by kernel_rfl) (by intro c a d v w h; cases d <;> exact h) (by kernel_rfl) HBC.out ?_
      try simp only [maskRows]
      repeat (first
        | go_big_quiet_skip
        | (go_big_quiet_want
           first
             | (go_big_quiet_op; go_big_quiet_on)
             | (refine q_load 121 _ _ _ rfl rfl LM ?_; simp only [Act.put, List.setIfInBounds_toArray, List.set_cons_zero, List.set_cons_succ]; go_big_quiet_on)
             | (refine q_load 25 _ _ _ rfl rfl LW ?_; simp only [Act.put, List.setIfInBounds_toArray, List.set_cons_zero, List.set_cons_succ]; go_big_quiet_on)
             | (refine q_load 28 _ _ _ rfl rfl LK ?_; simp only [Act.put, List.setIfInBounds_toArray, List.set_cons_zero, List.set_cons_succ]; go_big_quiet_on)
             | (go_big_quiet_op; refine ⟨_, fun _ _ => rfl, ?_⟩; go_big_quiet_on)
             | (go_big_quiet_op; refine ⟨_, fun _ _ _ => rfl, ?_⟩; go_big_quiet_on)))
      refine wpQuiet_nil ?_
      clear LM LW LK
      have HB5 := Lib.hid (HB.out.trans (HBC.out.mono HB.out.size))
      go_wp2
      go_ret
      exact ⟨by rw [HPD.out]; first | rfl | (rw [← e1]; rfl), HB5.out⟩
theorem wpList_append_cdd {ops : Array Oper} {rest : List Oper} {o : Oper} {a : Act} {w : World} {Q : Exit → Act → World → Prop} (hgd : o.guard = none) (s x : Operand)
    (ho : o.op = .call { callee := .builtin .append, args := #[s, x], argTypes := #[25, 25] })
    {base : Nat} {v : Value} {us : List Value} {L : List C2} (h0 : CdD w base v us L) (g0 c0 : Nat) (u : Value) (z : C2) (hrow : w.heap[g0]? = some (.cells #[u, .string z.2] 30 (0, 0)))
    (hu : w.ownsRow base 43 2 u z.1.length (keyCells z.1)) (hne : ∀ b, u.ownBlock = some b → v.ownBlock ≠ some b) (hdist : ∀ i, i < L.length → ∀ b, u.ownBlock = some b → (us.getD i undef).ownBlock ≠ some b)
    (hs : a.eval s = v) (hx : a.eval x = .slice (some ⟨g0, 0, none⟩) 1 c0) (hn : L.length ≤ 1000000) (hbase : base ≤ w.heap.size)
    (h : ∀ v' w', CdD w' base v' (us ++ [u]) (L ++ [z]) → w.grownBy w' v.ownBlock → (v'.ownBlock = v.ownBlock ∨ v'.ownBlock = some w.heap.size) → wpList Try.prog ops Q rest (a.put o.dst v') w') : wpList Try.prog ops Q (o :: rest) a w := by
  refine wpList_plain hgd fun K hK => ?_
  obtain ⟨v', w', hr, h2, h3, h5⟩ := h0.push g0 c0 u z o.type hrow hu hne hdist hn hbase
  unfold Oper.wp execOp
  simp only [ho, resolve, invoke, builtin, Sem.run_bind, Sem.run_pure, Result.andThen_ok, List.map_toArray, List.map_cons, List.map_nil, hs, hx, hr]
  exact hK _ _ (h v' w' h2 h3 h5)
/-- who is left, on the way -/
structure LfI (w W : World) (n0 base : Nat) (us : List Value) (L : List C2) (P : Pl) (k : Nat) (v : Value) (us' : List Value) : Prop where
  below : Below w.heap.size w W
  cd : CdD W base v us' (loL L P k)
  from_ : ∀ i, i < (loL L P k).length → ∃ j, j < k ∧ us'.getD i undef = us.getD j undef
  new : ∀ g, v.ownBlock = some g → n0 ≤ g
theorem lo_skip {L : List C2} {P : Pl} {k : Nat} (h : P (L.getD k blankC).1 ≠ some k) : loL L P (k + 1) = loL L P k := by
  rw [lo_succ, show liveAt L P k = none from if_neg h]; simp
theorem lo_take {L : List C2} {P : Pl} {k : Nat} (h : P (L.getD k blankC).1 = some k) : loL L P (k + 1) = loL L P k ++ [L.getD k blankC] := by
  rw [lo_succ, show liveAt L P k = some _ from if_pos h]; simp
set_option maxRecDepth 100000 in
set_option maxHeartbeats 4000000 in
theorem ileft_any (base : Nat) (vw : Value) (us : List Value) (L : List C2) (bm m : Nat) (P : Pl) (w : World) (hw : CdD w base vw us L) (hp : PlI w bm P m) (hok : ∀ x ∈ L, ksetOk x.1) (hL : L.length ≤ 1000000) (hbase : base ≤ w.heap.size) :
    Calls Try.prog 101 #[.agg #[vw, .map (some bm)]] w fun e w' => ∃ v' us', e = .returned v' ∧ CdD w' base v' us' (hiL L P 0) ∧ (∀ g, v'.ownBlock = some g → w.heap.size ≤ g) ∧ (∀ i, i < (hiL L P 0).length → ∃ j, j < L.length ∧ us'.getD i undef = us.getD j undef) ∧ Below w.heap.size w w' := by
  have hat := hw.at
  have HW := Lib.hid (fun wx (hb : Below w.heap.size w wx) => hw.below hb)
  have HWT := Lib.hid (fun (wx : World) (i : Nat) (hb : Below w.heap.size w wx) (hi : i < L.length) => iwaits_any vw L bm m P i wx (cdAv_below hat hb) (hp.below hb) hi (hok _ (getW hi)) hL)
  have HD := Lib.hid hw.dist
  have HLT := Lib.hid (fun i (hi : i < L.length) b (e : (us.getD i undef).ownBlock = some b) => ((hw.keys i hi).lt b e).2)
  obtain ⟨a, c, rfl, hcap, hcells⟩ := hat
  have hb0 := (Below.refl w.heap.size w).alloc (Nat.le_refl _) (.cells #[.slice a L.length c, .map (some bm)] 124)
  have HX := Lib.hid (heap_alloc_new w (.cells #[.slice a L.length c, .map (some bm)] 124))
  have HI := Lib.hid (show LfI w (w.alloc (.cells #[.slice a L.length c, .map (some bm)] 124)) (w.alloc (.cells #[.slice a L.length c, .map (some bm)] 124)).heap.size base us L P 0 (.slice none 0 0) [] from ⟨hb0, CdD.nil _ _, fun i hi => by simp [loL] at hi, fun g e => by cases e⟩)
  have HOK := Lib.hid hok
  clear hb0 hp hok hw
  go_enter Try.func101, Try.ntmps101
  go_upto_region 2 with (fail)
  generalize w.alloc (.cells #[.slice a L.length c, .map (some bm)] 124) = W at *
  obtain ⟨x0, x1, -, -⟩ := row2_of HX.out
  go_wp2_with fail
  clear x0 x1
  have HBW := Lib.hid (Below.refl W.heap.size W)
  have HWS := Lib.hid HI.out.below.size
  go_loopw [3, 9] (fun v i wr => ∃ (k : Nat) (v' : Value) (us' : List Value) (wz : World), v' = v ∧ wz = wr ∧ k ≤ L.length ∧ i = .int .i64 k ∧ LfI w wz W.heap.size base us L P k v' us' ∧ Below W.heap.size W wz) (fun _ i _ => L.length - (intOf i).toNat)
  case atStart => exact ⟨0, _, [], _, rfl, rfl, Nat.zero_le _, rfl, HI.out, HBW.out⟩
  case round =>
    obtain ⟨k, v, us', wr, hv, hwr, hkl, rfl, hJ, hbw⟩ := hrel
    subst hv hwr
    have HJ := Lib.hid hJ
    have HBR := Lib.hid hbw
    have HXR := Lib.hid ((hbw.block _ (Array.getElem?_eq_some_iff.1 HX.out).1).trans HX.out)
    clear hJ hbw HI HBW
    obtain ⟨av, cv, rfl⟩ : ∃ av cv, v = .slice av (loL L P k).length cv := by
      obtain ⟨a1, n1, c1, e⟩ := own_shape HJ.out.cd.own
      have h9 := HJ.out.cd.own
      rw [e] at h9
      exact ⟨a1, c1, by rw [e, own_lenS h9]⟩
    by_cases hlt : k < L.length
    · obtain ⟨g, off, rfl, hg, hcs⟩ := hcells.resolve_left (by omega)
      have z0 : (0 : Int) ≤ (k : Int) := by omega
      have z1 : (k : Int) < (L.length : Int) := by omega
      obtain ⟨u, c1, c2, c3⟩ := hcs k hlt
      have hJB := HJ.out.below
      have C1 := (hJB.cell (p := ⟨g, off + k * 2, none⟩) hg).trans c1
      have C2 := (hJB.cell (p := ⟨g, off + k * 2 + 1, none⟩) hg).trans c2
      have hun : us.getD k undef = u := by
        have h7 := HW.out w (Below.refl _ _)
        have h8 := (cdCells_get us L k h7.len hlt).1
        have h6 := h7.own
        rcases h6.2 with ⟨e, -⟩ | ⟨g', cap', cur, e, -⟩
        · cases e
        · cases e
          have h9 := h6.cellAt (k * 2) (by have h5 := h6.1; have h4 := cdCells_len us L h7.len; omega)
          rw [Nat.zero_add] at c1
          exact Option.some.inj ((h9.trans h8).symm.trans c1)
      have HUN := Lib.hid hun
      have HKU := Lib.hid (fun wx (hb : Below w.heap.size w wx) => by have h9 := (HW.out wx hb).keys k hlt; rw [hun] at h9; exact h9)
      have hba := (Below.refl wr.heap.size wr).alloc (Nat.le_refl _) (.cells #[u, .string (L.getD k blankC).2] 30)
      have HXB := Lib.hid (heap_alloc_new wr (.cells #[u, .string (L.getD k blankC).2] 30))
      have HBA := Lib.hid (hJB.trans (hba.mono hJB.size))
      have HBRA := Lib.hid (HBR.out.trans (hba.mono HBR.out.size))
      have HJA := Lib.hid (HJ.out.cd.below hba)
      have HSK := Lib.hid (fun (e : P (L.getD k blankC).1 ≠ some k) => lo_skip e)
      have HTK := Lib.hid (fun (e : P (L.getD k blankC).1 = some k) => lo_take e)
      have HWK := Lib.hid (fun wx (hb : Below w.heap.size w wx) => HWT.out wx k hb hlt)
      obtain ⟨au, cu, rfl, -, -⟩ := c3
      have hxk : (HXB.out.trans rfl : _) = HXB.out := rfl
      clear hxk hcells hcs c1 c2 hba hJB hun
      generalize hX : L.getD k blankC = x at *
      obtain ⟨xs, y⟩ := x
      dsimp only at *
      go_upto_region 5 with (fail)
      generalize wr.alloc (.cells #[.slice au xs.length cu, .string y] 30) = W5 at *
      clear C1 C2
      have HXR5 := (HBRA.out.block _ (Array.getElem?_eq_some_iff.1 HX.out).1).trans HX.out
      obtain ⟨x0, x1, -, -⟩ := row2_of HXR5
      go_wp2_with fail
      refine (HWK.out _ HBA.out).mono ?_
      rintro e w6 ⟨rfl, hb6⟩
      have HB6 := Lib.hid (HBA.out.trans (hb6.mono HBA.out.size))
      have HBR6 := Lib.hid (HBRA.out.trans (hb6.mono HBRA.out.size))
      have HJ6 := Lib.hid (HJA.out.below hb6)
      have HXB6 := Lib.hid ((hb6.block _ (Array.getElem?_eq_some_iff.1 HXB.out).1).trans HXB.out)
      clear hb6 x0 x1 HXR5
      by_cases hP : P xs = some k
      · rw [decide_eq_true hP]
        have HT := Lib.hid (HTK.out hP)
        clear hP
        obtain ⟨y0, y1, -, -⟩ := row2_of HXB6.out
        have hb7 := (Below.refl w6.heap.size w6).alloc (Nat.le_refl _) (.cells #[.slice au xs.length cu, .string y] 30)
        have HB7 := Lib.hid (HB6.out.trans (hb7.mono HB6.out.size))
        have HBR7 := Lib.hid (HBR6.out.trans (hb7.mono HBR6.out.size))
        have HJ7 := Lib.hid (HJ6.out.below hb7)
        have HL7 := Lib.hid (heap_alloc_new w6 (.cells #[.slice au xs.length cu, .string y] 30))
        have HKU7 := Lib.hid (HKU.out _ HB7.out)
        have hne7 : ∀ b, (Value.slice au xs.length cu).ownBlock = some b → (Value.slice av (loL L P k).length cv).ownBlock ≠ some b := fun b e e2 => by
          have h1 := HJ.out.new b e2
          have h2 := HLT.out k hlt b (by rw [HUN.out]; exact e)
          have h3 := HWS.out
          omega
        have hdi7 : ∀ i, i < (loL L P k).length → ∀ b, (Value.slice au xs.length cu).ownBlock = some b → (us'.getD i undef).ownBlock ≠ some b := fun i hi b e => by
          obtain ⟨j, hj, e2⟩ := HJ.out.from_ i hi
          rw [e2]
          exact HD.out j k hj hlt b (by rw [HUN.out]; exact e)
        have hll : (loL L P k).length ≤ 1000000 := by
          have : (loL L P k).length ≤ k := by unfold loL; exact Nat.le_trans (List.length_filterMap_le _ _) (by simp)
          omega
        have hbs7 : base ≤ (w6.alloc (.cells #[.slice au xs.length cu, .string y] 30)).heap.size := Nat.le_trans hbase HB7.out.size
        clear hb7
        go_wp2_with (at_builtin; refine wpList_append_cdd rfl (.tmp 17) (.tmp 19) rfl HJ7.out w6.heap.size 1 (.slice au xs.length cu) (xs, y) HL7.out HKU7.out hne7 hdi7 rfl rfl hll hbs7 ?_; intro v8 w8 hcd8 hg8 hl8)
        have HF := Lib.hid (show LfI w w8 W.heap.size base us L P (k + 1) v8 (us' ++ [.slice au xs.length cu]) from by
          refine ⟨HB7.out.grown hg8 HB7.out.size (fun j e => Nat.le_trans HWS.out (HJ.out.new j e)), by rw [HT.out]; exact hcd8, fun i hi => ?_, fun g e => ?_⟩
          · rw [HT.out, List.length_append, List.length_singleton] at hi
            rw [getD_app, HJ.out.cd.len]
            by_cases h9 : i < (loL L P k).length
            · rw [if_pos h9]
              obtain ⟨j, hj, e2⟩ := HJ.out.from_ i h9
              exact ⟨j, by omega, e2⟩
            · rw [if_neg h9, show i - (loL L P k).length = 0 by omega]
              exact ⟨k, by omega, HUN.out.symm⟩
          · rcases hl8 with h9 | h9
            · rw [h9] at e; exact HJ.out.new g e
            · rw [h9] at e; have h5 := Option.some.inj e; have h4 := HBR7.out.size; omega)
        have HBF := Lib.hid (HBR7.out.grown hg8 HBR7.out.size (fun j e => HJ.out.new j e))
        clear hcd8 hg8 hl8
        go_wp2
        exact ⟨⟨k + 1, _, _, _, rfl, rfl, by omega, by go_num, HF.out, HBF.out⟩, by simp [intOf]; omega⟩
      · rw [decide_eq_false hP]
        have HT := Lib.hid (HSK.out hP)
        have HF := Lib.hid (show LfI w w6 W.heap.size base us L P (k + 1) (.slice av (loL L P k).length cv) us' from
          ⟨HB6.out, by rw [HT.out]; exact HJ6.out, fun i hi => by rw [HT.out] at hi; obtain ⟨j, hj, e2⟩ := HJ.out.from_ i hi; exact ⟨j, by omega, e2⟩, HJ.out.new⟩)
        clear hP
        go_wp2
        exact ⟨⟨k + 1, _, us', _, rfl, rfl, by omega, by go_num, HF.out, HBR6.out⟩, by simp [intOf]; omega⟩
    · obtain rfl : k = L.length := by omega
      have hlo : loL L P L.length = hiL L P 0 := by unfold loL hiL; rw [Nat.sub_zero, List.range_eq_range']
      have h1 := HJ.out.cd
      have h2 := HJ.out.from_
      have h3 := HJ.out.new
      rw [hlo] at h1 h2 h3
      have HF := Lib.hid (And.intro h1 (And.intro (fun g e => Nat.le_trans HWS.out (h3 g e)) (And.intro h2 HJ.out.below)))
      rw [hlo]
      clear h1 h2 h3 hcells
      go_wp2
      go_ret
      exact ⟨_, us', rfl, HF.out.1, HF.out.2.1, HF.out.2.2.1, HF.out.2.2.2⟩
end Go.Proofs.Ytadjmfhhpkjpaaa
namespace Go.Proofs.Ytadjmfhhpkjpaaa
open Go.ChangeShapes Go.WideShapes Go.ChangeAt Go.RowKit Go.BigFrame Go.Maps
set_option linter.unusedVariables false
set_option linter.unusedSimpArgs false

theorem KeepX.trans2 {X Y : Nat → Prop} {a b c : World} (h : KeepX X a b) (k : KeepX Y b c) (hxy : ∀ j, j < a.heap.size → Y j → X j) : KeepX X a c :=
  ⟨k.os.trans h.os, k.tape.trans h.tape, k.output.trans h.output, Nat.le_trans h.size k.size, fun j hj hx => (k.block j (Nat.lt_of_lt_of_le hj h.size) (fun y => hx (hxy j hj y))).trans (h.block j hj hx)⟩
structure GtI (W0 W : World) (base b6 bm M : Nat) (vw vq0 : Value) (us : List Value) (Wd : List C2) (P : Pl) (m : Nat) (vq : Value) (q : List R3) : Prop where
  keep : KeepX (fun k => vw.ownBlock = some k ∨ k = bm ∨ k = b6 ∨ vq0.ownBlock = some k) W0 W
  words : CdD W base vw us Wd
  map : PlI W bm P m
  few : m ≤ M
  row : W.heap[b6]? = some (.cells #[vq] 126 (0, 0))
  que : QRd W base vq q
  qown : ∀ g, vq.ownBlock = some g → vq0.ownBlock = some g ∨ W0.heap.size ≤ g
  old : bm < W0.heap.size ∧ b6 < W0.heap.size ∧ ∀ g, vw.ownBlock = some g → g < W0.heap.size
  sw : ∀ g, vw.ownBlock = some g → g ≠ bm ∧ g ≠ b6 ∧ vq.ownBlock ≠ some g
  sk : ∀ i, i < Wd.length → ∀ g, (us.getD i undef).ownBlock = some g → g ≠ bm ∧ g ≠ b6 ∧ vq.ownBlock ≠ some g
  sq : ∀ g, vq.ownBlock = some g → g ≠ bm ∧ g ≠ b6
  ne : bm ≠ b6
section
variable {W0 W W' : World} {base b6 bm M m m' : Nat} {vw vq0 vq vq' u : Value} {us : List Value} {Wd : List C2} {P P' : Pl} {q q' : List R3}
theorem GtI.below (h : GtI W0 W base b6 bm M vw vq0 us Wd P m vq q) (hb : Below W.heap.size W W') : GtI W0 W' base b6 bm M vw vq0 us Wd P m vq q :=
  ⟨h.keep.trans (KeepX.below hb), h.words.below hb, h.map.below hb, h.few, (hb.block _ (Array.getElem?_eq_some_iff.1 h.row).1).trans h.row, h.que.below hb, h.qown, h.old, h.sw, h.sk, h.sq, h.ne⟩
theorem GtI.turn (h : GtI W0 W base b6 bm M vw vq0 us Wd P m vq q) (hp : PlI W' bm P' m') (hg : W.grownBy W' (some bm)) (hm : m' ≤ M) : GtI W0 W' base b6 bm M vw vq0 us Wd P' m' vq q := by
  have hk : KeepX (fun k => k = bm) W W' := KeepX.grown hg (fun k e => (Option.some.inj e).symm)
  exact ⟨h.keep.trans2 hk (fun j _ e => .inr (.inl e)), h.words.keep hk (fun g e => (h.sw g e).1) (fun i hi g e => (h.sk i hi g e).1), hp, hm, hk.row h.row (fun e => h.ne e.symm), h.que.keep hk (fun g e => (h.sq g e).1), h.qown, h.old, h.sw, h.sk, h.sq, h.ne⟩
theorem GtI.enq (h : GtI W0 W base b6 bm M vw vq0 us Wd P m vq q) (hr : W'.heap[b6]? = some (.cells #[vq'] 126 (0, 0))) (hq : QRd W' base vq' q') (hk : KeepX (fun k => k = b6 ∨ vq.ownBlock = some k) W W')
    (hl : vq'.ownBlock = vq.ownBlock ∨ ∃ g, vq'.ownBlock = some g ∧ W.heap.size ≤ g) : GtI W0 W' base b6 bm M vw vq0 us Wd P m vq' q' := by
  have hs := h.keep.size
  have hnew : ∀ g, vq'.ownBlock = some g → vq.ownBlock = some g ∨ W.heap.size ≤ g := fun g e => by
    rcases hl with e1 | ⟨g', e1, e2⟩
    · exact .inl (e1 ▸ e)
    · rw [e1] at e; cases e; exact .inr e2
  refine ⟨h.keep.trans2 hk (fun j hj e => ?_), h.words.keep hk (fun g e x => ?_) (fun i hi g e x => ?_), hk.map h.map (fun x => ?_), h.few, hr, hq, fun g e => ?_, h.old, fun g e => ⟨(h.sw g e).1, (h.sw g e).2.1, fun e2 => ?_⟩, fun i hi g e => ⟨(h.sk i hi g e).1, (h.sk i hi g e).2.1, fun e2 => ?_⟩, fun g e => ?_, h.ne⟩
  · rcases e with e | e
    · exact .inr (.inr (.inl e))
    · rcases h.qown j e with e2 | e2
      · exact .inr (.inr (.inr e2))
      · omega
  · rcases x with x | x
    · exact (h.sw g e).2.1 x
    · exact (h.sw g e).2.2 x
  · rcases x with x | x
    · exact (h.sk i hi g e).2.1 x
    · exact (h.sk i hi g e).2.2 x
  · rcases x with x | x
    · exact h.ne x
    · exact (h.sq bm x).1 rfl
  · rcases hnew g e with e2 | e2
    · exact h.qown g e2
    · exact .inr (by omega)
  · rcases hnew g e2 with e3 | e3
    · exact (h.sw g e).2.2 e3
    · have := h.old.2.2 g e; omega
  · rcases hnew g e2 with e3 | e3
    · exact (h.sk i hi g e).2.2 e3
    · have := ((h.words.keys i hi).lt g e).2; omega
  · rcases hnew g e with e3 | e3
    · exact h.sq g e3
    · have h1 := h.old.1; have h2 := h.old.2.1; exact ⟨by omega, by omega⟩
/-- all that stands here lies below n -/
structure OldAt (n : Nat) (W0 : World) (us : List Value) (Wd : List C2) (vq : Value) : Prop where
  keys : ∀ i, i < Wd.length → ∀ g, (us.getD i undef).ownBlock = some g → g < n
  que : ∀ g, vq.ownBlock = some g → g < n
  zero : W0.heap.size ≤ n
theorem GtI.oldAt (h : GtI W0 W base b6 bm M vw vq0 us Wd P m vq q) : OldAt W.heap.size W0 us Wd vq := ⟨fun i hi g e => ((h.words.keys i hi).lt g e).2, fun g e => (h.que.lt g e).2, h.keep.size⟩
theorem GtI.set {g0 cap n at' : Nat} {y : C2} (h : GtI W0 W base b6 bm M (.slice (some ⟨g0, 0, none⟩) Wd.length cap) vq0 us Wd P m vq q) (ho : OldAt n W0 us Wd vq) (hat : at' < Wd.length) (hu : W.ownsRow base 43 2 u y.1.length (keyCells y.1)) (hn : ∀ g, u.ownBlock = some g → n ≤ g) :
    GtI W0 ((W.setCell ⟨g0, at' * 2, none⟩ u).setCell ⟨g0, at' * 2 + 1, none⟩ (.string y.2)) base b6 bm M (.slice (some ⟨g0, 0, none⟩) Wd.length cap) vq0 (us.set at' u) (Wd.set at' y) P m vq q := by
  have hz := ho.zero
  have hg0 := h.old.2.2 g0 rfl
  have hsw := h.sw g0 rfl
  have hgr := grown2 W g0 u (.string y.2)
  have hgr : W.grownBy ((W.setCell ⟨g0, at' * 2, none⟩ u).setCell ⟨g0, at' * 2 + 1, none⟩ (.string y.2)) (some g0) := grown_trans (Lib.grownBy_setCell W g0 (at' * 2) u) (Lib.grownBy_setCell _ g0 (at' * 2 + 1) (.string y.2))
  have hk : KeepX (fun k => k = g0) W ((W.setCell ⟨g0, at' * 2, none⟩ u).setCell ⟨g0, at' * 2 + 1, none⟩ (.string y.2)) := KeepX.grown hgr (fun k e => (Option.some.inj e).symm)
  have hw := h.words.set hat hu (fun e => by have := hn g0 e; omega) (fun i hi b e e2 => by have h1 := hn b e; have h2 := ho.keys i hi b e2; omega)
  refine ⟨h.keep.trans2 hk (fun j _ e => .inl (by rw [e]; rfl)), ?_, hk.map h.map (fun e => hsw.1 e.symm), h.few, hk.row h.row (fun e => hsw.2.1 e.symm), h.que.keep hk (fun g e e2 => hsw.2.2 (by rw [e, e2])), h.qown, h.old, h.sw, fun i hi g e => ?_, h.sq, h.ne⟩
  · have e : (Wd.set at' y).length = Wd.length := List.length_set
    exact e ▸ hw
  · rw [List.length_set] at hi
    have e2 : (us.set at' u).getD i undef = if i = at' then u else us.getD i undef := by
      simp only [List.getD]
      by_cases e : i = at'
      · rw [if_pos e, e, List.getElem?_set_self (by rw [h.words.len]; exact hat)]; rfl
      · rw [if_neg e, List.getElem?_set_ne (fun e2 => e e2.symm)]
    rw [e2] at e
    split at e
    · have h1 := hn g e
      have h2 := h.old.1
      have h3 := h.old.2.1
      exact ⟨by omega, by omega, fun e3 => by have := ho.que g e3; omega⟩
    · exact h.sk i hi g e
end
end Go.Proofs.Ytadjmfhhpkjpaaa
