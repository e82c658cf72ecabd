/- Readings read, by the program and by the model. -/
import Derived.Test.YtbkeggklfaepnaaDoorRdRm
import Derived.Test.YtbkeggklfaepnaaDoorKeyRk
import Derived.Lib.BufferWrite
namespace Go.Proofs.YtbkeggklfaepnaaDoor
open Go.ChangeShapes Go.WideShapes Go.ChangeAt Go.RowKit Go.BigFrame
set_option linter.unusedVariables false

theorem results_cell_tmp {fn : Func} {p u : Tmp} {ty : TypeId} (h : fn.results = #[.cell p ty, .tmp u]) (tmps : Array Value) (P : Program) (w : World) :
    (results fn tmps).run P w = ((asAddr (tmps.getD p undef)).run P w).andThen fun a w₁ => ((loadVar ty a).run P w₁).andThen fun v w₂ => .ok (.tuple #[v, tmps.getD u undef]) w₂ := by
  simp only [results, h]
  simp [Sem.run_bind, Result.andThen]
def rdT (o : Option R3) : Value := .tuple #[rv (o.getD ((0, 0), ⟨#[]⟩)), .bool o.isSome]
theorem rdv_load (l : List UInt8) : rdv (readL l) = .tuple #[.string (loadX l), .bool (readL l).isSome] := by
  unfold loadX rdv
  cases readL l <;> rfl
theorem set_cellsT {w : World} {B j : Nat} {cs : Array Value} {t : TypeId} (u : Value) (h : w.heap[B]? = some (.cells cs t (0, 0))) : (w.setCell ⟨B, j, none⟩ u).heap[B]? = some (.cells (cs.setIfInBounds j u) t (0, 0)) := by
  obtain ⟨hlt, hk⟩ := Array.getElem?_eq_some_iff.1 h
  show (w.heap.modify B _)[B]? = _
  rw [Array.getElem?_eq_getElem (by rw [Array.size_modify]; exact hlt), Array.getElem_modify_self, hk]
  rfl
structure Z3 (w W : World) (r : R3) : Prop where
  c0 : W.cell? ⟨w.heap.size, 0, none⟩ = some (.int .i64 0)
  c1 : W.cell? ⟨w.heap.size, 1, none⟩ = some (.int .i64 0)
  c2 : W.cell? ⟨w.heap.size, 2, none⟩ = some (.string ⟨#[]⟩)
  f0 : W.frozen? ⟨w.heap.size, 0, none⟩ = false
  f1 : W.frozen? ⟨w.heap.size, 1, none⟩ = false
  f2 : W.frozen? ⟨w.heap.size, 2, none⟩ = false
  lt : w.heap.size < W.heap.size
  load : (loadVar 27 ⟨w.heap.size, 0, none⟩).run Tryd.prog (((W.setCell ⟨w.heap.size, 0, none⟩ (.int .i64 r.1.1)).setCell ⟨w.heap.size, 1, none⟩ (.int .i64 r.1.2)).setCell ⟨w.heap.size, 2, none⟩ (.string r.2)) =
    .ok (rv r) (((W.setCell ⟨w.heap.size, 0, none⟩ (.int .i64 r.1.1)).setCell ⟨w.heap.size, 1, none⟩ (.int .i64 r.1.2)).setCell ⟨w.heap.size, 2, none⟩ (.string r.2))
theorem z3_of {w W : World} (h : W.heap[w.heap.size]? = some (.cells #[.int .i64 0, .int .i64 0, .string ⟨#[]⟩] 27)) (r : R3) : Z3 w W r :=
  ⟨by rw [cell_of_row _ _ 0 _ _ _ h]; rfl, by rw [cell_of_row _ _ 1 _ _ _ h]; rfl, by rw [cell_of_row _ _ 2 _ _ _ h]; rfl, by simp [World.frozen?, h], by simp [World.frozen?, h], by simp [World.frozen?, h], (Array.getElem?_eq_some_iff.1 h).1,
    run_loadVar_row (P := Tryd.prog) _ w.heap.size 27 27 #[.int .i64 r.1.1, .int .i64 r.1.2, .string r.2] (0, 0) _ (set_cellsT _ (set_cellsT _ (set_cellsT _ h))) Tryd.underlying27 rfl (by kernel_rfl)⟩
theorem below_set3 {w W : World} (hb : Below w.heap.size w W) (p q r : Value) : Below w.heap.size w (((W.setCell ⟨w.heap.size, 0, none⟩ p).setCell ⟨w.heap.size, 1, none⟩ q).setCell ⟨w.heap.size, 2, none⟩ r) :=
  ((hb.setCell (p := ⟨w.heap.size, 0, none⟩) (Nat.le_refl _) p).setCell (p := ⟨w.heap.size, 1, none⟩) (Nat.le_refl _) q).setCell (p := ⟨w.heap.size, 2, none⟩) (Nat.le_refl _) r
set_option maxRecDepth 100000 in
set_option maxHeartbeats 2000000 in
theorem ireadreading_any (s : ByteArray) (w : World) (hs : s.size ≤ 2000000) (hV : ∀ w', Below w.heap.size w w' → DecVars w') (hM : MLen w) : Calls Tryd.prog 13 #[.string s] w fun e w' => e = .returned (rdT (rrI s)) ∧ Below w.heap.size w w' := by
  have HB0 := Lib.hid ((Below.refl w.heap.size w).alloc (Nat.le_refl _) (.cells #[.int .i64 0, .int .i64 0, .string ⟨#[]⟩] 27))
  have HX0 := Lib.hid (heap_alloc_new w (.cells #[.int .i64 0, .int .i64 0, .string ⟨#[]⟩] 27))
  obtain ⟨m, hm⟩ := hM.below HB0.out
  have hl := cutC_len 61 s.data.toList
  rw [show s.data.toList.length = s.size by simp] at hl
  have HC := Tryd.strings_Cut s ⟨#[61]⟩ m _ (by omega) hm
  rw [show (⟨#[61]⟩ : ByteArray).data.toList = [61] from rfl, cut_C] at HC
  have hrr : rrR s = (keyOfL (cutC 61 s.data.toList).1, loadX (cutC 61 s.data.toList).2.1) := rfl
  have hri : rrI s = if rdOkB (rrR s) then some (rrR s) else none := rfl
  rw [hrr] at hri
  generalize cutC 61 s.data.toList = c at *
  obtain ⟨na, nb, nf⟩ := c
  dsimp only at hl HC hri
  change Calls _ _ _ _ fun e w' => e = .returned (.tuple #[.string (tB na), .string (tB nb), .bool nf]) ∧ ∃ n, w' = World.drewN _ n at HC
  have hrh := fun w => iread_any (tB nb) w (by rw [tB_size]; omega)
  rw [show (tB nb).data.toList = nb by simp [tB], rdv_load] at hrh
  have RK := Lib.hid (fun w' (hb : Below w.heap.size w w') => ireadkey_any (tB na) w' (by rw [tB_size]; omega) (fun w2 h2 => hV w2 (hb.trans (h2.mono hb.size))) (hM.below hb))
  rw [show (tB na).data.toList = na by simp [tB]] at RK
  have HRH := Lib.hid hrh
  have RO := Lib.hid (fun w => ireadingok_any (keyOfL na, loadX nb) w)
  generalize keyOfL na = k at *
  generalize loadX nb = y at *
  generalize (readL nb).isSome = fb at *
  obtain ⟨p, q⟩ := k
  have HRI := Lib.hid hri
  have HCU := Lib.hid HC
  have hbk := fun w => run_build (P := Tryd.prog) w 27 #[(0, .agg #[.int .i64 p, .int .i64 q]), (1, .string y)] (#[.int .i64 p, .int .i64 q, .string y]) (by kernel_rfl)
  have hbz := fun w => run_build (P := Tryd.prog) w 27 #[] (#[.int .i64 0, .int .i64 0, .string ⟨#[]⟩]) (by kernel_rfl)
  unfold rv kv at *
  dsimp only at *
  clear hV hM hm hl hri HC hrh hrr
  go_enter Tryd.func13, Tryd.ntmps13
  go_wp2_with fail
  refine HCU.out.mono ?_
  rintro e w1 ⟨rfl, nd, rfl⟩
  have HB1 := Lib.hid (below_drewK HB0.out nd)
  have HX1 : Hid ((World.drewN (w.alloc (.cells #[.int .i64 0, .int .i64 0, .string ⟨#[]⟩] 27)) nd).heap[w.heap.size]? = some (.cells #[.int .i64 0, .int .i64 0, .string ⟨#[]⟩] 27)) := HX0.out
  clear HCU HB0 HX0
  generalize World.drewN (w.alloc (.cells #[.int .i64 0, .int .i64 0, .string ⟨#[]⟩] 27)) nd = w1 at *
  go_wp2_with fail
  refine (HRH.out _).mono ?_
  rintro e w2 ⟨rfl, hb2⟩
  have HB2 := Lib.hid (HB1.out.trans (hb2.mono HB1.out.size))
  have HX2 := Lib.hid ((hb2.block _ (Array.getElem?_eq_some_iff.1 HX1.out).1).trans HX1.out)
  clear hb2 HB1 HX1 HRH
  go_wp2_with fail
  refine (RK.out _ HB2.out).mono ?_
  rintro e w3 ⟨rfl, hb3⟩
  have hb3' := HB2.out.trans (hb3.mono HB2.out.size)
  have HX3 := (hb3.block _ (Array.getElem?_eq_some_iff.1 HX2.out).1).trans HX2.out
  have HB4 := Lib.hid (hb3'.alloc hb3'.size (.cells #[.int .i64 p, .int .i64 q, .string y] 27))
  have HX4 := Lib.hid ((Below.heap_alloc w3 (.cells #[.int .i64 p, .int .i64 q, .string y] 27) _ (Array.getElem?_eq_some_iff.1 HX3).1).trans HX3)
  have HY4 := Lib.hid (heap_alloc_new w3 (.cells #[.int .i64 p, .int .i64 q, .string y] 27))
  clear hb3 hb3' HB2 HX2 RK HX3
  go_wp2_with fail
  refine (RO.out _).mono ?_
  rintro e w5 ⟨rfl, hb5⟩
  have HB5 := Lib.hid (HB4.out.trans (hb5.mono HB4.out.size))
  have HX5 := Lib.hid ((hb5.block _ (Array.getElem?_eq_some_iff.1 HX4.out).1).trans HX4.out)
  have hy5 := (hb5.block _ (Array.getElem?_eq_some_iff.1 HY4.out).1).trans HY4.out
  have y0 : w5.cell? ⟨w3.heap.size, 0, none⟩ = some (.int .i64 p) := by rw [cell_of_row _ _ 0 _ _ _ hy5]; rfl
  have y1 : w5.cell? ⟨w3.heap.size, 1, none⟩ = some (.int .i64 q) := by rw [cell_of_row _ _ 1 _ _ _ hy5]; rfl
  have y2 : w5.cell? ⟨w3.heap.size, 2, none⟩ = some (.string y) := by rw [cell_of_row _ _ 2 _ _ _ hy5]; rfl
  clear hb5 HB4 HX4 HY4 hy5 RO
  cases hok : rdOkB ((p, q), y) with
  | false =>
    rw [hok] at HRI
    obtain ⟨c0, c1, c2, f0, f1, f2, hlt, hload⟩ := z3_of HX5.out ((0, 0), ⟨#[]⟩)
    unfold rv at hload
    have HL := Lib.hid hload
    have HF := Lib.hid (below_set3 HB5.out (.int .i64 0) (.int .i64 0) (.string ⟨#[]⟩))
    clear hload hok
    go_wp2_with fail
    refine bodyPost_ret (v := .tuple #[.agg #[.int .i64 0, .int .i64 0, .string ⟨#[]⟩], .bool false]) ?_ rfl ⟨by rw [HRI.out]; rfl, HF.out⟩
    rw [results_cell_tmp (p := 2) (u := 3) (ty := 27) (by kernel_rfl)]
    have hl := HL.out
    simp [asAddr, Result.andThen, hl]
  | true =>
    rw [hok] at HRI
    obtain ⟨c0, c1, c2, f0, f1, f2, hlt, hload⟩ := z3_of HX5.out ((p, q), y)
    unfold rv at hload
    have HL := Lib.hid hload
    have HF := Lib.hid (below_set3 HB5.out (.int .i64 p) (.int .i64 q) (.string y))
    clear hload hok
    go_wp2_with fail
    refine bodyPost_ret (v := .tuple #[.agg #[.int .i64 p, .int .i64 q, .string y], .bool true]) ?_ rfl ⟨by rw [HRI.out]; rfl, HF.out⟩
    rw [results_cell_tmp (p := 2) (u := 3) (ty := 27) (by kernel_rfl)]
    have hl := HL.out
    simp [asAddr, Result.andThen, hl]
set_option maxRecDepth 100000 in
set_option maxHeartbeats 2000000 in
theorem sreadreading_any (s : ByteArray) (w : World) (hs : s.size ≤ 1999999) : Calls Tryd.prog 14 #[.string s] w fun e w' => e = .returned (rdT (rrS s)) ∧ Below w.heap.size w w' := by
  have HB0 := Lib.hid ((Below.refl w.heap.size w).alloc (Nat.le_refl _) (.cells #[.int .i64 0, .int .i64 0, .string ⟨#[]⟩] 27))
  have HX0 := Lib.hid (heap_alloc_new w (.cells #[.int .i64 0, .int .i64 0, .string ⟨#[]⟩] 27))
  have hl := cutC_len 61 s.data.toList
  rw [show s.data.toList.length = s.size by simp] at hl
  have HC := fun w => scut_any s 61 w (by omega)
  have hri : rrS s = if keysOkR (keysOfL (cutC 61 s.data.toList).1) = true ∧ (readL (cutC 61 s.data.toList).2.1).isSome = true ∧ (keysOfL (cutC 61 s.data.toList).1).length = 1 then
    if rtB ((keysOfL (cutC 61 s.data.toList).1).getD 0 (0, 0), loadX (cutC 61 s.data.toList).2.1) = s then some ((keysOfL (cutC 61 s.data.toList).1).getD 0 (0, 0), loadX (cutC 61 s.data.toList).2.1) else none
    else none := rfl
  generalize cutC 61 s.data.toList = c at *
  obtain ⟨na, nb, nf⟩ := c
  dsimp only at hl HC hri
  have hrh := fun w => sread_any (tB nb) w (by rw [tB_size]; omega)
  rw [show (tB nb).data.toList = nb by simp [tB], rdv_load] at hrh
  have RK := Lib.hid (fun w' => sreadkeys_any (tB na) w' (by rw [tB_size]; omega))
  rw [show (tB na).data.toList = na by simp [tB]] at RK
  have HRH := Lib.hid hrh
  generalize keysOfL na = K at *
  generalize loadX nb = y at *
  generalize (readL nb).isSome = fb at *
  have HRI := Lib.hid hri
  have HCU := Lib.hid HC
  have hbz := fun w => run_build (P := Tryd.prog) w 27 #[] (#[.int .i64 0, .int .i64 0, .string ⟨#[]⟩]) (by kernel_rfl)
  have hc61 : ((61 : UInt8).toNat : Int) = 61 := rfl
  rw [hc61] at HCU
  clear hl hri HC hrh hc61
  go_enter Tryd.func14, Tryd.ntmps14
  go_wp2_with fail
  refine (HCU.out _).mono ?_
  rintro e w1 ⟨rfl, hb1⟩
  have HB1 := Lib.hid (HB0.out.trans (hb1.mono HB0.out.size))
  have HX1 := Lib.hid ((hb1.block _ (Array.getElem?_eq_some_iff.1 HX0.out).1).trans HX0.out)
  clear HCU HB0 HX0 hb1
  go_wp2_with fail
  refine (RK.out _).mono ?_
  rintro e w2 ⟨vk, rfl, hok2, hb2⟩
  have HB2 := Lib.hid (HB1.out.trans (hb2.mono HB1.out.size))
  have HX2 := Lib.hid ((hb2.block _ (Array.getElem?_eq_some_iff.1 HX1.out).1).trans HX1.out)
  clear hb2 HB1 HX1 RK
  go_wp2_with fail
  refine (HRH.out _).mono ?_
  rintro e w3 ⟨rfl, hb3⟩
  have HB3 := Lib.hid (HB2.out.trans (hb3.mono HB2.out.size))
  have HX3 := Lib.hid ((hb3.block _ (Array.getElem?_eq_some_iff.1 HX2.out).1).trans HX2.out)
  have hok3 := own_below hok2 hb3
  clear hb3 HB2 HX2 HRH hok2
  obtain ⟨ak, ck, rfl, hck, hcells⟩ := keysAt_own hok3
  clear hok3
  by_cases hg : keysOkR K = true ∧ fb = true ∧ K.length = 1
  · have hgg := hg
    obtain ⟨hk, rfl, hlen⟩ := hg
    rw [if_pos hgg] at HRI
    rw [hk]
    rw [okKeys_ok hk] at hck hcells ⊢
    obtain ⟨⟨p, q⟩, rfl⟩ := List.length_eq_one_iff.1 hlen
    obtain ⟨g, off, rfl, hgl, hcs⟩ := hcells.resolve_left (by simp)
    have hc := hcs 0 (by simp)
    simp only [List.getD_cons_zero, Nat.zero_mul, Nat.add_zero] at hc HRI
    obtain ⟨k0, k1⟩ := hc
    have HST := Lib.hid (fun w => sreadingtext_any ((p, q), y) w)
    have hbk := fun w => run_build (P := Tryd.prog) w 27 #[(0, .agg #[.int .i64 p, .int .i64 q]), (1, .string y)] (#[.int .i64 p, .int .i64 q, .string y]) (by kernel_rfl)
    have HB4 := Lib.hid (HB3.out.alloc HB3.out.size (.cells #[.int .i64 p, .int .i64 q, .string y] 27))
    have HX4 := Lib.hid ((Below.heap_alloc w3 (.cells #[.int .i64 p, .int .i64 q, .string y] 27) _ (Array.getElem?_eq_some_iff.1 HX3.out).1).trans HX3.out)
    have HY4 := Lib.hid (heap_alloc_new w3 (.cells #[.int .i64 p, .int .i64 q, .string y] 27))
    generalize rtB ((p, q), y) = T at *
    unfold rv at HST
    dsimp only at HST
    clear hcells hcs HB3 HX3 hk hgg hlen
    go_wp2_with fail
    refine (HST.out _).mono ?_
    rintro e w5 ⟨rfl, hb5⟩
    have HB5 := Lib.hid (HB4.out.trans (hb5.mono HB4.out.size))
    have HX5 := Lib.hid ((hb5.block _ (Array.getElem?_eq_some_iff.1 HX4.out).1).trans HX4.out)
    have hy5 := (hb5.block _ (Array.getElem?_eq_some_iff.1 HY4.out).1).trans HY4.out
    have y0 : w5.cell? ⟨w3.heap.size, 0, none⟩ = some (.int .i64 p) := by rw [cell_of_row _ _ 0 _ _ _ hy5]; rfl
    have y1 : w5.cell? ⟨w3.heap.size, 1, none⟩ = some (.int .i64 q) := by rw [cell_of_row _ _ 1 _ _ _ hy5]; rfl
    have y2 : w5.cell? ⟨w3.heap.size, 2, none⟩ = some (.string y) := by rw [cell_of_row _ _ 2 _ _ _ hy5]; rfl
    clear hb5 HB4 HX4 HY4 hy5 HST k0 k1
    by_cases heq : T = s
    · have e1 : (T.toList == s.toList) = true := by rw [heq]; exact beq_self_eq_true _
      rw [if_pos heq] at HRI
      obtain ⟨c0, c1, c2, f0, f1, f2, hlt, hload⟩ := z3_of HX5.out ((p, q), y)
      unfold rv at hload
      have HL := Lib.hid hload
      have HF := Lib.hid (below_set3 HB5.out (.int .i64 p) (.int .i64 q) (.string y))
      clear hload heq
      go_wp2_with fail
      refine bodyPost_ret (v := .tuple #[.agg #[.int .i64 p, .int .i64 q, .string y], .bool true]) ?_ rfl ⟨by rw [HRI.out]; rfl, HF.out⟩
      rw [results_cell_tmp (p := 2) (u := 3) (ty := 27) (by kernel_rfl)]
      have hl := HL.out
      simp [asAddr, Result.andThen, hl]
    · have e1 : (T.toList == s.toList) = false := beq_eq_false_iff_ne.2 (fun h => heq ((bytes_toList_iff _ _).1 h))
      rw [if_neg heq] at HRI
      obtain ⟨c0, c1, c2, f0, f1, f2, hlt, hload⟩ := z3_of HX5.out ((0, 0), ⟨#[]⟩)
      unfold rv at hload
      have HL := Lib.hid hload
      have HF := Lib.hid (below_set3 HB5.out (.int .i64 0) (.int .i64 0) (.string ⟨#[]⟩))
      clear hload heq
      go_wp2_with fail
      refine bodyPost_ret (v := .tuple #[.agg #[.int .i64 0, .int .i64 0, .string ⟨#[]⟩], .bool false]) ?_ rfl ⟨by rw [HRI.out]; rfl, HF.out⟩
      rw [results_cell_tmp (p := 2) (u := 3) (ty := 27) (by kernel_rfl)]
      have hl := HL.out
      simp [asAddr, Result.andThen, hl]
  · rw [if_neg hg] at HRI
    obtain ⟨c0, c1, c2, f0, f1, f2, hlt, hload⟩ := z3_of HX3.out ((0, 0), ⟨#[]⟩)
    unfold rv at hload
    have HL := Lib.hid hload
    have HF := Lib.hid (below_set3 HB3.out (.int .i64 0) (.int .i64 0) (.string ⟨#[]⟩))
    have hgo : keysOkR K = true → fb = true → ¬ ((okKeys K).length : Int) = 1 := by
      intro h1 h2 h3
      rw [okKeys_ok h1] at h3
      exact hg ⟨h1, h2, by omega⟩
    generalize (okKeys K).length = n at *
    generalize keysOkR K = b at *
    clear hload hcells hg
    have fin : ∀ x : Unit, True := fun _ => trivial
    cases b with
    | false =>
      clear hgo
      go_wp2_with fail
      refine bodyPost_ret (v := .tuple #[.agg #[.int .i64 0, .int .i64 0, .string ⟨#[]⟩], .bool false]) ?_ rfl ⟨by rw [HRI.out]; rfl, HF.out⟩
      rw [results_cell_tmp (p := 2) (u := 3) (ty := 27) (by kernel_rfl)]
      have hl := HL.out
      simp [asAddr, Result.andThen, hl]
    | true =>
      cases fb with
      | false =>
        clear hgo
        go_wp2_with fail
        refine bodyPost_ret (v := .tuple #[.agg #[.int .i64 0, .int .i64 0, .string ⟨#[]⟩], .bool false]) ?_ rfl ⟨by rw [HRI.out]; rfl, HF.out⟩
        rw [results_cell_tmp (p := 2) (u := 3) (ty := 27) (by kernel_rfl)]
        have hl := HL.out
        simp [asAddr, Result.andThen, hl]
      | true =>
        have hn1 := hgo rfl rfl
        clear hgo
        go_wp2_with fail
        refine bodyPost_ret (v := .tuple #[.agg #[.int .i64 0, .int .i64 0, .string ⟨#[]⟩], .bool false]) ?_ rfl ⟨by rw [HRI.out]; rfl, HF.out⟩
        rw [results_cell_tmp (p := 2) (u := 3) (ty := 27) (by kernel_rfl)]
        have hl := HL.out
        simp [asAddr, Result.andThen, hl]
end Go.Proofs.YtbkeggklfaepnaaDoor
