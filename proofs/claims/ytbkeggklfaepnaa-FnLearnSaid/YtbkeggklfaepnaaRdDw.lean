/- Chapter 4's draws: what the laws on lists draw. -/
import Derived.Test.YtbkeggklfaepnaaRdAn
namespace Go.Proofs.Ytbkeggklfaepnaa
open Go.ChangeShapes Go.WideShapes Go.ChangeAt Go.RowKit Go.BigFrame
set_option linter.unusedVariables false

theorem set_cellsD2 {w : World} {b : Nat} {x y : Value} {t : TypeId} (p q : Value) (h : w.heap[b]? = some (.cells #[x, y] t (0, 0))) :
    ((w.setCell ⟨b, 0, none⟩ p).setCell ⟨b, 1, none⟩ q).heap[b]? = some (.cells #[p, q] t (0, 0)) := set_cellsD _ (set_cellsD _ h)
set_option maxRecDepth 100000 in
set_option maxHeartbeats 2000000 in
theorem drawlearn_any (n₀ len cap : Nat) (a : Option Addr) (zs : List Int) (w : World) (hc : CodeAt n₀ w a len zs) (hw : n₀ ≤ w.heap.size) :
    Calls Try.prog 10 #[.slice a len cap] w fun e w' => ∃ (v : Value) (rs : List R3) (r : R3), e = .returned (.tuple #[v, rv r]) ∧ rs.length ≤ 6 ∧ (∀ q ∈ rs, q.2.size ≤ 5) ∧ r.2.size ≤ 5 ∧ w'.ownsRow w.heap.size 28 3 v rs.length (rdCells rs) ∧ Below w.heap.size w w' := by
  have HB0 := Lib.hid ((Below.refl w.heap.size w).alloc (Nat.le_refl _) (.cells #[.int .i64 0, .int .i64 0, .string ⟨#[]⟩] 28))
  have HX0 := Lib.hid (heap_alloc_new w (.cells #[.int .i64 0, .int .i64 0, .string ⟨#[]⟩] 28))
  have hc1 := hc.below ((Below.refl n₀ w).alloc hw (.cells #[.int .i64 0, .int .i64 0, .string ⟨#[]⟩] 28))
  go_enter Try.func10, Try.ntmps10
  go_wp2_with fail
  refine (new_any n₀ len cap a zs _ hc1 (by simp; omega)).mono ?_
  rintro e w1 ⟨g, rfl, hg, hst, hbn, hgrn⟩
  have hgw : w.heap.size < g := by simp at hg; omega
  have hg1 := hst.lt
  have HB1 := Lib.hid (HB0.out.grown hgrn HB0.out.size (by simp))
  have HX1 := Lib.hid ((hgrn.block _ (Array.getElem?_eq_some_iff.1 HX0.out).1 (by simp)).trans HX0.out)
  clear hbn hgrn hg HX0 HB0 hc1
  go_wp2_with fail
  refine (l04any_any n₀ g len cap a zs _ _ hst).mono ?_
  rintro e w2 ⟨v, rs, c2, rfl, hrl, hsz, hown, hd2⟩
  have HSZ := Lib.hid hsz
  have hst2 := hd2.st
  have HB2 := Lib.hid (HB1.out.grown hd2.grown HB1.out.size (fun j e => by cases e; omega))
  have HX2 := Lib.hid ((hd2.grown.block _ (Array.getElem?_eq_some_iff.1 HX1.out).1 (fun e => by cases e; omega)).trans HX1.out)
  have HO2 := Lib.hid hown
  have HZ1 := Lib.hid HB1.out.size
  clear hst hd2 HX1 hsz hown HB1
  go_wp2_with fail
  refine (l04odd_any n₀ g len cap a zs c2 _ hst2).mono ?_
  rintro e w3 ⟨⟨⟨p, q⟩, y⟩, c3, rfl, hk3, hy3, hd3⟩
  have hown3 := HO2.out.kept hd3.grown (by
    cases hv : v.ownBlock with
    | none => exact .inl rfl
    | some b => exact .inr (fun e => by cases e; have := (HO2.out.lt _ hv).1; omega))
  have HB3 := Lib.hid (HB2.out.grown hd3.grown HB2.out.size (fun j e => by cases e; omega))
  have hx3 := (hd3.grown.block _ (Array.getElem?_eq_some_iff.1 HX2.out).1 (fun e => by cases e; omega)).trans HX2.out
  have hwx : w.heap.size < w1.heap.size := by omega
  have hown4 := hown3.kept (grown3 w3 w.heap.size (.int .i64 p) (.int .i64 q) (.string y)) (by
    cases hv : v.ownBlock with
    | none => exact .inl rfl
    | some b => exact .inr (fun e => by cases e; have := (hown3.lt _ hv).1; omega))
  obtain ⟨x0, x1, x2, f0, f1, f2⟩ := row3_of hx3
  have HF := Lib.hid (And.intro (own_base hown4 HZ1.out) (((HB3.out.setCell (p := ⟨w.heap.size, 0, none⟩) (Nat.le_refl _) (.int .i64 p)).setCell (p := ⟨w.heap.size, 1, none⟩) (Nat.le_refl _) (.int .i64 q)).setCell (p := ⟨w.heap.size, 2, none⟩) (Nat.le_refl _) (.string y)))
  have L2 := Lib.hid (run_loadVar_row (P := Try.prog) _ w.heap.size 28 28 #[.int .i64 p, .int .i64 q, .string y] (0, 0) _ (set3 (.int .i64 p) (.int .i64 q) (.string y) hx3) Try.underlying28 rfl (by kernel_rfl))
  have hlw := (Array.getElem?_eq_some_iff.1 hx3).1
  unfold rv
  dsimp only at *
  clear hd3 HO2 HB2 HX2 hown3 hown4 hx3 HB3 hst2
  go_wp2_with fail
  refine bodyPost_ret (v := .tuple #[v, .agg #[.int .i64 p, .int .i64 q, .string y]]) ?_ rfl ⟨v, rs, ((p, q), y), rfl, hrl, HSZ.out, hy3, HF.out.1, HF.out.2⟩
  rw [results_tmp_cell (p := 3) (u := 2) (ty := 28) (by kernel_rfl)]
  simp [asAddr, Result.andThen, L2.out]
set_option maxRecDepth 100000 in
set_option maxHeartbeats 2000000 in
theorem drawloadof_any (n₀ len cap : Nat) (a : Option Addr) (zs : List Int) (w : World) (hc : CodeAt n₀ w a len zs) (hw : n₀ ≤ w.heap.size) :
    Calls Try.prog 17 #[.slice a len cap] w fun e w' => ∃ (v : Value) (rs : List R3) (r : K2), e = .returned (.tuple #[v, kv r]) ∧ rs.length ≤ 6 ∧ (∀ q ∈ rs, q.2.size ≤ 5) ∧ w'.ownsRow w.heap.size 28 3 v rs.length (rdCells rs) ∧ Below w.heap.size w w' := by
  have HB0 := Lib.hid ((Below.refl w.heap.size w).alloc (Nat.le_refl _) (.cells #[.int .i64 0, .int .i64 0] 26))
  have HX0 := Lib.hid (heap_alloc_new w (.cells #[.int .i64 0, .int .i64 0] 26))
  have hc1 := hc.below ((Below.refl n₀ w).alloc hw (.cells #[.int .i64 0, .int .i64 0] 26))
  go_enter Try.func17, Try.ntmps17
  go_wp2_with fail
  refine (new_any n₀ len cap a zs _ hc1 (by simp; omega)).mono ?_
  rintro e w1 ⟨g, rfl, hg, hst, hbn, hgrn⟩
  have hgw : w.heap.size < g := by simp at hg; omega
  have hg1 := hst.lt
  have HB1 := Lib.hid (HB0.out.grown hgrn HB0.out.size (by simp))
  have HX1 := Lib.hid ((hgrn.block _ (Array.getElem?_eq_some_iff.1 HX0.out).1 (by simp)).trans HX0.out)
  clear hbn hgrn hg HX0 HB0 hc1
  go_wp2_with fail
  refine (l04any_any n₀ g len cap a zs _ _ hst).mono ?_
  rintro e w2 ⟨v, rs, c2, rfl, hrl, hsz, hown, hd2⟩
  have HSZ := Lib.hid hsz
  have hst2 := hd2.st
  have HB2 := Lib.hid (HB1.out.grown hd2.grown HB1.out.size (fun j e => by cases e; omega))
  have HX2 := Lib.hid ((hd2.grown.block _ (Array.getElem?_eq_some_iff.1 HX1.out).1 (fun e => by cases e; omega)).trans HX1.out)
  have HO2 := Lib.hid hown
  have HZ1 := Lib.hid HB1.out.size
  clear hst hd2 HX1 hsz hown HB1
  go_wp2_with fail
  refine (key_any n₀ g len cap a zs c2 _ hst2).mono ?_
  rintro e w3 ⟨⟨p, q⟩, c3, rfl, hk3, hd3⟩
  have hown3 := HO2.out.kept hd3.grown (by
    cases hv : v.ownBlock with
    | none => exact .inl rfl
    | some b => exact .inr (fun e => by cases e; have := (HO2.out.lt _ hv).1; omega))
  have HB3 := Lib.hid (HB2.out.grown hd3.grown HB2.out.size (fun j e => by cases e; omega))
  have hx3 := (hd3.grown.block _ (Array.getElem?_eq_some_iff.1 HX2.out).1 (fun e => by cases e; omega)).trans HX2.out
  have hwx : w.heap.size < w1.heap.size := by omega
  have hown4 := hown3.kept (grown_two w3 w.heap.size (.int .i64 p) (.int .i64 q)) (by
    cases hv : v.ownBlock with
    | none => exact .inl rfl
    | some b => exact .inr (fun e => by cases e; have := (hown3.lt _ hv).1; omega))
  obtain ⟨x0, x1, f0, f1, -, -⟩ := two_set (.int .i64 0) (.int .i64 0) (.int .i64 p) (.int .i64 q) hx3
  have HF := Lib.hid (And.intro (own_base hown4 HZ1.out) ((HB3.out.setCell (p := ⟨w.heap.size, 0, none⟩) (Nat.le_refl _) (.int .i64 p)).setCell (p := ⟨w.heap.size, 1, none⟩) (Nat.le_refl _) (.int .i64 q)))
  have L2 := Lib.hid (run_loadVar_row (P := Try.prog) _ w.heap.size 26 26 #[.int .i64 p, .int .i64 q] (0, 0) _ (set_cellsD2 (.int .i64 p) (.int .i64 q) hx3) Try.underlying26 rfl (by kernel_rfl))
  have hlw := (Array.getElem?_eq_some_iff.1 hx3).1
  unfold kv
  dsimp only at *
  clear hd3 HO2 HB2 HX2 hown3 hown4 hx3 HB3 hst2
  go_wp2_with fail
  refine bodyPost_ret (v := .tuple #[v, .agg #[.int .i64 p, .int .i64 q]]) ?_ rfl ⟨v, rs, (p, q), rfl, hrl, HSZ.out, HF.out.1, HF.out.2⟩
  rw [results_tmp_cell (p := 3) (u := 2) (ty := 26) (by kernel_rfl)]
  simp [asAddr, Result.andThen, L2.out]
end Go.Proofs.Ytbkeggklfaepnaa
