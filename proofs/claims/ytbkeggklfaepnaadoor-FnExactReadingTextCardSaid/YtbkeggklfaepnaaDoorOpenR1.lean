/- Readings and lists of readings that came in as arguments, opened. -/
import Derived.Test.YtbkeggklfaepnaaDoorRdM
import Derived.Deep.SlicePairs
import Derived.Lib.SmallJoins
namespace Go.Proofs.YtbkeggklfaepnaaDoor
open Go.ChangeShapes Go.WideShapes Go.ChangeAt Go.RowKit Go.Deep
set_option linter.unusedVariables false

set_option maxRecDepth 10000 in
theorem rd_cells_read {H : Type} {enc : TypeId × Value → H} {W : World} {base : Nat} {sp : Nat → Bool} {held : Bool} {n : Nat} {cs : List Value} {x : DataW H × List MemPlace} (hl : cs.length = 3)
    (h : DataW.trod enc Tryd.prog W base sp held n 36 cs = some x) : ∃ r : R3, cs = [.int .i64 r.1.1, .int .i64 r.1.2, .string r.2] ∧ r.2.size ≤ maxLen := by
  have c0 : Tryd.prog.cellsOf 34 = 2 := by kernel_rfl
  have c1 : Tryd.prog.cellsOf 9 = 1 := by kernel_rfl
  have c2 : Tryd.prog.cellsOf 3 = 1 := by kernel_rfl
  match cs, hl with
  | [a, b, c], _ =>
    obtain ⟨xs, k, hk, hxy, _, hxl, hf⟩ := DataW.trod_struct Tryd.underlying36 h
    match xs, hxl with
    | [y0, y1], _ =>
      have g0 := hf 0 _ rfl
      have g1 := hf 1 _ rfl
      simp [c0, c1] at g0 g1
      obtain ⟨zs, k2, hk2, hzy, _, hzl, hg⟩ := DataW.trod_struct Tryd.underlying34 g0
      match zs, hzl with
      | [u0, u1], _ =>
        have i0 := hg 0 _ rfl
        have i1 := hg 1 _ rfl
        simp [c2] at i0 i1
        obtain ⟨z0, e0, -, -⟩ := DataW.trod_int Tryd.underlying3 i0
        obtain ⟨z1, e1, -, -⟩ := DataW.trod_int Tryd.underlying3 i1
        obtain ⟨s, e2, -, hs⟩ := DataW.trod_string Tryd.underlying9 g1
        cases e0; cases e1; cases e2
        exact ⟨((z0, z1), s), rfl, hs⟩
set_option maxRecDepth 10000 in
theorem open_reading {H : Type} {enc : TypeId × Value → H} {W : World} {r : Reach} {b0 : Nat} {v : Value} {d : DataW H} {p : List MemPlace} (hv : Value.okWide Tryd.prog W r b0 36 v) (h : DataW.Trod enc Tryd.prog W 0 (fun _ => true) true 36 v d p) : ∃ q : R3, v = rv q ∧ q.2.size ≤ maxLen := by
  obtain ⟨cs, rfl, hsz⟩ := okWide_struct Tryd.underlying36 hv
  have hC : Tryd.prog.cellsOf 36 = 3 := by kernel_rfl
  obtain ⟨fuel, hf⟩ := h
  obtain ⟨q, hq, hs⟩ := rd_cells_read (by simpa [Value.cells] using hsz.trans hC) hf
  refine ⟨q, ?_, hs⟩
  simp only [Value.cells] at hq
  unfold rv
  rw [← Array.toArray_toList (xs := cs), hq]
end Go.Proofs.YtbkeggklfaepnaaDoor
