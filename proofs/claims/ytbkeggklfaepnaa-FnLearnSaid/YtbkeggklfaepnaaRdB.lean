/- The program's chapter 4, walked: the bytes of a load. -/
import Derived.Test.YtbkeggklfaepnaaRdI
import Derived.Lib.BufferWrite
import Derived.Lib.SlBuf
import Derived.Laws.CopyOwn
import Derived.Stop.BytesEq
namespace Go.Proofs.Ytbkeggklfaepnaa
open Go.ChangeShapes Go.WideShapes Go.ChangeAt Go.RowKit Go.BigFrame
set_option linter.unusedVariables false

/-- four bytes as an array's value -/
def arr4 (y : ByteArray) : Value := .agg (Lib.byteCells y.data.toList).toArray
theorem four_bytes (y : ByteArray) (h : y.size = 4) : ∃ a b c d : UInt8, y.data.toList = [a, b, c, d] := by
  have hl : y.data.toList.length = 4 := by simpa using h
  match hm : y.data.toList, hl with
  | [a, b, c, d], _ => exact ⟨a, b, c, d, rfl⟩
theorem set_cellsR {w : World} {B j : Nat} {cs : Array Value} {t : TypeId} (u : Value) (h : w.heap[B]? = some (.cells cs t (0, 0))) : (w.setCell ⟨B, j, none⟩ u).heap[B]? = some (.cells (cs.setIfInBounds j u) t (0, 0)) := by
  obtain ⟨hlt, hk⟩ := Array.getElem?_eq_some_iff.1 h
  show (w.heap.modify B _)[B]? = _
  rw [Array.getElem?_eq_getElem (by rw [Array.size_modify]; exact hlt), Array.getElem_modify_self, hk]
  rfl
set_option maxRecDepth 100000 in
theorem iloadbytes_any (y : ByteArray) (w : World) (hy : y.size = 4) : Calls Try.prog 37 #[.string y] w fun e w' => e = .returned (arr4 y) ∧ Below w.heap.size w w' := by
  obtain ⟨a, b, c, d, hd⟩ := four_bytes y hy
  have hsz : (Try.prog.info? 5).map (·.size) = some 1 := by kernel_rfl
  have hW : (((w.alloc (.cells #[.int .u8 0, .int .u8 0, .int .u8 0, .int .u8 0] 60)).alloc (.cells #[.int .u8 0, .int .u8 0, .int .u8 0, .int .u8 0] 60))).heap[w.heap.size + 1]? = some (.cells #[.int .u8 0, .int .u8 0, .int .u8 0, .int .u8 0] 60) := by
    have := heap_alloc_new (w.alloc (.cells #[.int .u8 0, .int .u8 0, .int .u8 0, .int .u8 0] 60)) (.cells #[.int .u8 0, .int .u8 0, .int .u8 0, .int .u8 0] 60)
    simpa using this
  have hB : Below w.heap.size w ((w.alloc (.cells #[.int .u8 0, .int .u8 0, .int .u8 0, .int .u8 0] 60)).alloc (.cells #[.int .u8 0, .int .u8 0, .int .u8 0, .int .u8 0] 60)) := ((Below.refl _ _).alloc (Nat.le_refl _) _).alloc (by simp) _
  have hF : ((w.alloc (.cells #[.int .u8 0, .int .u8 0, .int .u8 0, .int .u8 0] 60)).alloc (.cells #[.int .u8 0, .int .u8 0, .int .u8 0, .int .u8 0] 60)).heap[w.heap.size]? = some (.cells #[.int .u8 0, .int .u8 0, .int .u8 0, .int .u8 0] 60) := heap_first _ _ _
  have hr := fun ty => Lib.run_copy_row_string (P := Try.prog) ((w.alloc (.cells #[.int .u8 0, .int .u8 0, .int .u8 0, .int .u8 0] 60)).alloc (.cells #[.int .u8 0, .int .u8 0, .int .u8 0, .int .u8 0] 60)) 22 9 ty 5 (w.heap.size + 1) 0 4 4 y #[.int .u8 0, .int .u8 0, .int .u8 0, .int .u8 0] 60 Try.underlying22 hsz hW (by omega) (by simp; omega)
  rw [show (List.take 0 (#[Value.int .u8 0, .int .u8 0, .int .u8 0, .int .u8 0] : Array Value).toList ++ Lib.byteCells y.data.toList ++ List.drop (0 + y.size) (#[Value.int .u8 0, .int .u8 0, .int .u8 0, .int .u8 0] : Array Value).toList).toArray = #[.int .u8 a.toNat, .int .u8 b.toNat, .int .u8 c.toNat, .int .u8 d.toNat] by rw [hy, hd]; rfl] at hr
  have hB2 := below_setRow hB (show w.heap.size ≤ w.heap.size + 1 by omega) #[.int .u8 a.toNat, .int .u8 b.toNat, .int .u8 c.toNat, .int .u8 d.toNat]
  have hS := setRow_heap _ (w.heap.size + 1) _ #[.int .u8 a.toNat, .int .u8 b.toNat, .int .u8 c.toNat, .int .u8 d.toNat] 60 (0, 0) hW
  have hF2 : (World.setRow ((w.alloc (.cells #[.int .u8 0, .int .u8 0, .int .u8 0, .int .u8 0] 60)).alloc (.cells #[.int .u8 0, .int .u8 0, .int .u8 0, .int .u8 0] 60)) (w.heap.size + 1) #[.int .u8 a.toNat, .int .u8 b.toNat, .int .u8 c.toNat, .int .u8 d.toNat]).heap[w.heap.size]? = some (.cells #[.int .u8 0, .int .u8 0, .int .u8 0, .int .u8 0] 60) := by
    rw [setRow_other _ _ _ _ (by omega)]; exact hF
  generalize World.setRow ((w.alloc (.cells #[.int .u8 0, .int .u8 0, .int .u8 0, .int .u8 0] 60)).alloc (.cells #[.int .u8 0, .int .u8 0, .int .u8 0, .int .u8 0] 60)) (w.heap.size + 1) #[.int .u8 a.toNat, .int .u8 b.toNat, .int .u8 c.toNat, .int .u8 d.toNat] = W2 at *
  have c0 : W2.cell? ⟨w.heap.size + 1, 0, none⟩ = some (.int .u8 a.toNat) := by rw [cell_of_row _ _ 0 _ _ _ hS]; rfl
  have c1 : W2.cell? ⟨w.heap.size + 1, 1, none⟩ = some (.int .u8 b.toNat) := by rw [cell_of_row _ _ 1 _ _ _ hS]; rfl
  have c2 : W2.cell? ⟨w.heap.size + 1, 2, none⟩ = some (.int .u8 c.toNat) := by rw [cell_of_row _ _ 2 _ _ _ hS]; rfl
  have c3 : W2.cell? ⟨w.heap.size + 1, 3, none⟩ = some (.int .u8 d.toNat) := by rw [cell_of_row _ _ 3 _ _ _ hS]; rfl
  have d0 : W2.cell? ⟨w.heap.size, 0, none⟩ = some (.int .u8 0) := by rw [cell_of_row _ _ 0 _ _ _ hF2]; rfl
  have d1 : W2.cell? ⟨w.heap.size, 1, none⟩ = some (.int .u8 0) := by rw [cell_of_row _ _ 1 _ _ _ hF2]; rfl
  have d2 : W2.cell? ⟨w.heap.size, 2, none⟩ = some (.int .u8 0) := by rw [cell_of_row _ _ 2 _ _ _ hF2]; rfl
  have d3 : W2.cell? ⟨w.heap.size, 3, none⟩ = some (.int .u8 0) := by rw [cell_of_row _ _ 3 _ _ _ hF2]; rfl
  have f0 : W2.frozen? ⟨w.heap.size, 0, none⟩ = false := by simp [World.frozen?, hF2]
  have f1 : W2.frozen? ⟨w.heap.size, 1, none⟩ = false := by simp [World.frozen?, hF2]
  have f2 : W2.frozen? ⟨w.heap.size, 2, none⟩ = false := by simp [World.frozen?, hF2]
  have f3 : W2.frozen? ⟨w.heap.size, 3, none⟩ = false := by simp [World.frozen?, hF2]
  have hfin : ((((W2.setCell ⟨w.heap.size, 0, none⟩ (.int .u8 a.toNat)).setCell ⟨w.heap.size, 1, none⟩ (.int .u8 b.toNat)).setCell ⟨w.heap.size, 2, none⟩ (.int .u8 c.toNat)).setCell ⟨w.heap.size, 3, none⟩ (.int .u8 d.toNat)).heap[w.heap.size]? = some (.cells #[.int .u8 a.toNat, .int .u8 b.toNat, .int .u8 c.toNat, .int .u8 d.toNat] 60) :=
    set_cellsR _ (set_cellsR _ (set_cellsR _ (set_cellsR _ hF2)))
  have hBf := (((hB2.setCell (p := ⟨w.heap.size, 0, none⟩) (Nat.le_refl _) (.int .u8 a.toNat)).setCell (p := ⟨w.heap.size, 1, none⟩) (Nat.le_refl _) (.int .u8 b.toNat)).setCell (p := ⟨w.heap.size, 2, none⟩) (Nat.le_refl _) (.int .u8 c.toNat)).setCell (p := ⟨w.heap.size, 3, none⟩) (Nat.le_refl _) (.int .u8 d.toNat)
  have L2 := run_loadVar_row (P := Try.prog) _ w.heap.size 60 60 #[.int .u8 a.toNat, .int .u8 b.toNat, .int .u8 c.toNat, .int .u8 d.toNat] (0, 0) _ hfin Try.underlying60 rfl (by kernel_rfl)
  have L2 := Lib.hid L2; have HBF := Lib.hid hBf; clear hfin hBf hB2 hB hF hW hF2 hS hsz
  go_enter Try.func37, Try.ntmps37
  go_wp2_with (at_builtin; refine Lib.wpList_copy_run _ rfl (.tmp 4) (.tmp 5) 22 9 rfl _ _ rfl rfl (hr _) ?_)
  refine bodyPost_ret (v := .agg #[.int .u8 a.toNat, .int .u8 b.toNat, .int .u8 c.toNat, .int .u8 d.toNat]) ?_ rfl ⟨by unfold arr4; rw [hd]; rfl, HBF.out⟩
  rw [results_cell (p := 2) (ty := 60) (by kernel_rfl)]
  simp [asAddr, Result.andThen, L2.out]
end Go.Proofs.Ytbkeggklfaepnaa
