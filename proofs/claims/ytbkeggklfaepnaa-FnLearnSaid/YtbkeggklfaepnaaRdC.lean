/- The program's chapter 4, walked: a reading made anew. -/
import Derived.Test.YtbkeggklfaepnaaRdB
import Derived.Test.YtbkeggklfaepnaaClonC
namespace Go.Proofs.Ytbkeggklfaepnaa
open Go.ChangeShapes Go.WideShapes Go.ChangeAt Go.RowKit Go.BigFrame
set_option linter.unusedVariables false

structure CpAft (w w2 : World) (p q : Int) (y : ByteArray) : Prop where
  x0 : w2.cell? ⟨w.heap.size, 0, none⟩ = some (.int .i64 p)
  x1 : w2.cell? ⟨w.heap.size, 1, none⟩ = some (.int .i64 q)
  d0 : w2.cell? ⟨w.heap.size + 1, 0, none⟩ = some (.int .i64 0)
  d1 : w2.cell? ⟨w.heap.size + 1, 1, none⟩ = some (.int .i64 0)
  d2 : w2.cell? ⟨w.heap.size + 1, 2, none⟩ = some (.string ⟨#[]⟩)
  f0 : w2.frozen? ⟨w.heap.size + 1, 0, none⟩ = false
  f1 : w2.frozen? ⟨w.heap.size + 1, 1, none⟩ = false
  f2 : w2.frozen? ⟨w.heap.size + 1, 2, none⟩ = false
  row : w2.heap[w.heap.size + 1]? = some (.cells #[.int .i64 0, .int .i64 0, .string ⟨#[]⟩] 28)
  below : Below w.heap.size w w2
theorem cpAft (w : World) (p q : Int) (y : ByteArray) (w2 : World) (hb : Below (((w.alloc (.cells #[.int .i64 p, .int .i64 q, .string y] 28)).alloc (.cells #[.int .i64 0, .int .i64 0, .string ⟨#[]⟩] 28)).drew).heap.size (((w.alloc (.cells #[.int .i64 p, .int .i64 q, .string y] 28)).alloc (.cells #[.int .i64 0, .int .i64 0, .string ⟨#[]⟩] 28)).drew) w2) : CpAft w w2 p q y := by
  rw [show (((w.alloc (.cells #[.int .i64 p, .int .i64 q, .string y] 28)).alloc (.cells #[.int .i64 0, .int .i64 0, .string ⟨#[]⟩] 28)).drew).heap.size = w.heap.size + 1 + 1 by show ((w.alloc _).alloc _).heap.size = _; simp] at hb
  have h0 := heap_first w (.cells #[.int .i64 0, .int .i64 0, .string ⟨#[]⟩] 28) (.cells #[.int .i64 p, .int .i64 q, .string y] 28)
  have h1 : ((w.alloc (.cells #[.int .i64 p, .int .i64 q, .string y] 28)).alloc (.cells #[.int .i64 0, .int .i64 0, .string ⟨#[]⟩] 28)).heap[w.heap.size + 1]? = some (.cells #[.int .i64 0, .int .i64 0, .string ⟨#[]⟩] 28) := by
    have := heap_alloc_new (w.alloc (.cells #[.int .i64 p, .int .i64 q, .string y] 28)) (.cells #[.int .i64 0, .int .i64 0, .string ⟨#[]⟩] 28)
    simpa using this
  have hq1 := (hb.block w.heap.size (by omega)).trans h0
  have hq2 := (hb.block (w.heap.size + 1) (by omega)).trans h1
  have hq3 := ((((Below.refl w.heap.size w).alloc (Nat.le_refl _) (.cells #[.int .i64 p, .int .i64 q, .string y] 28)).alloc (by simp) (.cells #[.int .i64 0, .int .i64 0, .string ⟨#[]⟩] 28)).drew).trans (hb.mono (by omega))
  exact ⟨by rw [cell_of_row _ _ 0 _ _ _ hq1]; rfl, by rw [cell_of_row _ _ 1 _ _ _ hq1]; rfl, by rw [cell_of_row _ _ 0 _ _ _ hq2]; rfl, by rw [cell_of_row _ _ 1 _ _ _ hq2]; rfl, by rw [cell_of_row _ _ 2 _ _ _ hq2]; rfl, by simp [World.frozen?, hq2], by simp [World.frozen?, hq2], by simp [World.frozen?, hq2], hq2, hq3⟩
set_option maxRecDepth 100000 in
set_option maxHeartbeats 1000000 in
theorem icopyrd_any (r : R3) (w : World) (hy : r.2.size ≤ 2000000) : Calls Try.prog 52 #[rv r] w fun e w' => e = .returned (rv r) ∧ Below w.heap.size w w' := by
  obtain ⟨⟨p, q⟩, y⟩ := r
  unfold rv
  dsimp only at *
  have HC := Lib.hid (fun w => cloneR_any y w hy)
  have AFT := Lib.hid (cpAft w p q y)
  go_enter Try.func52, Try.ntmps52
  go_wp2_with fail
  go_region_with (go_at_call 41; refine (HC.out _).mono ?_; rintro e w2 ⟨rfl, hb2⟩; obtain ⟨x0, x1, d0, d1, d2, f0, f1, f2, hq2, hq3⟩ := AFT.out w2 hb2; have HQ := Lib.hid (And.intro hq2 hq3); clear hq2 hq3 hb2)
  all_goals
    go_wp2_with fail
    have hfin := set_cellsR (j := 2) (.string y) (set_cellsR (j := 1) (.int .i64 q) (set_cellsR (j := 0) (.int .i64 p) HQ.out.1))
    have hBf := ((HQ.out.2.setCell (p := ⟨w.heap.size + 1, 0, none⟩) (by simp) (.int .i64 p)).setCell (p := ⟨w.heap.size + 1, 1, none⟩) (by simp) (.int .i64 q)).setCell (p := ⟨w.heap.size + 1, 2, none⟩) (by simp) (.string y)
    have L2 := run_loadVar_row (P := Try.prog) _ (w.heap.size + 1) 28 28 #[.int .i64 p, .int .i64 q, .string y] (0, 0) _ hfin Try.underlying28 rfl (by kernel_rfl)
    refine bodyPost_ret (v := .agg #[.int .i64 p, .int .i64 q, .string y]) ?_ rfl ⟨rfl, hBf⟩
    rw [results_cell (p := 2) (ty := 28) (by kernel_rfl)]
    simp [asAddr, Result.andThen, L2]
end Go.Proofs.Ytbkeggklfaepnaa
