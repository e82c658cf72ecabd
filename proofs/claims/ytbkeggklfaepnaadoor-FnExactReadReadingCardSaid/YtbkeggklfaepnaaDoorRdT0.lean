/- Readings in the laws: one made anew. -/
import Derived.Test.YtbkeggklfaepnaaDoorRdE
import Derived.Test.YtbkeggklfaepnaaDoorKeyL0
import Derived.Test.YtbkeggklfaepnaaDoorOwnR
namespace Go.Proofs.YtbkeggklfaepnaaDoor
open Go.ChangeShapes Go.WideShapes Go.ChangeAt Go.RowKit Go.BigFrame
set_option linter.unusedVariables false

theorem tokey_exact (n s : Int) (w : World) : Calls Tryd.prog 34 #[.agg #[.int .i64 n, .int .i64 s]] w fun e w' => e = .returned (.agg #[.int .i64 n, .int .i64 s]) ∧
    w' = ((w.alloc (.cells #[.int .i64 n, .int .i64 s] 34)).alloc (.cells #[.int .i64 n, .int .i64 s] 25)).alloc (.cells #[.int .i64 n, .int .i64 s] 25) := by
  go_enter Tryd.func34, Tryd.ntmps34
  go_wp2
  refine bodyPost_ret (v := .agg #[.int .i64 n, .int .i64 s]) ?_ rfl ⟨rfl, rfl⟩
  rw [results_cell (p := 2) (ty := 25) (by kernel_rfl)]
  have hl := run_loadVar_row (P := Tryd.prog) (((w.alloc (.cells #[.int .i64 n, .int .i64 s] 34)).alloc (.cells #[.int .i64 n, .int .i64 s] 25)).alloc (.cells #[.int .i64 n, .int .i64 s] 25)) (w.heap.size + 1) 25 25 #[.int .i64 n, .int .i64 s] (0, 0) _ (heap_mid w _ _ _) Tryd.underlying25 rfl (by kernel_rfl)
  simp [asAddr, Result.andThen, hl]
theorem toreading_any (r : R3) (w : World) : Calls Tryd.prog 16 #[rv r] w fun e w' => e = .returned (rv r) ∧ Below w.heap.size w w' := by
  obtain ⟨⟨n, s⟩, x⟩ := r
  unfold rv
  dsimp only
  go_enter Tryd.func16, Tryd.ntmps16
  go_wp2_with fail
  refine (tokey_exact n s _).mono ?_
  rintro e w1 ⟨rfl, rfl⟩
  go_wp2_with fail
  have h0 := heap_mid w (.cells #[.int .i64 n, .int .i64 s, .string x] 36) (.cells #[.int .i64 n, .int .i64 s, .string x] 27) (.cells #[.int .i64 n, .int .i64 s, .string x] 27)
  have h1 := (Below.heap_alloc _ (.cells #[.int .i64 n, .int .i64 s] 34) _ (Array.getElem?_eq_some_iff.1 h0).1).trans h0
  have h2 := (Below.heap_alloc _ (.cells #[.int .i64 n, .int .i64 s] 25) _ (Array.getElem?_eq_some_iff.1 h1).1).trans h1
  have h3 := (Below.heap_alloc _ (.cells #[.int .i64 n, .int .i64 s] 25) _ (Array.getElem?_eq_some_iff.1 h2).1).trans h2
  have hB := (((((((Below.refl w.heap.size w).alloc (Nat.le_refl _) (.cells #[.int .i64 n, .int .i64 s, .string x] 36)).alloc (by simp) (.cells #[.int .i64 n, .int .i64 s, .string x] 27)).alloc (by simp; omega) (.cells #[.int .i64 n, .int .i64 s, .string x] 27)).alloc (by simp; omega) (.cells #[.int .i64 n, .int .i64 s] 34)).alloc (by simp; omega) (.cells #[.int .i64 n, .int .i64 s] 25)).alloc (by simp; omega) (.cells #[.int .i64 n, .int .i64 s] 25))
  refine bodyPost_ret (v := .agg #[.int .i64 n, .int .i64 s, .string x]) ?_ rfl ⟨rfl, hB⟩
  rw [results_cell (p := 2) (ty := 27) (by kernel_rfl)]
  have hl := run_loadVar_row (P := Tryd.prog) _ (w.heap.size + 1) 27 27 #[.int .i64 n, .int .i64 s, .string x] (0, 0) _ h3 Tryd.underlying27 rfl (by kernel_rfl)
  simp [asAddr, Result.andThen, hl]
end Go.Proofs.YtbkeggklfaepnaaDoor
