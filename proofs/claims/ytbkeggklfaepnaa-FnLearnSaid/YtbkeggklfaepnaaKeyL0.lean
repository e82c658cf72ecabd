/- Keys in the laws: one made anew, two held against each other. -/
import Derived.Test.YtbkeggklfaepnaaKeyG
import Derived.Test.YtbkeggklfaepnaaCell
namespace Go.Proofs.Ytbkeggklfaepnaa
open Go.ChangeShapes Go.WideShapes Go.ChangeAt Go.RowKit Go.BigFrame
set_option linter.unusedVariables false

theorem tokey_any (k : K2) (w : World) : Calls Try.prog 28 #[kv k] w fun e w' => e = .returned (kv k) ∧ Below w.heap.size w w' := by
  obtain ⟨n, s⟩ := k
  unfold kv
  dsimp only
  have hB : ∀ o1 o2 o3, Below w.heap.size w (((w.alloc o1).alloc o2).alloc o3) := fun o1 o2 o3 => (((Below.refl _ _).alloc (Nat.le_refl _) _).alloc (by simp) _).alloc (by simp; omega) _
  have HB := Lib.hid hB; clear hB
  go_enter Try.func28, Try.ntmps28
  go_wp2
  refine bodyPost_ret (v := .agg #[.int .i64 n, .int .i64 s]) ?_ rfl ⟨rfl, HB.out _ _ _⟩
  rw [results_cell (p := 2) (ty := 26) (by kernel_rfl)]
  have hl := run_loadVar_row (P := Try.prog) (((w.alloc (.cells #[.int .i64 n, .int .i64 s] 40)).alloc (.cells #[.int .i64 n, .int .i64 s] 26)).alloc (.cells #[.int .i64 n, .int .i64 s] 26)) (w.heap.size + 1) 26 26 #[.int .i64 n, .int .i64 s] (0, 0) _ (heap_mid w _ _ _) Try.underlying26 rfl (by kernel_rfl)
  simp [asAddr, Result.andThen, hl]
theorem eqkey_any (p q : K2) (w : World) : Calls Try.prog 56 #[kv p, kv q] w fun e w' => e = .returned (.bool (p == q)) ∧ Below w.heap.size w w' := by
  obtain ⟨a, b⟩ := p; obtain ⟨c, d⟩ := q
  have hB : ∀ o o', Below w.heap.size w ((w.alloc o).alloc o') := fun o o' => ((Below.refl _ _).alloc (Nat.le_refl _) _).alloc (by simp) _
  have HB := Lib.hid hB; clear hB
  by_cases h1 : a = c
  · by_cases h2 : b = d
    · have he : ((a, b) == (c, d)) = true := by simp [h1, h2]
      rw [he]
      unfold kv
      dsimp only
      subst h1; subst h2
      go_enter Try.func56, Try.ntmps56
      go_wp2
      go_ret
      exact ⟨rfl, HB.out _ _⟩
    · have he : ((a, b) == (c, d)) = false := by simp [h1, h2]
      rw [he]
      unfold kv
      dsimp only
      subst h1
      go_enter Try.func56, Try.ntmps56
      go_wp2
      go_ret
      exact ⟨rfl, HB.out _ _⟩
  · have he : ((a, b) == (c, d)) = false := by simp [h1]
    rw [he]
    unfold kv
    dsimp only
    go_enter Try.func56, Try.ntmps56
    go_wp2
    go_ret
    exact ⟨rfl, HB.out _ _⟩
end Go.Proofs.Ytbkeggklfaepnaa
