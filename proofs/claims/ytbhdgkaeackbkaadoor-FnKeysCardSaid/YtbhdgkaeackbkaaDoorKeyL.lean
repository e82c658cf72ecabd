/- Keys in the laws: made anew, held against each other. -/
import Derived.Test.YtbhdgkaeackbkaaDoorKeyJ
import Derived.Test.YtbhdgkaeackbkaaDoorCell
namespace Go.Proofs.YtbhdgkaeackbkaaDoor
open Go.ChangeShapes Go.WideShapes Go.ChangeAt Go.RowKit Go.BigFrame
set_option linter.unusedVariables false

theorem sjoined_any (va vb : Value) (A B : List K2) (w : World) (ha : keysAt w va A) (hb : keysAt w vb B) (hsA : A.length ≤ 2000000) (hsB : B.length ≤ 2000000) :
    Calls Tryd.prog 51 #[va, vb] w fun e w' => ∃ v, e = .returned v ∧ w'.ownsRow w.heap.size 43 2 v (mergeV true A B).length (keyCells (mergeV true A B)) ∧ Below w.heap.size w w' := by
  have H := Lib.hid (smerge_any va vb A B true w ha hb hsA hsB)
  go_enter Tryd.func51, Tryd.ntmps51
  go_wp2_with fail
  refine H.out.mono ?_
  rintro e w1 ⟨v, rfl, ho, hB⟩
  go_wp2
  go_ret
  exact ⟨v, rfl, ho, hB⟩
theorem tokey_any (k : K2) (w : World) : Calls Tryd.prog 38 #[kv k] w fun e w' => e = .returned (kv k) ∧ Below w.heap.size w w' := by
  obtain ⟨n, s⟩ := k
  unfold kv
  dsimp only
  have hB : ∀ o1 o2 o3, Below w.heap.size w (((w.alloc o1).alloc o2).alloc o3) := fun o1 o2 o3 => (((Below.refl _ _).alloc (Nat.le_refl _) _).alloc (by simp) _).alloc (by simp; omega) _
  have HB := Lib.hid hB; clear hB
  go_enter Tryd.func38, Tryd.ntmps38
  go_wp2
  refine bodyPost_ret (v := .agg #[.int .i64 n, .int .i64 s]) ?_ rfl ⟨rfl, HB.out _ _ _⟩
  rw [results_cell (p := 2) (ty := 43) (by kernel_rfl)]
  have hl := run_loadVar_row (P := Tryd.prog) (((w.alloc (.cells #[.int .i64 n, .int .i64 s] 58)).alloc (.cells #[.int .i64 n, .int .i64 s] 43)).alloc (.cells #[.int .i64 n, .int .i64 s] 43)) (w.heap.size + 1) 43 43 #[.int .i64 n, .int .i64 s] (0, 0) _ (heap_mid w _ _ _) Tryd.underlying43 rfl (by kernel_rfl)
  simp [asAddr, Result.andThen, hl]
theorem eqkey_any (p q : K2) (w : World) : Calls Tryd.prog 39 #[kv p, kv q] w fun e w' => e = .returned (.bool (p == q)) ∧ Below w.heap.size w w' := by
  obtain ⟨a, b⟩ := p; obtain ⟨c, d⟩ := q
  have hB : ∀ o o', Below w.heap.size w ((w.alloc o).alloc o') := fun o o' => ((Below.refl _ _).alloc (Nat.le_refl _) _).alloc (by simp) _
  have HB := Lib.hid hB; clear hB
  by_cases h1 : a = c
  · by_cases h2 : b = d
    · have he : ((a, b) == (c, d)) = true := by simp [h1, h2]
      rw [he]
      unfold kv
      dsimp only
      subst h1; subst h2
      go_enter Tryd.func39, Tryd.ntmps39
      go_wp2
      go_ret
      exact ⟨rfl, HB.out _ _⟩
    · have he : ((a, b) == (c, d)) = false := by simp [h1, h2]
      rw [he]
      unfold kv
      dsimp only
      subst h1
      go_enter Tryd.func39, Tryd.ntmps39
      go_wp2
      go_ret
      exact ⟨rfl, HB.out _ _⟩
  · have he : ((a, b) == (c, d)) = false := by simp [h1]
    rw [he]
    unfold kv
    dsimp only
    go_enter Tryd.func39, Tryd.ntmps39
    go_wp2
    go_ret
    exact ⟨rfl, HB.out _ _⟩
end Go.Proofs.YtbhdgkaeackbkaaDoor
