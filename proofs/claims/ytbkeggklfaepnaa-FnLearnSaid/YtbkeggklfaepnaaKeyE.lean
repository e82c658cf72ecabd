/- Two keys held against each other. -/
import Derived.Laws.StructEq
import Derived.Test.YtbkeggklfaepnaaKeyS0
namespace Go.Proofs.Ytbkeggklfaepnaa
open Go.ChangeShapes Go.WideShapes Go.ChangeAt Go.RowKit Go.BigFrame
set_option linter.unusedVariables false
theorem key_equal (p q : K2) (w : World) : (Op.equalIn 10000 26 (kv p) (kv q)).run Try.prog w = .ok (p == q) w := by
  obtain ⟨a, b⟩ := p; obtain ⟨c, d⟩ := q
  have u3 := Try.underlying3
  have hS : Try.prog.underlying 26 = some (.struct (Try.prog.fieldsOf 26)) := by kernel_rfl
  unfold kv
  rw [show (10000 : Nat) = 9999 + 1 from rfl, run_equalIn_agg w 9999 26 _ _ hS (by kernel_rfl)]
  simp only [Program.fieldsOf, Try.underlying26]
  go_simp
  by_cases h1 : a = c <;> by_cases h2 : b = d <;> simp [h1, h2]
theorem key_eql (p q : K2) (w : World) : (binOp .eql 26 (kv p) (kv q)).run Try.prog w = .ok (.bool (p == q)) w := by
  have := key_equal p q w
  unfold kv at *
  rw [run_eql_struct, this]; rfl
theorem key_neq (p q : K2) (w : World) : (binOp .neq 26 (kv p) (kv q)).run Try.prog w = .ok (.bool (!(p == q))) w := by
  have := key_equal p q w
  unfold kv at *
  rw [run_neq_struct, this]; rfl
theorem key_guard (op : BinOp) (x y : Operand) (p q : K2) (w : World) : (eqGuard op 26 x y (kv p) (kv q)).run Try.prog w = .ok () w := by
  unfold kv
  exact run_eqGuard_agg w op 26 x y _ _ (by kernel_rfl)
end Go.Proofs.Ytbkeggklfaepnaa
