/- Two readings held against each other. -/
import Derived.Test.YtbkeggklfaepnaaRdM
import Derived.Test.YtbkeggklfaepnaaKeyE
namespace Go.Proofs.Ytbkeggklfaepnaa
open Go.ChangeShapes Go.WideShapes Go.ChangeAt Go.RowKit Go.BigFrame
set_option linter.unusedVariables false
theorem bytes_toList_iff (a b : ByteArray) : a.toList = b.toList ↔ a = b := by
  refine ⟨fun h => ?_, fun h => by rw [h]⟩
  rw [ByteArray.toList_eq, ByteArray.toList_eq] at h
  exact ByteArray.ext (Array.toList_inj.1 h)
theorem key_equal_d (d : Nat) (p q : K2) (w : World) : (Op.equalIn (d + 1 + 1) 26 (kv p) (kv q)).run Try.prog w = .ok (decide (p = q)) w := by
  obtain ⟨a, b⟩ := p; obtain ⟨c, e⟩ := q
  have u3 := Try.underlying3
  have hS : Try.prog.underlying 26 = some (.struct (Try.prog.fieldsOf 26)) := by kernel_rfl
  unfold kv
  rw [run_equalIn_agg w (d + 1) 26 _ _ hS (by kernel_rfl)]
  simp only [Program.fieldsOf, Try.underlying26]
  go_simp
  by_cases h1 : a = c <;> by_cases h2 : b = e <;> simp [h1, h2]
theorem rd_equal_d (d : Nat) (p q : R3) (w : World) : (Op.equalIn (d + 1 + 1 + 1) 28 (rv p) (rv q)).run Try.prog w = .ok (decide (p = q)) w := by
  obtain ⟨⟨a, b⟩, s⟩ := p; obtain ⟨⟨c, e⟩, t⟩ := q
  have us := Try.underlying9
  have hS : Try.prog.underlying 28 = some (.struct (Try.prog.fieldsOf 28)) := by kernel_rfl
  have hk := key_equal_d d (a, b) (c, e) w
  unfold kv at hk
  unfold rv
  rw [run_equalIn_agg w (d + 1 + 1) 28 _ _ hS (by kernel_rfl)]
  simp only [Program.fieldsOf, Try.underlying28]
  go_simp
  simp only [bytes_toList_iff]
  by_cases h1 : a = c <;> by_cases h2 : b = e <;> by_cases h3 : s = t <;> simp [h1, h2, h3]
theorem rd_equal (p q : R3) (w : World) : (Op.equalIn 10000 28 (rv p) (rv q)).run Try.prog w = .ok (decide (p = q)) w := rd_equal_d 9997 p q w
theorem rd_eql (p q : R3) (w : World) : (binOp .eql 28 (rv p) (rv q)).run Try.prog w = .ok (.bool (decide (p = q))) w := by
  have := rd_equal p q w
  unfold rv at *
  rw [run_eql_struct, this]; rfl
theorem rd_neq (p q : R3) (w : World) : (binOp .neq 28 (rv p) (rv q)).run Try.prog w = .ok (.bool (!(decide (p = q)))) w := by
  have := rd_equal p q w
  unfold rv at *
  rw [run_neq_struct, this]; rfl
theorem rd_guard (op : BinOp) (x y : Operand) (p q : R3) (w : World) : (eqGuard op 28 x y (rv p) (rv q)).run Try.prog w = .ok () w := by
  unfold rv
  exact run_eqGuard_agg w op 28 x y _ _ (by kernel_rfl)
end Go.Proofs.Ytbkeggklfaepnaa
