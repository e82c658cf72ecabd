/- Two readings held against each other. -/
import Derived.Test.YtbkeggklfaepnaaDoorRdM
import Derived.Test.YtbkeggklfaepnaaDoorKeyE
namespace Go.Proofs.YtbkeggklfaepnaaDoor
open Go.ChangeShapes Go.WideShapes Go.ChangeAt Go.RowKit Go.BigFrame
set_option linter.unusedVariables false
theorem bytes_toList_iff (a b : ByteArray) : a.toList = b.toList ↔ a = b := by
  refine ⟨fun h => ?_, fun h => by rw [h]⟩
  rw [ByteArray.toList_eq, ByteArray.toList_eq] at h
  exact ByteArray.ext (Array.toList_inj.1 h)
theorem key_equal_d (d : Nat) (p q : K2) (w : World) : (Op.equalIn (d + 1 + 1) 25 (kv p) (kv q)).run Tryd.prog w = .ok (decide (p = q)) w := by
  obtain ⟨a, b⟩ := p; obtain ⟨c, e⟩ := q
  have u3 := Tryd.underlying3
  have hS : Tryd.prog.underlying 25 = some (.struct (Tryd.prog.fieldsOf 25)) := by kernel_rfl
  unfold kv
  rw [run_equalIn_agg w (d + 1) 25 _ _ hS (by kernel_rfl)]
  simp only [Program.fieldsOf, Tryd.underlying25]
  go_simp
  by_cases h1 : a = c <;> by_cases h2 : b = e <;> simp [h1, h2]
theorem rd_equal_d (d : Nat) (p q : R3) (w : World) : (Op.equalIn (d + 1 + 1 + 1) 27 (rv p) (rv q)).run Tryd.prog w = .ok (decide (p = q)) w := by
  obtain ⟨⟨a, b⟩, s⟩ := p; obtain ⟨⟨c, e⟩, t⟩ := q
  have us := Tryd.underlying9
  have hS : Tryd.prog.underlying 27 = some (.struct (Tryd.prog.fieldsOf 27)) := by kernel_rfl
  have hk := key_equal_d d (a, b) (c, e) w
  unfold kv at hk
  unfold rv
  rw [run_equalIn_agg w (d + 1 + 1) 27 _ _ hS (by kernel_rfl)]
  simp only [Program.fieldsOf, Tryd.underlying27]
  go_simp
  simp only [bytes_toList_iff]
  by_cases h1 : a = c <;> by_cases h2 : b = e <;> by_cases h3 : s = t <;> simp [h1, h2, h3]
theorem rd_equal (p q : R3) (w : World) : (Op.equalIn 10000 27 (rv p) (rv q)).run Tryd.prog w = .ok (decide (p = q)) w := rd_equal_d 9997 p q w
theorem rd_eql (p q : R3) (w : World) : (binOp .eql 27 (rv p) (rv q)).run Tryd.prog w = .ok (.bool (decide (p = q))) w := by
  have := rd_equal p q w
  unfold rv at *
  rw [run_eql_struct, this]; rfl
theorem rd_neq (p q : R3) (w : World) : (binOp .neq 27 (rv p) (rv q)).run Tryd.prog w = .ok (.bool (!(decide (p = q)))) w := by
  have := rd_equal p q w
  unfold rv at *
  rw [run_neq_struct, this]; rfl
theorem rd_guard (op : BinOp) (x y : Operand) (p q : R3) (w : World) : (eqGuard op 27 x y (rv p) (rv q)).run Tryd.prog w = .ok () w := by
  unfold rv
  exact run_eqGuard_agg w op 27 x y _ _ (by kernel_rfl)
end Go.Proofs.YtbkeggklfaepnaaDoor
