/- The model's chapter 3, walked: two lists of keys made one. -/
import Derived.Laws.StructEq
import Derived.Test.YtagabgblcmoblaaKeyM
import Derived.Test.YtagabgblcmoblaaSIn
import Derived.Test.YtagabgblcmoblaaQuiet2
set_option linter.unusedVariables false
set_option linter.unusedSimpArgs false
namespace Go.Proofs.Ytagabgblcmoblaa
open Go.ChangeShapes Go.WideShapes Go.ChangeAt Go.RowKit Go.BigFrame
set_option linter.unusedVariables false

def keyCells (ks : List K2) : List Value := ks.flatMap fun k => [.int .i64 k.1, .int .i64 k.2]
theorem keyCells_len : ∀ ks : List K2, (keyCells ks).length = ks.length * 2
  | [] => rfl
  | k :: r => by
    have := keyCells_len r
    simp only [keyCells, List.flatMap_cons, List.length_append, List.length_cons, List.length_nil] at *
    omega
theorem keyCells_snoc (ks : List K2) (k : K2) : keyCells (ks ++ [k]) = keyCells ks ++ [.int .i64 k.1, .int .i64 k.2] := by simp [keyCells]
theorem keyCells_get : ∀ (ks : List K2) (i : Nat), i < ks.length → (keyCells ks)[i * 2]? = some (.int .i64 (ks.getD i (0, 0)).1) ∧ (keyCells ks)[i * 2 + 1]? = some (.int .i64 (ks.getD i (0, 0)).2)
  | [], _, h => by simp at h
  | k :: r, 0, _ => by simp [keyCells]
  | k :: r, i + 1, h => by
    have ih := keyCells_get r i (by simpa using h)
    have e1 : (i + 1) * 2 = i * 2 + 1 + 1 := by omega
    have e2 : (i + 1) * 2 + 1 = i * 2 + 1 + 1 + 1 := by omega
    rw [e1]
    simp only [keyCells, List.flatMap_cons, List.cons_append, List.nil_append, List.getElem?_cons_succ, List.getD_cons_succ] at *
    exact ih
theorem own_below {w w' : World} {base n : Nat} {e : TypeId} {size : Nat} {v : Value} {xs : List Value} (h : w.ownsRow base e size v n xs) (hb : Below w.heap.size w w') : w'.ownsRow base e size v n xs :=
  h.kept (grown_of_below' hb none) (by cases hv : v.ownBlock <;> simp)

def mergeL (both : Bool) : List K2 → List K2 → List K2
  | a, [] => a
  | [], b => b
  | x :: a, y :: b => if aheadB x y then x :: mergeL both a (y :: b) else if aheadB y x then y :: mergeL both (x :: a) b else (if both then [x] else []) ++ mergeL both a b
termination_by a b => a.length + b.length
theorem mergeL_nil_r (both : Bool) (a : List K2) : mergeL both a [] = a := by unfold mergeL; cases a <;> rfl
theorem mergeL_nil_l (both : Bool) (b : List K2) : mergeL both [] b = b := by cases b <;> simp [mergeL]
theorem mergeL_cons (both : Bool) (x : K2) (a : List K2) (y : K2) (b : List K2) : mergeL both (x :: a) (y :: b) =
    if aheadB x y then x :: mergeL both a (y :: b) else if aheadB y x then y :: mergeL both (x :: a) b else (if both then [x] else []) ++ mergeL both a b := by rw [mergeL]
theorem mergeL_len (both : Bool) : ∀ (a b : List K2), (mergeL both a b).length ≤ a.length + b.length
  | a, [] => by rw [mergeL_nil_r]; simp
  | [], b => by rw [mergeL_nil_l]; simp
  | x :: a, y :: b => by
    rw [mergeL_cons]
    split
    · have := mergeL_len both a (y :: b); simp only [List.length_cons] at *; omega
    · split
      · have := mergeL_len both (x :: a) b; simp only [List.length_cons] at *; omega
      · have := mergeL_len both a b
        cases both <;> simp only [List.length_append, List.length_cons, List.length_nil, if_true, Bool.false_eq_true, if_false] at * <;> omega
termination_by a b => a.length + b.length
theorem drop_at (a : List K2) (i : Nat) (h : i < a.length) : a.drop i = a.getD i (0, 0) :: a.drop (i + 1) := by
  rw [List.drop_eq_getElem_cons h]
  simp [List.getD, h]
end Go.Proofs.Ytagabgblcmoblaa
