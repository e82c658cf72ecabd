/- Two cells made last. -/
import Derived.Test.YtbkeggklfaepnaaDoorBase
namespace Go.Proofs.YtbkeggklfaepnaaDoor
set_option linter.unusedVariables false

theorem cell_two_new (w : World) (x y : Value) (e : TypeId) : ∀ j u, ([x, y] : List Value)[j]? = some u → (w.alloc (.cells #[x, y] e)).cell? ((⟨w.heap.size, 0, none⟩ : Addr).add j) = some u := by
  intro j u hj
  have : j < 2 := by have := (List.getElem?_eq_some_iff.1 hj).1; simpa using this
  rcases (by omega : j = 0 ∨ j = 1) with rfl | rfl <;> simpa [Addr.add_lit] using hj
end Go.Proofs.YtbkeggklfaepnaaDoor
