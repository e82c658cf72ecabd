/- The library's variable MaxLen holds a number at every start. -/
import Derived.Test.YtbkeggklfaepnaaDoorKeyRk
namespace Go.Proofs.YtbkeggklfaepnaaDoor
set_option linter.unusedVariables false

theorem mlen_of {w : World} (h : w.ShapedOpen Tryd.prog) : MLen w :=
  Go.Proofs.cell_of_shapedOpen_int (zero := #[.int .i64 0]) (t := 3) h (of_decide_eq_true (by kernel_rfl)) (by kernel_rfl) rfl (by kernel_rfl) (by kernel_rfl) Tryd.underlying3
end Go.Proofs.YtbkeggklfaepnaaDoor
