/- Readings in the laws: their size. -/
import Derived.Test.YtbkeggklfaepnaaDoorRdE
import Derived.Test.YtbkeggklfaepnaaDoorOwnR
namespace Go.Proofs.YtbkeggklfaepnaaDoor
open Go.ChangeShapes Go.WideShapes Go.ChangeAt Go.RowKit Go.BigFrame
set_option linter.unusedVariables false

theorem szreading_any (r : R3) (left : Int) (w : World) (hl : 0 ≤ left ∧ left ≤ 1000000000) (hx : r.2.size ≤ 9223372036854775807) :
    Calls Tryd.prog 15 #[rv r, .int .i64 left] w fun e w' => e = .returned (.int .i64 (if left - (r.2.size : Int) < 0 then -1 else left - (r.2.size : Int))) ∧ Below w.heap.size w w' := by
  obtain ⟨⟨n, s⟩, x⟩ := r
  unfold rv
  dsimp only at *
  have hb : Below w.heap.size w (w.alloc (.cells #[.int .i64 n, .int .i64 s, .string x] 36)) := (Below.refl _ _).alloc (Nat.le_refl _) _
  have HB := Lib.hid hb; clear hb
  have ew : IntKind.i64.wrap (left - (x.size : Int)) = left - (x.size : Int) := IntWalk.i64_in _ (by omega)
  have ew2 : wrap64 (left - (x.size : Int)) = left - (x.size : Int) := IntWalk.wrap64_in _ (by omega)
  by_cases hn : left - (x.size : Int) < 0
  · rw [if_pos hn]
    go_enter Tryd.func15, Tryd.ntmps15
    go_wp2
    go_ret
    exact ⟨rfl, HB.out⟩
  · rw [if_neg hn]
    go_enter Tryd.func15, Tryd.ntmps15
    go_wp2
    go_ret
    exact ⟨rfl, HB.out⟩
end Go.Proofs.YtbkeggklfaepnaaDoor
