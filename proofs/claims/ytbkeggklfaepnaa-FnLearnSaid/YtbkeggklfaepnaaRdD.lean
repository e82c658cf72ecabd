/- Chapter 4's draws: what a key reads, by itself. -/
import Derived.Test.YtbkeggklfaepnaaPutN
import Derived.Test.YtbkeggklfaepnaaRdE
import Derived.Test.YtbkeggklfaepnaaDrawK
import Derived.Test.YtbkeggklfaepnaaDrawO
import Derived.Test.YtbkeggklfaepnaaDrawP
namespace Go.Proofs.Ytbkeggklfaepnaa
open Go.ChangeShapes Go.WideShapes Go.ChangeAt Go.RowKit Go.BigFrame
set_option linter.unusedVariables false

def truthV (k : K2) : ByteArray := putV (1000003 * k.1 + 77777 * k.2 + 12345) 4
theorem truth_any (k : K2) (w : World) (h1 : 0 ≤ k.1 ∧ k.1 ≤ 1000) (h2 : 0 ≤ k.2 ∧ k.2 ≤ 1000) : Calls Try.prog 57 #[kv k] w fun e w' => e = .returned (.string (truthV k)) ∧ Below w.heap.size w w' := by
  obtain ⟨n, s⟩ := k
  unfold kv truthV
  dsimp only at *
  have hb : Below w.heap.size w (w.alloc (.cells #[.int .i64 n, .int .i64 s] 26)) := (Below.refl _ _).alloc (Nat.le_refl _) _
  have e1 : wrap64 (1000003 * n) = 1000003 * n := IntWalk.wrap64_in _ (by omega)
  have e2 : wrap64 (77777 * s) = 77777 * s := IntWalk.wrap64_in _ (by omega)
  have e3 : wrap64 (1000003 * n + 77777 * s) = 1000003 * n + 77777 * s := IntWalk.wrap64_in _ (by omega)
  have e4 : wrap64 (1000003 * n + 77777 * s + 12345) = 1000003 * n + 77777 * s + 12345 := IntWalk.wrap64_in _ (by omega)
  have HP := Lib.hid (fun w => sput_any (1000003 * n + 77777 * s + 12345) 4 w (by omega))
  go_enter Try.func57, Try.ntmps57
  go_wp2_with fail
  refine (HP.out _).mono ?_
  rintro e w1 ⟨rfl, hb1⟩
  have hB := hb.trans (hb1.mono hb.size)
  clear HP hb hb1
  go_wp2
  go_ret
  exact ⟨rfl, hB⟩
end Go.Proofs.Ytbkeggklfaepnaa
