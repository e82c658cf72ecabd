/- A text made anew. -/
import Derived.Test.YtbkeggklfaepnaaShelf
import Derived.Test.YtbkeggklfaepnaaBase
namespace Go.Proofs.Ytbkeggklfaepnaa
open Go.RowKit
set_option linter.unusedVariables false

theorem cloneR_any (s : ByteArray) (w : World) (hs : s.size ≤ 2000000) : Calls Try.prog 41 #[.string s] w fun e w' => e = .returned (.string s) ∧ Below w.heap.size w w' := by
  go_enter Try.func41, Try.ntmps41
  go_wp2_with (go_at_call 54; refine (Try.stringslite_Clone s _ (by omega)).mono ?_; rintro e w' ⟨rfl, hb⟩)
  go_ret
  exact ⟨rfl, hb⟩
end Go.Proofs.Ytbkeggklfaepnaa
