/- Keys that rise (no program). -/
import Derived.Test.YtbkeggklfaepnaaKeyM
namespace Go.Proofs.Ytbkeggklfaepnaa

def stepB (ks : List K2) (i : Nat) : Bool := keyOkB (ks.getD i (0, 0)) && (decide (i = 0) || aheadB (ks.getD (i - 1) (0, 0)) (ks.getD i (0, 0)))
def keysOkR (ks : List K2) : Bool := (List.range ks.length).all (stepB ks)
theorem stepB_false {ks : List K2} {k : Nat} (hk : k < ks.length) (h : stepB ks k = false) : keysOkR ks = false := by
  unfold keysOkR
  rw [List.all_eq_false]
  exact ⟨k, List.mem_range.2 hk, by simp [h]⟩
theorem keysR_succ (ks : List K2) (k : Nat) : (List.range (k + 1)).all (stepB ks) = ((List.range k).all (stepB ks) && stepB ks k) := by
  rw [List.range_succ, List.all_append]
  simp
end Go.Proofs.Ytbkeggklfaepnaa
