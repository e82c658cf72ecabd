/- Where a key stands among readings. -/
import Derived.Test.YtbkeggklfaepnaaRdL
namespace Go.Proofs.Ytbkeggklfaepnaa

theorem aheadN_at (x : K2) : ∀ (rs : List R3) (k : Nat), k ≤ rs.length → (∀ j, j < k → aheadB (rs.getD j r0).1 x = true) → (k = rs.length ∨ aheadB (rs.getD k r0).1 x = false) → aheadN rs x = k
  | [], k, hk, _, _ => by simp at hk; simp [aheadN, hk]
  | r :: l, 0, _, _, h => by
    unfold aheadN
    rcases h with h | h
    · simp at h
    · rw [if_neg (by simpa using h)]
  | r :: l, k + 1, hk, hn, h => by
    unfold aheadN
    rw [if_pos (by simpa using hn 0 (by omega)), aheadN_at x l k (by simpa using hk) (fun j hj => by simpa using hn (j + 1) (by omega)) (by simpa using h)]
end Go.Proofs.Ytbkeggklfaepnaa
