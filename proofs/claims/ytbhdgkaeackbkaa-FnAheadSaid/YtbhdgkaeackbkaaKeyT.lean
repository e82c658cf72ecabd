/- Two lists gone through, one inside the other: what comes of it (no program). -/
import Derived.Test.YtbhdgkaeackbkaaKeyP
namespace Go.Proofs.Ytbhdgkaeackbkaa

/-- what of R stands ahead of x, and isn't it -/
def isBefore (x y : K2) : Bool := !aheadB x y && !(x == y)
def qOf (x : K2) (R : List K2) : List K2 := R.takeWhile (isBefore x)
def rOf (x : K2) (R : List K2) : List K2 := R.dropWhile (isBefore x)
/-- one round of the outer loop, on what is made and what is left -/
def tStep (both : Bool) (s : List K2 × List K2) (x : K2) : List K2 × List K2 :=
  match rOf x s.2 with
  | [] => (s.1 ++ qOf x s.2 ++ [x], [])
  | y :: r => if aheadB x y then (s.1 ++ qOf x s.2 ++ [x], y :: r) else (s.1 ++ qOf x s.2 ++ (if both then [x] else []), r)
def tFold (both : Bool) (B A : List K2) : List K2 × List K2 := A.foldl (tStep both) ([], B)
theorem tFold_snoc (both : Bool) (B pre : List K2) (x : K2) : tFold both B (pre ++ [x]) = tStep both (tFold both B pre) x := by
  simp [tFold, List.foldl_append]
theorem merge_round (both : Bool) (x : K2) (A : List K2) : ∀ (R : List K2), mergeL both (x :: A) R = (tStep both ([], R) x).1 ++ mergeL both A (tStep both ([], R) x).2
  | [] => by simp [tStep, qOf, rOf, mergeL_nil_r]
  | y :: R => by
    rw [mergeL_cons]
    by_cases h1 : aheadB x y = true
    · rw [if_pos h1]
      simp [tStep, qOf, rOf, List.takeWhile_cons, List.dropWhile_cons, isBefore, h1]
    · rw [if_neg h1]
      have h1' := Bool.eq_false_iff.2 h1
      by_cases h2 : x = y
      · subst h2
        rw [if_neg h1]
        simp [tStep, qOf, rOf, List.takeWhile_cons, List.dropWhile_cons, isBefore, h1']
      · have h3 : aheadB y x = true := by
          cases h : aheadB y x with
          | true => rfl
          | false => exact absurd (ahead_total h1' h) h2
        rw [if_pos h3, merge_round both x A R]
        have hb : isBefore x y = true := by simp [isBefore, h1', h2]
        have e1 : qOf x (y :: R) = y :: qOf x R := by simp [qOf, List.takeWhile_cons, hb]
        have e2 : rOf x (y :: R) = rOf x R := by simp [rOf, List.dropWhile_cons, hb]
        unfold tStep
        simp only [e1, e2]
        cases rOf x R with
        | nil => simp
        | cons z r => by_cases h4 : aheadB x z = true <;> simp [h4]
theorem tStep_out (both : Bool) (L R : List K2) (x : K2) : tStep both (L, R) x = (L ++ (tStep both ([], R) x).1, (tStep both ([], R) x).2) := by
  unfold tStep
  dsimp only
  cases rOf x R with
  | nil => simp
  | cons z r => by_cases h4 : aheadB x z = true <;> simp [h4]
theorem fold_merge (both : Bool) : ∀ (A L R : List K2), (A.foldl (tStep both) (L, R)).1 ++ (A.foldl (tStep both) (L, R)).2 = L ++ mergeL both A R
  | [], L, R => by simp [mergeL_nil_l]
  | x :: A, L, R => by
    rw [List.foldl_cons, merge_round, tStep_out, fold_merge both A]
    simp
/-- all rounds over: what was made, and what is left -/
theorem tFold_merge (both : Bool) (A B : List K2) : (tFold both B A).1 ++ (tFold both B A).2 = mergeL both A B := by
  have := fold_merge both A [] B
  simpa [tFold] using this
theorem dropWhile_len {α : Type} (p : α → Bool) (l : List α) : (l.dropWhile p).length ≤ l.length := (List.dropWhile_suffix p).length_le
theorem tFold_len (both : Bool) (B : List K2) (A : List K2) : (tFold both B A).1.length + (tFold both B A).2.length ≤ A.length + B.length := by
  have h := congrArg List.length (tFold_merge both A B)
  rw [List.length_append] at h
  have := mergeL_len both A B
  omega
/-- a round that left at y, q having passed -/
theorem tStep_at {both : Bool} {L q R : List K2} {x y : K2} (hq : ∀ z ∈ q, isBefore x z = true) (hy : isBefore x y = false) :
    tStep both (L, q ++ y :: R) x = if aheadB x y then (L ++ q ++ [x], y :: R) else (L ++ q ++ (if both then [x] else []), R) := by
  have e1 : qOf x (q ++ y :: R) = q := by
    unfold qOf
    rw [List.takeWhile_append_of_pos hq, List.takeWhile_cons, hy]
    simp
  have e2 : rOf x (q ++ y :: R) = y :: R := by
    unfold rOf
    rw [List.dropWhile_append_of_pos hq, List.dropWhile_cons, hy]
    simp
  unfold tStep
  dsimp only
  rw [e1, e2]
theorem takeWhile_all {α : Type} (p : α → Bool) : ∀ (l : List α), (∀ z ∈ l, p z = true) → l.takeWhile p = l ∧ l.dropWhile p = []
  | [], _ => ⟨rfl, rfl⟩
  | a :: l, h => by
    have h1 := h a (by simp)
    have h2 := takeWhile_all p l (fun z hz => h z (by simp [hz]))
    simp [List.takeWhile_cons, List.dropWhile_cons, h1, h2.1, h2.2]
theorem tStep_end {both : Bool} {L q : List K2} {x : K2} (hq : ∀ z ∈ q, isBefore x z = true) : tStep both (L, q) x = (L ++ q ++ [x], []) := by
  have e1 : qOf x q = q := (takeWhile_all _ q hq).1
  have e2 : rOf x q = [] := (takeWhile_all _ q hq).2
  unfold tStep
  dsimp only
  rw [e1, e2]
end Go.Proofs.Ytbhdgkaeackbkaa
