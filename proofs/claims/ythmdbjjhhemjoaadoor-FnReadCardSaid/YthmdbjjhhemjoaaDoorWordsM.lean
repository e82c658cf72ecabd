/- Words of a text, as lists of bytes: plain lists. -/
import Derived.KernelRfl
namespace Go.Proofs.YthmdbjjhhemjoaaDoor

def isGap (c : UInt8) : Bool := c == 32 || c == 9
/-- how many bytes stand ahead of the first blank or byte 9 -/
def wsize (l : List UInt8) : Nat := (l.takeWhile fun c => !isGap c).length
def wordsF : Nat → List UInt8 → List (List UInt8)
  | 0, _ => []
  | _ + 1, [] => []
  | n + 1, c :: r => if isGap c then wordsF n r else (c :: r.takeWhile fun c => !isGap c) :: wordsF n (r.dropWhile fun c => !isGap c)
def wordsL (l : List UInt8) : List (List UInt8) := wordsF l.length l
def toB (l : List UInt8) : ByteArray := ⟨l.toArray⟩

theorem dropWhile_le (p : UInt8 → Bool) (l : List UInt8) : (l.dropWhile p).length ≤ l.length := (List.dropWhile_suffix p).length_le
theorem wordsF_enough : ∀ (n m : Nat) (l : List UInt8), l.length ≤ n → l.length ≤ m → wordsF n l = wordsF m l
  | 0, 0, _, _, _ => rfl
  | 0, m + 1, [], _, _ => rfl
  | 0, _ + 1, _ :: _, h, _ => by simp at h
  | n + 1, 0, [], _, _ => rfl
  | _ + 1, 0, _ :: _, _, h => by simp at h
  | n + 1, m + 1, [], _, _ => rfl
  | n + 1, m + 1, c :: r, h1, h2 => by
    have hd := dropWhile_le (fun c => !isGap c) r
    simp only [List.length_cons] at h1 h2
    unfold wordsF
    rw [wordsF_enough n m r (by omega) (by omega), wordsF_enough n m _ (by omega) (by omega)]
theorem wordsL_nil : wordsL [] = [] := rfl
theorem wordsL_gap (c : UInt8) (r : List UInt8) (h : isGap c = true) : wordsL (c :: r) = wordsL r := by
  unfold wordsL; simp [wordsF, h]
theorem takeWhile_take (p : UInt8 → Bool) : ∀ l : List UInt8, l.takeWhile p = l.take (l.takeWhile p).length
  | [] => rfl
  | c :: r => by by_cases h : p c = true <;> simp [List.takeWhile_cons, h]; exact takeWhile_take p r
theorem dropWhile_drop (p : UInt8 → Bool) : ∀ l : List UInt8, l.dropWhile p = l.drop (l.takeWhile p).length
  | [] => rfl
  | c :: r => by by_cases h : p c = true <;> simp [List.takeWhile_cons, List.dropWhile_cons, h]; exact dropWhile_drop p r
theorem wordsL_word (l : List UInt8) (h : wsize l ≠ 0) : wordsL l = l.take (wsize l) :: wordsL (l.drop (wsize l)) := by
  cases l with
  | nil => simp [wsize] at h
  | cons c r =>
    have hc : isGap c = false := by
      cases hg : isGap c with
      | false => rfl
      | true => simp [wsize, List.takeWhile_cons, hg] at h
    have h1 : (c :: r).take (wsize (c :: r)) = c :: r.takeWhile fun c => !isGap c := by
      unfold wsize; rw [← takeWhile_take]; simp [List.takeWhile_cons, hc]
    have h2 : (c :: r).drop (wsize (c :: r)) = r.dropWhile fun c => !isGap c := by
      unfold wsize; rw [← dropWhile_drop]; simp [List.dropWhile_cons, hc]
    rw [h1, h2]
    have hd := dropWhile_le (fun c => !isGap c) r
    unfold wordsL
    simp only [List.length_cons, wordsF, hc]
    rw [wordsF_enough r.length (r.dropWhile fun c => !isGap c).length _ (by omega) (Nat.le_refl _)]
    simp
theorem wsize_le (l : List UInt8) : wsize l ≤ l.length := (List.takeWhile_prefix _).length_le
theorem wsize_zero (c : UInt8) (r : List UInt8) (h : wsize (c :: r) = 0) : isGap c = true := by
  cases hg : isGap c with
  | true => rfl
  | false => simp [wsize, List.takeWhile_cons, hg] at h
/-- the first gap stands at place k -/
theorem wsize_at (l : List UInt8) (k : Nat) (hk : k ≤ l.length) (h1 : ∀ j, (h : j < k) → isGap (l[j]'(by omega)) = false) (h2 : (h : k < l.length) → isGap l[k] = true) : wsize l = k := by
  induction l generalizing k with
  | nil => simp at hk; subst hk; rfl
  | cons c r ih =>
    cases k with
    | zero =>
      have := h2 (by simp)
      simp only [List.getElem_cons_zero] at this
      simp [wsize, List.takeWhile_cons, this]
    | succ k =>
      have hc : isGap c = false := by simpa using h1 0 (by omega)
      have := ih k (by simpa using hk) (fun j hj => by simpa using h1 (j + 1) (by omega)) (fun hj => by have h3 := h2 (by simpa using hj); simp only [List.getElem_cons_succ] at h3; exact h3)
      simp [wsize, List.takeWhile_cons, hc] at this ⊢
      exact this

def WordsInv (s : ByteArray) (pre : List ByteArray) (j : Nat) : Prop := (wordsL s.data.toList).map toB = pre ++ (wordsL (s.data.toList.drop j)).map toB
theorem WordsInv.zero (s : ByteArray) : WordsInv s [] 0 := by simp [WordsInv]
theorem WordsInv.stop {s : ByteArray} {pre : List ByteArray} {j : Nat} (h : WordsInv s pre j) (hj : s.size ≤ j) : (wordsL s.data.toList).map toB = pre := by
  rw [h, List.drop_of_length_le (by simpa using hj), wordsL_nil]; simp
theorem drop_one (s : ByteArray) (j : Nat) (h : j < s.size) : s.data.toList.drop j = s[j] :: s.data.toList.drop (j + 1) := by
  rw [List.drop_eq_getElem_cons (by simpa using h)]; rfl
theorem WordsInv.gap {s : ByteArray} {pre : List ByteArray} {j : Nat} (h : WordsInv s pre j) (hj : j < s.size) (hg : isGap s[j] = true) : WordsInv s pre (j + 1) := by
  rw [WordsInv, h, drop_one s j hj, wordsL_gap _ _ hg]
theorem WordsInv.gap0 {s : ByteArray} {pre : List ByteArray} {j : Nat} (h : WordsInv s pre j) (hj : j < s.size) (hg : wsize (s.data.toList.drop j) = 0) : WordsInv s pre (j + 1) :=
  h.gap hj (by rw [drop_one s j hj] at hg; exact wsize_zero _ _ hg)
theorem extract_eq (s : ByteArray) (a b : Nat) : s.extract a b = toB ((s.data.toList.drop a).take (b - a)) := by
  apply ByteArray.ext
  simp only [toB, ByteArray.data_extract]
  apply Array.ext'
  simp [List.extract_eq_take_drop]
theorem WordsInv.word {s : ByteArray} {pre : List ByteArray} {j : Nat} (h : WordsInv s pre j) (hg : wsize (s.data.toList.drop j) ≠ 0) :
    WordsInv s (pre ++ [s.extract j (j + wsize (s.data.toList.drop j))]) (j + wsize (s.data.toList.drop j)) := by
  rw [WordsInv, h, wordsL_word _ hg, List.drop_drop, extract_eq]; simp
theorem WordsInv.lt {s : ByteArray} {pre : List ByteArray} {j : Nat} (h : WordsInv s pre j) (hg : wsize (s.data.toList.drop j) ≠ 0) : pre.length < ((wordsL s.data.toList).map toB).length := by
  rw [h, wordsL_word _ hg]; simp
theorem WordsInv.pre {s : ByteArray} {pre : List ByteArray} {j : Nat} (h : WordsInv s pre j) : pre <+: (wordsL s.data.toList).map toB := ⟨_, h.symm⟩
theorem wordsF_size : ∀ (n : Nat) (l : List UInt8) (x : List UInt8), x ∈ wordsF n l → x.length ≤ l.length
  | 0, _, _, h => by simp [wordsF] at h
  | n + 1, [], _, h => by simp [wordsF] at h
  | n + 1, c :: r, x, h => by
    unfold wordsF at h
    split at h
    · have := wordsF_size n r x h; simp; omega
    · rcases List.mem_cons.1 h with h | h
      · subst h
        have := (List.takeWhile_prefix (fun c => !isGap c) (l := r)).length_le
        simp; omega
      · have := wordsF_size n _ x h
        have := dropWhile_le (fun c => !isGap c) r
        simp; omega
theorem wordsF_count : ∀ (n : Nat) (l : List UInt8), (wordsF n l).length ≤ l.length
  | 0, _ => by simp [wordsF]
  | n + 1, [] => by simp [wordsF]
  | n + 1, c :: r => by
    unfold wordsF
    split
    · have := wordsF_count n r; simp; omega
    · have := wordsF_count n (r.dropWhile fun c => !isGap c)
      have := dropWhile_le (fun c => !isGap c) r
      simp; omega
theorem wordsL_count (l : List UInt8) : (wordsL l).length ≤ l.length := wordsF_count _ l
end Go.Proofs.YthmdbjjhhemjoaaDoor
