/- Parts of a text between bytes b, and what stands ahead of the first one and behind it: plain lists. -/
import Derived.Lib.Split
import Derived.Lib.SplitLaws
import Derived.Lib.CountLaws
import Derived.Lib.IndexBytes
import Derived.Lib.IndexMore
import Derived.Test.YtbkeggklfaepnaaDoorKeyTm
import Derived.Test.YtbkeggklfaepnaaDoorDecM
import Derived.Test.YtbkeggklfaepnaaDoorKeyP
import Derived.Test.YtbkeggklfaepnaaDoorKeyS
namespace Go.Proofs.YtbkeggklfaepnaaDoor
open Go Go.Lib

def splitC (b : UInt8) : List UInt8 → List (List UInt8)
  | [] => [[]]
  | c :: r => if c = b then [] :: splitC b r else match splitC b r with
    | h :: t => (c :: h) :: t
    | [] => [[c]]
theorem splitC_ne (b : UInt8) : ∀ l, splitC b l ≠ []
  | [] => by simp [splitC]
  | c :: r => by
    unfold splitC; split
    · simp
    · split <;> simp
theorem splitC_none (b : UInt8) : ∀ l : List UInt8, (∀ c ∈ l, c ≠ b) → splitC b l = [l]
  | [], _ => rfl
  | c :: r, h => by
    have := splitC_none b r (fun c hc => h c (by simp [hc]))
    unfold splitC; rw [if_neg (h c (by simp)), this]
theorem splitC_at (b : UInt8) : ∀ (l : List UInt8) (k : Nat) (hk : k < l.length), (∀ j, (h : j < k) → l[j]'(by omega) ≠ b) → l[k] = b → splitC b l = l.take k :: splitC b (l.drop (k + 1))
  | [], k, hk, _, _ => by simp at hk
  | c :: r, 0, _, _, h => by
    have h' : c = b := h
    simp [splitC, h']
  | c :: r, k + 1, hk, h1, h2 => by
    have hc : c ≠ b := h1 0 (by omega)
    have := splitC_at b r k (by simpa using hk) (fun j h => h1 (j + 1) (by omega)) h2
    conv => lhs; unfold splitC
    rw [if_neg hc, this]; simp
theorem indexByteC_none (d : UInt8) : ∀ l : List UInt8, indexByte l d = -1 → ∀ c ∈ l, c ≠ d
  | [], _, c, hc => by cases hc
  | b :: l, h, c, hc => by
    unfold indexByte at h
    have hb : b ≠ d := fun e => by subst e; simp at h
    have hl : indexByte l d = -1 := by
      rw [if_neg (by simpa using hb)] at h
      by_cases e : indexByte l d = -1
      · exact e
      · have := indexByte_ge l d
        rw [if_neg (by simpa using e)] at h; omega
    rcases List.mem_cons.1 hc with rfl | hc
    · exact hb
    · exact indexByteC_none d l hl c hc
theorem indexByteC_at (d : UInt8) : ∀ (l : List UInt8) (i : Nat), indexByte l d = i → ∃ hi : i < l.length, l[i] = d ∧ ∀ j, (h : j < i) → l[j]'(by omega) ≠ d
  | [], i, h => by simp [indexByte] at h
  | b :: l, i, h => by
    unfold indexByte at h
    by_cases hb : b = d
    · subst hb
      simp at h
      obtain rfl : i = 0 := by omega
      exact ⟨by simp, rfl, fun j h => by omega⟩
    · rw [if_neg (by simpa using hb)] at h
      by_cases e : indexByte l d = -1
      · rw [if_pos (by simpa using e)] at h; omega
      · rw [if_neg (by simpa using e)] at h
        have hge := indexByte_ge l d
        obtain ⟨k, hk⟩ : ∃ k : Nat, indexByte l d = k := ⟨(indexByte l d).toNat, by omega⟩
        obtain rfl : i = k + 1 := by omega
        obtain ⟨h1, h2, h3⟩ := indexByteC_at d l k hk
        refine ⟨by simpa using h1, by simpa using h2, fun j hj => ?_⟩
        cases j with
        | zero => simpa using hb
        | succ j => simpa using h3 j (by omega)
theorem splitK_C (d : UInt8) : ∀ (n : Nat) (l : List UInt8), l.length ≤ n → splitK [d] 0 (count l [d]) l = splitC d l := by
  intro n
  induction n with
  | zero =>
    intro l hl
    obtain rfl : l = [] := List.length_eq_zero_iff.1 (by omega)
    rw [count_miss (by rw [index_one]; rfl)]; rfl
  | succ n ih =>
    intro l hl
    by_cases h : index l [d] = -1
    · rw [count_miss h, splitC_none d l (indexByteC_none d l (by rwa [index_one] at h))]; rfl
    · have hge := index_ge l [d]
      obtain ⟨i, hi⟩ : ∃ i : Nat, index l [d] = i := ⟨(index l [d]).toNat, by omega⟩
      obtain ⟨h1, h2, h3⟩ := indexByteC_at d l i (by rwa [index_one] at hi)
      rw [count_hit (by simp) hi, splitC_at d l i h1 h3 h2, Nat.add_comm 1]
      simp only [splitK, List.length_cons, List.length_nil]
      rw [if_neg (by simpa using h), hi]
      simp only [Int.toNat_natCast, Nat.add_zero, Nat.zero_add]
      rw [ih _ (by simp; omega)]
theorem splitC_count (b : UInt8) : ∀ l : List UInt8, (splitC b l).length ≤ l.length + 1
  | [] => by simp [splitC]
  | c :: r => by
    have := splitC_count b r
    unfold splitC; split
    · simp; omega
    · split
      · rename_i h; rw [h] at this; simp at this ⊢; omega
      · simp
def oneB (d : UInt8) : ByteArray := ⟨#[d]⟩
theorem splitB_C (d : UInt8) (s : ByteArray) : splitB (oneB d) 0 (countB s (oneB d)) s = (splitC d s.data.toList).map tB := by
  have h := splitB_data (oneB d) 0 (countB s (oneB d)) s
  have h2 : splitK (oneB d).data.toList 0 (countB s (oneB d)) s.data.toList = splitC d s.data.toList := splitK_C d _ s.data.toList (Nat.le_refl _)
  rw [h2] at h
  have e : (splitB (oneB d) 0 (countB s (oneB d)) s) = ((splitB (oneB d) 0 (countB s (oneB d)) s).map (·.data.toList)).map tB := by
    rw [List.map_map]
    conv => lhs; rw [← List.map_id (splitB (oneB d) 0 (countB s (oneB d)) s)]
    apply List.map_congr_left
    intro x _; rfl
  rw [e, h]
theorem splitB_lenC (d : UInt8) (s : ByteArray) : (splitB (oneB d) 0 (countB s (oneB d)) s).length = countB s (oneB d) + 1 := splitB_all (oneB d) (by simp [oneB, ByteArray.size]) 0 _ s rfl
/-- what stands ahead of the first byte b, and behind it; whether there is one -/
def cutC (b : UInt8) : List UInt8 → List UInt8 × List UInt8 × Bool
  | [] => ([], [], false)
  | c :: r => if c = b then ([], r, true) else (c :: (cutC b r).1, (cutC b r).2)
theorem cutC_none (b : UInt8) : ∀ l : List UInt8, (∀ c ∈ l, c ≠ b) → cutC b l = (l, [], false)
  | [], _ => rfl
  | c :: r, h => by
    have := cutC_none b r (fun c hc => h c (by simp [hc]))
    unfold cutC; rw [if_neg (h c (by simp)), this]
theorem cutC_at (b : UInt8) : ∀ (l : List UInt8) (k : Nat) (hk : k < l.length), (∀ j, (h : j < k) → l[j]'(by omega) ≠ b) → l[k] = b → cutC b l = (l.take k, l.drop (k + 1), true)
  | [], k, hk, _, _ => by simp at hk
  | c :: r, 0, _, _, h => by
    have h' : c = b := h
    simp [cutC, h']
  | c :: r, k + 1, hk, h1, h2 => by
    have hc : c ≠ b := h1 0 (by omega)
    have := cutC_at b r k (by simpa using hk) (fun j h => h1 (j + 1) (by omega)) h2
    conv => lhs; unfold cutC
    rw [if_neg hc, this]; simp
theorem cut_C (d : UInt8) (l : List UInt8) : Lib.cut l [d] = cutC d l := by
  unfold Lib.cut
  by_cases h : 0 ≤ index l [d]
  · rw [if_pos h]
    obtain ⟨i, hi⟩ : ∃ i : Nat, index l [d] = i := ⟨(index l [d]).toNat, by omega⟩
    obtain ⟨h1, h2, h3⟩ := indexByteC_at d l i (by rwa [index_one] at hi)
    rw [cutC_at d l i h1 h3 h2, hi]; simp
  · rw [if_neg h, cutC_none d l (indexByteC_none d l (by have := index_ge l [d]; rw [index_one] at this h; omega))]
theorem splitC_cons (b c : UInt8) (r : List UInt8) : splitC b (c :: r) = if c = b then [] :: splitC b r else match splitC b r with
    | h :: t => (c :: h) :: t
    | [] => [[c]] := rfl
theorem cutC_cons (b c : UInt8) (r : List UInt8) : cutC b (c :: r) = if c = b then ([], r, true) else (c :: (cutC b r).1, (cutC b r).2) := rfl
theorem cutC_split (b : UInt8) : ∀ l : List UInt8, splitC b l = if (cutC b l).2.2 then (cutC b l).1 :: splitC b (cutC b l).2.1 else [(cutC b l).1]
  | [] => rfl
  | c :: r => by
    rw [splitC_cons, cutC_cons]
    by_cases h : c = b
    · rw [if_pos h, if_pos h]; simp
    · rw [if_neg h, if_neg h, cutC_split b r]
      dsimp only
      cases (cutC b r).2.2 <;> simp
theorem cutC_len (b : UInt8) : ∀ l : List UInt8, (cutC b l).1.length ≤ l.length ∧ (cutC b l).2.1.length ≤ l.length ∧ ((cutC b l).2.2 = true → (cutC b l).2.1.length < l.length)
  | [] => by simp [cutC]
  | c :: r => by
    have := cutC_len b r
    rw [cutC_cons]
    by_cases h : c = b
    · rw [if_pos h]; simp
    · rw [if_neg h]; simp only [List.length_cons]; omega
theorem cutC_back (b : UInt8) : ∀ l : List UInt8, l = if (cutC b l).2.2 then (cutC b l).1 ++ [b] ++ (cutC b l).2.1 else (cutC b l).1
  | [] => rfl
  | c :: r => by
    have := cutC_back b r
    rw [cutC_cons]
    by_cases h : c = b
    · rw [if_pos h]; simp [h]
    · rw [if_neg h]
      dsimp only
      cases hf : (cutC b r).2.2 with
      | true => rw [hf, if_pos rfl] at this; simpa using this
      | false => rw [hf] at this; simpa using this
theorem cutC_off (b : UInt8) : ∀ l : List UInt8, (cutC b l).2.2 = false → (cutC b l).2.1 = []
  | [], _ => rfl
  | c :: r, h => by
    rw [cutC_cons] at h ⊢
    by_cases hc : c = b
    · rw [if_pos hc] at h; cases h
    · rw [if_neg hc] at h ⊢; exact cutC_off b r h
theorem join_splitC (b : UInt8) : ∀ (n : Nat) (l : List UInt8), l.length ≤ n → Lib.join (splitC b l) [b] = l
  | 0, l, h => by
    obtain rfl : l = [] := List.length_eq_zero_iff.1 (by omega)
    simp [splitC, Lib.join_one]
  | n + 1, l, h => by
    have hb := cutC_back b l
    have hl := cutC_len b l
    rw [cutC_split]
    cases hf : (cutC b l).2.2 with
    | false =>
      rw [hf] at hb
      simp only [Bool.false_eq_true, if_false, Lib.join_one] at hb ⊢
      exact hb.symm
    | true =>
      rw [hf, if_pos rfl] at hb
      rw [if_pos rfl]
      have ih := join_splitC b n (cutC b l).2.1 (by have := hl.2.2 hf; omega)
      obtain ⟨x, r, hx⟩ : ∃ x r, splitC b (cutC b l).2.1 = x :: r := by
        cases hs : splitC b (cutC b l).2.1 with
        | nil => exact absurd hs (splitC_ne b _)
        | cons x r => exact ⟨x, r, rfl⟩
      rw [hx] at ih ⊢
      have e : Lib.join ((cutC b l).1 :: x :: r) [b] = (cutC b l).1 ++ [b] ++ Lib.join (x :: r) [b] := by
        rw [Lib.join_cons, Lib.join_cons]
        simp [Lib.joinTail]
      rw [e, ih]
      exact hb.symm
/-- the key that a text is of; one that isn't right where there is none -/
def keyOfL (l : List UInt8) : K2 := (decOf (cutC 46 l).1, decOf (cutC 46 l).2.1)
def keysOfL (l : List UInt8) : List K2 := if l = [] then [] else (splitC 44 l).map keyOfL
theorem decOf_back (l : List UInt8) (h : 0 ≤ decOf l) : Lib.itoa (decOf l) = l := by
  unfold decOf at h ⊢
  split at h
  · split at h
    · rename_i v hv hc
      rw [if_pos hc]; exact hc.2.2
    · omega
  · omega
theorem keyOf_text (l : List UInt8) (h : keyOkB (keyOfL l) = true) : ktL (keyOfL l) = l := by
  have h1 : 1 ≤ decOf (cutC 46 l).1 ∧ 1 ≤ decOf (cutC 46 l).2.1 := by
    unfold keyOkB keyOfL at h
    simp only [Bool.and_eq_true, decide_eq_true_eq] at h
    exact ⟨h.1.1, h.2.1⟩
  have hb := cutC_back 46 l
  cases hf : (cutC 46 l).2.2 with
  | false =>
    rw [cutC_off 46 l hf, decOf_nil] at h1
    omega
  | true =>
    rw [hf, if_pos rfl] at hb
    unfold ktL keyOfL
    dsimp only
    rw [decOf_back _ (by omega), decOf_back _ (by omega)]
    exact hb.symm
/-- keys that are right come from one text alone: theirs -/
theorem keysOf_text (l : List UInt8) (h : keysOkR (keysOfL l) = true) : keyTextL (keysOfL l) = l := by
  unfold keysOfL at h ⊢
  by_cases h0 : l = []
  · rw [if_pos h0, h0]; rfl
  · rw [if_neg h0] at h ⊢
    have hk := ((keysR_iff _).1 h).1
    unfold keyTextL
    rw [List.map_map]
    have e : (splitC 44 l).map (ktL ∘ keyOfL) = splitC 44 l := by
      conv => rhs; rw [← List.map_id (splitC 44 l)]
      apply List.map_congr_left
      intro x hx
      exact keyOf_text x (hk _ (List.mem_map.2 ⟨x, hx, rfl⟩))
    rw [e, join_splitC 44 l.length l (Nat.le_refl _)]
end Go.Proofs.YtbkeggklfaepnaaDoor
