/- Lines of a text, as lists of bytes: plain lists. -/
import Derived.Lib.Split
import Derived.Lib.SplitLaws
import Derived.Lib.CountLaws
import Derived.Lib.IndexBytes
import Derived.Test.YthmdbjjhhemjoaaDoorWordsM
namespace Go.Proofs.YthmdbjjhhemjoaaDoor
open Go Go.Lib

def splitNl : List UInt8 → List (List UInt8)
  | [] => [[]]
  | c :: r => if c = 10 then [] :: splitNl r else match splitNl r with
    | h :: t => (c :: h) :: t
    | [] => [[c]]
theorem splitNl_ne : ∀ l, splitNl l ≠ []
  | [] => by simp [splitNl]
  | c :: r => by
    unfold splitNl; split
    · simp
    · split <;> simp
theorem splitNl_none : ∀ l : List UInt8, (∀ c ∈ l, c ≠ 10) → splitNl l = [l]
  | [], _ => rfl
  | c :: r, h => by
    have := splitNl_none r (fun c hc => h c (by simp [hc]))
    unfold splitNl; rw [if_neg (h c (by simp)), this]
theorem splitNl_at : ∀ (l : List UInt8) (k : Nat) (hk : k < l.length), (∀ j, (h : j < k) → l[j]'(by omega) ≠ 10) → l[k] = 10 → splitNl l = l.take k :: splitNl (l.drop (k + 1))
  | [], k, hk, _, _ => by simp at hk
  | c :: r, 0, _, _, h => by
    have h' : c = 10 := h
    simp [splitNl, h']
  | c :: r, k + 1, hk, h1, h2 => by
    have hc : c ≠ 10 := h1 0 (by omega)
    have := splitNl_at r k (by simpa using hk) (fun j h => h1 (j + 1) (by omega)) h2
    conv => lhs; unfold splitNl
    rw [if_neg hc, this]; simp
theorem indexByte_none : ∀ l : List UInt8, indexByte l 10 = -1 → ∀ c ∈ l, c ≠ 10
  | [], _, c, hc => by cases hc
  | b :: l, h, c, hc => by
    unfold indexByte at h
    have hb : b ≠ 10 := fun e => by subst e; simp at h
    have hl : indexByte l 10 = -1 := by
      rw [if_neg (by simpa using hb)] at h
      by_cases e : indexByte l 10 = -1
      · exact e
      · have := indexByte_ge l 10
        rw [if_neg (by simpa using e)] at h; omega
    rcases List.mem_cons.1 hc with rfl | hc
    · exact hb
    · exact indexByte_none l hl c hc
theorem indexByte_at : ∀ (l : List UInt8) (i : Nat), indexByte l 10 = i → ∃ hi : i < l.length, l[i] = 10 ∧ ∀ j, (h : j < i) → l[j]'(by omega) ≠ 10
  | [], i, h => by simp [indexByte] at h
  | b :: l, i, h => by
    unfold indexByte at h
    by_cases hb : b = 10
    · subst hb
      simp at h
      obtain rfl : i = 0 := by omega
      exact ⟨by simp, rfl, fun j h => by omega⟩
    · rw [if_neg (by simpa using hb)] at h
      by_cases e : indexByte l 10 = -1
      · rw [if_pos (by simpa using e)] at h; omega
      · rw [if_neg (by simpa using e)] at h
        have hge := indexByte_ge l 10
        obtain ⟨k, hk⟩ : ∃ k : Nat, indexByte l 10 = k := ⟨(indexByte l 10).toNat, by omega⟩
        obtain rfl : i = k + 1 := by omega
        obtain ⟨h1, h2, h3⟩ := indexByte_at l k hk
        refine ⟨by simpa using h1, by simpa using h2, fun j hj => ?_⟩
        cases j with
        | zero => simpa using hb
        | succ j => simpa using h3 j (by omega)
theorem splitK_nl : ∀ (n : Nat) (l : List UInt8), l.length ≤ n → splitK [10] 0 (count l [10]) l = splitNl l := by
  intro n
  induction n with
  | zero =>
    intro l hl
    obtain rfl : l = [] := List.length_eq_zero_iff.1 (by omega)
    rw [count_miss (by rw [index_one]; rfl)]; rfl
  | succ n ih =>
    intro l hl
    by_cases h : index l [10] = -1
    · rw [count_miss h, splitNl_none l (indexByte_none l (by rwa [index_one] at h))]; rfl
    · have hge := index_ge l [10]
      obtain ⟨i, hi⟩ : ∃ i : Nat, index l [10] = i := ⟨(index l [10]).toNat, by omega⟩
      obtain ⟨h1, h2, h3⟩ := indexByte_at l i (by rwa [index_one] at hi)
      rw [count_hit (by simp) hi, splitNl_at l i h1 h3 h2, Nat.add_comm 1]
      simp only [splitK, List.length_cons, List.length_nil]
      rw [if_neg (by simpa using h), hi]
      simp only [Int.toNat_natCast, Nat.add_zero, Nat.zero_add]
      rw [ih _ (by simp; omega)]
theorem splitNl_count : ∀ l : List UInt8, (splitNl l).length ≤ l.length + 1
  | [] => by simp [splitNl]
  | c :: r => by
    have := splitNl_count r
    unfold splitNl; split
    · simp; omega
    · split
      · rename_i h; rw [h] at this; simp at this ⊢; omega
      · simp
def nlB : ByteArray := ⟨#[10]⟩
/-- the parts between bytes 10; of the empty text none -/
def linesB (s : ByteArray) : List ByteArray := if s.size = 0 then [] else (splitNl s.data.toList).map toB
theorem splitB_nl (s : ByteArray) : splitB nlB 0 (countB s nlB) s = (splitNl s.data.toList).map toB := by
  have h := splitB_data nlB 0 (countB s nlB) s
  have h2 : splitK nlB.data.toList 0 (countB s nlB) s.data.toList = splitNl s.data.toList := splitK_nl _ s.data.toList (Nat.le_refl _)
  rw [h2] at h
  have e : (splitB nlB 0 (countB s nlB) s) = ((splitB nlB 0 (countB s nlB) s).map (·.data.toList)).map toB := by
    rw [List.map_map]
    conv => lhs; rw [← List.map_id (splitB nlB 0 (countB s nlB) s)]
    apply List.map_congr_left
    intro x _; rfl
  rw [e, h]
theorem splitB_len (s : ByteArray) : (splitB nlB 0 (countB s nlB) s).length = countB s nlB + 1 := splitB_all nlB (by decide) 0 _ s rfl
theorem linesB_count (s : ByteArray) : (linesB s).length ≤ s.size + 1 := by
  unfold linesB; split
  · simp
  · have := splitNl_count s.data.toList; simpa using this
theorem linesB_len (s : ByteArray) (h : s.size ≠ 0) : (linesB s).length = countB s nlB + 1 := by
  unfold linesB; rw [if_neg h, ← splitB_nl, splitB_len]
def LinesInv (s : ByteArray) (acc : List ByteArray) (k : Nat) : Prop := (splitNl s.data.toList).map toB = acc ++ (splitNl (s.data.toList.drop k)).map toB
theorem LinesInv.zero (s : ByteArray) : LinesInv s [] 0 := by simp [LinesInv]
theorem LinesInv.line {s : ByteArray} {acc : List ByteArray} {k i : Nat} (h : LinesInv s acc k) (hki : k ≤ i) (hi : i < s.size) (h1 : ∀ j, k ≤ j → j < i → (hj : j < s.size) → s[j] ≠ 10) (h2 : s[i] = 10) :
    LinesInv s (acc ++ [s.extract k i]) (i + 1) := by
  have hk : i - k < (s.data.toList.drop k).length := by simp; omega
  have e := splitNl_at (s.data.toList.drop k) (i - k) hk (fun j hj => by rw [List.getElem_drop]; exact h1 (k + j) (by omega) (by omega) (by omega)) (by
    simp only [List.getElem_drop]
    have e1 : k + (i - k) = i := by omega
    simp only [e1]; exact h2)
  rw [LinesInv, h, e, List.drop_drop, show k + (i - k + 1) = i + 1 by omega, extract_eq]; simp
theorem LinesInv.last {s : ByteArray} {acc : List ByteArray} {k : Nat} (h : LinesInv s acc k) (hk : k ≤ s.size) (h1 : ∀ j, k ≤ j → (hj : j < s.size) → s[j] ≠ 10) :
    (splitNl s.data.toList).map toB = acc ++ [s.extract k s.size] := by
  have e := splitNl_none (s.data.toList.drop k) (fun c hc => by
    obtain ⟨j, hj, rfl⟩ := List.getElem_of_mem hc
    rw [List.getElem_drop]
    exact h1 (k + j) (by omega) (by simp at hj; omega))
  rw [h, e, extract_eq, List.take_of_length_le (by simp)]; simp
end Go.Proofs.YthmdbjjhhemjoaaDoor
