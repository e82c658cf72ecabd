/- Lines put together again, words put together with blanks: plain lists; and two lists of texts that are the same. -/
import Derived.Test.YthmdbjjhhemjoaaDoorWordsM
import Derived.Test.YthmdbjjhhemjoaaDoorLinesM
import Derived.Test.YthmdbjjhhemjoaaDoorLawStr
import Derived.Test.YthmdbjjhhemjoaaDoorWords
namespace Go.Proofs.YthmdbjjhhemjoaaDoor
open Go.ChangeShapes Go.WideShapes Go.ChangeAt Go.RowKit
set_option linter.unusedVariables false

def joinL : List (List UInt8) → List UInt8
  | [] => []
  | [h] => h
  | h :: t => h ++ 10 :: joinL t
theorem joinL_cons (h : List UInt8) (t : List (List UInt8)) (ht : t ≠ []) : joinL (h :: t) = h ++ 10 :: joinL t := by
  cases t with
  | nil => exact absurd rfl ht
  | cons a b => rfl
theorem joinL_split : ∀ l, joinL (splitNl l) = l
  | [] => rfl
  | c :: r => by
    have ih := joinL_split r
    have hne := splitNl_ne r
    unfold splitNl
    by_cases hc : c = 10
    · subst hc
      rw [if_pos rfl, joinL_cons _ _ hne, ih]; rfl
    · rw [if_neg hc]
      cases hs : splitNl r with
      | nil => exact absurd hs hne
      | cons h t =>
        rw [hs] at ih
        cases t with
        | nil => simp only [joinL] at ih ⊢; rw [ih]
        | cons a b => simp only [joinL, List.cons_append] at ih ⊢; rw [ih]
theorem joinL_snoc : ∀ (l : List (List UInt8)) (x : List UInt8), joinL (l ++ [x]) = if l = [] then x else joinL l ++ 10 :: x
  | [], x => rfl
  | [h], x => by simp [joinL]
  | h :: a :: t, x => by
    have := joinL_snoc (a :: t) x
    rw [List.cons_append, joinL_cons _ _ (by simp), this]
    simp [joinL]
def joinN (L : List ByteArray) : Nat → ByteArray
  | 0 => ByteArray.empty
  | k + 1 => (if k = 0 then joinN L k else joinN L k ++ ⟨#[10]⟩) ++ L[k]?.getD ByteArray.empty
theorem joinN_data (L : List ByteArray) : ∀ k, k ≤ L.length → (joinN L k).data.toList = joinL ((L.take k).map (·.data.toList))
  | 0, _ => by simp [joinN, joinL]
  | k + 1, h => by
    have ih := joinN_data L k (by omega)
    have hk : k < L.length := by omega
    rw [List.take_add_one, List.map_append]
    simp only [joinN, List.getElem?_eq_getElem hk, Option.getD_some, Option.toList_some, List.map_cons, List.map_nil]
    rw [joinL_snoc]
    by_cases h0 : k = 0
    · subst h0; simp [joinN]
    · have hne : (L.take k).map (·.data.toList) ≠ [] := by
        intro e
        have := congrArg List.length e
        rw [List.length_map, List.length_take, List.length_nil] at this; omega
      rw [if_neg h0, if_neg hne]
      simp [ih]
theorem joinN_lines (s : ByteArray) : joinN (linesB s) (linesB s).length = s := by
  have h := joinN_data (linesB s) _ (Nat.le_refl _)
  rw [List.take_length] at h
  have e : (joinN (linesB s) (linesB s).length).data.toList = s.data.toList := by
    rw [h]
    unfold linesB
    split
    · rename_i h0
      have : s.data.toList = [] := List.length_eq_zero_iff.1 (by simpa using h0)
      rw [this]; rfl
    · rw [List.map_map]
      have : ((fun x : ByteArray => x.data.toList) ∘ toB) = id := by funext x; rfl
      rw [this, List.map_id, joinL_split]
  apply ByteArray.ext
  exact Array.toList_inj.1 e
theorem splitNl_size : ∀ (l x : List UInt8), x ∈ splitNl l → x.length ≤ l.length
  | [], x, h => by simp [splitNl] at h; simp [h]
  | c :: r, x, h => by
    have ih := splitNl_size r
    unfold splitNl at h
    split at h
    · rcases List.mem_cons.1 h with h | h
      · simp [h]
      · have := ih x h; simp; omega
    · split at h
      · rename_i a b e
        rcases List.mem_cons.1 h with h | h
        · have := ih a (by rw [e]; simp); subst h; simp; omega
        · have := ih x (by rw [e]; simp [h]); simp; omega
      · simp at h; simp [h]
theorem linesB_each (s : ByteArray) (i : Nat) : ((linesB s)[i]?.getD ByteArray.empty).size ≤ s.size := by
  by_cases hi : i < (linesB s).length
  · rw [List.getElem?_eq_getElem hi]
    have hm := List.getElem_mem hi
    simp only [Option.getD_some]
    generalize (linesB s)[i] = x at hm
    unfold linesB at hm
    split at hm
    · simp at hm
    · obtain ⟨y, hy, rfl⟩ := List.mem_map.1 hm
      have := splitNl_size _ y hy
      have e1 : (toB y).size = y.length := by show y.toArray.size = _; simp
      have e2 : s.data.toList.length = s.size := by simp
      omega
  · rw [List.getElem?_eq_none (by omega)]; simp
theorem joinN_size (L : List ByteArray) (b : Nat) (hb : ∀ i : Nat, (L[i]?.getD ByteArray.empty).size ≤ b) : ∀ k, (joinN L k).size ≤ k * (b + 1)
  | 0 => by simp [joinN]
  | k + 1 => by
    have ih := joinN_size L b hb k
    have := hb k
    rw [Nat.succ_mul]
    simp only [joinN, ByteArray.size_append]
    split
    · omega
    · have e : (⟨#[10]⟩ : ByteArray).size = 1 := rfl
      simp only [ByteArray.size_append, e]; omega

/-! ### words with blanks -/
theorem wordsF_good : ∀ (n : Nat) (l : List UInt8) (x : List UInt8), x ∈ wordsF n l → x ≠ [] ∧ ∀ c ∈ x, isGap c = false
  | 0, _, _, h => by simp [wordsF] at h
  | n + 1, [], _, h => by simp [wordsF] at h
  | n + 1, c :: r, x, h => by
    unfold wordsF at h
    split at h
    · exact wordsF_good n r x h
    · rename_i hc
      rcases List.mem_cons.1 h with h | h
      · subst h
        refine ⟨by simp, fun d hd => ?_⟩
        rcases List.mem_cons.1 hd with rfl | hd
        · simpa using hc
        · have : ∀ (p : UInt8 → Bool) (l : List UInt8), ∀ d ∈ l.takeWhile p, p d = true := by
            intro p l
            induction l with
            | nil => simp
            | cons a b ih => intro d hd; rw [List.takeWhile_cons] at hd; split at hd
                             · rcases List.mem_cons.1 hd with rfl | hd
                               · assumption
                               · exact ih d hd
                             · simp at hd
          have := this _ _ d hd
          simpa using this
      · exact wordsF_good n _ x h
def lineL : List (List UInt8) → List UInt8
  | [] => []
  | h :: t => h ++ 32 :: lineL t
theorem lineL_snoc : ∀ (l : List (List UInt8)) (x : List UInt8), lineL (l ++ [x]) = lineL l ++ (x ++ [32])
  | [], x => by simp [lineL]
  | h :: t, x => by simp [lineL, lineL_snoc t x]
theorem wordsL_line : ∀ L : List (List UInt8), (∀ x ∈ L, x ≠ [] ∧ ∀ c ∈ x, isGap c = false) → wordsL (lineL L) = L
  | [], _ => rfl
  | h :: t, hh => by
    have ih := wordsL_line t (fun x hx => hh x (by simp [hx]))
    obtain ⟨h1, h2⟩ := hh h (by simp)
    have hw : wsize (lineL (h :: t)) = h.length := by
      refine wsize_at _ _ (by simp [lineL]) (fun j hj => ?_) (fun hj => ?_)
      · simp only [lineL]
        rw [List.getElem_append_left hj]
        exact h2 _ (List.getElem_mem hj)
      · simp only [lineL]
        rw [List.getElem_append_right (by omega)]
        simp [isGap]
    have hne : h.length ≠ 0 := fun e => h1 (List.length_eq_zero_iff.1 e)
    rw [wordsL_word _ (by rw [hw]; exact hne), hw]
    simp only [lineL, List.take_left', List.drop_left']
    rw [wordsL_gap _ _ (by rfl), ih]
def lineN (L : List ByteArray) : Nat → ByteArray
  | 0 => ByteArray.empty
  | k + 1 => (lineN L k ++ L[k]?.getD ByteArray.empty) ++ ⟨#[32]⟩
theorem lineN_data (L : List ByteArray) : ∀ k, k ≤ L.length → (lineN L k).data.toList = lineL ((L.take k).map (·.data.toList))
  | 0, _ => by simp [lineN, lineL]
  | k + 1, h => by
    have ih := lineN_data L k (by omega)
    have hk : k < L.length := by omega
    rw [List.take_add_one, List.map_append]
    simp only [lineN, List.getElem?_eq_getElem hk, Option.getD_some, Option.toList_some, List.map_cons, List.map_nil]
    rw [lineL_snoc, ← ih]
    simp
theorem lineN_words (s : ByteArray) : wordsB (lineN (wordsB s) (wordsB s).length) = wordsB s := by
  have h := lineN_data (wordsB s) _ (Nat.le_refl _)
  rw [List.take_length] at h
  have e : (wordsB s).map (·.data.toList) = wordsL s.data.toList := by
    unfold wordsB
    rw [List.map_map]
    have : ((fun x : ByteArray => x.data.toList) ∘ toB) = id := by funext x; rfl
    rw [this, List.map_id]
  rw [e] at h
  have e2 : wordsB (lineN (wordsB s) (wordsB s).length) = (wordsL (lineN (wordsB s) (wordsB s).length).data.toList).map toB := rfl
  rw [e2, h, wordsL_line (wordsL s.data.toList) (fun x hx => wordsF_good _ _ x hx)]
  rfl
theorem wordsB_each (s : ByteArray) (i : Nat) : ((wordsB s)[i]?.getD ByteArray.empty).size ≤ s.size := by
  by_cases hi : i < (wordsB s).length
  · rw [List.getElem?_eq_getElem hi]
    have hm := List.getElem_mem hi
    simp only [Option.getD_some]
    generalize (wordsB s)[i] = x at hm
    unfold wordsB at hm
    obtain ⟨y, hy, rfl⟩ := List.mem_map.1 hm
    have := wordsF_size _ _ y hy
    have e1 : (toB y).size = y.length := by show y.toArray.size = _; simp
    have e2 : s.data.toList.length = s.size := by simp
    omega
  · rw [List.getElem?_eq_none (by omega)]; simp
theorem lineN_size (L : List ByteArray) (b : Nat) (hb : ∀ i : Nat, (L[i]?.getD ByteArray.empty).size ≤ b) : ∀ k, (lineN L k).size ≤ k * (b + 1)
  | 0 => by simp [lineN]
  | k + 1 => by
    have ih := lineN_size L b hb k
    have := hb k
    rw [Nat.succ_mul]
    have e : (⟨#[32]⟩ : ByteArray).size = 1 := rfl
    simp only [lineN, ByteArray.size_append, e]; omega

set_option maxHeartbeats 400000 in
theorem sameT_none (a b : Option Addr) (c d : Nat) (w : World) :
    Calls Tryd.prog 26 #[.slice a 0 c, .slice b 0 d] w fun e w' => e = .returned (.bool true) ∧ Below w.heap.size w w' := by
  go_enter Tryd.func26, Tryd.ntmps26
  go_wp2
  go_loop [5] (fun i => i = .int .i64 0) (fun _ => 0)
  case atStart => rfl
  case round =>
    obtain rfl := hrel
    go_wp2
    go_ret
    exact ⟨rfl, Below.refl _ _⟩

set_option maxHeartbeats 400000 in
theorem sameT_some (g1 g2 n c d b1 b2 : Nat) (xs : List ByteArray) (w : World) (hn : n ≤ 2000000)
    (h1 : w.ownsRow b1 9 1 (.slice (some ⟨g1, 0, none⟩) n c) n (xs.map Value.string)) (h2 : w.ownsRow b2 9 1 (.slice (some ⟨g2, 0, none⟩) n d) n (xs.map Value.string)) :
    Calls Tryd.prog 26 #[.slice (some ⟨g1, 0, none⟩) n c, .slice (some ⟨g2, 0, none⟩) n d] w fun e w' => e = .returned (.bool true) ∧ Below w.heap.size w w' := by
  have hlen : xs.length = n := by have := h1.1; simpa using this
  go_enter Tryd.func26, Tryd.ntmps26
  go_wp2
  go_loopw [5] (fun i wr => ∃ k m : Nat, k ≤ n ∧ i = .int .i64 k ∧ wr = w.drewN m) (fun i _ => n - (intOf i).toNat)
  case atStart => exact ⟨0, 0, Nat.zero_le _, rfl, rfl⟩
  case round =>
    obtain ⟨k, m, hk, rfl, rfl⟩ := hrel
    by_cases hlt : k < n
    · have q1 : w.cell? ⟨g1, k, none⟩ = some (.string (xs[k]'(by omega))) := by
        rw [h1.cellAt k (by omega)]; simp [show k < xs.length by omega]
      have q2 : w.cell? ⟨g2, k, none⟩ = some (.string (xs[k]'(by omega))) := by
        rw [h2.cellAt k (by omega)]; simp [show k < xs.length by omega]
      have z0 : (0 : Int) ≤ (k : Int) := Int.natCast_nonneg _
      have z1 : (k : Int) < (n : Int) := by omega
      clear h1 h2
      go_wp2
      go_quiet (fail)
      go_wp2
      go_roundw
      case rel => exact ⟨k + 1, m + nq, by omega, by go_num, by first | rfl | rw [World.drewN_drewN]⟩
      case measure => simp [intOf]; omega
    · clear h1 h2
      go_wp2
      go_ret
      exact ⟨rfl, below_drewN' (Below.refl _ _) _⟩

theorem sameT (v1 v2 : Value) (n b1 b2 : Nat) (xs : List ByteArray) (w : World) (hn : n ≤ 2000000) (h1 : w.ownsRow b1 9 1 v1 n (xs.map Value.string)) (h2 : w.ownsRow b2 9 1 v2 n (xs.map Value.string)) :
    Calls Tryd.prog 26 #[v1, v2] w fun e w' => e = .returned (.bool true) ∧ Below w.heap.size w w' := by
  rcases ownsRow_shape h1 with ⟨rfl, rfl⟩ | ⟨g1, c1, rfl, _, _, _, _, _⟩
  · rcases ownsRow_shape h2 with ⟨rfl, _⟩ | ⟨g2, c2, rfl, _⟩ <;> exact sameT_none _ _ _ _ _
  · rcases ownsRow_shape h2 with ⟨rfl, rfl⟩ | ⟨g2, c2, rfl, _, _, _, _, _⟩
    · exact sameT_none _ _ _ _ _
    · exact sameT_some _ _ _ _ _ _ _ _ _ hn h1 h2
end Go.Proofs.YthmdbjjhhemjoaaDoor
