/- A reading read: the program's way and the model's are one (no program). -/
import Derived.Test.YtbkeggklfaepnaaDoorHexM
import Derived.Test.YtbkeggklfaepnaaDoorKeyTr
import Derived.Test.YtbkeggklfaepnaaDoorRdTx
namespace Go.Proofs.YtbkeggklfaepnaaDoor
set_option linter.unusedVariables false

/-- the load of a text of digits, empty where it is none -/
def loadX (l : List UInt8) : ByteArray := match readL l with
  | some xs => strOfNums xs
  | none => ByteArray.empty
/-- the reading of a text, as the program makes it -/
def rrR (s : ByteArray) : R3 := (keyOfL (cutC 61 s.data.toList).1, loadX (cutC 61 s.data.toList).2.1)
def rrI (s : ByteArray) : Option R3 := if rdOkB (rrR s) then some (rrR s) else none
/-- .. as the model does -/
def rrS (s : ByteArray) : Option R3 :=
  if keysOkR (keysOfL (cutC 61 s.data.toList).1) = true ∧ (readL (cutC 61 s.data.toList).2.1).isSome = true ∧ (keysOfL (cutC 61 s.data.toList).1).length = 1 then
    if rtB ((keysOfL (cutC 61 s.data.toList).1).getD 0 (0, 0), loadX (cutC 61 s.data.toList).2.1) = s then some ((keysOfL (cutC 61 s.data.toList).1).getD 0 (0, 0), loadX (cutC 61 s.data.toList).2.1) else none
  else none
theorem keysOk_one (k : K2) : keysOkR [k] = keyOkB k := by
  simp [keysOkR, stepB, List.range_succ]
theorem keyOfL_nil : keyOkB (keyOfL []) = false := by decide +kernel
theorem keysOf_one {a : List UInt8} (h : keyOkB (keyOfL a) = true) : keysOfL a = [keyOfL a] := by
  have ha : a ≠ [] := by
    rintro rfl
    rw [keyOfL_nil] at h; cases h
  have ht := keyOf_text a h
  have hn : ∀ c ∈ a, c ≠ 44 := by
    intro c hc
    rw [← ht] at hc
    exact ktL_chars _ c hc
  unfold keysOfL
  rw [if_neg ha, splitC_none 44 a hn]; rfl
theorem keysOf_len1 {a : List UInt8} (h : (keysOfL a).length = 1) : keysOfL a = [keyOfL a] := by
  by_cases ha : a = []
  · subst ha; simp [keysOfL] at h
  · unfold keysOfL at h ⊢
    rw [if_neg ha] at h ⊢
    rw [List.length_map] at h
    obtain ⟨x, hx⟩ := List.length_eq_one_iff.1 h
    have hj := join_splitC 44 a.length a (Nat.le_refl _)
    rw [hx] at hj ⊢
    have hxa : x = a := by simpa [Lib.join, Lib.joinTail] using hj
    rw [hxa]; rfl
theorem loadX_text {b : List UInt8} {xs : List Int} (h : readL b = some xs) : strOfNums (hexL (loadX b).data.toList) = tB b := by
  unfold loadX
  rw [h]
  show strOfNums (hexL (strOfNums xs).data.toList) = tB b
  rw [strOf_bytes xs, data_of, strOf_bytes, read_hex b.length b xs (Nat.le_refl _) h]
  rfl
theorem rrI_text {s : ByteArray} (h : rdOkB (rrR s) = true) : rtB (rrR s) = s ∧ ∃ xs, readL (cutC 61 s.data.toList).2.1 = some xs := by
  obtain ⟨hk, hl⟩ := rdOk_key2 h
  have hl2 : (loadX (cutC 61 s.data.toList).2.1).size = 4 := hl
  have hk2 : keyOkB (keyOfL (cutC 61 s.data.toList).1) = true := hk
  obtain ⟨xs, hx⟩ : ∃ xs, readL (cutC 61 s.data.toList).2.1 = some xs := by
    cases hr : readL (cutC 61 s.data.toList).2.1 with
    | some xs => exact ⟨xs, rfl⟩
    | none => unfold loadX at hl2; rw [hr] at hl2; cases hl2
  refine ⟨?_, xs, hx⟩
  have hflag : (cutC 61 s.data.toList).2.2 = true := by
    cases hf : (cutC 61 s.data.toList).2.2 with
    | true => rfl
    | false =>
      have h0 := cutC_off 61 s.data.toList hf
      rw [h0] at hl2
      cases hl2
  have hback := cutC_back 61 s.data.toList
  rw [if_pos hflag] at hback
  unfold rtB
  rw [if_pos h]
  have e1 : keyTextL [(rrR s).1] = (cutC 61 s.data.toList).1 := by
    show Lib.join [ktL (keyOfL (cutC 61 s.data.toList).1)] [44] = _
    rw [keyOf_text _ hk2]
    simp [Lib.join, Lib.joinTail]
  have e2 : strOfNums (hexL (rrR s).2.data.toList) = tB (cutC 61 s.data.toList).2.1 := loadX_text hx
  rw [e1, e2, show (⟨#[61]⟩ : ByteArray) = tB [61] from rfl, tB_append, tB_append, ← hback]
  exact tB_data s
theorem rr_same (s : ByteArray) : rrS s = rrI s := by
  unfold rrI
  cases hok : rdOkB (rrR s) with
  | true =>
    obtain ⟨ht, xs, hx⟩ := rrI_text hok
    obtain ⟨hk, hl⟩ := rdOk_key2 hok
    have h1 := keysOf_one (a := (cutC 61 s.data.toList).1) hk
    unfold rrS
    rw [h1, hx]
    rw [if_pos ⟨by rw [keysOk_one]; exact hk, rfl, rfl⟩]
    have e : (([keyOfL (cutC 61 s.data.toList).1] : List K2).getD 0 (0, 0), loadX (cutC 61 s.data.toList).2.1) = rrR s := rfl
    rw [e, if_pos ht]; rfl
  | false =>
    rw [if_neg (by simp)]
    unfold rrS
    split
    · rename_i hc
      obtain ⟨hc1, hc2, hc3⟩ := hc
      rw [keysOf_len1 hc3]
      have e : (([keyOfL (cutC 61 s.data.toList).1] : List K2).getD 0 (0, 0), loadX (cutC 61 s.data.toList).2.1) = rrR s := rfl
      rw [e]
      rw [if_neg]
      intro ht
      unfold rtB at ht
      rw [hok] at ht
      have hs : s = ByteArray.empty := by simpa using ht.symm
      subst hs
      rw [keysOf_len1 hc3, keysOk_one] at hc1
      have : (cutC 61 (ByteArray.empty).data.toList).1 = [] := rfl
      rw [this, keyOfL_nil] at hc1
      cases hc1
    · rfl
theorem readL_len : ∀ (n : Nat) (l : List UInt8) (xs : List Int), l.length ≤ n → readL l = some xs → xs.length ≤ l.length
  | _, [], xs, _, h => by simp only [readL, Option.some.injEq] at h; subst h; simp
  | _, [a], xs, _, h => by simp [readL] at h
  | 0, a :: b :: r, xs, hn, h => by simp at hn
  | n + 1, a :: b :: r, xs, hn, h => by
    simp only [readL] at h
    split at h
    · cases h
    · obtain ⟨ys, hy, rfl⟩ := Option.map_eq_some_iff.1 h
      have ih := readL_len n r ys (by simp at hn; omega) hy
      simp only [List.length_cons] at *
      omega
theorem loadX_size {l : List UInt8} : ∀ (n : Nat), l.length ≤ n → (loadX l).size ≤ n := by
  intro n hn
  unfold loadX
  cases h : readL l with
  | none => exact Nat.zero_le n
  | some xs =>
    show (strOfNums xs).size ≤ n
    rw [strOfNums_size]
    have := readL_len l.length l xs (Nat.le_refl _) h
    omega
end Go.Proofs.YtbkeggklfaepnaaDoor
