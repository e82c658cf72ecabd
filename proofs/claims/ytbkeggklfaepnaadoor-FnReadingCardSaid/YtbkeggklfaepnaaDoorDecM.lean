/- Decimal digits: plain lists and numbers. -/
import Derived.Lib.ItoaNum
import Derived.Lib.ItoaMem
import Derived.Lib.AtoiAll
import Derived.Lib.AtoiAllCases
namespace Go.Proofs.YtbkeggklfaepnaaDoor
open Go Go.Lib

def isDig (c : UInt8) : Bool := decide (48 ≤ c.toNat) && decide (c.toNat ≤ 57)
def valFrom (acc : Nat) (l : List UInt8) : Nat := l.foldl (fun a c => a * 10 + (c.toNat - 48)) acc

theorem dig_toNat (d : Nat) (h : d < 10) : (UInt8.ofNat (48 + d)).toNat = 48 + d := by
  simp [UInt8.toNat_ofNat']; omega
theorem dig_isDig (d : Nat) (h : d < 10) : isDig (UInt8.ofNat (48 + d)) = true := by
  simp only [isDig, dig_toNat d h]; simp; omega
theorem decDigits_lt (u : Nat) (h : u < 10) : decDigits u = [UInt8.ofNat (48 + u)] := by rw [decDigits]; simp [h]
theorem decDigits_ge (u : Nat) (h : ¬ u < 10) : decDigits u = decDigits (u / 10) ++ [UInt8.ofNat (48 + u % 10)] := by rw [decDigits]; simp [h]
theorem decDigits_all (u : Nat) : ∀ c ∈ decDigits u, isDig c = true := by
  induction u using Nat.strongRecOn with
  | _ u ih =>
    by_cases h : u < 10
    · rw [decDigits_lt u h]; intro c hc; rw [List.mem_singleton] at hc; subst hc; exact dig_isDig u h
    · rw [decDigits_ge u h]; intro c hc
      rcases List.mem_append.1 hc with hc | hc
      · exact ih (u / 10) (by omega) c hc
      · rw [List.mem_singleton] at hc; subst hc; exact dig_isDig _ (by omega)
theorem decDigits_len : ∀ (k u : Nat), 1 ≤ k → u < 10 ^ k → (decDigits u).length ≤ k := by
  intro k
  induction k with
  | zero => intro u h; omega
  | succ k ih =>
    intro u _ hu
    by_cases h : u < 10
    · rw [decDigits_lt u h]; simp
    · rw [decDigits_ge u h]
      have hk : 1 ≤ k := by
        rcases Nat.eq_zero_or_pos k with rfl | h'
        · simp at hu; omega
        · exact h'
      have := ih (u / 10) hk (by rw [Nat.pow_succ] at hu; omega)
      simp; omega
theorem decDigits_ne (u : Nat) : decDigits u ≠ [] := by
  by_cases h : u < 10
  · rw [decDigits_lt u h]; simp
  · rw [decDigits_ge u h]; simp
theorem valFrom_append (acc : Nat) (l r : List UInt8) : valFrom acc (l ++ r) = valFrom (valFrom acc l) r := by simp [valFrom, List.foldl_append]
theorem val_decDigits (u : Nat) : valFrom 0 (decDigits u) = u := by
  induction u using Nat.strongRecOn with
  | _ u ih =>
    by_cases h : u < 10
    · rw [decDigits_lt u h]; simp only [valFrom, List.foldl_cons, List.foldl_nil, dig_toNat u h]; omega
    · rw [decDigits_ge u h, valFrom_append, ih (u / 10) (by omega)]
      simp only [valFrom, List.foldl_cons, List.foldl_nil, dig_toNat (u % 10) (by omega)]; omega
theorem valFrom_lt : ∀ (l : List UInt8) (acc k : Nat), (∀ c ∈ l, isDig c = true) → acc < 10 ^ k → valFrom acc l < 10 ^ (k + l.length)
  | [], acc, k, _, h => by simpa [valFrom] using h
  | c :: r, acc, k, hd, h => by
    have hc := hd c (by simp)
    simp only [isDig, Bool.and_eq_true, decide_eq_true_eq] at hc
    have := valFrom_lt r (acc * 10 + (c.toNat - 48)) (k + 1) (fun c' hc' => hd c' (by simp [hc'])) (by rw [Nat.pow_succ]; omega)
    simp only [valFrom, List.foldl_cons, List.length_cons] at this ⊢
    rwa [show k + (r.length + 1) = k + 1 + r.length by omega]
theorem parse_val : ∀ (l : List UInt8) (acc k : Nat), (∀ c ∈ l, isDig c = true) → acc < 10 ^ k → k + l.length ≤ 18 → parseUint10 acc l = .ok (valFrom acc l)
  | [], acc, k, _, _, _ => rfl
  | c :: r, acc, k, hd, h, hk => by
    have hc := hd c (by simp)
    simp only [isDig, Bool.and_eq_true, decide_eq_true_eq] at hc
    simp only [List.length_cons] at hk
    have hp : 10 ^ k ≤ 10 ^ 17 := Nat.pow_le_pow_right (by omega) (by omega)
    have h17 : (10 : Nat) ^ 17 = 100000000000000000 := rfl
    have := parse_val r (acc * 10 + (c.toNat - 48)) (k + 1) (fun c' hc' => hd c' (by simp [hc'])) (by rw [Nat.pow_succ]; omega) (by omega)
    simp only [parseUint10]
    rw [if_pos hc, if_neg (by omega), if_neg (by omega), this]
    rfl
/-- what Atoi tells, held against its own text -/
def decOf (l : List UInt8) : Int := match atoiAll l with
  | .ok v => if 0 ≤ v ∧ v ≤ 999999999 ∧ itoa v = l then v else -1
  | _ => -1
theorem atoi_digits (l : List UInt8) (h0 : l ≠ []) (hd : ∀ c ∈ l, isDig c = true) (hl : l.length ≤ 9) : atoiAll l = .ok (valFrom 0 l : Nat) := by
  cases l with
  | nil => exact absurd rfl h0
  | cons c r =>
    have hc := hd c (by simp)
    simp only [isDig, Bool.and_eq_true, decide_eq_true_eq] at hc
    rw [atoiAll_plain c r (by omega) (by omega)]
    have hp := parse_val (c :: r) 0 0 hd (by simp) (by omega)
    have hv := valFrom_lt (c :: r) 0 0 hd (by simp)
    have : (10 : Nat) ^ (0 + (c :: r).length) ≤ 10 ^ 9 := Nat.pow_le_pow_right (by omega) (by omega)
    have h9 : (10 : Nat) ^ 9 = 1000000000 := rfl
    simp only [parseMag, List.cons_ne_nil, if_false, hp, signless]
    rw [if_neg (by omega)]
theorem decOf_digits (l : List UInt8) (h0 : l ≠ []) (hd : ∀ c ∈ l, isDig c = true) (hl : l.length ≤ 9) : decOf l = if decDigits (valFrom 0 l) = l then (valFrom 0 l : Int) else -1 := by
  have hv := valFrom_lt l 0 0 hd (by simp)
  have : (10 : Nat) ^ (0 + l.length) ≤ 10 ^ 9 := Nat.pow_le_pow_right (by omega) (by omega)
  have h9 : (10 : Nat) ^ 9 = 1000000000 := rfl
  simp only [decOf, atoi_digits l h0 hd hl, itoa_nonneg]
  by_cases h : decDigits (valFrom 0 l) = l
  · rw [if_pos ⟨by omega, by omega, h⟩, if_pos h]
  · rw [if_neg (fun x => h x.2.2), if_neg h]
theorem decOf_none (l : List UInt8) (h : ∀ v : Nat, v ≤ 999999999 → decDigits v ≠ l) : decOf l = -1 := by
  unfold decOf
  split
  · rename_i v hv
    rw [if_neg]
    rintro ⟨h1, h2, h3⟩
    obtain ⟨u, rfl⟩ : ∃ u : Nat, v = u := ⟨v.toNat, by omega⟩
    rw [itoa_nonneg] at h3
    exact h u (by omega) h3
  · rfl
theorem decOf_bad (l : List UInt8) (h : ∃ c ∈ l, isDig c = false) : decOf l = -1 := decOf_none l fun v _ e => by
  obtain ⟨c, hc, hb⟩ := h
  rw [← e] at hc
  rw [decDigits_all v c hc] at hb; cases hb
theorem decOf_long (l : List UInt8) (h : 9 < l.length) : decOf l = -1 := decOf_none l fun v hv e => by
  have := decDigits_len 9 v (by omega) (by have h9 : (10 : Nat) ^ 9 = 1000000000 := rfl; omega)
  rw [e] at this; omega
theorem decOf_nil : decOf [] = -1 := decOf_none [] fun v _ => decDigits_ne v
theorem decOf_bd (l : List UInt8) : -1 ≤ decOf l ∧ decOf l ≤ 999999999 := by
  unfold decOf
  split
  · split
    · omega
    · omega
  · omega
theorem take_snoc (s : ByteArray) (k : Nat) (h : k < s.size) : s.data.toList.take (k + 1) = s.data.toList.take k ++ [s[k]] := by
  rw [List.take_succ_eq_append_getElem (by simpa using h)]; rfl
end Go.Proofs.YtbkeggklfaepnaaDoor
