/- Chapter 11, pure: the luck behind a luck, what is drawn of it, and lists that are mixed by it. -/
import Derived.Test.YtagabgblcmoblaaDraw
set_option linter.unusedVariables false
set_option linter.unusedSimpArgs false
namespace Go.Proofs.Ytagabgblcmoblaa
open Go.RowKit
set_option linter.unusedVariables false

theorem i64_and31 (n : Int) : bits .and .i64 n 2147483647 = n % 2147483648 := by
  have h255 : (BitVec.ofInt 64 2147483647).toNat = 2 ^ 31 - 1 := by decide
  have key : (BitVec.ofInt 64 n &&& BitVec.ofInt 64 2147483647).toNat = (n % ((2 ^ 64 : Nat) : Int)).toNat % 2 ^ 31 := by
    rw [BitVec.toNat_and, BitVec.toNat_ofInt, h255, Nat.and_two_pow_sub_one_eq_mod]
  show IntKind.i64.wrap ((BitVec.ofInt 64 n &&& BitVec.ofInt 64 2147483647).toNat : Nat) = n % 2147483648
  rw [key, IntKind.wrap_i64]
  omega

/-- the luck behind a luck -/
def nxL (l : Int) : Int := (l % 2147483648 * 1103515245 + 12345) % 2147483648
theorem nxL_bd (l : Int) : 0 ≤ nxL l ∧ nxL l ≤ 2147483647 := by unfold nxL; omega
/-- what is drawn -/
def blL (l n : Int) : Int := if n < 1 then 0 else nxL l / 65536 % n
theorem blL_bd (l n : Int) (h : 1 ≤ n) : 0 ≤ blL l n ∧ blL l n < n := by
  unfold blL
  rw [if_neg (by omega)]
  exact ⟨Int.emod_nonneg _ (by omega), Int.emod_lt_of_pos _ (by omega)⟩
theorem blL_none (l n : Int) (h : n < 1) : blL l n = 0 := by unfold blL; rw [if_pos h]
theorem blL_more (l n : Int) (h : 1 ≤ n) : blL l n = (nxL l / 65536).tmod n := by
  have := nxL_bd l
  unfold blL
  rw [if_neg (by omega), Int.tmod_eq_emod_of_nonneg (by omega)]

/-- number i for number j, and number j for number i -/
def swpL (xs : List Int) (i j : Nat) : List Int := (xs.set i (xs[j]?.getD 0)).set j (xs[i]?.getD 0)
theorem swpL_len (xs : List Int) (i j : Nat) : (swpL xs i j).length = xs.length := by simp [swpL]
theorem swpL_get (xs : List Int) (i j k : Nat) (hi : i < xs.length) (hj : j < xs.length) :
    (swpL xs i j)[k]?.getD 0 = if k = j then xs[i]?.getD 0 else if k = i then xs[j]?.getD 0 else xs[k]?.getD 0 := by
  unfold swpL
  rw [List.getElem?_set, List.getElem?_set]
  by_cases h1 : k = j
  · subst h1; simp [hj]
  · by_cases h2 : k = i
    · subst h2; rw [if_neg (by omega), if_pos rfl]; simp [hi, h1]
    · rw [if_neg (by omega), if_neg (by omega)]; simp [h1, h2]
/-- numbers below n, each once -/
structure Perm0 (n : Nat) (xs : List Int) : Prop where
  len : xs.length = n
  bd : ∀ k, k < n → 0 ≤ xs[k]?.getD 0 ∧ xs[k]?.getD 0 < n
  inj : ∀ a b, a < n → b < n → xs[a]?.getD 0 = xs[b]?.getD 0 → a = b
theorem Perm0.swp {n : Nat} {xs : List Int} (h : Perm0 n xs) (i j : Nat) (hi : i < n) (hj : j < n) : Perm0 n (swpL xs i j) := by
  have hl := h.len
  refine ⟨by rw [swpL_len]; exact hl, fun k hk => ?_, fun a b ha hb he => ?_⟩
  · rw [swpL_get xs i j k (by omega) (by omega)]
    split
    · exact h.bd _ hi
    · split
      · exact h.bd _ hj
      · exact h.bd _ hk
  · rw [swpL_get xs i j a (by omega) (by omega), swpL_get xs i j b (by omega) (by omega)] at he
    have f1 := h.inj i j hi hj
    have f2 := h.inj i b hi hb
    have f3 := h.inj j b hj hb
    have f4 := h.inj a i ha hi
    have f5 := h.inj a j ha hj
    have f6 := h.inj a b ha hb
    generalize xs[i]?.getD 0 = x1 at *
    generalize xs[j]?.getD 0 = x2 at *
    generalize xs[a]?.getD 0 = x3 at *
    generalize xs[b]?.getD 0 = x4 at *
    by_cases h1 : a = j <;> by_cases h2 : b = j <;> by_cases h3 : a = i <;> by_cases h4 : b = i <;> simp only [h1, h2, h3, h4, if_true, if_false] at he <;> omega
/-- 0 .. n less 1 -/
def uptoL (n : Nat) : List Int := (List.range n).map fun (k : Nat) => (k : Int)
theorem uptoL_len (n : Nat) : (uptoL n).length = n := by simp [uptoL]
theorem uptoL_get (n k : Nat) (h : k < n) : (uptoL n)[k]?.getD 0 = k := by simp [uptoL, h]
theorem uptoL_succ (n : Nat) : uptoL (n + 1) = uptoL n ++ [(n : Int)] := by simp [uptoL, List.range_succ]
theorem uptoL_perm (n : Nat) : Perm0 n (uptoL n) := by
  refine ⟨uptoL_len n, fun k hk => ?_, fun a b ha hb he => ?_⟩
  · rw [uptoL_get n k hk]; omega
  · rw [uptoL_get n a ha, uptoL_get n b hb] at he; omega
/-- the rounds from i down to 1 -/
def mixM : Nat → Int → List Int → Int × List Int
  | 0, l, xs => (l, xs)
  | i + 1, l, xs => mixM i (nxL l) (swpL xs (i + 1) (blL l (i + 2)).toNat)
theorem mixM_perm {n : Nat} : ∀ (i : Nat) (l : Int) (xs : List Int), Perm0 n xs → i < n → Perm0 n (mixM i l xs).2
  | 0, l, xs, h, _ => h
  | i + 1, l, xs, h, hi => by
    have hb := blL_bd l (i + 2) (by omega)
    exact mixM_perm i _ _ (h.swp _ _ hi (by omega)) (by omega)
/-- the luck behind, and the list -/
def mixV (l : Int) (n : Nat) : Int × List Int := mixM (n - 1) l (uptoL n)
theorem mixV_perm (l : Int) (n : Nat) : Perm0 n (mixV l n).2 := by
  unfold mixV
  cases n with
  | zero => exact uptoL_perm 0
  | succ n => exact mixM_perm _ _ _ (uptoL_perm _) (by omega)
theorem mixV_len (l : Int) (n : Nat) : (mixV l n).2.length = n := (mixV_perm l n).len
/-- what Mixed tells -/
def mxL (l n : Int) : Int × List Int := if n < 0 ∨ 50 < n then (l, []) else mixV l n.toNat
theorem mxL_len (l n : Int) : (mxL l n).2.length ≤ 50 := by
  unfold mxL
  split
  · exact Nat.zero_le _
  · rw [mixV_len]; omega
theorem mxL_perm (l : Int) (m : Nat) (h : m ≤ 50) : Perm0 m (mxL l m).2 := by
  unfold mxL
  rw [if_neg (by omega), Int.toNat_natCast]
  exact mixV_perm l m
theorem mxL_out (l n : Int) (h : n < 0 ∨ 50 < n) : mxL l n = (l, []) := by unfold mxL; rw [if_pos h]
end Go.Proofs.Ytagabgblcmoblaa
