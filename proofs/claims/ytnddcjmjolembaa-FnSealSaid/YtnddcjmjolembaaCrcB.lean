/- Seals with bits turned: what follows of the sums' facts. -/
import Derived.Test.YtnddcjmjolembaaCrcM
namespace Go.Proofs.Ytnddcjmjolembaa
set_option linter.unusedVariables false

theorem three_sorted (a b c : Nat) (h1 : a < b) (h2 : b < c) (hc : c ≤ 96) : tN a 1 ^^^ tN b 1 ^^^ tN c 1 ≠ 0 := by
  intro e
  have e2 : tN a 1 ^^^ tN b 1 = tN c 1 := by
    have := congrArg (· ^^^ tN c 1) e
    simpa [Nat.xor_assoc] using this
  exact chk3_get _ a b c _ _ _ chk_all h1 h2 (genT_get 97 1 a (by omega)) (genT_get 97 1 b (by omega)) (genT_get 97 1 c (by omega)) e2
theorem three_bits (a b c : Nat) (ha : a ≤ 96) (hb : b ≤ 96) (hc : c ≤ 96) (h1 : a ≠ b) (h2 : b ≠ c) (h3 : a ≠ c) : tN a 1 ^^^ tN b 1 ^^^ tN c 1 ≠ 0 := by
  have s1 : ∀ x y z : Nat, x ^^^ y ^^^ z = y ^^^ x ^^^ z := fun x y z => by rw [Nat.xor_comm x y]
  have s2 : ∀ x y z : Nat, x ^^^ y ^^^ z = x ^^^ z ^^^ y := fun x y z => by rw [Nat.xor_assoc, Nat.xor_comm y z, ← Nat.xor_assoc]
  rcases Nat.lt_or_gt_of_ne h1 with h | h <;> rcases Nat.lt_or_gt_of_ne h2 with k | k <;> rcases Nat.lt_or_gt_of_ne h3 with m | m
  · exact three_sorted a b c h k hc
  · omega
  · rw [s2]; exact three_sorted a c b m k hb
  · rw [s2, s1]; exact three_sorted c a b m h hb
  · rw [s1]; exact three_sorted b a c h m hc
  · rw [s1, s2]; exact three_sorted b c a k m ha
  · omega
  · rw [s2, s1, s2]; exact three_sorted c b a k h ha
theorem flip_twice (l : List UInt8) (p : Nat) : flipB (flipB l p) p = l := by
  unfold flipB
  by_cases h : p / 8 < l.length
  · rw [if_pos h]
    rw [if_pos (by simpa using h)]
    simp only [List.set_set, List.getElem?_set_self h, Option.getD_some]
    rw [List.getElem?_eq_getElem h]
    simp only [Option.getD_some, UInt8.xor_assoc, UInt8.xor_self, UInt8.xor_zero]
    exact List.set_getElem_self h
  · rw [if_neg h, if_neg h]
theorem flip_comm (l : List UInt8) (p q : Nat) (hp : p < 8 * l.length) (hq : q < 8 * l.length) : flipB (flipB l p) q = flipB (flipB l q) p := by
  have h1 : p / 8 < l.length := by omega
  have h2 : q / 8 < l.length := by omega
  unfold flipB
  rw [if_pos h1, if_pos h2, if_pos (by simpa using h2), if_pos (by simpa using h1)]
  by_cases e : p / 8 = q / 8
  · rw [e]
    simp only [List.set_set, List.getElem?_set_self h2, Option.getD_some]
    congr 1
    rw [UInt8.xor_assoc, UInt8.xor_assoc, UInt8.xor_comm (UInt8.ofNat (2 ^ (p % 8)))]
  · rw [List.set_comm _ _ (by omega), List.getElem?_set_ne (by omega), List.getElem?_set_ne (by omega)]
/-- as many of three places as are asked for, turned one behind the other -/
theorem seal_one (d : List UInt8) (p : Nat) (hp : p < 8 * (sealL d).length) : openL (flipB (sealL d) p) = none := by
  have h := crcF_flip (sealL d) p ones hp
  exact openL_none h (tN_ne _ 1 (by decide) (by decide))
theorem seal_two (d : List UInt8) (hd : d.length ≤ 8) (p q : Nat) (hp : p < 8 * (sealL d).length) (hq : q < 8 * (sealL d).length) (h : p ≠ q) : openL (flipB (flipB (sealL d) p) q) = none := by
  have hl := sealL_len d
  have h1 := crcF_flip (sealL d) p ones hp
  have h2 := crcF_flip (flipB (sealL d) p) q ones (by rw [flipB_len]; exact hq)
  rw [h1, flipB_len, Nat.xor_assoc] at h2
  exact openL_none h2 (two_bits _ _ (by omega) (by omega) (by omega))
theorem seal_three (d : List UInt8) (hd : d.length ≤ 8) (p q r : Nat) (hp : p < 8 * (sealL d).length) (hq : q < 8 * (sealL d).length) (hr : r < 8 * (sealL d).length) (h1 : p ≠ q) (h2 : q ≠ r) (h3 : p ≠ r) :
    openL (flipB (flipB (flipB (sealL d) p) q) r) = none := by
  have hl := sealL_len d
  have e1 := crcF_flip (sealL d) p ones hp
  have e2 := crcF_flip (flipB (sealL d) p) q ones (by rw [flipB_len]; exact hq)
  have e3 := crcF_flip (flipB (flipB (sealL d) p) q) r ones (by rw [flipB_len, flipB_len]; exact hr)
  rw [e2, e1] at e3
  simp only [flipB_len] at e3
  rw [Nat.xor_assoc, Nat.xor_assoc, ← Nat.xor_assoc (tN (8 * (sealL d).length - p) 1)] at e3
  exact openL_none e3 (three_bits _ _ _ (by omega) (by omega) (by omega) (by omega) (by omega) (by omega))
theorem flip_ne (l : List UInt8) (p : Nat) (hp : p < 8 * l.length) : flipB l p ≠ l := fun e => by
  have h := crcF_flip l p 0 hp
  rw [e] at h
  have : tN (8 * l.length - p) 1 = 0 := by
    have h2 := congrArg (crcF 0 l ^^^ ·) h
    simp only [← Nat.xor_assoc, Nat.xor_self, Nat.zero_xor] at h2
    exact h2.symm
  exact tN_ne _ 1 (by decide) (by decide) this
/-- the first n of three places turned: there is a seal just where nothing is turned in the end -/
def flipsN (l : List UInt8) (ps : List Nat) : List UInt8 := ps.foldl flipB l
theorem seal_iff (d : List UInt8) (hd : d.length ≤ 8) (ps : List Nat) (hn : ps.length ≤ 3) (hp : ∀ p ∈ ps, p < 8 * (sealL d).length) : (openL (flipsN (sealL d) ps)).isSome = decide (flipsN (sealL d) ps = sealL d) := by
  have none_ne : ∀ l, openL l = none → (openL l).isSome = decide (l = sealL d) := by
    intro l h
    have : l ≠ sealL d := fun e => by rw [e, openL_seal] at h; cases h
    rw [h]; simp [this]
  have same : ∀ l, l = sealL d → (openL l).isSome = decide (l = sealL d) := by
    intro l h
    subst h
    rw [openL_seal]; simp
  match ps, hn, hp with
  | [], _, _ => exact same _ rfl
  | [p], _, hp => exact none_ne _ (seal_one d p (hp p (by simp)))
  | [p, q], _, hp =>
    by_cases h : p = q
    · subst h; exact same _ (flip_twice _ _)
    · exact none_ne _ (seal_two d hd p q (hp p (by simp)) (hp q (by simp)) h)
  | [p, q, r], _, hp =>
    have hp1 := hp p (by simp); have hq := hp q (by simp); have hr := hp r (by simp)
    show (openL (flipB (flipB (flipB (sealL d) p) q) r)).isSome = decide (flipB (flipB (flipB (sealL d) p) q) r = sealL d)
    by_cases h1 : p = q
    · subst h1
      rw [flip_twice]; exact none_ne _ (seal_one d r hr)
    · by_cases h2 : q = r
      · subst h2
        rw [flip_twice]; exact none_ne _ (seal_one d p hp1)
      · by_cases h3 : p = r
        · subst h3
          rw [flip_comm (sealL d) p q hp1 hq, flip_twice]
          exact none_ne _ (seal_one d q hq)
        · exact none_ne _ (seal_three d hd p q r hp1 hq hr h1 h2 h3)
  | _ :: _ :: _ :: _ :: _, hn, _ => simp at hn

/-! ### bits in a row -/
def burst (mask frm : Nat) (l : List UInt8) : Nat → List UInt8
  | 0 => l
  | k + 1 => if mask / 2 ^ k % 2 = 1 then flipB (burst mask frm l k) (frm + k) else burst mask frm l k
def mX (mask : Nat) : Nat → Nat
  | 0 => 0
  | k + 1 => if mask / 2 ^ k % 2 = 1 then mX mask k ^^^ 2 ^ k else mX mask k
theorem burst_len (mask frm : Nat) (l : List UInt8) : ∀ k, (burst mask frm l k).length = l.length
  | 0 => rfl
  | k + 1 => by
    have := burst_len mask frm l k
    unfold burst; split
    · rw [flipB_len, this]
    · exact this
theorem tN_pow : ∀ k, tN k (2 ^ k) = 1
  | 0 => rfl
  | k + 1 => by
    show tN k (tS (2 ^ (k + 1))) = 1
    have : tS (2 ^ (k + 1)) = 2 ^ k := by
      unfold tS
      rw [Nat.pow_succ, if_neg (by omega), Nat.mul_div_cancel _ (by decide)]
    rw [this, tN_pow k]
theorem burst_res (mask frm : Nat) (l : List UInt8) : ∀ k, frm + k ≤ 8 * l.length → crcF ones (burst mask frm l k) = crcF ones l ^^^ tN (8 * l.length - frm) (mX mask k)
  | 0, _ => by simp [burst, mX, tN_zero]
  | k + 1, h => by
    have ih := burst_res mask frm l k (by omega)
    unfold burst mX
    split
    · rw [crcF_flip _ _ _ (by rw [burst_len]; omega), ih, burst_len, tN_xor, Nat.xor_assoc]
      congr 2
      rw [show 8 * l.length - frm = k + (8 * l.length - (frm + k)) by omega, tN_add, tN_pow]
    · exact ih
theorem flip_off (l : List UInt8) (p : Nat) (h : 8 * l.length ≤ p) : flipB l p = l := by unfold flipB; rw [if_neg (by omega)]
theorem burst_off (mask frm : Nat) (l : List UInt8) (m : Nat) (hm : 8 * l.length ≤ frm + m) : ∀ j, burst mask frm l (m + j) = burst mask frm l m
  | 0 => rfl
  | j + 1 => by
    have ih := burst_off mask frm l m hm j
    have e : burst mask frm l (m + j + 1) = if mask / 2 ^ (m + j) % 2 = 1 then flipB (burst mask frm l (m + j)) (frm + (m + j)) else burst mask frm l (m + j) := rfl
    show burst mask frm l (m + j + 1) = _
    rw [e]
    split
    · rw [flip_off _ _ (by rw [burst_len]; omega)]; exact ih
    · exact ih
theorem mX_lt (mask : Nat) : ∀ k, k ≤ 32 → mX mask k < 4294967296
  | 0, _ => by simp [mX]
  | k + 1, h => by
    have ih := mX_lt mask k (by omega)
    unfold mX; split
    · exact Nat.xor_lt_two_pow (n := 32) ih (Nat.pow_lt_pow_right (by decide) (by omega))
    · exact ih
theorem mX_odd (mask : Nat) (h : mask % 2 = 1) : ∀ k, mX mask (k + 1) % 2 = 1
  | 0 => by simp [mX, h]
  | k + 1 => by
    have ih := mX_odd mask h k
    unfold mX; split
    · rw [xor_mod2, ih, Nat.pow_succ]; omega
    · exact ih
theorem seal_burst (d : List UInt8) (mask frm : Nat) (hf : frm < 8 * (sealL d).length) (hm : mask % 2 = 1) : openL (burst mask frm (sealL d) 32) = none := by
  by_cases hs : frm + 32 ≤ 8 * (sealL d).length
  · have h := burst_res mask frm (sealL d) 32 hs
    have ho : mX mask 32 % 2 = 1 := mX_odd mask hm 31
    exact openL_none h (tN_ne _ _ (mX_lt mask 32 (by omega)) (by omega))
  · obtain ⟨m, hm1⟩ : ∃ m, 8 * (sealL d).length - frm = m + 1 := ⟨8 * (sealL d).length - frm - 1, by omega⟩
    have hb := burst_off mask frm (sealL d) (m + 1) (by omega) (32 - (m + 1))
    rw [show m + 1 + (32 - (m + 1)) = 32 by omega] at hb
    rw [hb]
    have h := burst_res mask frm (sealL d) (m + 1) (by omega)
    have ho := mX_odd mask hm m
    exact openL_none h (tN_ne _ _ (mX_lt mask _ (by omega)) (by omega))
end Go.Proofs.Ytnddcjmjolembaa
