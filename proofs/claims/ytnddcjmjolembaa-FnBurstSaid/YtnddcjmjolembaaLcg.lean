/- The cursor's numbers: they come to each number in the end; so what is drawn till something comes ends. -/
import Derived.Test.YtnddcjmjolembaaDraw
namespace Go.Proofs.Ytnddcjmjolembaa
open Go.RowKit
set_option linter.unusedVariables false

def lcgN : Nat → Int → Int
  | 0, h => h
  | m + 1, h => lcgN m (lcg h)
def FN : Nat → Int → Int
  | 0, h => h
  | m + 1, h => FN m (h * 6364136223846793005 + 1442695040888963407)
theorem FN_add : ∀ (m k : Nat) (x : Int), FN (m + k) x = FN k (FN m x)
  | 0, k, x => by simp [FN]
  | m + 1, k, x => by
    rw [Nat.add_right_comm]; exact FN_add m k _
theorem lcgN_add : ∀ (m k : Nat) (x : Int), lcgN (m + k) x = lcgN k (lcgN m x)
  | 0, k, x => by simp [lcgN]
  | m + 1, k, x => by
    rw [Nat.add_right_comm]; exact lcgN_add m k _
theorem FN_pow : ∀ k : Nat, ∃ s o : Int, ∀ x, FN (2 ^ k) x = (1 + 4 * 2 ^ k * s) * x + 2 ^ k * (2 * o + 1)
  | 0 => ⟨1591034055961698251, 721347520444481703, fun x => by simp [FN]; omega⟩
  | k + 1 => by
    obtain ⟨s, o, h⟩ := FN_pow k
    refine ⟨s + 2 * 2 ^ k * s * s, o + 2 * o * 2 ^ k * s + 2 ^ k * s, fun x => ?_⟩
    rw [show 2 ^ (k + 1) = 2 ^ k + 2 ^ k by rw [Nat.pow_succ]; omega, FN_add, h, h, Int.pow_succ]
    generalize (2 : Int) ^ k = p
    grind
theorem FN_reach : ∀ (k : Nat) (x y : Int), ∃ m : Nat, m < 2 ^ k ∧ ∃ d : Int, FN m x = y + 2 ^ k * d
  | 0, x, y => ⟨0, by simp, x - y, by simp [FN]; omega⟩
  | k + 1, x, y => by
    obtain ⟨m, hm, d, hd⟩ := FN_reach k x y
    have h2 : 2 ^ (k + 1) = 2 ^ k + 2 ^ k := by rw [Nat.pow_succ]; omega
    rcases (by omega : d % 2 = 0 ∨ d % 2 = 1) with h | h
    · obtain ⟨d', rfl⟩ : ∃ d', d = 2 * d' := ⟨d / 2, by omega⟩
      exact ⟨m, by omega, d', by rw [hd, Int.pow_succ]; generalize (2 : Int) ^ k = p; grind⟩
    · obtain ⟨d', rfl⟩ : ∃ d', d = 2 * d' + 1 := ⟨d / 2, by omega⟩
      obtain ⟨s, o, hp⟩ := FN_pow k
      refine ⟨m + 2 ^ k, by omega, d' + o + 1 + 2 * s * (y + 2 ^ k * (2 * d' + 1)), ?_⟩
      rw [FN_add, hp, hd, Int.pow_succ]
      generalize (2 : Int) ^ k = p
      grind
theorem FN_mod : ∀ (m : Nat) (x q : Int), ∃ q' : Int, FN m (x + 18446744073709551616 * q) = FN m x + 18446744073709551616 * q'
  | 0, x, q => ⟨q, rfl⟩
  | m + 1, x, q => by
    obtain ⟨q', h⟩ := FN_mod m (x * 6364136223846793005 + 1442695040888963407) (q * 6364136223846793005)
    refine ⟨q', ?_⟩
    show FN m _ = FN m _ + _
    rw [← h]; congr 1; omega
theorem lcg_is (h : Int) : ∃ q : Int, lcg h = h * 6364136223846793005 + 1442695040888963407 + 18446744073709551616 * q := by
  refine ⟨(lcg h - (h * 6364136223846793005 + 1442695040888963407)) / 18446744073709551616, ?_⟩
  unfold lcg wrap64; omega
theorem lcgN_is : ∀ (m : Nat) (h : Int), ∃ q : Int, lcgN m h = FN m h + 18446744073709551616 * q
  | 0, h => ⟨0, by simp [lcgN, FN]⟩
  | m + 1, h => by
    obtain ⟨q, e⟩ := lcg_is h
    obtain ⟨q1, e1⟩ := lcgN_is m (lcg h)
    obtain ⟨q2, e2⟩ := FN_mod m (h * 6364136223846793005 + 1442695040888963407) q
    refine ⟨q1 + q2, ?_⟩
    show lcgN m (lcg h) = FN m _ + _
    rw [e1, e, e2]; omega
theorem lcg_in (h : Int) : -9223372036854775808 ≤ lcg h ∧ lcg h ≤ 9223372036854775807 := by unfold lcg wrap64; omega
theorem lcgN_in : ∀ (m : Nat) (h : Int), -9223372036854775808 ≤ h ∧ h ≤ 9223372036854775807 → -9223372036854775808 ≤ lcgN m h ∧ lcgN m h ≤ 9223372036854775807
  | 0, h, hh => hh
  | m + 1, h, hh => lcgN_in m _ (lcg_in h)
theorem lcg_reach (h y : Int) (hy : -9223372036854775808 ≤ y ∧ y ≤ 9223372036854775807) : ∃ m : Nat, m ≤ 18446744073709551616 ∧ lcgN m h = y := by
  obtain ⟨m, hm, d, hd⟩ := FN_reach 64 (lcg h) y
  obtain ⟨q, hq⟩ := lcgN_is m (lcg h)
  have h1 := lcgN_in m (lcg h) (lcg_in h)
  refine ⟨m + 1, hm, ?_⟩
  show lcgN m (lcg h) = y
  rw [hd] at hq
  have h3 : (2 : Int) ^ 64 = 18446744073709551616 := by decide
  rw [h3] at hq
  omega

/-- the next number makes the text grow -/
def grows (h : Int) : Bool := outb (lcg h) % 5 != 1 && outb (lcg h) % 5 != 2
def grows3 (h : Int) : Bool := grows h && grows (lcg h) && grows (lcg (lcg h))
theorem grows3_8 : grows3 8 = true := by decide +kernel
theorem least {p : Nat → Prop} (m : Nat) (hm : p m) : ∃ n, n ≤ m ∧ p n ∧ ∀ k, p k → n ≤ k := by
  induction m using Nat.strongRecOn with
  | _ m ih =>
    by_cases h : ∃ k, k < m ∧ p k
    · obtain ⟨k, hk, hp⟩ := h
      obtain ⟨n, h1, h2, h3⟩ := ih k hk hp
      exact ⟨n, by omega, h2, h3⟩
    · exact ⟨m, Nat.le_refl _, hm, fun k hk => by
        rcases Nat.lt_or_ge k m with h1 | h1
        · exact absurd ⟨k, h1, hk⟩ h
        · exact h1⟩
theorem wait_ex (h : Int) : ∃ n, n ≤ 18446744073709551616 ∧ grows3 (lcgN n h) = true ∧ ∀ k, grows3 (lcgN k h) = true → n ≤ k := by
  obtain ⟨m, hm, e⟩ := lcg_reach h 8 (by omega)
  obtain ⟨n, h1, h2, h3⟩ := least (p := fun n => grows3 (lcgN n h) = true) m (by rw [e]; exact grows3_8)
  exact ⟨n, by omega, h2, h3⟩
noncomputable def wait (h : Int) : Nat := if grows h then 0 else 1 + Classical.choose (wait_ex h)
theorem wait_le (h : Int) : wait h ≤ 18446744073709551617 := by
  have := (Classical.choose_spec (wait_ex h)).1
  unfold wait; split <;> omega
theorem wait_step (h : Int) (hn : grows h = false) (j : Nat) (h1 : 1 ≤ j) (h2 : j ≤ 3) : wait (lcgN j h) < wait h := by
  have e : wait h = 1 + Classical.choose (wait_ex h) := by unfold wait; simp [hn]
  obtain ⟨-, hg, hl⟩ := Classical.choose_spec (wait_ex h)
  rw [e]
  generalize Classical.choose (wait_ex h) = d at *
  rcases Nat.lt_or_ge d j with hd | hd
  · have h0 : grows (lcgN j h) = true := by
      simp only [grows3, Bool.and_eq_true] at hg
      obtain ⟨⟨g0, g1⟩, g2⟩ := hg
      have hd0 : d ≠ 0 := by rintro rfl; simp [lcgN, hn] at g0
      obtain ⟨i, rfl⟩ : ∃ i, j = d + i := ⟨j - d, by omega⟩
      rw [lcgN_add]
      obtain rfl | rfl : i = 1 ∨ i = 2 := by omega
      · exact g1
      · exact g2
    have : wait (lcgN j h) = 0 := by unfold wait; simp [h0]
    omega
  · have h3 : grows3 (lcgN (d - j) (lcgN j h)) = true := by
      rw [← lcgN_add, show j + (d - j) = d by omega]; exact hg
    have h4 := (Classical.choose_spec (wait_ex (lcgN j h))).2.2 (d - j) h3
    unfold wait; split <;> omega
/-- what a cursor has before it -/
noncomputable def ahead (len : Nat) (c : Cu) : Nat := (len - c.i) * 73786976294838206464 + wait c.h
theorem byteF_more (zs : List Int) (len : Nat) (c : Cu) (h : c.i = len) : byteF zs len c = (outb (lcg c.h), ⟨len, lcg c.h⟩) := by
  unfold byteF; rw [if_neg (by omega)]; simp [h]
theorem below_small (zs : List Int) (len : Nat) (c : Cu) (n : Int) (h0 : 0 < n) (h1 : n ≤ 256) : belowF zs len c n = ((byteF zs len c).1 % n, (byteF zs len c).2) := by
  unfold belowF; rw [if_neg (by omega), if_pos h1]
theorem byteF_at (zs : List Int) (len : Nat) (c : Cu) (hi : c.i ≤ len) : ((byteF zs len c).2.i = c.i ∧ c.i = len ∨ (byteF zs len c).2.i = c.i + 1 ∧ c.i < len) ∧ (byteF zs len c).2.h = lcg c.h := by
  refine ⟨?_, byteF_h _ _ _⟩
  unfold byteF; split <;> simp <;> omega
theorem ahead_one (zs : List Int) (len : Nat) (c : Cu) (hi : c.i ≤ len) (n : Int) (hn : n = 5) (hx : (belowF zs len c n).1 = 1 ∨ (belowF zs len c n).1 = 2) : ahead len (belowF zs len c n).2 < ahead len c := by
  subst hn
  rw [below_small _ _ _ _ (by omega) (by omega)] at hx ⊢
  dsimp only at hx ⊢
  have hw := wait_le (byteF zs len c).2.h
  obtain ⟨ha | ha, hb⟩ := byteF_at zs len c hi
  · rw [byteF_more _ _ _ ha.2] at hx
    have hg : grows c.h = false := by unfold grows; rcases hx with hx | hx <;> simp [hx]
    have := wait_step c.h hg 1 (by omega) (by omega)
    unfold ahead
    rw [hb] at hw ⊢
    simp only [lcgN] at this
    omega
  · unfold ahead; omega
theorem ahead_three (zs : List Int) (len : Nat) (c : Cu) (hi : c.i ≤ len) (n n2 n3 : Int) (hn : n = 5) (h2 : 0 < n2 ∧ n2 ≤ 256) (h3 : 0 < n3 ∧ n3 ≤ 256) (hx : (belowF zs len c n).1 = 1 ∨ (belowF zs len c n).1 = 2) :
    ahead len (belowF zs len (belowF zs len (belowF zs len c n).2 n2).2 n3).2 < ahead len c := by
  subst hn
  rw [below_small _ _ _ n3 h3.1 h3.2, below_small _ _ _ n2 h2.1 h2.2]
  rw [below_small _ _ _ _ (by omega) (by omega)] at hx ⊢
  dsimp only at hx ⊢
  obtain ⟨ha | ha, hb⟩ := byteF_at zs len c hi
  · rw [byteF_more _ _ _ ha.2] at hx
    have hg : grows c.h = false := by unfold grows; rcases hx with hx | hx <;> simp [hx]
    have := wait_step c.h hg 3 (by omega) (by omega)
    have i1 : (byteF zs len c).2.i = len := by omega
    obtain ⟨hc, hd⟩ := byteF_at zs len (byteF zs len c).2 (by omega)
    have i2 : (byteF zs len (byteF zs len c).2).2.i = len := by omega
    obtain ⟨he, hf⟩ := byteF_at zs len (byteF zs len (byteF zs len c).2).2 (by omega)
    unfold ahead
    rw [hf, hd, hb]
    simp only [lcgN] at this
    omega
  · obtain ⟨hc, -⟩ := byteF_at zs len (byteF zs len c).2 (by omega)
    obtain ⟨he, -⟩ := byteF_at zs len (byteF zs len (byteF zs len c).2).2 (by omega)
    have hw := wait_le (byteF zs len (byteF zs len (byteF zs len c).2).2).2.h
    unfold ahead; omega
end Go.Proofs.Ytnddcjmjolembaa
