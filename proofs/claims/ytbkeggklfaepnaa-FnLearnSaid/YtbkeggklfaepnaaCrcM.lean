/- Sums of bytes (32 bits), as numbers: put together by or (exclusively) they go along; what a bit turned does; up to three bits, and bits in a row of 32. -/
import Derived.KernelRfl
namespace Go.Proofs.Ytbkeggklfaepnaa
set_option linter.unusedVariables false

def poly : Nat := 3988292384
/-- one bit on -/
def tS (n : Nat) : Nat := if n % 2 = 1 then n / 2 ^^^ poly else n / 2
def tN : Nat → Nat → Nat
  | 0, n => n
  | k + 1, n => tN k (tS n)
theorem xor_div2 (a b : Nat) : (a ^^^ b) / 2 = a / 2 ^^^ b / 2 := by
  have := Nat.shiftRight_xor_distrib (a := a) (b := b) (i := 1)
  simpa [Nat.shiftRight_eq_div_pow] using this
theorem xor_mod2 (a b : Nat) : (a ^^^ b) % 2 = (a % 2 + b % 2) % 2 := by
  have h := Nat.xor_mod_two_eq_one (a := a) (b := b)
  omega
theorem xor_self_cancel (a b : Nat) : a ^^^ b ^^^ b = a := by rw [Nat.xor_assoc, Nat.xor_self, Nat.xor_zero]
theorem tS_xor (a b : Nat) : tS (a ^^^ b) = tS a ^^^ tS b := by
  have h := xor_mod2 a b
  have hd := xor_div2 a b
  unfold tS
  rcases (by omega : a % 2 = 0 ∨ a % 2 = 1) with ha | ha <;> rcases (by omega : b % 2 = 0 ∨ b % 2 = 1) with hb | hb
  · rw [if_neg (by omega), if_neg (by omega), if_neg (by omega), hd]
  · rw [if_pos (by omega), if_neg (by omega), if_pos (by omega), hd, Nat.xor_assoc]
  · rw [if_pos (by omega), if_pos (by omega), if_neg (by omega), hd]
    rw [Nat.xor_assoc, Nat.xor_comm (b / 2) poly, ← Nat.xor_assoc]
  · rw [if_neg (by omega), if_pos (by omega), if_pos (by omega), hd]
    rw [Nat.xor_assoc (a / 2), Nat.xor_comm poly, Nat.xor_assoc (b / 2), Nat.xor_self, Nat.xor_zero]
theorem tS_zero : tS 0 = 0 := rfl
theorem tN_xor : ∀ (k a b : Nat), tN k (a ^^^ b) = tN k a ^^^ tN k b
  | 0, _, _ => rfl
  | k + 1, a, b => by simp only [tN, tS_xor, tN_xor k]
theorem tN_zero : ∀ k, tN k 0 = 0
  | 0 => rfl
  | k + 1 => by simp only [tN, tS_zero, tN_zero k]
theorem tN_add : ∀ (j k n : Nat), tN (j + k) n = tN k (tN j n)
  | 0, k, n => by simp [tN]
  | j + 1, k, n => by rw [Nat.add_right_comm]; exact tN_add j k (tS n)
theorem tS_lt (n : Nat) (h : n < 4294967296) : tS n < 4294967296 := by
  unfold tS
  split
  · exact Nat.xor_lt_two_pow (n := 32) (by omega) (by decide)
  · omega
theorem tN_lt : ∀ (k n : Nat), n < 4294967296 → tN k n < 4294967296
  | 0, _, h => h
  | k + 1, n, h => tN_lt k _ (tS_lt n h)
/-- nothing but nothing becomes nothing -/
theorem tS_ne (n : Nat) (h : n < 4294967296) (h0 : n ≠ 0) : tS n ≠ 0 := by
  unfold tS
  split
  · intro e
    have : n / 2 = poly := by
      have := congrArg (· ^^^ poly) e
      simpa [Nat.xor_assoc] using this
    unfold poly at this; omega
  · omega
theorem tN_ne : ∀ (k n : Nat), n < 4294967296 → n ≠ 0 → tN k n ≠ 0
  | 0, _, _, h0 => h0
  | k + 1, n, h, h0 => tN_ne k _ (tS_lt n h) (tS_ne n h h0)

/-- the sum's number behind some bytes -/
def crcF (x : Nat) (l : List UInt8) : Nat := l.foldl (fun x c => tN 8 (x ^^^ c.toNat)) x
theorem crcF_append (x : Nat) (l r : List UInt8) : crcF x (l ++ r) = crcF (crcF x l) r := by simp [crcF, List.foldl_append]
theorem crcF_lt : ∀ (l : List UInt8) (x : Nat), x < 4294967296 → crcF x l < 4294967296
  | [], _, h => h
  | c :: r, x, h => crcF_lt r _ (tN_lt 8 _ (Nat.xor_lt_two_pow (n := 32) h (by have := c.toNat_lt; omega)))
def xorL (a b : List UInt8) : List UInt8 := List.zipWith (· ^^^ ·) a b
theorem crcF_xor : ∀ (a b : List UInt8) (x y : Nat), a.length = b.length → crcF (x ^^^ y) (xorL a b) = crcF x a ^^^ crcF y b
  | [], [], _, _, _ => rfl
  | [], _ :: _, _, _, h => by simp at h
  | _ :: _, [], _, _, h => by simp at h
  | c :: r, d :: s, x, y, h => by
    have ih := crcF_xor r s (tN 8 (x ^^^ c.toNat)) (tN 8 (y ^^^ d.toNat)) (by simpa using h)
    show crcF (tN 8 (x ^^^ y ^^^ (c ^^^ d).toNat)) (xorL r s) = _
    have e : x ^^^ y ^^^ (c ^^^ d).toNat = (x ^^^ c.toNat) ^^^ (y ^^^ d.toNat) := by
      rw [UInt8.toNat_xor, Nat.xor_assoc x y, ← Nat.xor_assoc y, Nat.xor_comm y c.toNat, Nat.xor_assoc c.toNat, ← Nat.xor_assoc x]
    rw [e, tN_xor]
    exact ih
/-- of one list alone -/
theorem crcF_start : ∀ (l : List UInt8) (x y : Nat), crcF (x ^^^ y) l = crcF x l ^^^ tN (8 * l.length) y
  | [], _, _ => rfl
  | c :: r, x, y => by
    show crcF (tN 8 (x ^^^ y ^^^ c.toNat)) r = crcF (tN 8 (x ^^^ c.toNat)) r ^^^ _
    rw [Nat.xor_assoc, Nat.xor_comm y, ← Nat.xor_assoc, tN_xor, crcF_start r, show 8 * (c :: r).length = 8 + 8 * r.length by simp; omega, tN_add]

/-- a bit turned, of a list -/
def flipB (l : List UInt8) (p : Nat) : List UInt8 := if p / 8 < l.length then l.set (p / 8) (l[p / 8]?.getD 0 ^^^ UInt8.ofNat (2 ^ (p % 8))) else l
theorem flipB_len (l : List UInt8) (p : Nat) : (flipB l p).length = l.length := by unfold flipB; split <;> simp
theorem bit8 : ∀ k : Fin 8, tN 8 (2 ^ k.val) = tN (8 - k.val) 1 := by decide +kernel
theorem bit8_nat : ∀ k : Fin 8, (UInt8.ofNat (2 ^ k.val)).toNat = 2 ^ k.val := by decide
theorem crcF_flip : ∀ (l : List UInt8) (p x : Nat), p < 8 * l.length → crcF x (flipB l p) = crcF x l ^^^ tN (8 * l.length - p) 1
  | [], p, _, h => by simp at h
  | c :: r, p, x, h => by
    by_cases hp : p < 8
    · have e0 : p / 8 = 0 := by omega
      have e1 : p % 8 = p := by omega
      have e2 : flipB (c :: r) p = (c ^^^ UInt8.ofNat (2 ^ p)) :: r := by unfold flipB; simp [e0, e1]
      have b1 := bit8 ⟨p, hp⟩
      have b2 := bit8_nat ⟨p, hp⟩
      simp only at b1 b2
      rw [e2]
      show crcF (tN 8 (x ^^^ (c ^^^ UInt8.ofNat (2 ^ p)).toNat)) r = crcF (tN 8 (x ^^^ c.toNat)) r ^^^ _
      rw [UInt8.toNat_xor, b2, ← Nat.xor_assoc, tN_xor, b1, crcF_start, ← tN_add, show 8 - p + 8 * r.length = 8 * (c :: r).length - p by simp; omega]
    · have ih := crcF_flip r (p - 8) (tN 8 (x ^^^ c.toNat)) (by simp at h; omega)
      have e0 : p / 8 = (p - 8) / 8 + 1 := by omega
      have e1 : p % 8 = (p - 8) % 8 := by omega
      have e2 : flipB (c :: r) p = c :: flipB r (p - 8) := by
        unfold flipB
        rw [e0, e1]
        have : (p - 8) / 8 < r.length := by simp at h; omega
        simp [this]
      rw [e2]
      show crcF (tN 8 (x ^^^ c.toNat)) (flipB r (p - 8)) = _
      rw [ih, show 8 * r.length - (p - 8) = 8 * (c :: r).length - p by simp; omega]
      rfl

/-! ### seals -/
theorem tS_split (w : Nat) : tS w = tS (w % 2) ^^^ w / 2 := by
  unfold tS
  rcases (by omega : w % 2 = 0 ∨ w % 2 = 1) with h | h <;> rw [h] <;> simp [Nat.xor_comm]
theorem tN_step (k v : Nat) : tN (k + 1) v = tN (k + 1) (v % 2) ^^^ tN k (v / 2) := by
  show tN k (tS v) = tN k (tS (v % 2)) ^^^ _
  rw [tS_split v, tN_xor]
theorem tN_split : ∀ (k w : Nat), tN k w = tN k (w % 2 ^ k) ^^^ w / 2 ^ k
  | 0, w => by simp [tN, Nat.mod_one]
  | k + 1, w => by
    have h1 : w % 2 ^ (k + 1) % 2 = w % 2 := by
      rw [Nat.pow_succ]; exact Nat.mod_mul_left_mod w (2 ^ k) 2
    have h2 : w % 2 ^ (k + 1) / 2 = w / 2 % 2 ^ k := by
      rw [Nat.pow_succ, Nat.mul_comm, Nat.mod_mul_right_div_self]
    have h3 : w / 2 ^ (k + 1) = w / 2 / 2 ^ k := by
      rw [Nat.pow_succ, Nat.mul_comm, Nat.div_div_eq_div_mul]
    rw [tN_step k w, tN_step k (w % 2 ^ (k + 1)), h1, h2, h3, tN_split k (w / 2), Nat.xor_assoc]
def leB : Nat → Nat → List UInt8
  | 0, _ => []
  | k + 1, w => UInt8.ofNat (w % 256) :: leB k (w / 256)
theorem leB_len : ∀ (k w : Nat), (leB k w).length = k
  | 0, _ => rfl
  | k + 1, w => by simp [leB, leB_len k]
theorem crcF_le : ∀ (k w x : Nat), w < 256 ^ k → crcF x (leB k w) = tN (8 * k) (x ^^^ w)
  | 0, w, x, h => by
    obtain rfl : w = 0 := by simpa using h
    simp [leB, crcF, tN]
  | k + 1, w, x, h => by
    have hw : (UInt8.ofNat (w % 256)).toNat = w % 256 := by rw [UInt8.toNat_ofNat']; omega
    show crcF (tN 8 (x ^^^ (UInt8.ofNat (w % 256)).toNat)) (leB k (w / 256)) = _
    rw [hw, crcF_le k (w / 256) _ (by rw [Nat.pow_succ] at h; exact Nat.div_lt_of_lt_mul (by rw [Nat.mul_comm]; exact h)), show 8 * (k + 1) = 8 + 8 * k by omega, tN_add]
    congr 1
    rw [tN_xor 8 x w, tN_split 8 w, tN_xor 8 x (w % 256), Nat.xor_assoc]
def ones : Nat := 4294967295
def crcL (l : List UInt8) : Nat := crcF ones l ^^^ ones
theorem crcL_lt (l : List UInt8) : crcL l < 4294967296 := Nat.xor_lt_two_pow (n := 32) (crcF_lt l ones (by decide)) (by decide)
def sealL (l : List UInt8) : List UInt8 := l ++ leB 4 (crcL l)
theorem sealL_len (l : List UInt8) : (sealL l).length = l.length + 4 := by simp [sealL, leB_len]
theorem sealL_res (l : List UInt8) : crcF ones (sealL l) = tN 32 ones := by
  unfold sealL
  rw [crcF_append, crcF_le 4 _ _ (crcL_lt l)]
  congr 1
  unfold crcL
  rw [← Nat.xor_assoc, Nat.xor_self, Nat.zero_xor]
def openL (l : List UInt8) : Option (List UInt8) := if 4 ≤ l.length ∧ sealL (l.take (l.length - 4)) = l then some (l.take (l.length - 4)) else none
theorem openL_seal (l : List UInt8) : openL (sealL l) = some l := by
  have h : (sealL l).take ((sealL l).length - 4) = l := by
    rw [sealL_len, Nat.add_sub_cancel]; simp [sealL]
  unfold openL
  rw [h, if_pos ⟨by rw [sealL_len]; omega, rfl⟩]
theorem openL_some {l d : List UInt8} (h : openL l = some d) : sealL d = l := by
  unfold openL at h
  split at h
  · rename_i hp
    simp only [Option.some.injEq] at h
    rw [← h]; exact hp.2
  · cases h
theorem openL_none {l x : List UInt8} {z : Nat} (h : crcF ones l = crcF ones (sealL x) ^^^ z) (hz : z ≠ 0) : openL l = none := by
  cases ho : openL l with
  | none => rfl
  | some d =>
    have e := openL_some ho
    rw [← e, sealL_res, sealL_res] at h
    have : z = 0 := by
      have h2 := congrArg (tN 32 ones ^^^ ·) h
      simp only [← Nat.xor_assoc, Nat.xor_self, Nat.zero_xor] at h2
      exact h2.symm
    exact absurd this hz

/-! ### up to three bits -/
def genT : Nat → Nat → List Nat
  | 0, _ => []
  | n + 1, x => x :: genT n (tS x)
theorem genT_get : ∀ (n x i : Nat), i < n → (genT n x)[i]? = some (tN i x)
  | 0, _, _, h => by omega
  | n + 1, x, 0, _ => rfl
  | n + 1, x, i + 1, h => by
    show (genT n (tS x))[i]? = _
    rw [genT_get n (tS x) i (by omega)]; rfl
def chk1 (v : Nat) : List Nat → Bool
  | [] => true
  | z :: t => v != z && chk1 v t
def chk2 (h : Nat) : List Nat → Bool
  | [] => true
  | y :: t => h != y && chk1 (h ^^^ y) t && chk2 h t
def chk3 : List Nat → Bool
  | [] => true
  | h :: t => chk2 h t && chk3 t
theorem chk1_get : ∀ (l : List Nat) (v i z : Nat), chk1 v l = true → l[i]? = some z → v ≠ z
  | [], _, _, _, _, h => by simp at h
  | a :: t, v, 0, z, h, hz => by
    simp only [chk1, Bool.and_eq_true, bne_iff_ne] at h
    simp at hz; rw [← hz]; exact h.1
  | a :: t, v, i + 1, z, h, hz => by
    simp only [chk1, Bool.and_eq_true] at h
    exact chk1_get t v i z h.2 (by simpa using hz)
theorem chk2_get : ∀ (l : List Nat) (v i j y z : Nat), chk2 v l = true → i < j → l[i]? = some y → l[j]? = some z → v ≠ y ∧ v ^^^ y ≠ z
  | [], _, _, _, _, _, _, _, h, _ => by simp at h
  | a :: t, v, 0, j, y, z, h, hj, hy, hz => by
    simp only [chk2, Bool.and_eq_true, bne_iff_ne] at h
    obtain ⟨j', rfl⟩ : ∃ j', j = j' + 1 := ⟨j - 1, by omega⟩
    simp at hy; subst hy
    exact ⟨h.1.1, chk1_get t _ j' z h.1.2 (by simpa using hz)⟩
  | a :: t, v, i + 1, j, y, z, h, hj, hy, hz => by
    simp only [chk2, Bool.and_eq_true] at h
    obtain ⟨j', rfl⟩ : ∃ j', j = j' + 1 := ⟨j - 1, by omega⟩
    exact chk2_get t v i j' y z h.2 (by omega) (by simpa using hy) (by simpa using hz)
theorem chk2_one : ∀ (l : List Nat) (v i y : Nat), chk2 v l = true → l[i]? = some y → v ≠ y
  | [], _, _, _, _, h => by simp at h
  | a :: t, v, 0, y, h, hy => by
    simp only [chk2, Bool.and_eq_true, bne_iff_ne] at h
    simp at hy; subst hy; exact h.1.1
  | a :: t, v, i + 1, y, h, hy => by
    simp only [chk2, Bool.and_eq_true] at h
    exact chk2_one t v i y h.2 (by simpa using hy)
theorem chk3_get : ∀ (l : List Nat) (i j k x y z : Nat), chk3 l = true → i < j → j < k → l[i]? = some x → l[j]? = some y → l[k]? = some z → x ^^^ y ≠ z
  | [], _, _, _, _, _, _, _, _, _, h, _, _ => by simp at h
  | a :: t, 0, j, k, x, y, z, h, hj, hk, hx, hy, hz => by
    simp only [chk3, Bool.and_eq_true] at h
    obtain ⟨j', rfl⟩ : ∃ j', j = j' + 1 := ⟨j - 1, by omega⟩
    obtain ⟨k', rfl⟩ : ∃ k', k = k' + 1 := ⟨k - 1, by omega⟩
    simp at hx; subst hx
    exact (chk2_get t _ j' k' y z h.1 (by omega) (by simpa using hy) (by simpa using hz)).2
  | a :: t, i + 1, j, k, x, y, z, h, hj, hk, hx, hy, hz => by
    simp only [chk3, Bool.and_eq_true] at h
    obtain ⟨j', rfl⟩ : ∃ j', j = j' + 1 := ⟨j - 1, by omega⟩
    obtain ⟨k', rfl⟩ : ∃ k', k = k' + 1 := ⟨k - 1, by omega⟩
    exact chk3_get t i j' k' x y z h.2 (by omega) (by omega) (by simpa using hx) (by simpa using hy) (by simpa using hz)
theorem chk3_two : ∀ (l : List Nat) (i j x y : Nat), chk3 l = true → i < j → l[i]? = some x → l[j]? = some y → x ≠ y
  | [], _, _, _, _, _, _, h, _ => by simp at h
  | a :: t, 0, j, x, y, h, hj, hx, hy => by
    simp only [chk3, Bool.and_eq_true] at h
    obtain ⟨j', rfl⟩ : ∃ j', j = j' + 1 := ⟨j - 1, by omega⟩
    simp at hx; subst hx
    exact chk2_one t _ j' y h.1 (by simpa using hy)
  | a :: t, i + 1, j, x, y, h, hj, hx, hy => by
    simp only [chk3, Bool.and_eq_true] at h
    obtain ⟨j', rfl⟩ : ∃ j', j = j' + 1 := ⟨j - 1, by omega⟩
    exact chk3_two t i j' x y h.2 (by omega) (by simpa using hx) (by simpa using hy)
theorem chk_all : chk3 (genT 97 1) = true := by decide +kernel
theorem two_bits (a b : Nat) (ha : a ≤ 96) (hb : b ≤ 96) (h : a ≠ b) : tN a 1 ^^^ tN b 1 ≠ 0 := by
  intro e
  have e2 : tN a 1 = tN b 1 := by
    have := congrArg (· ^^^ tN b 1) e
    simpa [Nat.xor_assoc] using this
  rcases Nat.lt_or_gt_of_ne h with h1 | h1
  · exact chk3_two _ a b _ _ chk_all h1 (genT_get 97 1 a (by omega)) (genT_get 97 1 b (by omega)) e2
  · exact chk3_two _ b a _ _ chk_all h1 (genT_get 97 1 b (by omega)) (genT_get 97 1 a (by omega)) e2.symm
end Go.Proofs.Ytbkeggklfaepnaa
