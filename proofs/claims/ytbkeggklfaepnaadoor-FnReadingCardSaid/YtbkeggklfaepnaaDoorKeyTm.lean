/- The text of a list of keys, as a list of bytes (no program). -/
import Derived.Test.YtbkeggklfaepnaaDoorKeyM
import Derived.Lib.ItoaLen
import Derived.Lib.Join
namespace Go.Proofs.YtbkeggklfaepnaaDoor

def ktL (k : K2) : List UInt8 := Lib.itoa k.1 ++ [46] ++ Lib.itoa k.2
def keyTextL (ks : List K2) : List UInt8 := Lib.join (ks.map ktL) [44]
def tB (l : List UInt8) : ByteArray := ⟨l.toArray⟩
theorem tB_size (l : List UInt8) : (tB l).size = l.length := by simp [tB, ByteArray.size]
theorem tB_append (a b : List UInt8) : tB a ++ tB b = tB (a ++ b) := by
  apply ByteArray.ext
  simp [tB]
theorem join_tail_snoc (x sep : List UInt8) (l : List (List UInt8)) : Lib.joinTail sep (l ++ [x]) = Lib.joinTail sep l ++ sep ++ x := by
  simp [Lib.joinTail]
theorem join_snoc (l : List (List UInt8)) (x sep : List UInt8) : Lib.join (l ++ [x]) sep = if l = [] then x else Lib.join l sep ++ sep ++ x := by
  cases l with
  | nil => simp [Lib.join_one]
  | cons a r =>
    rw [if_neg (by simp), List.cons_append, Lib.join_cons, Lib.join_cons, join_tail_snoc]
    simp
theorem keyText_snoc (ks : List K2) (k : K2) : keyTextL (ks ++ [k]) = if ks = [] then ktL k else keyTextL ks ++ [44] ++ ktL k := by
  unfold keyTextL
  rw [List.map_append, List.map_cons, List.map_nil, join_snoc]
  cases ks <;> simp
/-- the numbers of a key lie in int's range -/
def kIn (k : K2) : Prop := (-9223372036854775808 ≤ k.1 ∧ k.1 ≤ 9223372036854775807) ∧ (-9223372036854775808 ≤ k.2 ∧ k.2 ≤ 9223372036854775807)
theorem ktL_len {k : K2} (h : kIn k) : (ktL k).length ≤ 43 := by
  have h1 := Lib.itoa_length_le k.1 h.1.1 h.1.2
  have h2 := Lib.itoa_length_le k.2 h.2.1 h.2.2
  unfold ktL
  simp only [List.length_append, List.length_cons, List.length_nil]
  omega
theorem keyText_len : ∀ (n : Nat) (ks : List K2), ks.length = n → (∀ k ∈ ks, kIn k) → (keyTextL ks).length ≤ 44 * ks.length
  | 0, ks, h, _ => by
    obtain rfl : ks = [] := List.length_eq_zero_iff.1 h
    simp [keyTextL, Lib.join_nil]
  | n + 1, ks, h, hk => by
    obtain ⟨r, k, rfl⟩ : ∃ r k, ks = r ++ [k] := by
      have hne : ks ≠ [] := by intro e; subst e; simp at h
      exact ⟨ks.dropLast, ks.getLast hne, (List.dropLast_concat_getLast hne).symm⟩
    have h1 := keyText_len n r (by simpa using h) (fun x hx => hk x (by simp [hx]))
    have h2 := ktL_len (hk k (by simp))
    rw [keyText_snoc]
    split
    · simp only [List.length_append, List.length_cons, List.length_nil]; omega
    · simp only [List.length_append, List.length_cons, List.length_nil]; omega
end Go.Proofs.YtbkeggklfaepnaaDoor
