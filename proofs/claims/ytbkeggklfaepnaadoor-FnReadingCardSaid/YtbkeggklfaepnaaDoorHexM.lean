/- Digits of bytes, and back. -/
import Derived.Test.YtbkeggklfaepnaaDoorRead
namespace Go.Proofs.YtbkeggklfaepnaaDoor
set_option linter.unusedVariables false

def bytesOf (xs : List Int) : List UInt8 := xs.map fun n => UInt8.ofNat n.toNat
theorem strOf_bytes (xs : List Int) : strOfNums xs = ⟨(bytesOf xs).toArray⟩ := rfl
theorem hdig_hi : ∀ c : Fin 256, hexVal (UInt8.ofNat (hdig (c.val / 16)).toNat).toNat = ((c.val / 16 : Nat) : Int) := by decide +kernel
theorem hdig_lo : ∀ c : Fin 256, hexVal (UInt8.ofNat (hdig (c.val % 16)).toNat).toNat = ((c.val % 16 : Nat) : Int) := by decide +kernel
theorem hex_read : ∀ l : List UInt8, readL (bytesOf (hexL l)) = some (l.map fun c => (c.toNat : Int))
  | [] => rfl
  | c :: r => by
    have ih := hex_read r
    have h1 := hdig_hi ⟨c.toNat, c.toNat_lt⟩
    have h2 := hdig_lo ⟨c.toNat, c.toNat_lt⟩
    simp only at h1 h2
    have e : bytesOf (hexL (c :: r)) = UInt8.ofNat (hdig (c.toNat / 16)).toNat :: UInt8.ofNat (hdig (c.toNat % 16)).toNat :: bytesOf (hexL r) := rfl
    rw [e]
    simp only [readL, h1, h2, ih]
    rw [if_neg (by omega)]
    simp only [Option.map_some, List.map_cons]
    congr 2
    omega
theorem bytes_back (l : List UInt8) : bytesOf (l.map fun c => (c.toNat : Int)) = l := by
  unfold bytesOf
  rw [List.map_map]
  conv => rhs; rw [← List.map_id l]
  apply List.map_congr_left
  intro c _
  simp
theorem hex_dig : ∀ c : Fin 256, 0 ≤ hexVal c.val → UInt8.ofNat (hdig (hexVal c.val).toNat).toNat = UInt8.ofNat c.val := by decide +kernel
theorem read_hex : ∀ (n : Nat) (l : List UInt8) (xs : List Int), l.length ≤ n → readL l = some xs → bytesOf (hexL (bytesOf xs)) = l
  | _, [], xs, _, h => by simp only [readL, Option.some.injEq] at h; subst h; rfl
  | _, [a], xs, _, h => by simp [readL] at h
  | 0, a :: b :: r, xs, hn, h => by simp at hn
  | n + 1, a :: b :: r, xs, hn, h => by
    simp only [readL] at h
    split at h
    · cases h
    · rename_i hp
      obtain ⟨ys, hy, rfl⟩ := Option.map_eq_some_iff.1 h
      have ih := read_hex n r ys (by simp at hn; omega) hy
      have ha := hexVal_bd a.toNat
      have hb := hexVal_bd b.toNat
      have ea := hex_dig ⟨a.toNat, a.toNat_lt⟩ (by simp only; omega)
      have eb := hex_dig ⟨b.toNat, b.toNat_lt⟩ (by simp only; omega)
      simp only [UInt8.ofNat_toNat] at ea eb
      have ev : (UInt8.ofNat (16 * hexVal a.toNat + hexVal b.toNat).toNat).toNat = (16 * hexVal a.toNat + hexVal b.toNat).toNat := by
        rw [UInt8.toNat_ofNat']; omega
      have e : bytesOf (hexL (bytesOf ((16 * hexVal a.toNat + hexVal b.toNat) :: ys))) =
          UInt8.ofNat (hdig ((UInt8.ofNat (16 * hexVal a.toNat + hexVal b.toNat).toNat).toNat / 16)).toNat :: UInt8.ofNat (hdig ((UInt8.ofNat (16 * hexVal a.toNat + hexVal b.toNat).toNat).toNat % 16)).toNat :: bytesOf (hexL (bytesOf ys)) := rfl
      rw [e, ev, ih, show (16 * hexVal a.toNat + hexVal b.toNat).toNat / 16 = (hexVal a.toNat).toNat by omega, show (16 * hexVal a.toNat + hexVal b.toNat).toNat % 16 = (hexVal b.toNat).toNat by omega, ea, eb]
theorem data_of (l : List UInt8) : (⟨l.toArray⟩ : ByteArray).data.toList = l := by simp
theorem of_data (s : ByteArray) : (⟨s.data.toList.toArray⟩ : ByteArray) = s := by apply ByteArray.ext; simp

end Go.Proofs.YtbkeggklfaepnaaDoor
