/- The laws' marks: a number's text. -/
import Derived.Test.YtbkeggklfaepnaaBase
import Derived.Lib.Hide
import Derived.Lib.Bytealg
import Derived.Deep.QuietTactic
import Derived.BigQuiet
namespace Go.Proofs.Ytbkeggklfaepnaa
open Go.ChangeShapes Go.WideShapes Go.ChangeAt Go.RowKit
set_option linter.unusedVariables false

/-- the digits of a mark, by as many rounds as are left -/
def mloop : Nat → Nat → List UInt8 → List UInt8
  | 0, _, o => o
  | f + 1, k, o => if k = 0 then o else mloop f (k / 10) (UInt8.ofNat (48 + k % 10) :: o)
def mtext (k : Nat) : ByteArray := ⟨(109 :: mloop k k []).toArray⟩
theorem mloop_len : ∀ (f k : Nat) (o : List UInt8), (mloop f k o).length ≤ f + o.length
  | 0, _, o => by simp [mloop]
  | f + 1, k, o => by
    unfold mloop; split
    · omega
    · have := mloop_len f (k / 10) (UInt8.ofNat (48 + k % 10) :: o); rw [List.length_cons] at this; omega

theorem str_add (a : List UInt8) (b : List UInt8) : (⟨a.toArray⟩ : ByteArray) ++ (⟨b.toArray⟩ : ByteArray) = ⟨(a ++ b).toArray⟩ := by
  apply ByteArray.ext; simp

theorem strOne (n : Nat) (l : List UInt8) : strOfNums [48 + (n : Int) % 10] ++ (⟨l.toArray⟩ : ByteArray) = ⟨(UInt8.ofNat (48 + n % 10) :: l).toArray⟩ := by
  have e : (48 + (n : Int) % 10).toNat = 48 + n % 10 := by omega
  have : strOfNums [48 + (n : Int) % 10] = ⟨[UInt8.ofNat (48 + n % 10)].toArray⟩ := by unfold strOfNums; rw [List.map_cons, e]; rfl
  rw [this, str_add]; rfl
theorem mloop_step {f n : Nat} (l : List UInt8) (hf : 1 ≤ f) (h0 : n ≠ 0) : mloop (f - 1) (n / 10) (UInt8.ofNat (48 + n % 10) :: l) = mloop f n l := by
  obtain ⟨g, rfl⟩ : ∃ g, f = g + 1 := ⟨f - 1, by omega⟩
  simp only [Nat.add_sub_cancel]
  conv => rhs; unfold mloop
  rw [if_neg h0]
set_option maxHeartbeats 400000 in
theorem mtext_any (k : Nat) (w : World) (h1 : 1 ≤ k) (h2 : k ≤ 4000000) :
    Calls Try.prog 45 #[.int .i64 k] w fun e w' => e = .returned (.string (mtext k)) ∧ Below w.heap.size w w' := by
  go_enter Try.func45, Try.ntmps45
  go_wp2
  go_loopw [0, 3] (fun q o wr => ∃ (f n : Nat) (l : List UInt8), q = .int .i64 n ∧ o = .string ⟨l.toArray⟩ ∧ n ≤ f ∧ n ≤ k ∧ l.length + f ≤ 4000000 ∧ mloop f n l = mloop k k [] ∧ Below w.heap.size w wr)
    (fun q _ _ => (intOf q).toNat)
  case atStart => exact ⟨k, k, [], rfl, rfl, Nat.le_refl _, Nat.le_refl _, by simpa using h2, rfl, Below.refl _ _⟩
  case round =>
    obtain ⟨f, n, l, rfl, rfl, hnf, hnk, hll, hm, hnx⟩ := hrel
    have HM := Lib.hid hm; clear hm
    by_cases h0 : n = 0
    · subst h0
      have hl : mloop k k [] = l := by rw [← HM.out]; cases f <;> simp [mloop]
      have HL := Lib.hid hl; clear hl
      go_wp2
      go_ret
      exact ⟨by rw [show mtext k = ⟨(109 :: mloop k k []).toArray⟩ from rfl, HL.out]; rfl, hnx⟩
    · have hf : 1 ≤ f := by omega
      have hcv := fun (X : Int) => run_convert_bytes_arg (P := Try.prog) (wr.alloc (.cells #[.int .u8 X] 5)) 22 5 Try.underlying22 Try.underlying5 wr.heap.size 0 1 1 [X] rfl (fun i hi => by
        obtain rfl : i = 0 := by omega
        simp) 9 Try.underlying9
      have hs1 : ∀ X, (strOfNums [X]).size = 1 := fun X => rfl
      have hs2 : (⟨l.toArray⟩ : ByteArray).size = l.length := by simp [ByteArray.size]
      go_wp2
      exact ⟨⟨f - 1, n / 10, UInt8.ofNat (48 + n % 10) :: l, by go_num, by rw [strOne], by omega, by omega, by rw [List.length_cons]; omega, by rw [mloop_step l hf h0]; exact HM.out, hnx.alloc hnx.size _⟩, by simp [intOf]; omega⟩

end Go.Proofs.Ytbkeggklfaepnaa
