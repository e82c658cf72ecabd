/- Texts by or (exclusively): the numbers. -/
import Derived.Test.YtbkeggklfaepnaaBase
import Derived.Lib.Hide
import Derived.Test.YtbkeggklfaepnaaCrcM
namespace Go.Proofs.Ytbkeggklfaepnaa
open Go.ChangeShapes Go.WideShapes Go.ChangeAt Go.RowKit
set_option linter.unusedVariables false

theorem bv_nat (k n : Nat) : BitVec.ofInt k (n : Int) = BitVec.ofNat k n := by
  apply BitVec.eq_of_toNat_eq
  rw [BitVec.toNat_ofInt, BitVec.toNat_ofNat]
  exact Int.toNat_natCast _
theorem u8_xor (a b : UInt8) : bits .xor .u8 (a.toNat : Int) (b.toNat : Int) = ((a ^^^ b).toNat : Int) := by
  have ha := a.toNat_lt; have hb := b.toNat_lt
  have hx := Nat.xor_lt_two_pow (n := 8) ha hb
  show IntKind.u8.wrap ((BitVec.ofInt 8 (a.toNat : Int) ^^^ BitVec.ofInt 8 (b.toNat : Int)).toNat : Nat) = _
  rw [bv_nat, bv_nat, BitVec.toNat_xor, BitVec.toNat_ofNat, BitVec.toNat_ofNat, Nat.mod_eq_of_lt (by omega), Nat.mod_eq_of_lt (by omega), UInt8.toNat_xor]
  generalize a.toNat ^^^ b.toNat = z at *
  rw [IntKind.wrap_u8]; omega
def xorS (a b : ByteArray) : ByteArray := if a.size = b.size then ⟨(xorL a.data.toList b.data.toList).toArray⟩ else ByteArray.empty
theorem xorL_len (a b : ByteArray) (h : a.size = b.size) : (xorL a.data.toList b.data.toList).length = a.size := by simp [xorL, h]
theorem xorL_take (a b : ByteArray) (h : a.size = b.size) (k : Nat) (hk : k < a.size) : (xorL a.data.toList b.data.toList).take (k + 1) = (xorL a.data.toList b.data.toList).take k ++ [a[k] ^^^ b[k]'(by omega)] := by
  rw [List.take_succ_eq_append_getElem (by rw [xorL_len a b h]; exact hk)]
  congr 2
  simp [xorL]
  rfl
end Go.Proofs.Ytbkeggklfaepnaa
