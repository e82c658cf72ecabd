/- The model's chapter 2, walked: sums, seals, texts by or (exclusively), numbers in bytes. -/
import Derived.Test.YtnddcjmjolembaaBase
import Derived.Lib.Hide
import Derived.Deep.QuietTactic
import Derived.BigQuiet
import Derived.Test.YtnddcjmjolembaaCrcM
namespace Go.Proofs.Ytnddcjmjolembaa
open Go.ChangeShapes Go.WideShapes Go.ChangeAt Go.RowKit
set_option linter.unusedVariables false

theorem bv_nat (k n : Nat) : BitVec.ofInt k (n : Int) = BitVec.ofNat k n := by
  apply BitVec.eq_of_toNat_eq
  rw [BitVec.toNat_ofInt, BitVec.toNat_ofNat]
  exact Int.toNat_natCast _
theorem u32_xor (n m : Nat) (hn : n < 4294967296) (hm : m < 4294967296) : bits .xor .u32 (n : Int) (m : Int) = ((n ^^^ m : Nat) : Int) := by
  have hx := Nat.xor_lt_two_pow (n := 32) hn hm
  show IntKind.u32.wrap ((BitVec.ofInt 32 (n : Int) ^^^ BitVec.ofInt 32 (m : Int)).toNat : Nat) = _
  rw [bv_nat, bv_nat, BitVec.toNat_xor, BitVec.toNat_ofNat, BitVec.toNat_ofNat, Nat.mod_eq_of_lt (by omega), Nat.mod_eq_of_lt (by omega)]
  generalize n ^^^ m = z at *
  rw [IntKind.wrap_u32]; omega
theorem u32_and1 (n : Nat) (hn : n < 4294967296) : bits .and .u32 (n : Int) 1 = ((n % 2 : Nat) : Int) := by
  show IntKind.u32.wrap ((BitVec.ofInt 32 (n : Int) &&& BitVec.ofInt 32 1).toNat : Nat) = _
  have h1 : (BitVec.ofInt 32 1).toNat = 2 ^ 1 - 1 := by decide
  rw [bv_nat, BitVec.toNat_and, h1, BitVec.toNat_ofNat, Nat.mod_eq_of_lt (by omega), Nat.and_two_pow_sub_one_eq_mod]
  rw [IntKind.wrap_u32]; omega

set_option maxRecDepth 20000 in
theorem scrc_any (s : ByteArray) (w : World) (hs : s.size ≤ 2000000) : Calls Try.prog 32 #[.string s] w fun e w' => e = .returned (.int .i64 (crcL s.data.toList)) ∧ w' = w := by
  have hlen : s.data.toList.length = s.size := by simp
  have hlt := fun k => crcF_lt (s.data.toList.take k) ones (by decide)
  go_enter Try.func32, Try.ntmps32
  go_wp2
  go_loopw [3, 4] (fun x i wr => ∃ k : Nat, k ≤ s.size ∧ i = .int .i64 k ∧ x = .int .u32 (crcF ones (s.data.toList.take k) : Nat) ∧ wr = w) (fun _ i _ => s.size - (intOf i).toNat)
  case atStart => exact ⟨0, Nat.zero_le _, rfl, rfl, rfl⟩
  case round =>
    obtain ⟨k, hk, rfl, rfl, rfl⟩ := hrel
    have hkl := hlt k
    by_cases hlt1 : k < s.size
    · have z0 : (0 : Int) ≤ (k : Int) := by omega
      have z1 : (k : Int) < (s.size : Int) := by omega
      have hc := s[k].toNat_lt
      have hst : crcF ones (s.data.toList.take (k + 1)) = tN 8 (crcF ones (s.data.toList.take k) ^^^ s[k].toNat) := by
        rw [List.take_succ_eq_append_getElem (by simpa using hlt1), crcF_append]; rfl
      have HST := Lib.hid hst; clear hst
      generalize crcF ones (s.data.toList.take k) = v at *
      have hx := u32_xor v s[k].toNat hkl (by omega)
      have hvl : v ^^^ s[k].toNat < 4294967296 := Nat.xor_lt_two_pow (n := 32) hkl (by omega)
      generalize v ^^^ s[k].toNat = u at *
      go_wp2
      go_loopw [3, 5] (fun x q wr' => ∃ j : Nat, j ≤ 8 ∧ q = .int .i64 j ∧ x = .int .u32 (tN j u : Nat) ∧ wr' = wr) (fun _ q _ => 8 - (intOf q).toNat)
      case atStart => exact ⟨0, by omega, rfl, rfl, rfl⟩
      case round =>
        obtain ⟨j, hj, rfl, rfl, rfl⟩ := hrel
        have hy := tN_lt j u hvl
        by_cases hj8 : j < 8
        · have z2 : (j : Int) < 8 := by omega
          have hst2 : tN (j + 1) u = tS (tN j u) := by rw [tN_add j 1 u]; rfl
          have HST2 := Lib.hid hst2; clear hst2
          generalize tN j u = y at *
          by_cases hp : y % 2 = 1
          · have ea : bits .and .u32 (y : Int) 1 = 1 := by rw [u32_and1 y hy, hp]; rfl
            have hx2 : bits .xor .u32 ((y : Int) / 2) 3988292384 = ((tS y : Nat) : Int) := by
              have := u32_xor (y / 2) poly (by omega) (by decide)
              unfold tS
              rw [if_pos hp]
              exact this
            clear hx
            go_wp2
            go_roundw
            case rel => exact ⟨j + 1, by omega, by go_num, by rw [HST2.out], by first | rfl | trivial⟩
            case measure => simp [intOf]; omega
          · have ea : bits .and .u32 (y : Int) 1 = 0 := by rw [u32_and1 y hy, show y % 2 = 0 by omega]; rfl
            have hx2 : tS y = y / 2 := by unfold tS; rw [if_neg hp]
            have HX2 := Lib.hid hx2
            clear hx hx2
            go_wp2
            go_roundw
            case rel => exact ⟨j + 1, by omega, by go_num, by rw [HST2.out, HX2.out]; rfl, by first | rfl | trivial⟩
            case measure => simp [intOf]; omega
        · obtain rfl : j = 8 := by omega
          go_wp2
          go_roundw
          case rel => exact ⟨k + 1, by omega, by go_num, by rw [HST.out], by first | rfl | trivial⟩
          case measure => simp [intOf]; omega
    · obtain rfl : k = s.size := by omega
      rw [List.take_of_length_le (by omega)] at hkl ⊢
      have hx : wrap64 (bits .xor .u32 IntKind.u32.max (crcF ones s.data.toList : Nat)) = (crcL s.data.toList : Nat) := by
        have h := u32_xor ones (crcF ones s.data.toList) (by decide) hkl
        have hl := crcL_lt s.data.toList
        show wrap64 (bits .xor .u32 (ones : Nat) _) = _
        rw [h, Nat.xor_comm]
        unfold crcL at hl
        exact IntWalk.wrap64_in _ (by omega)
      have HX := Lib.hid hx; clear hx
      go_wp2
      go_ret
      exact ⟨by show Ending.returned (.int .i64 _) = _; rw [HX.out], rfl⟩

theorem leB4 (n : Nat) : leB 4 n = [UInt8.ofNat (n % 256), UInt8.ofNat (n / 256 % 256), UInt8.ofNat (n / 65536 % 256), UInt8.ofNat (n / 16777216 % 256)] := by
  simp only [leB, Nat.div_div_eq_div_mul]
theorem strOf4 (n : Nat) (h : n < 4294967296) : strOfNums [(n : Int) % 256, (n : Int) / 256 % 256, (n : Int) / 65536 % 256, (n : Int) / 16777216] = ⟨(leB 4 n).toArray⟩ := by
  have e0 : ((n : Int) % 256).toNat = n % 256 := by omega
  have e1 : ((n : Int) / 256 % 256).toNat = n / 256 % 256 := by omega
  have e2 : ((n : Int) / 65536 % 256).toNat = n / 65536 % 256 := by omega
  have e3 : ((n : Int) / 16777216).toNat = n / 16777216 % 256 := by omega
  rw [leB4]
  simp only [strOfNums, List.map_cons, List.map_nil, e0, e1, e2, e3]
def sealS (s : ByteArray) : ByteArray := ⟨(sealL s.data.toList).toArray⟩
theorem sealS_eq (s : ByteArray) : s ++ (⟨(leB 4 (crcL s.data.toList)).toArray⟩ : ByteArray) = sealS s := by
  apply ByteArray.ext
  simp [sealS, sealL]
theorem sealS_size (s : ByteArray) : (sealS s).size = s.size + 4 := by
  rw [← sealS_eq, ByteArray.size_append]
  show _ + (leB 4 _).toArray.size = _
  simp [leB_len]
set_option maxRecDepth 20000 in
theorem sseal_any (s : ByteArray) (w : World) (hs : s.size ≤ 2000000) : Calls Try.prog 23 #[.string s] w fun e w' => e = .returned (.string (sealS s)) ∧ Below w.heap.size w w' := by
  have hC := Lib.hid (fun w => scrc_any s w hs)
  have hl := crcL_lt s.data.toList
  have he := sealS_eq s
  generalize crcL s.data.toList = n at *
  have HE := Lib.hid he; clear he
  go_enter Try.func23, Try.ntmps23
  go_wp2_with fail
  refine (hC.out _).mono ?_
  rintro e w1 ⟨rfl, rfl⟩
  have hcv := fun (a b c d : Int) => run_convert_bytes_arg (P := Try.prog) (w1.alloc (.cells #[.int .u8 a, .int .u8 b, .int .u8 c, .int .u8 d] 5)) 22 5 Try.underlying22 Try.underlying5 w1.heap.size 0 4 4 [a, b, c, d] rfl (fun i hi => by
    rcases (by omega : i = 0 ∨ i = 1 ∨ i = 2 ∨ i = 3) with rfl | rfl | rfl | rfl <;> simp) 9 Try.underlying9
  have hsz : ∀ a b c d : Int, (strOfNums [a, b, c, d]).size = 4 := fun _ _ _ _ => rfl
  go_wp2
  go_ret
  refine ⟨?_, (Below.refl _ _).alloc (Nat.le_refl _) _⟩
  show Ending.returned (.string (s ++ strOfNums _)) = _
  rw [strOf4 n hl, HE.out]

theorem strNe {a b : ByteArray} (h : a ≠ b) : (a.toList == b.toList) = false := by
  rw [ByteArray.toList_eq, ByteArray.toList_eq]
  refine beq_eq_false_iff_ne.2 fun e => h ?_
  apply ByteArray.ext
  exact Array.ext' e
def openV (o : Option (List UInt8)) : Value := match o with
  | some d => .tuple #[.string ⟨d.toArray⟩, .bool true]
  | none => .tuple #[.string ByteArray.empty, .bool false]
theorem extract_take (s : ByteArray) (k : Nat) : s.extract 0 k = ⟨(s.data.toList.take k).toArray⟩ := by
  apply ByteArray.ext
  apply Array.ext'
  simp [ByteArray.data_extract, List.extract]
theorem sopen_any (s : ByteArray) (w : World) (hs : s.size ≤ 2000000) : Calls Try.prog 27 #[.string s] w fun e w' => e = .returned (openV (openL s.data.toList)) ∧ Below w.heap.size w w' := by
  have hlen : s.data.toList.length = s.size := by simp
  by_cases h4 : 4 ≤ s.size
  · have z1 : ¬ (s.size : Int) - 4 < 0 := by omega
    have z2 : (0 : Int) ≤ (s.size : Int) - 4 := by omega
    have z3 : (s.size : Int) - 4 ≤ (s.size : Int) := by omega
    have ew : IntKind.i64.wrap ((s.size : Int) - 4) = (s.size : Int) - 4 := IntWalk.i64_in _ (by omega)
    have et : ((s.size : Int) - 4).toNat = s.size - 4 := by omega
    have hx : s.extract 0 (s.size - 4) = ⟨(s.data.toList.take (s.size - 4)).toArray⟩ := extract_take _ _
    have hz : (s.extract 0 (s.size - 4)).size ≤ 2000000 := by rw [ByteArray.size_extract]; omega
    have hS := Lib.hid (fun w => sseal_any (s.extract 0 (s.size - 4)) w hz)
    have hse : (sealS (s.extract 0 (s.size - 4)) = s) ↔ sealL (s.data.toList.take (s.data.toList.length - 4)) = s.data.toList := by
      rw [hx, hlen]
      unfold sealS
      constructor
      · intro h
        have := congrArg (fun b : ByteArray => b.data.toList) h
        simpa using this
      · intro h
        apply ByteArray.ext
        simp at h ⊢
        rw [h]
    by_cases hq : sealS (s.extract 0 (s.size - 4)) = s
    · have ho : openV (openL s.data.toList) = .tuple #[.string (s.extract 0 (s.size - 4)), .bool true] := by
        unfold openL
        rw [if_pos ⟨by omega, hse.1 hq⟩, hlen, hx]; rfl
      have HO := Lib.hid ho; clear ho hse hz hx
      rw [hq] at hS
      go_enter Try.func27, Try.ntmps27
      go_wp2_with fail
      refine (hS.out _).mono ?_
      rintro e w1 ⟨rfl, hb⟩
      go_wp2
      go_ret2
      exact ⟨HO.out ▸ rfl, hb⟩
    · have ho : openV (openL s.data.toList) = .tuple #[.string ByteArray.empty, .bool false] := by
        unfold openL
        rw [if_neg (fun h => hq (hse.2 h.2))]; rfl
      have HO := Lib.hid ho; clear ho hse hz hx
      have hqb := strNe hq
      generalize sealS (s.extract 0 (s.size - 4)) = t at *
      go_enter Try.func27, Try.ntmps27
      go_wp2_with fail
      refine (hS.out _).mono ?_
      rintro e w1 ⟨rfl, hb⟩
      go_wp2
      go_ret2
      exact ⟨HO.out ▸ rfl, hb⟩
  · have ho : openV (openL s.data.toList) = .tuple #[.string ByteArray.empty, .bool false] := by
      unfold openL
      rw [if_neg (fun h => h4 (by omega))]; rfl
    have HO := Lib.hid ho; clear ho
    have z1 : (s.size : Int) - 4 < 0 := by omega
    have ew : IntKind.i64.wrap ((s.size : Int) - 4) = (s.size : Int) - 4 := IntWalk.i64_in _ (by omega)
    go_enter Try.func27, Try.ntmps27
    go_wp2
    go_ret2
    exact ⟨HO.out ▸ rfl, Below.refl _ _⟩
end Go.Proofs.Ytnddcjmjolembaa
