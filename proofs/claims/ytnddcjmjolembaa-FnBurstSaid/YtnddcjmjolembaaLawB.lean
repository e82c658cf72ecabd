/- With up to 32 bits in a row turned a seal isn't one: the law walked. -/
import Derived.Test.YtnddcjmjolembaaLawS
namespace Go.Proofs.Ytnddcjmjolembaa
open Go.ChangeShapes Go.WideShapes Go.ChangeAt Go.RowKit
set_option linter.unusedVariables false

theorem i64_or1 (n : Nat) (h : n < 4294967296) : bits .or .i64 (n : Int) 1 = ((n / 2 * 2 + 1 : Nat) : Int) := by
  have hx : n ||| 1 = n / 2 * 2 + 1 := by
    have := Nat.two_pow_add_eq_or_of_lt (i := 1) (b := n % 2) (by omega) (n / 2)
    have e : n / 2 * 2 + n % 2 = n := by omega
    rcases (by omega : n % 2 = 0 ∨ n % 2 = 1) with h0 | h1
    · have h3 := Nat.two_pow_add_eq_or_of_lt (i := 1) (b := 1) (by omega) (n / 2)
      have e2 : 2 ^ 1 * (n / 2) = n := by omega
      rw [e2] at h3
      omega
    · have h3 := Nat.two_pow_add_eq_or_of_lt (i := 1) (b := 1) (by omega) (n / 2)
      have e2 : n = 2 ^ 1 * (n / 2) + 1 := by omega
      have e3 : n ||| 1 = (2 ^ 1 * (n / 2) ||| 1) ||| 1 := by rw [← h3, ← e2]
      rw [e3, Nat.or_assoc, Nat.or_self, ← h3]
      omega
  show IntKind.i64.wrap ((BitVec.ofInt 64 (n : Int) ||| BitVec.ofInt 64 1).toNat : Nat) = _
  rw [bv_nat, show BitVec.ofInt 64 1 = BitVec.ofNat 64 1 from rfl, BitVec.toNat_or, BitVec.toNat_ofNat, BitVec.toNat_ofNat, Nat.mod_eq_of_lt (by omega), Nat.mod_eq_of_lt (by decide), hx]
  exact IntWalk.i64_in _ (by omega)
theorem i64_and1 (n : Nat) (h : n < 4294967296) : bits .and .i64 (n : Int) 1 = ((n % 2 : Nat) : Int) := by
  show IntKind.i64.wrap ((BitVec.ofInt 64 (n : Int) &&& BitVec.ofInt 64 1).toNat : Nat) = _
  have h1 : (BitVec.ofInt 64 1).toNat = 2 ^ 1 - 1 := by decide
  rw [bv_nat, BitVec.toNat_and, h1, BitVec.toNat_ofNat, Nat.mod_eq_of_lt (by omega), Nat.and_two_pow_sub_one_eq_mod]
  exact IntWalk.i64_in _ (by omega)
def maskP (zs : List Int) (len : Nat) : Nat := ((atV zs len 2 * 256 + atV zs len 3) * 65536 + atV zs len 4 * 256 + atV zs len 5).toNat
def maskV (zs : List Int) (len : Nat) : Nat := maskP zs len / 2 * 2 + 1
def fromP (zs : List Int) (len n : Nat) : Nat := ((atV zs len 0 * 256 + atV zs len 1) % ((8 * n : Nat) : Int)).toNat

set_option maxRecDepth 100000 in
theorem fnburst_walk (a0 : Option Addr) (len0 cap0 : Nat) (z0 : List Int) (w : World) (w0 : IsRow .u8 w a0 len0 cap0 z0) :
    Calls Try.prog 5 #[.slice a0 len0 cap0] w fun e w' => e = .returned (.bool true) ∧ Below w.heap.size w w' := by
  by_cases hbig : len0 ≤ 1048576
  · have hcode := codeAt_of w0 hbig
    have hat := atV_bd hcode
    clear w0
    have HC := Lib.hid hcode
    clear hcode
    go_enter Try.func5, Try.ntmps5
    go_wp2_with fail
    refine (big_any _ _ _ _ hbig).mono ?_
    rintro e w1 ⟨rfl, rfl⟩
    go_wp2_with fail
    refine (drawsealed_any w1.heap.size len0 cap0 a0 z0 w1 HC.out (Nat.le_refl _)).mono ?_
    rintro e w2 ⟨s, rfl, hs, hB⟩
    have hxl := sealL_len s.data.toList
    have hxe : sealS s = ⟨(sealL s.data.toList).toArray⟩ := rfl
    have hxs := sealS_size s
    have hbu := fun mask frm h1 h2 => seal_burst s.data.toList mask frm h1 h2
    have I1 := Lib.hid (fun w => iseal_any s w (by omega))
    have S1 := Lib.hid (fun w => sseal_any s w (by omega))
    have hlen : s.data.toList.length = s.size := by simp
    rw [hlen] at hxl
    clear hlen
    generalize sealL s.data.toList = X at *
    generalize sealS s = x at *
    have HXE := Lib.hid hxe; have HBU := Lib.hid hbu; clear hxe hbu
    have hXL : X.length = x.size := by omega
    have hn4 : 4 ≤ x.size ∧ x.size ≤ 12 := by omega
    clear hxl hxs hs
    go_wp2_with fail
    refine (I1.out _).mono ?_
    rintro e w3 ⟨rfl, hb⟩
    have hB3 := hB.trans (hb.mono hB.size)
    clear hb hB I1
    go_wp2_with fail
    refine (S1.out _).mono ?_
    rintro e w5 ⟨rfl, hb⟩
    have hB5 := hB3.trans (hb.mono hB3.size)
    clear hb hB3 S1
    have hC := HC.out.below hB5
    have h0 := hat 0; have h1 := hat 1; have h2 := hat 2; have h3 := hat 3; have h4 := hat 4; have h5 := hat 5
    have A0 := Lib.hid (at_any w1.heap.size len0 cap0 a0 z0 0 w5 hC (by omega))
    have A1 := Lib.hid (at_any w1.heap.size len0 cap0 a0 z0 1 w5 hC (by omega))
    have A2 := Lib.hid (at_any w1.heap.size len0 cap0 a0 z0 2 w5 hC (by omega))
    have A3 := Lib.hid (at_any w1.heap.size len0 cap0 a0 z0 3 w5 hC (by omega))
    have A4 := Lib.hid (at_any w1.heap.size len0 cap0 a0 z0 4 w5 hC (by omega))
    have A5 := Lib.hid (at_any w1.heap.size len0 cap0 a0 z0 5 w5 hC (by omega))
    have hp : (atV z0 len0 0 * 256 + atV z0 len0 1).tmod (8 * (x.size : Int)) = ((fromP z0 len0 x.size : Nat) : Int) := by
      rw [Int.tmod_eq_emod_of_nonneg (by omega)]
      unfold fromP
      have := Int.emod_nonneg (atV z0 len0 0 * 256 + atV z0 len0 1) (show ((8 * x.size : Nat) : Int) ≠ 0 by omega)
      rw [Int.toNat_of_nonneg this]
      congr 1
    have hpl : fromP z0 len0 x.size < 8 * x.size := by
      unfold fromP
      have := Int.emod_lt_of_pos (atV z0 len0 0 * 256 + atV z0 len0 1) (show (0 : Int) < ((8 * x.size : Nat) : Int) by omega)
      have := Int.emod_nonneg (atV z0 len0 0 * 256 + atV z0 len0 1) (show ((8 * x.size : Nat) : Int) ≠ 0 by omega)
      omega
    have hml : maskP z0 len0 < 4294967296 := by unfold maskP; omega
    have hmm : bits .or .i64 (wrap64 ((atV z0 len0 2 * 256 + atV z0 len0 3) * 65536 + atV z0 len0 4 * 256 + atV z0 len0 5)) 1 = ((maskV z0 len0 : Nat) : Int) := by
      rw [IntWalk.wrap64_in _ (by omega)]
      have := i64_or1 (maskP z0 len0) hml
      unfold maskV
      rw [← this]
      congr 1
      unfold maskP
      omega
    have hmv : maskV z0 len0 % 2 = 1 ∧ maskV z0 len0 < 4294967296 := by unfold maskV; omega
    generalize maskV z0 len0 = mask at *
    generalize fromP z0 len0 x.size = frm at *
    generalize atV z0 len0 0 = v0 at *
    generalize atV z0 len0 1 = v1 at *
    generalize atV z0 len0 2 = v2 at *
    generalize atV z0 len0 3 = v3 at *
    generalize atV z0 len0 4 = v4 at *
    generalize atV z0 len0 5 = v5 at *
    have q0 : ¬ 8 * (x.size : Int) = 0 := by omega
    clear hml hC hat
    go_wp2_with fail
    refine A0.out.mono ?_
    rintro e w6 ⟨rfl, rfl⟩
    go_wp2_with fail
    refine A1.out.mono ?_
    rintro e w6 ⟨rfl, rfl⟩
    go_wp2_with fail
    refine A2.out.mono ?_
    rintro e w6 ⟨rfl, rfl⟩
    go_wp2_with fail
    refine A3.out.mono ?_
    rintro e w6 ⟨rfl, rfl⟩
    go_wp2_with fail
    refine A4.out.mono ?_
    rintro e w6 ⟨rfl, rfl⟩
    go_wp2_with fail
    refine A5.out.mono ?_
    rintro e w6 ⟨rfl, rfl⟩
    clear A0 A1 A2 A3 A4 A5 h0 h1 h2 h3 h4 h5
    go_wp2
    clear hmm hp q0
    go_loopw [7, 8] (fun b i wr => ∃ k : Nat, k ≤ 32 ∧ i = .int .i64 k ∧ b = .string ⟨(burst mask frm X k).toArray⟩ ∧ Below w1.heap.size w1 wr) (fun _ i _ => 32 - (intOf i).toNat)
    case atStart => exact ⟨0, by omega, rfl, by rw [HXE.out]; rfl, hB5⟩
    case round =>
      obtain ⟨k, hk, rfl, rfl, hBr⟩ := hrel
      clear hB5
      have hbl := burst_len mask frm X k
      by_cases hkm : k < 32
      · have z1 : (k : Int) < 32 := by omega
        have hM : mask / 2 ^ k < 4294967296 := Nat.lt_of_le_of_lt (Nat.div_le_self _ _) hmv.2
        have hand := i64_and1 (mask / 2 ^ k) hM
        have hdv : ((mask / 2 ^ k : Nat) : Int) = (mask : Int) / 2 ^ k := by simp
        rw [hdv] at hand
        clear hM hdv
        by_cases hbit : mask / 2 ^ k % 2 = 1
        · have hst : burst mask frm X (k + 1) = flipB (burst mask frm X k) (frm + k) := by
            show (if mask / 2 ^ k % 2 = 1 then _ else _) = _
            rw [if_pos hbit]
          have F := fun w => flip_any ⟨(burst mask frm X k).toArray⟩ (frm + k) w (by show (burst mask frm X k).toArray.size ≤ _; simp [hbl]; omega) (by omega)
          rw [flipV_nat, ← hst, show ((frm + k : Nat) : Int) = (frm : Int) + (k : Int) by omega] at F
          have HF := Lib.hid F; clear F hst
          rw [hbit] at hand
          clear hbit
          have HBr := Lib.hid hBr
          go_wp2_with fail
          refine (HF.out _).mono ?_
          rintro e w7 ⟨rfl, hb⟩
          have hB7 := hBr.trans (hb.mono hBr.size)
          clear hb hBr HBr HF
          go_wp2
          go_roundw
          case rel => exact ⟨k + 1, by omega, by go_num, rfl, hB7⟩
          case measure => simp [intOf]; omega
        · have hst : burst mask frm X (k + 1) = burst mask frm X k := by
            show (if mask / 2 ^ k % 2 = 1 then _ else _) = _
            rw [if_neg hbit]
          have HST := Lib.hid hst; clear hst
          rw [show mask / 2 ^ k % 2 = 0 by omega] at hand
          clear hbit
          go_wp2
          go_roundw
          case rel => exact ⟨k + 1, by omega, by go_num, by rw [HST.out], hBr⟩
          case measure => simp [intOf]; omega
      · obtain rfl : k = 32 := by omega
        have hbo := HBU.out mask frm (by omega) hmv.1
        generalize burst mask frm X 32 = Y at *
        have O1 := Lib.hid (fun w => iopen_any ⟨Y.toArray⟩ w (by show Y.toArray.size ≤ _; simp; omega))
        have hyd : (⟨Y.toArray⟩ : ByteArray).data.toList = Y := rfl
        rw [hyd, hbo, openV_none] at O1
        clear hyd hbo
        generalize (⟨Y.toArray⟩ : ByteArray) = y at *
        have HBr := Lib.hid hBr
        go_wp2_with fail
        refine (O1.out _).mono ?_
        rintro e w7 ⟨rfl, hb⟩
        have hB7 := hBr.trans (hb.mono hBr.size)
        clear hb hBr HBr O1
        go_wp2
        go_ret
        exact ⟨by simp, hB7⟩
  · go_enter Try.func5, Try.ntmps5
    go_wp2_with fail
    refine (big_true _ _ _ _ hbig).mono ?_
    rintro e w1 ⟨rfl, rfl⟩
    go_wp2
    go_ret
    exact ⟨rfl, Below.refl _ _⟩
end Go.Proofs.Ytnddcjmjolembaa
