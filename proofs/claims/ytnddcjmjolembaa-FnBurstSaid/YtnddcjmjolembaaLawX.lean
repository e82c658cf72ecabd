/- What is put to a text by or (exclusively): the law walked. -/
import Derived.Test.YtnddcjmjolembaaDrawX
import Derived.Test.YtnddcjmjolembaaImplX
namespace Go.Proofs.Ytnddcjmjolembaa
open Go.ChangeShapes Go.WideShapes Go.ChangeAt Go.RowKit
set_option linter.unusedVariables false

theorem xorL_comm : ∀ a b : List UInt8, xorL a b = xorL b a
  | [], [] => rfl
  | [], _ :: _ => rfl
  | _ :: _, [] => rfl
  | x :: a, y :: b => by
    show (x ^^^ y) :: xorL a b = (y ^^^ x) :: xorL b a
    rw [xorL_comm a b, UInt8.xor_comm]
theorem xorL_back : ∀ a b : List UInt8, a.length = b.length → xorL (xorL a b) b = a
  | [], [], _ => rfl
  | [], _ :: _, h => by simp at h
  | _ :: _, [], h => by simp at h
  | x :: a, y :: b, h => by
    show (x ^^^ y ^^^ y) :: xorL (xorL a b) b = x :: a
    rw [xorL_back a b (by simpa using h), UInt8.xor_assoc, UInt8.xor_self, UInt8.xor_zero]
theorem xorL_zero : ∀ a b : List UInt8, a.length = b.length → xorL a (xorL b b) = a
  | [], [], _ => rfl
  | [], _ :: _, h => by simp at h
  | _ :: _, [], h => by simp at h
  | x :: a, y :: b, h => by
    show (x ^^^ (y ^^^ y)) :: xorL a (xorL b b) = x :: a
    rw [xorL_zero a b (by simpa using h), UInt8.xor_self, UInt8.xor_zero]
theorem xorL_length (a b : List UInt8) (h : a.length = b.length) : (xorL a b).length = a.length := by simp [xorL, h]
theorem crcL_xor (a b : List UInt8) (h : a.length = b.length) : crcL (xorL a b) = crcL a ^^^ crcL b ^^^ crcL (xorL a a) := by
  have h1 := crcF_xor a b ones ones h
  have hz : (xorL a a).length = a.length := xorL_length a a rfl
  have h2 := crcF_xor (xorL a b) (xorL a a) 0 ones (by rw [xorL_length a b h, hz])
  rw [xorL_zero (xorL a b) a (xorL_length a b h), Nat.zero_xor] at h2
  rw [Nat.xor_self] at h1
  unfold crcL
  rw [h2, h1]
  generalize crcF ones a = p
  generalize crcF ones b = q
  generalize crcF ones (xorL a a) = r
  generalize ones = o
  apply Nat.eq_of_testBit_eq
  intro i
  simp only [Nat.testBit_xor]
  cases p.testBit i <;> cases q.testBit i <;> cases r.testBit i <;> cases o.testBit i <;> rfl
theorem i64_xor (n m : Nat) (hn : n < 4294967296) (hm : m < 4294967296) : bits .xor .i64 (n : Int) (m : Int) = ((n ^^^ m : Nat) : Int) := by
  have hx := Nat.xor_lt_two_pow (n := 32) hn hm
  show IntKind.i64.wrap ((BitVec.ofInt 64 (n : Int) ^^^ BitVec.ofInt 64 (m : Int)).toNat : Nat) = _
  rw [bv_nat, bv_nat, BitVec.toNat_xor, BitVec.toNat_ofNat, BitVec.toNat_ofNat, Nat.mod_eq_of_lt (by omega), Nat.mod_eq_of_lt (by omega)]
  generalize n ^^^ m = z at *
  exact IntWalk.i64_in _ (by omega)
theorem xorS_eq (s t : ByteArray) (h : s.size = t.size) : xorS s t = ⟨(xorL s.data.toList t.data.toList).toArray⟩ := by unfold xorS; rw [if_pos h]
theorem data_eq {s : ByteArray} {l : List UInt8} (h : s.data.toList = l) : (⟨l.toArray⟩ : ByteArray) = s := by subst h; rfl
theorem xorS_size (s t : ByteArray) (h : s.size = t.size) : (xorS s t).size = s.size := by
  rw [xorS_eq s t h]
  show (xorL s.data.toList t.data.toList).toArray.size = _
  simpa using xorL_len s t h
theorem xorS_data (s t : ByteArray) (h : s.size = t.size) : (xorS s t).data.toList = xorL s.data.toList t.data.toList := by rw [xorS_eq s t h]

set_option maxRecDepth 100000 in
set_option maxHeartbeats 1000000 in
theorem fnxor_walk (a0 : Option Addr) (len0 cap0 : Nat) (z0 : List Int) (w : World) (w0 : IsRow .u8 w a0 len0 cap0 z0) :
    Calls Try.prog 6 #[.slice a0 len0 cap0] w fun e w' => e = .returned (.bool true) ∧ Below w.heap.size w w' := by
  by_cases hbig : len0 ≤ 1048576
  · have hcode := codeAt_of w0 hbig
    clear w0
    have HC := Lib.hid hcode
    clear hcode
    go_enter Try.func6, Try.ntmps6
    go_wp2_with fail
    refine (big_any _ _ _ _ hbig).mono ?_
    rintro e w1 ⟨rfl, rfl⟩
    go_wp2_with fail
    refine (drawxor_any w1.heap.size len0 cap0 a0 z0 w1 HC.out (Nat.le_refl _)).mono ?_
    rintro e w2 ⟨s, t, rfl, hs, ht, hB⟩
    have I1 := Lib.hid (fun w => ixor_any s t w (by omega) (by omega))
    have S1 := Lib.hid (fun w => sxor_any s t w (by omega) (by omega))
    by_cases hst : s.size = t.size
    · have e0 : (s.size : Int) = (t.size : Int) := by omega
      have hls : s.data.toList.length = t.data.toList.length := by simpa using hst
      have hvs := xorS_size s t hst
      have hzs := xorS_size s s rfl
      have I2 := Lib.hid (fun w => ixor_any s s w (by omega) (by omega))
      have r3 : xorS (xorS s t) t = s := by
        rw [xorS_eq _ _ (by omega), xorS_data s t hst, xorL_back _ _ hls]
      have r4 : xorS t s = xorS s t := by rw [xorS_eq _ _ hst.symm, xorS_eq _ _ hst, xorL_comm]
      have r5 : xorS s (xorS s s) = s := by
        rw [xorS_eq _ _ (by omega), xorS_data s s rfl, xorL_zero _ _ rfl]
      have hcx := crcL_xor s.data.toList t.data.toList hls
      have I3 := Lib.hid (fun w => ixor_any (xorS s t) t w (by omega) (by omega))
      have I4 := Lib.hid (fun w => ixor_any t s w (by omega) (by omega))
      have I5 := Lib.hid (fun w => ixor_any s (xorS s s) w (by omega) (by omega))
      rw [r3] at I3; rw [r4] at I4; rw [r5] at I5
      have C1 := Lib.hid (fun w => icrc_any (xorS s t) w (by omega))
      have C2 := Lib.hid (fun w => icrc_any s w (by omega))
      have C3 := Lib.hid (fun w => icrc_any t w (by omega))
      have C4 := Lib.hid (fun w => icrc_any (xorS s s) w (by omega))
      have C5 := Lib.hid (fun w => scrc_any s w (by omega))
      rw [xorS_data s t hst] at C1
      rw [xorS_data s s rfl] at C4
      have l2 := crcL_lt s.data.toList
      have l3 := crcL_lt t.data.toList
      have l4 := crcL_lt (xorL s.data.toList s.data.toList)
      clear r3 r4 r5 hvs hzs hls
      generalize crcL (xorL s.data.toList t.data.toList) = c1 at *
      generalize crcL (xorL s.data.toList s.data.toList) = c4 at *
      generalize crcL s.data.toList = c2 at *
      generalize crcL t.data.toList = c3 at *
      generalize xorS s t = v at *
      generalize xorS s s = z at *
      subst hcx
      have x1 := i64_xor c2 c3 l2 l3
      have x2 := i64_xor (c2 ^^^ c3) c4 (Nat.xor_lt_two_pow (n := 32) l2 l3) l4
      generalize c2 ^^^ c3 = c23 at *
      generalize c23 ^^^ c4 = c234 at *
      clear hst
      go_wp2_with fail
      refine (I1.out _).mono ?_
      rintro e w3 ⟨rfl, hb⟩
      have hB3 := hB.trans (hb.mono hB.size)
      clear hb hB I1
      go_wp2_with fail
      refine (S1.out _).mono ?_
      rintro e w4 ⟨rfl, hb⟩
      have hB4 := hB3.trans (hb.mono hB3.size)
      clear hb hB3 S1
      go_wp2_with fail
      refine (I2.out _).mono ?_
      rintro e w5 ⟨rfl, hb⟩
      have hB5 := hB4.trans (hb.mono hB4.size)
      clear hb hB4 I2
      go_wp2_with fail
      refine (I3.out _).mono ?_
      rintro e w6 ⟨rfl, hb⟩
      have hB6 := hB5.trans (hb.mono hB5.size)
      clear hb hB5 I3
      go_wp2_with fail
      refine (I4.out _).mono ?_
      rintro e w7 ⟨rfl, hb⟩
      have hB7 := hB6.trans (hb.mono hB6.size)
      clear hb hB6 I4
      go_wp2_with fail
      refine (I5.out _).mono ?_
      rintro e w8 ⟨rfl, hb⟩
      have hB8 := hB7.trans (hb.mono hB7.size)
      clear hb hB7 I5
      go_wp2_with fail
      refine (C1.out _).mono ?_
      rintro e w9 ⟨rfl, hb⟩
      have hB9 := hB8.trans (hb.mono hB8.size)
      clear hb hB8 C1
      go_wp2_with fail
      refine (C2.out _).mono ?_
      rintro e w10 ⟨rfl, hb⟩
      have hB10 := hB9.trans (hb.mono hB9.size)
      clear hb hB9
      go_wp2_with fail
      refine (C3.out _).mono ?_
      rintro e w11 ⟨rfl, hb⟩
      have hB11 := hB10.trans (hb.mono hB10.size)
      clear hb hB10 C3
      go_wp2_with fail
      refine (C4.out _).mono ?_
      rintro e w12 ⟨rfl, hb⟩
      have hB12 := hB11.trans (hb.mono hB11.size)
      clear hb hB11 C4
      go_wp2_with fail
      refine (C2.out _).mono ?_
      rintro e w13 ⟨rfl, hb⟩
      have hB13 := hB12.trans (hb.mono hB12.size)
      clear hb hB12 C2
      go_wp2_with fail
      refine (C5.out _).mono ?_
      rintro e w14 ⟨rfl, rfl⟩
      clear C5
      go_wp2
      go_ret
      exact ⟨by simp, hB13⟩
    · have e0 : ¬ (s.size : Int) = (t.size : Int) := by omega
      have hv : xorS s t = ByteArray.empty := by unfold xorS; rw [if_neg hst]
      rw [hv] at I1 S1
      clear hv hst
      go_wp2_with fail
      refine (I1.out _).mono ?_
      rintro e w3 ⟨rfl, hb⟩
      have hB3 := hB.trans (hb.mono hB.size)
      clear hb hB I1
      go_wp2_with fail
      refine (S1.out _).mono ?_
      rintro e w4 ⟨rfl, hb⟩
      have hB4 := hB3.trans (hb.mono hB3.size)
      clear hb hB3 S1
      go_wp2
      go_ret
      exact ⟨by simp, hB4⟩
  · go_enter Try.func6, Try.ntmps6
    go_wp2_with fail
    refine (big_true _ _ _ _ hbig).mono ?_
    rintro e w1 ⟨rfl, rfl⟩
    go_wp2
    go_ret
    exact ⟨rfl, Below.refl _ _⟩
end Go.Proofs.Ytnddcjmjolembaa
