/- A text comes back from its seal; with up to three bits turned there is none: the law walked. -/
import Derived.Test.YtnddcjmjolembaaLawX
import Derived.Test.YtnddcjmjolembaaLawAt
import Derived.Test.YtnddcjmjolembaaCrcB
namespace Go.Proofs.Ytnddcjmjolembaa
open Go.ChangeShapes Go.WideShapes Go.ChangeAt Go.RowKit
set_option linter.unusedVariables false

theorem atV_bd {n₀ : Nat} {w : World} {a : Option Addr} {len : Nat} {zs : List Int} (h : CodeAt n₀ w a len zs) (i : Nat) : 0 ≤ atV zs len i ∧ atV zs len i ≤ 255 := by
  have h2 := h.2.1 i
  unfold atV
  split
  · exact h2
  · omega
/-- the place of the i-th bit that is turned -/
def bitP (zs : List Int) (len n : Nat) (i : Nat) : Nat := ((atV zs len (i + 1) * 256 + atV zs len (i + 2)) % ((8 * n : Nat) : Int)).toNat
def bitsP (zs : List Int) (len n : Nat) (k : Nat) : List Nat := (List.range k).map (bitP zs len n)
theorem bitsP_succ (zs : List Int) (len n k : Nat) : bitsP zs len n (k + 1) = bitsP zs len n k ++ [bitP zs len n k] := by simp [bitsP, List.range_succ]
theorem bitP_lt (zs : List Int) (len n i : Nat) (hn : 0 < n) : bitP zs len n i < 8 * n := by
  unfold bitP
  have := Int.emod_lt_of_pos (atV zs len (i + 1) * 256 + atV zs len (i + 2)) (show (0 : Int) < ((8 * n : Nat) : Int) by omega)
  have := Int.emod_nonneg (atV zs len (i + 1) * 256 + atV zs len (i + 2)) (show ((8 * n : Nat) : Int) ≠ 0 by omega)
  omega
theorem flipsN_snoc (l : List UInt8) (ps : List Nat) (p : Nat) : flipsN l (ps ++ [p]) = flipB (flipsN l ps) p := by simp [flipsN, List.foldl_append]
theorem flipsN_len (l : List UInt8) : ∀ ps, (flipsN l ps).length = l.length := by
  intro ps
  induction ps generalizing l with
  | nil => rfl
  | cons p ps ih => show (flipsN (flipB l p) ps).length = _; rw [ih, flipB_len]
theorem flipV_nat (l : List UInt8) (p : Nat) : flipV ⟨l.toArray⟩ p = ⟨(flipB l p).toArray⟩ := by
  unfold flipV
  rw [if_neg (by omega)]
  rfl
theorem openV_some (d : List UInt8) : openV (some d) = .tuple #[.string ⟨d.toArray⟩, .bool true] := rfl
theorem openV_none : openV none = .tuple #[.string ByteArray.empty, .bool false] := rfl
theorem toArr_inj {l m : List UInt8} (h : (⟨l.toArray⟩ : ByteArray) = ⟨m.toArray⟩) : l = m := by
  have := congrArg (fun b : ByteArray => b.data.toList) h
  simpa using this

set_option maxRecDepth 100000 in
set_option maxHeartbeats 2000000 in
theorem fnseal_walk (a0 : Option Addr) (len0 cap0 : Nat) (z0 : List Int) (w : World) (w0 : IsRow .u8 w a0 len0 cap0 z0) :
    Calls Try.prog 4 #[.slice a0 len0 cap0] w fun e w' => e = .returned (.bool true) ∧ Below w.heap.size w w' := by
  by_cases hbig : len0 ≤ 1048576
  · have hcode := codeAt_of w0 hbig
    have hat := atV_bd hcode
    clear w0
    have HC := Lib.hid hcode
    clear hcode
    go_enter Try.func4, Try.ntmps4
    go_wp2_with fail
    refine (big_any _ _ _ _ hbig).mono ?_
    rintro e w1 ⟨rfl, rfl⟩
    go_wp2_with fail
    refine (drawsealed_any w1.heap.size len0 cap0 a0 z0 w1 HC.out (Nat.le_refl _)).mono ?_
    rintro e w2 ⟨s, rfl, hs, hB⟩
    have hsl : s.data.toList.length ≤ 8 := by simpa using hs
    have hxl := sealL_len s.data.toList
    have hxe : sealS s = ⟨(sealL s.data.toList).toArray⟩ := rfl
    have hxs := sealS_size s
    have hop := openL_seal s.data.toList
    have hiff := fun ps h1 h2 => seal_iff s.data.toList hsl ps h1 h2
    have hse : (⟨s.data.toList.toArray⟩ : ByteArray) = s := rfl
    have I1 := Lib.hid (fun w => iseal_any s w (by omega))
    have S1 := Lib.hid (fun w => sseal_any s w (by omega))
    have I2 := Lib.hid (fun w => iopen_any (sealS s) w (by omega))
    have hxd : (sealS s).data.toList = sealL s.data.toList := rfl
    rw [hxd, hop, openV_some, hse] at I2
    have hlen : s.data.toList.length = s.size := by simp
    rw [hlen] at hxl
    clear hxd hop hsl hse hlen
    generalize sealL s.data.toList = X at *
    generalize sealS s = x at *
    have HXE := Lib.hid hxe; have HIFF := Lib.hid hiff; clear hxe hiff
    go_wp2_with fail
    refine (I1.out _).mono ?_
    rintro e w3 ⟨rfl, hb⟩
    have hB3 := hB.trans (hb.mono hB.size)
    clear hb hB I1
    go_wp2_with fail
    refine (I2.out _).mono ?_
    rintro e w4 ⟨rfl, hb⟩
    have hB4 := hB3.trans (hb.mono hB3.size)
    clear hb hB3 I2
    go_wp2_with fail
    refine (S1.out _).mono ?_
    rintro e w5 ⟨rfl, hb⟩
    have hB5 := hB4.trans (hb.mono hB4.size)
    clear hb hB4 S1
    have ez : (x.size : Int) = (s.size : Int) + 4 := by omega
    go_wp2
    have h00 := hat 0
    obtain ⟨m, hm⟩ : ∃ m : Nat, (m : Int) = 1 + (atV z0 len0 0).tmod 3 := ⟨(1 + (atV z0 len0 0).tmod 3).toNat, by rw [Int.tmod_eq_emod_of_nonneg (by omega)]; omega⟩
    have hm3 : m ≤ 3 := by rw [Int.tmod_eq_emod_of_nonneg (by omega)] at hm; omega
    have e3 : (atV z0 len0 0).tmod 3 = atV z0 len0 0 % 3 := Int.tmod_eq_emod_of_nonneg (by omega)
    rw [e3] at hm
    clear ez
    have hXL : X.length = x.size := by omega
    have hn4 : 4 ≤ x.size ∧ x.size ≤ 12 := by omega
    clear hxl hxs hs
    go_loopw [7, 8] (fun b i wr => ∃ k : Nat, k ≤ m ∧ i = .int .i64 k ∧ b = .string ⟨(flipsN X (bitsP z0 len0 x.size k)).toArray⟩ ∧ Below w1.heap.size w1 wr) (fun _ i _ => m - (intOf i).toNat)
    case atStart => exact ⟨0, Nat.zero_le _, rfl, by rw [HXE.out]; rfl, hB5⟩
    case round =>
      obtain ⟨k, hk, rfl, rfl, hBr⟩ := hrel
      clear hB5
      have h1 := hat (k + 1)
      have h2 := hat (k + 2)
      have hC := HC.out.below hBr
      have A0 := Lib.hid (at_any w1.heap.size len0 cap0 a0 z0 0 wr hC (by omega))
      by_cases hkm : k < m
      · have z1 : (k : Int) < 1 + atV z0 len0 0 % 3 := by omega
        have hbs := bitsP_succ z0 len0 x.size k
        have hpl := bitP_lt z0 len0 x.size k (by omega)
        have hp : (atV z0 len0 (k + 1) * 256 + atV z0 len0 (k + 2)).tmod (8 * (x.size : Int)) = ((bitP z0 len0 x.size k : Nat) : Int) := by
          rw [Int.tmod_eq_emod_of_nonneg (by omega)]
          unfold bitP
          have := Int.emod_nonneg (atV z0 len0 (k + 1) * 256 + atV z0 len0 (k + 2)) (show ((8 * x.size : Nat) : Int) ≠ 0 by omega)
          rw [Int.toNat_of_nonneg this]
          congr 1
        have A1 := at_any w1.heap.size len0 cap0 a0 z0 (k + 1) wr hC (by omega)
        have A2 := at_any w1.heap.size len0 cap0 a0 z0 (k + 2) wr hC (by omega)
        rw [show ((k + 1 : Nat) : Int) = (k : Int) + 1 by omega] at A1
        rw [show ((k + 2 : Nat) : Int) = (k : Int) + 2 by omega] at A2
        have HA1 := Lib.hid A1; have HA2 := Lib.hid A2; clear A1 A2
        have F := fun w => flip_any ⟨(flipsN X (bitsP z0 len0 x.size k)).toArray⟩ (bitP z0 len0 x.size k) w (by show (flipsN X _).toArray.size ≤ _; simp [flipsN_len]; omega) (by omega)
        rw [flipV_nat, ← flipsN_snoc, ← hbs] at F
        have HF := Lib.hid F; clear F hbs
        have HBr := Lib.hid hBr
        generalize atV z0 len0 (k + 1) = v1 at *
        generalize atV z0 len0 (k + 2) = v2 at *
        generalize bitP z0 len0 x.size k = p at *
        generalize atV z0 len0 0 = v0 at *
        have q0 : ¬ 8 * (x.size : Int) = 0 := by omega
        go_wp2_with fail
        refine A0.out.mono ?_
        rintro e w6 ⟨rfl, rfl⟩
        go_wp2_with fail
        refine HA1.out.mono ?_
        rintro e w6 ⟨rfl, rfl⟩
        go_wp2_with fail
        refine HA2.out.mono ?_
        rintro e w6 ⟨rfl, rfl⟩
        go_wp2_with fail
        refine (HF.out _).mono ?_
        rintro e w7 ⟨rfl, hb⟩
        have hB7 := hBr.trans (hb.mono hBr.size)
        clear hb hBr HBr HF HA1 HA2 A0
        go_wp2
        go_roundw
        case rel => exact ⟨k + 1, by omega, by go_num, rfl, hB7⟩
        case measure => simp [intOf]; omega
      · obtain rfl : k = m := by omega
        have z1 : ¬ (k : Int) < 1 + atV z0 len0 0 % 3 := by omega
        have hY := HIFF.out (bitsP z0 len0 x.size k) (by simp [bitsP]; omega) (by
          intro p hp
          simp only [bitsP, List.mem_map] at hp
          obtain ⟨q, _, rfl⟩ := hp
          have := bitP_lt z0 len0 x.size q (by omega)
          omega)
        have hYl := flipsN_len X (bitsP z0 len0 x.size k)
        generalize flipsN X (bitsP z0 len0 x.size k) = Y at *
        have O1 := Lib.hid (fun w => iopen_any ⟨Y.toArray⟩ w (by show Y.toArray.size ≤ _; simp; omega))
        have hyd : (⟨Y.toArray⟩ : ByteArray).data.toList = Y := rfl
        rw [hyd] at O1
        clear hyd
        have hxy : Y = X → (⟨Y.toArray⟩ : ByteArray) = x := fun e => by rw [HXE.out, e]
        have hxn : Y ≠ X → ((⟨Y.toArray⟩ : ByteArray).toList == x.toList) = false := fun e => strNe (fun h => e (toArr_inj (h.trans HXE.out)))
        generalize (⟨Y.toArray⟩ : ByteArray) = y at *
        have HXY := Lib.hid hxy; have HXN := Lib.hid hxn; clear hxy hxn
        have HBr := Lib.hid hBr
        generalize atV z0 len0 0 = v0 at *
        cases hO : openL Y with
        | none =>
          rw [hO] at O1 hY
          have hne : Y ≠ X := by simpa using hY
          have hyx := HXN.out hne
          rw [openV_none] at O1
          clear hO hY hne HXY HXN
          go_wp2_with fail
          refine A0.out.mono ?_
          rintro e w6 ⟨rfl, rfl⟩
          go_wp2_with fail
          refine (O1.out _).mono ?_
          rintro e w7 ⟨rfl, hb⟩
          have hB7 := hBr.trans (hb.mono hBr.size)
          clear hb O1 A0 HBr
          go_wp2_with fail
          refine (drawopened_any w1.heap.size len0 cap0 a0 z0 w7 (HC.out.below hB7) hB7.size).mono ?_
          rintro e w8 ⟨t, rfl, ht, hb⟩
          have hB8 := hB7.trans (hb.mono hB7.size)
          clear hb hB7
          have O2 := Lib.hid (fun w => iopen_any t w (by omega))
          have O3 := Lib.hid (fun w => sopen_any t w (by omega))
          cases hT : openL t.data.toList with
          | none =>
            rw [hT, openV_none] at O2 O3
            clear hT
            go_wp2_with fail
            refine (O2.out _).mono ?_
            rintro e w9 ⟨rfl, hb⟩
            have hB9 := hB8.trans (hb.mono hB8.size)
            clear hb hB8 O2
            go_wp2_with fail
            refine (O3.out _).mono ?_
            rintro e w10 ⟨rfl, hb⟩
            have hB10 := hB9.trans (hb.mono hB9.size)
            clear hb hB9 O3
            go_wp2
            go_ret
            exact ⟨by simp, hB10⟩
          | some u =>
            have hut := openL_some hT
            have hus : (sealL u).length = u.length + 4 := sealL_len u
            have htl : t.data.toList.length = t.size := by simp
            rw [hut, htl] at hus
            have hse : sealS ⟨u.toArray⟩ = t := by
              show (⟨(sealL u).toArray⟩ : ByteArray) = t
              rw [hut]
            have I3 := Lib.hid (fun w => iseal_any ⟨u.toArray⟩ w (by show u.toArray.size ≤ _; simp; omega))
            rw [hse] at I3
            rw [hT, openV_some] at O2 O3
            clear hT hut hse hus htl
            generalize (⟨u.toArray⟩ : ByteArray) = uu at *
            go_wp2_with fail
            refine (O2.out _).mono ?_
            rintro e w9 ⟨rfl, hb⟩
            have hB9 := hB8.trans (hb.mono hB8.size)
            clear hb hB8 O2
            go_wp2_with fail
            refine (O3.out _).mono ?_
            rintro e w10 ⟨rfl, hb⟩
            have hB10 := hB9.trans (hb.mono hB9.size)
            clear hb hB9 O3
            go_wp2_with fail
            refine (I3.out _).mono ?_
            rintro e w11 ⟨rfl, hb⟩
            have hB11 := hB10.trans (hb.mono hB10.size)
            clear hb hB10 I3
            go_wp2
            go_ret
            exact ⟨by simp, hB11⟩
        | some d =>
          rw [hO] at O1 hY
          have he : Y = X := by simpa using hY
          have hyx := HXY.out he
          rw [openV_some] at O1
          generalize (⟨d.toArray⟩ : ByteArray) = dd at *
          clear hO hY he HXY HXN
          subst hyx
          go_wp2_with fail
          refine A0.out.mono ?_
          rintro e w6 ⟨rfl, rfl⟩
          go_wp2_with fail
          refine (O1.out _).mono ?_
          rintro e w7 ⟨rfl, hb⟩
          have hB7 := hBr.trans (hb.mono hBr.size)
          clear hb O1 A0 HBr
          go_wp2_with fail
          refine (drawopened_any w1.heap.size len0 cap0 a0 z0 w7 (HC.out.below hB7) hB7.size).mono ?_
          rintro e w8 ⟨t, rfl, ht, hb⟩
          have hB8 := hB7.trans (hb.mono hB7.size)
          clear hb hB7
          have O2 := Lib.hid (fun w => iopen_any t w (by omega))
          have O3 := Lib.hid (fun w => sopen_any t w (by omega))
          cases hT : openL t.data.toList with
          | none =>
            rw [hT, openV_none] at O2 O3
            clear hT
            go_wp2_with fail
            refine (O2.out _).mono ?_
            rintro e w9 ⟨rfl, hb⟩
            have hB9 := hB8.trans (hb.mono hB8.size)
            clear hb hB8 O2
            go_wp2_with fail
            refine (O3.out _).mono ?_
            rintro e w10 ⟨rfl, hb⟩
            have hB10 := hB9.trans (hb.mono hB9.size)
            clear hb hB9 O3
            go_wp2
            go_ret
            exact ⟨by simp, hB10⟩
          | some u =>
            have hut := openL_some hT
            have hus : (sealL u).length = u.length + 4 := sealL_len u
            have htl : t.data.toList.length = t.size := by simp
            rw [hut, htl] at hus
            have hse : sealS ⟨u.toArray⟩ = t := by
              show (⟨(sealL u).toArray⟩ : ByteArray) = t
              rw [hut]
            have I3 := Lib.hid (fun w => iseal_any ⟨u.toArray⟩ w (by show u.toArray.size ≤ _; simp; omega))
            rw [hse] at I3
            rw [hT, openV_some] at O2 O3
            clear hT hut hse hus htl
            generalize (⟨u.toArray⟩ : ByteArray) = uu at *
            go_wp2_with fail
            refine (O2.out _).mono ?_
            rintro e w9 ⟨rfl, hb⟩
            have hB9 := hB8.trans (hb.mono hB8.size)
            clear hb hB8 O2
            go_wp2_with fail
            refine (O3.out _).mono ?_
            rintro e w10 ⟨rfl, hb⟩
            have hB10 := hB9.trans (hb.mono hB9.size)
            clear hb hB9 O3
            go_wp2_with fail
            refine (I3.out _).mono ?_
            rintro e w11 ⟨rfl, hb⟩
            have hB11 := hB10.trans (hb.mono hB10.size)
            clear hb hB10 I3
            go_wp2
            go_ret
            exact ⟨by simp, hB11⟩
  · go_enter Try.func4, Try.ntmps4
    go_wp2_with fail
    refine (big_true _ _ _ _ hbig).mono ?_
    rintro e w1 ⟨rfl, rfl⟩
    go_wp2
    go_ret
    exact ⟨rfl, Below.refl _ _⟩
end Go.Proofs.Ytnddcjmjolembaa
