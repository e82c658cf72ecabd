/- FnRead, walked: what is read from digits is written with them. -/
import Derived.Test.YthmdbjjhhemjoaaDoorDecReadW
namespace Go.Proofs.YthmdbjjhhemjoaaDoor
open Go.ChangeShapes Go.WideShapes Go.ChangeAt Go.RowKit
open Go.Lib (itoa decDigits itoa_nonneg)
set_option linter.unusedVariables false

set_option maxRecDepth 100000 in
set_option maxHeartbeats 2000000 in
theorem fnread_walk (a0 : Option Addr) (len0 cap0 : Nat) (z0 : List Int) (w : World) (w0 : IsRow .u8 w a0 len0 cap0 z0) (hV : DecVars w) :
    Calls Tryd.prog 4 #[.slice a0 len0 cap0] w fun e w' => e = .returned (.bool true) ∧ Below w.heap.size w w' := by
  by_cases hbig : len0 ≤ 1048576
  · have hcode := codeAt_of w0 hbig
    clear w0
    have HC := Lib.hid hcode; have HV := Lib.hid hV
    clear hcode hV
    go_enter Tryd.func4, Tryd.ntmps4
    go_wp2_with fail
    refine (big_any _ _ _ _ hbig).mono ?_
    rintro e w1 ⟨rfl, rfl⟩
    go_wp2_with fail
    refine (readdec_draw w1.heap.size len0 cap0 a0 z0 w1 HC.out (Nat.le_refl _) (fun n w h1 h2 => (sdec_any n w (by omega) (by omega)).mono (by
      rintro e w' ⟨rfl, rfl⟩
      refine ⟨_, rfl, ?_, Below.refl _ _⟩
      have := itoa_size n (by omega) (by omega)
      simpa [ByteArray.size] using this))).mono ?_
    rintro e w2 ⟨s, rfl, hs, hB⟩
    have hw := fun h => decOf_text s.data.toList h
    have hbd := decOf_bd s.data.toList
    have R2 := Lib.hid (fun w hv => ireaddec_any s w (by omega) hv)
    have S2 := Lib.hid (fun w => sreaddec_any s w (by omega))
    generalize hn : decOf s.data.toList = n at *
    clear hn
    go_wp2_with fail
    refine (R2.out _ (HV.out.below hB)).mono ?_
    rintro e w3 ⟨rfl, hb⟩
    have hB3 := hB.trans (hb.mono hB.size)
    clear hB hb R2
    go_wp2_with fail
    refine (drawreadhex_any w1.heap.size len0 cap0 a0 z0 w3 (HC.out.below hB3) hB3.size).mono ?_
    rintro e w4 ⟨h, rfl, hh, hb⟩
    have hB4 := hB3.trans (hb.mono hB3.size)
    clear hB3 hb
    have R1 := Lib.hid (fun w => iread_any h w (by omega))
    have S1 := Lib.hid (fun w => sread_any h w (by omega))
    by_cases h0 : 0 ≤ n
    · have hsn : (⟨(itoa n).toArray⟩ : ByteArray) = s := by rw [hw h0, of_data]
      have D1 := Lib.hid (fun w hT => idec_any n w (by omega) (by omega) hT)
      rw [hsn] at D1
      clear hsn hw
      have z1 : ¬ n < 0 := by omega
      cases hr : readL h.data.toList with
      | none =>
        rw [hr] at R1 S1
        have e1 : rdv none = .tuple #[.string ByteArray.empty, .bool false] := rfl
        rw [e1] at R1 S1
        clear hr e1
        go_wp2_with fail
        refine (R1.out _).mono ?_
        rintro e w5 ⟨rfl, hb⟩
        have hB5 := hB4.trans (hb.mono hB4.size)
        clear hB4 hb R1
        go_wp2_with fail
        refine (S1.out _).mono ?_
        rintro e w6 ⟨rfl, hb⟩
        have hB6 := hB5.trans (hb.mono hB5.size)
        clear hB5 hb S1
        go_wp2_with fail
        refine (S2.out _).mono ?_
        rintro e w7 ⟨rfl, rfl⟩
        go_wp2_with fail
        refine (D1.out _ (HV.out.below hB6).tab).mono ?_
        rintro e w8 ⟨rfl, hb⟩
        have hB8 := hB6.trans (hb.mono hB6.size)
        clear hB6 hb
        go_wp2
        go_ret
        exact ⟨rfl, hB8⟩
      | some xs =>
        rw [hr] at R1 S1
        have e1 : rdv (some xs) = .tuple #[.string (strOfNums xs), .bool true] := rfl
        have hb1 := read_hex _ _ _ (Nat.le_refl _) hr
        have hb2 : strOfNums (hexL (strOfNums xs).data.toList) = h := by rw [strOf_bytes xs, data_of, strOf_bytes, hb1, of_data]
        have hb3 : (strOfNums xs).size ≤ 2000000 := by
          have := congrArg ByteArray.size hb2
          rw [strOfNums_size, hexL_size] at this
          omega
        have X1 := Lib.hid (fun w => ihex_any (strOfNums xs) w hb3)
        rw [hb2] at X1
        rw [e1] at R1 S1
        clear hr e1 hb1 hb2 hb3
        generalize strOfNums xs = x at *
        go_wp2_with fail
        refine (R1.out _).mono ?_
        rintro e w5 ⟨rfl, hb⟩
        have hB5 := hB4.trans (hb.mono hB4.size)
        clear hB4 hb R1
        go_wp2_with fail
        refine (S1.out _).mono ?_
        rintro e w6 ⟨rfl, hb⟩
        have hB6 := hB5.trans (hb.mono hB5.size)
        clear hB5 hb S1
        go_wp2_with fail
        refine (S2.out _).mono ?_
        rintro e w7 ⟨rfl, rfl⟩
        go_wp2_with fail
        refine (D1.out _ (HV.out.below hB6).tab).mono ?_
        rintro e w8 ⟨rfl, hb⟩
        have hB8 := hB6.trans (hb.mono hB6.size)
        clear hB6 hb
        go_wp2_with fail
        refine (X1.out _).mono ?_
        rintro e w9 ⟨rfl, hb⟩
        have hB9 := hB8.trans (hb.mono hB8.size)
        clear hB8 hb
        go_wp2
        go_ret
        exact ⟨rfl, hB9⟩
    · have z1 : n < 0 := by omega
      clear hw
      cases hr : readL h.data.toList with
      | none =>
        rw [hr] at R1 S1
        have e1 : rdv none = .tuple #[.string ByteArray.empty, .bool false] := rfl
        rw [e1] at R1 S1
        clear hr e1
        go_wp2_with fail
        refine (R1.out _).mono ?_
        rintro e w5 ⟨rfl, hb⟩
        have hB5 := hB4.trans (hb.mono hB4.size)
        clear hB4 hb R1
        go_wp2_with fail
        refine (S1.out _).mono ?_
        rintro e w6 ⟨rfl, hb⟩
        have hB6 := hB5.trans (hb.mono hB5.size)
        clear hB5 hb S1
        go_wp2_with fail
        refine (S2.out _).mono ?_
        rintro e w7 ⟨rfl, rfl⟩
        go_wp2
        go_ret
        exact ⟨rfl, hB6⟩
      | some xs =>
        rw [hr] at R1 S1
        have e1 : rdv (some xs) = .tuple #[.string (strOfNums xs), .bool true] := rfl
        have hb1 := read_hex _ _ _ (Nat.le_refl _) hr
        have hb2 : strOfNums (hexL (strOfNums xs).data.toList) = h := by rw [strOf_bytes xs, data_of, strOf_bytes, hb1, of_data]
        have hb3 : (strOfNums xs).size ≤ 2000000 := by
          have := congrArg ByteArray.size hb2
          rw [strOfNums_size, hexL_size] at this
          omega
        have X1 := Lib.hid (fun w => ihex_any (strOfNums xs) w hb3)
        rw [hb2] at X1
        rw [e1] at R1 S1
        clear hr e1 hb1 hb2 hb3
        generalize strOfNums xs = x at *
        go_wp2_with fail
        refine (R1.out _).mono ?_
        rintro e w5 ⟨rfl, hb⟩
        have hB5 := hB4.trans (hb.mono hB4.size)
        clear hB4 hb R1
        go_wp2_with fail
        refine (S1.out _).mono ?_
        rintro e w6 ⟨rfl, hb⟩
        have hB6 := hB5.trans (hb.mono hB5.size)
        clear hB5 hb S1
        go_wp2_with fail
        refine (S2.out _).mono ?_
        rintro e w7 ⟨rfl, rfl⟩
        go_wp2_with fail
        refine (X1.out _).mono ?_
        rintro e w7 ⟨rfl, hb⟩
        have hB7 := hB6.trans (hb.mono hB6.size)
        clear hB6 hb
        go_wp2
        go_ret
        exact ⟨rfl, hB7⟩
  · have HB := Lib.hid (fun w => big_true a0 len0 cap0 w hbig)
    clear hbig
    go_enter Tryd.func4, Tryd.ntmps4
    go_wp2_with fail
    refine (HB.out _).mono ?_
    rintro e w1 ⟨rfl, rfl⟩
    go_wp2
    go_ret
    exact ⟨rfl, Below.refl _ _⟩
end Go.Proofs.YthmdbjjhhemjoaaDoor
