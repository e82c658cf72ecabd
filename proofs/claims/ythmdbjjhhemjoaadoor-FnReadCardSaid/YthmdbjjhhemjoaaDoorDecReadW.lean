/- FnDec and FnRead, walked: numbers and bytes come back from their texts; what is read from digits is written with them. -/
import Derived.Test.YthmdbjjhhemjoaaDoorBent
import Derived.Test.YthmdbjjhhemjoaaDoorDec
import Derived.Test.YthmdbjjhhemjoaaDoorRead
namespace Go.Proofs.YthmdbjjhhemjoaaDoor
open Go.ChangeShapes Go.WideShapes Go.ChangeAt Go.RowKit
open Go.Lib (itoa decDigits itoa_nonneg)
set_option linter.unusedVariables false

def bytesOf (xs : List Int) : List UInt8 := xs.map fun n => UInt8.ofNat n.toNat
theorem strOf_bytes (xs : List Int) : strOfNums xs = ⟨(bytesOf xs).toArray⟩ := rfl
theorem hdig_hi : ∀ c : Fin 256, hexVal (UInt8.ofNat (hdig (c.val / 16)).toNat).toNat = ((c.val / 16 : Nat) : Int) := by decide +kernel
theorem hdig_lo : ∀ c : Fin 256, hexVal (UInt8.ofNat (hdig (c.val % 16)).toNat).toNat = ((c.val % 16 : Nat) : Int) := by decide +kernel
theorem hex_read : ∀ l : List UInt8, readL (bytesOf (hexL l)) = some (l.map fun c => (c.toNat : Int))
  | [] => rfl
  | c :: r => by
    have ih := hex_read r
    have h1 := hdig_hi ⟨c.toNat, c.toNat_lt⟩
    have h2 := hdig_lo ⟨c.toNat, c.toNat_lt⟩
    simp only at h1 h2
    have e : bytesOf (hexL (c :: r)) = UInt8.ofNat (hdig (c.toNat / 16)).toNat :: UInt8.ofNat (hdig (c.toNat % 16)).toNat :: bytesOf (hexL r) := rfl
    rw [e]
    simp only [readL, h1, h2, ih]
    rw [if_neg (by omega)]
    simp only [Option.map_some, List.map_cons]
    congr 2
    omega
theorem bytes_back (l : List UInt8) : bytesOf (l.map fun c => (c.toNat : Int)) = l := by
  unfold bytesOf
  rw [List.map_map]
  conv => rhs; rw [← List.map_id l]
  apply List.map_congr_left
  intro c _
  simp
theorem hex_dig : ∀ c : Fin 256, 0 ≤ hexVal c.val → UInt8.ofNat (hdig (hexVal c.val).toNat).toNat = UInt8.ofNat c.val := by decide +kernel
theorem read_hex : ∀ (n : Nat) (l : List UInt8) (xs : List Int), l.length ≤ n → readL l = some xs → bytesOf (hexL (bytesOf xs)) = l
  | _, [], xs, _, h => by simp only [readL, Option.some.injEq] at h; subst h; rfl
  | _, [a], xs, _, h => by simp [readL] at h
  | 0, a :: b :: r, xs, hn, h => by simp at hn
  | n + 1, a :: b :: r, xs, hn, h => by
    simp only [readL] at h
    split at h
    · cases h
    · rename_i hp
      obtain ⟨ys, hy, rfl⟩ := Option.map_eq_some_iff.1 h
      have ih := read_hex n r ys (by simp at hn; omega) hy
      have ha := hexVal_bd a.toNat
      have hb := hexVal_bd b.toNat
      have ea := hex_dig ⟨a.toNat, a.toNat_lt⟩ (by simp only; omega)
      have eb := hex_dig ⟨b.toNat, b.toNat_lt⟩ (by simp only; omega)
      simp only [UInt8.ofNat_toNat] at ea eb
      have ev : (UInt8.ofNat (16 * hexVal a.toNat + hexVal b.toNat).toNat).toNat = (16 * hexVal a.toNat + hexVal b.toNat).toNat := by
        rw [UInt8.toNat_ofNat']; omega
      have e : bytesOf (hexL (bytesOf ((16 * hexVal a.toNat + hexVal b.toNat) :: ys))) =
          UInt8.ofNat (hdig ((UInt8.ofNat (16 * hexVal a.toNat + hexVal b.toNat).toNat).toNat / 16)).toNat :: UInt8.ofNat (hdig ((UInt8.ofNat (16 * hexVal a.toNat + hexVal b.toNat).toNat).toNat % 16)).toNat :: bytesOf (hexL (bytesOf ys)) := rfl
      rw [e, ev, ih, show (16 * hexVal a.toNat + hexVal b.toNat).toNat / 16 = (hexVal a.toNat).toNat by omega, show (16 * hexVal a.toNat + hexVal b.toNat).toNat % 16 = (hexVal b.toNat).toNat by omega, ea, eb]
theorem data_of (l : List UInt8) : (⟨l.toArray⟩ : ByteArray).data.toList = l := by simp
theorem of_data (s : ByteArray) : (⟨s.data.toList.toArray⟩ : ByteArray) = s := by apply ByteArray.ext; simp

theorem decOf_itoa (n : Int) : decOf (itoa n) = if 0 ≤ n ∧ n ≤ 999999999 then n else -1 := by
  by_cases h : 0 ≤ n ∧ n ≤ 999999999
  · rw [if_pos h]
    obtain ⟨u, rfl⟩ : ∃ u : Nat, n = u := ⟨n.toNat, by omega⟩
    rw [itoa_nonneg, decOf_digits _ (decDigits_ne u) (decDigits_all u) (decDigits_len 9 u (by omega) (by have h9 : (10 : Nat) ^ 9 = 1000000000 := rfl; omega)), val_decDigits, if_pos rfl]
  · rw [if_neg h]
    refine decOf_none _ fun v hv e => ?_
    by_cases hn : n < 0
    · unfold itoa at e
      rw [if_pos hn] at e
      have := decDigits_all v 45 (by rw [e]; simp)
      cases this
    · obtain ⟨u, rfl⟩ : ∃ u : Nat, n = u := ⟨n.toNat, by omega⟩
      rw [itoa_nonneg] at e
      have h1 := val_decDigits v
      have h2 := val_decDigits u
      rw [e] at h1
      omega
theorem decOf_text (l : List UInt8) (h : 0 ≤ decOf l) : itoa (decOf l) = l := by
  rcases ha : Lib.atoiAll l with v | _ | _
  · rw [decOf_ok ha] at h ⊢
    split at h
    · rename_i hp
      rw [if_pos hp]; exact hp.2.2
    · omega
  · rw [not_ok_syntax ha] at h; omega
  · rw [not_ok_range ha] at h; omega

theorem gSyn : Tryd.prog.globalNamed "strconv.ErrSyntax" = some 0 := by kernel_rfl
theorem gRng : Tryd.prog.globalNamed "strconv.ErrRange" = some 1 := by kernel_rfl
theorem var_lt {P : Program} {w : World} {nm : String} {g : Nat} {cs : Array Value} (hg : P.globalNamed nm = some g) (h : World.var? P w nm = some cs) : g < w.heap.size := by
  unfold World.var? at h
  rw [hg] at h
  simp only [Option.bind_some] at h
  rcases Nat.lt_or_ge g w.heap.size with h' | h'
  · exact h'
  · rw [Array.getElem?_eq_none h'] at h; cases h
theorem DecVars.below {w w' : World} (h : DecVars w) (hb : Below w.heap.size w w') : DecVars w' := by
  obtain ⟨h1, ⟨t1, p1, h2⟩, ⟨t2, p2, h3⟩⟩ := h
  exact ⟨tab_below h1 hb, ⟨t1, p1, var?_below hb gSyn (var_lt gSyn h2) h2⟩, ⟨t2, p2, var?_below hb gRng (var_lt gRng h3) h3⟩⟩

theorem itoa_size (n : Int) (h1 : -9223372036854775808 ≤ n) (h2 : n ≤ 9223372036854775807) : (itoa n).length ≤ 20 := by
  have h19 : (10 : Nat) ^ 19 = 10000000000000000000 := rfl
  unfold itoa
  split
  · have := decDigits_len 19 n.natAbs (by omega) (by omega)
    simp; omega
  · have := decDigits_len 19 n.toNat (by omega) (by omega)
    omega

set_option maxRecDepth 100000 in
set_option maxHeartbeats 2000000 in
theorem fndec_walk (a0 : Option Addr) (len0 cap0 : Nat) (z0 : List Int) (w : World) (w0 : IsRow .u8 w a0 len0 cap0 z0) (hV : DecVars w) :
    Calls Tryd.prog 3 #[.slice a0 len0 cap0] w fun e w' => e = .returned (.bool true) ∧ Below w.heap.size w w' := by
  by_cases hbig : len0 ≤ 1048576
  · have hcode := codeAt_of w0 hbig
    clear w0
    have HC := Lib.hid hcode; have HV := Lib.hid hV
    clear hcode hV
    go_enter Tryd.func3, Tryd.ntmps3
    go_wp2_with fail
    refine (big_any _ _ _ _ hbig).mono ?_
    rintro e w1 ⟨rfl, rfl⟩
    go_wp2_with fail
    refine (drawdec_any w1.heap.size len0 cap0 a0 z0 w1 HC.out (Nat.le_refl _)).mono ?_
    rintro e w2 ⟨n, rfl, ⟨hn1, hn2⟩, hB⟩
    go_wp2_with fail
    refine (idec_any n w2 hn1 hn2 (HV.out.below hB).tab).mono ?_
    rintro e w3 ⟨rfl, hb⟩
    have hB3 := hB.trans (hb.mono hB.size)
    clear hB hb
    go_wp2_with fail
    refine (drawhex_any w1.heap.size len0 cap0 a0 z0 w3 (HC.out.below hB3) hB3.size).mono ?_
    rintro e w4 ⟨h, rfl, hh, hb⟩
    have hB4 := hB3.trans (hb.mono hB3.size)
    clear hB3 hb
    go_wp2_with fail
    refine (ihex_any h w4 (by omega)).mono ?_
    rintro e w5 ⟨rfl, hb⟩
    have hB5 := hB4.trans (hb.mono hB4.size)
    clear hB4 hb
    have hxs : (strOfNums (hexL h.data.toList)).size ≤ 10 := by rw [strOfNums_size, hexL_size]; omega
    have hrd : readL (strOfNums (hexL h.data.toList)).data.toList = some (h.data.toList.map fun c => (c.toNat : Int)) := by
      rw [strOf_bytes, data_of, hex_read]
    have hbk : rdv (readL (strOfNums (hexL h.data.toList)).data.toList) = .tuple #[.string h, .bool true] := by
      rw [hrd]
      show Value.tuple #[.string (strOfNums _), .bool true] = _
      rw [strOf_bytes, bytes_back, of_data]
    have R1 := Lib.hid (fun w => iread_any (strOfNums (hexL h.data.toList)) w (by omega))
    rw [hbk] at R1
    clear hrd hbk
    have S1 := Lib.hid (fun w => shex_any h w (by omega))
    generalize strOfNums (hexL h.data.toList) = x at *
    go_wp2_with fail
    refine (R1.out _).mono ?_
    rintro e w6 ⟨rfl, hb⟩
    have hB6 := hB5.trans (hb.mono hB5.size)
    clear hB5 hb R1
    have D1 := Lib.hid (fun w => sdec_any n w hn1 hn2)
    have hsz := itoa_size n hn1 hn2
    have R2 := Lib.hid (fun w hv => ireaddec_any (⟨(itoa n).toArray⟩ : ByteArray) w (by simp [ByteArray.size]; omega) hv)
    rw [data_of, decOf_itoa] at R2
    generalize (⟨(itoa n).toArray⟩ : ByteArray) = t at *
    clear hsz
    go_wp2_with fail
    refine (D1.out _).mono ?_
    rintro e w7 ⟨rfl, rfl⟩
    go_wp2_with fail
    refine (S1.out _).mono ?_
    rintro e w8 ⟨rfl, hb⟩
    have hB8 := hB6.trans (hb.mono hB6.size)
    clear hB6 hb S1 D1
    by_cases h0 : 0 ≤ n
    · by_cases h9 : n ≤ 999999999
      · rw [if_pos ⟨h0, h9⟩] at R2
        go_wp2_with fail
        refine (R2.out _ (HV.out.below hB8)).mono ?_
        rintro e w9 ⟨rfl, hb⟩
        have hB9 := hB8.trans (hb.mono hB8.size)
        go_wp2
        go_ret
        exact ⟨by simp, hB9⟩
      · rw [if_neg (by omega)] at R2
        go_wp2_with fail
        refine (R2.out _ (HV.out.below hB8)).mono ?_
        rintro e w9 ⟨rfl, hb⟩
        have hB9 := hB8.trans (hb.mono hB8.size)
        go_wp2
        go_ret
        exact ⟨by simp, hB9⟩
    · rw [if_neg (by omega)] at R2
      go_wp2_with fail
      refine (R2.out _ (HV.out.below hB8)).mono ?_
      rintro e w9 ⟨rfl, hb⟩
      have hB9 := hB8.trans (hb.mono hB8.size)
      go_wp2
      go_ret
      exact ⟨by simp, hB9⟩
  · have HB := Lib.hid (fun w => big_true a0 len0 cap0 w hbig)
    clear hbig
    go_enter Tryd.func3, Tryd.ntmps3
    go_wp2_with fail
    refine (HB.out _).mono ?_
    rintro e w1 ⟨rfl, rfl⟩
    go_wp2
    go_ret
    exact ⟨rfl, Below.refl _ _⟩
end Go.Proofs.YthmdbjjhhemjoaaDoor
