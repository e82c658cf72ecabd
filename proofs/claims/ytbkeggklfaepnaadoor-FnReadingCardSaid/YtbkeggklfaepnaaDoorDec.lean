/- The walks of DecText and ReadDec, both. -/
import Derived.Test.YtbkeggklfaepnaaDoorRows
import Derived.WalkKit
import Derived.ProofKit
import Derived.OpenShut
import Derived.ShutString
import Derived.Below
import Derived.Outline
import Derived.WalkSpells
import Derived.WalkLawsBesides
import Derived.Lib.Hide
import Derived.Lib.AppendIntMem
import Derived.Lib.SmallJoins
import Derived.WalkSmall
import Derived.WideLaws
import Derived.Test.YtbkeggklfaepnaaDoorDig
import Derived.Test.YtbkeggklfaepnaaDoorShelf
import Derived.Test.YtbkeggklfaepnaaDoorDecM
namespace Go.Proofs.YtbkeggklfaepnaaDoor
open Go.ChangeShapes Go.WideShapes Go.ChangeAt Go.RowKit
set_option linter.unusedVariables false

theorem idec_any (n : Int) (w : World) (h1 : -9223372036854775808 ≤ n) (h2 : n ≤ 9223372036854775807) (hT : Lib.TabIs Tryd.prog w "internal/strconv.uint64pow10" IntKind.u64 Lib.pow10Tab) :
    Calls Tryd.prog 39 #[.int .i64 n] w fun e w' => e = .returned (.string ⟨(Lib.itoa n).toArray⟩) ∧ Below w.heap.size w w' := by
  have H := Lib.hid (Tryd.strconv_Itoa n h1 h2 w hT)
  clear hT
  go_enter Tryd.func39, Tryd.ntmps39
  go_wp2_with fail
  refine H.out.mono ?_
  rintro e w' ⟨rfl, k, os, rfl⟩
  have hb := Lib.below_grow w.heap.size w (Nat.le_refl _) k os
  go_wp2
  go_ret
  exact ⟨rfl, hb⟩

def digS : ByteArray := ⟨#[48, 49, 50, 51, 52, 53, 54, 55, 56, 57]⟩
theorem dig_slice (d : Nat) (h : d < 10) : digS.extract d (d + 1) = ⟨#[UInt8.ofNat (48 + d)]⟩ := by
  have : d = 0 ∨ d = 1 ∨ d = 2 ∨ d = 3 ∨ d = 4 ∨ d = 5 ∨ d = 6 ∨ d = 7 ∨ d = 8 ∨ d = 9 := by omega
  rcases this with rfl | rfl | rfl | rfl | rfl | rfl | rfl | rfl | rfl | rfl <;> decide +kernel
/-- a numeral, of which the digits of u are still to come ahead of o -/
def DecInv (N u : Nat) (o : List UInt8) : Prop := (u = 0 → o = Lib.decDigits N) ∧ (u ≠ 0 → Lib.decDigits u ++ o = Lib.decDigits N)
theorem DecInv.step {N u : Nat} {o : List UInt8} (h : DecInv N u o) (hu : u ≠ 0) : DecInv N (u / 10) (UInt8.ofNat (48 + u % 10) :: o) := by
  have h1 := h.2 hu
  by_cases hs : u < 10
  · refine ⟨fun _ => ?_, fun h0 => by omega⟩
    rw [decDigits_lt u hs] at h1
    rw [← h1, Nat.mod_eq_of_lt hs]; rfl
  · refine ⟨fun h0 => by omega, fun _ => ?_⟩
    rw [decDigits_ge u hs] at h1
    rw [← h1]; simp
def LenInv (u : Nat) (l : List UInt8) : Prop := l.length ≤ 20 ∧ (u ≠ 0 → l.length + (Lib.decDigits u).length ≤ 20)
theorem LenInv.step {u : Nat} {l : List UInt8} (h : LenInv u l) (hu : u ≠ 0) (c : UInt8) : LenInv (u / 10) (c :: l) := by
  have h1 := h.2 hu
  by_cases hs : u < 10
  · rw [decDigits_lt u hs] at h1
    simp only [List.length_cons, List.length_nil] at h1
    exact ⟨by rw [List.length_cons]; omega, fun h0 => by omega⟩
  · rw [decDigits_ge u hs] at h1
    simp only [List.length_append, List.length_cons, List.length_nil] at h1
    exact ⟨by rw [List.length_cons]; omega, fun _ => by rw [List.length_cons]; omega⟩
theorem dec_cat (d : Nat) (h : d < 10) (o : List UInt8) : digS.extract d (d + 1) ++ (⟨o.toArray⟩ : ByteArray) = ⟨(UInt8.ofNat (48 + d) :: o).toArray⟩ := by
  rw [dig_slice d h]; apply ByteArray.ext; simp

set_option maxHeartbeats 400000 in
theorem sdec_pos (N : Nat) (w : World) (h1 : 1 ≤ N) (h2 : (N : Int) ≤ 9223372036854775807) :
    Calls Tryd.prog 41 #[.int .i64 N] w fun e w' => e = .returned (.string ⟨(Lib.decDigits N).toArray⟩) ∧ w' = w := by
  have e0 : ((N : Int) == 0) = false := by rw [beq_eq_false_iff_ne]; omega
  go_enter Tryd.func41, Tryd.ntmps41
  go_wp2
  go_loop [3, 4, 5] (fun o m _ => ∃ (u : Nat) (l : List UInt8), m = .int .i64 u ∧ u ≤ N ∧ o = .string ⟨l.toArray⟩ ∧ l.length ≤ N - u ∧ Hid (DecInv N u l)) (fun _ m _ => (intOf m).toNat)
  case atStart => exact ⟨N, [], rfl, Nat.le_refl _, rfl, by simp, ⟨fun h => by omega, fun _ => by simp⟩⟩
  case round =>
    obtain ⟨u, l, rfl, hu, rfl, hl, hinv⟩ := hrel
    by_cases hz : u = 0
    · subst hz
      have HL := Lib.hid (hinv.out.1 rfl)
      go_wp2
      go_ret
      exact ⟨by rw [← HL.out]; rfl, rfl⟩
    · have hs := hinv.out.step hz
      have HS := Lib.hid hs; clear hs
      go_wp2
      exact ⟨⟨u / 10, UInt8.ofNat (48 + u % 10) :: l, by go_num, by omega, by rw [← dec_cat _ (by omega)]; rfl, by rw [List.length_cons]; omega, HS.out⟩, by simp [intOf]; omega⟩

set_option maxHeartbeats 400000 in
theorem sdec_neg (N : Nat) (w : World) (h1 : 1 ≤ N) (h2 : (N : Int) ≤ 9223372036854775808) :
    Calls Tryd.prog 41 #[.int .i64 (-(N : Int))] w fun e w' => e = .returned (.string ⟨(45 :: Lib.decDigits N).toArray⟩) ∧ w' = w := by
  have e0 : ((-(N : Int)) == 0) = false := by rw [beq_eq_false_iff_ne]; omega
  have en : (-(N : Int)) < 0 := by omega
  go_enter Tryd.func41, Tryd.ntmps41
  go_wp2
  go_loop [3, 4, 5] (fun o m _ => ∃ (u : Nat) (l : List UInt8), m = .int .i64 (-(u : Int)) ∧ u ≤ N ∧ o = .string ⟨l.toArray⟩ ∧ l.length ≤ 20 ∧ Hid (DecInv N u l ∧ LenInv u l)) (fun _ m _ => (-(intOf m)).toNat)
  case atStart => exact ⟨N, [], rfl, Nat.le_refl _, rfl, by simp, ⟨⟨fun h => by omega, fun _ => by simp⟩, ⟨by simp, fun _ => by have := decDigits_len 19 N (by omega) (by have h9 : (10 : Nat) ^ 19 = 10000000000000000000 := rfl; omega); simp; omega⟩⟩⟩
  case round =>
    obtain ⟨u, l, rfl, hu, rfl, hl, hinv⟩ := hrel
    by_cases hz : u = 0
    · subst hz
      have HL := Lib.hid (hinv.out.1.1 rfl)
      go_wp2
      go_ret
      exact ⟨by rw [← HL.out]; show Ending.returned (Value.string _) = _; congr 2, rfl⟩
    · have hs := hinv.out.1.step hz
      have HS := Lib.hid hs; clear hs
      have HL2 := Lib.hid (hinv.out.2.step hz (UInt8.ofNat (48 + u % 10)))
      have e1 : ((-(u : Int)) != 0) = true := by rw [bne_iff_ne]; omega
      have e2 : (-(u : Int)).tmod 10 = -((u : Int) % 10) := by rw [Int.neg_tmod, Int.tmod_eq_emod_of_nonneg (by omega)]
      have e3 : (-(u : Int)).tdiv 10 = -((u : Int) / 10) := by rw [Int.neg_tdiv, Int.tdiv_eq_ediv_of_nonneg (by omega)]
      by_cases hd : u % 10 = 0
      · have e4 : (u : Int) % 10 = 0 := by omega
        go_wp2
        exact ⟨⟨u / 10, UInt8.ofNat (48 + u % 10) :: l, by simp, by omega, by rw [hd]; exact congrArg Value.string (dec_cat 0 (by omega) l), HL2.out.1, HS.out, HL2.out⟩, by simp [intOf]; omega⟩
      · have e4 : 0 < (u : Int) % 10 := by omega
        go_wp2
        exact ⟨⟨u / 10, UInt8.ofNat (48 + u % 10) :: l, by simp, by omega, congrArg Value.string (dec_cat (u % 10) (by omega) l), HL2.out.1, HS.out, HL2.out⟩, by simp [intOf]; omega⟩

theorem sdec_any (n : Int) (w : World) (h1 : -9223372036854775808 ≤ n) (h2 : n ≤ 9223372036854775807) :
    Calls Tryd.prog 41 #[.int .i64 n] w fun e w' => e = .returned (.string ⟨(Lib.itoa n).toArray⟩) ∧ w' = w := by
  by_cases hneg : n < 0
  · obtain ⟨N, rfl⟩ : ∃ N : Nat, n = -(N : Int) := ⟨n.natAbs, by omega⟩
    rw [Lib.itoa_neg N (by omega)]
    exact sdec_neg N w (by omega) (by omega)
  · obtain ⟨N, rfl⟩ : ∃ N : Nat, n = (N : Int) := ⟨n.toNat, by omega⟩
    rw [Lib.itoa_nonneg]
    by_cases h0 : N = 0
    · subst h0
      have hd : Lib.decDigits 0 = [48] := decDigits_lt 0 (by omega)
      rw [hd]
      go_enter Tryd.func41, Tryd.ntmps41
      go_wp2
      go_ret
      exact ⟨rfl, rfl⟩
    · exact sdec_pos N w (by omega) h2

/-- what ReadDec leans on: strconv's table, and its two errors -/
structure DecVars (w : World) : Prop where
  tab : Lib.TabIs Tryd.prog w "internal/strconv.uint64pow10" IntKind.u64 Lib.pow10Tab
  syn : ∃ tp p, World.var? Tryd.prog w "strconv.ErrSyntax" = some #[.iface tp p]
  rng : ∃ tp p, World.var? Tryd.prog w "strconv.ErrRange" = some #[.iface tp p]
theorem gPow : Tryd.prog.globalNamed "internal/strconv.uint64pow10" = some 3 := by kernel_rfl

theorem tab_below {w w' : World} (h : Lib.TabIs Tryd.prog w "internal/strconv.uint64pow10" IntKind.u64 Lib.pow10Tab) (hb : Below w.heap.size w w') : Lib.TabIs Tryd.prog w' "internal/strconv.uint64pow10" IntKind.u64 Lib.pow10Tab :=
by
  refine var?_below hb gPow ?_ h
  unfold Lib.TabIs World.var? at h
  rw [gPow] at h
  simp only [Option.bind_some] at h
  rcases Nat.lt_or_ge 3 w.heap.size with h' | h'
  · exact h'
  · rw [Array.getElem?_eq_none h'] at h; cases h

theorem not_ok_syntax {l : List UInt8} (h : Lib.atoiAll l = Lib.NumEnd.syntax) : decOf l = -1 := by simp [decOf, h]
theorem not_ok_range {l : List UInt8} (h : Lib.atoiAll l = .range) : decOf l = -1 := by simp [decOf, h]
theorem decOf_ok {l : List UInt8} {v : Int} (h : Lib.atoiAll l = .ok v) : decOf l = if 0 ≤ v ∧ v ≤ 999999999 ∧ Lib.itoa v = l then v else -1 := by simp [decOf, h]
theorem str_eq (s : ByteArray) (l : List UInt8) : (⟨l.toArray⟩ : ByteArray) = s ↔ l = s.data.toList := by
  constructor
  · intro h; rw [← h]
  · intro h; subst h; rfl

set_option maxHeartbeats 400000 in
theorem ireaddec_any (s : ByteArray) (w : World) (hs : s.size ≤ 2000000) (hv : DecVars w) :
    Calls Tryd.prog 48 #[.string s] w fun e w' => e = .returned (.int .i64 (decOf s.data.toList)) ∧ Below w.heap.size w w' := by
  rcases ha : Lib.atoiAll s.data.toList with v | _ | _
  rotate_left
  · skip
    obtain ⟨tp, p, hp⟩ := hv.syn
    have H := Lib.hid (Tryd.strconv_Atoi_syntax_var s (by omega) ha tp p w hp)
    have HD := Lib.hid (not_ok_syntax ha)
    clear ha hp hv
    go_enter Tryd.func48, Tryd.ntmps48
    go_wp2_with fail
    refine H.out.mono ?_
    clear H
    rintro e w' ⟨N, rfl, hN, hc, hb⟩
    clear hc
    go_wp2
    go_ret
    exact ⟨by rw [HD.out]; rfl, hb⟩
  · skip
    obtain ⟨tp, p, hp⟩ := hv.rng
    have H := Lib.hid (Tryd.strconv_Atoi_range_var s (by omega) ha tp p w hp)
    have HD := Lib.hid (not_ok_range ha)
    clear ha hp hv
    go_enter Tryd.func48, Tryd.ntmps48
    go_wp2_with fail
    refine H.out.mono ?_
    clear H
    rintro e w' ⟨N, rfl, hN, hc, hb⟩
    clear hc
    go_wp2
    go_ret
    exact ⟨by rw [HD.out]; rfl, hb⟩
  · skip
    have hbd := Lib.atoiAll_bounds ha
    have H := Lib.hid (Tryd.strconv_Atoi_ok s (by omega) v ha w)
    have hd := decOf_ok ha
    have hT := Lib.hid hv.tab
    clear ha hv
    by_cases h0 : v < 0
    · rw [if_neg (by omega)] at hd
      have HD := Lib.hid hd; clear hd
      go_enter Tryd.func48, Tryd.ntmps48
      go_wp2_with fail
      refine H.out.mono ?_
      clear H
      rintro e w' ⟨rfl, hw⟩
      have hb : Below w.heap.size w w' := by
        rcases hw with rfl | ⟨t, rfl⟩
        · exact Below.refl _ _
        · exact Joins.below_bytesWorld _ _ _ _ (Nat.le_refl _)
      clear hw
      go_wp2
      go_ret
      exact ⟨by rw [HD.out]; rfl, hb⟩
    · by_cases h1 : 999999999 < v
      · rw [if_neg (by omega)] at hd
        have HD := Lib.hid hd; clear hd
        go_enter Tryd.func48, Tryd.ntmps48
        go_wp2_with fail
        refine H.out.mono ?_
        clear H
        rintro e w' ⟨rfl, hw⟩
        have hb : Below w.heap.size w w' := by
          rcases hw with rfl | ⟨t, rfl⟩
          · exact Below.refl _ _
          · exact Joins.below_bytesWorld _ _ _ _ (Nat.le_refl _)
        clear hw
        go_wp2
        go_ret
        exact ⟨by rw [HD.out]; rfl, hb⟩
      · have h0' : 0 ≤ v := by omega
        have h1' : v ≤ 999999999 := by omega
        clear h0 h1
        by_cases he : Lib.itoa v = s.data.toList
        · rw [if_pos ⟨by omega, by omega, he⟩] at hd
          have HD := Lib.hid hd; clear hd
          have hne : (Lib.itoa v == s.toList) = true := by rw [beq_iff_eq, he, Lib.toList_data]
          have HE := Lib.hid he; clear he
          go_enter Tryd.func48, Tryd.ntmps48
          go_wp2_with fail
          refine H.out.mono ?_
          clear H
          rintro e w' ⟨rfl, hw⟩
          have hb : Below w.heap.size w w' := by
            rcases hw with rfl | ⟨t, rfl⟩
            · exact Below.refl _ _
            · exact Joins.below_bytesWorld _ _ _ _ (Nat.le_refl _)
          clear hw
          have HT := Lib.hid (tab_below hT.out hb)
          go_wp2_with (go_at_call 39; refine (idec_any _ _ (by omega) (by omega) HT.out).mono ?_; rintro e w2 ⟨rfl, hb2⟩)
          go_ret
          exact ⟨by rw [HD.out]; rfl, hb.trans (hb2.mono hb.size)⟩
        · rw [if_neg (fun x => he x.2.2)] at hd
          have HD := Lib.hid hd; clear hd
          have hne : (Lib.itoa v == s.toList) = false := by rw [beq_eq_false_iff_ne, Lib.toList_data]; exact he
          have HE := Lib.hid he; clear he
          go_enter Tryd.func48, Tryd.ntmps48
          go_wp2_with fail
          refine H.out.mono ?_
          clear H
          rintro e w' ⟨rfl, hw⟩
          have hb : Below w.heap.size w w' := by
            rcases hw with rfl | ⟨t, rfl⟩
            · exact Below.refl _ _
            · exact Joins.below_bytesWorld _ _ _ _ (Nat.le_refl _)
          clear hw
          have HT := Lib.hid (tab_below hT.out hb)
          go_wp2_with (go_at_call 39; refine (idec_any _ _ (by omega) (by omega) HT.out).mono ?_; rintro e w2 ⟨rfl, hb2⟩)
          go_ret
          exact ⟨by rw [HD.out]; rfl, hb.trans (hb2.mono hb.size)⟩

theorem digAt (c : UInt8) (h : isDig c = true) : (decide (48 ≤ c.toNat) && decide (c.toNat ≤ 57)) = true := h
theorem val_take (s : ByteArray) (k : Nat) (h : k < s.size) : valFrom 0 (s.data.toList.take (k + 1)) = valFrom 0 (s.data.toList.take k) * 10 + (s[k].toNat - 48) := by
  rw [take_snoc s k h, valFrom_append]; rfl
set_option maxHeartbeats 800000 in
theorem sreaddec_any (s : ByteArray) (w : World) (hs : s.size ≤ 2000000) :
    Calls Tryd.prog 49 #[.string s] w fun e w' => e = .returned (.int .i64 (decOf s.data.toList)) ∧ w' = w := by
  have hlen : s.data.toList.length = s.size := by simp
  go_enter Tryd.func49, Tryd.ntmps49
  go_wp2
  go_loop [3, 4] (fun n i => ∃ k : Nat, k ≤ s.size ∧ i = .int .i64 k ∧ n = .int .i64 (valFrom 0 (s.data.toList.take k)) ∧ valFrom 0 (s.data.toList.take k) ≤ 999999999 ∧ (k ≠ 0 → s.size ≤ 9) ∧ Hid (∀ c ∈ s.data.toList.take k, isDig c = true)) (fun _ i => s.size - (intOf i).toNat)
  case atStart => exact ⟨0, Nat.zero_le _, rfl, rfl, by simp [valFrom], fun h => absurd rfl h, fun c hc => by simp at hc⟩
  case round =>
    obtain ⟨k, hk, rfl, rfl, hv9, hk9, hall⟩ := hrel
    have HLEN := Lib.hid hlen; clear hlen
    by_cases hlt : k < s.size
    · have h0 : (0 : Int) ≤ (k : Int) := Int.natCast_nonneg _
      have h1 : (k : Int) < (s.size : Int) := by omega
      have hcb := s[k].toNat_lt
      by_cases hd : isDig s[k] = true
      · have hdb : (decide (48 ≤ s[k].toNat) && decide (s[k].toNat ≤ 57)) = true := hd
        by_cases h9 : s.size ≤ 9
        · have hvt := val_take s k hlt
          have hall2 : ∀ c ∈ s.data.toList.take (k + 1), isDig c = true := by
            rw [take_snoc s k hlt]; intro c hc
            rcases List.mem_append.1 hc with hc | hc
            · exact hall.out c hc
            · rw [List.mem_singleton] at hc; subst hc; exact hd
          have hlt9 : valFrom 0 (s.data.toList.take (k + 1)) ≤ 999999999 := by
            have h1 := valFrom_lt (s.data.toList.take (k + 1)) 0 0 hall2 (by simp)
            have h2 : (10 : Nat) ^ (0 + (s.data.toList.take (k + 1)).length) ≤ 10 ^ 9 := Nat.pow_le_pow_right (by omega) (by have := List.length_take_le (k + 1) s.data.toList; omega)
            have h3 : (10 : Nat) ^ 9 = 1000000000 := rfl
            omega
          have hdd : 48 ≤ s[k].toNat ∧ s[k].toNat ≤ 57 := by simpa [isDig] using hd
          have HV := Lib.hid hvt; have HA := Lib.hid hall2; clear hvt hall2 hd
          generalize hg : valFrom 0 (s.data.toList.take k) = V at *
          have HG := Lib.hid hg; clear hg
          go_wp2_with (go_at_call 62; refine (digit_any _ (by omega) _).mono ?_; rintro e w' ⟨rfl, rfl⟩)
          go_round
          case rel => exact ⟨k + 1, by omega, by go_num, by rw [HV.out]; go_num, hlt9, fun _ => h9, HA.out⟩
          case measure => simp [intOf]; omega
        · have HD := Lib.hid (decOf_long s.data.toList (by have := HLEN.out; omega))
          clear hd
          have h9' : 9 < s.size := by omega
          go_wp2_with (go_at_call 62; refine (digit_any _ (by omega) _).mono ?_; rintro e w' ⟨rfl, rfl⟩)
          go_ret
          exact ⟨by rw [HD.out]; rfl, rfl⟩
      · have hdb : (decide (48 ≤ s[k].toNat) && decide (s[k].toNat ≤ 57)) = false := by simpa [isDig] using hd
        have HD := Lib.hid (decOf_bad s.data.toList ⟨s[k], by rw [ByteArray.getElem_eq_getElem_data]; simp, by simpa using hd⟩)
        clear hd
        go_wp2_with (go_at_call 62; refine (digit_any _ (by omega) _).mono ?_; rintro e w' ⟨rfl, rfl⟩)
        go_ret
        exact ⟨by rw [HD.out]; rfl, rfl⟩
    · obtain rfl : k = s.size := by omega
      rw [List.take_of_length_le (by simp)] at hv9 hall ⊢
      by_cases h0 : s.size = 0
      · have hn : s.data.toList = [] := List.length_eq_zero_iff.1 (by rw [HLEN.out]; exact h0)
        have HD := Lib.hid (decOf_nil); rw [← hn] at HD
        have he : s.toList.isEmpty = true := by rw [Lib.toList_data, hn]; rfl
        clear hn
        go_wp2
        go_ret
        exact ⟨by rw [HD.out]; rfl, rfl⟩
      · have hne : s.data.toList ≠ [] := fun e => h0 (by rw [← HLEN.out, e]; rfl)
        have hd := decOf_digits s.data.toList hne hall.out (by rw [HLEN.out]; exact hk9 h0)
        have he : s.toList.isEmpty = false := by
          rw [Lib.toList_data]
          cases hh : s.data.toList with
          | nil => exact absurd hh hne
          | cons _ _ => rfl
        have hit := Lib.itoa_nonneg (valFrom 0 s.data.toList)
        generalize hg : valFrom 0 s.data.toList = V at *
        by_cases hq : Lib.decDigits V = s.data.toList
        · rw [if_pos hq] at hd
          have hc : (Lib.itoa (V : Int) == s.toList) = true := by rw [beq_iff_eq, hit, hq, Lib.toList_data]
          have HD := Lib.hid hd
          clear hd hit hq hg hne hall
          go_wp2_with (go_at_call 41; refine (sdec_any _ _ (by omega) (by omega)).mono ?_; rintro e w' ⟨rfl, rfl⟩)
          go_ret
          exact ⟨by rw [HD.out]; rfl, rfl⟩
        · rw [if_neg hq] at hd
          have hc : (Lib.itoa (V : Int) == s.toList) = false := by rw [beq_eq_false_iff_ne, hit, Lib.toList_data]; exact hq
          have HD := Lib.hid hd
          clear hd hit hq hg hne hall
          go_wp2_with (go_at_call 41; refine (sdec_any _ _ (by omega) (by omega)).mono ?_; rintro e w' ⟨rfl, rfl⟩)
          go_ret
          exact ⟨by rw [HD.out]; rfl, rfl⟩
end Go.Proofs.YtbkeggklfaepnaaDoor
