/- Numbers come back from their bytes: the law walked. -/
import Derived.Test.YtnddcjmjolembaaDrawX
import Derived.Test.YtnddcjmjolembaaImplG
namespace Go.Proofs.Ytnddcjmjolembaa
open Go.ChangeShapes Go.WideShapes Go.ChangeAt Go.RowKit
set_option linter.unusedVariables false

theorem leB_getN : ∀ r : List UInt8, leB r.length (getN r.reverse) = r
  | [] => rfl
  | c :: r => by
    have hc := c.toNat_lt
    have ih := leB_getN r
    rw [List.reverse_cons, getN_snoc]
    show UInt8.ofNat ((getN r.reverse * 256 + c.toNat) % 256) :: leB r.length ((getN r.reverse * 256 + c.toNat) / 256) = c :: r
    rw [show (getN r.reverse * 256 + c.toNat) % 256 = c.toNat by omega, show (getN r.reverse * 256 + c.toNat) / 256 = getN r.reverse by omega, ih]
    simp
theorem beL_getN (l : List UInt8) : beL (getN l) l.length = l := by
  have h := leB_getN l.reverse
  rw [List.reverse_reverse, List.length_reverse] at h
  unfold beL
  rw [h, List.reverse_reverse]
theorem getN_leB : ∀ k n : Nat, getN (leB k n).reverse = n % 256 ^ k
  | 0, n => by simp [leB, getN, Nat.mod_one]
  | k + 1, n => by
    have ih := getN_leB k (n / 256)
    show getN (UInt8.ofNat (n % 256) :: leB k (n / 256)).reverse = _
    rw [List.reverse_cons, getN_snoc, ih]
    have e0 : (UInt8.ofNat (n % 256)).toNat = n % 256 := by simp
    rw [e0, Nat.pow_succ, Nat.mul_comm (256 ^ k) 256, Nat.mod_mul]
    omega
theorem putV_getN (l : List UInt8) (h1 : 1 ≤ l.length) (h4 : l.length ≤ 4) : putV (getN l : Nat) (l.length : Nat) = ⟨l.toArray⟩ := by
  unfold putV
  rw [if_neg (by omega)]
  simp only [Int.toNat_natCast, beL_getN]
theorem getV_pos {t : ByteArray} {p b : Int} (h : 0 ≤ getV t p b) : ∃ P K : Nat, p = P ∧ b = K ∧ 1 ≤ K ∧ K ≤ 4 ∧ P + K ≤ t.size ∧ putV (getV t p b) b = t.extract P (P + K) := by
  unfold getV at h ⊢
  split at h
  · omega
  · rename_i hn
    rw [if_neg hn]
    obtain ⟨P, rfl⟩ : ∃ P : Nat, p = P := ⟨p.toNat, by omega⟩
    obtain ⟨K, rfl⟩ : ∃ K : Nat, b = K := ⟨b.toNat, by omega⟩
    refine ⟨P, K, rfl, rfl, by omega, by omega, by omega, ?_⟩
    simp only [Int.toNat_natCast]
    have hl : ((t.data.toList.drop P).take K).length = K := by
      have : t.data.toList.length = t.size := by simp
      simp; omega
    have := putV_getN ((t.data.toList.drop P).take K) (by omega) (by omega)
    rw [hl] at this
    rw [this]
    apply ByteArray.ext
    apply Array.ext'
    simp [ByteArray.data_extract, List.extract]
theorem getV_put (n k : Nat) (h1 : 1 ≤ k) (h4 : k ≤ 4) : getV ((⟨#[120]⟩ : ByteArray) ++ putV n k) 1 k = ((n % 256 ^ k : Nat) : Int) ∧ (putV n k).size = k := by
  have hp : putV n k = ⟨(beL n k).toArray⟩ := by
    unfold putV
    rw [if_neg (by omega)]
    simp
  have hl := beL_len n k
  have hs : (putV n k).size = k := by
    rw [hp]
    show (beL n k).toArray.size = k
    simp [hl]
  refine ⟨?_, hs⟩
  have hsz : ((⟨#[120]⟩ : ByteArray) ++ putV n k).size = k + 1 := by
    rw [ByteArray.size_append, hs]
    show 1 + k = _
    omega
  unfold getV
  rw [if_neg (by omega)]
  have hd : ((⟨#[120]⟩ : ByteArray) ++ putV n k).data.toList = 120 :: beL n k := by
    rw [hp]
    simp
  rw [hd]
  have h0 : (Int.toNat 1) = 1 := rfl
  simp only [h0, Int.toNat_natCast, List.drop_succ_cons, List.drop_zero]
  rw [List.take_of_length_le (by omega)]
  show ((getN (leB k n).reverse : Nat) : Int) = _
  rw [getN_leB]

set_option maxRecDepth 100000 in
set_option maxHeartbeats 2000000 in
theorem fnnum_walk (a0 : Option Addr) (len0 cap0 : Nat) (z0 : List Int) (w : World) (w0 : IsRow .u8 w a0 len0 cap0 z0) :
    Calls Try.prog 3 #[.slice a0 len0 cap0] w fun e w' => e = .returned (.bool true) ∧ Below w.heap.size w w' := by
  by_cases hbig : len0 ≤ 1048576
  · have hcode := codeAt_of w0 hbig
    clear w0
    have HC := Lib.hid hcode
    clear hcode
    go_enter Try.func3, Try.ntmps3
    go_wp2_with fail
    refine (big_any _ _ _ _ hbig).mono ?_
    rintro e w1 ⟨rfl, rfl⟩
    go_wp2_with fail
    refine (drawputnum_any w1.heap.size len0 cap0 a0 z0 w1 HC.out (Nat.le_refl _)).mono ?_
    rintro e w2 ⟨n, k, rfl, hn, hk, hB⟩
    have P1 := Lib.hid (fun w => iput_any n k w hn.2)
    have P2 := Lib.hid (fun w => sput_any n k w hn.2)
    have hps : (putV n k).size ≤ 4 := by
      unfold putV
      split
      · show (0 : Nat) ≤ 4; omega
      · show (beL _ _).toArray.size ≤ 4
        have := beL_len n.toNat k.toNat
        simp; omega
    generalize hv : putV n k = s at *
    have HV := Lib.hid hv; clear hv
    go_wp2_with fail
    refine (P1.out _).mono ?_
    rintro e w3 ⟨rfl, hb⟩
    have hB3 := hB.trans (hb.mono hB.size)
    clear hb hB P1
    go_wp2_with fail
    refine (P2.out _).mono ?_
    rintro e w4 ⟨rfl, hb⟩
    have hB4 := hB3.trans (hb.mono hB3.size)
    clear hb hB3 P2
    go_wp2_with fail
    refine (drawgetnum_any w1.heap.size len0 cap0 a0 z0 w4 (HC.out.below hB4) hB4.size).mono ?_
    rintro e w5 ⟨t, p, b, rfl, ht, hp, hbb, hb⟩
    have hB5 := hB4.trans (hb.mono hB4.size)
    clear hb hB4
    have G1 := Lib.hid (fun w => iget_any t p b w (by omega))
    have G2 := Lib.hid (fun w => sget_any t p b w (by omega))
    have hgp := fun h => getV_pos (t := t) (p := p) (b := b) h
    have hgb : -1 ≤ getV t p b ∧ getV t p b ≤ 4294967295 := by
      unfold getV
      split
      · omega
      · rename_i hnn
        have h1 := getN_lt ((t.data.toList.drop p.toNat).take b.toNat)
        have h2 : ((t.data.toList.drop p.toNat).take b.toNat).length ≤ 4 := by
          have := List.length_take_le b.toNat (t.data.toList.drop p.toNat)
          omega
        have h3 : 256 ^ ((t.data.toList.drop p.toNat).take b.toNat).length ≤ 256 ^ 4 := Nat.pow_le_pow_right (by decide) h2
        have h4 : (256 : Nat) ^ 4 = 4294967296 := rfl
        omega
    generalize getV t p b = m at *
    by_cases hm : 0 ≤ m
    · obtain ⟨P, K, rfl, rfl, hK1, hK4, hPK, hpv⟩ := hgp hm
      have P3 := Lib.hid (fun w => iput_any m K w (by omega))
      rw [hpv] at P3
      clear hpv hgp
      have y1 : (0 : Int) ≤ (P : Int) := by omega
      have y2 : (P : Int) ≤ (P : Int) + (K : Int) := by omega
      have y3 : (P : Int) + (K : Int) ≤ (t.size : Int) := by omega
      have y4 : ¬ (t.size : Int) < (P : Int) + (K : Int) := by omega
      have hBH := Lib.hid hB5
      have ew : IntKind.i64.wrap ((P : Int) + (K : Int)) = (P : Int) + (K : Int) := IntWalk.i64_in _ (by omega)
      have et : ((P : Int) + (K : Int)).toNat = P + K := by omega
      go_wp2_with fail
      refine (G1.out _).mono ?_
      rintro e w6 ⟨rfl, rfl⟩
      go_upto_region 9 with fail
      go_region_held3 (fun _ => True) (exact trivial)
        (first | (go_at_call 19; refine (G2.out _).mono ?_; rintro e w6 ⟨rfl, rfl⟩) | (go_at_call 15; refine (P3.out _).mono ?_; rintro e w7 ⟨rfl, hb7⟩))
      have hB7 := hBH.out.drew.trans (hb7.mono hBH.out.size)
      have HBE := Lib.hid hB7
      clear hB7 hb7 hBH G1 G2 P3 y1 y2 y3 y4 ew et hp hbb hPK hK1 hK4 ht
      by_cases hn0 : n < 0
      · have hs0 : s = ByteArray.empty := by rw [← HV.out]; unfold putV; rw [if_pos (.inl hn0)]
        subst hs0
        go_wp2
        go_ret
        exact ⟨by simp, HBE.out⟩
      · by_cases hk0 : k < 1
        · have hs0 : s = ByteArray.empty := by rw [← HV.out]; unfold putV; rw [if_pos (.inr (.inl hk0))]
          subst hs0
          go_wp2
          go_ret
          exact ⟨by simp, HBE.out⟩
        · by_cases hk5 : 4 < k
          · have hs0 : s = ByteArray.empty := by rw [← HV.out]; unfold putV; rw [if_pos (.inr (.inr hk5))]
            subst hs0
            go_wp2
            go_ret
            exact ⟨by simp, HBE.out⟩
          · obtain ⟨N, rfl⟩ : ∃ N : Nat, n = N := ⟨n.toNat, by omega⟩
            rcases (by omega : k = 1 ∨ k = 2 ∨ k = 3 ∨ k = 4) with rfl | rfl | rfl | rfl
            · obtain ⟨hgv, hsz⟩ := getV_put N 1 (by omega) (by omega)
              have hv2 : putV N (1 : Nat) = s := HV.out
              rw [hv2] at hgv hsz
              have hmod : (N : Int).tmod 256 = ((N % 256 ^ 1 : Nat) : Int) := by rw [Int.tmod_eq_emod_of_nonneg (by omega)]; rfl
              have hmo2 : (N : Int) % 256 = ((N % 256 ^ 1 : Nat) : Int) := rfl
              have f1 : IntKind.i64.wrap 8 = 8 := by decide +kernel
              have f2 : IntKind.u64.wrap 8 = 8 := by decide +kernel
              have f3 : IntKind.i64.wrap 256 = 256 := by decide +kernel
              have f4 : wrap64 256 = 256 := by decide +kernel
              have f5 : IntKind.i64.wrap (2 ^ min 8 64) = 256 := by decide +kernel
              have f6 : IntKind.i64.wrap (2 ^ min (IntKind.u64.wrap (IntKind.i64.wrap 8)).toNat 64) = 256 := by decide +kernel
              have f7 : wrap64 (2 ^ min 8 64) = 256 := by decide +kernel
              have G3 := Lib.hid (fun w => iget_any ((⟨#[120]⟩ : ByteArray) ++ s) 1 (1 : Nat) w (by rw [ByteArray.size_append, hsz]; show 1 + 1 ≤ _; omega))
              rw [hgv] at G3
              clear hgv hv2
              generalize ((N % 256 ^ 1 : Nat) : Int) = r at *
              have esz : (s.size : Int) = 1 := by omega
              have hq : ¬ 9223372036854775807 < 1 + s.size := by omega
              go_wp2
              go_upto_region 13 with fail
              go_quiet ((go_at_call 18; refine Calls.quiet_of_same (G3.out _)))
              go_wp2
              go_ret
              exact ⟨by simp, below_drewN' HBE.out _⟩
            · obtain ⟨hgv, hsz⟩ := getV_put N 2 (by omega) (by omega)
              have hv2 : putV N (2 : Nat) = s := HV.out
              rw [hv2] at hgv hsz
              have hmod : (N : Int).tmod 65536 = ((N % 256 ^ 2 : Nat) : Int) := by rw [Int.tmod_eq_emod_of_nonneg (by omega)]; rfl
              have hmo2 : (N : Int) % 65536 = ((N % 256 ^ 2 : Nat) : Int) := rfl
              have f1 : IntKind.i64.wrap 16 = 16 := by decide +kernel
              have f2 : IntKind.u64.wrap 16 = 16 := by decide +kernel
              have f3 : IntKind.i64.wrap 65536 = 65536 := by decide +kernel
              have f4 : wrap64 65536 = 65536 := by decide +kernel
              have f5 : IntKind.i64.wrap (2 ^ min 16 64) = 65536 := by decide +kernel
              have f6 : IntKind.i64.wrap (2 ^ min (IntKind.u64.wrap (IntKind.i64.wrap 16)).toNat 64) = 65536 := by decide +kernel
              have f7 : wrap64 (2 ^ min 16 64) = 65536 := by decide +kernel
              have G3 := Lib.hid (fun w => iget_any ((⟨#[120]⟩ : ByteArray) ++ s) 1 (2 : Nat) w (by rw [ByteArray.size_append, hsz]; show 1 + 2 ≤ _; omega))
              rw [hgv] at G3
              clear hgv hv2
              generalize ((N % 256 ^ 2 : Nat) : Int) = r at *
              have esz : (s.size : Int) = 2 := by omega
              have hq : ¬ 9223372036854775807 < 1 + s.size := by omega
              go_wp2
              go_upto_region 13 with fail
              go_quiet ((go_at_call 18; refine Calls.quiet_of_same (G3.out _)))
              go_wp2
              go_ret
              exact ⟨by simp, below_drewN' HBE.out _⟩
            · obtain ⟨hgv, hsz⟩ := getV_put N 3 (by omega) (by omega)
              have hv2 : putV N (3 : Nat) = s := HV.out
              rw [hv2] at hgv hsz
              have hmod : (N : Int).tmod 16777216 = ((N % 256 ^ 3 : Nat) : Int) := by rw [Int.tmod_eq_emod_of_nonneg (by omega)]; rfl
              have hmo2 : (N : Int) % 16777216 = ((N % 256 ^ 3 : Nat) : Int) := rfl
              have f1 : IntKind.i64.wrap 24 = 24 := by decide +kernel
              have f2 : IntKind.u64.wrap 24 = 24 := by decide +kernel
              have f3 : IntKind.i64.wrap 16777216 = 16777216 := by decide +kernel
              have f4 : wrap64 16777216 = 16777216 := by decide +kernel
              have f5 : IntKind.i64.wrap (2 ^ min 24 64) = 16777216 := by decide +kernel
              have f6 : IntKind.i64.wrap (2 ^ min (IntKind.u64.wrap (IntKind.i64.wrap 24)).toNat 64) = 16777216 := by decide +kernel
              have f7 : wrap64 (2 ^ min 24 64) = 16777216 := by decide +kernel
              have G3 := Lib.hid (fun w => iget_any ((⟨#[120]⟩ : ByteArray) ++ s) 1 (3 : Nat) w (by rw [ByteArray.size_append, hsz]; show 1 + 3 ≤ _; omega))
              rw [hgv] at G3
              clear hgv hv2
              generalize ((N % 256 ^ 3 : Nat) : Int) = r at *
              have esz : (s.size : Int) = 3 := by omega
              have hq : ¬ 9223372036854775807 < 1 + s.size := by omega
              go_wp2
              go_upto_region 13 with fail
              go_quiet ((go_at_call 18; refine Calls.quiet_of_same (G3.out _)))
              go_wp2
              go_ret
              exact ⟨by simp, below_drewN' HBE.out _⟩
            · obtain ⟨hgv, hsz⟩ := getV_put N 4 (by omega) (by omega)
              have hv2 : putV N (4 : Nat) = s := HV.out
              rw [hv2] at hgv hsz
              have hmod : (N : Int).tmod 4294967296 = ((N % 256 ^ 4 : Nat) : Int) := by rw [Int.tmod_eq_emod_of_nonneg (by omega)]; rfl
              have hmo2 : (N : Int) % 4294967296 = ((N % 256 ^ 4 : Nat) : Int) := rfl
              have f1 : IntKind.i64.wrap 32 = 32 := by decide +kernel
              have f2 : IntKind.u64.wrap 32 = 32 := by decide +kernel
              have f3 : IntKind.i64.wrap 4294967296 = 4294967296 := by decide +kernel
              have f4 : wrap64 4294967296 = 4294967296 := by decide +kernel
              have f5 : IntKind.i64.wrap (2 ^ min 32 64) = 4294967296 := by decide +kernel
              have f6 : IntKind.i64.wrap (2 ^ min (IntKind.u64.wrap (IntKind.i64.wrap 32)).toNat 64) = 4294967296 := by decide +kernel
              have f7 : wrap64 (2 ^ min 32 64) = 4294967296 := by decide +kernel
              have G3 := Lib.hid (fun w => iget_any ((⟨#[120]⟩ : ByteArray) ++ s) 1 (4 : Nat) w (by rw [ByteArray.size_append, hsz]; show 1 + 4 ≤ _; omega))
              rw [hgv] at G3
              clear hgv hv2
              generalize ((N % 256 ^ 4 : Nat) : Int) = r at *
              have esz : (s.size : Int) = 4 := by omega
              have hq : ¬ 9223372036854775807 < 1 + s.size := by omega
              go_wp2
              go_upto_region 13 with fail
              go_quiet ((go_at_call 18; refine Calls.quiet_of_same (G3.out _)))
              go_wp2
              go_ret
              exact ⟨by simp, below_drewN' HBE.out _⟩
    · obtain rfl : m = -1 := by omega
      have HB0 := Lib.hid hB5
      clear hgp hB5
      go_wp2_with fail
      refine (G1.out _).mono ?_
      rintro e w6 ⟨rfl, rfl⟩
      go_upto_region 9 with fail
      go_quiet ((go_at_call 19; refine Calls.quiet_of_same (G2.out _)))
      have HBE := Lib.hid (below_drewN' HB0.out nq)
      clear HB0
      generalize w6.drewN nq = w7 at *
      clear G1 G2 hp hbb ht
      by_cases hn0 : n < 0
      · have hs0 : s = ByteArray.empty := by rw [← HV.out]; unfold putV; rw [if_pos (.inl hn0)]
        subst hs0
        go_wp2
        go_ret
        exact ⟨by simp, HBE.out⟩
      · by_cases hk0 : k < 1
        · have hs0 : s = ByteArray.empty := by rw [← HV.out]; unfold putV; rw [if_pos (.inr (.inl hk0))]
          subst hs0
          go_wp2
          go_ret
          exact ⟨by simp, HBE.out⟩
        · by_cases hk5 : 4 < k
          · have hs0 : s = ByteArray.empty := by rw [← HV.out]; unfold putV; rw [if_pos (.inr (.inr hk5))]
            subst hs0
            go_wp2
            go_ret
            exact ⟨by simp, HBE.out⟩
          · obtain ⟨N, rfl⟩ : ∃ N : Nat, n = N := ⟨n.toNat, by omega⟩
            rcases (by omega : k = 1 ∨ k = 2 ∨ k = 3 ∨ k = 4) with rfl | rfl | rfl | rfl
            · obtain ⟨hgv, hsz⟩ := getV_put N 1 (by omega) (by omega)
              have hv2 : putV N (1 : Nat) = s := HV.out
              rw [hv2] at hgv hsz
              have hmod : (N : Int).tmod 256 = ((N % 256 ^ 1 : Nat) : Int) := by rw [Int.tmod_eq_emod_of_nonneg (by omega)]; rfl
              have hmo2 : (N : Int) % 256 = ((N % 256 ^ 1 : Nat) : Int) := rfl
              have f1 : IntKind.i64.wrap 8 = 8 := by decide +kernel
              have f2 : IntKind.u64.wrap 8 = 8 := by decide +kernel
              have f3 : IntKind.i64.wrap 256 = 256 := by decide +kernel
              have f4 : wrap64 256 = 256 := by decide +kernel
              have f5 : IntKind.i64.wrap (2 ^ min 8 64) = 256 := by decide +kernel
              have f6 : IntKind.i64.wrap (2 ^ min (IntKind.u64.wrap (IntKind.i64.wrap 8)).toNat 64) = 256 := by decide +kernel
              have f7 : wrap64 (2 ^ min 8 64) = 256 := by decide +kernel
              have G3 := Lib.hid (fun w => iget_any ((⟨#[120]⟩ : ByteArray) ++ s) 1 (1 : Nat) w (by rw [ByteArray.size_append, hsz]; show 1 + 1 ≤ _; omega))
              rw [hgv] at G3
              clear hgv hv2
              generalize ((N % 256 ^ 1 : Nat) : Int) = r at *
              have esz : (s.size : Int) = 1 := by omega
              have hq : ¬ 9223372036854775807 < 1 + s.size := by omega
              go_wp2
              go_upto_region 13 with fail
              go_quiet ((go_at_call 18; refine Calls.quiet_of_same (G3.out _)))
              go_wp2
              go_ret
              exact ⟨by simp, below_drewN' HBE.out _⟩
            · obtain ⟨hgv, hsz⟩ := getV_put N 2 (by omega) (by omega)
              have hv2 : putV N (2 : Nat) = s := HV.out
              rw [hv2] at hgv hsz
              have hmod : (N : Int).tmod 65536 = ((N % 256 ^ 2 : Nat) : Int) := by rw [Int.tmod_eq_emod_of_nonneg (by omega)]; rfl
              have hmo2 : (N : Int) % 65536 = ((N % 256 ^ 2 : Nat) : Int) := rfl
              have f1 : IntKind.i64.wrap 16 = 16 := by decide +kernel
              have f2 : IntKind.u64.wrap 16 = 16 := by decide +kernel
              have f3 : IntKind.i64.wrap 65536 = 65536 := by decide +kernel
              have f4 : wrap64 65536 = 65536 := by decide +kernel
              have f5 : IntKind.i64.wrap (2 ^ min 16 64) = 65536 := by decide +kernel
              have f6 : IntKind.i64.wrap (2 ^ min (IntKind.u64.wrap (IntKind.i64.wrap 16)).toNat 64) = 65536 := by decide +kernel
              have f7 : wrap64 (2 ^ min 16 64) = 65536 := by decide +kernel
              have G3 := Lib.hid (fun w => iget_any ((⟨#[120]⟩ : ByteArray) ++ s) 1 (2 : Nat) w (by rw [ByteArray.size_append, hsz]; show 1 + 2 ≤ _; omega))
              rw [hgv] at G3
              clear hgv hv2
              generalize ((N % 256 ^ 2 : Nat) : Int) = r at *
              have esz : (s.size : Int) = 2 := by omega
              have hq : ¬ 9223372036854775807 < 1 + s.size := by omega
              go_wp2
              go_upto_region 13 with fail
              go_quiet ((go_at_call 18; refine Calls.quiet_of_same (G3.out _)))
              go_wp2
              go_ret
              exact ⟨by simp, below_drewN' HBE.out _⟩
            · obtain ⟨hgv, hsz⟩ := getV_put N 3 (by omega) (by omega)
              have hv2 : putV N (3 : Nat) = s := HV.out
              rw [hv2] at hgv hsz
              have hmod : (N : Int).tmod 16777216 = ((N % 256 ^ 3 : Nat) : Int) := by rw [Int.tmod_eq_emod_of_nonneg (by omega)]; rfl
              have hmo2 : (N : Int) % 16777216 = ((N % 256 ^ 3 : Nat) : Int) := rfl
              have f1 : IntKind.i64.wrap 24 = 24 := by decide +kernel
              have f2 : IntKind.u64.wrap 24 = 24 := by decide +kernel
              have f3 : IntKind.i64.wrap 16777216 = 16777216 := by decide +kernel
              have f4 : wrap64 16777216 = 16777216 := by decide +kernel
              have f5 : IntKind.i64.wrap (2 ^ min 24 64) = 16777216 := by decide +kernel
              have f6 : IntKind.i64.wrap (2 ^ min (IntKind.u64.wrap (IntKind.i64.wrap 24)).toNat 64) = 16777216 := by decide +kernel
              have f7 : wrap64 (2 ^ min 24 64) = 16777216 := by decide +kernel
              have G3 := Lib.hid (fun w => iget_any ((⟨#[120]⟩ : ByteArray) ++ s) 1 (3 : Nat) w (by rw [ByteArray.size_append, hsz]; show 1 + 3 ≤ _; omega))
              rw [hgv] at G3
              clear hgv hv2
              generalize ((N % 256 ^ 3 : Nat) : Int) = r at *
              have esz : (s.size : Int) = 3 := by omega
              have hq : ¬ 9223372036854775807 < 1 + s.size := by omega
              go_wp2
              go_upto_region 13 with fail
              go_quiet ((go_at_call 18; refine Calls.quiet_of_same (G3.out _)))
              go_wp2
              go_ret
              exact ⟨by simp, below_drewN' HBE.out _⟩
            · obtain ⟨hgv, hsz⟩ := getV_put N 4 (by omega) (by omega)
              have hv2 : putV N (4 : Nat) = s := HV.out
              rw [hv2] at hgv hsz
              have hmod : (N : Int).tmod 4294967296 = ((N % 256 ^ 4 : Nat) : Int) := by rw [Int.tmod_eq_emod_of_nonneg (by omega)]; rfl
              have hmo2 : (N : Int) % 4294967296 = ((N % 256 ^ 4 : Nat) : Int) := rfl
              have f1 : IntKind.i64.wrap 32 = 32 := by decide +kernel
              have f2 : IntKind.u64.wrap 32 = 32 := by decide +kernel
              have f3 : IntKind.i64.wrap 4294967296 = 4294967296 := by decide +kernel
              have f4 : wrap64 4294967296 = 4294967296 := by decide +kernel
              have f5 : IntKind.i64.wrap (2 ^ min 32 64) = 4294967296 := by decide +kernel
              have f6 : IntKind.i64.wrap (2 ^ min (IntKind.u64.wrap (IntKind.i64.wrap 32)).toNat 64) = 4294967296 := by decide +kernel
              have f7 : wrap64 (2 ^ min 32 64) = 4294967296 := by decide +kernel
              have G3 := Lib.hid (fun w => iget_any ((⟨#[120]⟩ : ByteArray) ++ s) 1 (4 : Nat) w (by rw [ByteArray.size_append, hsz]; show 1 + 4 ≤ _; omega))
              rw [hgv] at G3
              clear hgv hv2
              generalize ((N % 256 ^ 4 : Nat) : Int) = r at *
              have esz : (s.size : Int) = 4 := by omega
              have hq : ¬ 9223372036854775807 < 1 + s.size := by omega
              go_wp2
              go_upto_region 13 with fail
              go_quiet ((go_at_call 18; refine Calls.quiet_of_same (G3.out _)))
              go_wp2
              go_ret
              exact ⟨by simp, below_drewN' HBE.out _⟩
  · go_enter Try.func3, Try.ntmps3
    go_wp2_with fail
    refine (big_true _ _ _ _ hbig).mono ?_
    rintro e w1 ⟨rfl, rfl⟩
    go_wp2
    go_ret
    exact ⟨rfl, Below.refl _ _⟩
end Go.Proofs.Ytnddcjmjolembaa
