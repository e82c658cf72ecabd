/- The program's chapter 2, walked: numbers out of bytes. -/
import Derived.Test.YtnddcjmjolembaaImplN
namespace Go.Proofs.Ytnddcjmjolembaa
open Go.ChangeShapes Go.WideShapes Go.ChangeAt Go.RowKit
set_option linter.unusedVariables false

theorem i64_or (v c : Nat) (hv : v < 16777216) (hc : c < 256) : bits .or .i64 ((v : Int) * 256) (c : Int) = (v : Int) * 256 + (c : Int) := by
  have e1 : ((v : Int) * 256) = ((v * 256 : Nat) : Int) := by omega
  have hx : v * 256 ||| c = v * 256 + c := by
    have := Nat.two_pow_add_eq_or_of_lt (i := 8) (b := c) hc v
    rw [show (2 : Nat) ^ 8 = 256 from rfl] at this
    rw [Nat.mul_comm, ← this]
  show IntKind.i64.wrap ((BitVec.ofInt 64 ((v : Int) * 256) ||| BitVec.ofInt 64 (c : Int)).toNat : Nat) = _
  rw [e1, bv_nat, bv_nat, BitVec.toNat_or, BitVec.toNat_ofNat, BitVec.toNat_ofNat, Nat.mod_eq_of_lt (by omega), Nat.mod_eq_of_lt (by omega), hx]
  have := IntWalk.i64_in ((v * 256 + c : Nat) : Int) (by omega)
  rw [this]; omega
set_option maxRecDepth 100000 in
theorem iget_any (s : ByteArray) (p k : Int) (w : World) (hs : s.size ≤ 2000000) :
    Calls Try.prog 18 #[.string s, .int .i64 p, .int .i64 k] w fun e w' => e = .returned (.int .i64 (getV s p k)) ∧ w' = w := by
  by_cases hk : k < 1 ∨ 4 < k
  · have hv : getV s p k = -1 := by unfold getV; rw [if_pos (by omega)]
    have HV := Lib.hid hv; clear hv
    have hb : (decide (1 ≤ k) && decide (k ≤ 4)) = false := by simp; omega
    clear hk
    go_enter Try.func18, Try.ntmps18
    go_wp2_with (go_at_call 36; refine (numLen_any _ _).mono ?_; rintro e w ⟨rfl, rfl⟩)
    go_ret
    exact ⟨by rw [HV.out]; rfl, rfl⟩
  · have hb : (decide (1 ≤ k) && decide (k ≤ 4)) = true := by simp; omega
    obtain ⟨K, rfl⟩ : ∃ K : Nat, k = K := ⟨k.toNat, by omega⟩
    have hK : 1 ≤ K ∧ K ≤ 4 := by omega
    have ew : IntKind.i64.wrap ((s.size : Int) - (K : Int)) = (s.size : Int) - (K : Int) := IntWalk.i64_in _ (by omega)
    by_cases hp : p < 0
    · have hv : getV s p K = -1 := by unfold getV; rw [if_pos (by omega)]
      have HV := Lib.hid hv; clear hv hk
      go_enter Try.func18, Try.ntmps18
      go_wp2_with (go_at_call 36; refine (numLen_any _ _).mono ?_; rintro e w ⟨rfl, rfl⟩)
      go_ret
      exact ⟨by rw [HV.out]; rfl, rfl⟩
    · by_cases hq : (s.size : Int) - K < p
      · have hv : getV s p K = -1 := by unfold getV; rw [if_pos (by omega)]
        have HV := Lib.hid hv; clear hv hk
        go_enter Try.func18, Try.ntmps18
        go_wp2_with (go_at_call 36; refine (numLen_any _ _).mono ?_; rintro e w ⟨rfl, rfl⟩)
        go_ret
        exact ⟨by rw [HV.out]; rfl, rfl⟩
      · have hv : getV s p K = (getN ((s.data.toList.drop p.toNat).take K) : Nat) := by unfold getV; rw [if_neg (by omega)]; simp
        obtain ⟨q, rfl⟩ : ∃ q : Nat, p = q := ⟨p.toNat, by omega⟩
        simp only [Int.toNat_natCast] at hv
        have hqs : q + K ≤ s.size := by omega
        have hbd := fun j => getN_lt ((s.data.toList.drop q).take j)
        have hsn : ∀ j, (h : j < K) → getN ((s.data.toList.drop q).take (j + 1)) = getN ((s.data.toList.drop q).take j) * 256 + (s[q + j]'(by omega)).toNat := by
          intro j h
          rw [List.take_succ_eq_append_getElem (by simp; omega), getN_snoc]
          congr 2
          simp
          rfl
        have hle : ∀ j, ((s.data.toList.drop q).take j).length ≤ j := by intro j; simp; omega
        have HV := Lib.hid hv; have HSN := Lib.hid hsn; clear hv hsn hk
        have hb4 : ∀ j, j ≤ 4 → getN ((s.data.toList.drop q).take j) < 256 ^ j := by
          intro j _
          exact Nat.lt_of_lt_of_le (hbd j) (Nat.pow_le_pow_right (by decide) (hle j))
        have HB4 := Lib.hid hb4; clear hb4 hbd hle
        go_enter Try.func18, Try.ntmps18
        go_wp2_with (go_at_call 36; refine (numLen_any _ _).mono ?_; rintro e w ⟨rfl, rfl⟩)
        go_loopw [7, 25] (fun n i wr => ∃ j : Nat, j ≤ K ∧ i = .int .i64 j ∧ n = .int .i64 (getN ((s.data.toList.drop q).take j) : Nat) ∧ wr = w) (fun _ i _ => K - (intOf i).toNat)
        case atStart => exact ⟨0, Nat.zero_le _, rfl, rfl, rfl⟩
        case round =>
          obtain ⟨j, hj, rfl, rfl, rfl⟩ := hrel
          by_cases hlt : j < K
          · have z1 : (j : Int) < (K : Int) := by omega
            have z2 : (0 : Int) ≤ (q : Int) + (j : Int) := by omega
            have z3 : (q : Int) + (j : Int) < (s.size : Int) := by omega
            have et : ((q : Int) + (j : Int)).toNat = q + j := by omega
            have ew2 : IntKind.i64.wrap ((q : Int) + (j : Int)) = (q : Int) + (j : Int) := IntWalk.i64_in _ (by omega)
            have hsn := HSN.out j hlt
            have hc := (s[q + j]'(by omega)).toNat_lt
            have hb4 : getN ((s.data.toList.drop q).take j) < 256 ^ 3 := Nat.lt_of_lt_of_le (HB4.out j (by omega)) (Nat.pow_le_pow_right (by decide) (by omega))
            have h256 : (256 : Nat) ^ 3 = 16777216 := rfl
            rw [h256] at hb4
            have hql : q + j < s.size := by omega
            have HS := Lib.hid hsn; clear hsn
            generalize getN ((s.data.toList.drop q).take j) = v at *
            have eor := i64_or v (s[q + j]'(by omega)).toNat hb4 hc
            have ew3 : IntKind.i64.wrap ((v : Int) * 256) = (v : Int) * 256 := IntWalk.i64_in _ (by omega)
            have ew4 : wrap64 ((v : Int) * 256) = (v : Int) * 256 := IntWalk.wrap64_in _ (by omega)
            go_wp2
            go_roundw
            case rel => exact ⟨j + 1, by omega, by go_num, by rw [HS.out]; go_num, by first | rfl | trivial⟩
            case measure => simp [intOf]; omega
          · obtain rfl : j = K := by omega
            go_wp2
            go_ret
            exact ⟨by rw [HV.out]; rfl, rfl⟩
end Go.Proofs.Ytnddcjmjolembaa
