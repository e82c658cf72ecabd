/- The laws' 'at', walked: a byte of the code, or a number in its place. -/
import Derived.Test.YtnddcjmjolembaaDraw2
import Derived.Test.YtnddcjmjolembaaBytesN
import Derived.Deep.RegionHeld3
import Derived.Deep.Cut
namespace Go.Proofs.Ytnddcjmjolembaa
open Go.ChangeShapes Go.WideShapes Go.ChangeAt Go.RowKit
set_option linter.unusedVariables false

def atV (zs : List Int) (len i : Nat) : Int := if i < len then zs[i]?.getD 0 else ((i : Int) * 7 + len) % 256
theorem at_any (n₀ len cap : Nat) (a : Option Addr) (zs : List Int) (i : Nat) (w : World) (hc : CodeAt n₀ w a len zs) (hi : i ≤ 1000) :
    Calls Try.prog 24 #[.slice a len cap, .int .i64 i] w fun e w' => e = .returned (.int .i64 (atV zs len i)) ∧ w' = w := by
  obtain ⟨h1, h2, h3⟩ := hc
  by_cases hlt : i < len
  · have z0 : (0 : Int) ≤ (i : Int) := by omega
    have z1 : (i : Int) < (len : Int) := by omega
    obtain ⟨b, off, rfl, hb0, hcells⟩ := h3.resolve_left (by omega)
    have cz := hcells i hlt
    have hz := h2 i
    have hv : atV zs len i = zs[i]?.getD 0 := by unfold atV; rw [if_pos hlt]
    rw [hv]
    generalize zs[i]?.getD 0 = y at *
    clear hcells h2 hv
    go_enter Try.func24, Try.ntmps24
    go_wp2
    go_ret
    exact ⟨rfl, rfl⟩
  · have z1 : ¬ (i : Int) < (len : Int) := by omega
    have hv : atV zs len i = ((i : Int) * 7 + len) % 256 := by unfold atV; rw [if_neg hlt]
    rw [hv]
    have e1 : IntKind.i64.wrap ((i : Int) * 7) = (i : Int) * 7 := IntWalk.i64_in _ (by omega)
    have e2 : IntKind.i64.wrap ((i : Int) * 7 + (len : Int)) = (i : Int) * 7 + (len : Int) := IntWalk.i64_in _ (by omega)
    have e3 : ((i : Int) * 7 + (len : Int)).tmod 256 = ((i : Int) * 7 + (len : Int)) % 256 := Int.tmod_eq_emod_of_nonneg (by omega)
    clear h2 h3 hv
    go_enter Try.func24, Try.ntmps24
    go_wp2
    go_ret
    exact ⟨rfl, rfl⟩

theorem set_parts {α : Type} (l : List α) (i : Nat) (x : α) (h : i < l.length) : l.set i x = l.take i ++ x :: l.drop (i + 1) := List.set_eq_take_append_cons_drop.trans (if_pos h)
theorem two_mask : ∀ c : Fin 8, IntKind.u8.wrap (2 ^ min (IntKind.u64.wrap (c.val : Int)).toNat 8) = ((UInt8.ofNat (2 ^ c.val)).toNat : Int) := by decide +kernel
def flipV (s : ByteArray) (p : Int) : ByteArray := if p < 0 then s else ⟨(flipB s.data.toList p.toNat).toArray⟩
set_option maxRecDepth 100000 in
theorem flip_any (s : ByteArray) (p : Nat) (w : World) (hs : s.size ≤ 2000000) (hp : p ≤ 100000000) :
    Calls Try.prog 25 #[.string s, .int .i64 p] w fun e w' => e = .returned (.string (flipV s p)) ∧ Below w.heap.size w w' := by
  have hlen : s.data.toList.length = s.size := by simp
  have hq : ((p : Int)).tdiv 8 = ((p / 8 : Nat) : Int) := by rw [Int.tdiv_eq_ediv_of_nonneg (by omega)]; rfl
  by_cases hlt : p / 8 < s.size
  · have z0 : (0 : Int) ≤ (p : Int) / 8 := by omega
    have z1 : (p : Int) / 8 < (s.size : Int) := by omega
    have z2 : (p : Int) / 8 ≤ (s.size : Int) := by omega
    have z3 : ¬ (s.size : Int) ≤ (p : Int) / 8 := by omega
    have z4 : (0 : Int) ≤ (p : Int) / 8 + 1 := by omega
    have z5 : (p : Int) / 8 + 1 ≤ (s.size : Int) := by omega
    have t0 : ((p : Int) / 8).toNat = p / 8 := by omega
    have t1 : ((p : Int) / 8 + 1).toNat = p / 8 + 1 := by omega
    have ew : IntKind.i64.wrap ((p : Int) / 8 + 1) = (p : Int) / 8 + 1 := IntWalk.i64_in _ (by omega)
    have tm : (p : Int).tmod 8 = ((p % 8 : Nat) : Int) := by rw [Int.tmod_eq_emod_of_nonneg (by omega)]; rfl
    have hsh : IntKind.u8.wrap (2 ^ min (IntKind.u64.wrap ((p : Int).tmod 8)).toNat 8) = ((UInt8.ofNat (2 ^ (p % 8))).toNat : Int) := by rw [tm]; exact two_mask ⟨p % 8, by omega⟩
    have hxx := u8_xor s[p / 8] (UInt8.ofNat (2 ^ (p % 8)))
    have hv : (s.extract 0 (p / 8) ++ strOfNums [((s[p / 8] ^^^ UInt8.ofNat (2 ^ (p % 8))).toNat : Int)]) ++ s.extract (p / 8 + 1) s.size = flipV s p := by
      have e : strOfNums [((s[p / 8] ^^^ UInt8.ofNat (2 ^ (p % 8))).toNat : Int)] = ⟨[s[p / 8] ^^^ UInt8.ofNat (2 ^ (p % 8))].toArray⟩ := nums_back [s[p / 8] ^^^ UInt8.ofNat (2 ^ (p % 8))]
      rw [e]
      unfold flipV flipB
      rw [if_neg (by omega), Int.toNat_natCast, if_pos (by rw [hlen]; exact hlt), set_parts _ _ _ (by rw [hlen]; exact hlt)]
      apply ByteArray.ext
      apply Array.ext'
      have e3 : s.data.toList[p / 8]?.getD 0 = s[p / 8] := by rw [List.getElem?_eq_getElem (by rw [hlen]; exact hlt)]; rfl
      rw [e3]
      simp [ByteArray.data_extract, List.extract]
      rw [List.take_of_length_le (by simp)]
    have HV := Lib.hid hv; clear hv tm
    generalize s[p / 8] ^^^ UInt8.ofNat (2 ^ (p % 8)) = m at *
    generalize (UInt8.ofNat (2 ^ (p % 8))).toNat = mm at *
    have hcv := fun (X : Int) => run_convert_bytes_arg (P := Try.prog) ((w.alloc (.cells #[.int .u8 X] 5)).drew) 22 5 Try.underlying22 Try.underlying5 w.heap.size 0 1 1 [X] rfl (fun i hi => by
      obtain rfl : i = 0 := by omega
      simp) 9 Try.underlying9
    have hsz : ∀ X : Int, (strOfNums [X]).size = 1 := fun _ => rfl
    have hx3 : ¬ 9223372036854775807 < min (p / 8) s.size + 1 := by omega
    have hx4 : ¬ 9223372036854775807 < min (p / 8) s.size + 1 + (s.size - (p / 8 + 1)) := by omega
    go_enter Try.func25, Try.ntmps25
    go_upto_region 4 with fail
    go_region_with (fail)
    all_goals go_wp2
    all_goals go_ret
    all_goals exact ⟨by show Ending.returned (.string _) = _; rw [HV.out], ((Below.refl _ _).alloc (Nat.le_refl _) _).trans ⟨rfl, rfl, rfl, Nat.le_refl _, fun _ _ => rfl⟩⟩
  · have hv : flipV s p = s := by
      unfold flipV flipB
      rw [if_neg (by omega), if_neg (by rw [hlen]; simpa using hlt)]
    have HV := Lib.hid hv; clear hv
    have z1 : ((p : Int) / 8 ≥ (s.size : Int)) := by omega
    have z2 : ¬ (p : Int) / 8 < (s.size : Int) := by omega
    go_enter Try.func25, Try.ntmps25
    go_wp2
    go_ret
    exact ⟨by rw [HV.out]; rfl, Below.refl _ _⟩
end Go.Proofs.Ytnddcjmjolembaa
