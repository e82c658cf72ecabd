/- Walks of ReadHex, both. -/
import Derived.Test.YtbkeggklfaepnaaDoorHex
import Derived.Test.YtbkeggklfaepnaaDoorDig
import Derived.Deep.QuietTactic
import Derived.BigQuiet
import Derived.Lib.Hide
import Derived.Laws.Externs
import Derived.Lib.Bytealg
namespace Go.Proofs.YtbkeggklfaepnaaDoor
open Go.ChangeShapes Go.WideShapes Go.ChangeAt Go.RowKit
set_option linter.unusedVariables false

def hexVal (c : Nat) : Int := if 48 ≤ c ∧ c ≤ 57 then c - 48 else if 97 ≤ c ∧ c ≤ 102 then c - 87 else -1
def readL : List UInt8 → Option (List Int)
  | [] => some []
  | [_] => none
  | a :: b :: r => if hexVal a.toNat < 0 ∨ hexVal b.toNat < 0 then none else (readL r).map ((16 * hexVal a.toNat + hexVal b.toNat) :: ·)
def rdv : Option (List Int) → Value
  | none => .tuple #[.string ByteArray.empty, .bool false]
  | some xs => .tuple #[.string (strOfNums xs), .bool true]

theorem shexv_any (c : Nat) (h : c < 256) (w : World) : Calls Tryd.prog 51 #[.int .u8 c] w fun e w' => e = .returned (.int .i64 (hexVal c)) ∧ w' = w := by
  have hv : hexVal c = if 48 ≤ c ∧ c ≤ 57 then (c:Int) - 48 else if 97 ≤ c ∧ c ≤ 102 then (c:Int) - 87 else -1 := rfl
  by_cases h1 : 48 ≤ c ∧ c ≤ 57
  · rw [if_pos h1] at hv
    have HV := Lib.hid hv; clear hv
    have hb : (decide (48 ≤ c) && decide (c ≤ 57)) = true := by simp [h1]
    go_enter Tryd.func51, Tryd.ntmps51
    go_wp2_with (go_at_call 62; refine (digit_any _ (by omega) _).mono ?_; rintro e w' ⟨rfl, rfl⟩)
    go_ret
    exact ⟨by rw [HV.out]; rfl, rfl⟩
  · rw [if_neg h1] at hv
    have hb : (decide (48 ≤ c) && decide (c ≤ 57)) = false := by simpa using h1
    by_cases h2 : 97 ≤ c ∧ c ≤ 102
    · rw [if_pos h2] at hv
      have HV := Lib.hid hv; clear hv
      have hb2 : (decide ((97:Int) ≤ (c:Int)) && decide ((c:Int) ≤ 102)) = true := by simp; omega
      go_enter Tryd.func51, Tryd.ntmps51
      go_wp2_with (first | (go_at_call 62; refine (digit_any _ (by omega) _).mono ?_; rintro e w' ⟨rfl, rfl⟩) | (go_at_call 42; refine (in_any _ _ _ _).mono ?_; rintro e w' ⟨rfl, rfl⟩))
      go_ret
      exact ⟨by rw [HV.out]; rfl, rfl⟩
    · rw [if_neg h2] at hv
      have HV := Lib.hid hv; clear hv
      have hb2 : (decide ((97:Int) ≤ (c:Int)) && decide ((c:Int) ≤ 102)) = false := by simp; omega
      go_enter Tryd.func51, Tryd.ntmps51
      go_wp2_with (first | (go_at_call 62; refine (digit_any _ (by omega) _).mono ?_; rintro e w' ⟨rfl, rfl⟩) | (go_at_call 42; refine (in_any _ _ _ _).mono ?_; rintro e w' ⟨rfl, rfl⟩))
      go_ret
      exact ⟨by rw [HV.out]; rfl, rfl⟩
theorem idxb (s : ByteArray) (c : Nat) (w : World) : (callFunc 76 #[.string s, .int .u8 c]).run Tryd.prog w = .ok (.value (.int .i64 (Lib.indexByte s.data.toList (UInt8.ofNat c)))) w := by
  rw [run_callFunc_extern (f := 76) (fn := Tryd.f76) (e := Extern.BytealgIndexByte.indexByte) Tryd.func76 (by kernel_rfl) (by kernel_rfl) (by kernel_rfl) (by kernel_rfl)]
  rw [Lib.run_indexByteString]
  simp [Result.andThen]
theorem hexVal_idx : ∀ c : Fin 256, Lib.indexByte [48, 49, 50, 51, 52, 53, 54, 55, 56, 57, 97, 98, 99, 100, 101, 102] (UInt8.ofNat c.val) = hexVal c.val := by decide +kernel
theorem ihexv_any (c : Nat) (h : c < 256) (w : World) : Calls Tryd.prog 47 #[.int .u8 c] w fun e w' => e = .returned (.int .i64 (hexVal c)) ∧ w' = w := by
  have e := hexVal_idx ⟨c, h⟩
  have hx := fun w => idxb ⟨#[48, 49, 50, 51, 52, 53, 54, 55, 56, 57, 97, 98, 99, 100, 101, 102]⟩ c w
  simp only [] at e
  rw [e] at hx
  clear e
  go_enter Tryd.func47, Tryd.ntmps47
  go_wp2
  go_ret
  exact ⟨rfl, rfl⟩

theorem or16' : ∀ x y : Fin 16, bits .or .i64 ((x.val : Int) * 16) (y.val : Int) = 16 * (x.val : Int) + (y.val : Int) := by decide +kernel
theorem or16 (x y : Int) (h1 : 0 ≤ x) (h2 : x ≤ 15) (h3 : 0 ≤ y) (h4 : y ≤ 15) : bits .or .i64 (x * 16) y = 16 * x + y := by
  have := or16' ⟨x.toNat, by omega⟩ ⟨y.toNat, by omega⟩
  simp only [] at this
  rwa [Int.toNat_of_nonneg h1, Int.toNat_of_nonneg h3] at this
theorem below_drewN {B : Nat} {a w : World} (h : Below B a w) (n : Nat) : Below B a (w.drewN n) := h.trans ⟨rfl, rfl, rfl, Nat.le_refl _, fun _ _ => rfl⟩
theorem hexVal_bd (c : Nat) : -1 ≤ hexVal c ∧ hexVal c ≤ 15 := by
  unfold hexVal; split
  · omega
  · split <;> omega
theorem drop_two (s : ByteArray) (j : Nat) (h : j + 1 < s.size) : s.data.toList.drop j = s[j] :: s[j + 1] :: s.data.toList.drop (j + 2) := by
  have h1 : j < s.data.toList.length := by simpa using (by omega : j < s.size)
  have h2 : j + 1 < s.data.toList.length := by simpa using h
  rw [List.drop_eq_getElem_cons h1, List.drop_eq_getElem_cons h2]; rfl
def ReadInv (s : ByteArray) (acc : List Int) (j : Nat) : Prop := readL s.data.toList = (readL (s.data.toList.drop j)).map (acc ++ ·)
theorem ReadInv.zero (s : ByteArray) : ReadInv s [] 0 := by simp [ReadInv]
theorem ReadInv.fail {s : ByteArray} {acc : List Int} {j : Nat} (h : ReadInv s acc j) (hj : j + 1 < s.size) (hf : hexVal s[j].toNat < 0 ∨ hexVal s[j + 1].toNat < 0) : readL s.data.toList = none := by
  rw [h, drop_two s j hj]; simp [readL, hf]
theorem ReadInv.step {s : ByteArray} {acc : List Int} {j : Nat} (h : ReadInv s acc j) (hj : j + 1 < s.size) (h1 : 0 ≤ hexVal s[j].toNat) (h2 : 0 ≤ hexVal s[j + 1].toNat) :
    ReadInv s (acc ++ [16 * hexVal s[j].toNat + hexVal s[j + 1].toNat]) (j + 2) := by
  have hn : ¬ (hexVal s[j].toNat < 0 ∨ hexVal s[j + 1].toNat < 0) := by omega
  rw [ReadInv, h, drop_two s j hj]; simp [readL, hn, Function.comp_def]
theorem ReadInv.stop {s : ByteArray} {acc : List Int} {j : Nat} (h : ReadInv s acc j) (hj : j = s.size) : readL s.data.toList = some acc := by
  rw [h, List.drop_of_length_le (by simp [hj])]; simp [readL]
theorem ReadInv.odd {s : ByteArray} {acc : List Int} {j : Nat} (h : ReadInv s acc j) (hj : j + 1 = s.size) : readL s.data.toList = none := by
  have h1 : j < s.data.toList.length := by simpa using (by omega : j < s.size)
  rw [h, List.drop_eq_getElem_cons h1, List.drop_of_length_le (by simp [← hj])]; simp [readL]
theorem readL_odd : ∀ (n : Nat) (l : List UInt8), l.length ≤ n → l.length % 2 = 1 → readL l = none
  | 0, l, h, h2 => by omega
  | n + 1, [], h, h2 => by simp at h2
  | n + 1, [a], h, h2 => rfl
  | n + 1, a :: b :: r, h, h2 => by
    have := readL_odd n r (by simp at h; omega) (by simp at h2; omega)
    simp [readL, this]

theorem ownsRow_drewN {w : World} {base n : Nat} {e : TypeId} {size : Nat} {v : Value} {xs : List Value} (h : w.ownsRow base e size v n xs) (m : Nat) : (w.drewN m).ownsRow base e size v n xs := h
theorem read_step {s : ByteArray} {w wr w1 : World} {acc : List Int} {v v' : Value} {nq j : Nat} {o : Obj} {x y : Int}
    (hown' : w1.ownsRow w.heap.size 5 1 v' (acc.length + 1) (acc.map (Value.int .u8) ++ [.int .u8 (16 * x + y)])) (hgrow : ((wr.drewN nq).alloc o).grownBy w1 v.ownBlock)
    (hown : wr.ownsRow w.heap.size 5 1 v acc.length (acc.map (Value.int .u8))) (hnx : Below w.heap.size w wr) (hinv : ReadInv s acc j) (hj1 : j + 1 < s.size)
    (HX : Hid (hexVal s[j].toNat = x)) (HY : Hid (hexVal s[j + 1].toNat = y)) (h1 : 0 ≤ x) (h2 : 0 ≤ y) :
    w1.ownsRow w.heap.size 5 1 v' (acc ++ [16 * x + y]).length ((acc ++ [16 * x + y]).map (Value.int .u8)) ∧ Below w.heap.size w w1 ∧ ReadInv s (acc ++ [16 * x + y]) (j + 2) := by
  refine ⟨by simpa using hown', ((below_drewN hnx nq).alloc hnx.size o).grown hgrow ?_ (fun g hg => (hown.lt g hg).1), ?_⟩
  · have := hnx.size; simp; exact Nat.le_succ_of_le this
  · have hX := HX.out; have hY := HY.out
    subst hX; subst hY
    exact hinv.step hj1 h1 h2

set_option maxRecDepth 100000 in
theorem iread_any (s : ByteArray) (w : World) (hs : s.size ≤ 2000000) :
    Calls Tryd.prog 29 #[.string s] w fun e w' => e = .returned (rdv (readL s.data.toList)) ∧ Below w.heap.size w w' := by
  by_cases hodd : s.size % 2 = 1
  · have hr := readL_odd _ s.data.toList (Nat.le_refl _) (by simpa using hodd)
    have HR := Lib.hid hr; clear hr
    go_enter Tryd.func29, Tryd.ntmps29
    go_wp2
    go_ret2
    exact ⟨by rw [HR.out]; rfl, Below.refl _ _⟩
  · obtain ⟨i0, hi, hz0, hz1, hz2⟩ := info_parts info5
    have hev : s.size % 2 = 0 := by omega
    have hp : (s.size : Int) % 2 = 0 := by omega
    go_enter Tryd.func29, Tryd.ntmps29
    go_wp2_with (at_make; refine wpList_make_own _ rfl _ _ 22 rfl w.heap.size 5 i0 (.int .u8 0) 1 Tryd.underlying22 hi hz0 hz1 _ _ _ (s.size / 2) rfl rfl (by omega) (by rw [hz2]; omega) (by unfold maxLen; omega) (Nat.le_refl _) ?_; intro w0 hown0 hgrow0)
    have hb0 : Below w.heap.size w w0 := (Below.refl _ _).grown hgrow0 (Nat.le_refl _) (by simp)
    clear hgrow0
    go_loopw [4, 5, 6, 7] (fun v i _ _ wr => ∃ (j : Nat) (acc : List Int), j ≤ s.size ∧ j % 2 = 0 ∧ i = .int .i64 j ∧ 2 * acc.length = j ∧ wr.ownsRow w.heap.size 5 1 v acc.length (acc.map (Value.int .u8)) ∧ Below w.heap.size w wr ∧ ReadInv s acc j)
      (fun _ i _ _ _ => s.size - (intOf i).toNat)
    case atStart => exact ⟨0, [], Nat.zero_le _, rfl, rfl, rfl, hown0, hb0, ReadInv.zero s⟩
    case round =>
      obtain ⟨j, acc, hj, hjp, rfl, hacc, hown, hnx, hinv⟩ := hrel
      have HACC := Lib.hid hacc; clear hacc
      clear hown0 hb0
      by_cases hlt : j < s.size
      · have hj1 : j + 1 < s.size := by omega
        have h0 : (0 : Int) ≤ (j : Int) := Int.natCast_nonneg _
        have h1 : (j : Int) < (s.size : Int) := by omega
        have h2 : (0 : Int) ≤ (j : Int) + 1 := by omega
        have h3 : (j : Int) + 1 < (s.size : Int) := by omega
        have ew : IntKind.i64.wrap ((j : Int) + 1) = (j : Int) + 1 := IntWalk.i64_in _ (by omega)
        have et : ((j : Int) + 1).toNat = j + 1 := by omega
        have hc1 := s[j].toNat_lt
        have hc2 := s[j + 1].toNat_lt
        go_wp2
        go_quiet ((go_at_call 47; refine Calls.quiet_of_same (ihexv_any _ (by omega) _)))
        generalize hx : hexVal s[j].toNat = x at *
        generalize hy : hexVal s[j + 1].toNat = y at *
        have HX := Lib.hid hx; have HY := Lib.hid hy; clear hx hy
        clear ew
        by_cases hA : x < 0
        · have hr := hinv.fail hj1 (.inl (by rw [HX.out]; exact hA))
          have HR := Lib.hid hr; clear hr
          go_wp2
          go_ret2
          exact ⟨by rw [HR.out]; rfl, below_drewN hnx _⟩
        · by_cases hB : y < 0
          · have hr := hinv.fail hj1 (.inr (by rw [HY.out]; exact hB))
            have HR := Lib.hid hr; clear hr
            go_wp2
            go_ret2
            exact ⟨by rw [HR.out]; rfl, below_drewN hnx _⟩
          · have hx2 : x ≤ 15 := by rw [← HX.out]; exact (hexVal_bd _).2
            have hy2 : y ≤ 15 := by rw [← HY.out]; exact (hexVal_bd _).2
            have eo := or16 x y (by omega) hx2 (by omega) hy2
            have em : (16 * x + y) % 256 = 16 * x + y := by omega
            have hal : 2 * acc.length ≤ 2000000 := by rw [HACC.out]; omega
            have hns := hnx.size
            go_wp2_with (at_builtin; refine wpList_append_own _ rfl (.tmp 37) (.tmp 43) 22 rfl w.heap.size 5 i0 (.int .u8 0) 1 1 Tryd.underlying22 hi hz0 hz1 hz2 rfl (by decide) _ _ _ rfl ((ownsRow_drewN hown nq).alloc _) ⟨wr.heap.size, 0, none⟩ 1 1 [.int .u8 (16 * x + y)] rfl rfl (cell_one_new _ _ _) (by intro u hu; simp at hu; subst hu; rfl) (by unfold maxLen; omega) (by omega) (by simp; omega) ?_; intro v' w1 hown' hgrow _)
            have R := read_step hown' hgrow hown hnx hinv hj1 HX HY (by omega) (by omega)
            clear hown' hgrow hown eo em
            go_wp2
            go_roundw
            case rel => exact ⟨j + 2, acc ++ [16 * x + y], by omega, by omega, by go_num, by have := HACC.out; simp; omega, R.1, R.2.1, R.2.2⟩
            case measure => simp [intOf]; omega
      · obtain rfl : j = s.size := by omega
        have hr := hinv.stop rfl
        have HR := Lib.hid hr; clear hr
        have hcv := run_string_own (P := Tryd.prog) 22 5 9 Tryd.underlying22 Tryd.underlying5 Tryd.underlying9 hown
        clear hown
        go_wp2
        go_ret2
        exact ⟨by rw [HR.out]; rfl, hnx⟩

set_option maxRecDepth 100000 in
theorem sread_any (s : ByteArray) (w : World) (hs : s.size ≤ 2000000) :
    Calls Tryd.prog 33 #[.string s] w fun e w' => e = .returned (rdv (readL s.data.toList)) ∧ Below w.heap.size w w' := by
  obtain ⟨i0, hi, hz0, hz1, hz2⟩ := info_parts info5
  go_enter Tryd.func33, Tryd.ntmps33
  go_wp2
  have hown0 := World.ownsRow_made (base := w.heap.size) (e := 5) (size := 1) w #[] 0 (Nat.le_refl _) (by unfold maxLen; omega) rfl
  have hb0 := (Below.refl w.heap.size w).alloc (Nat.le_refl _) (.cells #[] 5)
  go_loopw [4, 5, 6, 7] (fun v i _ _ wr => ∃ (j : Nat) (acc : List Int), j ≤ s.size ∧ j % 2 = 0 ∧ i = .int .i64 j ∧ 2 * acc.length = j ∧ wr.ownsRow w.heap.size 5 1 v acc.length (acc.map (Value.int .u8)) ∧ Below w.heap.size w wr ∧ ReadInv s acc j)
    (fun _ i _ _ _ => s.size - (intOf i).toNat)
  case atStart => exact ⟨0, [], Nat.zero_le _, rfl, rfl, rfl, hown0, hb0, ReadInv.zero s⟩
  case round =>
    obtain ⟨j, acc, hj, hjp, rfl, hacc, hown, hnx, hinv⟩ := hrel
    have HACC := Lib.hid hacc; clear hacc
    clear hown0 hb0
    by_cases hj1 : j + 1 < s.size
    · have h0 : (0 : Int) ≤ (j : Int) := Int.natCast_nonneg _
      have h1 : (j : Int) < (s.size : Int) := by omega
      have h2 : (0 : Int) ≤ (j : Int) + 1 := by omega
      have h3 : (j : Int) + 1 < (s.size : Int) := by omega
      have ew : IntKind.i64.wrap ((j : Int) + 1) = (j : Int) + 1 := IntWalk.i64_in _ (by omega)
      have et : ((j : Int) + 1).toNat = j + 1 := by omega
      have hc1 := s[j].toNat_lt
      have hc2 := s[j + 1].toNat_lt
      go_wp2
      go_quiet ((go_at_call 51; refine Calls.quiet_of_same (shexv_any _ (by omega) _)))
      generalize hx : hexVal s[j].toNat = x at *
      generalize hy : hexVal s[j + 1].toNat = y at *
      have HX := Lib.hid hx; have HY := Lib.hid hy; clear hx hy
      clear ew
      by_cases hA : x < 0
      · have hr := hinv.fail hj1 (.inl (by rw [HX.out]; exact hA))
        have HR := Lib.hid hr; clear hr
        go_wp2
        go_ret2
        exact ⟨by rw [HR.out]; rfl, below_drewN hnx _⟩
      · by_cases hB : y < 0
        · have hr := hinv.fail hj1 (.inr (by rw [HY.out]; exact hB))
          have HR := Lib.hid hr; clear hr
          go_wp2
          go_ret2
          exact ⟨by rw [HR.out]; rfl, below_drewN hnx _⟩
        · have hx2 : x ≤ 15 := by rw [← HX.out]; exact (hexVal_bd _).2
          have hy2 : y ≤ 15 := by rw [← HY.out]; exact (hexVal_bd _).2
          have em : (16 * x + y) % 256 = 16 * x + y := by omega
          have hal : 2 * acc.length ≤ 2000000 := by rw [HACC.out]; omega
          have hns := hnx.size
          go_wp2_with (at_builtin; refine wpList_append_own _ rfl (.tmp 31) (.tmp 37) 22 rfl w.heap.size 5 i0 (.int .u8 0) 1 1 Tryd.underlying22 hi hz0 hz1 hz2 rfl (by decide) _ _ _ rfl ((ownsRow_drewN hown nq).alloc _) ⟨wr.heap.size, 0, none⟩ 1 1 [.int .u8 (16 * x + y)] rfl rfl (cell_one_new _ _ _) (by intro u hu; simp at hu; subst hu; rfl) (by unfold maxLen; omega) (by omega) (by simp; omega) ?_; intro v' w1 hown' hgrow _)
          have R := read_step hown' hgrow hown hnx hinv hj1 HX HY (by omega) (by omega)
          clear hown' hgrow hown em
          go_wp2
          go_roundw
          case rel => exact ⟨j + 2, acc ++ [16 * x + y], by omega, by omega, by go_num, by have := HACC.out; simp; omega, R.1, R.2.1, R.2.2⟩
          case measure => simp [intOf]; omega
    · by_cases hev : j = s.size
      · subst hev
        have hr := hinv.stop rfl
        have HR := Lib.hid hr; clear hr
        have hp : (s.size : Int) % 2 = 0 := by omega
        have hcv := run_string_own (P := Tryd.prog) 22 5 9 Tryd.underlying22 Tryd.underlying5 Tryd.underlying9 hown
        clear hown
        go_wp2
        go_ret2
        exact ⟨by rw [HR.out]; rfl, hnx⟩
      · have hod : j + 1 = s.size := by omega
        have hr := hinv.odd hod
        have HR := Lib.hid hr; clear hr
        have hp : (s.size : Int) % 2 = 1 := by omega
        clear hod
        go_wp2
        go_ret2
        exact ⟨by rw [HR.out]; rfl, hnx⟩
end Go.Proofs.YtbkeggklfaepnaaDoor

