/- The walk of the model's Words. -/
import Derived.Test.YthmdbjjhhemjoaaDoorWords
import Derived.Test.YthmdbjjhhemjoaaDoorHex
import Derived.LoopTactic
namespace Go.Proofs.YthmdbjjhhemjoaaDoor
open Go.RowKit Go.Shelf
set_option linter.unusedVariables false

theorem blank_any (c : UInt8) (w : World) : Calls Tryd.prog 47 #[.int .u8 c.toNat] w fun e w' => e = .returned (.bool (isGap c)) ∧ w' = w := by
  cases hg : isGap c with
  | false =>
    have h1 : ((c.toNat : Int) == 32) = false := by
      rw [beq_eq_false_iff_ne]; intro e
      have : c = 32 := UInt8.toNat_inj.1 ((by omega : c.toNat = 32).trans rfl)
      simp [isGap, this] at hg
    have h2 : ((c.toNat : Int) == 9) = false := by
      rw [beq_eq_false_iff_ne]; intro e
      have : c = 9 := UInt8.toNat_inj.1 ((by omega : c.toNat = 9).trans rfl)
      simp [isGap, this] at hg
    clear hg
    go_enter Tryd.func47, Tryd.ntmps47
    go_wp2
    go_ret
    exact ⟨rfl, rfl⟩
  | true =>
    have h32 : c = 32 ∨ c = 9 := by simpa [isGap] using hg
    clear hg
    rcases h32 with h | h
    · have h1 : ((c.toNat : Int) == 32) = true := by rw [h]; rfl
      clear h
      go_enter Tryd.func47, Tryd.ntmps47
      go_wp2
      go_ret
      exact ⟨rfl, rfl⟩
    · have h1 : ((c.toNat : Int) == 32) = false := by rw [h]; rfl
      have h2 : ((c.toNat : Int) == 9) = true := by rw [h]; rfl
      clear h
      go_enter Tryd.func47, Tryd.ntmps47
      go_wp2
      go_ret
      exact ⟨rfl, rfl⟩

theorem wsize_drop {s : ByteArray} {k e : Nat} (hke : k ≤ e) (he : e ≤ s.size) (hall : ∀ j, k ≤ j → j < e → (hj : j < s.size) → isGap s[j] = false) (hstop : (h : e < s.size) → isGap s[e] = true) :
    wsize (s.data.toList.drop k) = e - k := by
  refine wsize_at _ _ (by simp; omega) (fun j h => ?_) (fun h => ?_)
  · have hj : k + j < s.size := by omega
    have h1 := hall (k + j) (by omega) (by omega) hj
    rw [List.getElem_drop]; exact h1
  · have hj : e < s.size := by simp at h; omega
    have := hstop hj
    simp only [List.getElem_drop]
    have e1 : k + (e - k) = e := by omega
    simp only [e1]
    exact this

set_option maxHeartbeats 1000000 in
theorem swords_any (s : ByteArray) (w : World) (hs : s.size ≤ 2000000) :
    Calls Tryd.prog 28 #[.string s] w fun e w' => ∃ v, e = .returned v ∧ w'.ownsRow w.heap.size 9 1 v (wordsB s).length ((wordsB s).map Value.string) ∧ Below w.heap.size w w' := by
  obtain ⟨i0, hi, hz0, hz1, hz2⟩ := info_parts infoStr
  have hcount := wordsB_count s
  go_enter Tryd.func28, Tryd.ntmps28
  go_wp2
  have hown0 := World.ownsRow_made (base := w.heap.size) (e := 9) (size := 1) w #[] 0 (Nat.le_refl _) (by unfold maxLen; omega) rfl
  have hb0 := (Below.refl w.heap.size w).alloc (Nat.le_refl _) (.cells #[] 9)
  go_loopw [3, 4, 5] (fun v i _ wr => ∃ (k : Nat) (pre : List ByteArray), k ≤ s.size ∧ i = .int .i64 k ∧ wr.ownsRow w.heap.size 9 1 v pre.length (pre.map Value.string) ∧ Below w.heap.size w wr ∧ WordsInv s pre k)
    (fun _ i _ _ => s.size - (intOf i).toNat)
  case atStart => exact ⟨0, [], Nat.zero_le _, rfl, hown0, hb0, WordsInv.zero s⟩
  case round =>
    obtain ⟨k, pre, hk, rfl, hown, hnx, hinv⟩ := hrel
    clear hown0 hb0
    by_cases hlt : k < s.size
    · cases hg : isGap s[k] with
      | true =>
        have hi2 := hinv.gap hlt hg
        go_wp2_with (go_at_call 47; refine (blank_any _ _).mono ?_; rintro e w' ⟨rfl, rfl⟩)
        go_roundw
        case rel => exact ⟨k + 1, pre, by omega, by go_num, hown, hnx, hi2⟩
        case measure => simp [intOf]; omega
      | false =>
        go_wp2_with (go_at_call 47; refine (blank_any _ _).mono ?_; rintro e w' ⟨rfl, rfl⟩)
        have HPL := Lib.hid (hinv.lt (show wsize (s.data.toList.drop k) ≠ 0 by rw [drop_one s k hlt]; intro h; have := wsize_zero _ _ h; rw [hg] at this; cases this))
        rename_i wr
        go_loop [5] (fun x => ∃ e : Nat, k ≤ e ∧ e ≤ s.size ∧ x = .int .i64 e ∧ Hid (∀ j, k ≤ j → j < e → (hj : j < s.size) → isGap s[j] = false) ∧ (e = k → Hid (isGap s[k] = false))) (fun x => s.size - (intOf x).toNat)
        case atStart => exact ⟨k, Nat.le_refl _, hk, rfl, fun j h1 h2 => by omega, fun _ => hg⟩
        case round =>
          obtain ⟨e, hke, he, rfl, hall, -⟩ := hrel
          by_cases hle : e < s.size
          · cases hge : isGap s[e] with
            | false =>
              have HGE := Lib.hid hge
              go_wp2_with (go_at_call 47; refine (blank_any _ _).mono ?_; rintro e1 w1 ⟨rfl, rfl⟩)
              go_round
              case rel => exact ⟨e + 1, by omega, by omega, by go_num, fun j h1 h2 hj => by
                by_cases hje : j < e
                · exact hall.out j h1 hje hj
                · obtain rfl : j = e := by omega
                  exact HGE.out, fun h => by omega⟩
              case measure => simp [intOf]; omega
            | true =>
              have hek : k ≠ e := fun h => by subst h; rw [hg] at hge; cases hge
              have hz := wsize_drop hke he hall.out (fun _ => hge)
              have HW := Lib.hid (hinv.word (by rw [hz]; omega))
              rw [hz, show k + (e - k) = e by omega] at HW
              clear hz
              have hp : pre.length < (wordsB s).length := by have := HPL.out; exact this
              have hns := hnx.size
              go_wp2_with (first | (go_at_call 47; refine (blank_any _ _).mono ?_; rintro e1 w1 ⟨rfl, rfl⟩) | (at_builtin; refine wpList_append_own _ rfl (.tmp 31) (.tmp 36) 31 rfl w.heap.size 9 i0 (.string ByteArray.empty) 1 16 Tryd.underlying31 hi hz0 hz1 hz2 rfl (by decide) _ _ _ rfl (hown.alloc _) ⟨_, 0, none⟩ 1 1 [.string (s.extract k e)] rfl rfl (cell_one_new _ _ _) (by simp [Value.oneCell']) (by unfold maxLen; omega) (by omega) (by simp; omega) ?_; intro v' w2 hown' hgrow _))
              have R : w2.ownsRow w.heap.size 9 1 v' (pre ++ [s.extract k e]).length ((pre ++ [s.extract k e]).map Value.string) ∧ Below w.heap.size w w2 :=
                ⟨by simpa using hown', (hnx.alloc hnx.size _).grown hgrow (by simp; omega) (fun g hg => (hown.lt g hg).1)⟩
              clear hown' hgrow hown
              go_wp2
              go_roundw
              case rel => exact ⟨e, pre ++ [s.extract k e], by omega, rfl, R.1, R.2, HW.out⟩
              case measure => simp [intOf]; omega
          · obtain rfl : e = s.size := by omega
            have hek : k ≠ s.size := by omega
            have hz := wsize_drop hke he hall.out (fun h => by omega)
            have HW := Lib.hid (hinv.word (by rw [hz]; omega))
            rw [hz, show k + (s.size - k) = s.size by omega] at HW
            clear hz
            have hp : pre.length < (wordsB s).length := by have := HPL.out; exact this
            have hns := hnx.size
            go_wp2_with (first | (go_at_call 47; refine (blank_any _ _).mono ?_; rintro e1 w1 ⟨rfl, rfl⟩) | (at_builtin; refine wpList_append_own _ rfl (.tmp 31) (.tmp 36) 31 rfl w.heap.size 9 i0 (.string ByteArray.empty) 1 16 Tryd.underlying31 hi hz0 hz1 hz2 rfl (by decide) _ _ _ rfl (hown.alloc _) ⟨_, 0, none⟩ 1 1 [.string (s.extract k s.size)] rfl rfl (cell_one_new _ _ _) (by simp [Value.oneCell']) (by unfold maxLen; omega) (by omega) (by simp; omega) ?_; intro v' w2 hown' hgrow _))
            have R : w2.ownsRow w.heap.size 9 1 v' (pre ++ [s.extract k s.size]).length ((pre ++ [s.extract k s.size]).map Value.string) ∧ Below w.heap.size w w2 :=
              ⟨by simpa using hown', (hnx.alloc hnx.size _).grown hgrow (by simp; omega) (fun g hg => (hown.lt g hg).1)⟩
            clear hown' hgrow hown
            go_wp2
            go_roundw
            case rel => exact ⟨s.size, pre ++ [s.extract k s.size], by omega, rfl, R.1, R.2, HW.out⟩
            case measure => simp [intOf]; omega
    · have hst := hinv.stop (by omega)
      obtain rfl : pre = wordsB s := hst.symm
      go_wp2
      go_ret
      exact ⟨_, rfl, hown, hnx⟩
end Go.Proofs.YthmdbjjhhemjoaaDoor
