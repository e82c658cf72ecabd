/- The walks of Lines, both. -/
import Derived.Test.YthmdbjjhhemjoaaDoorHex
import Derived.Test.YthmdbjjhhemjoaaDoorLawStr
import Derived.Test.YthmdbjjhhemjoaaDoorLinesM
import Derived.Test.YthmdbjjhhemjoaaDoorShelf
import Derived.Lib.Hide
import Derived.Lib.Strings
namespace Go.Proofs.YthmdbjjhhemjoaaDoor
open Go.ChangeShapes Go.WideShapes Go.ChangeAt Go.RowKit
set_option linter.unusedVariables false

theorem infoStrL : (Tryd.prog.info? 9).map (fun i => (i.zero, i.size, i.bytes)) = some (some (.string ByteArray.empty), 1, 16) := by kernel_rfl
theorem cloneL_any (s : ByteArray) (w : World) (hs : s.size ≤ 2000000) : Calls Tryd.prog 45 #[.string s] w fun e w' => e = .returned (.string s) ∧ Below w.heap.size w w' := by
  go_enter Tryd.func45, Tryd.ntmps45
  go_wp2_with (go_at_call 57; refine (Tryd.stringslite_Clone s _ (by omega)).mono ?_; rintro e w' ⟨rfl, hb⟩)
  go_ret
  exact ⟨rfl, hb⟩
theorem linesB_size (s : ByteArray) (x : ByteArray) (hx : x ∈ linesB s) : x.size ≤ s.size := by
  unfold linesB at hx
  split at hx
  · cases hx
  · rw [← splitB_nl] at hx
    have h := Lib.splitB_data nlB 0 (Lib.countB s nlB) s
    have : ∀ (k : Nat) (t : ByteArray) (y : ByteArray), y ∈ Lib.splitB nlB 0 k t → y.size ≤ t.size := by
      intro k
      induction k with
      | zero => intro t y hy; simp [Lib.splitB] at hy; subst hy; exact Nat.le_refl _
      | succ k ih =>
        intro t y hy
        unfold Lib.splitB at hy
        split at hy
        · simp at hy; subst hy; exact Nat.le_refl _
        · rcases List.mem_cons.1 hy with rfl | hy
          · simp; omega
          · have := ih _ y hy; simp at this; omega
    exact this _ s x hx

set_option maxHeartbeats 400000 in
theorem ilines_any (s : ByteArray) (w : World) (hs : s.size ≤ 2000000) (hsh : w.ShapedOpen Tryd.prog) :
    Calls Tryd.prog 23 #[.string s] w fun e w' => ∃ v, e = .returned v ∧ w'.ownsRow w.heap.size 9 1 v (linesB s).length ((linesB s).map Value.string) ∧ Below w.heap.size w w' := by
  by_cases h0 : s.size = 0
  · have he : s.toList.isEmpty = true := by
      rw [Lib.toList_data]
      have : s.data.toList = [] := List.length_eq_zero_iff.1 (by simpa using h0)
      rw [this]; rfl
    have hl : linesB s = [] := by unfold linesB; rw [if_pos h0]
    have HL := Lib.hid hl; clear hl hsh h0
    go_enter Tryd.func23, Tryd.ntmps23
    go_wp2
    go_ret
    exact ⟨_, rfl, by rw [HL.out]; exact World.ownsRow_nil _ _ _ _, Below.refl _ _⟩
  · have he : s.toList.isEmpty = false := by
      rw [Lib.toList_data]
      cases hh : s.data.toList with
      | nil => exact absurd (by have := congrArg List.length hh; simpa using this) h0
      | cons _ _ => rfl
    have hsp := Tryd.strings_Split_shaped s nlB w hsh (by omega) (by decide)
    have hx : linesB s = Lib.splitB nlB 0 (Lib.countB s nlB) s := by unfold linesB; rw [if_neg h0, splitB_nl]
    have hn := linesB_len s h0
    have hcnt := linesB_count s
    have hsz := linesB_size s
    rw [← hx, ← hn] at hsp
    generalize linesB s = xs at *
    have HSP := Lib.hid hsp; have HSZ := Lib.hid hsz
    clear hsp hx hn hsh h0 hsz
    go_enter Tryd.func23, Tryd.ntmps23
    go_wp2_with fail
    refine HSP.out.mono ?_
    clear HSP
    rintro e w1 ⟨rfl, rfl⟩
    have hown0 := World.ownsRow_lit (base := w.heap.size) (e := 9) (size := 1) w (xs.map Value.string).toArray xs.length (Nat.le_refl _) (by unfold maxLen; omega) (by simp)
    have hb0 := (Below.refl w.heap.size w).alloc (Nat.le_refl _) (.cells (xs.map Value.string).toArray 9)
    simp only [List.toList_toArray] at hown0
    generalize hw1 : w.alloc (.cells (xs.map Value.string).toArray 9) = w1 at *
    clear hw1
    go_wp2
    go_loopw [4, 5, 12] (fun _ _ i wr => ∃ j : Nat, j ≤ xs.length ∧ i = .int .i64 j ∧ wr.ownsRow w.heap.size 9 1 (.slice (some ⟨w.heap.size, 0, none⟩) xs.length xs.length) xs.length (xs.map Value.string) ∧ Below w.heap.size w wr)
      (fun _ _ i _ => xs.length - (intOf i).toNat)
    case atStart => exact ⟨0, Nat.zero_le _, rfl, hown0, hb0⟩
    case round =>
      obtain ⟨j, hj, rfl, ho, hnx⟩ := hrel
      clear hown0 hb0
      by_cases hlt : j < xs.length
      · have z0 : (0 : Int) ≤ (j : Int) := Int.natCast_nonneg _
        have z1 : (j : Int) < (xs.length : Int) := by omega
        have hc : wr.cell? ⟨w.heap.size, j, none⟩ = some (.string xs[j]) := by rw [ho.cellAt j (by omega)]; simp [hlt]
        have hxs : (xs[j]).size ≤ 2000000 := by have := HSZ.out xs[j] (List.getElem_mem hlt); omega
        generalize hy : xs[j] = y at *
        have HY := Lib.hid hy; clear hy
        go_wp2_with fail
        refine (cloneL_any y _ hxs).mono ?_
        rintro e w2 ⟨rfl, hb2⟩
        have ho2 := ho.kept (grown_of_below' hb2 none) (.inr (by simp [Value.ownBlock]))
        have hnx2 := hnx.trans (hb2.mono hnx.size)
        have hc2 : w2.cell? ⟨w.heap.size, j, none⟩ = some (.string y) := by rw [ho2.cellAt j (by omega)]; simp [hlt, HY.out]
        have hf2 := ho2.frozenAt j
        have hst := ho2.stored j (.string y)
        have hset : (xs.map Value.string).set j (.string y) = xs.map Value.string := by
          have : (.string y : Value) = (xs.map Value.string)[j]'(by simpa using hlt) := by simp [HY.out]
          rw [this]; exact List.set_getElem_self _
        rw [hset] at hst
        have HST := Lib.hid hst
        clear ho hb2 hc hst hset ho2
        go_wp2
        go_roundw
        case rel => exact ⟨j + 1, by omega, by go_num, HST.out.1, hnx2.setCell (p := ⟨w.heap.size, j, none⟩) (Nat.le_refl _) _⟩
        case measure => simp [intOf]; omega
      · go_wp2
        go_ret
        exact ⟨_, rfl, ho, hnx⟩

set_option maxHeartbeats 1000000 in
theorem slines_any (s : ByteArray) (w : World) (hs : s.size ≤ 2000000) :
    Calls Tryd.prog 27 #[.string s] w fun e w' => ∃ v, e = .returned v ∧ w'.ownsRow w.heap.size 9 1 v (linesB s).length ((linesB s).map Value.string) ∧ Below w.heap.size w w' := by
  obtain ⟨i0, hi, hz0, hz1, hz2⟩ := info_parts infoStrL
  by_cases h0 : s.size = 0
  · have he : s.toList.isEmpty = true := by
      rw [Lib.toList_data]
      have : s.data.toList = [] := List.length_eq_zero_iff.1 (by simpa using h0)
      rw [this]; rfl
    have hl : linesB s = [] := by unfold linesB; rw [if_pos h0]
    have HL := Lib.hid hl; clear hl h0
    go_enter Tryd.func27, Tryd.ntmps27
    go_wp2
    go_ret
    exact ⟨_, rfl, by rw [HL.out]; exact World.ownsRow_made (base := w.heap.size) (e := 9) (size := 1) w #[] 0 (Nat.le_refl _) (by unfold maxLen; omega) rfl, (Below.refl w.heap.size w).alloc (Nat.le_refl _) (.cells #[] 9)⟩
  · have he : s.toList.isEmpty = false := by
      rw [Lib.toList_data]
      cases hh : s.data.toList with
      | nil => exact absurd (by have := congrArg List.length hh; simpa using this) h0
      | cons _ _ => rfl
    have hx : linesB s = (splitNl s.data.toList).map toB := by unfold linesB; rw [if_neg h0]
    have HX := Lib.hid hx; clear hx
    have hcnt := linesB_count s
    go_enter Tryd.func27, Tryd.ntmps27
    go_wp2
    have hown0 := World.ownsRow_made (base := w.heap.size) (e := 9) (size := 1) w #[] 0 (Nat.le_refl _) (by unfold maxLen; omega) rfl
    have hb0 := (Below.refl w.heap.size w).alloc (Nat.le_refl _) (.cells #[] 9)
    go_loopw [3, 4, 5] (fun v f i wr => ∃ (k j : Nat) (acc : List ByteArray), k ≤ j ∧ j ≤ s.size ∧ f = .int .i64 k ∧ i = .int .i64 j ∧ acc.length ≤ j ∧ wr.ownsRow w.heap.size 9 1 v acc.length (acc.map Value.string) ∧ Below w.heap.size w wr ∧ LinesInv s acc k ∧ Hid (∀ q, k ≤ q → q < j → (hq : q < s.size) → s[q] ≠ 10))
      (fun _ _ i _ => s.size - (intOf i).toNat)
    case atStart => exact ⟨0, 0, [], Nat.le_refl _, Nat.zero_le _, rfl, rfl, Nat.le_refl _, hown0, hb0, LinesInv.zero s, fun q h1 h2 => by omega⟩
    case round =>
      obtain ⟨k, j, acc, hkj, hj, rfl, rfl, hacc, hown, hnx, hinv, hno⟩ := hrel
      clear hown0 hb0
      have hns := hnx.size
      by_cases hlt : j < s.size
      · by_cases hc : s[j] = 10
        · have hb : ((s[j].toNat : Int) == 10) = true := by rw [hc]; rfl
          have hl := hinv.line hkj hlt hno.out hc
          have HL := Lib.hid hl
          clear hl hc hinv
          go_wp2_with (at_builtin; refine wpList_append_own _ rfl (.tmp 20) (.tmp 25) 31 rfl w.heap.size 9 i0 (.string ByteArray.empty) 1 16 Tryd.underlying31 hi hz0 hz1 hz2 rfl (by decide) _ _ _ rfl (hown.alloc _) ⟨_, 0, none⟩ 1 1 [.string (s.extract k j)] rfl rfl (cell_one_new _ _ _) (by simp [Value.oneCell']) (by unfold maxLen; omega) (by omega) (by simp; omega) ?_; intro v' w2 hown' hgrow _)
          have R : w2.ownsRow w.heap.size 9 1 v' (acc ++ [s.extract k j]).length ((acc ++ [s.extract k j]).map Value.string) ∧ Below w.heap.size w w2 :=
            ⟨by simpa using hown', (hnx.alloc hnx.size _).grown hgrow (by simp; omega) (fun g hg => (hown.lt g hg).1)⟩
          clear hown' hgrow hown
          go_wp2
          go_roundw
          case rel => exact ⟨j + 1, j + 1, acc ++ [s.extract k j], Nat.le_refl _, by omega, by go_num, by go_num, by simp; omega, R.1, R.2, HL.out, fun q h1 h2 => by omega⟩
          case measure => simp [intOf]; omega
        · have hb : ((s[j].toNat : Int) == 10) = false := by
            rw [beq_eq_false_iff_ne]; intro e
            exact hc (UInt8.toNat_inj.1 ((by omega : s[j].toNat = 10).trans rfl))
          have HC := Lib.hid hc; clear hc
          go_wp2
          go_roundw
          case rel => exact ⟨k, j + 1, acc, by omega, by omega, rfl, by go_num, by omega, hown, hnx, hinv, fun q h1 h2 hq => by
            by_cases e : q < j
            · exact hno.out q h1 e hq
            · obtain rfl : q = j := by omega
              exact HC.out⟩
          case measure => simp [intOf]; omega
      · obtain rfl : j = s.size := by omega
        have hl := hinv.last hkj (fun q h1 hq => hno.out q h1 hq hq)
        rw [← HX.out] at hl
        have HL := Lib.hid hl
        clear hl hinv
        go_wp2_with (at_builtin; refine wpList_append_own _ rfl (.tmp 29) (.tmp 33) 31 rfl w.heap.size 9 i0 (.string ByteArray.empty) 1 16 Tryd.underlying31 hi hz0 hz1 hz2 rfl (by decide) _ _ _ rfl (hown.alloc _) ⟨_, 0, none⟩ 1 1 [.string (s.extract k s.size)] rfl rfl (cell_one_new _ _ _) (by simp [Value.oneCell']) (by unfold maxLen; omega) (by omega) (by simp; omega) ?_; intro v' w2 hown' hgrow _)
        have R : w2.ownsRow w.heap.size 9 1 v' (acc ++ [s.extract k s.size]).length ((acc ++ [s.extract k s.size]).map Value.string) ∧ Below w.heap.size w w2 :=
          ⟨by simpa using hown', (hnx.alloc hnx.size _).grown hgrow (by simp; omega) (fun g hg => (hown.lt g hg).1)⟩
        clear hown' hgrow hown
        go_wp2
        go_ret
        exact ⟨_, rfl, by rw [HL.out]; exact R.1, R.2⟩
end Go.Proofs.YthmdbjjhhemjoaaDoor
