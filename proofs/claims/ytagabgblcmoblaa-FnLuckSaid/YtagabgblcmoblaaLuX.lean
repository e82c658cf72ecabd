/- Chapter 11, walked: numbers mixed by a luck (the program's two functions). -/
import Derived.Test.YtagabgblcmoblaaLuI
import Derived.Test.YtagabgblcmoblaaDraw2
import Derived.BigRegion
import Derived.OneCell
import Derived.Test.YtagabgblcmoblaaOwnR
set_option linter.unusedVariables false
set_option linter.unusedSimpArgs false
namespace Go.Proofs.Ytagabgblcmoblaa
open Go.RowKit
set_option linter.unusedVariables false
def intsV (xs : List Int) : List Value := xs.map (Value.int .i64)
theorem intsV_len (xs : List Int) : (intsV xs).length = xs.length := by simp [intsV]
theorem intsV_get (xs : List Int) (i : Nat) (h : i < xs.length) : (intsV xs)[i]? = some (.int .i64 (xs[i]?.getD 0)) := by simp [intsV, h]
theorem intsV_set (xs : List Int) (i : Nat) (x : Int) : (intsV xs).set i (.int .i64 x) = intsV (xs.set i x) := by simp [intsV]
theorem infoIn : (Try.prog.info? 3).map (fun i => (i.zero, i.size, i.bytes)) = some (some (.int .i64 0), 1, 8) := by kernel_rfl
/-- the box of the luck stands, whatever is stored into other blocks -/
theorem box_store {W : World} {b g : Nat} {o : Obj} (h : W.heap[b]? = some o) (a : Addr) (ha : a.block ≠ b) (u : Value) : (W.setCell a u).heap[b]? = some o := by
  rw [Below.heap_setCell _ _ _ _ (fun e => ha e.symm)]; exact h

set_option maxRecDepth 100000 in
set_option maxHeartbeats 2000000 in
theorem imixedby_any (l : Int) (n n₀ : Nat) (hn : n ≤ 50) (b : Nat) (w : World) (h : w.heap[b]? = some (.cells #[.int .i64 l] 41 (0, 0))) (hbl : b < w.heap.size) (hn₀ : n₀ ≤ b) :
    Calls Try.prog 27 #[.func (.func 25) #[.pointer (some ⟨b, 0, none⟩)] #[], .int .i64 n] w fun e w' => ∃ g, e = .returned (.slice (some ⟨g, 0, none⟩) n n) ∧ w'.ownsRow w.heap.size 3 1 (.slice (some ⟨g, 0, none⟩) n n) n (intsV (mixV l n).2) ∧
      w'.heap[b]? = some (.cells #[.int .i64 (mixV l n).1] 41 (0, 0)) ∧ Below n₀ w w' := by
  obtain ⟨i0, hi, hz0, hz1, hz2⟩ := info_parts infoIn
  obtain ⟨W, hmk, hown0, hgr0⟩ := run_make_full (P := Try.prog) w w.heap.size 29 3 i0 _ 1 Try.underlying29 hi hz0 hz1 .i64 .i64 n (by rw [hz2]; omega) (by unfold maxLen; omega) (Nat.le_refl _)
  have hb0 : Below n₀ w W := (Below.refl _ _).grown hgr0 (by omega) (by simp)
  have hbx0 : W.heap[b]? = some (.cells #[.int .i64 l] 41 (0, 0)) := by rw [hgr0.block b hbl (by simp)]; exact h
  have hsz0 := hgr0.size
  have hrest : (madeCells (Value.int .i64 0).cells (n * 1)).toList.length = n * 1 := hown0.1
  generalize (madeCells (Value.int .i64 0).cells (n * 1)).toList = Z at *
  go_enter Try.func27, Try.ntmps27
  go_wp2
  clear hmk hgr0 h
  go_loopw [13] (fun i wr => ∃ (k : Nat) (rest : List Value), k ≤ n ∧ i = .int .i64 k ∧ wr.ownsRow w.heap.size 3 1 (.slice (some ⟨w.heap.size, 0, none⟩) n n) n (intsV (uptoL k) ++ rest) ∧ Below n₀ w wr ∧ wr.heap[b]? = some (.cells #[.int .i64 l] 41 (0, 0)))
    (fun i _ => n - (intOf i).toNat)
  case atStart => exact ⟨0, Z, Nat.zero_le _, rfl, by simpa [intsV, uptoL] using hown0, hb0, hbx0⟩
  case round =>
    obtain ⟨k, rest, hk, rfl, hown, hbr, hbx⟩ := hrel
    clear hown0 hb0 hrest hbx0
    by_cases hlt : k < n
    · have z0 : (0 : Int) ≤ (k : Int) := by omega
      have z1 : (k : Int) < (n : Int) := by omega
      have hl := hown.1
      rw [List.length_append, intsV_len, uptoL_len] at hl
      obtain ⟨u, rest2, rfl⟩ : ∃ u r, rest = u :: r := by
        match rest, hl with
        | [], h => simp at h; omega
        | a :: r, _ => exact ⟨a, r, rfl⟩
      have hset : (intsV (uptoL k) ++ u :: rest2).set k (.int .i64 k) = intsV (uptoL (k + 1)) ++ rest2 := by
        rw [List.set_append_right _ _ (by rw [intsV_len, uptoL_len]; omega), intsV_len, uptoL_len, Nat.sub_self, uptoL_succ]
        simp [intsV]
      have st := hown.stored k (.int .i64 k)
      rw [hset] at st
      have hbz := hbr.setCell (p := ⟨w.heap.size, k, none⟩) (by show n₀ ≤ w.heap.size; omega) (.int .i64 k)
      have hbx2 := box_store (g := 0) hbx ⟨w.heap.size, k, none⟩ (by show w.heap.size ≠ b; omega) (.int .i64 k)
      have R := Lib.hid (And.intro st.1 (And.intro hbz hbx2))
      obtain ⟨s1, s2⟩ := own_cell hown k (by omega)
      clear st hbz hbx2 hown hbr hbx hset hl
      go_wp2
      exact ⟨⟨k + 1, rest2, by omega, by go_num, R.out.1, R.out.2.1, R.out.2.2⟩, by simp [intOf] <;> omega⟩
    · obtain rfl : n = k := by omega
      have hr0 : rest = [] := by
        have h1 := hown.1
        rw [List.length_append, intsV_len, uptoL_len] at h1
        exact List.eq_nil_of_length_eq_zero (by omega)
      subst hr0
      rw [List.append_nil] at hown
      have ew : IntKind.i64.wrap ((n : Int) - 1) = (n : Int) - 1 := IntWalk.i64_in _ (by omega)
      have ew2 : wrap64 ((n : Int) - 1) = (n : Int) - 1 := IntWalk.wrap64_in _ (by omega)
      go_wp2
      go_loopw [7] (fun i wr => ∃ (k : Nat) (l2 : Int) (xs : List Int), k ≤ n ∧ i = .int .i64 ((k : Int) - 1) ∧ xs.length = n ∧ mixM (k - 1) l2 xs = mixV l n ∧ wr.ownsRow w.heap.size 3 1 (.slice (some ⟨w.heap.size, 0, none⟩) n n) n (intsV xs) ∧ Below n₀ w wr ∧ wr.heap[b]? = some (.cells #[.int .i64 l2] 41 (0, 0)))
        (fun i _ => (intOf i).toNat)
      case atStart => exact ⟨n, l, uptoL n, Nat.le_refl _, rfl, uptoL_len n, rfl, hown, hbr, hbx⟩
      case round =>
        obtain ⟨k, l2, xs, hk, rfl, hxl, hmix, hown, hbr, hbx⟩ := hrel
        by_cases hk2 : 2 ≤ k
        · obtain ⟨m, rfl⟩ : ∃ m, k = m + 2 := ⟨k - 2, by omega⟩
          have ei : ((m + 2 : Nat) : Int) - 1 = ((m + 1 : Nat) : Int) := by omega
          rw [ei]
          have z2 : (1 : Int) ≤ ((m + 1 : Nat) : Int) := by omega
          have hmix : mixM m (nxL l2) (swpL xs (m + 1) (blL l2 (m + 2)).toNat) = mixV l n := hmix
          have hbd := blL_bd l2 ((m : Int) + 1 + 1) (by omega)
          rw [show ((m : Int) + 2) = (m : Int) + 1 + 1 by omega] at hmix
          have HD := Lib.hid (idraw_any l2 ((m : Int) + 1 + 1) b wr hbx)
          have hown2 := ownsRow_setCell_below hown (a := ⟨b, 0, none⟩) hbl (.int .i64 (nxL l2))
          have hbr2 := hbr.setCell (p := ⟨b, 0, none⟩) hn₀ (.int .i64 (nxL l2))
          have hbx2 := one_setCell hbx (u := .int .i64 (nxL l2))
          generalize blL l2 ((m : Int) + 1 + 1) = jj at *
          obtain ⟨j, rfl⟩ : ∃ j : Nat, jj = j := ⟨jj.toNat, by omega⟩
          rw [Int.toNat_natCast] at hmix
          have HM := Lib.hid hmix
          clear hmix hown hbr hbx
          have y0 : (0 : Int) ≤ (j : Int) := by omega
          have y1 : (j : Int) < (n : Int) := by omega
          have y2 : (0 : Int) ≤ ((m + 1 : Nat) : Int) := by omega
          have y3 : ((m + 1 : Nat) : Int) < (n : Int) := by omega
          have hjn : j < n := by omega
          have hmn : m + 1 < n := by omega
          go_wp2_with fail
          refine HD.out.mono ?_
          rintro e w2 ⟨rfl, hw2⟩
          rw [← hw2] at hown2 hbr2 hbx2
          clear hw2 HD
          obtain ⟨s1, s2⟩ := own_cell hown2 j (by omega)
          obtain ⟨s3, s4⟩ := own_cell hown2 (m + 1) (by omega)
          rw [List.getD_eq_getElem?_getD, intsV_get xs _ (by omega), Option.getD_some] at s1 s3
          have st := (hown2.stored (m + 1) (.int .i64 (xs[j]?.getD 0))).1.stored j (.int .i64 (xs[m + 1]?.getD 0))
          rw [intsV_set, intsV_set] at st
          have hs2 := (hbr2.setCell (p := ⟨w.heap.size, m + 1, none⟩) (by show n₀ ≤ w.heap.size; omega) (.int .i64 (xs[j]?.getD 0))).setCell (p := ⟨w.heap.size, j, none⟩) (by show n₀ ≤ w.heap.size; omega) (.int .i64 (xs[m + 1]?.getD 0))
          have hx2 := box_store (g := 0) (box_store (g := 0) hbx2 ⟨w.heap.size, m + 1, none⟩ (by show w.heap.size ≠ b; omega) (.int .i64 (xs[j]?.getD 0))) ⟨w.heap.size, j, none⟩ (by show w.heap.size ≠ b; omega) (.int .i64 (xs[m + 1]?.getD 0))
          have R := Lib.hid (And.intro st.1 (And.intro hs2 hx2))
          have hl1 : (swpL xs (m + 1) j).length = n := by rw [swpL_len]; exact hxl
          obtain ⟨v1, hv1⟩ := cell?_setCell_some (w := w2) (p := ⟨w.heap.size, m + 1, none⟩) (x := .int .i64 (xs[j]?.getD 0)) (q := ⟨w.heap.size, j, none⟩) (v := .int .i64 (xs[j]?.getD 0)) s1
          have HS := Lib.hid (show (xs.set (m + 1) (xs[j]?.getD 0)).set j (xs[m + 1]?.getD 0) = swpL xs (m + 1) j from rfl)
          clear st hs2 hx2 hown2 hbr2 hbx2
          generalize xs[j]?.getD 0 = x1 at *
          generalize xs[m + 1]?.getD 0 = x2 at *
          go_wp2
          go_region
          go_wp2
          refine ⟨⟨m + 1, nxL l2, swpL xs (m + 1) j, by omega, by go_num, hl1, HM.out, ?_, R.out.2.1.drew, R.out.2.2⟩, by simp [intOf] <;> omega⟩
          rw [← HS.out]
          exact R.out.1
        · go_wp2
          go_ret
          have hm1 : k - 1 = 0 := by omega
          rw [hm1] at hmix
          unfold mixM at hmix
          rw [← hmix]
          exact ⟨w.heap.size, rfl, hown, hbx, hbr⟩
set_option maxRecDepth 100000 in
theorem imixed_any (l n : Int) (w : World) : Calls Try.prog 16 #[.int .i64 l, .int .i64 n] w fun e w' => ∃ v, e = .returned (.tuple #[.int .i64 (mxL l n).1, v]) ∧ w'.ownsRow w.heap.size 3 1 v (mxL l n).2.length (intsV (mxL l n).2) ∧ Below w.heap.size w w' := by
  by_cases h1 : n < 0
  · have e0 : mxL l n = (l, []) := by unfold mxL; rw [if_pos (by omega)]
    rw [e0]
    have d1 : decide (n < 0) = true := by simp [h1]
    go_enter Try.func16, Try.ntmps16
    go_wp2
    go_ret2
    exact ⟨_, rfl, ⟨rfl, .inl ⟨rfl, rfl⟩⟩, Below.refl _ _⟩
  · by_cases h2 : 50 < n
    · have e0 : mxL l n = (l, []) := by unfold mxL; rw [if_pos (by omega)]
      rw [e0]
      go_enter Try.func16, Try.ntmps16
      go_wp2
      go_ret2
      exact ⟨_, rfl, ⟨rfl, .inl ⟨rfl, rfl⟩⟩, Below.refl _ _⟩
    · obtain ⟨m, rfl⟩ : ∃ m : Nat, n = m := ⟨n.toNat, by omega⟩
      have e0 : mxL l m = mixV l m := by unfold mxL; rw [if_neg (by omega), Int.toNat_natCast]
      rw [e0, mixV_len]
      have z1 : ¬ (m : Int) < 0 := by omega
      have z2 : ¬ (50 : Int) < (m : Int) := by omega
      go_enter Try.func16, Try.ntmps16
      go_wp2_with fail
      refine (imixedby_any l m w.heap.size (by omega) w.heap.size _ ?_ ?_ (Nat.le_refl _)).mono ?_
      · exact heap_alloc_new w _
      · simp
      rintro e w1 ⟨g, rfl, hown, hbx, hb⟩
      have c1 := cell_of_one hbx
      have HB := Lib.hid (And.intro (own_base hown (base := w.heap.size) (by simp)) (((Below.refl _ _).alloc (Nat.le_refl _) _).trans hb))
      clear hown hb hbx
      go_wp2
      go_ret2
      exact ⟨_, rfl, HB.out.1, HB.out.2⟩
end Go.Proofs.Ytagabgblcmoblaa
