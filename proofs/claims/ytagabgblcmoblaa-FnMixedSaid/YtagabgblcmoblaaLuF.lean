/- Chapter 11: the law on numbers that are mixed, walked. -/
import Derived.Test.YtagabgblcmoblaaLuL
set_option linter.unusedVariables false
set_option linter.unusedSimpArgs false
namespace Go.Proofs.Ytagabgblcmoblaa
open Go.ChangeShapes Go.WideShapes Go.ChangeAt Go.RowKit
set_option linter.unusedVariables false
def boolsV (bs : List Bool) : List Value := bs.map Value.bool
theorem boolsV_len (bs : List Bool) : (boolsV bs).length = bs.length := by simp [boolsV]
theorem boolsV_set (bs : List Bool) (i : Nat) (x : Bool) : (boolsV bs).set i (.bool x) = boolsV (bs.set i x) := by simp [boolsV]
theorem own_bool {w : World} {base g n cap : Nat} {bs : List Bool} (h : w.ownsRow base 4 1 (.slice (some ⟨g, 0, none⟩) n cap) n (boolsV bs)) (j : Nat) (b : Bool) (hj : bs[j]? = some b) : w.cell? ⟨g, j, none⟩ = some (.bool b) ∧ w.frozen? ⟨g, j, none⟩ = false := by
  have hl := h.1
  rw [boolsV_len] at hl
  have hjl := (List.getElem?_eq_some_iff.1 hj).1
  have := own_cell h j (by omega)
  refine ⟨this.1.trans ?_, this.2⟩
  rw [List.getD_eq_getElem?_getD]
  simp [boolsV, hj]
theorem infoBo : (Try.prog.info? 4).map (fun i => (i.zero, i.size, i.bytes)) = some (some (.bool false), 1, 1) := by kernel_rfl
set_option maxRecDepth 100000 in
set_option maxHeartbeats 4000000 in
theorem fnmixed_walk (a0 : Option Addr) (len0 cap0 : Nat) (z0 : List Int) (w : World) (w0 : IsRow .u8 w a0 len0 cap0 z0) :
    Calls Try.prog 4 #[.slice a0 len0 cap0] w fun e w' => e = .returned (.bool true) ∧ Below w.heap.size w w' := by
  by_cases hbig : len0 ≤ 1048576
  · have hc := codeAt_of w0 hbig
    have B1 := Lib.hid (fun w => big_any a0 len0 cap0 w hbig)
    have D1 := Lib.hid (fun (w' : World) (e : w' = w) => by subst e; exact drawmixed_any len0 cap0 a0 z0 w' hc)
    clear w0 hc
    go_enter Try.func4, Try.ntmps4
    go_wp2_with fail
    refine (B1.out _).mono ?_
    rintro e w1 ⟨rfl, rfl⟩
    clear B1
    go_wp2_with fail
    refine (D1.out _ rfl).mono ?_
    rintro e w2 ⟨l, n, rfl, hb2⟩
    clear D1
    have HS := Lib.hid (fun w => smixed_any l n w)
    have hl50 := mxL_len l n
    have HP := Lib.hid (fun m h => mxL_perm l m h)
    have HO := Lib.hid (fun h => mxL_out l n h)
    have HE := Lib.hid (rfl : mxL l n = mxL l n)
    go_wp2_with fail
    refine (imixed_any l n _).mono ?_
    rintro e w3 ⟨vi, rfl, hi3, hb3⟩
    have HB3 := hb2.trans (hb3.mono hb2.size)
    clear hb2 hb3
    go_wp2_with fail
    refine (HS.out _).mono ?_
    rintro e w4 ⟨vs, rfl, hs4, hb4⟩
    have HB4 := HB3.trans (hb4.mono HB3.size)
    have hi4 := own_below hi3 hb4
    clear HB3 hb4 hi3 HS
    go_wp2_with fail
    refine (sameints_self _ _ vi vs (mxL l n).2 (mxL l n).2.length _ hi4 hs4 (by omega)).mono ?_
    rintro e w5 ⟨rfl, hb5⟩
    have HB5 := HB4.trans (hb5.mono HB4.size)
    have hi5 := own_below hi4 hb5
    clear HB4 hb5 hi4 hs4
    by_cases h1 : n < 0 ∨ 50 < n
    · rw [HO.out h1] at hi5 ⊢
      obtain ⟨x, c, rfl⟩ : ∃ x c, vi = .slice x 0 c := by rcases ownsRow_shape0 hi5 with ⟨rfl, _⟩ | ⟨g, cap, rfl⟩ <;> exact ⟨_, _, rfl⟩
      clear HP HO HE hi5 hl50
      by_cases h2 : n < 0
      · go_wp2
        go_ret
        exact ⟨rfl, HB5⟩
      · have h3 : 50 < n := by omega
        clear h1
        go_wp2
        go_ret
        exact ⟨rfl, HB5⟩
    · obtain ⟨m, rfl⟩ : ∃ m : Nat, n = m := ⟨n.toNat, by omega⟩
      have hP := HP.out m (by omega)
      have h2 : ¬ (m : Int) < 0 := by omega
      have h3 : ¬ (50 : Int) < (m : Int) := by omega
      clear HP HO HE
      generalize mxL l m = M at *
      obtain ⟨b, A⟩ := M
      dsimp only at *
      have hAl := hP.len
      rw [hAl] at hi5 hl50
      obtain ⟨i0, hi, hz0, hz1, hz2⟩ := info_parts infoBo
      obtain ⟨W, hmk, hown0, hgr0⟩ := run_make_full (P := Try.prog) w5 w5.heap.size 33 4 i0 _ 1 Try.underlying33 hi hz0 hz1 .i64 .i64 m (by rw [hz2]; omega) (by unfold maxLen; omega) (Nat.le_refl _)
      have hiW := own_below hi5 ((Below.refl _ _).grown hgr0 (Nat.le_refl _) (by simp))
      have HBW : Below w1.heap.size w1 W := HB5.grown hgr0 HB5.size (by simp)
      have hz5 := HB5.size
      have e1 : (madeCells (Value.bool false).cells (m * 1)).toList = boolsV (List.replicate m false) := by
        show (madeCells #[Value.bool false] (m * 1)).toList = _
        rw [toList_madeCells_one, Nat.mul_one]
        simp [boolsV]
      rw [e1] at hown0
      obtain ⟨vl, hvl⟩ : ∃ (p : Option Addr × Nat), vi = .slice p.1 m p.2 := by
        rcases ownsRow_shape0 hi5 with ⟨rfl, h0⟩ | ⟨g, cap, rfl⟩
        · exact ⟨(none, 0), by rw [h0]⟩
        · exact ⟨(some ⟨g, 0, none⟩, cap), rfl⟩
      obtain ⟨x, c⟩ := vl
      dsimp only at hvl
      subst hvl
      have hlt5 : ∀ g, (Value.slice x m c).ownBlock = some g → g < w5.heap.size := fun g e => (hi5.lt g e).2
      clear e1 hi5 HB5 hgr0
      go_wp2
      clear hmk
      go_loopw [10] (fun i wr => ∃ (k : Nat) (bs : List Bool), k ≤ m ∧ i = .int .i64 k ∧ bs.length = m ∧ wr.ownsRow w5.heap.size 4 1 (.slice (some ⟨w5.heap.size, 0, none⟩) m m) m (boolsV bs) ∧ wr.ownsRow w2.heap.size 3 1 (.slice x m c) m (intsV A) ∧ Below w1.heap.size w1 wr ∧ (∀ j, k ≤ j → j < m → bs[(A[j]?.getD 0).toNat]? = some false))
        (fun i _ => m - (intOf i).toNat)
      case atStart =>
        refine ⟨0, List.replicate m false, Nat.zero_le _, rfl, by simp, hown0, hiW, HBW, fun j _ hj => ?_⟩
        have := hP.bd j hj
        rw [List.getElem?_replicate, if_pos (by omega)]
      case round =>
        obtain ⟨k, bs, hk, rfl, hbl, hown, hia, hbr, hbs⟩ := hrel
        clear hown0 hiW HBW
        by_cases hlt : k < m
        · obtain ⟨g, cap, hg⟩ := ownsRow_shape1 hia (by omega)
          cases hg
          have hgl := hlt5 g rfl
          have z0 : (0 : Int) ≤ (k : Int) := by omega
          have z1 : (k : Int) < (m : Int) := by omega
          have c1 := own_int hia k hlt
          have hx := hP.bd k hlt
          have hf := hbs k (Nat.le_refl _) hlt
          have hin := hP.inj
          obtain ⟨y, hy⟩ : ∃ y : Nat, A[k]?.getD 0 = (y : Int) := ⟨(A[k]?.getD 0).toNat, by omega⟩
          rw [hy] at c1 hx hf
          rw [Int.toNat_natCast] at hf
          obtain ⟨s1, s2⟩ := own_bool hown y false hf
          have st := hown.stored y (.bool true)
          rw [boolsV_set] at st
          have hia2 := hia.kept st.2 (.inr fun e => by have h : g = w5.heap.size := Option.some.inj e; omega)
          have hbr2 := hbr.setCell (p := ⟨w5.heap.size, y, none⟩) hz5 (.bool true)
          have hbs2 : ∀ j, k + 1 ≤ j → j < m → (bs.set y true)[(A[j]?.getD 0).toNat]? = some false := fun j h1 h2 => by
            have hne : (A[j]?.getD 0).toNat ≠ y := fun e => by
              have hb := hP.bd j h2
              have := hin j k h2 hlt (by rw [hy]; omega)
              omega
            rw [List.getElem?_set_ne (fun e => hne e.symm)]
            exact hbs j (by omega) h2
          have R := Lib.hid (And.intro st.1 (And.intro hia2 (And.intro hbr2 hbs2)))
          have hbl2 : (bs.set y true).length = m := by simp [hbl]
          have x0 : ¬ (y : Int) < 0 := by omega
          have x1 : ¬ (m : Int) ≤ (y : Int) := by omega
          have x2 : (y : Int) < (m : Int) := by omega
          have x3 : (0 : Int) ≤ (y : Int) := by omega
          clear st hia2 hbr2 hbs2 hbs hown hia hbr hin hf hy hx hP hlt5
          go_wp2
          exact ⟨⟨k + 1, bs.set y true, by omega, by go_num, hbl2, R.out.1, R.out.2.1, R.out.2.2.1, R.out.2.2.2⟩, by simp [intOf] <;> omega⟩
        · obtain rfl : k = m := by omega
          go_wp2
          go_ret
          exact ⟨rfl, hbr⟩
  · have B1 := Lib.hid (fun w => big_true a0 len0 cap0 w hbig)
    go_enter Try.func4, Try.ntmps4
    go_wp2_with fail
    refine (B1.out _).mono ?_
    rintro e w1 ⟨rfl, rfl⟩
    go_wp2
    go_ret
    exact ⟨rfl, Below.refl _ _⟩
end Go.Proofs.Ytagabgblcmoblaa
