/- What the laws lean on (own lemmas and walks of the called functions). -/
import Derived.Test.YtdokkhgeeinnhaaDoorPb2
set_option linter.unusedVariables false
set_option linter.unusedSimpArgs false
namespace Go.Proofs.YtdokkhgeeinnhaaDoor
open Go.ChangeShapes Go.WideShapes Go.ChangeAt Go.RowKit Go.BigFrame
set_option linter.unusedVariables false

theorem putS_few (f : F4) : (putS f).size ≤ 25 := by
  cases hf : frOkB f
  · have : putL f = [] := if_neg (by rw [hf]; exact Bool.false_ne_true)
    show (putL f).toArray.size ≤ _
    rw [this]; simp
  · obtain ⟨_, _, hc, _⟩ := (frOk_iff f).1 hf
    obtain ⟨h6, _, _, _⟩ := (codeOk_iff f.2).1 hc
    have h := putL_len hf
    show (putL f).toArray.size ≤ _
    simp only [List.size_toArray]
    omega
def pickF : List ByteArray := [⟨#[]⟩, ⟨#[1]⟩, ⟨#[1, 13]⟩]
theorem pickF_size (i : Nat) : (pickF[i]?.getD ByteArray.empty).size ≤ 2 := by
  unfold pickF
  rcases (by omega : i = 0 ∨ i = 1 ∨ i = 2 ∨ 3 ≤ i) with rfl | rfl | rfl | h
  · decide
  · decide
  · decide
  · rw [List.getElem?_eq_none (by simpa using h)]; decide
set_option maxRecDepth 100000 in
set_option maxHeartbeats 8000000 in
theorem drawgetframe_any (n₀ len cap : Nat) (a : Option Addr) (zs : List Int) (w : World) (hc : CodeAt n₀ w a len zs) (hw : n₀ ≤ w.heap.size) :
    Calls Tryd.prog 17 #[.slice a len cap] w fun e w' => ∃ s : ByteArray, e = .returned (.string s) ∧ s.size ≤ 3000 ∧ Below w.heap.size w w' := by
  have H1 := Lib.hid (new_any n₀ len cap a zs w hc hw); clear hc
  obtain ⟨i0, hi, hz0, hz1, hz2⟩ := info_parts info5
  go_enter Tryd.func17, Tryd.ntmps17
  go_wp2_with fail
  refine H1.out.mono ?_
  clear H1
  rintro e w1 ⟨g, rfl, hg, hst, hb0, hgr0⟩
  have HGR := Lib.hid hgr0
  have hst1 := hst.lt
  clear hb0 hgr0
  go_wp2_with fail
  refine (l06makeok_any n₀ g len cap a zs _ w1 hst).mono ?_
  rintro e w2 ⟨p, q, v, ks, y, c2, rfl, hp, hq, hk1, hk4, hkd, hy, ho, hd⟩
  have hkA := keysAt_own ho
  obtain ⟨va, vc, rfl, -, -⟩ := id hkA
  have SP := Lib.hid (sputframe_any p q _ ks y w2 hkA (by omega))
  have HD := Lib.hid hd
  clear hkA ho hd hst
  go_wp2_with fail
  refine SP.out.mono ?_
  rintro e w3 ⟨rfl, hb⟩
  clear SP
  have hps := putS_few ((p, q), (ks, y))
  have hok : 15 ≤ (putS ((p, q), (ks, y))).size := by
    have hco : codeOkB (ks, y) = true := (codeOk_iff _).2 ⟨by dsimp only; omega, hkd.2, hy, fun e => by dsimp only at e; rw [e] at hk1; simp at hk1⟩
    have hf : frOkB ((p, q), (ks, y)) = true := (frOk_iff _).2 ⟨by dsimp only; omega, by dsimp only; omega, hco, by dsimp only; omega⟩
    have h := putL_len hf
    show 15 ≤ (putL _).toArray.size
    simp only [List.size_toArray]
    dsimp only at h
    omega
  generalize putS ((p, q), (ks, y)) = S at *
  have hd3 : Drew n₀ g a len cap zs c2 w1 w3 := HD.out.trans ((⟨HD.out.st, Below.refl _ _, World.grownBy.refl _ _⟩ : Drew n₀ g a len cap zs c2 w2 w2).grow HD.out.st.lt (grown_of_below' hb none) (by simp))
  have H3 := Lib.hid hd3
  clear hb hd3 HD
  go_wp2_with fail
  refine (below_any n₀ g len cap a zs c2 4 w3 H3.out.st (by omega)).mono ?_
  rintro e w4 ⟨rfl, hd⟩
  have hb4 := belowF_bd zs len c2 4
  have H4 := Lib.hid (H3.out.trans hd)
  clear hd H3
  generalize belowF zs len c2 4 = b at *
  obtain ⟨x, c4⟩ := b
  dsimp only at *
  rcases (by omega : x = 0 ∨ x = 1 ∨ x = 2 ∨ (¬ x = 0 ∧ ¬ x = 1 ∧ ¬ x = 2)) with rfl | rfl | rfl | ⟨x0, x1, x2⟩
  · go_wp2_with fail
    refine (bent_any n₀ g len cap a zs c4 S w4 H4.out.st (by omega)).mono ?_
    rintro e w5 ⟨r, c5, rfl, hr, hd⟩
    have HE := Lib.hid (new_below HGR.out hg (H4.out.trans hd).grown)
    go_wp2
    go_ret
    exact ⟨_, rfl, hr, HE.out⟩
  · obtain ⟨m, hm⟩ : ∃ m, S.size = m + 4 := ⟨S.size - 4, by omega⟩
    have hxs : (S.extract 0 m).size = m := by simp; omega
    have j0 : (0 : Int) ≤ (m : Int) := by omega
    have j1 : (m : Int) ≤ (m : Int) + 4 := by omega
    have j2 : IntKind.i64.wrap ((m : Int) + 4 - 4) = (m : Int) := by rw [show (m : Int) + 4 - 4 = m by omega]; exact IntWalk.i64_in _ (by omega)
    have hm100 : m ≤ 100 ∧ 11 ≤ m := by omega
    obtain ⟨X, hX⟩ : ∃ X, S.extract 0 m = X := ⟨_, rfl⟩
    rw [hX] at hxs
    have hcv := run_bytes_of_string (P := Tryd.prog) w4 9 22 5 X Tryd.underlying9 Tryd.underlying22 Tryd.underlying5
    have hcap := grownCap_ge w4 X.size 0 5
    rw [hxs] at hcap hcv
    generalize grownCap w4 m 0 5 = cp at *
    go_wp2_with fail
    have hW : ((w4.alloc (.cells (bytesRow X cp) 5 ((bytesRow X cp).size, (bytesRow X cp).size + 1))).drew).heap[w4.heap.size]? = some (.cells (bytesRow X cp) 5 ((bytesRow X cp).size, (bytesRow X cp).size + 1)) := by
      show (w4.heap.push _)[w4.heap.size]? = _
      simp
    have hB : Below w4.heap.size w4 ((w4.alloc (.cells (bytesRow X cp) 5 ((bytesRow X cp).size, (bytesRow X cp).size + 1))).drew) := ((Below.refl _ _).alloc (Nat.le_refl _) _).drew
    generalize (w4.alloc (.cells (bytesRow X cp) 5 ((bytesRow X cp).size, (bytesRow X cp).size + 1))).drew = W at *
    obtain ⟨hby, hsp⟩ := row_bytes hW (by rw [hxs]; exact hcap)
    have hd5 : Drew n₀ g a len cap zs c4 w4 W := (⟨H4.out.st, Below.refl _ _, World.grownBy.refl _ _⟩ : Drew n₀ g a len cap zs c4 w4 w4).grow H4.out.st.lt (grown_of_below' hB none) (by simp)
    have H5 := Lib.hid (H4.out.trans hd5)
    have hbW := (Array.getElem?_eq_some_iff.1 hW).1
    have hg4 := H4.out.st.lt
    have hw14 := H4.out.grown.size
    have hgl1 : g < w1.heap.size := hst1
    generalize w4.heap.size = gB at *
    have HW := Lib.hid hW
    clear hby hsp hW hB hd5 hcv H4
    refine (below_any n₀ g len cap a zs c4 (m : Int) _ H5.out.st (by omega)).mono ?_
    rintro e w5 ⟨rfl, hd⟩
    have hbi := belowF_bd zs len c4 (m : Int)
    replace HW := Lib.hid (hd.keeps HW.out (by omega))
    have H6 := Lib.hid (H5.out.trans hd)
    clear hd H5 hbW
    generalize belowF zs len c4 (m : Int) = b at *
    obtain ⟨xi, c5⟩ := b
    dsimp only at *
    obtain ⟨i, rfl⟩ : ∃ i : Nat, xi = i := ⟨xi.toNat, by omega⟩
    have him : i < m := by omega
    have hbw5 := (Array.getElem?_eq_some_iff.1 HW.out).1
    have H7 := H6.out.alloc (.cells #[.int .i64 0, .int .i64 1, .int .i64 2, .int .i64 21, .int .i64 255] 3)
    have hcells : ∀ k, k < 5 → (w5.alloc (.cells #[.int .i64 0, .int .i64 1, .int .i64 2, .int .i64 21, .int .i64 255] 3)).cell? ⟨w5.heap.size, k, none⟩ = some (.int .i64 (([0, 1, 2, 21, 255] : List Int)[k]?.getD 0)) := by
      intro k hk
      rw [lit_cell]
      rcases (by omega : k = 0 ∨ k = 1 ∨ k = 2 ∨ k = 3 ∨ k = 4) with rfl | rfl | rfl | rfl | rfl <;> rfl
    have HP := Lib.hid (pickint_any n₀ g len cap w5.heap.size 5 a zs c5 [0, 1, 2, 21, 255] _ H7.st (by omega) (by omega) rfl (by omega) hcells)
    have H7 := Lib.hid H7
    replace HW := Lib.hid ((Below.heap_alloc w5 (.cells #[.int .i64 0, .int .i64 1, .int .i64 2, .int .i64 21, .int .i64 255] 3) _ hbw5).trans HW.out)
    clear hcells H6
    go_wp2_with fail
    refine HP.out.mono ?_
    rintro e w6 ⟨rfl, hd⟩
    replace HW := Lib.hid (hd.keeps HW.out (by omega))
    have H8 := Lib.hid (H7.out.trans hd)
    clear HP H7 hd
    have eN : ((5 : Nat) : Int) = 5 := rfl
    try rw [eN] at *
    generalize ([0, 1, 2, 21, 255] : List Int)[(belowF zs len c5 5).1.toNat]?.getD 0 = zv at *
    generalize (belowF zs len c5 5).2 = c6 at *
    obtain ⟨hby, hsp⟩ := row_bytes HW.out (by rw [hxs]; exact hcap)
    have hxl : (numsOf X.data.toList).length = m := by rw [nums_len]; simpa using hxs
    have hb6 := (Array.getElem?_eq_some_iff.1 HW.out).1
    have hci := hby i (by rw [hxl]; exact him)
    have hfi := (hsp i (by omega)).2
    have z0 : (0 : Int) ≤ (i : Int) := by omega
    have z1 : (i : Int) < (m : Int) := by omega
    have hset : ∀ z : Int, bytesAt (w6.setCell ⟨gB, i, none⟩ (.int .u8 z)) gB ((numsOf X.data.toList).set i z) := by
      intro z j hj
      rw [List.length_set] at hj
      have h0 := hby j hj
      by_cases e : j = i
      · subst e
        rw [World.cell?_setCell_same _ _ _ h0]
        simp [List.getD, hj]
      · rw [World.cell?_setCell_other _ _ _ _ (fun e2 => e (by cases e2; rfl)), h0]
        simp [List.getD, Ne.symm e]
    have hcv2 := fun z : Int => conv_at (P := Tryd.prog) (cap := cp) 22 5 9 Tryd.underlying22 Tryd.underlying5 Tryd.underlying9 (hset z) (n := m) (by rw [List.length_set, hxl])
    have hts : ∀ z : Int, (strOfNums ((numsOf X.data.toList).set i z)).size = m := fun z => by
      rw [← hxl, ← List.length_set (i := i) (a := z)]
      show (strOfNums _).data.size = _
      simp [strOfNums]
    have HTS := Lib.hid hts
    have SS := Lib.hid (fun z w' => sseal_any (strOfNums ((numsOf X.data.toList).set i z)) w' (by rw [hts z]; omega))
    have H9 := Lib.hid (fun z : Int => H8.out.grow hgl1 (Lib.grownBy_setCell w6 gB i (.int .u8 z)) (fun b e => by have := Option.some.inj e; omega))
    clear hset hby hsp H8 HW hts
    go_wp2_with fail
    refine (SS.out _ _).mono ?_
    rintro e w7 ⟨rfl, hb7⟩
    have HE := Lib.hid (new_below HGR.out hg ((H9.out _).grow hgl1 (grown_of_below' hb7 none) (by simp)).grown)
    clear hb7 SS H9
    go_wp2
    go_ret
    exact ⟨_, rfl, by rw [sealS_size, HTS.out]; omega, HE.out⟩
  · have H5 := H4.out.alloc (.cells #[.string ⟨#[]⟩, .string ⟨#[1]⟩, .string ⟨#[1, 13]⟩] 9)
    have hg4 := H4.out.st.lt
    have hcells : ∀ k, k < 3 → (w4.alloc (.cells #[.string ⟨#[]⟩, .string ⟨#[1]⟩, .string ⟨#[1, 13]⟩] 9)).cell? ⟨w4.heap.size, k, none⟩ = some (.string (pickF[k]?.getD ByteArray.empty)) := by
      intro k hk
      rw [lit_cell]
      rcases (by omega : k = 0 ∨ k = 1 ∨ k = 2) with rfl | rfl | rfl <;> rfl
    have HP := Lib.hid (pick_any n₀ g len cap w4.heap.size 3 a zs c4 pickF _ H5.st (by omega) (by omega) rfl (by omega) hcells)
    have H5 := Lib.hid H5
    clear hcells H4
    go_wp2_with fail
    refine HP.out.mono ?_
    rintro e w5 ⟨rfl, hd⟩
    have hpz := pickF_size (belowF zs len c4 (3 : Nat)).1.toNat
    have H6 := Lib.hid (H5.out.trans hd)
    clear HP H5 hd
    generalize pickF[(belowF zs len c4 (3 : Nat)).1.toNat]?.getD ByteArray.empty = py at *
    generalize (belowF zs len c4 (3 : Nat)).2 = c5 at *
    go_wp2_with fail
    refine (below_any n₀ g len cap a zs c5 16 w5 H6.out.st (by omega)).mono ?_
    rintro e w6 ⟨rfl, hd⟩
    have hb2 := belowF_bd zs len c5 16
    have H7 := Lib.hid (H6.out.trans hd)
    clear hd H6
    generalize belowF zs len c5 16 = b at *
    obtain ⟨yi, c6⟩ := b
    dsimp only at *
    obtain ⟨n, rfl⟩ : ∃ n : Nat, yi = n := ⟨yi.toNat, by omega⟩
    go_wp2_with fail
    refine (text_any n₀ g len cap a zs c6 n w6 H7.out.st (by omega)).mono ?_
    rintro e w7 ⟨tx, c7, rfl, htx, hd⟩
    have HE := Lib.hid (new_below HGR.out hg (H7.out.trans hd).grown)
    have htn : tx.size ≤ 16 := by omega
    have HTX := Lib.hid htx
    have hno : ¬ 9223372036854775807 < py.size + tx.size := by omega
    clear htx
    go_wp2
    go_ret
    exact ⟨_, rfl, by rw [ByteArray.size_append]; omega, HE.out⟩
  · have HE := Lib.hid (new_below HGR.out hg H4.out.grown)
    go_wp2
    go_ret
    exact ⟨_, rfl, by omega, HE.out⟩
end Go.Proofs.YtdokkhgeeinnhaaDoor
namespace Go.Proofs.YtdokkhgeeinnhaaDoor
open Go.ChangeShapes Go.WideShapes Go.ChangeAt Go.RowKit Go.BigFrame
set_option linter.unusedVariables false

theorem getF_few2 (l : List UInt8) : (getF l).1.2.1.length ≤ 255 := by
  rcases get_cases l with ⟨_, h, _⟩ | ⟨_, h⟩
  · rw [h]
    show (keysL _ _).length ≤ _
    rw [keysL_len]
    have := (l[4]?.getD 0).toNat_lt
    omega
  · rw [h]; decide
theorem keysAt_nil0 (w : World) : keysAt w (.slice none 0 0) [] := ⟨none, 0, rfl, Nat.le_refl _, .inl rfl⟩
set_option maxRecDepth 100000 in
set_option maxHeartbeats 8000000 in
theorem fngot_walk (a0 : Option Addr) (len0 cap0 : Nat) (z0 : List Int) (w : World) (w0 : IsRow .u8 w a0 len0 cap0 z0) (hg : etOk w) :
    Calls Tryd.prog 5 #[.slice a0 len0 cap0] w fun e w' => e = .returned (.bool true) ∧ Below w.heap.size w w' := by
  by_cases hbig : len0 ≤ 1048576
  · have hcode := codeAt_of w0 hbig
    clear w0
    have HC := Lib.hid hcode
    have HET := Lib.hid hg
    clear hcode hg
    go_enter Tryd.func5, Tryd.ntmps5
    go_wp2_with fail
    refine (big_any _ _ _ _ hbig).mono ?_
    rintro e w1 ⟨rfl, rfl⟩
    go_wp2_with fail
    refine (drawgetframe_any w1.heap.size len0 cap0 a0 z0 w1 HC.out (Nat.le_refl _)).mono ?_
    rintro e w2 ⟨s, rfl, hs3, hb⟩
    have HB := Lib.hid hb
    have IG := Lib.hid (igetframe_any s w2 (HET.out.below hb) (by omega))
    have SG := Lib.hid (fun w' => sgetframe_any s w' (by omega))
    have hok := @get_ok s.data.toList
    have hz := get_zero s.data.toList
    have hk := getF_few2 s.data.toList
    clear HC hb HET
    generalize getF s.data.toList = r at *
    obtain ⟨⟨⟨p, q⟩, ⟨KS, Y⟩⟩, c⟩ := r
    dsimp only at *
    go_wp2_with fail
    refine IG.out.mono ?_
    rintro e w3 ⟨v3, rfl, ho, hb⟩
    have hkA := keysAt_own ho
    obtain ⟨ya, yc, rfl, -, -⟩ := id hkA
    have hbA := hb.alloc hb.size (.cells #[.int .i64 p, .int .i64 q, .slice ya KS.length yc, .string Y] 28)
    replace HB := Lib.hid (HB.out.trans (hbA.mono HB.out.size))
    have HK := Lib.hid (keysAt_below hkA ((Below.refl w3.heap.size w3).alloc (Nat.le_refl _) (.cells #[.int .i64 p, .int .i64 q, .slice ya KS.length yc, .string Y] 28)))
    have RY := Lib.hid (heap_alloc_new w3 (.cells #[.int .i64 p, .int .i64 q, .slice ya KS.length yc, .string Y] 28))
    clear IG ho hb hbA hkA
    go_wp2_with fail
    generalize w3.alloc (.cells #[.int .i64 p, .int .i64 q, .slice ya KS.length yc, .string Y] 28) = W3 at *
    generalize w3.heap.size = bY at *
    refine (SG.out _).mono ?_
    rintro e w4 ⟨v4, rfl, ho, hb⟩
    obtain ⟨xa, xn, xc, rfl⟩ := own_shape ho
    have hbA := hb.alloc hb.size (.cells #[.int .i64 p, .int .i64 q, .slice xa xn xc, .string Y] 28)
    replace HB := Lib.hid (HB.out.trans (hbA.mono HB.out.size))
    replace HK := Lib.hid (keysAt_below HK.out hbA)
    replace RY := Lib.hid ((hbA.block _ (Array.getElem?_eq_some_iff.1 RY.out).1).trans RY.out)
    clear SG ho hb hbA
    obtain ⟨Y0, Y1, Y2, Y3, -, -, -, -⟩ := row4_of RY.out
    by_cases hc : c = 0
    · subst hc
      obtain ⟨hf, hp⟩ := hok rfl
      have hps : putS ((p, q), (KS, Y)) = s := by unfold putS; rw [hp]
      have FO := Lib.hid (fun w' (h : keysAt w' (.slice ya KS.length yc) KS) => iframeok_any p q _ KS Y w' h (by omega))
      have PU := Lib.hid (fun w' (h : keysAt w' (.slice ya KS.length yc) KS) => iputframe_any p q _ KS Y w' h (by omega))
      rw [hf] at FO
      rw [hps] at PU
      clear hok hz hf hp hps
      go_wp2_with fail
      generalize w4.alloc (.cells #[.int .i64 p, .int .i64 q, .slice xa xn xc, .string Y] 28) = W4 at *
      refine (FO.out _ HK.out).mono ?_
      rintro e w5 ⟨rfl, hb⟩
      replace HB := Lib.hid (HB.out.trans (hb.mono HB.out.size))
      replace HK := Lib.hid (keysAt_below HK.out hb)
      replace RY := Lib.hid ((hb.block _ (Array.getElem?_eq_some_iff.1 RY.out).1).trans RY.out)
      clear hb FO Y0 Y1 Y2 Y3
      obtain ⟨Y0, Y1, Y2, Y3, -, -, -, -⟩ := row4_of RY.out
      go_wp2_with fail
      refine (PU.out _ HK.out).mono ?_
      rintro e w6 ⟨rfl, hb⟩
      replace HB := Lib.hid (HB.out.trans (hb.mono HB.out.size))
      clear hb PU Y0 Y1 Y2 Y3
      go_wp2
      go_ret
      exact ⟨rfl, HB.out⟩
    · have hf := hz hc
      cases hf
      have SM := Lib.hid (fun w' (h : keysAt w' (.slice ya ([] : List K2).length yc) []) => sameframe_any 0 0 _ [] ByteArray.empty 0 0 (.slice none 0 0) [] ⟨#[]⟩ w' h (keysAt_nil0 w') (by simp) (by simp))
      rw [show (decide ((0 : Int) = 0) && (decide ((0 : Int) = 0) && (decide (ByteArray.empty = (⟨#[]⟩ : ByteArray)) && decide (([] : List K2) = [])))) = true from by decide] at SM
      clear hok hz
      go_wp2_with fail
      refine (SM.out _ HK.out).mono ?_
      rintro e w5 ⟨rfl, hb⟩
      replace HB := Lib.hid (HB.out.trans (hb.mono HB.out.size))
      clear hb SM Y0 Y1 Y2 Y3
      go_wp2
      go_ret
      exact ⟨rfl, HB.out⟩
  · go_enter Tryd.func5, Tryd.ntmps5
    go_wp2_with fail
    refine (big_true _ _ _ _ hbig).mono ?_
    rintro e w1 ⟨rfl, rfl⟩
    go_wp2
    go_ret
    exact ⟨rfl, Below.refl _ _⟩
end Go.Proofs.YtdokkhgeeinnhaaDoor
