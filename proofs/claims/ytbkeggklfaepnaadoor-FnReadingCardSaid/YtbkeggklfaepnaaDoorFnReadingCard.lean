/- The law FnReading holds for every code: a reading's text reads back, and nothing else does. -/
import Derived.Test.YtbkeggklfaepnaaDoorCards
import Derived.Test.YtbkeggklfaepnaaDoorTie
import Derived.WalkKit
import Derived.ProofKit
import Derived.OpenShut
import Derived.ShutString
import Derived.Below
import Derived.ChangeOld
import Derived.Deep.DeepHandedRow
import Derived.Deep.DeepWitnessRowRef
import Derived.Deep.DeepLaidRun
import Derived.Lib.LaidTab
import Derived.Stop.LaidErr
import Derived.Test.YtbkeggklfaepnaaDoorRdRr
import Derived.Test.YtbkeggklfaepnaaDoorMLenS
import Derived.Test.YtbkeggklfaepnaaDoorRdOd
import Derived.Test.YtbkeggklfaepnaaDoorBent
/- A reading's text reads back: the draws and what the law wants. -/
namespace Go.Proofs.YtbkeggklfaepnaaDoor
open Go.ChangeShapes Go.WideShapes Go.ChangeAt Go.RowKit Go.BigFrame
set_option linter.unusedVariables false

theorem itoa_61 (n : Int) : ∀ c ∈ Lib.itoa n, c ≠ 61 := by
  intro c hc
  unfold Lib.itoa at hc
  have hd : ∀ v, ∀ c ∈ Lib.decDigits v, c ≠ 61 := fun v c h => by
    have := decDigits_all v c h
    rintro rfl; cases this
  split at hc
  · rcases List.mem_cons.1 hc with rfl | h
    · decide
    · exact hd _ c h
  · exact hd _ c hc
theorem ktL_61 (k : K2) : ∀ c ∈ ktL k, c ≠ 61 := by
  intro c hc
  unfold ktL at hc
  rcases List.mem_append.1 hc with h | h
  · rcases List.mem_append.1 h with h | h
    · exact itoa_61 _ c h
    · rw [List.mem_singleton.1 h]; decide
  · exact itoa_61 _ c h
theorem keyText_one (k : K2) : keyTextL [k] = ktL k := by unfold keyTextL; rw [List.map_cons, List.map_nil, Lib.join_one]
theorem rtB_list {r : R3} (h : rdOkB r = true) : (rtB r).data.toList = ktL r.1 ++ 61 :: bytesOf (hexL r.2.data.toList) := by
  unfold rtB
  rw [if_pos h, keyText_one, show (⟨#[61]⟩ : ByteArray) = tB [61] from rfl, strOf_bytes, show (⟨(bytesOf (hexL r.2.data.toList)).toArray⟩ : ByteArray) = tB (bytesOf (hexL r.2.data.toList)) from rfl, tB_append, tB_append]
  simp [tB]
theorem rr_text (r : R3) : rrI (rtB r) = if rdOkB r then some r else none := by
  cases hr : rdOkB r with
  | true =>
    obtain ⟨hk, hl⟩ := rdOk_key2 hr
    have hb : rrR (rtB r) = r := by
      unfold rrR
      rw [rtB_list hr, cutC_app 61 _ _ (ktL_61 r.1)]
      dsimp only
      rw [keyOf_ktL, clipK_ok hk]
      unfold loadX
      rw [hex_read]
      dsimp only
      rw [strOf_bytes, bytes_back, of_data]
    unfold rrI
    rw [hb, hr]
  | false =>
    unfold rrI rrR rtB
    rw [hr]
    have h0 : rdOkB (keyOfL (cutC 61 (ByteArray.empty).data.toList).1, loadX (cutC 61 (ByteArray.empty).data.toList).2.1) = false := by
      have : (cutC 61 (ByteArray.empty).data.toList).1 = [] := rfl
      rw [this]
      simp [rdOkB, keyOfL_nil]
    simp only [Bool.false_eq_true, if_false]
    rw [if_neg (by rw [h0]; simp)]
theorem rtB_size (r : R3) : (rtB r).size ≤ 1000 := by
  cases hr : rdOkB r with
  | true =>
    obtain ⟨hk, hl⟩ := rdOk_key2 hr
    have h1 : (rtB r).size = (rtB r).data.toList.length := by simp
    have h2 : kIn r.1 := by
      simp only [keyOkB, Bool.and_eq_true, decide_eq_true_eq] at hk
      unfold kIn; omega
    have h3 := ktL_len h2
    have h4 : (bytesOf (hexL r.2.data.toList)).length = (hexL r.2.data.toList).length := by simp [bytesOf]
    have h5 := hexL_len r.2.data.toList
    have h6 : r.2.data.toList.length = 4 := by simpa using hl
    rw [h1, rtB_list hr, List.length_append, List.length_cons, h4, h5, h6]
    omega
  | false => unfold rtB; rw [if_neg (by rw [hr]; simp)]; decide
theorem rrI_out {s : ByteArray} {r : R3} (h : rrI s = some r) : rtB r = s := by
  unfold rrI at h
  split at h
  · rename_i hc
    cases h
    exact (rrI_text hc).1
  · cases h
set_option maxRecDepth 100000 in
set_option maxHeartbeats 2000000 in
theorem drawreadingtext_any (n₀ len cap : Nat) (a : Option Addr) (zs : List Int) (w : World) (hc : CodeAt n₀ w a len zs) (hw : n₀ ≤ w.heap.size) :
    Calls Tryd.prog 7 #[.slice a len cap] w fun e w' => ∃ (r : R3), e = .returned (rv r) ∧ r.2.size ≤ 5 ∧ Below w.heap.size w w' := by
  have HB0 := Lib.hid ((Below.refl w.heap.size w).alloc (Nat.le_refl _) (.cells #[.int .i64 0, .int .i64 0, .string ⟨#[]⟩] 27))
  have HX0 := Lib.hid (heap_alloc_new w (.cells #[.int .i64 0, .int .i64 0, .string ⟨#[]⟩] 27))
  have hc1 := hc.below ((Below.refl n₀ w).alloc hw (.cells #[.int .i64 0, .int .i64 0, .string ⟨#[]⟩] 27))
  go_enter Tryd.func7, Tryd.ntmps7
  go_wp2_with fail
  refine (new_any n₀ len cap a zs _ hc1 (by simp; omega)).mono ?_
  rintro e w1 ⟨g, rfl, hg, hst, hbn, hgrn⟩
  have hgw : w.heap.size < g := by simp at hg; omega
  have hg1 := hst.lt
  have HB1 := Lib.hid (HB0.out.grown hgrn HB0.out.size (by simp))
  have HX1 := Lib.hid ((hgrn.block _ (Array.getElem?_eq_some_iff.1 HX0.out).1 (by simp)).trans HX0.out)
  clear hbn hgrn hg HX0 HB0 hc1
  go_wp2_with fail
  refine (l04odd_any n₀ g len cap a zs _ _ hst).mono ?_
  rintro e w3 ⟨⟨⟨p, q⟩, y⟩, c3, rfl, hk3, hy3, hd3⟩
  have HB3 := Lib.hid (HB1.out.grown hd3.grown HB1.out.size (fun j e => by cases e; omega))
  have hx3 := (hd3.grown.block _ (Array.getElem?_eq_some_iff.1 HX1.out).1 (fun e => by cases e; omega)).trans HX1.out
  obtain ⟨x0, x1, x2, f0, f1, f2⟩ := row3_of hx3
  have HF := Lib.hid (((HB3.out.setCell (p := ⟨w.heap.size, 0, none⟩) (Nat.le_refl _) (.int .i64 p)).setCell (p := ⟨w.heap.size, 1, none⟩) (Nat.le_refl _) (.int .i64 q)).setCell (p := ⟨w.heap.size, 2, none⟩) (Nat.le_refl _) (.string y))
  have L2 := Lib.hid (run_loadVar_row (P := Tryd.prog) _ w.heap.size 27 27 #[.int .i64 p, .int .i64 q, .string y] (0, 0) _ (set3 (.int .i64 p) (.int .i64 q) (.string y) hx3) Tryd.underlying27 rfl (by kernel_rfl))
  have hlw := (Array.getElem?_eq_some_iff.1 hx3).1
  unfold rv
  dsimp only at *
  clear hd3 HX1 hx3 HB3 HB1 hst
  go_wp2_with fail
  refine bodyPost_ret (v := .agg #[.int .i64 p, .int .i64 q, .string y]) ?_ rfl ⟨((p, q), y), rfl, hy3, HF.out⟩
  rw [results_cell (p := 2) (ty := 27) (by kernel_rfl)]
  simp [asAddr, Result.andThen, L2.out]
set_option maxRecDepth 100000 in
set_option maxHeartbeats 2000000 in
theorem drawreadreading_any (n₀ len cap : Nat) (a : Option Addr) (zs : List Int) (w : World) (hc : CodeAt n₀ w a len zs) (hw : n₀ ≤ w.heap.size) :
    Calls Tryd.prog 12 #[.slice a len cap] w fun e w' => ∃ (s : ByteArray), e = .returned (.string s) ∧ s.size ≤ 3000 ∧ Below w.heap.size w w' := by
  have H1 := Lib.hid (new_any n₀ len cap a zs w hc hw); clear hc
  go_enter Tryd.func12, Tryd.ntmps12
  go_wp2_with fail
  refine H1.out.mono ?_
  clear H1
  rintro e w1 ⟨g, rfl, hg, hst, hb0, hgr0⟩
  have hg1 := hst.lt
  clear hb0
  go_wp2_with fail
  refine (l04reading_any n₀ g len cap a zs _ _ hst).mono ?_
  rintro e w2 ⟨r, c2, rfl, hk, hy, hd⟩
  clear hst
  go_wp2_with fail
  refine (sreadingtext_any r _).mono ?_
  rintro e w3 ⟨rfl, hb3⟩
  have hsz := rtB_size r
  generalize rtB r = B at *
  have hD3 := hd.grow hg1 (grown_of_below' hb3 none) (fun b e => by cases e)
  clear hd hb3
  go_wp2_with fail
  refine (bent_any n₀ g len cap a zs c2 B w3 hD3.st hsz).mono ?_
  rintro e w4 ⟨x, c4, rfl, hx, hd4⟩
  have hF := new_below hgr0 hg (hD3.trans hd4).grown
  go_wp2
  go_ret
  exact ⟨_, rfl, hx, hF⟩
end Go.Proofs.YtbkeggklfaepnaaDoor
/- A reading's text reads back: the law walked. -/
namespace Go.Proofs.YtbkeggklfaepnaaDoor
open Go.ChangeShapes Go.WideShapes Go.ChangeAt Go.RowKit Go.BigFrame
set_option linter.unusedVariables false

theorem rdT_text (r : R3) : ∃ u : R3, rdT (if rdOkB r then some r else none) = .tuple #[rv u, .bool (rdOkB r)] ∧ (rdOkB r = true → u = r) := by
  cases rdOkB r with
  | true => exact ⟨r, rfl, fun _ => rfl⟩
  | false => exact ⟨_, rfl, fun h => by cases h⟩
theorem rdT_out (s : ByteArray) : ∃ (u : R3) (b : Bool), rdT (rrI s) = .tuple #[rv u, .bool b] ∧ (b = true → rtB u = s) := by
  cases h : rrI s with
  | some r => exact ⟨r, true, rfl, fun _ => rrI_out h⟩
  | none => exact ⟨_, false, rfl, fun h => by cases h⟩
theorem box3q {W w' : World} {b : Nat} {p q : Int} {y : ByteArray} {T : TypeId} (h : W.heap[b]? = some (.cells #[.int .i64 p, .int .i64 q, .string y] T)) (hb : Below W.heap.size W w') :
    w'.cell? ⟨b, 0, none⟩ = some (.int .i64 p) ∧ w'.cell? ⟨b, 1, none⟩ = some (.int .i64 q) ∧ w'.cell? ⟨b, 2, none⟩ = some (.string y) := by
  have h1 := (hb.block _ (Array.getElem?_eq_some_iff.1 h).1).trans h
  exact ⟨by rw [cell_of_row _ _ 0 _ _ _ h1]; rfl, by rw [cell_of_row _ _ 1 _ _ _ h1]; rfl, by rw [cell_of_row _ _ 2 _ _ _ h1]; rfl⟩
set_option maxRecDepth 100000 in
set_option maxHeartbeats 2000000 in
theorem fnreading_walk (a0 : Option Addr) (len0 cap0 : Nat) (z0 : List Int) (w : World) (w0 : IsRow .u8 w a0 len0 cap0 z0) (hV : ∀ w', Below w.heap.size w w' → DecVars w') (hM : MLen w) :
    Calls Tryd.prog 3 #[.slice a0 len0 cap0] w fun e w' => e = .returned (.bool true) ∧ Below w.heap.size w w' := by
  by_cases hbig : len0 ≤ 1048576
  · have HC := Lib.hid (codeAt_of w0 hbig)
    clear w0
    have HV := Lib.hid hV; have HM := Lib.hid hM
    clear hV hM
    go_enter Tryd.func3, Tryd.ntmps3
    go_wp2_with fail
    refine (big_any _ _ _ _ hbig).mono ?_
    rintro e w1 ⟨rfl, rfl⟩
    go_wp2_with fail
    refine (drawreadingtext_any w1.heap.size len0 cap0 a0 z0 w1 HC.out (Nat.le_refl _)).mono ?_
    rintro e w2 ⟨⟨⟨p, q⟩, y⟩, rfl, hy, hb2⟩
    have HB2 := Lib.hid (hb2.alloc hb2.size (.cells #[.int .i64 p, .int .i64 q, .string y] 27))
    have HX2 := Lib.hid (heap_alloc_new w2 (.cells #[.int .i64 p, .int .i64 q, .string y] 27))
    have IT := Lib.hid (fun w' (h : Below w1.heap.size w1 w') => ireadingtext_any ((p, q), y) w' (HV.out _ h).tab)
    have ST := Lib.hid (fun w' => sreadingtext_any ((p, q), y) w')
    have IO := Lib.hid (fun w' => ireadingok_any ((p, q), y) w')
    have SO := Lib.hid (fun w' => sreadingok_any ((p, q), y) w')
    have hT := rtB_size ((p, q), y)
    have rr := fun w' (h : Below w1.heap.size w1 w') => ireadreading_any (rtB ((p, q), y)) w' (by omega) (fun w3 h3 => HV.out _ (h.trans (h3.mono h.size))) (HM.out.below h)
    rw [rr_text] at rr
    obtain ⟨⟨⟨vp, vq⟩, vy⟩, hu, hur⟩ := rdT_text ((p, q), y)
    rw [hu] at rr
    have RR := Lib.hid rr
    have HUR := Lib.hid hur
    clear rr hu hur hT hb2 hy
    generalize rtB ((p, q), y) = T at *
    generalize rdOkB ((p, q), y) = b at *
    unfold rv at *
    dsimp only at *
    obtain ⟨x0, x1, x2⟩ := box3q HX2.out (Below.refl _ _)
    go_wp2_with fail
    generalize w2.alloc (.cells #[.int .i64 p, .int .i64 q, .string y] 27) = W at *
    generalize w2.heap.size = bk at *
    refine (IT.out _ HB2.out).mono ?_
    rintro e w3 ⟨rfl, hb3⟩
    have HB3 := HB2.out.trans (hb3.mono HB2.out.size)
    have HX3 := Lib.hid ((hb3.block _ (Array.getElem?_eq_some_iff.1 HX2.out).1).trans HX2.out)
    clear hb3 x0 x1 x2 HX2 HB2
    have e1 : (T.toList == T.toList) = true := beq_self_eq_true _
    have e2 : (T.toList != T.toList) = false := by simp
    have ebb : (b != b) = false := by cases b <;> rfl
    have ebb2 : (b == b) = true := by cases b <;> rfl
    have L1 : ∀ w', Below w1.heap.size w3 w' → True := fun _ _ => trivial
    have L1 : ∀ w', Below w3.heap.size w3 w' → (loadVar 27 ⟨bk, 0, none⟩).run Tryd.prog w' = .ok (.agg #[.int .i64 p, .int .i64 q, .string y]) w' := fun w' hb' =>
      rd_load (r := ((p, q), y)) (o := 0) (box3q HX3.out (Below.refl _ _)) (Array.getElem?_eq_some_iff.1 HX3.out).1 hb'
    go_wp2
    refine wp_region_below w3 (by kernel_rfl) (by kernel_rfl) (Below.refl _ _) ?_
    repeat (first
      | go_big_quiet_skip
      | (go_big_quiet_want
         first
           | (go_big_quiet_op; go_big_quiet_on)
           | (refine q_load 27 _ _ _ rfl rfl L1 ?_; simp only [Act.put, List.setIfInBounds_toArray, List.set_cons_zero, List.set_cons_succ]; go_big_quiet_on)
           | (go_big_quiet_op; refine ⟨_, fun _ _ => rfl, ?_⟩; go_big_quiet_on)
           | (go_big_quiet_op; apply Exists.intro; refine ⟨fun w' hw' => ?_, ?_⟩
              · first
                | (with_reducible refine (ST.out w').mono ?_
                   rintro e w2 ⟨rfl, hb2⟩
                   exact ⟨rfl, hw'.trans (hb2.mono hw'.size)⟩)
                | (with_reducible refine (IO.out w').mono ?_
                   rintro e w2 ⟨rfl, hb2⟩
                   exact ⟨rfl, hw'.trans (hb2.mono hw'.size)⟩)
                | (with_reducible refine (SO.out w').mono ?_
                   rintro e w2 ⟨rfl, hb2⟩
                   exact ⟨rfl, hw'.trans (hb2.mono hw'.size)⟩)
              go_big_quiet_on)))
    refine wpQuiet_nil ?_
    intro w4 hb4
    have HB4 := Lib.hid (HB3.trans (hb4.mono HB3.size))
    have HX4 := Lib.hid ((hb4.block _ (Array.getElem?_eq_some_iff.1 HX3.out).1).trans HX3.out)
    clear hb4 HB3 HX3 L1 e1 e2 IO ST
    go_wp2_with fail
    refine (drawreadreading_any w1.heap.size len0 cap0 a0 z0 w4 (HC.out.below HB4.out) HB4.out.size).mono ?_
    rintro e w5 ⟨s, rfl, hs, hb5⟩
    have HB5 := Lib.hid (HB4.out.trans (hb5.mono HB4.out.size))
    have HX5 := Lib.hid ((hb5.block _ (Array.getElem?_eq_some_iff.1 HX4.out).1).trans HX4.out)
    obtain ⟨⟨⟨up, uq⟩, uy⟩, c, hu5, hc5⟩ := rdT_out s
    have i5 := ireadreading_any s w5 (by omega) (fun w3 h3 => HV.out _ (HB5.out.trans (h3.mono HB5.out.size))) (HM.out.below HB5.out)
    have s5 := fun w' => sreadreading_any s w' (by omega)
    rw [rr_same] at s5
    rw [hu5] at i5 s5
    unfold rv at *
    dsimp only at *
    have I5 := Lib.hid i5
    have S5 := Lib.hid s5
    have HC5 := Lib.hid hc5
    have IU := Lib.hid (fun w' (h : Below w1.heap.size w1 w') => ireadingtext_any ((up, uq), uy) w' (HV.out _ h).tab)
    clear hb5 HB4 HX4 i5 s5 hc5 hu5
    generalize rtB ((up, uq), uy) = TU at *
    unfold rv at IU
    dsimp only at IU
    go_wp2_with fail
    refine I5.out.mono ?_
    rintro e w6 ⟨rfl, hb6⟩
    have hb6' := HB5.out.trans (hb6.mono HB5.out.size)
    have HB6 := Lib.hid (hb6'.alloc hb6'.size (.cells #[.int .i64 up, .int .i64 uq, .string uy] 27))
    have HX6 := Lib.hid ((Below.heap_alloc w6 (.cells #[.int .i64 up, .int .i64 uq, .string uy] 27) _ (Array.getElem?_eq_some_iff.1 ((hb6.block _ (Array.getElem?_eq_some_iff.1 HX5.out).1).trans HX5.out)).1).trans ((hb6.block _ (Array.getElem?_eq_some_iff.1 HX5.out).1).trans HX5.out))
    have HY6 := Lib.hid (heap_alloc_new w6 (.cells #[.int .i64 up, .int .i64 uq, .string uy] 27))
    clear hb6 hb6' HB5 HX5 I5
    go_wp2_with fail
    generalize w6.alloc (.cells #[.int .i64 up, .int .i64 uq, .string uy] 27) = W6 at *
    generalize w6.heap.size = b6 at *
    refine (S5.out _).mono ?_
    rintro e w7 ⟨rfl, hb7⟩
    have hb7' := HB6.out.trans (hb7.mono HB6.out.size)
    have HB7 := Lib.hid (hb7'.alloc hb7'.size (.cells #[.int .i64 up, .int .i64 uq, .string uy] 27))
    have hB := (Below.refl w7.heap.size w7).alloc (Nat.le_refl _) (.cells #[.int .i64 up, .int .i64 uq, .string uy] 27)
    have HX7 := Lib.hid ((hB.block _ (Nat.lt_of_lt_of_le (Array.getElem?_eq_some_iff.1 HX6.out).1 hb7.size)).trans ((hb7.block _ (Array.getElem?_eq_some_iff.1 HX6.out).1).trans HX6.out))
    have HY7 := Lib.hid ((hB.block _ (Nat.lt_of_lt_of_le (Array.getElem?_eq_some_iff.1 HY6.out).1 hb7.size)).trans ((hb7.block _ (Array.getElem?_eq_some_iff.1 HY6.out).1).trans HY6.out))
    clear hb7 hb7' HB6 HX6 HY6 S5 hB
    have fin : ∀ w8, Below w1.heap.size w1 w8 → w8.heap[bk]? = some (.cells #[.int .i64 p, .int .i64 q, .string y] 27) → True := fun _ _ _ => trivial
    clear fin
    have ecc : (c != c) = false := by cases c <;> rfl
    cases c with
    | true =>
      have hts : TU = s := HC5.out rfl
      subst hts
      have e3 : (TU.toList == TU.toList) = true := beq_self_eq_true _
      have e4 : (TU.toList != TU.toList) = false := by simp
      clear HC5
      obtain ⟨y0, y1, y2⟩ := box3q HY7.out (Below.refl _ _)
      go_wp2_with fail
      generalize w7.alloc (.cells #[.int .i64 up, .int .i64 uq, .string uy] 27) = W7 at *
      refine (IU.out _ HB7.out).mono ?_
      rintro e w8 ⟨rfl, hb8⟩
      have HB8 := Lib.hid (HB7.out.trans (hb8.mono HB7.out.size))
      have HX8 := Lib.hid ((hb8.block _ (Array.getElem?_eq_some_iff.1 HX7.out).1).trans HX7.out)
      clear hb8 y0 y1 y2 HB7 HX7 HY7 IU IT
      go_wp2_with fail
      refine (RR.out _ HB8.out).mono ?_
      rintro e w9 ⟨rfl, hb9⟩
      have hb9' := HB8.out.trans (hb9.mono HB8.out.size)
      have HB9 := Lib.hid (hb9'.alloc hb9'.size (.cells #[.int .i64 vp, .int .i64 vq, .string vy] 27))
      have hB := (Below.refl w9.heap.size w9).alloc (Nat.le_refl _) (.cells #[.int .i64 vp, .int .i64 vq, .string vy] 27)
      have HX9 := Lib.hid ((hB.block _ (Nat.lt_of_lt_of_le (Array.getElem?_eq_some_iff.1 HX8.out).1 hb9.size)).trans ((hb9.block _ (Array.getElem?_eq_some_iff.1 HX8.out).1).trans HX8.out))
      have HY9 := Lib.hid (heap_alloc_new w9 (.cells #[.int .i64 vp, .int .i64 vq, .string vy] 27))
      clear hb9 hb9' hB RR HB8 HX8
      obtain ⟨x0, x1, x2⟩ := box3q HX9.out (Below.refl _ _)
      go_wp2_with fail
      generalize w9.alloc (.cells #[.int .i64 vp, .int .i64 vq, .string vy] 27) = W9 at *
      generalize w9.heap.size = b9 at *
      refine (SO.out _).mono ?_
      rintro e w10 ⟨rfl, hb10⟩
      obtain ⟨z0, z1, z2⟩ := box3q HX9.out hb10
      obtain ⟨y0, y1, y2⟩ := box3q HY9.out hb10
      have HB10 := Lib.hid (HB9.out.trans (hb10.mono HB9.out.size))
      clear hb10 x0 x1 x2 HB9 HX9 HY9 SO
      cases b with
      | true =>
        have hur := HUR.out rfl
        injection hur with ha hb
        injection ha with ha1 ha2
        subst ha1 ha2 hb
        have EQ := Lib.hid (fun w => rd_eql ((vp, vq), vy) ((vp, vq), vy) w)
        unfold rv at EQ
        rw [show decide ((((vp, vq), vy) : R3) = ((vp, vq), vy)) = true from decide_eq_true rfl] at EQ
        have GD := Lib.hid (fun op x' y' w => rd_guard op x' y' ((vp, vq), vy) ((vp, vq), vy) w)
        unfold rv at GD
        dsimp only at EQ GD
        have eq := EQ.out
        have gd := GD.out
        clear HUR
        go_wp2
        go_ret
        exact ⟨rfl, HB10.out⟩
      | false =>
        clear HUR
        go_wp2
        go_ret
        exact ⟨rfl, HB10.out⟩
    | false =>
      clear IU HC5
      go_wp2_with fail
      generalize w7.alloc (.cells #[.int .i64 up, .int .i64 uq, .string uy] 27) = W7 at *
      clear HY7 IT
      refine (RR.out _ HB7.out).mono ?_
      rintro e w9 ⟨rfl, hb9⟩
      have hb9' := HB7.out.trans (hb9.mono HB7.out.size)
      have HB9 := Lib.hid (hb9'.alloc hb9'.size (.cells #[.int .i64 vp, .int .i64 vq, .string vy] 27))
      have hB := (Below.refl w9.heap.size w9).alloc (Nat.le_refl _) (.cells #[.int .i64 vp, .int .i64 vq, .string vy] 27)
      have HX9 := Lib.hid ((hB.block _ (Nat.lt_of_lt_of_le (Array.getElem?_eq_some_iff.1 HX7.out).1 hb9.size)).trans ((hb9.block _ (Array.getElem?_eq_some_iff.1 HX7.out).1).trans HX7.out))
      have HY9 := Lib.hid (heap_alloc_new w9 (.cells #[.int .i64 vp, .int .i64 vq, .string vy] 27))
      clear hb9 hb9' hB RR HB7 HX7
      obtain ⟨x0, x1, x2⟩ := box3q HX9.out (Below.refl _ _)
      go_wp2_with fail
      generalize w9.alloc (.cells #[.int .i64 vp, .int .i64 vq, .string vy] 27) = W9 at *
      generalize w9.heap.size = b9 at *
      refine (SO.out _).mono ?_
      rintro e w10 ⟨rfl, hb10⟩
      obtain ⟨z0, z1, z2⟩ := box3q HX9.out hb10
      obtain ⟨y0, y1, y2⟩ := box3q HY9.out hb10
      have HB10 := Lib.hid (HB9.out.trans (hb10.mono HB9.out.size))
      clear hb10 x0 x1 x2 HB9 HX9 HY9 SO
      cases b with
      | true =>
        have hur := HUR.out rfl
        injection hur with ha hb
        injection ha with ha1 ha2
        subst ha1 ha2 hb
        have EQ := Lib.hid (fun w => rd_eql ((vp, vq), vy) ((vp, vq), vy) w)
        unfold rv at EQ
        rw [show decide ((((vp, vq), vy) : R3) = ((vp, vq), vy)) = true from decide_eq_true rfl] at EQ
        have GD := Lib.hid (fun op x' y' w => rd_guard op x' y' ((vp, vq), vy) ((vp, vq), vy) w)
        unfold rv at GD
        dsimp only at EQ GD
        have eq := EQ.out
        have gd := GD.out
        clear HUR
        go_wp2
        go_ret
        exact ⟨rfl, HB10.out⟩
      | false =>
        clear HUR
        go_wp2
        go_ret
        exact ⟨rfl, HB10.out⟩
  · go_enter Tryd.func3, Tryd.ntmps3
    go_wp2_with fail
    refine (big_true _ _ _ _ hbig).mono ?_
    rintro e w1 ⟨rfl, rfl⟩
    go_wp2
    go_ret
    exact ⟨rfl, Below.refl _ _⟩
end Go.Proofs.YtbkeggklfaepnaaDoor
namespace Go.Proofs.YtbkeggklfaepnaaDoor.fnReading
open Go.ChangeShapes Go.WideShapes Go.ChangeAt Go.RowKit
open Go.ChangeMaps (open_string shut_string)
set_option linter.unusedVariables false

theorem own : ownKnob Tryd.prog.godebug = none := by kernel_rfl
theorem laidOut : laidOutB Tryd.prog = true := by kernel_rfl

theorem walk (a0 : Option Addr) (len0 cap0 : Nat) (z0 : List Int) (w : World) (w0 : IsRow .u8 w a0 len0 cap0 z0) (hL : laidMetH Tryd.prog Rows.fnReadingRow.laid w) (hsh : w.ShapedOpen Tryd.prog) :
    Calls Tryd.prog 3 #[.slice a0 len0 cap0] w fun e w' => e = .returned (.bool true) ∧ Below w.heap.size w w' := by
  have hD : DecVars w := decVars (laidMet.tail (laidMet.tail hL))
  exact fnreading_walk a0 len0 cap0 z0 w w0 (fun w' h => hD.below h) (mlen_of hsh)

set_option maxRecDepth 100000 in
theorem contract (H : Type) (enc : TypeId × Value → H) (W : World) (base : Nat) (args : Array Value) (ds gs : List (DataW H)) (before : List MemPlace)
    (hval : ∀ (j : Nat) t v, Tryd.f3.params[j]? = some t → args[j]? = some v → Value.okWide Tryd.prog W .any base t v)
    (hW : DataW.Whole enc Tryd.prog Tryd.f3.params.toList Rows.fnReadingSpec.vars false W args.toList ds gs before) (hL : laidMetH Tryd.prog Rows.fnReadingRow.laid W) (hsh : W.ShapedOpen Tryd.prog) :
    Calls Tryd.prog 3 args W fun e W' => ∃ v, e = .returned v ∧ Rows.fnReadingSpec.post enc Tryd.prog Tryd.f3 false true false false W args v W' := by
  have hW' := hW
  obtain ⟨p, q, hA0, hV, rfl, hfz, hnd⟩ := hW
  have hA : DataW.TrodAll enc Tryd.prog W 0 (fun _ => true) true Tryd.f3.params.toList args.toList ds p := hA0
  rw [Tryd.params3] at hA hval
  obtain ⟨v0, vs0, d0, ds0, p0, q0, hargs, rfl, rfl, h0, r0⟩ := trodAll_cons hA
  obtain ⟨rfl, rfl, rfl⟩ := trodAll_nil r0
  obtain rfl : args = #[v0] := by cases args; simp_all
  obtain ⟨rfl, rfl⟩ := trodVars_none hV
  obtain ⟨a0, len0, cap0, rfl⟩ := okWide_slice Tryd.underlying22 (hval 0 22 v0 rfl rfl)
  have k0 := h0
  have lt0 : ∀ x ∈ p0, x.block < W.heap.size := by obtain ⟨m, hm⟩ := k0; exact DataW.trod_lt m _ _ _ hm
  obtain ⟨z0, w0⟩ : ∃ zs, IsRow .u8 W a0 len0 cap0 zs := by
    obtain ⟨fuel, hf⟩ := h0
    rcases open_ints Tryd.underlying22 Tryd.underlying5 (by kernel_rfl) hf with ⟨hcs, _⟩ | ⟨x, l, c, zs, hcs, _, hl, hm, hz, _, hcell, hwz⟩
    · simp [Value.cells] at hcs
      obtain ⟨rfl, rfl, rfl⟩ := hcs
      exact ⟨[], .inl ⟨rfl, rfl, rfl, rfl⟩⟩
    · simp [Value.cells] at hcs
      obtain ⟨rfl, rfl, rfl⟩ := hcs
      exact ⟨zs, .inr ⟨_, rfl, hl, hm, by simpa using hz, hcell, hwz⟩⟩
  clear hA0
  simp only [List.append_nil] at hW'
  refine (walk a0 len0 cap0 z0 W w0 hL hsh).mono fun e W' ⟨he, bel⟩ => ?_
  subst he
  exact ⟨_, rfl, _, _, _, [], _, [], hW', trodAll_mk1 (shut_bool Tryd.underlying4 _), (trodAll_cons_mk (Below.trod laidOut (by kernel_rfl) (of_decide_eq_true (by kernel_rfl)) k0 bel lt0) trodAll_mk0), rfl, bel.frame _, fun h => by cases h⟩

/-! ### one start that fits: each listed variable as its initialiser lays it -/
def tabCell {H : Type} : DataW H → List Value
  | .lit (.int k z) => [.int k z]
  | _ => []
def rowCells {H : Type} : DataW H → List Value
  | .agg ds => ds.flatMap tabCell
  | d => tabCell d
def tabCells (d : DataW Unit) : Array Value := match d with
  | .agg ds => (ds.flatMap rowCells).toArray
  | _ => #[]
noncomputable def low : Nat := (World.holding Tryd.prog default ⟨#[], #[], []⟩).heap.size
noncomputable def laidWorld (os : Os) : World :=
  let w0 := World.holding Tryd.prog os ⟨#[.cells #[.string ⟨#[118, 97, 108, 117, 101, 32, 111, 117, 116, 32, 111, 102, 32, 114, 97, 110, 103, 101]⟩] 126, .cells #[.string ⟨#[105, 110, 118, 97, 108, 105, 100, 32, 115, 121, 110, 116, 97, 120]⟩] 126], #[], []⟩
  { w0 with heap := w0.heap
    |>.modify 4 (fun | .cells _ t frozen => .cells (tabCells Rows.laid_math_bits_deBruijn32tab) t frozen | o => o)
    |>.modify 5 (fun | .cells _ t frozen => .cells (tabCells Rows.laid_math_bits_deBruijn64tab) t frozen | o => o)
    |>.modify 3 (fun | .cells _ t frozen => .cells (tabCells Rows.laid_internal_strconv_uint64pow10) t frozen | o => o)
    |>.modify 2 (fun | .cells _ t frozen => .cells #[.iface 124 (.pointer (some ⟨low + 0, 0, none⟩))] t frozen | o => o)
    |>.modify 1 (fun | .cells _ t frozen => .cells #[.iface 124 (.pointer (some ⟨low + 1, 0, none⟩))] t frozen | o => o) }
theorem laid_met (os : Os) : laidMet Tryd.prog Rows.fnReadingRow.laid ((laidWorld os).forCall (fun _ _ => 0) ⟨#[], #[.slice none 0 0], []⟩).memory :=
  laidMet_of_run3 8 (by kernel_rfl) (by kernel_rfl) (by kernel_rfl)
theorem reads (os : Os) {H : Type} (enc : TypeId × Value → H) : ∃ places, DataW.whole enc Tryd.prog ((laidWorld os).forCall (fun _ _ => 0) ⟨#[], #[.slice none 0 0], []⟩).memory Tryd.f3.params.toList Rows.fnReadingSpec.vars false (#[.slice none 0 0] : Array Value).toList 8 = some ([.nil], [], places) :=
  ⟨[], by kernel_rfl⟩

set_option maxRecDepth 100000 in
theorem lifted (os : Os) (started : os.Started) (H : Type) (enc : TypeId × Value → H) (F : Stop.Interp) :
    ReturnsInHanded {} Tryd.checked os 3 .any ((OpenSpec.ofChange Rows.fnReadingSpec).preRow enc Tryd.prog Tryd.f3 Rows.fnReadingRow.domain false Rows.fnReadingRow.laid) (((OpenSpec.ofChange Rows.fnReadingSpec).at F).post enc Tryd.prog Tryd.f3 false true false false) := by
  obtain ⟨places, hx⟩ := reads os enc
  refine returnsInHanded_of_row (C := Tryd.checked) (s := OpenSpec.ofChange Rows.fnReadingSpec) own started (by kernel_rfl) Tryd.func3
    (witness_row_atRef (enc := enc) (C := Tryd.checked) false (laidWorld os) #[.slice none 0 0] rfl (by kernel_rfl) (by kernel_rfl) (by kernel_rfl)
      (OpenSpec.preRow_of_cond 8 hx (by kernel_rfl) (fun k hk => by cases hk) (by kernel_rfl) (laid_met os))) ?_
  intro W base args ds gs before hval hW _ _ _ hL hsh _
  exact contract H enc W base args ds gs before hval hW hL hsh

theorem said : Rows.FnReadingSaid :=
  OpenClaim.holds_of_cond 3 Tryd.f3 rfl rfl rfl rfl rfl rfl rfl ⟨rfl, rfl, rfl, rfl, rfl⟩ rfl rfl rfl rfl rfl (by kernel_rfl) Tryd.func3 (by kernel_rfl)
    (of_decide_eq_true (by kernel_rfl)) (by unfold Func.isWrapper; first | (rw [if_pos (by decide +kernel)]; kernel_rfl) | (rw [if_neg (by decide +kernel)]; exact ⟨rfl, rfl⟩))
    (fun os started H enc _ F => by rw [OpenClaim.pre_eq_preRow]; exact lifted os started H enc F)

theorem plain (f : FuncId) (fn : Func) (hf : Tryd.pinned.checked.prog.funcNamed "loop.example/g00746/laws.FnReading" = some f) (hfn : Tryd.pinned.checked.prog.funcs[f]? = some fn) :
    true = Tryd.pinned.checked.prog.looks [] ∧ ∀ (j : Nat) t, fn.params[j]? = some t → Tryd.pinned.checked.prog.wantsStandIn t = false := by
  obtain rfl : f = 3 := Option.some.inj ((show Tryd.prog.funcNamed "loop.example/g00746/laws.FnReading" = some 3 by kernel_rfl).symm.trans hf) |>.symm
  obtain rfl : fn = Tryd.f3 := (Option.some.inj (Tryd.func3.symm.trans hfn)).symm
  refine ⟨by kernel_rfl, fun j t ht => ?_⟩
  rw [Tryd.params3] at ht
  have hm := Array.mem_of_getElem? ht
  simp at hm
  rcases hm with rfl
  all_goals (show Tryd.prog.wantsStandIn _ = false; kernel_rfl)

/-- THE CARD -/
theorem card : Rows.FnReadingCardSaid :=
  Claim7.holds_tied_plain_at .later [] _ _ _ _ said (fun _ h => by cases h) (by kernel_rfl) (fun _ h => by cases h) fnReading_row_tie rfl ⟨rfl, rfl⟩ (by kernel_rfl) rfl plain (by kernel_rfl)
#print axioms card
end Go.Proofs.YtbkeggklfaepnaaDoor.fnReading
