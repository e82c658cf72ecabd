/- What the laws lean on (own lemmas and walks of the called functions). -/
import Derived.Test.YtjggheoonjajpaaPb1
set_option linter.unusedVariables false
set_option linter.unusedSimpArgs false
namespace Go.Proofs.Ytjggheoonjajpaa
open Go.ChangeShapes Go.WideShapes Go.ChangeAt Go.RowKit Go.BigFrame
set_option linter.unusedVariables false
set_option linter.unusedSimpArgs false

abbrev set7 (W : World) (b : Nat) (u0 u1 u2 u3 u4 u5 u6 : Value) : World := ((((((W.setCell ⟨b, 0, none⟩ u0).setCell ⟨b, 1, none⟩ u1).setCell ⟨b, 2, none⟩ u2).setCell ⟨b, 3, none⟩ u3).setCell ⟨b, 4, none⟩ u4).setCell ⟨b, 5, none⟩ u5).setCell ⟨b, 6, none⟩ u6
theorem sa_set {W : World} {b : Nat} {v0 v1 v2 v3 v4 v5 v6 : Value} {T : TypeId} (h : W.heap[b]? = some (.cells #[v0, v1, v2, v3, v4, v5, v6] T (0, 0))) (u0 u1 u2 u3 u4 u5 u6 : Value) :
    (set7 W b u0 u1 u2 u3 u4 u5 u6).heap[b]? = some (.cells #[u0, u1, u2, u3, u4, u5, u6] T (0, 0)) := by
  unfold set7
  have h0 : (W.setCell ⟨b, 0, none⟩ u0).heap[b]? = some (.cells #[u0, v1, v2, v3, v4, v5, v6] T (0, 0)) := set_cellsR (j := 0) u0 h
  generalize (W.setCell ⟨b, 0, none⟩ u0) = W0 at *
  have h1 : (W0.setCell ⟨b, 1, none⟩ u1).heap[b]? = some (.cells #[u0, u1, v2, v3, v4, v5, v6] T (0, 0)) := set_cellsR (j := 1) u1 h0
  clear h0
  generalize (W0.setCell ⟨b, 1, none⟩ u1) = W1 at *
  have h2 : (W1.setCell ⟨b, 2, none⟩ u2).heap[b]? = some (.cells #[u0, u1, u2, v3, v4, v5, v6] T (0, 0)) := set_cellsR (j := 2) u2 h1
  clear h1
  generalize (W1.setCell ⟨b, 2, none⟩ u2) = W2 at *
  have h3 : (W2.setCell ⟨b, 3, none⟩ u3).heap[b]? = some (.cells #[u0, u1, u2, u3, v4, v5, v6] T (0, 0)) := set_cellsR (j := 3) u3 h2
  clear h2
  generalize (W2.setCell ⟨b, 3, none⟩ u3) = W3 at *
  have h4 : (W3.setCell ⟨b, 4, none⟩ u4).heap[b]? = some (.cells #[u0, u1, u2, u3, u4, v5, v6] T (0, 0)) := set_cellsR (j := 4) u4 h3
  clear h3
  generalize (W3.setCell ⟨b, 4, none⟩ u4) = W4 at *
  have h5 : (W4.setCell ⟨b, 5, none⟩ u5).heap[b]? = some (.cells #[u0, u1, u2, u3, u4, u5, v6] T (0, 0)) := set_cellsR (j := 5) u5 h4
  clear h4
  generalize (W4.setCell ⟨b, 5, none⟩ u5) = W5 at *
  have h6 : (W5.setCell ⟨b, 6, none⟩ u6).heap[b]? = some (.cells #[u0, u1, u2, u3, u4, u5, u6] T (0, 0)) := set_cellsR (j := 6) u6 h5
  clear h5
  generalize (W5.setCell ⟨b, 6, none⟩ u6) = W6 at *
  exact h6
theorem sa_setB {w W : World} {B b : Nat} (h : Below B w W) (hb : B ≤ b) (u0 u1 u2 u3 u4 u5 u6 : Value) : Below B w (set7 W b u0 u1 u2 u3 u4 u5 u6) := by
  unfold set7
  have h0 : Below B w (W.setCell ⟨b, 0, none⟩ u0) := h.setCell (p := ⟨b, 0, none⟩) hb u0
  generalize (W.setCell ⟨b, 0, none⟩ u0) = W0 at *
  have h1 : Below B w (W0.setCell ⟨b, 1, none⟩ u1) := h0.setCell (p := ⟨b, 1, none⟩) hb u1
  clear h0
  generalize (W0.setCell ⟨b, 1, none⟩ u1) = W1 at *
  have h2 : Below B w (W1.setCell ⟨b, 2, none⟩ u2) := h1.setCell (p := ⟨b, 2, none⟩) hb u2
  clear h1
  generalize (W1.setCell ⟨b, 2, none⟩ u2) = W2 at *
  have h3 : Below B w (W2.setCell ⟨b, 3, none⟩ u3) := h2.setCell (p := ⟨b, 3, none⟩) hb u3
  clear h2
  generalize (W2.setCell ⟨b, 3, none⟩ u3) = W3 at *
  have h4 : Below B w (W3.setCell ⟨b, 4, none⟩ u4) := h3.setCell (p := ⟨b, 4, none⟩) hb u4
  clear h3
  generalize (W3.setCell ⟨b, 4, none⟩ u4) = W4 at *
  have h5 : Below B w (W4.setCell ⟨b, 5, none⟩ u5) := h4.setCell (p := ⟨b, 5, none⟩) hb u5
  clear h4
  generalize (W4.setCell ⟨b, 5, none⟩ u5) = W5 at *
  have h6 : Below B w (W5.setCell ⟨b, 6, none⟩ u6) := h5.setCell (p := ⟨b, 6, none⟩) hb u6
  clear h5
  generalize (W5.setCell ⟨b, 6, none⟩ u6) = W6 at *
  exact h6
end Go.Proofs.Ytjggheoonjajpaa
namespace Go.Proofs.Ytjggheoonjajpaa
open Go.ChangeShapes Go.WideShapes Go.ChangeAt Go.RowKit Go.BigFrame
set_option linter.unusedVariables false
set_option linter.unusedSimpArgs false

set_option maxRecDepth 100000 in
set_option maxHeartbeats 1000000 in
theorem inewstation_any (n m : Int) (w : World) : Calls Try.prog 26 #[.int .i64 n, .int .i64 m] w fun e w' => e = .returned (saV (newStM n m) (.slice none 0 0) (.slice none 0 0) (.slice none 0 0)) ∧ Below w.heap.size w w' := by
  have hb0 := (Below.refl w.heap.size w).alloc (Nat.le_refl _) (.cells #[.int .i64 0, .bool false, .int .i64 0, .int .i64 0, .slice none 0 0, .slice none 0 0, .slice none 0 0] 28)
  have hb1 := hb0.alloc hb0.size (.cells #[.int .i64 n, .bool true, .int .i64 0, .int .i64 m, .slice none 0 0, .slice none 0 0, .slice none 0 0] 28)
  have hx := heap_alloc_new (w.alloc (.cells #[.int .i64 0, .bool false, .int .i64 0, .int .i64 0, .slice none 0 0, .slice none 0 0, .slice none 0 0] 28)) (.cells #[.int .i64 n, .bool true, .int .i64 0, .int .i64 m, .slice none 0 0, .slice none 0 0, .slice none 0 0] 28)
  rw [show (w.alloc (.cells #[.int .i64 0, .bool false, .int .i64 0, .int .i64 0, .slice none 0 0, .slice none 0 0, .slice none 0 0] 28)).heap.size = w.heap.size + 1 by simp] at hx
  have HX := Lib.hid hx
  have HR := Lib.hid (heap_first w (.cells #[.int .i64 n, .bool true, .int .i64 0, .int .i64 m, .slice none 0 0, .slice none 0 0, .slice none 0 0] 28) (.cells #[.int .i64 0, .bool false, .int .i64 0, .int .i64 0, .slice none 0 0, .slice none 0 0, .slice none 0 0] 28))
  have HB := Lib.hid hb1
  have HS := Lib.hid (fun wx => istationok_any ⟨n, true, 0, m, [], [], []⟩ (.slice none 0 0) (.slice none 0 0) (.slice none 0 0) wx ⟨⟨none, 0, rfl, Nat.le_refl _, .inl rfl⟩, ⟨none, 0, rfl, Nat.le_refl _, .inl rfl⟩, inAt_nil wx⟩ (by simp) (fun x hx => by cases hx) (by simp))
  have hm := newSt_ok n m
  unfold saV at HS
  dsimp only at HS
  clear hb0 hb1 hx
  go_enter Try.func26, Try.ntmps26
  go_upto_region 2 with (fail)
  generalize (w.alloc (.cells #[.int .i64 0, .bool false, .int .i64 0, .int .i64 0, .slice none 0 0, .slice none 0 0, .slice none 0 0] 28)).alloc (.cells #[.int .i64 n, .bool true, .int .i64 0, .int .i64 m, .slice none 0 0, .slice none 0 0, .slice none 0 0] 28) = W at *
  obtain ⟨⟨x0, x1, x2, x3, x4, x5, x6⟩, -⟩ := row7_of HX.out
  go_wp2_with fail
  refine (HS.out _).mono ?_
  rintro e w2 ⟨rfl, hb2⟩
  rw [hm]
  have hr2 := (hb2.block _ (Array.getElem?_eq_some_iff.1 HR.out).1).trans HR.out
  have hx2 := (hb2.block _ (Array.getElem?_eq_some_iff.1 HX.out).1).trans HX.out
  have HB2 := Lib.hid (HB.out.trans (hb2.mono HB.out.size))
  have HN := Lib.hid (show newStM n m = if idB n = true ∧ 1 ≤ m ∧ m ≤ 6 then ⟨n, true, 0, m, [], [], []⟩ else noStn from rfl)
  clear x0 x1 x2 x3 x4 x5 x6 hb2 hm HS
  obtain ⟨⟨x0, x1, x2, x3, x4, x5, x6⟩, -⟩ := row7_of hx2
  obtain ⟨⟨y0, y1, y2, y3, y4, y5, y6⟩, f0, f1, f2, f3, f4, f5, f6⟩ := row7_of hr2
  by_cases hn : idB n = true ∧ 1 ≤ m ∧ m ≤ 6
  · rw [decide_eq_true hn]
    have HFV := Lib.hid (show newStM n m = ⟨n, true, 0, m, [], [], []⟩ by rw [HN.out, if_pos hn])
    clear hn HN
    have HF := Lib.hid (sa_set hr2 (.int .i64 n) (.bool true) (.int .i64 0) (.int .i64 m) (.slice none 0 0) (.slice none 0 0) (.slice none 0 0))
    have HBF := Lib.hid (sa_setB HB2.out (Nat.le_refl _) (.int .i64 n) (.bool true) (.int .i64 0) (.int .i64 m) (.slice none 0 0) (.slice none 0 0) (.slice none 0 0))
    clear hr2 hx2
    go_wp2
    refine bodyPost_ret (v := saV ⟨n, true, 0, m, [], [], []⟩ (.slice none 0 0) (.slice none 0 0) (.slice none 0 0)) ?_ rfl ⟨by rw [HFV.out], HBF.out⟩
    rw [results_cell (p := 4) (ty := 28) (by kernel_rfl)]
    have l2 := sa_load HF.out
    simp [asAddr, Result.andThen, l2, saV]
  · rw [decide_eq_false hn]
    have HFV := Lib.hid (show newStM n m = noStn by rw [HN.out, if_neg hn])
    clear hn HN
    have HF := Lib.hid (sa_set hr2 (.int .i64 0) (.bool false) (.int .i64 0) (.int .i64 0) (.slice none 0 0) (.slice none 0 0) (.slice none 0 0))
    have HBF := Lib.hid (sa_setB HB2.out (Nat.le_refl _) (.int .i64 0) (.bool false) (.int .i64 0) (.int .i64 0) (.slice none 0 0) (.slice none 0 0) (.slice none 0 0))
    clear hr2 hx2
    go_wp2
    refine bodyPost_ret (v := saV noStn (.slice none 0 0) (.slice none 0 0) (.slice none 0 0)) ?_ rfl ⟨by rw [HFV.out], HBF.out⟩
    rw [results_cell (p := 4) (ty := 28) (by kernel_rfl)]
    have l2 := sa_load HF.out
    simp [asAddr, Result.andThen, l2, saV, noStn]
end Go.Proofs.Ytjggheoonjajpaa
namespace Go.Proofs.Ytjggheoonjajpaa
open Go.ChangeShapes Go.WideShapes Go.ChangeAt Go.RowKit Go.BigFrame
set_option linter.unusedVariables false
set_option linter.unusedSimpArgs false

theorem sidok_any (x : Int) (w : World) : Calls Try.prog 57 #[.int .i64 x, .int .i64 1, .int .i64 20] w fun e w' => e = .returned (.bool (idB x)) ∧ Below w.heap.size w w' :=
  (sin_any x 1 20 w).mono (by rintro e w' ⟨rfl, rfl⟩; exact ⟨rfl, Below.refl _ _⟩)
set_option maxRecDepth 100000 in
set_option maxHeartbeats 4000000 in
theorem sheard_any (v : Value) (H : List Int) (id : Int) (w : World) (h : inAt w v H) (hs : H.length ≤ 4000000) :
    Calls Try.prog 58 #[v, .int .i64 id] w fun e w' => e = .returned (.bool (heardB H id)) ∧ Below w.heap.size w w' := by
  obtain ⟨a, cap, rfl, hcap, hcells⟩ := h
  have HALL := Lib.hid (show (∀ i, i < H.length → heardStep H id i = true) → heardB H id = true from fun h => all_range_iff.2 h)
  have HNO := Lib.hid (show ∀ i, i < H.length → heardStep H id i = false → heardB H id = false from fun i hi h => all_range_no i hi h)
  generalize heardB H id = bb at *
  go_enter Try.func58, Try.ntmps58
  go_wp2
  go_loopw [5] (fun i wr => ∃ k : Nat, k ≤ H.length ∧ i = .int .i64 k ∧ (∀ j, j < k → heardStep H id j = true) ∧ Below w.heap.size w wr) (fun i _ => H.length - (intOf i).toNat)
  case atStart => exact ⟨0, Nat.zero_le _, rfl, fun j hj => by omega, Below.refl _ _⟩
  case round =>
    obtain ⟨k, hkl, rfl, hall, hbr⟩ := hrel
    rename_i wr
    by_cases hlt : k < H.length
    · obtain ⟨g, off, rfl, hg, hcs⟩ := hcells.resolve_left (by omega)
      have z0 : (0 : Int) ≤ (k : Int) := by omega
      have z1 : (k : Int) < (H.length : Int) := by omega
      have C1 := hcs k hlt
      have HST := Lib.hid (show heardStep H id k = ((idB (H.getD k 0) && decide (H.getD k 0 ≠ id)) && (decide (k = 0) || decide (H.getD (k - 1) 0 < H.getD k 0))) from rfl)
      have HBAD := Lib.hid (HNO.out k hlt)
      have HNX := Lib.hid (show heardStep H id k = true → ∀ j, j < k + 1 → heardStep H id j = true from fun e j hj => by
        rcases (by omega : j < k ∨ j = k) with h1 | rfl
        · exact hall j h1
        · exact e)
      have C0 := Lib.hid (fun (h0 : 0 < k) => hcs (k - 1) (by omega))
      rw [← List.getD_eq_getElem?_getD] at C1
      clear hcells hcs hall
      generalize H.getD k 0 = x at *
      have L1 : ∀ w', Below w.heap.size w w' → (loadVar 3 ⟨g, off + k, none⟩).run Try.prog w' = .ok (.int .i64 x) w' := fun w' hb => ld_int ((hb.cell (p := ⟨g, off + k, none⟩) hg).trans C1)
      have HI := Lib.hid (fun w' => sidok_any x w')
      clear C1
      cases hi : idB x with
      | false =>
        have HIV := Lib.hid hi
        have HF := Lib.hid (HBAD.out (by rw [HST.out, hi]; rfl))
        clear hi C0
        go_wp2
        refine wp_region_below w (by kernel_rfl) (by kernel_rfl) hbr ?_
        repeat (first
          | go_big_quiet_skip
          | (go_big_quiet_want
             first
               | (refine q_load 3 _ ⟨g, off + k, none⟩ _ rfl rfl L1 ?_; simp only [Act.put, List.setIfInBounds_toArray, List.set_cons_zero, List.set_cons_succ]; go_big_quiet_on)
               | (go_big_quiet_op; go_big_quiet_on)
               | (go_big_quiet_op; refine ⟨_, fun _ _ => rfl, ?_⟩; go_big_quiet_on)
               | (go_big_quiet_op; apply Exists.intro; refine ⟨fun w' hw' => ?_, ?_⟩
                  · first
                    | (with_reducible refine (HI.out w').mono ?_
                       rintro e w2 ⟨rfl, hb2⟩
                       exact ⟨by rw [HIV.out], hw'.trans (hb2.mono hw'.size)⟩)
                  go_big_quiet_on)
               | (go_big_quiet_op; refine ⟨_, fun _ _ _ => rfl, ?_⟩; go_big_quiet_on)))
        refine wpQuiet_nil ?_
        intro w2 hb2
        clear L1 hbr
        go_wp2
        go_ret
        exact ⟨by rw [HF.out]; rfl, hb2⟩
      | true =>
        have HIV := Lib.hid hi
        by_cases he : x = id
        · have e0 : (x == id) = true := by simp [he]
          have HF := Lib.hid (HBAD.out (by rw [HST.out, hi, decide_eq_false (by simpa using he)]; rfl))
          clear hi C0 he
          go_wp2
          refine wp_region_below w (by kernel_rfl) (by kernel_rfl) hbr ?_
          repeat (first
            | go_big_quiet_skip
            | (go_big_quiet_want
               first
                 | (refine q_load 3 _ ⟨g, off + k, none⟩ _ rfl rfl L1 ?_; simp only [Act.put, List.setIfInBounds_toArray, List.set_cons_zero, List.set_cons_succ]; go_big_quiet_on)
                 | (go_big_quiet_op; go_big_quiet_on)
                 | (go_big_quiet_op; refine ⟨_, fun _ _ => rfl, ?_⟩; go_big_quiet_on)
                 | (go_big_quiet_op; apply Exists.intro; refine ⟨fun w' hw' => ?_, ?_⟩
                    · first
                      | (with_reducible refine (HI.out w').mono ?_
                         rintro e w2 ⟨rfl, hb2⟩
                         exact ⟨by rw [HIV.out], hw'.trans (hb2.mono hw'.size)⟩)
                    go_big_quiet_on)
                 | (go_big_quiet_op; refine ⟨_, fun _ _ _ => rfl, ?_⟩; go_big_quiet_on)))
          refine wpQuiet_nil ?_
          intro w2 hb2
          clear L1 hbr
          go_wp2
          go_ret
          exact ⟨by rw [HF.out]; rfl, hb2⟩
        · have e0 : (x == id) = false := by simp [he]
          have e1 : decide (x ≠ id) = true := decide_eq_true he
          by_cases hk0 : k = 0
          · subst hk0
            have HN := Lib.hid (HNX.out (by rw [HST.out, hi, e1]; rfl))
            have y0 : ¬ (0 : Int) < ((0 : Nat) : Int) := by omega
            clear hi C0 he e1
            go_wp2
            refine wp_region_below w (by kernel_rfl) (by kernel_rfl) hbr ?_
            repeat (first
              | go_big_quiet_skip
              | (go_big_quiet_want
                 first
                   | (refine q_load 3 _ ⟨g, off + 0, none⟩ _ rfl rfl L1 ?_; simp only [Act.put, List.setIfInBounds_toArray, List.set_cons_zero, List.set_cons_succ]; go_big_quiet_on)
                   | (go_big_quiet_op; go_big_quiet_on)
                   | (go_big_quiet_op; refine ⟨_, fun _ _ => rfl, ?_⟩; go_big_quiet_on)
                   | (go_big_quiet_op; apply Exists.intro; refine ⟨fun w' hw' => ?_, ?_⟩
                      · first
                        | (with_reducible refine (HI.out w').mono ?_
                           rintro e w2 ⟨rfl, hb2⟩
                           exact ⟨by rw [HIV.out], hw'.trans (hb2.mono hw'.size)⟩)
                      go_big_quiet_on)
                   | (go_big_quiet_op; refine ⟨_, fun _ _ _ => rfl, ?_⟩; go_big_quiet_on)))
            refine wpQuiet_nil ?_
            intro w2 hb2
            clear L1 hbr
            go_wp2
            exact ⟨⟨1, by omega, by go_num, HN.out, hb2⟩, by simp [intOf]; omega⟩
          · have C2 := C0.out (by omega)
            rw [← List.getD_eq_getElem?_getD] at C2
            have y0 : (0 : Int) < (k : Int) := by omega
            have yk : 0 < k := by omega
            have y1 : (0 : Int) ≤ (k : Int) - 1 := by omega
            have y2 : (k : Int) - 1 < (H.length : Int) := by omega
            have y3 : IntKind.i64.wrap ((k : Int) - 1) = (k : Int) - 1 := IntWalk.i64_in _ (by omega)
            have y4 : ((k : Int) - 1).toNat = k - 1 := by omega
            generalize H.getD (k - 1) 0 = x0 at *
            have L0 : ∀ w', Below w.heap.size w w' → (loadVar 3 ⟨g, off + (k - 1), none⟩).run Try.prog w' = .ok (.int .i64 x0) w' := fun w' hb => ld_int ((hb.cell (p := ⟨g, off + (k - 1), none⟩) hg).trans C2)
            by_cases hx : x ≤ x0
            · have HF := Lib.hid (HBAD.out (by rw [HST.out, hi, e1, decide_eq_false hk0, decide_eq_false (by omega)]; rfl))
              clear hi C0 he e1 C2
              go_wp2
              refine wp_region_below w (by kernel_rfl) (by kernel_rfl) hbr ?_
              repeat (first
                | go_big_quiet_skip
                | (go_big_quiet_want
                   first
                     | (refine q_load 3 _ ⟨g, off + k, none⟩ _ rfl rfl L1 ?_; simp only [Act.put, List.setIfInBounds_toArray, List.set_cons_zero, List.set_cons_succ]; go_big_quiet_on)
                     | (refine q_load 3 _ ⟨g, off + (k - 1), none⟩ _ rfl rfl L0 ?_; simp only [Act.put, List.setIfInBounds_toArray, List.set_cons_zero, List.set_cons_succ]; go_big_quiet_on)
                     | (go_big_quiet_op; go_big_quiet_on)
                     | (go_big_quiet_op; refine ⟨_, fun _ _ => rfl, ?_⟩; go_big_quiet_on)
                     | (go_big_quiet_op; apply Exists.intro; refine ⟨fun w' hw' => ?_, ?_⟩
                        · first
                          | (with_reducible refine (HI.out w').mono ?_
                             rintro e w2 ⟨rfl, hb2⟩
                             exact ⟨by rw [HIV.out], hw'.trans (hb2.mono hw'.size)⟩)
                        go_big_quiet_on)
                     | (go_big_quiet_op; refine ⟨_, fun _ _ _ => rfl, ?_⟩; go_big_quiet_on)))
              refine wpQuiet_nil ?_
              intro w2 hb2
              clear L1 L0 hbr
              go_wp2
              go_ret
              exact ⟨by rw [HF.out]; rfl, hb2⟩
            · have HN := Lib.hid (HNX.out (by rw [HST.out, hi, e1, decide_eq_true (show x0 < x by omega)]; simp))
              clear hi C0 he e1 C2
              go_wp2
              refine wp_region_below w (by kernel_rfl) (by kernel_rfl) hbr ?_
              repeat (first
                | go_big_quiet_skip
                | (go_big_quiet_want
                   first
                     | (refine q_load 3 _ ⟨g, off + k, none⟩ _ rfl rfl L1 ?_; simp only [Act.put, List.setIfInBounds_toArray, List.set_cons_zero, List.set_cons_succ]; go_big_quiet_on)
                     | (refine q_load 3 _ ⟨g, off + (k - 1), none⟩ _ rfl rfl L0 ?_; simp only [Act.put, List.setIfInBounds_toArray, List.set_cons_zero, List.set_cons_succ]; go_big_quiet_on)
                     | (go_big_quiet_op; go_big_quiet_on)
                     | (go_big_quiet_op; refine ⟨_, fun _ _ => rfl, ?_⟩; go_big_quiet_on)
                     | (go_big_quiet_op; apply Exists.intro; refine ⟨fun w' hw' => ?_, ?_⟩
                        · first
                          | (with_reducible refine (HI.out w').mono ?_
                             rintro e w2 ⟨rfl, hb2⟩
                             exact ⟨by rw [HIV.out], hw'.trans (hb2.mono hw'.size)⟩)
                        go_big_quiet_on)
                     | (go_big_quiet_op; refine ⟨_, fun _ _ _ => rfl, ?_⟩; go_big_quiet_on)))
              refine wpQuiet_nil ?_
              intro w2 hb2
              clear L1 L0 hbr
              go_wp2
              exact ⟨⟨k + 1, by omega, by go_num, HN.out, hb2⟩, by simp [intOf]; omega⟩
    · obtain rfl : k = H.length := by omega
      have HF := Lib.hid (HALL.out hall)
      clear hall hcells
      go_wp2
      go_ret
      exact ⟨by rw [HF.out]; rfl, hbr⟩
end Go.Proofs.Ytjggheoonjajpaa
namespace Go.Proofs.Ytjggheoonjajpaa
open Go.ChangeShapes Go.WideShapes Go.ChangeAt Go.RowKit Go.BigFrame
set_option linter.unusedVariables false
set_option linter.unusedSimpArgs false

set_option maxRecDepth 100000 in
set_option maxHeartbeats 8000000 in
theorem sstationok_any (s : Stn) (vo vb vh : Value) (w : World) (h : SaL w s vo vb vh) (hbu : s.buf.length ≤ 1900000) (hx : ∀ x ∈ s.buf, x.1.length ≤ 1900000) (hhe : s.heard.length ≤ 1900000) :
    Calls Try.prog 17 #[saV s vo vb vh] w fun e w' => e = .returned (.bool (stOkB s)) ∧ Below w.heap.size w w' := by
  have HHE := Lib.hid (fun wx (hb : Below w.heap.size w wx) => sheard_any vh s.heard s.id wx (inAt_below h.heard hb) (by omega))
  have HAV := Lib.hid (fun wx (hb : Below w.heap.size w wx) => cdAv_below h.buf hb)
  have HRD := Lib.hid (fun wx (hb : Below w.heap.size w wx) => rdAt_below h.own hb)
  have HS := Lib.hid (show stOkB s = ((idB s.id && (decide (1 ≤ s.most) && decide (s.most ≤ 6))) && (ownB s && (decide ((s.buf.length : Int) ≤ s.most) && (bufB s.buf && heardB s.heard s.id)))) from rfl)
  have HOW := Lib.hid (show ownB s = if s.seq = 0 then decide (s.own.length = 0) else decide (s.own.length = 1) && (rdOkB (s.own.getD 0 r0) && decide ((s.own.getD 0 r0).1 = (s.id, s.seq))) from rfl)
  have HSQ := Lib.hid (show ¬ (0 ≤ s.seq ∧ s.seq ≤ 99) → ownB s = false from fun hn => by
    cases e : ownB s with
    | false => rfl
    | true => exact absurd (own_seq e) hn)
  generalize ownB s = ob at *
  generalize stOkB s = bb at *
  obtain ⟨id, al, sq, mo, ow, bu, he⟩ := s
  obtain ⟨⟨ao, co, rfl, -, hcellsR⟩, ⟨ab, cb, rfl, -, hcellsC⟩, ⟨ah, ch, rfl, -, -⟩⟩ := h
  unfold saV at *
  dsimp only at *
  have HCR := Lib.hid hcellsR
  have HCB := Lib.hid hcellsC
  have HXX := Lib.hid hx
  have hb := (Below.refl w.heap.size w).alloc (Nat.le_refl _) (.cells #[.int .i64 id, .bool al, .int .i64 sq, .int .i64 mo, .slice ao ow.length co, .slice ab bu.length cb, .slice ah he.length ch] 28)
  have HX0 := Lib.hid (heap_alloc_new w (.cells #[.int .i64 id, .bool al, .int .i64 sq, .int .i64 mo, .slice ao ow.length co, .slice ab bu.length cb, .slice ah he.length ch] 28))
  have HB0 := Lib.hid hb
  generalize heardB he id = hh at *
  clear hb hx hcellsR hcellsC
  go_enter Try.func17, Try.ntmps17
  go_upto_region 1 with (fail)
  generalize w.alloc (.cells #[.int .i64 id, .bool al, .int .i64 sq, .int .i64 mo, .slice ao ow.length co, .slice ab bu.length cb, .slice ah he.length ch] 28) = w0 at *
  obtain ⟨⟨x0, x1, x2, x3, x4, x5, x6⟩, -⟩ := row7_of HX0.out
  go_wp2_with fail
  refine (sin_any _ _ _ _).mono ?_
  rintro e w1 ⟨rfl, rfl⟩
  have HID := Lib.hid (show (decide (1 ≤ id) && decide (id ≤ 20)) = idB id from rfl)
  rw [HID.out]
  generalize idB id = ib at *
  cases ib with
  | false =>
    have HF := Lib.hid (show bb = false by rw [HS.out]; first | rfl | simp)
    go_wp2
    go_ret
    exact ⟨by rw [HF.out]; rfl, HB0.out⟩
  | true =>
    go_wp2_with fail
    refine (sin_any _ _ _ _).mono ?_
    rintro e w1 ⟨rfl, rfl⟩
    cases q1 : (decide (0 ≤ sq) && decide (sq ≤ 99)) with
    | false =>
      have hob := HSQ.out (fun h9 => by rw [decide_eq_true h9.1, decide_eq_true h9.2] at q1; cases q1)
      have HF := Lib.hid (show bb = false by rw [HS.out, hob]; first | rfl | simp)
      go_wp2
      go_ret
      exact ⟨by rw [HF.out]; rfl, HB0.out⟩
    | true =>
      go_wp2_with fail
      refine (sin_any _ _ _ _).mono ?_
      rintro e w1 ⟨rfl, rfl⟩
      cases q2 : (decide (1 ≤ mo) && decide (mo ≤ 6)) with
      | false =>
        rw [q2] at HS
        have HF := Lib.hid (show bb = false by rw [HS.out]; first | rfl | simp)
        go_wp2
        go_ret
        exact ⟨by rw [HF.out]; rfl, HB0.out⟩
      | true =>
        rw [q2] at HS
        by_cases l1 : mo < (bu.length : Int)
        · have l1' : decide ((bu.length : Int) ≤ mo) = false := decide_eq_false (by omega)
          have HF := Lib.hid (show bb = false by rw [HS.out, l1']; first | rfl | simp)
          go_wp2
          go_ret
          exact ⟨by rw [HF.out]; rfl, HB0.out⟩
        have l1' : decide ((bu.length : Int) ≤ mo) = true := decide_eq_true (by omega)
        rw [l1'] at HS
        clear l1'
        go_wp2_with fail
        refine (HHE.out _ HB0.out).mono ?_
        rintro e w2 ⟨rfl, hb2⟩
        have HB2 := Lib.hid (HB0.out.trans (hb2.mono HB0.out.size))
        have HX2 := Lib.hid ((hb2.block _ (Array.getElem?_eq_some_iff.1 HX0.out).1).trans HX0.out)
        clear hb2 x0 x1 x2 x3 x4 x5 x6
        obtain ⟨⟨x0, x1, x2, x3, x4, x5, x6⟩, -⟩ := row7_of HX2.out
        cases hh with
        | false =>
          have HF := Lib.hid (show bb = false by rw [HS.out]; first | rfl | simp)
          go_wp2
          go_ret
          exact ⟨by rw [HF.out]; rfl, HB2.out⟩
        | true =>
          have HALL := Lib.hid (show ob = true → (∀ i, i < bu.length → bufStep bu i = true) → bb = true from fun e h => by rw [HS.out, e, show bufB bu = true from all_range_iff.2 h]; rfl)
          have HNO := Lib.hid (show ∀ i, i < bu.length → bufStep bu i = false → bb = false from fun i hi h => by rw [HS.out, show bufB bu = false from all_range_no i hi h]; simp)
          clear HID
          by_cases hz : sq = 0
          · have hob := HOW.out
            rw [if_pos hz] at hob
            subst hz
            have s1 : ¬ (0 : Int) < 0 := by omega
            by_cases ho : ow.length = 0
            · have i0 : ¬ (0 : Int) < (ow.length : Int) := by omega
              have i00 : ¬ 0 < ow.length := by omega
              rw [decide_eq_true ho] at hob
              replace HALL := Lib.hid (HALL.out hob)
              have LS : ∀ w', Below w2.heap.size w2 w' → (loadVar 3 ⟨w.heap.size, 2, none⟩).run Try.prog w' = .ok (.int .i64 0) w' := fun w' hb => ld_int ((hb.cell (p := ⟨w.heap.size, 2, none⟩) (Array.getElem?_eq_some_iff.1 HX2.out).1).trans x2)
              clear hob HOW HSQ
              go_wp2
              clear x0 x1 x2 x3 x4 x5 x6
              refine wp_region_below w2 (by kernel_rfl) (by kernel_rfl) (Below.refl _ _) ?_
              repeat (first
                | go_big_quiet_skip
                | (go_big_quiet_want
                   first
                     | (refine q_load 3 _ ⟨w.heap.size, 2, none⟩ _ rfl rfl LS ?_; simp only [Act.put, List.setIfInBounds_toArray, List.set_cons_zero, List.set_cons_succ]; go_big_quiet_on)
                     | (go_big_quiet_op; go_big_quiet_on)
                     | (go_big_quiet_op; refine ⟨_, fun _ _ => rfl, ?_⟩; go_big_quiet_on)
                     | (go_big_quiet_op; go_big_quiet_on)))
              refine wpQuiet_nil ?_
              intro w3 hb3
              have HB3 := Lib.hid (HB2.out.trans (hb3.mono HB2.out.size))
              have HX3 := Lib.hid ((hb3.block _ (Array.getElem?_eq_some_iff.1 HX2.out).1).trans HX2.out)
              clear LS hb3
              obtain ⟨⟨x0, x1, x2, x3, x4, x5, x6⟩, -⟩ := row7_of HX3.out
              go_wp2_with fail
              clear x0 x1 x2 x3 x4 x5 x6
              go_loopw [3] (fun i wr => ∃ (k : Nat) (wz : World), wz = wr ∧ k ≤ bu.length ∧ i = .int .i64 k ∧ (∀ j, j < k → bufStep bu j = true) ∧ Below w3.heap.size w3 wr) (fun i _ => bu.length - (intOf i).toNat)
              case atStart => exact ⟨0, _, rfl, Nat.zero_le _, rfl, fun j hj => by omega, Below.refl _ _⟩
              case round =>
                obtain ⟨k, wr, hwr, hkl, rfl, hall, hbr⟩ := hrel
                subst hwr
                have HBR := Lib.hid (HB3.out.trans (hbr.mono HB3.out.size))
                have HXR := Lib.hid ((hbr.block _ (Array.getElem?_eq_some_iff.1 HX3.out).1).trans HX3.out)
                have HB9 := Lib.hid hbr
                clear hbr
                by_cases hlt : k < bu.length
                · obtain ⟨g, off, rfl, hg, hcs⟩ := HCB.out.resolve_left (by omega)
                  have z0 : (0 : Int) ≤ (k : Int) := by omega
                  have z1 : (k : Int) < (bu.length : Int) := by omega
                  obtain ⟨u, c1, c2, c3⟩ := hcs k hlt
                  have hxx := HXX.out (bu.getD k blankC) (getW hlt)
                  have HST := Lib.hid (bufStep_iff (L := bu) hlt)
                  have HBAD := Lib.hid (HNO.out k hlt)
                  have HNX := Lib.hid (show bufStep bu k = true → ∀ j, j < k + 1 → bufStep bu j = true from fun e j hj => by
                    rcases (by omega : j < k ∨ j = k) with h1 | rfl
                    · exact hall j h1
                    · exact e)
                  clear hcs hall
                  generalize bu.getD k blankC = x at *
                  obtain ⟨ks, y⟩ := x
                  dsimp only at *
                  have HKU := Lib.hid (fun wx (hb : Below wr.heap.size wr wx) => keysAt_below c3.to (HBR.out.trans (hb.mono HBR.out.size)))
                  have HSC := Lib.hid (fun wx (hb : Below wr.heap.size wr wx) => scodeok_any u ks y wx (HKU.out wx hb) (by omega))
                  have HSI := Lib.hid (fun wx (hb : Below wr.heap.size wr wx) => scodei_any (.slice (some ⟨g, off, none⟩) bu.length cb) bu u (ks, y) wx (HAV.out wx (HBR.out.trans (hb.mono HBR.out.size))) (HKU.out wx hb) (by omega) (fun z hz => by have := HXX.out z hz; omega) (by dsimp only; omega))
                  have HLT : w.heap.size < wr.heap.size := (Array.getElem?_eq_some_iff.1 HXR.out).1
                  obtain ⟨⟨x0, x1, x2, x3, x4, x5, x6⟩, -⟩ := row7_of HXR.out
                  obtain ⟨au, cu, rfl, -, -⟩ := c3
                  have LB : ∀ w', Below wr.heap.size wr w' → (loadVar 25 ⟨w.heap.size, 5, none⟩).run Try.prog w' = .ok (.slice (some ⟨g, off, none⟩) bu.length cb) w' := fun w' hb => ld_cds ((hb.cell (p := ⟨w.heap.size, 5, none⟩) HLT).trans x5)
                  have LC : ∀ w', Below wr.heap.size wr w' → (loadVar 42 ⟨g, off + k * 2, none⟩).run Try.prog w' = .ok (.agg #[.slice au ks.length cu, .string y]) w' := fun w' hb => cd_mid (((HBR.out.trans (hb.mono HBR.out.size)).cell (p := ⟨g, off + k * 2, none⟩) hg).trans c1) (((HBR.out.trans (hb.mono HBR.out.size)).cell (p := ⟨g, off + k * 2 + 1, none⟩) hg).trans c2)
                  have LK : ∀ w', Below wr.heap.size wr w' → (loadVar 40 ⟨g, off + k * 2, none⟩).run Try.prog w' = .ok (.slice au ks.length cu) w' := fun w' hb => ld_kys (((HBR.out.trans (hb.mono HBR.out.size)).cell (p := ⟨g, off + k * 2, none⟩) hg).trans c1)
                  clear c1 c2
                  cases hc : codeOkB (ks, y) with
                  | false =>
                    have HCV := Lib.hid hc
                    have HF := Lib.hid (HBAD.out (by rw [HST.out, tellB, hc]; rfl))
                    clear hc
                    go_wp2
                    clear x0 x1 x2 x3 x4 x5 x6
                    refine wp_region_below wr (by kernel_rfl) (by kernel_rfl) (Below.refl _ _) ?_
                    repeat (first
                      | go_big_quiet_skip
                      | (go_big_quiet_want
                         first
                           | (refine q_load 25 _ ⟨w.heap.size, 5, none⟩ _ rfl rfl LB ?_; simp only [Act.put, List.setIfInBounds_toArray, List.set_cons_zero, List.set_cons_succ]; go_big_quiet_on)
                           | (refine q_load 42 _ ⟨g, off + k * 2, none⟩ _ rfl rfl LC ?_; simp only [Act.put, List.setIfInBounds_toArray, List.set_cons_zero, List.set_cons_succ]; go_big_quiet_on)
                           | (refine q_load 40 _ ⟨g, off + k * 2, none⟩ _ rfl rfl LK ?_; simp only [Act.put, List.setIfInBounds_toArray, List.set_cons_zero, List.set_cons_succ]; go_big_quiet_on)
                           | (go_big_quiet_op; go_big_quiet_on)
                           | (go_big_quiet_op; refine ⟨_, fun _ _ => rfl, ?_⟩; go_big_quiet_on)
                           | (go_big_quiet_op; apply Exists.intro; refine ⟨fun w' hw' => ?_, ?_⟩
                              · first
                                | (with_reducible refine (HSC.out w' hw').mono ?_
                                   rintro e w2 ⟨rfl, hb2⟩
                                   exact ⟨by rw [HCV.out], hw'.trans (hb2.mono hw'.size)⟩)
                              go_big_quiet_on)
                           | (go_big_quiet_op; refine ⟨_, fun _ _ _ => rfl, ?_⟩; go_big_quiet_on)))
                    refine wpQuiet_nil ?_
                    intro w5 hb5
                    clear LB LC LK HLT
                    go_wp2
                    go_ret
                    exact ⟨by rw [HF.out]; rfl, HBR.out.trans (hb5.mono HBR.out.size)⟩
                  | true =>
                    have HCV := Lib.hid hc
                    by_cases hk0 : ks.length = 0
                    · have i0 : (ks.length : Int) = 0 := by omega
                      have i1 : ((ks.length : Int) == 0) = true := by simp [hk0]
                      have HF := Lib.hid (HBAD.out (by rw [HST.out, tellB]; simp [hk0]))
                      clear hc HST
                      generalize ks.length = nk at *
                      subst hk0
                      go_wp2
                      clear x0 x1 x2 x3 x4 x5 x6
                      refine wp_region_below wr (by kernel_rfl) (by kernel_rfl) (Below.refl _ _) ?_
                      repeat (first
                        | go_big_quiet_skip
                        | (go_big_quiet_want
                           first
                             | (refine q_load 25 _ ⟨w.heap.size, 5, none⟩ _ rfl rfl LB ?_; simp only [Act.put, List.setIfInBounds_toArray, List.set_cons_zero, List.set_cons_succ]; go_big_quiet_on)
                             | (refine q_load 42 _ ⟨g, off + k * 2, none⟩ _ rfl rfl LC ?_; simp only [Act.put, List.setIfInBounds_toArray, List.set_cons_zero, List.set_cons_succ]; go_big_quiet_on)
                             | (refine q_load 40 _ ⟨g, off + k * 2, none⟩ _ rfl rfl LK ?_; simp only [Act.put, List.setIfInBounds_toArray, List.set_cons_zero, List.set_cons_succ]; go_big_quiet_on)
                             | (go_big_quiet_op; go_big_quiet_on)
                             | (go_big_quiet_op; refine ⟨_, fun _ _ => rfl, ?_⟩; go_big_quiet_on)
                             | (go_big_quiet_op; apply Exists.intro; refine ⟨fun w' hw' => ?_, ?_⟩
                                · first
                                  | (with_reducible refine (HSC.out w' hw').mono ?_
                                     rintro e w2 ⟨rfl, hb2⟩
                                     exact ⟨by rw [HCV.out], hw'.trans (hb2.mono hw'.size)⟩)
                                go_big_quiet_on)
                             | (go_big_quiet_op; refine ⟨_, fun _ _ _ => rfl, ?_⟩; go_big_quiet_on)))
                      refine wpQuiet_nil ?_
                      intro w5 hb5
                      clear LB LC LK HLT
                      go_wp2
                      go_ret
                      exact ⟨by rw [HF.out]; rfl, HBR.out.trans (hb5.mono HBR.out.size)⟩
                    · have i0 : ¬ (ks.length : Int) = 0 := by omega
                      have i1 : ((ks.length : Int) == 0) = false := by simp; exact fun e => hk0 (by simp [e])
                      have tl : tellB (ks, y) = true := by rw [tellB, hc, decide_eq_true (by dsimp only; omega)]; rfl
                      by_cases hci : codeI bu (ks, y) = some k
                      · have HCI := Lib.hid (show plI (codeI bu (ks, y)) = (k : Int) by rw [hci]; rfl)
                        have HN := Lib.hid (HNX.out (by rw [HST.out, tl, decide_eq_true hci]; rfl))
                        have j0 : ((k : Int) != (k : Int)) = false := by simp
                        clear hc hci tl
                        go_wp2
                        clear x0 x1 x2 x3 x4 x5 x6
                        refine wp_region_below wr (by kernel_rfl) (by kernel_rfl) (Below.refl _ _) ?_
                        repeat (first
                          | go_big_quiet_skip
                          | (go_big_quiet_want
                             first
                               | (refine q_load 25 _ ⟨w.heap.size, 5, none⟩ _ rfl rfl LB ?_; simp only [Act.put, List.setIfInBounds_toArray, List.set_cons_zero, List.set_cons_succ]; go_big_quiet_on)
                               | (refine q_load 42 _ ⟨g, off + k * 2, none⟩ _ rfl rfl LC ?_; simp only [Act.put, List.setIfInBounds_toArray, List.set_cons_zero, List.set_cons_succ]; go_big_quiet_on)
                               | (refine q_load 40 _ ⟨g, off + k * 2, none⟩ _ rfl rfl LK ?_; simp only [Act.put, List.setIfInBounds_toArray, List.set_cons_zero, List.set_cons_succ]; go_big_quiet_on)
                               | (go_big_quiet_op; go_big_quiet_on)
                               | (go_big_quiet_op; refine ⟨_, fun _ _ => rfl, ?_⟩; go_big_quiet_on)
                               | (go_big_quiet_op; apply Exists.intro; refine ⟨fun w' hw' => ?_, ?_⟩
                                  · first
                                    | (with_reducible refine (HSC.out w' hw').mono ?_
                                       rintro e w2 ⟨rfl, hb2⟩
                                       exact ⟨by rw [HCV.out], hw'.trans (hb2.mono hw'.size)⟩)
                                    | (with_reducible refine (HSI.out w' hw').mono ?_
                                       rintro e w2 ⟨rfl, hb2⟩
                                       exact ⟨by rw [HCI.out], hw'.trans (hb2.mono hw'.size)⟩)
                                  go_big_quiet_on)
                               | (go_big_quiet_op; refine ⟨_, fun _ _ _ => rfl, ?_⟩; go_big_quiet_on)))
                        refine wpQuiet_nil ?_
                        intro w5 hb5
                        clear LB LC LK HLT
                        go_wp2
                        exact ⟨⟨k + 1, _, rfl, by omega, by go_num, HN.out, HB9.out.trans (hb5.mono HB9.out.size)⟩, by simp [intOf]; omega⟩
                      · have HCI := Lib.hid (show ((plI (codeI bu (ks, y))) != (k : Int)) = true by
                          cases h : codeI bu (ks, y) with
                          | none => simp [plI]
                          | some i =>
                            have hne : i ≠ k := fun e => hci (by rw [h, e])
                            simp [plI]
                            first | exact hne | omega)
                        have HF := Lib.hid (HBAD.out (by rw [HST.out, decide_eq_false hci]; simp))
                        have j0 := HCI.out
                        generalize plI (codeI bu (ks, y)) = pl at *
                        clear hc hci tl
                        go_wp2
                        clear x0 x1 x2 x3 x4 x5 x6
                        refine wp_region_below wr (by kernel_rfl) (by kernel_rfl) (Below.refl _ _) ?_
                        repeat (first
                          | go_big_quiet_skip
                          | (go_big_quiet_want
                             first
                               | (refine q_load 25 _ ⟨w.heap.size, 5, none⟩ _ rfl rfl LB ?_; simp only [Act.put, List.setIfInBounds_toArray, List.set_cons_zero, List.set_cons_succ]; go_big_quiet_on)
                               | (refine q_load 42 _ ⟨g, off + k * 2, none⟩ _ rfl rfl LC ?_; simp only [Act.put, List.setIfInBounds_toArray, List.set_cons_zero, List.set_cons_succ]; go_big_quiet_on)
                               | (refine q_load 40 _ ⟨g, off + k * 2, none⟩ _ rfl rfl LK ?_; simp only [Act.put, List.setIfInBounds_toArray, List.set_cons_zero, List.set_cons_succ]; go_big_quiet_on)
                               | (go_big_quiet_op; go_big_quiet_on)
                               | (go_big_quiet_op; refine ⟨_, fun _ _ => rfl, ?_⟩; go_big_quiet_on)
                               | (go_big_quiet_op; apply Exists.intro; refine ⟨fun w' hw' => ?_, ?_⟩
                                  · first
                                    | (with_reducible refine (HSC.out w' hw').mono ?_
                                       rintro e w2 ⟨rfl, hb2⟩
                                       exact ⟨by rw [HCV.out], hw'.trans (hb2.mono hw'.size)⟩)
                                    | (with_reducible refine (HSI.out w' hw').mono ?_
                                       rintro e w2 ⟨rfl, hb2⟩
                                       exact ⟨rfl, hw'.trans (hb2.mono hw'.size)⟩)
                                  go_big_quiet_on)
                               | (go_big_quiet_op; refine ⟨_, fun _ _ _ => rfl, ?_⟩; go_big_quiet_on)))
                        refine wpQuiet_nil ?_
                        intro w5 hb5
                        clear LB LC LK HLT
                        go_wp2
                        go_ret
                        exact ⟨by rw [HF.out]; rfl, HBR.out.trans (hb5.mono HBR.out.size)⟩
                · obtain rfl : k = bu.length := by omega
                  have HF := Lib.hid (HALL.out hall)
                  clear hall
                  obtain ⟨⟨x0, x1, x2, x3, x4, x5, x6⟩, -⟩ := row7_of HXR.out
                  go_wp2
                  go_ret
                  exact ⟨by rw [HF.out]; rfl, HBR.out⟩
            · have i0 : (0 : Int) < (ow.length : Int) := by omega
              have i00 : 0 < ow.length := by omega
              rw [decide_eq_false ho] at hob
              have HF := Lib.hid (show bb = false by rw [HS.out, hob]; rfl)
              go_wp2
              go_ret
              exact ⟨by rw [HF.out]; rfl, HB2.out⟩
          · have hob := HOW.out
            rw [if_neg hz] at hob
            have s1 : (0 : Int) < sq := by simp only [Bool.and_eq_true, decide_eq_true_eq] at q1; omega
            have s2 : (sq == 0) = false := by simp [hz]
            by_cases ho : ow.length = 1
            · have i0 : ((ow.length : Int) != 1) = false := by simp [ho]
              have i1 : (ow.length : Int) = 1 := by omega
              have i2 : (0 : Int) < (ow.length : Int) := by omega
              obtain ⟨gr, offr, rfl, hgr, hcsr⟩ := HCR.out.resolve_left (by omega)
              have hcr := hcsr 0 (by omega)
              simp only [Nat.zero_mul, Nat.add_zero] at hcr
              have LR0 := fun (w' : World) (hb : Below w.heap.size w w') => rd_load hcr hgr hb
              have LK0 := fun (w' : World) (hb : Below w.heap.size w w') => key_loadR hcr hgr hb
              generalize ow.getD 0 r0 = r at *
              clear hcsr hcr HCR
              have LR : ∀ w', Below w2.heap.size w2 w' → (loadVar 38 ⟨gr, offr, none⟩).run Try.prog w' = .ok (rv r) w' := fun w' hb => LR0 w' (HB2.out.trans (hb.mono HB2.out.size))
              have LQ : ∀ w', Below w2.heap.size w2 w' → (loadVar 36 ⟨gr, offr, none⟩).run Try.prog w' = .ok (kv r.1) w' := fun w' hb => LK0 w' (HB2.out.trans (hb.mono HB2.out.size))
              clear LR0 LK0
              have hl2 := (Array.getElem?_eq_some_iff.1 HX2.out).1
              have LO : ∀ w', Below w2.heap.size w2 w' → (loadVar 24 ⟨w.heap.size, 4, none⟩).run Try.prog w' = .ok (.slice (some ⟨gr, offr, none⟩) ow.length co) w' := fun w' hb => ld_rds ((hb.cell (p := ⟨w.heap.size, 4, none⟩) hl2).trans x4)
              have LI : ∀ w', Below w2.heap.size w2 w' → (loadVar 3 ⟨w.heap.size, 0, none⟩).run Try.prog w' = .ok (.int .i64 id) w' := fun w' hb => ld_int ((hb.cell (p := ⟨w.heap.size, 0, none⟩) hl2).trans x0)
              have LS : ∀ w', Below w2.heap.size w2 w' → (loadVar 3 ⟨w.heap.size, 2, none⟩).run Try.prog w' = .ok (.int .i64 sq) w' := fun w' hb => ld_int ((hb.cell (p := ⟨w.heap.size, 2, none⟩) hl2).trans x2)
              clear hl2
              have HR := Lib.hid (fun w' => sreadingok_any r w')
              rw [decide_eq_true ho, Bool.true_and] at hob
              cases hr : rdOkB r with
              | false =>
                have HRR := Lib.hid hr
                rw [hr] at hob
                have HF := Lib.hid (show bb = false by rw [HS.out, hob]; rfl)
                clear hr hob HOW HSQ
                go_wp2
                clear x0 x1 x2 x3 x4 x5 x6
                refine wp_region_below w2 (by kernel_rfl) (by kernel_rfl) (Below.refl _ _) ?_
                repeat (first
                  | go_big_quiet_skip
                  | (go_big_quiet_want
                     first
                       | (refine q_load 24 _ ⟨w.heap.size, 4, none⟩ _ rfl rfl LO ?_; simp only [Act.put, List.setIfInBounds_toArray, List.set_cons_zero, List.set_cons_succ]; go_big_quiet_on)
                       | (refine q_load 38 _ ⟨gr, offr, none⟩ _ rfl rfl LR ?_; simp only [Act.put, List.setIfInBounds_toArray, List.set_cons_zero, List.set_cons_succ]; go_big_quiet_on)
                       | (refine q_load 3 _ ⟨w.heap.size, 0, none⟩ _ rfl rfl LI ?_; simp only [Act.put, List.setIfInBounds_toArray, List.set_cons_zero, List.set_cons_succ]; go_big_quiet_on)
                       | (refine q_load 3 _ ⟨w.heap.size, 2, none⟩ _ rfl rfl LS ?_; simp only [Act.put, List.setIfInBounds_toArray, List.set_cons_zero, List.set_cons_succ]; go_big_quiet_on)
                       | (refine q_load 36 _ ⟨gr, offr, none⟩ _ rfl rfl LQ ?_; simp only [Act.put, List.setIfInBounds_toArray, List.set_cons_zero, List.set_cons_succ]; go_big_quiet_on)
                       | (refine q_bin _ 36 _ _ _ (kv r.1) (kv (id, sq)) _ rfl rfl rfl (fun w => key_guard _ _ _ r.1 (id, sq) w) (fun w => key_eql r.1 (id, sq) w) ?_; simp only [Act.put, List.setIfInBounds_toArray, List.set_cons_zero, List.set_cons_succ]; go_big_quiet_on)
                       | (refine q_bin _ 36 _ _ _ (kv r.1) (kv (id, sq)) _ rfl rfl rfl (fun w => key_guard _ _ _ r.1 (id, sq) w) (fun w => key_neq r.1 (id, sq) w) ?_; simp only [Act.put, List.setIfInBounds_toArray, List.set_cons_zero, List.set_cons_succ]; go_big_quiet_on)
                       | (go_big_quiet_op; go_big_quiet_on)
                       | (go_big_quiet_op; refine ⟨_, fun _ _ => rfl, ?_⟩; go_big_quiet_on)
                       | (go_big_quiet_op; apply Exists.intro; refine ⟨fun w' hw' => ?_, ?_⟩
                          · first
                            | (with_reducible refine (HR.out w').mono ?_
                               rintro e w2 ⟨rfl, hb2⟩
                               exact ⟨by rw [HRR.out], hw'.trans (hb2.mono hw'.size)⟩)
                          go_big_quiet_on)
                       | (go_big_quiet_op; refine ⟨_, fun _ _ _ => rfl, ?_⟩; go_big_quiet_on)))
                refine wpQuiet_nil ?_
                intro w3 hb3
                clear LO LR LI LS LQ
                go_wp2
                go_ret
                exact ⟨by rw [HF.out]; rfl, HB2.out.trans (hb3.mono HB2.out.size)⟩
              | true =>
                have HRR := Lib.hid hr
                rw [hr, Bool.true_and] at hob
                cases hk : (r.1 == (id, sq)) with
                | false =>
                  have HF := Lib.hid (show bb = false by rw [HS.out, hob, decide_eq_false (fun e => by rw [e] at hk; simp at hk)]; rfl)
                  clear hr hob HOW HSQ
                  go_wp2
                  clear x0 x1 x2 x3 x4 x5 x6
                  refine wp_region_below w2 (by kernel_rfl) (by kernel_rfl) (Below.refl _ _) ?_
                  repeat (first
                    | go_big_quiet_skip
                    | (go_big_quiet_want
                       first
                         | (refine q_load 24 _ ⟨w.heap.size, 4, none⟩ _ rfl rfl LO ?_; simp only [Act.put, List.setIfInBounds_toArray, List.set_cons_zero, List.set_cons_succ]; go_big_quiet_on)
                         | (refine q_load 38 _ ⟨gr, offr, none⟩ _ rfl rfl LR ?_; simp only [Act.put, List.setIfInBounds_toArray, List.set_cons_zero, List.set_cons_succ]; go_big_quiet_on)
                         | (refine q_load 3 _ ⟨w.heap.size, 0, none⟩ _ rfl rfl LI ?_; simp only [Act.put, List.setIfInBounds_toArray, List.set_cons_zero, List.set_cons_succ]; go_big_quiet_on)
                         | (refine q_load 3 _ ⟨w.heap.size, 2, none⟩ _ rfl rfl LS ?_; simp only [Act.put, List.setIfInBounds_toArray, List.set_cons_zero, List.set_cons_succ]; go_big_quiet_on)
                         | (refine q_load 36 _ ⟨gr, offr, none⟩ _ rfl rfl LQ ?_; simp only [Act.put, List.setIfInBounds_toArray, List.set_cons_zero, List.set_cons_succ]; go_big_quiet_on)
                         | (refine q_bin _ 36 _ _ _ (kv r.1) (kv (id, sq)) _ rfl rfl rfl (fun w => key_guard _ _ _ r.1 (id, sq) w) (fun w => key_eql r.1 (id, sq) w) ?_; simp only [Act.put, List.setIfInBounds_toArray, List.set_cons_zero, List.set_cons_succ]; go_big_quiet_on)
                         | (refine q_bin _ 36 _ _ _ (kv r.1) (kv (id, sq)) _ rfl rfl rfl (fun w => key_guard _ _ _ r.1 (id, sq) w) (fun w => key_neq r.1 (id, sq) w) ?_; simp only [Act.put, List.setIfInBounds_toArray, List.set_cons_zero, List.set_cons_succ]; go_big_quiet_on)
                         | (go_big_quiet_op; go_big_quiet_on)
                         | (go_big_quiet_op; refine ⟨_, fun _ _ => rfl, ?_⟩; go_big_quiet_on)
                         | (go_big_quiet_op; apply Exists.intro; refine ⟨fun w' hw' => ?_, ?_⟩
                            · first
                              | (with_reducible refine (HR.out w').mono ?_
                                 rintro e w2 ⟨rfl, hb2⟩
                                 exact ⟨by rw [HRR.out], hw'.trans (hb2.mono hw'.size)⟩)
                            go_big_quiet_on)
                         | (go_big_quiet_op; refine ⟨_, fun _ _ _ => rfl, ?_⟩; go_big_quiet_on)))
                  refine wpQuiet_nil ?_
                  intro w3 hb3
                  clear LO LR LI LS LQ
                  rw [hk]
                  go_wp2
                  go_ret
                  exact ⟨by rw [HF.out]; rfl, HB2.out.trans (hb3.mono HB2.out.size)⟩
                | true =>
                  have hob2 : ob = true := by rw [hob, decide_eq_true (eq_of_beq hk)]
                  replace HALL := Lib.hid (HALL.out hob2)
                  clear hr hob hob2 HOW HSQ
                  go_wp2
                  clear x0 x1 x2 x3 x4 x5 x6
                  refine wp_region_below w2 (by kernel_rfl) (by kernel_rfl) (Below.refl _ _) ?_
                  repeat (first
                    | go_big_quiet_skip
                    | (go_big_quiet_want
                       first
                         | (refine q_load 24 _ ⟨w.heap.size, 4, none⟩ _ rfl rfl LO ?_; simp only [Act.put, List.setIfInBounds_toArray, List.set_cons_zero, List.set_cons_succ]; go_big_quiet_on)
                         | (refine q_load 38 _ ⟨gr, offr, none⟩ _ rfl rfl LR ?_; simp only [Act.put, List.setIfInBounds_toArray, List.set_cons_zero, List.set_cons_succ]; go_big_quiet_on)
                         | (refine q_load 3 _ ⟨w.heap.size, 0, none⟩ _ rfl rfl LI ?_; simp only [Act.put, List.setIfInBounds_toArray, List.set_cons_zero, List.set_cons_succ]; go_big_quiet_on)
                         | (refine q_load 3 _ ⟨w.heap.size, 2, none⟩ _ rfl rfl LS ?_; simp only [Act.put, List.setIfInBounds_toArray, List.set_cons_zero, List.set_cons_succ]; go_big_quiet_on)
                         | (refine q_load 36 _ ⟨gr, offr, none⟩ _ rfl rfl LQ ?_; simp only [Act.put, List.setIfInBounds_toArray, List.set_cons_zero, List.set_cons_succ]; go_big_quiet_on)
                         | (refine q_bin _ 36 _ _ _ (kv r.1) (kv (id, sq)) _ rfl rfl rfl (fun w => key_guard _ _ _ r.1 (id, sq) w) (fun w => key_eql r.1 (id, sq) w) ?_; simp only [Act.put, List.setIfInBounds_toArray, List.set_cons_zero, List.set_cons_succ]; go_big_quiet_on)
                         | (refine q_bin _ 36 _ _ _ (kv r.1) (kv (id, sq)) _ rfl rfl rfl (fun w => key_guard _ _ _ r.1 (id, sq) w) (fun w => key_neq r.1 (id, sq) w) ?_; simp only [Act.put, List.setIfInBounds_toArray, List.set_cons_zero, List.set_cons_succ]; go_big_quiet_on)
                         | (go_big_quiet_op; go_big_quiet_on)
                         | (go_big_quiet_op; refine ⟨_, fun _ _ => rfl, ?_⟩; go_big_quiet_on)
                         | (go_big_quiet_op; apply Exists.intro; refine ⟨fun w' hw' => ?_, ?_⟩
                            · first
                              | (with_reducible refine (HR.out w').mono ?_
                                 rintro e w2 ⟨rfl, hb2⟩
                                 exact ⟨by rw [HRR.out], hw'.trans (hb2.mono hw'.size)⟩)
                            go_big_quiet_on)
                         | (go_big_quiet_op; refine ⟨_, fun _ _ _ => rfl, ?_⟩; go_big_quiet_on)))
                  refine wpQuiet_nil ?_
                  intro w3 hb3
                  clear LO LR LI LS LQ
                  simp only [hk, Bool.not_true, Bool.not_false]
                  generalize rv r = rvr
                  generalize kv r.1 = kvr
                  have HB3 := Lib.hid (HB2.out.trans (hb3.mono HB2.out.size))
                  have HX3 := Lib.hid ((hb3.block _ (Array.getElem?_eq_some_iff.1 HX2.out).1).trans HX2.out)
                  clear hb3 ho i0 i1 i2 s2 s1 hz
                  obtain ⟨⟨x0, x1, x2, x3, x4, x5, x6⟩, -⟩ := row7_of HX3.out
                  go_wp2_with fail
                  clear x0 x1 x2 x3 x4 x5 x6
                  go_loopw [3] (fun i wr => ∃ (k : Nat) (wz : World), wz = wr ∧ k ≤ bu.length ∧ i = .int .i64 k ∧ (∀ j, j < k → bufStep bu j = true) ∧ Below w3.heap.size w3 wr) (fun i _ => bu.length - (intOf i).toNat)
                  case atStart => exact ⟨0, _, rfl, Nat.zero_le _, rfl, fun j hj => by omega, Below.refl _ _⟩
                  case round =>
                    obtain ⟨k, wr, hwr, hkl, rfl, hall, hbr⟩ := hrel
                    subst hwr
                    have HBR := Lib.hid (HB3.out.trans (hbr.mono HB3.out.size))
                    have HXR := Lib.hid ((hbr.block _ (Array.getElem?_eq_some_iff.1 HX3.out).1).trans HX3.out)
                    have HB9 := Lib.hid hbr
                    clear hbr
                    by_cases hlt : k < bu.length
                    · obtain ⟨g, off, rfl, hg, hcs⟩ := HCB.out.resolve_left (by omega)
                      have z0 : (0 : Int) ≤ (k : Int) := by omega
                      have z1 : (k : Int) < (bu.length : Int) := by omega
                      obtain ⟨u, c1, c2, c3⟩ := hcs k hlt
                      have hxx := HXX.out (bu.getD k blankC) (getW hlt)
                      have HST := Lib.hid (bufStep_iff (L := bu) hlt)
                      have HBAD := Lib.hid (HNO.out k hlt)
                      have HNX := Lib.hid (show bufStep bu k = true → ∀ j, j < k + 1 → bufStep bu j = true from fun e j hj => by
                        rcases (by omega : j < k ∨ j = k) with h1 | rfl
                        · exact hall j h1
                        · exact e)
                      clear hcs hall
                      generalize bu.getD k blankC = x at *
                      obtain ⟨ks, y⟩ := x
                      dsimp only at *
                      have HKU := Lib.hid (fun wx (hb : Below wr.heap.size wr wx) => keysAt_below c3.to (HBR.out.trans (hb.mono HBR.out.size)))
                      have HSC := Lib.hid (fun wx (hb : Below wr.heap.size wr wx) => scodeok_any u ks y wx (HKU.out wx hb) (by omega))
                      have HSI := Lib.hid (fun wx (hb : Below wr.heap.size wr wx) => scodei_any (.slice (some ⟨g, off, none⟩) bu.length cb) bu u (ks, y) wx (HAV.out wx (HBR.out.trans (hb.mono HBR.out.size))) (HKU.out wx hb) (by omega) (fun z hz => by have := HXX.out z hz; omega) (by dsimp only; omega))
                      have HLT : w.heap.size < wr.heap.size := (Array.getElem?_eq_some_iff.1 HXR.out).1
                      obtain ⟨⟨x0, x1, x2, x3, x4, x5, x6⟩, -⟩ := row7_of HXR.out
                      obtain ⟨au, cu, rfl, -, -⟩ := c3
                      have LB : ∀ w', Below wr.heap.size wr w' → (loadVar 25 ⟨w.heap.size, 5, none⟩).run Try.prog w' = .ok (.slice (some ⟨g, off, none⟩) bu.length cb) w' := fun w' hb => ld_cds ((hb.cell (p := ⟨w.heap.size, 5, none⟩) HLT).trans x5)
                      have LC : ∀ w', Below wr.heap.size wr w' → (loadVar 42 ⟨g, off + k * 2, none⟩).run Try.prog w' = .ok (.agg #[.slice au ks.length cu, .string y]) w' := fun w' hb => cd_mid (((HBR.out.trans (hb.mono HBR.out.size)).cell (p := ⟨g, off + k * 2, none⟩) hg).trans c1) (((HBR.out.trans (hb.mono HBR.out.size)).cell (p := ⟨g, off + k * 2 + 1, none⟩) hg).trans c2)
                      have LK : ∀ w', Below wr.heap.size wr w' → (loadVar 40 ⟨g, off + k * 2, none⟩).run Try.prog w' = .ok (.slice au ks.length cu) w' := fun w' hb => ld_kys (((HBR.out.trans (hb.mono HBR.out.size)).cell (p := ⟨g, off + k * 2, none⟩) hg).trans c1)
                      clear c1 c2
                      cases hc : codeOkB (ks, y) with
                      | false =>
                        have HCV := Lib.hid hc
                        have HF := Lib.hid (HBAD.out (by rw [HST.out, tellB, hc]; rfl))
                        clear hc
                        go_wp2
                        clear x0 x1 x2 x3 x4 x5 x6
                        refine wp_region_below wr (by kernel_rfl) (by kernel_rfl) (Below.refl _ _) ?_
                        repeat (first
                          | go_big_quiet_skip
                          | (go_big_quiet_want
                             first
                               | (refine q_load 25 _ ⟨w.heap.size, 5, none⟩ _ rfl rfl LB ?_; simp only [Act.put, List.setIfInBounds_toArray, List.set_cons_zero, List.set_cons_succ]; go_big_quiet_on)
                               | (refine q_load 42 _ ⟨g, off + k * 2, none⟩ _ rfl rfl LC ?_; simp only [Act.put, List.setIfInBounds_toArray, List.set_cons_zero, List.set_cons_succ]; go_big_quiet_on)
                               | (refine q_load 40 _ ⟨g, off + k * 2, none⟩ _ rfl rfl LK ?_; simp only [Act.put, List.setIfInBounds_toArray, List.set_cons_zero, List.set_cons_succ]; go_big_quiet_on)
                               | (go_big_quiet_op; go_big_quiet_on)
                               | (go_big_quiet_op; refine ⟨_, fun _ _ => rfl, ?_⟩; go_big_quiet_on)
                               | (go_big_quiet_op; apply Exists.intro; refine ⟨fun w' hw' => ?_, ?_⟩
                                  · first
                                    | (with_reducible refine (HSC.out w' hw').mono ?_
                                       rintro e w2 ⟨rfl, hb2⟩
                                       exact ⟨by rw [HCV.out], hw'.trans (hb2.mono hw'.size)⟩)
                                  go_big_quiet_on)
                               | (go_big_quiet_op; refine ⟨_, fun _ _ _ => rfl, ?_⟩; go_big_quiet_on)))
                        refine wpQuiet_nil ?_
                        intro w5 hb5
                        clear LB LC LK HLT
                        go_wp2
                        go_ret
                        exact ⟨by rw [HF.out]; rfl, HBR.out.trans (hb5.mono HBR.out.size)⟩
                      | true =>
                        have HCV := Lib.hid hc
                        by_cases hk0 : ks.length = 0
                        · have i0 : (ks.length : Int) = 0 := by omega
                          have i1 : ((ks.length : Int) == 0) = true := by simp [hk0]
                          have HF := Lib.hid (HBAD.out (by rw [HST.out, tellB]; simp [hk0]))
                          clear hc HST
                          generalize ks.length = nk at *
                          subst hk0
                          go_wp2
                          clear x0 x1 x2 x3 x4 x5 x6
                          refine wp_region_below wr (by kernel_rfl) (by kernel_rfl) (Below.refl _ _) ?_
                          repeat (first
                            | go_big_quiet_skip
                            | (go_big_quiet_want
                               first
                                 | (refine q_load 25 _ ⟨w.heap.size, 5, none⟩ _ rfl rfl LB ?_; simp only [Act.put, List.setIfInBounds_toArray, List.set_cons_zero, List.set_cons_succ]; go_big_quiet_on)
                                 | (refine q_load 42 _ ⟨g, off + k * 2, none⟩ _ rfl rfl LC ?_; simp only [Act.put, List.setIfInBounds_toArray, List.set_cons_zero, List.set_cons_succ]; go_big_quiet_on)
                                 | (refine q_load 40 _ ⟨g, off + k * 2, none⟩ _ rfl rfl LK ?_; simp only [Act.put, List.setIfInBounds_toArray, List.set_cons_zero, List.set_cons_succ]; go_big_quiet_on)
                                 | (go_big_quiet_op; go_big_quiet_on)
                                 | (go_big_quiet_op; refine ⟨_, fun _ _ => rfl, ?_⟩; go_big_quiet_on)
                                 | (go_big_quiet_op; apply Exists.intro; refine ⟨fun w' hw' => ?_, ?_⟩
                                    · first
                                      | (with_reducible refine (HSC.out w' hw').mono ?_
                                         rintro e w2 ⟨rfl, hb2⟩
                                         exact ⟨by rw [HCV.out], hw'.trans (hb2.mono hw'.size)⟩)
                                    go_big_quiet_on)
                                 | (go_big_quiet_op; refine ⟨_, fun _ _ _ => rfl, ?_⟩; go_big_quiet_on)))
                          refine wpQuiet_nil ?_
                          intro w5 hb5
                          clear LB LC LK HLT
                          go_wp2
                          go_ret
                          exact ⟨by rw [HF.out]; rfl, HBR.out.trans (hb5.mono HBR.out.size)⟩
                        · have i0 : ¬ (ks.length : Int) = 0 := by omega
                          have i1 : ((ks.length : Int) == 0) = false := by simp; exact fun e => hk0 (by simp [e])
                          have tl : tellB (ks, y) = true := by rw [tellB, hc, decide_eq_true (by dsimp only; omega)]; rfl
                          by_cases hci : codeI bu (ks, y) = some k
                          · have HCI := Lib.hid (show plI (codeI bu (ks, y)) = (k : Int) by rw [hci]; rfl)
                            have HN := Lib.hid (HNX.out (by rw [HST.out, tl, decide_eq_true hci]; rfl))
                            have j0 : ((k : Int) != (k : Int)) = false := by simp
                            clear hc hci tl
                            go_wp2
                            clear x0 x1 x2 x3 x4 x5 x6
                            refine wp_region_below wr (by kernel_rfl) (by kernel_rfl) (Below.refl _ _) ?_
                            repeat (first
                              | go_big_quiet_skip
                              | (go_big_quiet_want
                                 first
                                   | (refine q_load 25 _ ⟨w.heap.size, 5, none⟩ _ rfl rfl LB ?_; simp only [Act.put, List.setIfInBounds_toArray, List.set_cons_zero, List.set_cons_succ]; go_big_quiet_on)
                                   | (refine q_load 42 _ ⟨g, off + k * 2, none⟩ _ rfl rfl LC ?_; simp only [Act.put, List.setIfInBounds_toArray, List.set_cons_zero, List.set_cons_succ]; go_big_quiet_on)
                                   | (refine q_load 40 _ ⟨g, off + k * 2, none⟩ _ rfl rfl LK ?_; simp only [Act.put, List.setIfInBounds_toArray, List.set_cons_zero, List.set_cons_succ]; go_big_quiet_on)
                                   | (go_big_quiet_op; go_big_quiet_on)
                                   | (go_big_quiet_op; refine ⟨_, fun _ _ => rfl, ?_⟩; go_big_quiet_on)
                                   | (go_big_quiet_op; apply Exists.intro; refine ⟨fun w' hw' => ?_, ?_⟩
                                      · first
                                        | (with_reducible refine (HSC.out w' hw').mono ?_
                                           rintro e w2 ⟨rfl, hb2⟩
                                           exact ⟨by rw [HCV.out], hw'.trans (hb2.mono hw'.size)⟩)
                                        | (with_reducible refine (HSI.out w' hw').mono ?_
                                           rintro e w2 ⟨rfl, hb2⟩
                                           exact ⟨by rw [HCI.out], hw'.trans (hb2.mono hw'.size)⟩)
                                      go_big_quiet_on)
                                   | (go_big_quiet_op; refine ⟨_, fun _ _ _ => rfl, ?_⟩; go_big_quiet_on)))
                            refine wpQuiet_nil ?_
                            intro w5 hb5
                            clear LB LC LK HLT
                            go_wp2
                            exact ⟨⟨k + 1, _, rfl, by omega, by go_num, HN.out, HB9.out.trans (hb5.mono HB9.out.size)⟩, by simp [intOf]; omega⟩
                          · have HCI := Lib.hid (show ((plI (codeI bu (ks, y))) != (k : Int)) = true by
                              cases h : codeI bu (ks, y) with
                              | none => simp [plI]
                              | some i =>
                                have hne : i ≠ k := fun e => hci (by rw [h, e])
                                simp [plI]
                                first | exact hne | omega)
                            have HF := Lib.hid (HBAD.out (by rw [HST.out, decide_eq_false hci]; simp))
                            have j0 := HCI.out
                            generalize plI (codeI bu (ks, y)) = pl at *
                            clear hc hci tl
                            go_wp2
                            clear x0 x1 x2 x3 x4 x5 x6
                            refine wp_region_below wr (by kernel_rfl) (by kernel_rfl) (Below.refl _ _) ?_
                            repeat (first
                              | go_big_quiet_skip
                              | (go_big_quiet_want
                                 first
                                   | (refine q_load 25 _ ⟨w.heap.size, 5, none⟩ _ rfl rfl LB ?_; simp only [Act.put, List.setIfInBounds_toArray, List.set_cons_zero, List.set_cons_succ]; go_big_quiet_on)
                                   | (refine q_load 42 _ ⟨g, off + k * 2, none⟩ _ rfl rfl LC ?_; simp only [Act.put, List.setIfInBounds_toArray, List.set_cons_zero, List.set_cons_succ]; go_big_quiet_on)
                                   | (refine q_load 40 _ ⟨g, off + k * 2, none⟩ _ rfl rfl LK ?_; simp only [Act.put, List.setIfInBounds_toArray, List.set_cons_zero, List.set_cons_succ]; go_big_quiet_on)
                                   | (go_big_quiet_op; go_big_quiet_on)
                                   | (go_big_quiet_op; refine ⟨_, fun _ _ => rfl, ?_⟩; go_big_quiet_on)
                                   | (go_big_quiet_op; apply Exists.intro; refine ⟨fun w' hw' => ?_, ?_⟩
                                      · first
                                        | (with_reducible refine (HSC.out w' hw').mono ?_
                                           rintro e w2 ⟨rfl, hb2⟩
                                           exact ⟨by rw [HCV.out], hw'.trans (hb2.mono hw'.size)⟩)
                                        | (with_reducible refine (HSI.out w' hw').mono ?_
                                           rintro e w2 ⟨rfl, hb2⟩
                                           exact ⟨rfl, hw'.trans (hb2.mono hw'.size)⟩)
                                      go_big_quiet_on)
                                   | (go_big_quiet_op; refine ⟨_, fun _ _ _ => rfl, ?_⟩; go_big_quiet_on)))
                            refine wpQuiet_nil ?_
                            intro w5 hb5
                            clear LB LC LK HLT
                            go_wp2
                            go_ret
                            exact ⟨by rw [HF.out]; rfl, HBR.out.trans (hb5.mono HBR.out.size)⟩
                    · obtain rfl : k = bu.length := by omega
                      have HF := Lib.hid (HALL.out hall)
                      clear hall
                      obtain ⟨⟨x0, x1, x2, x3, x4, x5, x6⟩, -⟩ := row7_of HXR.out
                      go_wp2
                      go_ret
                      exact ⟨by rw [HF.out]; rfl, HBR.out⟩
            · have i0 : ((ow.length : Int) != 1) = true := by simp; omega
              have i1 : ¬ (ow.length : Int) = 1 := by omega
              rw [decide_eq_false ho] at hob
              have HF := Lib.hid (show bb = false by rw [HS.out, hob]; rfl)
              go_wp2
              go_ret
              exact ⟨by rw [HF.out]; rfl, HB2.out⟩
end Go.Proofs.Ytjggheoonjajpaa
namespace Go.Proofs.Ytjggheoonjajpaa
open Go.ChangeShapes Go.WideShapes Go.ChangeAt Go.RowKit Go.BigFrame
set_option linter.unusedVariables false
set_option linter.unusedSimpArgs false

set_option maxRecDepth 100000 in
set_option maxHeartbeats 1000000 in
theorem snewstation_any (n m : Int) (w : World) : Calls Try.prog 27 #[.int .i64 n, .int .i64 m] w fun e w' => e = .returned (saV (newStM n m) (.slice none 0 0) (.slice none 0 0) (.slice none 0 0)) ∧ Below w.heap.size w w' := by
  have hb0 := (Below.refl w.heap.size w).alloc (Nat.le_refl _) (.cells #[.int .i64 0, .bool false, .int .i64 0, .int .i64 0, .slice none 0 0, .slice none 0 0, .slice none 0 0] 28)
  have hb1 := hb0.alloc hb0.size (.cells #[.int .i64 n, .bool true, .int .i64 0, .int .i64 m, .slice none 0 0, .slice none 0 0, .slice none 0 0] 28)
  have hx := heap_alloc_new (w.alloc (.cells #[.int .i64 0, .bool false, .int .i64 0, .int .i64 0, .slice none 0 0, .slice none 0 0, .slice none 0 0] 28)) (.cells #[.int .i64 n, .bool true, .int .i64 0, .int .i64 m, .slice none 0 0, .slice none 0 0, .slice none 0 0] 28)
  rw [show (w.alloc (.cells #[.int .i64 0, .bool false, .int .i64 0, .int .i64 0, .slice none 0 0, .slice none 0 0, .slice none 0 0] 28)).heap.size = w.heap.size + 1 by simp] at hx
  have HX := Lib.hid hx
  have HR := Lib.hid (heap_first w (.cells #[.int .i64 n, .bool true, .int .i64 0, .int .i64 m, .slice none 0 0, .slice none 0 0, .slice none 0 0] 28) (.cells #[.int .i64 0, .bool false, .int .i64 0, .int .i64 0, .slice none 0 0, .slice none 0 0, .slice none 0 0] 28))
  have HB := Lib.hid hb1
  have HS := Lib.hid (fun wx => sstationok_any ⟨n, true, 0, m, [], [], []⟩ (.slice none 0 0) (.slice none 0 0) (.slice none 0 0) wx ⟨⟨none, 0, rfl, Nat.le_refl _, .inl rfl⟩, ⟨none, 0, rfl, Nat.le_refl _, .inl rfl⟩, inAt_nil wx⟩ (by simp) (fun x hx => by cases hx) (by simp))
  have hm := newSt_ok n m
  unfold saV at HS
  dsimp only at HS
  clear hb0 hb1 hx
  go_enter Try.func27, Try.ntmps27
  go_upto_region 2 with (fail)
  generalize (w.alloc (.cells #[.int .i64 0, .bool false, .int .i64 0, .int .i64 0, .slice none 0 0, .slice none 0 0, .slice none 0 0] 28)).alloc (.cells #[.int .i64 n, .bool true, .int .i64 0, .int .i64 m, .slice none 0 0, .slice none 0 0, .slice none 0 0] 28) = W at *
  obtain ⟨⟨x0, x1, x2, x3, x4, x5, x6⟩, -⟩ := row7_of HX.out
  go_wp2_with fail
  refine (HS.out _).mono ?_
  rintro e w2 ⟨rfl, hb2⟩
  rw [hm]
  have hr2 := (hb2.block _ (Array.getElem?_eq_some_iff.1 HR.out).1).trans HR.out
  have hx2 := (hb2.block _ (Array.getElem?_eq_some_iff.1 HX.out).1).trans HX.out
  have HB2 := Lib.hid (HB.out.trans (hb2.mono HB.out.size))
  have HN := Lib.hid (show newStM n m = if idB n = true ∧ 1 ≤ m ∧ m ≤ 6 then ⟨n, true, 0, m, [], [], []⟩ else noStn from rfl)
  clear x0 x1 x2 x3 x4 x5 x6 hb2 hm HS
  obtain ⟨⟨x0, x1, x2, x3, x4, x5, x6⟩, -⟩ := row7_of hx2
  obtain ⟨⟨y0, y1, y2, y3, y4, y5, y6⟩, f0, f1, f2, f3, f4, f5, f6⟩ := row7_of hr2
  by_cases hn : idB n = true ∧ 1 ≤ m ∧ m ≤ 6
  · rw [decide_eq_true hn]
    have HFV := Lib.hid (show newStM n m = ⟨n, true, 0, m, [], [], []⟩ by rw [HN.out, if_pos hn])
    clear hn HN
    have HF := Lib.hid (sa_set hr2 (.int .i64 n) (.bool true) (.int .i64 0) (.int .i64 m) (.slice none 0 0) (.slice none 0 0) (.slice none 0 0))
    have HBF := Lib.hid (sa_setB HB2.out (Nat.le_refl _) (.int .i64 n) (.bool true) (.int .i64 0) (.int .i64 m) (.slice none 0 0) (.slice none 0 0) (.slice none 0 0))
    clear hr2 hx2
    go_wp2
    refine bodyPost_ret (v := saV ⟨n, true, 0, m, [], [], []⟩ (.slice none 0 0) (.slice none 0 0) (.slice none 0 0)) ?_ rfl ⟨by rw [HFV.out], HBF.out⟩
    rw [results_cell (p := 4) (ty := 28) (by kernel_rfl)]
    have l2 := sa_load HF.out
    simp [asAddr, Result.andThen, l2, saV]
  · rw [decide_eq_false hn]
    have HFV := Lib.hid (show newStM n m = noStn by rw [HN.out, if_neg hn])
    clear hn HN
    have HF := Lib.hid (sa_set hr2 (.int .i64 0) (.bool false) (.int .i64 0) (.int .i64 0) (.slice none 0 0) (.slice none 0 0) (.slice none 0 0))
    have HBF := Lib.hid (sa_setB HB2.out (Nat.le_refl _) (.int .i64 0) (.bool false) (.int .i64 0) (.int .i64 0) (.slice none 0 0) (.slice none 0 0) (.slice none 0 0))
    clear hr2 hx2
    go_wp2
    refine bodyPost_ret (v := saV noStn (.slice none 0 0) (.slice none 0 0) (.slice none 0 0)) ?_ rfl ⟨by rw [HFV.out], HBF.out⟩
    rw [results_cell (p := 4) (ty := 28) (by kernel_rfl)]
    have l2 := sa_load HF.out
    simp [asAddr, Result.andThen, l2, saV, noStn]
end Go.Proofs.Ytjggheoonjajpaa
namespace Go.Proofs.Ytjggheoonjajpaa
open Go.ChangeShapes Go.WideShapes Go.ChangeAt Go.RowKit Go.BigFrame Go.Maps
set_option linter.unusedVariables false
set_option linter.unusedSimpArgs false

/-- all old blocks are as they were, but those of X -/
structure KeepX (X : Nat → Prop) (w w' : World) : Prop where
  os : w'.os = w.os
  tape : w'.tape = w.tape
  output : w'.output = w.output
  size : w.heap.size ≤ w'.heap.size
  block : ∀ k, k < w.heap.size → ¬ X k → w'.heap[k]? = w.heap[k]?
theorem KeepX.refl (X : Nat → Prop) (w : World) : KeepX X w w := ⟨rfl, rfl, rfl, Nat.le_refl _, fun _ _ _ => rfl⟩
theorem KeepX.trans {X : Nat → Prop} {a b c : World} (h : KeepX X a b) (k : KeepX X b c) : KeepX X a c :=
  ⟨k.os.trans h.os, k.tape.trans h.tape, k.output.trans h.output, Nat.le_trans h.size k.size, fun j hj hx => (k.block j (Nat.lt_of_lt_of_le hj h.size) hx).trans (h.block j hj hx)⟩
theorem KeepX.below {X : Nat → Prop} {a b : World} (h : Below a.heap.size a b) : KeepX X a b := ⟨h.os, h.tape, h.output, h.size, fun k hk _ => h.block k hk⟩
theorem KeepX.grown {X : Nat → Prop} {a b : World} {row : Option Nat} (h : a.grownBy b row) (hx : ∀ k, row = some k → X k) : KeepX X a b := ⟨h.os, h.tape, h.output, h.size, fun k hk hn => h.block k hk (fun e => hn (hx k e.symm))⟩
/-- new blocks, and blocks of X that are not old for base -/
theorem KeepX.set {X : Nat → Prop} {a b : World} (h : KeepX X a b) (k i : Nat) (v : Value) (hx : X k) : KeepX X a (b.setCell ⟨k, i, none⟩ v) := h.trans (KeepX.grown (Lib.grownBy_setCell b k i v) (fun j e => Option.some.inj e ▸ hx))
theorem KeepX.toBelow {X : Nat → Prop} {B : Nat} {w0 a b : World} (h : KeepX X a b) (h0 : Below B w0 a) (hB : B ≤ a.heap.size) (hx : ∀ k, X k → B ≤ k) : Below B w0 b :=
  ⟨h.os.trans h0.os, h.tape.trans h0.tape, h.output.trans h0.output, Nat.le_trans h0.size h.size, fun k hk => (h.block k (Nat.lt_of_lt_of_le hk hB) (fun x => by have := hx k x; omega)).trans (h0.block k hk)⟩
theorem own_block {w w' : World} {base n : Nat} {e : TypeId} {size : Nat} {v : Value} {xs : List Value} (h : w.ownsRow base e size v n xs) (hb : ∀ g, v.ownBlock = some g → w'.heap[g]? = w.heap[g]?) : w'.ownsRow base e size v n xs := by
  refine ⟨h.1, ?_⟩
  rcases h.2 with h1 | ⟨g, cap, cur, rfl, h2, h3, h4, h5, h6⟩
  · exact .inl h1
  · exact .inr ⟨g, cap, cur, rfl, h2, (hb g rfl).trans h3, h4, h5, h6⟩
theorem KeepX.own {X : Nat → Prop} {w w' : World} (h : KeepX X w w') {base n : Nat} {e : TypeId} {size : Nat} {v : Value} {xs : List Value} (ho : w.ownsRow base e size v n xs) (hx : ∀ g, v.ownBlock = some g → ¬ X g) : w'.ownsRow base e size v n xs :=
  own_block ho fun g hg => h.block g (ho.lt g hg).2 (hx g hg)
theorem KeepX.row {X : Nat → Prop} {w w' : World} (h : KeepX X w w') {b : Nat} {o : Obj} (hr : w.heap[b]? = some o) (hx : ¬ X b) : w'.heap[b]? = some o := (h.block b (Array.getElem?_eq_some_iff.1 hr).1 hx).trans hr
/-- words of one's own, each with keys of its own -/
structure CdD (w : World) (base : Nat) (v : Value) (us : List Value) (L : List C2) : Prop where
  len : us.length = L.length
  own : w.ownsRow base 42 2 v L.length (cdCells us L)
  keys : ∀ i, i < L.length → w.ownsRow base 36 2 (us.getD i undef) (L.getD i blankC).1.length (keyCells (L.getD i blankC).1)
  ne : ∀ i, i < L.length → ∀ b, (us.getD i undef).ownBlock = some b → v.ownBlock ≠ some b
  dist : ∀ i j, i < j → j < L.length → ∀ b, (us.getD j undef).ownBlock = some b → (us.getD i undef).ownBlock ≠ some b
theorem keysAv_ne {w : World} {base : Nat} {v : Value} {ks : List K2} {b : Option Nat} (h : w.ownsRow base 36 2 v ks.length (keyCells ks)) (hb : ∀ g, v.ownBlock = some g → b ≠ some g) : keysAv w b v ks := by
  rcases h.2 with ⟨rfl, h0⟩ | ⟨g, cap, cur, rfl, hbg, hg, hn, hm, hs, ht⟩
  · exact ⟨none, 0, by rw [h0], by omega, .inl h0⟩
  · refine ⟨_, cap, rfl, hn, .inr ⟨g, 0, rfl, (Array.getElem?_eq_some_iff.1 hg).1, fun e => hb g rfl e.symm, fun i hi => ?_⟩⟩
    have hc := keyCells_get ks i hi
    rw [Nat.zero_add, h.cellAt (i * 2) (by omega), h.cellAt (i * 2 + 1) (by omega)]
    exact hc
theorem CdD.cd {w : World} {base : Nat} {v : Value} {us : List Value} {L : List C2} (h : CdD w base v us L) : cdOwn w base v us L := ⟨h.len, h.own, fun i hi => keysAv_ne (h.keys i hi) (h.ne i hi)⟩
theorem CdD.at {w : World} {base : Nat} {v : Value} {us : List Value} {L : List C2} (h : CdD w base v us L) : cdAv w none v L := cdAv_any h.cd.to
theorem CdD.base {w : World} {base base' : Nat} {v : Value} {us : List Value} {L : List C2} (h : CdD w base v us L) (hb : base' ≤ base) : CdD w base' v us L :=
  ⟨h.len, own_base h.own hb, fun i hi => own_base (h.keys i hi) hb, h.ne, h.dist⟩
theorem CdD.keep {X : Nat → Prop} {w w' : World} {base : Nat} {v : Value} {us : List Value} {L : List C2} (h : CdD w base v us L) (hk : KeepX X w w') (h1 : ∀ g, v.ownBlock = some g → ¬ X g) (h2 : ∀ i, i < L.length → ∀ g, (us.getD i undef).ownBlock = some g → ¬ X g) : CdD w' base v us L :=
  ⟨h.len, hk.own h.own h1, fun i hi => hk.own (h.keys i hi) (h2 i hi), h.ne, h.dist⟩
theorem CdD.below {w w' : World} {base : Nat} {v : Value} {us : List Value} {L : List C2} (h : CdD w base v us L) (hb : Below w.heap.size w w') : CdD w' base v us L :=
  h.keep (KeepX.below (X := fun _ => False) hb) (fun _ _ h => h) (fun _ _ _ _ h => h)
theorem getD_app {A : Type} (d : A) (a b : List A) (i : Nat) : (a ++ b).getD i d = if i < a.length then a.getD i d else b.getD (i - a.length) d := by
  split
  · rename_i h; simp only [List.getD]; rw [List.getElem?_append_left h]
  · rename_i h; simp only [List.getD]; rw [List.getElem?_append_right (by omega)]
/-- a word more, behind -/
theorem CdD.push {w : World} {base : Nat} {v : Value} {us : List Value} {L : List C2} (h : CdD w base v us L) (g0 c0 : Nat) (u : Value) (x : C2) (ty : TypeId) (hrow : w.heap[g0]? = some (.cells #[u, .string x.2] 42 (0, 0)))
    (hu : w.ownsRow base 36 2 u x.1.length (keyCells x.1)) (hne : ∀ b, u.ownBlock = some b → v.ownBlock ≠ some b) (hdist : ∀ i, i < L.length → ∀ b, u.ownBlock = some b → (us.getD i undef).ownBlock ≠ some b)
    (hn : L.length ≤ 1000000) (hbase : base ≤ w.heap.size) :
    ∃ v' w', (Builtin.append_ #[25, 25] ty #[v, .slice (some ⟨g0, 0, none⟩) 1 c0]).run Try.prog w = .ok v' w' ∧ CdD w' base v' (us ++ [u]) (L ++ [x]) ∧ w.grownBy w' v.ownBlock ∧ (v'.ownBlock = v.ownBlock ∨ v'.ownBlock = some w.heap.size) := by
  obtain ⟨i0, hi, hz0, hz1, hz2⟩ := info_parts infoC
  obtain ⟨ua, un, uc, rfl⟩ := own_shape hu
  obtain ⟨v', w', hr, h2, h3, h4, h5⟩ := run_append_own_at (P := Try.prog) w base 25 ty 42 i0 (.agg #[.slice none 0 0, .string ⟨#[]⟩]) 2 40 Try.underlying25 hi hz0 hz1 hz2 rfl (by decide) v L.length (cdCells us L) h.own ⟨g0, 0, none⟩ 1 c0 (cdCells [.slice ua un uc] [x]) rfl
    (fun j q hj => by
      have hadd : (⟨g0, 0, none⟩ : Addr).add j = ⟨g0, j, none⟩ := by unfold Addr.add; split <;> simp_all
      rw [hadd, cell_of_row _ _ _ _ _ _ hrow]; simpa [cdCells] using hj) (cdCells_one [.slice ua un uc] [x] (fun q hq => by rw [List.mem_singleton.1 hq]; exact ⟨_, _, _, rfl⟩)) (by unfold maxLen; omega) (by omega) hbase
  have hl1 : (L ++ [x]).length = L.length + 1 := by simp
  refine ⟨v', w', hr, ⟨by simp [h.len], by rw [hl1, cdCells_app _ _ _ _ h.len]; exact h2, fun i hi => ?_, fun i hi b hb => ?_, fun i j hij hj b hb => ?_⟩, h3, h5⟩
  · rw [hl1] at hi
    rw [getD_app, getD_app, h.len]
    by_cases hlt : i < L.length
    · rw [if_pos hlt, if_pos hlt]
      refine (h.keys i hlt).kept h3 ?_
      cases hv : (us.getD i undef).ownBlock with
      | none => exact .inl rfl
      | some b => exact .inr fun e => h.ne i hlt b hv e.symm
    · obtain rfl : i = L.length := by omega
      rw [if_neg hlt, if_neg hlt, Nat.sub_self]
      have hd : (Value.slice ua un uc).ownBlock = none ∨ (Value.slice ua un uc).ownBlock ≠ v.ownBlock := by
        cases hv : (Value.slice ua un uc).ownBlock with
        | none => exact .inl rfl
        | some b => exact .inr fun e => hne b hv e.symm
      exact World.ownsRow.kept hu h3 hd
  · rw [hl1] at hi
    rw [getD_app, h.len] at hb
    have hold : v.ownBlock ≠ some b ∧ b < w.heap.size := by
      by_cases hlt : i < L.length
      · rw [if_pos hlt] at hb; exact ⟨h.ne i hlt b hb, ((h.keys i hlt).lt b hb).2⟩
      · obtain rfl : i = L.length := by omega
        rw [if_neg hlt, Nat.sub_self] at hb
        exact ⟨hne b hb, (hu.lt b hb).2⟩
    rcases h5 with e | e
    · rw [e]; exact hold.1
    · rw [e]; intro e2; have := Option.some.inj e2; omega
  · rw [hl1] at hj
    rw [getD_app, h.len] at hb ⊢
    rw [if_pos (by omega)]
    by_cases hlt : j < L.length
    · rw [if_pos hlt] at hb
      exact h.dist i j hij hlt b hb
    · obtain rfl : j = L.length := by omega
      rw [if_neg hlt, Nat.sub_self] at hb
      exact hdist i hij b hb
/-- the word at a place, written anew -/
theorem CdD.set {w : World} {base g cap : Nat} {us : List Value} {L : List C2} (h : CdD w base (.slice (some ⟨g, 0, none⟩) L.length cap) us L) {at' : Nat} (hat : at' < L.length) {u : Value} {x : C2} (hu : w.ownsRow base 36 2 u x.1.length (keyCells x.1))
    (hne : u.ownBlock ≠ some g) (hdist : ∀ i, i < L.length → ∀ b, u.ownBlock = some b → (us.getD i undef).ownBlock ≠ some b) :
    CdD ((w.setCell ⟨g, at' * 2, none⟩ u).setCell ⟨g, at' * 2 + 1, none⟩ (.string x.2)) base (.slice (some ⟨g, 0, none⟩) L.length cap) (us.set at' u) (L.set at' x) := by
  have st1 := h.own.stored (at' * 2) u
  have st2 := st1.1.stored (at' * 2 + 1) (.string x.2)
  rw [cdCells_set us L at' u x h.len] at st2
  have hgr : w.grownBy ((w.setCell ⟨g, at' * 2, none⟩ u).setCell ⟨g, at' * 2 + 1, none⟩ (.string x.2)) (some g) := grown_trans (Lib.grownBy_setCell w g (at' * 2) u) (Lib.grownBy_setCell _ g (at' * 2 + 1) (.string x.2))
  have hgu : ∀ i, (us.set at' u).getD i undef = if i = at' then u else us.getD i undef := fun i => by
    simp only [List.getD]
    by_cases e : i = at'
    · rw [if_pos e, e, List.getElem?_set_self (by rw [h.len]; exact hat)]; rfl
    · rw [if_neg e, List.getElem?_set_ne (fun e2 => e e2.symm)]
  have hgL : ∀ i, (L.set at' x).getD i blankC = if i = at' then x else L.getD i blankC := fun i => by
    simp only [List.getD]
    by_cases e : i = at'
    · rw [if_pos e, e, List.getElem?_set_self hat]; rfl
    · rw [if_neg e, List.getElem?_set_ne (fun e2 => e e2.symm)]
  have hk : ∀ (v : Value) (n : Nat) (xs : List Value), w.ownsRow base 36 2 v n xs → v.ownBlock ≠ some g → ((w.setCell ⟨g, at' * 2, none⟩ u).setCell ⟨g, at' * 2 + 1, none⟩ (.string x.2)).ownsRow base 36 2 v n xs := fun v n xs ho hn => ho.kept hgr (.inr hn)
  have hne' : ∀ i, i < L.length → (us.getD i undef).ownBlock ≠ some g := fun i hi e => h.ne i hi g e rfl
  refine ⟨by simp [h.len], by rw [List.length_set]; exact st2.1, fun i hi => ?_, fun i hi b hb => ?_, fun i j hij hj b hb => ?_⟩
  · rw [List.length_set] at hi
    rw [hgu, hgL]
    split
    · exact hk _ _ _ hu hne
    · exact hk _ _ _ (h.keys i hi) (hne' i hi)
  · rw [List.length_set] at hi
    rw [hgu] at hb
    split at hb
    · intro e; have : g = b := Option.some.inj e; exact hne (this ▸ hb)
    · exact h.ne i hi b hb
  · rw [List.length_set] at hj
    rw [hgu] at hb ⊢
    split at hb
    · rw [if_neg (by omega)]; exact hdist i (by omega) b hb
    · split
      · intro e; exact hdist j hj b e hb
      · exact h.dist i j hij hj b hb
end Go.Proofs.Ytjggheoonjajpaa
namespace Go.Proofs.Ytjggheoonjajpaa
open Go.ChangeShapes Go.WideShapes Go.ChangeAt Go.RowKit Go.BigFrame Go.Maps
set_option linter.unusedVariables false
set_option linter.unusedSimpArgs false

theorem wpList_append_cdd {ops : Array Oper} {rest : List Oper} {o : Oper} {a : Act} {w : World} {Q : Exit → Act → World → Prop} (hgd : o.guard = none) (s x : Operand)
    (ho : o.op = .call { callee := .builtin .append, args := #[s, x], argTypes := #[25, 25] })
    {base : Nat} {v : Value} {us : List Value} {L : List C2} (h0 : CdD w base v us L) (g0 c0 : Nat) (u : Value) (z : C2) (hrow : w.heap[g0]? = some (.cells #[u, .string z.2] 42 (0, 0)))
    (hu : w.ownsRow base 36 2 u z.1.length (keyCells z.1)) (hne : ∀ b, u.ownBlock = some b → v.ownBlock ≠ some b) (hdist : ∀ i, i < L.length → ∀ b, u.ownBlock = some b → (us.getD i undef).ownBlock ≠ some b)
    (hs : a.eval s = v) (hx : a.eval x = .slice (some ⟨g0, 0, none⟩) 1 c0) (hn : L.length ≤ 1000000) (hbase : base ≤ w.heap.size)
    (h : ∀ v' w', CdD w' base v' (us ++ [u]) (L ++ [z]) → w.grownBy w' v.ownBlock → (v'.ownBlock = v.ownBlock ∨ v'.ownBlock = some w.heap.size) → wpList Try.prog ops Q rest (a.put o.dst v') w') : wpList Try.prog ops Q (o :: rest) a w := by
  refine wpList_plain hgd fun K hK => ?_
  obtain ⟨v', w', hr, h2, h3, h5⟩ := h0.push g0 c0 u z o.type hrow hu hne hdist hn hbase
  unfold Oper.wp execOp
  simp only [ho, resolve, invoke, builtin, Sem.run_bind, Sem.run_pure, Result.andThen_ok, List.map_toArray, List.map_cons, List.map_nil, hs, hx, hr]
  exact hK _ _ (h v' w' h2 h3 h5)
end Go.Proofs.Ytjggheoonjajpaa
namespace Go.Proofs.Ytjggheoonjajpaa
open Go.ChangeShapes Go.WideShapes Go.ChangeAt Go.RowKit Go.BigFrame Go.Maps
set_option linter.unusedVariables false
set_option linter.unusedSimpArgs false

theorem cds_take_snoc' (L : List C2) (k : Nat) (h : k < L.length) : L.take (k + 1) = L.take k ++ [L.getD k blankC] := by
  rw [List.take_succ_eq_append_getElem h]
  simp [List.getD, h]
/-- the loop of copied words -/
structure CqI (w W : World) (n0 k : Nat) (Wd : List C2) (v : Value) (us : List Value) : Prop where
  below : Below n0 w W
  cd : CdD W n0 v us (Wd.take k)
set_option maxRecDepth 100000 in
set_option maxHeartbeats 4000000 in
theorem icopycodes_any (v : Value) (Wd : List C2) (w : World) (hw : cdAv w none v Wd) (hsw : Wd.length ≤ 1000000) (hxw : ∀ x ∈ Wd, x.1.length ≤ 1000000 ∧ x.2.size ≤ 2000000) :
    Calls Try.prog 104 #[v] w fun e w' => ∃ v' us', e = .returned v' ∧ CdD w' w.heap.size v' us' Wd ∧ Below w.heap.size w w' := by
  have HCW := Lib.hid (fun wx u (x : C2) (hx : x ∈ Wd) (hu : keysAt wx u x.1) => icopy_any u x.1 x.2 wx hu (by have := (hxw x hx).1; omega) (hxw x hx).2)
  obtain ⟨i0, hi, hz0, hz1, hz2⟩ := info_parts infoC
  obtain ⟨aw, cw, rfl, hcap, hcells⟩ := hw
  obtain ⟨W0, hmk, hown0, hgr0⟩ := run_make_own (P := Try.prog) w w.heap.size 25 42 i0 (.agg #[.slice none 0 0, .string ⟨#[]⟩]) 2 Try.underlying25 hi hz0 hz1 .i64 .i64 Wd.length (by rw [hz2]; omega) (by unfold maxLen; omega) (Nat.le_refl _)
  have hb9 : Below w.heap.size w W0 := (Below.refl w.heap.size w).grown hgr0 (Nat.le_refl _) (fun k e => by cases e)
  have HI := Lib.hid (show CqI w W0 w.heap.size 0 Wd (.slice (some ⟨w.heap.size, 0, none⟩) 0 Wd.length) [] from ⟨hb9, rfl, hown0, fun i hi => by simp at hi, fun i hi => by simp at hi, fun i j _ hj => by simp at hj⟩)
  clear hgr0 hown0 hxw
  go_enter Try.func104, Try.ntmps104
  go_upto_region 2 with (fail)
  clear hmk hb9
  go_wp2_with fail
  go_loopw [3, 11] (fun v i wr => ∃ (k : Nat) (us' : List Value), k ≤ Wd.length ∧ i = .int .i64 k ∧ CqI w wr w.heap.size k Wd v us') (fun _ i _ => Wd.length - (intOf i).toNat)
  case atStart => exact ⟨0, [], Nat.zero_le _, rfl, HI.out⟩
  case round =>
    clear HI
    obtain ⟨k, us', hkl, rfl, hJ⟩ := hrel
    rename_i wr
    obtain ⟨av, nv, cv, rfl⟩ := own_shape hJ.cd.own
    obtain rfl : k = nv := by have h9 := own_lenS hJ.cd.own; rw [List.length_take] at h9; omega
    have HJ := Lib.hid hJ
    clear hJ
    by_cases hlt : k < Wd.length
    · obtain ⟨g, off, rfl, hg, hcs⟩ := hcells.resolve_left (by omega)
      have z0 : (0 : Int) ≤ (k : Int) := by omega
      have z1 : (k : Int) < (Wd.length : Int) := by omega
      obtain ⟨u, c1, c2, c3⟩ := hcs k hlt
      have C1 := (HJ.out.below.cell (p := ⟨g, off + k * 2, none⟩) hg).trans c1
      have C2 := (HJ.out.below.cell (p := ⟨g, off + k * 2 + 1, none⟩) hg).trans c2
      have HTS := Lib.hid (cds_take_snoc' Wd k hlt)
      have HCX := Lib.hid (fun wx (hb : Below w.heap.size w wx) => HCW.out wx u (Wd.getD k blankC) (by simp [List.getD, hlt]) ((c3.below hb).to))
      obtain ⟨au, cu, rfl, -, -⟩ := c3
      clear hcells hcs c1 c2
      have hll : (Wd.take k).length ≤ 1000000 := by rw [List.length_take]; omega
      generalize Wd.getD k blankC = x at *
      obtain ⟨xs, y⟩ := x
      dsimp only at *
      have hba := (Below.refl wr.heap.size wr).alloc (Nat.le_refl _) (.cells #[.slice au xs.length cu, .string y] 42)
      have HXB := Lib.hid (heap_alloc_new wr (.cells #[.slice au xs.length cu, .string y] 42))
      have HJ5 := Lib.hid (show CqI w (wr.alloc (.cells #[.slice au xs.length cu, .string y] 42)) w.heap.size k Wd _ us' from ⟨HJ.out.below.trans (hba.mono HJ.out.below.size), HJ.out.cd.below hba⟩)
      clear hba
      go_upto_region 5 with (fail)
      generalize wr.alloc (.cells #[.slice au xs.length cu, .string y] 42) = W5 at *
      clear C1 C2 HJ
      obtain ⟨y0, y1, -, -⟩ := row2_of HXB.out
      go_wp2_with fail
      refine (HCX.out _ HJ5.out.below).mono ?_
      rintro e w6 ⟨v6, rfl, hv6, hb6⟩
      obtain ⟨a6, n6, c6, rfl⟩ := own_shape hv6
      clear y0 y1
      have HJ6 := Lib.hid (show CqI w w6 w.heap.size k Wd _ us' from ⟨HJ5.out.below.trans (hb6.mono HJ5.out.below.size), HJ5.out.cd.below hb6⟩)
      have hb7 := (Below.refl w6.heap.size w6).alloc (Nat.le_refl _) (.cells #[.slice a6 n6 c6, .string y] 42)
      have HJ7 := Lib.hid (show CqI w (w6.alloc (.cells #[.slice a6 n6 c6, .string y] 42)) w.heap.size k Wd _ us' from ⟨HJ6.out.below.trans (hb7.mono HJ6.out.below.size), HJ6.out.cd.below hb7⟩)
      have HL7 := Lib.hid (heap_alloc_new w6 (.cells #[.slice a6 n6 c6, .string y] 42))
      have HV7 := Lib.hid (own_below (own_base hv6 HJ5.out.below.size) hb7)
      have hne7 : ∀ b, (Value.slice a6 n6 c6).ownBlock = some b → (Value.slice av k cv).ownBlock ≠ some b := fun b e e2 => by
        have h1 := (hv6.lt b e).1
        have h2 := (HJ5.out.cd.own.lt b e2).2
        omega
      have hdi7 : ∀ i, i < (Wd.take k).length → ∀ b, (Value.slice a6 n6 c6).ownBlock = some b → (us'.getD i undef).ownBlock ≠ some b := fun i hi b e e2 => by
        have h1 := (hv6.lt b e).1
        have h2 := ((HJ5.out.cd.keys i hi).lt b e2).2
        omega
      have hbs7 : w.heap.size ≤ (w6.alloc (.cells #[.slice a6 n6 c6, .string y] 42)).heap.size := HJ7.out.below.size
      clear hb7 hb6 hv6
      go_wp2_with (at_builtin; refine wpList_append_cdd rfl (.tmp 15) (.tmp 18) rfl HJ7.out.cd w6.heap.size 1 (.slice a6 n6 c6) (xs, y) HL7.out HV7.out hne7 hdi7 rfl rfl hll hbs7 ?_; intro v8 w8 hcd8 hg8 hl8)
      have HF := Lib.hid (show CqI w w8 w.heap.size (k + 1) Wd v8 (us' ++ [.slice a6 n6 c6]) from ⟨HJ7.out.below.grown hg8 HJ7.out.below.size (fun j e => (HJ7.out.cd.own.lt j e).1), by rw [HTS.out]; exact hcd8⟩)
      clear hcd8 hg8 hl8
      go_wp2
      exact ⟨⟨k + 1, _, by omega, by go_num, HF.out⟩, by simp [intOf]; omega⟩
    · obtain rfl : k = Wd.length := by omega
      have hcd := HJ.out.cd
      rw [List.take_length] at hcd
      have HCD := Lib.hid hcd
      clear hcells hcd
      go_wp2
      go_ret
      exact ⟨_, us', rfl, HCD.out, HJ.out.below⟩
end Go.Proofs.Ytjggheoonjajpaa
namespace Go.Proofs.Ytjggheoonjajpaa
open Go.ChangeShapes Go.WideShapes Go.ChangeAt Go.RowKit Go.BigFrame
set_option linter.unusedVariables false

structure CpAft (w w2 : World) (p q : Int) (y : ByteArray) : Prop where
  x0 : w2.cell? ⟨w.heap.size, 0, none⟩ = some (.int .i64 p)
  x1 : w2.cell? ⟨w.heap.size, 1, none⟩ = some (.int .i64 q)
  d0 : w2.cell? ⟨w.heap.size + 1, 0, none⟩ = some (.int .i64 0)
  d1 : w2.cell? ⟨w.heap.size + 1, 1, none⟩ = some (.int .i64 0)
  d2 : w2.cell? ⟨w.heap.size + 1, 2, none⟩ = some (.string ⟨#[]⟩)
  f0 : w2.frozen? ⟨w.heap.size + 1, 0, none⟩ = false
  f1 : w2.frozen? ⟨w.heap.size + 1, 1, none⟩ = false
  f2 : w2.frozen? ⟨w.heap.size + 1, 2, none⟩ = false
  row : w2.heap[w.heap.size + 1]? = some (.cells #[.int .i64 0, .int .i64 0, .string ⟨#[]⟩] 38)
  below : Below w.heap.size w w2
theorem cpAft (w : World) (p q : Int) (y : ByteArray) (w2 : World) (hb : Below (((w.alloc (.cells #[.int .i64 p, .int .i64 q, .string y] 38)).alloc (.cells #[.int .i64 0, .int .i64 0, .string ⟨#[]⟩] 38)).drew).heap.size (((w.alloc (.cells #[.int .i64 p, .int .i64 q, .string y] 38)).alloc (.cells #[.int .i64 0, .int .i64 0, .string ⟨#[]⟩] 38)).drew) w2) : CpAft w w2 p q y := by
  rw [show (((w.alloc (.cells #[.int .i64 p, .int .i64 q, .string y] 38)).alloc (.cells #[.int .i64 0, .int .i64 0, .string ⟨#[]⟩] 38)).drew).heap.size = w.heap.size + 1 + 1 by show ((w.alloc _).alloc _).heap.size = _; simp] at hb
  have h0 := heap_first w (.cells #[.int .i64 0, .int .i64 0, .string ⟨#[]⟩] 38) (.cells #[.int .i64 p, .int .i64 q, .string y] 38)
  have h1 : ((w.alloc (.cells #[.int .i64 p, .int .i64 q, .string y] 38)).alloc (.cells #[.int .i64 0, .int .i64 0, .string ⟨#[]⟩] 38)).heap[w.heap.size + 1]? = some (.cells #[.int .i64 0, .int .i64 0, .string ⟨#[]⟩] 38) := by
    have := heap_alloc_new (w.alloc (.cells #[.int .i64 p, .int .i64 q, .string y] 38)) (.cells #[.int .i64 0, .int .i64 0, .string ⟨#[]⟩] 38)
    simpa using this
  have hq1 := (hb.block w.heap.size (by omega)).trans h0
  have hq2 := (hb.block (w.heap.size + 1) (by omega)).trans h1
  have hq3 := ((((Below.refl w.heap.size w).alloc (Nat.le_refl _) (.cells #[.int .i64 p, .int .i64 q, .string y] 38)).alloc (by simp) (.cells #[.int .i64 0, .int .i64 0, .string ⟨#[]⟩] 38)).drew).trans (hb.mono (by omega))
  exact ⟨by rw [cell_of_row _ _ 0 _ _ _ hq1]; rfl, by rw [cell_of_row _ _ 1 _ _ _ hq1]; rfl, by rw [cell_of_row _ _ 0 _ _ _ hq2]; rfl, by rw [cell_of_row _ _ 1 _ _ _ hq2]; rfl, by rw [cell_of_row _ _ 2 _ _ _ hq2]; rfl, by simp [World.frozen?, hq2], by simp [World.frozen?, hq2], by simp [World.frozen?, hq2], hq2, hq3⟩
set_option maxRecDepth 100000 in
set_option maxHeartbeats 1000000 in
theorem icopyrd_any (r : R3) (w : World) (hy : r.2.size ≤ 2000000) : Calls Try.prog 105 #[rv r] w fun e w' => e = .returned (rv r) ∧ Below w.heap.size w w' := by
  obtain ⟨⟨p, q⟩, y⟩ := r
  unfold rv
  dsimp only at *
  have HC := Lib.hid (fun w => cloneR_any y w hy)
  have AFT := Lib.hid (cpAft w p q y)
  go_enter Try.func105, Try.ntmps105
  go_wp2_with fail
  go_region_with (go_at_call 117; refine (HC.out _).mono ?_; rintro e w2 ⟨rfl, hb2⟩; obtain ⟨x0, x1, d0, d1, d2, f0, f1, f2, hq2, hq3⟩ := AFT.out w2 hb2; have HQ := Lib.hid (And.intro hq2 hq3); clear hq2 hq3 hb2)
  all_goals
    go_wp2_with fail
    have hfin := set_cellsR (j := 2) (.string y) (set_cellsR (j := 1) (.int .i64 q) (set_cellsR (j := 0) (.int .i64 p) HQ.out.1))
    have hBf := ((HQ.out.2.setCell (p := ⟨w.heap.size + 1, 0, none⟩) (by simp) (.int .i64 p)).setCell (p := ⟨w.heap.size + 1, 1, none⟩) (by simp) (.int .i64 q)).setCell (p := ⟨w.heap.size + 1, 2, none⟩) (by simp) (.string y)
    have L2 := run_loadVar_row (P := Try.prog) _ (w.heap.size + 1) 38 38 #[.int .i64 p, .int .i64 q, .string y] (0, 0) _ hfin Try.underlying38 rfl (by kernel_rfl)
    refine bodyPost_ret (v := .agg #[.int .i64 p, .int .i64 q, .string y]) ?_ rfl ⟨rfl, hBf⟩
    rw [results_cell (p := 2) (ty := 38) (by kernel_rfl)]
    simp [asAddr, Result.andThen, L2]
end Go.Proofs.Ytjggheoonjajpaa
namespace Go.Proofs.Ytjggheoonjajpaa
open Go.ChangeShapes Go.WideShapes Go.ChangeAt Go.RowKit Go.BigFrame
set_option linter.unusedVariables false

theorem rds_take_snoc (rs : List R3) (k : Nat) (h : k < rs.length) : rs.take (k + 1) = rs.take k ++ [rs.getD k r0] := by
  rw [List.take_succ_eq_append_getElem h]
  simp [List.getD, h]
set_option maxRecDepth 100000 in
set_option maxHeartbeats 1000000 in
theorem icopyrds_any (v : Value) (rs : List R3) (w : World) (h : rdAt w v rs) (hs : rs.length ≤ 2000000) (hx : ∀ r ∈ rs, r.2.size ≤ 2000000) : Calls Try.prog 103 #[v] w fun e w' => ∃ v', e = .returned v' ∧
    w'.ownsRow w.heap.size 38 3 v' rs.length (rdCells rs) ∧ Below w.heap.size w w' := by
  obtain ⟨i0, hi, hz0, hz1, hz2⟩ := info_parts infoR
  obtain ⟨a, cap, rfl, hcap, hcells⟩ := h
  go_enter Try.func103, Try.ntmps103
  obtain ⟨W0, hmk, hown0, hgr0⟩ := run_make_own (P := Try.prog) w w.heap.size 24 38 i0 (.agg #[.int .i64 0, .int .i64 0, .string ⟨#[]⟩]) 3 Try.underlying24 hi hz0 hz1 .i64 .i64 rs.length (by rw [hz2]; omega) (by unfold maxLen; omega) (Nat.le_refl _)
  have hb0 : Below w.heap.size w W0 := (Below.refl w.heap.size w).grown hgr0 (Nat.le_refl _) (fun k e => by cases e)
  clear hgr0
  go_wp2
  clear hmk
  go_loopw [3, 11] (fun x i wr => ∃ k : Nat, k ≤ rs.length ∧ i = .int .i64 k ∧ wr.ownsRow w.heap.size 38 3 x k (rdCells (rs.take k)) ∧ Below w.heap.size w wr) (fun _ i _ => rs.length - (intOf i).toNat)
  case atStart => exact ⟨0, Nat.zero_le _, rfl, hown0, hb0⟩
  case round =>
    clear hown0 hb0
    obtain ⟨k, hk, rfl, hown, hb⟩ := hrel
    by_cases hlt : k < rs.length
    · obtain ⟨g, off, rfl, hg, hcs⟩ := hcells.resolve_left (by omega)
      have z0 : (0 : Int) ≤ (k : Int) := by omega
      have z1 : (k : Int) < (rs.length : Int) := by omega
      have c1 := hcs k hlt
      rename_i wr
      have C1 : wr.cell? ⟨g, off + k * 3, none⟩ = some (.int .i64 (rs.getD k r0).1.1) := (hb.cell (p := ⟨g, off + k * 3, none⟩) hg).trans c1.1
      have C2 : wr.cell? ⟨g, off + k * 3 + 1, none⟩ = some (.int .i64 (rs.getD k r0).1.2) := (hb.cell (p := ⟨g, off + k * 3 + 1, none⟩) hg).trans c1.2.1
      have C3 : wr.cell? ⟨g, off + k * 3 + 2, none⟩ = some (.string (rs.getD k r0).2) := (hb.cell (p := ⟨g, off + k * 3 + 2, none⟩) hg).trans c1.2.2
      have HTS := Lib.hid (rds_take_snoc rs k hlt)
      have hy := hx (rs.getD k r0) (by simp [List.getD, hlt])
      clear hcells hcs c1
      generalize rs.getD k r0 = kx at *
      have hk3 := fun w => icopyrd_any kx w hy
      obtain ⟨⟨p, q⟩, y⟩ := kx
      dsimp only at C1 C2 C3
      unfold rv at hk3
      dsimp only at hk3
      have HK := Lib.hid hk3
      have HO1 := Lib.hid (hown.alloc (.cells #[.int .i64 p, .int .i64 q, .string y] 38))
      have HB1 := Lib.hid (hb.alloc hb.size (.cells #[.int .i64 p, .int .i64 q, .string y] 38))
      have hbz := hb.size
      clear hb hown hk3
      go_wp2_with fail
      refine (HK.out _).mono ?_
      rintro e w2 ⟨rfl, hb2⟩
      have hown2 := own_below HO1.out hb2
      have hbw2 := HB1.out.trans (hb2.mono HB1.out.size)
      have hz2' := hbw2.size
      clear HO1 HB1 hb2 C1 C2 C3 HK
      go_wp2_with (at_builtin; refine wpList_append_own _ rfl (.tmp 15) (.tmp 18) 24 rfl w.heap.size 38 i0 (.agg #[.int .i64 0, .int .i64 0, .string ⟨#[]⟩]) 3 32 Try.underlying24 hi hz0 hz1 hz2 rfl (by decide) _ _ _ rfl (hown2.alloc _) ⟨w2.heap.size, 0, none⟩ 1 1 [.int .i64 p, .int .i64 q, .string y] rfl rfl (cells_newR _ [.int .i64 p, .int .i64 q, .string y] _) (by intro u hu; simp at hu; rcases hu with rfl | rfl | rfl <;> rfl) (by unfold maxLen; omega) (by omega) (by simp; omega) ?_; intro v6 w6 hown6 hgrow6 _)
      have hR : w6.ownsRow w.heap.size 38 3 v6 (k + 1) (rdCells (rs.take (k + 1))) := by rw [HTS.out, rdCells_snoc]; exact hown6
      have hB6 := (hbw2.alloc hz2' (.cells #[.int .i64 p, .int .i64 q, .string y] 38)).grown hgrow6 (by simp; omega) (fun g hg => (hown2.lt g hg).1)
      have HR := Lib.hid (And.intro hR hB6)
      clear hR hB6 hown6 hgrow6 hown2 hbw2
      go_wp2
      go_roundw
      case rel => exact ⟨k + 1, by omega, by go_num, HR.out.1, HR.out.2⟩
      case measure => simp [intOf]; omega
    · obtain rfl : k = rs.length := by omega
      rw [List.take_length] at hown
      go_wp2
      go_ret
      exact ⟨_, rfl, hown, hb⟩
end Go.Proofs.Ytjggheoonjajpaa
namespace Go.Proofs.Ytjggheoonjajpaa
open Go.ChangeShapes Go.WideShapes Go.ChangeAt Go.RowKit Go.BigFrame
set_option linter.unusedVariables false
set_option linter.unusedSimpArgs false

theorem infoInt : (Try.prog.info? 3).map (fun i => (i.zero, i.size, i.bytes)) = some (some (.int .i64 0), 1, 8) := by kernel_rfl
end Go.Proofs.Ytjggheoonjajpaa
namespace Go.Proofs.Ytjggheoonjajpaa
open Go.ChangeShapes Go.WideShapes Go.ChangeAt Go.RowKit Go.BigFrame
set_option linter.unusedVariables false

theorem intsV_one (xs : List Int) : ∀ u ∈ intsV xs, u.oneCell' = true := by
  intro u hu
  simp only [intsV, List.mem_map] at hu
  obtain ⟨k, _, rfl⟩ := hu
  rfl
theorem intsV_at {w : World} {g off : Nat} {xs : List Int} (h : ∀ i, i < xs.length → w.cell? ⟨g, off + i, none⟩ = some (.int .i64 (xs[i]?.getD 0))) :
    ∀ j u, (intsV xs)[j]? = some u → w.cell? ((⟨g, off, none⟩ : Addr).add j) = some u := by
  intro j u hu
  have hj : j < xs.length := by rw [← intsV_len]; exact (List.getElem?_eq_some_iff.1 hu).1
  rw [addr_plus]
  rw [intsV_get xs j hj] at hu
  cases hu
  exact h j hj
theorem in_append_none {w : World} {base n : Nat} {v : Value} {xs : List Value} (h : w.ownsRow base 3 1 v n xs) (ar : Option Addr) (cr : Nat) (ty : TypeId) :
    (Builtin.append_ #[26, 26] ty #[v, .slice ar 0 cr]).run Try.prog w = .ok v w := by
  obtain ⟨i0, hi, hz0, hz1, hz2⟩ := info_parts infoInt
  have u := Try.underlying26
  rcases h.2 with ⟨rfl, h0⟩ | ⟨g, cap, cur, rfl, _, _, hn, _⟩
  · cases ar <;> simp [Builtin.append_, run_underlying u, sizeOf, typeInfo, hi, storeCells, go_sem]
  · cases ar <;> simp [Builtin.append_, run_underlying u, sizeOf, typeInfo, hi, storeCells, hn, go_sem]
/-- append of numbers to what is owned -/
theorem run_append_in {w : World} {base n : Nat} {v : Value} {xs : List Value} (hown : w.ownsRow base 3 1 v n xs) (u : Value) (rs : List Int) (hu : inAt w u rs) (ty : TypeId) (hn : n + rs.length ≤ 4000000) (hbase : base ≤ w.heap.size) :
    ∃ v' w', (Builtin.append_ #[26, 26] ty #[v, u]).run Try.prog w = .ok v' w' ∧ w'.ownsRow base 3 1 v' (n + rs.length) (xs ++ intsV rs) ∧ w.grownBy w' v.ownBlock := by
  obtain ⟨i0, hi, hz0, hz1, hz2⟩ := info_parts infoInt
  obtain ⟨a, cap, rfl, hcap, hcells⟩ := hu
  by_cases h0 : rs.length = 0
  · obtain rfl : rs = [] := List.length_eq_zero_iff.1 h0
    exact ⟨v, w, in_append_none hown a cap ty, by simpa [intsV] using hown, World.grownBy.refl _ _⟩
  · obtain ⟨g, off, rfl, hg, hcs⟩ := hcells.resolve_left h0
    obtain ⟨v', w', hr, h2, h3, h4, h5⟩ := run_append_own_at (P := Try.prog) w base 26 ty 3 i0 (.int .i64 0) 1 8 Try.underlying26 hi hz0 hz1 hz2 rfl (by decide) v n xs hown ⟨g, off, none⟩ rs.length cap (intsV rs) (by rw [intsV_len]; omega) (intsV_at hcs) (intsV_one rs) (by unfold maxLen; omega) (by omega) hbase
    exact ⟨v', w', hr, h2, h3⟩
/-- the same as an operation of a drawn region -/
theorem wp_append_in {o : Oper} {a : Act} {w : World} {Kn : Act → World → Prop} {Q : Exit → Act → World → Prop} (s x : Operand)
    (ho : o.op = .call { callee := .builtin .append, args := #[s, x], argTypes := #[26, 26] })
    {base n : Nat} {v : Value} {xs : List Value} (hown : w.ownsRow base 3 1 v n xs) (u : Value) (rs : List Int) (hu : inAt w u rs) (hs : a.eval s = v) (hx : a.eval x = u) (hn : n + rs.length ≤ 4000000) (hbase : base ≤ w.heap.size)
    (h : ∀ v' w', w'.ownsRow base 3 1 v' (n + rs.length) (xs ++ intsV rs) → w.grownBy w' v.ownBlock → Kn (a.put o.dst v') w') : o.wp Try.prog a w Kn Q := by
  obtain ⟨v', w', hr, h2, h3⟩ := run_append_in hown u rs hu o.type hn hbase
  unfold Oper.wp execOp
  simp only [ho, resolve, invoke, builtin, Sem.run_bind, Sem.run_pure, Result.andThen_ok, List.map_toArray, List.map_cons, List.map_nil, hs, hx, hr]
  exact h v' w' h2 h3
end Go.Proofs.Ytjggheoonjajpaa
namespace Go.Proofs.Ytjggheoonjajpaa
open Go
section
variable {P : Program} {ops : Array Oper} {Q : Exit → Act → World → Prop} {md : Region.Mode} {S : World → Prop} {E : List Nat}
/-- an operation that each other stands ahead of or behind -/
def lastQ (md : Region.Mode) (ops : Array Oper) (E : List Nat) (i : Nat) : Prop := ∃ o, ops[i]? = some o ∧ ∀ k ok, ops[k]? = some ok → k ≠ i → k ∉ E → (∃ e ∈ o.after, Region.binds md e = true ∧ e.on = k) ∨ ∃ e ∈ ok.after, Region.binds md e = true ∧ e.on = i
def lastQB (md : Region.Mode) (ops : Array Oper) (E : List Nat) (i : Nat) : Bool := match ops[i]? with
  | some o => (List.range ops.size).all fun k => k == i || E.contains k || (o.after.any fun e => Region.binds md e && e.on == k) || (match ops[k]? with | some ok => ok.after.any fun e => Region.binds md e && e.on == i | none => false)
  | none => false
theorem lastQ_of {i : Nat} (h : lastQB md ops E i = true) : lastQ md ops E i := by
  unfold lastQB at h
  split at h
  · rename_i o ho
    refine ⟨o, ho, fun k ok hok hne hkE => ?_⟩
    have h1 := List.all_eq_true.1 h k (List.mem_range.2 (Array.getElem?_eq_some_iff.1 hok).1)
    rw [hok] at h1
    simp only [Bool.or_eq_true, beq_iff_eq] at h1
    rcases h1 with ((h1 | h1) | h1) | h1
    · exact absurd h1 hne
    · exact absurd (by simpa using h1) hkE
    · obtain ⟨j, hj, h2⟩ := Array.any_eq_true.1 h1
      simp only [Bool.and_eq_true, beq_iff_eq] at h2
      exact .inl ⟨_, Array.getElem_mem hj, h2.1, h2.2⟩
    · obtain ⟨j, hj, h2⟩ := Array.any_eq_true.1 h1
      simp only [Bool.and_eq_true, beq_iff_eq] at h2
      exact .inr ⟨_, Array.getElem_mem hj, h2.1, h2.2⟩
  · cases h
/-- whatever order is picked from here on; behind each operation a sharper condition holds, or any behind one that each other stands ahead of or behind -/
def wpL (P : Program) (md : Region.Mode) (ops : Array Oper) (Q : Exit → Act → World → Prop) (E : List Nat) : Nat → (World → Prop) → Array Bool → Act → World → Prop
  | 0, _, listed, a, w => Region.ready md ops listed = [] ∧ Q .normal a w
  | fuel + 1, S, listed, a, w =>
    (Region.ready md ops listed = [] → Q .normal a w) ∧
    ∀ i ∈ Region.ready md ops listed, wpOp P ops Q i (fun a' w' => ∃ S' : World → Prop, ((∀ x, S' x → S x) ∨ lastQ md ops E i) ∧ S' w' ∧ wpL P md ops Q E fuel S' (listed.setIfInBounds i true) a' w') a w

theorem wpAny_of_L : ∀ (fuel : Nat) (S : World → Prop) (listed : Array Bool) (a : Act) (w : World), wpL P md ops Q E fuel S listed a w → wpAny P md ops Q fuel listed a w
  | 0, _, _, _, _, h => h
  | fuel + 1, S, _, _, _, h => ⟨h.1, fun i hi => wpOp_mono (fun a' w' h' => by
      obtain ⟨S', _, _, h'⟩ := h'
      exact wpAny_of_L fuel S' _ a' w' h') (h.2 i hi)⟩

theorem wpL_first {i : Nat} {oi : Oper} {v : Value} (hiE : i ∉ E) (hi : ops[i]? = some oi) (hsel : ∀ (j : Nat) (o : Oper) cs b, ops[j]? = some o → o.op ≠ .select cs b)
    (hQ : ∀ c a w, Q (.panic c) (a.put oi.dst v) w → Q (.panic c) a w) :
    ∀ (fuel : Nat) (S : World → Prop) (listed : Array Bool) (a : Act) (w : World),
      (∀ j oj, ops[j]? = some oj → j ≠ i → listed.getD j true = false → (∀ e ∈ oj.after, Region.binds md e = true → e.on ≠ i) → oi.apart ops oj = true) →
      i ∈ Region.ready md ops listed → YieldsIf P ops S oi v a → S w →
      wpL P md ops Q E fuel S (listed.setIfInBounds i true) (a.put oi.dst v) w → wpL P md ops Q E (fuel + 1) S listed a w := by
  intro fuel
  induction fuel with
  | zero =>
    intro S listed a w _ hr hy hS H
    refine ⟨fun h => (by rw [h] at hr; cases hr), fun j hj => ?_⟩
    by_cases hji : j = i
    · subst hji; exact hy.wpOp hi hS ⟨S, .inl (fun _ h => h), hS, H⟩
    · have := ready_mono hj hji
      rw [H.1] at this
      cases this
  | succ fuel ih =>
    intro S listed a w hfree hr hy hS H
    refine ⟨fun h => (by rw [h] at hr; cases hr), fun j hj => ?_⟩
    by_cases hji : j = i
    · subst hji; exact hy.wpOp hi hS ⟨S, .inl (fun _ h => h), hS, H⟩
    · have h1 := H.2 j (ready_mono hj hji)
      obtain ⟨hjun, oj, hoj, hall⟩ := mem_ready.1 hj
      have hnot : ∀ e ∈ oj.after, Region.binds md e = true → e.on ≠ i := fun e he hb heq => by
        have h1 := hall e he hb
        have h0 := (mem_ready.1 hr).1
        rw [heq] at h1
        rcases Nat.lt_or_ge i listed.size with h' | h'
        · simp [h'] at h0 h1; rw [h0] at h1; cases h1
        · simp [Array.getElem?_eq_none h'] at h1
      have h2 := wpOp_putIf hoj (hfree j oj hoj hji hjun hnot) (fun cs b => hsel i oi cs b hi) (fun cs b => hsel j oj cs b hoj) hQ hy h1
      have hfree' : ∀ k ok, ops[k]? = some ok → k ≠ i → (listed.setIfInBounds j true).getD k true = false →
          (∀ e ∈ ok.after, Region.binds md e = true → e.on ≠ i) → oi.apart ops ok = true := fun k ok hk hki hun hno => by
        refine hfree k ok hk hki ?_ hno
        by_cases hjk : j = k
        · subst hjk; exact hjun
        · rw [getD_set_ne true hjk] at hun; exact hun
      refine wpOp_mono (fun a' w' h3 => ?_) h2
      obtain ⟨hy3, h3⟩ := h3
      obtain ⟨S', hs, hs2, h4⟩ := h3
      have hs : ∀ x, S' x → S x := by
        rcases hs with hs | ⟨o5, h5, h6⟩
        · exact hs
        · rw [hoj] at h5
          cases h5
          rcases h6 i oi hi (Ne.symm hji) hiE with ⟨e, he, hb, heq⟩ | ⟨e, he, hb, heq⟩
          · exact absurd heq (hnot e he hb)
          · obtain ⟨_, oi2, hoi2, hall2⟩ := mem_ready.1 hr
            rw [hi] at hoi2
            cases hoi2
            have h1 := hall2 e he hb
            rw [heq] at h1
            rcases Nat.lt_or_ge j listed.size with h' | h'
            · simp [h'] at hjun h1; rw [hjun] at h1; cases h1
            · simp [Array.getElem?_eq_none h'] at h1
      refine ⟨S', .inl hs, hs2, ih S' (listed.setIfInBounds j true) a' w' hfree' (ready_mono hr (Ne.symm hji)) (YieldsIf.sharper hs hy3) hs2 ?_⟩
      rw [Array.setIfInBounds_comm _ _ hji]
      exact h4

/-- none of those that are taken is an exception -/
def avoidB (E : List Nat) : List Bool → Nat → Bool
  | [], _ => true
  | b :: m, i => (!b || !E.contains i) && avoidB E m (i + 1)
theorem takes_L {l : List Oper} (hs : Region.noSelect l.toArray = true) (hQ : ∀ c a d v w, Q (.panic c) (Act.put a d v) w → Q (.panic c) a w) {S : World → Prop} {w : World} (hS : S w) {R : Act → Prop} :
    ∀ (m : List Bool) (i fuel : Nat) (listed : Array Bool) (a : Act), takesB md l m i listed = true → avoidB E m i = true → m.length + i ≤ l.length →
      (∀ a', R a' → wpL P md l.toArray Q E fuel S (takenL m i listed) a' w) → wpQuiet P l.toArray S R (maskRows m (l.drop i)) a → wpL P md l.toArray Q E (fuel + countT m) S listed a w
  | [], i, fuel, listed, a, _, _, _, hk, h => hk a (by simpa [maskRows, wpQuiet] using h)
  | false :: m, i, fuel, listed, a, hb, hav, hl, hk, h => by
    have hav : avoidB E m (i + 1) = true := by simpa [avoidB] using hav
    have hlt : i < l.length := by simp only [List.length_cons] at hl; omega
    rw [List.drop_eq_getElem_cons hlt] at h
    exact takes_L hs hQ hS m (i + 1) fuel listed a hb hav (by simp only [List.length_cons] at hl; omega) hk h
  | true :: m, i, fuel, listed, a, hb, hav, hl, hk, h => by
    have hav : i ∉ E ∧ avoidB E m (i + 1) = true := by simpa [avoidB] using hav
    have hlt : i < l.length := by simp only [List.length_cons] at hl; omega
    rw [List.drop_eq_getElem_cons hlt] at h
    simp only [takesB, Bool.and_eq_true] at hb
    obtain ⟨⟨⟨hv, hf⟩, hr⟩, hb⟩ := hb
    have ho : l.toArray[i]? = some l[i] := by simp [hlt]
    rw [show l[i]? = some l[i] from by simp [hlt]] at hv
    dsimp only at hv
    simp only [maskRows, wpQuiet] at h
    have hin : i ∈ Region.ready md l.toArray listed := by simpa using hr
    show wpL P md l.toArray Q E (fuel + countT m + 1) S listed a w
    by_cases hw : Region.wanted l[i] (yielded l.toArray a.tmps) = true
    · rw [if_pos hw] at h
      obtain ⟨v, h1, h2⟩ := h
      exact wpL_first hav.1 ho (Region.noSelect_spec hs) (fun c a w => hQ c a _ _ w) _ S listed a w (Region.free_spec ho hf) hin (yields_of_quiet hv hw h1) hS
        (takes_L hs hQ hS m (i + 1) fuel _ _ hb hav.2 (by simp only [List.length_cons] at hl; omega) hk h2)
    · rw [if_neg hw] at h
      exact wpL_first hav.1 ho (Region.noSelect_spec hs) (fun c a w => hQ c a _ _ w) _ S listed a w (Region.free_spec ho hf) hin (.inr ⟨by simpa using hw, rfl⟩) hS
        (takes_L hs hQ hS m (i + 1) fuel _ _ hb hav.2 (by simp only [List.length_cons] at hl; omega) hk h)
theorem wpL_done {listed : Array Bool} {a : Act} {w : World} (hr : Region.ready md ops listed = []) (h : Q .normal a w) : ∀ fuel, wpL P md ops Q E fuel S listed a w
  | 0 => ⟨hr, h⟩
  | _ + 1 => ⟨fun _ => h, by rw [hr]; simp⟩
/-- what reads is taken; then one after another of what is ready is tried -/
theorem wpL_seg {l : List Oper} (m : List Bool) (rd : List Nat) (fuel' : Nat) {fuel : Nat} {listed : Array Bool} {a : Act} {w : World} (hs : Region.noSelect l.toArray = true)
    (hQ : ∀ c a d v w, Q (.panic c) (Act.put a d v) w → Q (.panic c) a w) (hb : segtB md l m rd fuel fuel' listed = true) (hav : avoidB E m 0 = true) (hS : S w)
    (h : wpQuiet P l.toArray S (fun a' => ∀ i ∈ rd, wpOp P l.toArray Q i (fun a'' w'' => ∃ S' : World → Prop, ((∀ x, S' x → S x) ∨ lastQ md l.toArray E i) ∧ S' w'' ∧ wpL P md l.toArray Q E fuel' S' ((takenL m 0 listed).setIfInBounds i true) a'' w'') a' w) (maskRows m l) a) :
    wpL P md l.toArray Q E fuel S listed a w := by
  simp only [segtB, Bool.and_eq_true, decide_eq_true_eq, Bool.not_eq_true'] at hb
  obtain ⟨⟨⟨⟨h1, h2⟩, h3⟩, h4⟩, h5⟩ := hb
  subst h1
  refine takes_L (P := P) (md := md) hs hQ hS (R := fun a' => ∀ i ∈ rd, wpOp P l.toArray Q i (fun a'' w'' => ∃ S' : World → Prop, ((∀ x, S' x → S x) ∨ lastQ md l.toArray E i) ∧ S' w'' ∧ wpL P md l.toArray Q E fuel' S' ((takenL m 0 listed).setIfInBounds i true) a'' w'') a' w) m 0 (fuel' + 1) listed a h3 hav (by omega) (fun a' hq => ?_) (by simpa using h)
  refine ⟨fun h0 => (by rw [h4] at h0; rw [h0] at h5; cases h5), fun j hj => ?_⟩
  rw [h4] at hj
  exact hq j hj
theorem wpL_end {l : List Oper} (m : List Bool) {fuel : Nat} {listed : Array Bool} {a : Act} {w : World} (hs : Region.noSelect l.toArray = true)
    (hQ : ∀ c a d v w, Q (.panic c) (Act.put a d v) w → Q (.panic c) a w) (hb : segeB md l m fuel listed = true) (hav : avoidB E m 0 = true) (hS : S w)
    (h : wpQuiet P l.toArray S (fun a' => Q .normal a' w) (maskRows m l) a) : wpL P md l.toArray Q E fuel S listed a w := by
  simp only [segeB, Bool.and_eq_true, decide_eq_true_eq] at hb
  obtain ⟨⟨⟨h1, h2⟩, h3⟩, h4⟩ := hb
  have := takes_L (P := P) (md := md) hs hQ hS (R := fun a' => Q .normal a' w) m 0 (fuel - countT m) listed a h3 hav (by omega) (fun a' hq => wpL_done h4 hq _) (by simpa using h)
  rwa [Nat.sub_add_cancel h1] at this
theorem wp_region_L {id : Nat} {a : Act} {w : World} {l : List Oper} (E : List Nat) (S : World → Prop) (hm : P.follows .mixedOrders = true) (h : wpL P .any l.toArray Q E l.length S (Array.replicate l.length false) a w.drew) :
    (Code.region id l.toArray true).wp P Q a w := wp_region_any hm (wpAny_of_L _ _ _ _ _ (by simpa using h))
/-- one that is carried out -/
theorem segl_run {l : List Oper} {fuel : Nat} {listed : Array Bool} {i : Nat} {o : Oper} {a : Act} {w : World} (ho : l.toArray[i]? = some o) (hw : Region.wanted o (yielded l.toArray a.tmps) = true)
    (h : ∀ K : Act → World → Prop, (∀ a' w', (∃ S' : World → Prop, ((∀ x, S' x → S x) ∨ lastQ md l.toArray E i) ∧ S' w' ∧ wpL P md l.toArray Q E fuel S' listed a' w') → K a' w') → o.wp P a w K Q) :
    wpOp P l.toArray Q i (fun a'' w'' => ∃ S' : World → Prop, ((∀ x, S' x → S x) ∨ lastQ md l.toArray E i) ∧ S' w'' ∧ wpL P md l.toArray Q E fuel S' listed a'' w'') a w := by
  unfold wpOp
  simp only [ho, hw, if_true]
  exact .inl (h _ fun _ _ h => h)
end
end Go.Proofs.Ytjggheoonjajpaa
namespace Go.Proofs.Ytjggheoonjajpaa
open Go.ChangeShapes Go.WideShapes Go.ChangeAt Go.RowKit Go.BigFrame
set_option linter.unusedVariables false
set_option linter.unusedSimpArgs false

/-- a station whose three lists are its own: blocks from base on, below m1, m2, and behind -/
structure SaO (w : World) (base m1 m2 : Nat) (s : Stn) (vo vb vh : Value) (us : List Value) : Prop where
  own : w.ownsRow base 38 3 vo s.own.length (rdCells s.own)
  cd : CdD w base vb us s.buf
  heard : w.ownsRow base 3 1 vh s.heard.length (intsV s.heard)
  lo : ∀ g, vo.ownBlock = some g → g < m1
  mb : ∀ g, vb.ownBlock = some g → m1 ≤ g ∧ g < m2
  mu : ∀ i, i < s.buf.length → ∀ g, (us.getD i undef).ownBlock = some g → m1 ≤ g ∧ g < m2
  hi : ∀ g, vh.ownBlock = some g → m2 ≤ g
theorem SaO.lists {w : World} {base m1 m2 : Nat} {s : Stn} {vo vb vh : Value} {us : List Value} (h : SaO w base m1 m2 s vo vb vh us) : SaL w s vo vb vh := ⟨rdAt_own h.own, h.cd.at, inAt_own h.heard rfl⟩
theorem SaO.keep {X : Nat → Prop} {w w' : World} {base m1 m2 : Nat} {s : Stn} {vo vb vh : Value} {us : List Value} (h : SaO w base m1 m2 s vo vb vh us) (hk : KeepX X w w') (hx : ∀ g, base ≤ g → ¬ X g) : SaO w' base m1 m2 s vo vb vh us :=
  ⟨hk.own h.own (fun g e => hx g (h.own.lt g e).1), h.cd.keep hk (fun g e => hx g (h.cd.own.lt g e).1) (fun i hi g e => hx g ((h.cd.keys i hi).lt g e).1), hk.own h.heard (fun g e => hx g (h.heard.lt g e).1), h.lo, h.mb, h.mu, h.hi⟩
theorem SaO.below {w w' : World} {base m1 m2 : Nat} {s : Stn} {vo vb vh : Value} {us : List Value} (h : SaO w base m1 m2 s vo vb vh us) (hb : Below w.heap.size w w') : SaO w' base m1 m2 s vo vb vh us :=
  h.keep (KeepX.below (X := fun _ => False) hb) (fun _ _ h => h)
theorem SaO.base {w : World} {base base' m1 m2 : Nat} {s : Stn} {vo vb vh : Value} {us : List Value} (h : SaO w base m1 m2 s vo vb vh us) (hb : base' ≤ base) : SaO w base' m1 m2 s vo vb vh us :=
  ⟨own_base h.own hb, h.cd.base hb, own_base h.heard hb, h.lo, h.mb, h.mu, h.hi⟩
/-- what a station may hold where it is copied -/
structure SaB (s : Stn) : Prop where
  no : s.own.length ≤ 1000000
  xo : ∀ r ∈ s.own, r.2.size ≤ 2000000
  nb : s.buf.length ≤ 1000000
  xb : ∀ x ∈ s.buf, x.1.length ≤ 1000000 ∧ x.2.size ≤ 2000000
  nh : s.heard.length ≤ 1000000
set_option maxRecDepth 100000 in
set_option maxHeartbeats 4000000 in
theorem icopystation_any (s : Stn) (vo vb vh : Value) (w : World) (h : SaL w s vo vb vh) (hB : SaB s) :
    Calls Try.prog 46 #[saV s vo vb vh] w fun e w' => ∃ m1 m2 vo' vb' vh' us', e = .returned (saV s vo' vb' vh') ∧ SaO w' (w.heap.size + 2) m1 m2 s vo' vb' vh' us' ∧ Below w.heap.size w w' := by
  obtain ⟨id, al, sq, mo, ow, bu, he⟩ := s
  obtain ⟨hB1, hB2, hB3, hB4, hB5⟩ := hB
  obtain ⟨h1, h2, h3⟩ := h
  dsimp only at *
  have HCR := Lib.hid (fun wx (hb : Below w.heap.size w wx) => icopyrds_any vo ow wx (rdAt_below h1 hb) (by omega) hB2)
  have HCC := Lib.hid (fun wx (hb : Below w.heap.size w wx) => icopycodes_any vb bu wx (cdAv_below h2 hb) hB3 hB4)
  have HIN := Lib.hid (fun wx (hb : Below w.heap.size w wx) => inAt_below h3 hb)
  obtain ⟨ao, ap, rfl, -, -⟩ := h1
  obtain ⟨ab, ac, rfl, -, -⟩ := h2
  obtain ⟨ah, ai, rfl, -, -⟩ := h3
  unfold saV
  dsimp only
  have hb0 := (Below.refl w.heap.size w).alloc (Nat.le_refl _) (.cells #[.int .i64 id, .bool al, .int .i64 sq, .int .i64 mo, .slice ao ow.length ap, .slice ab bu.length ac, .slice ah he.length ai] 28)
  have hb1 := hb0.alloc hb0.size (.cells #[.int .i64 0, .bool false, .int .i64 0, .int .i64 0, .slice none 0 0, .slice none 0 0, .slice none 0 0] 28)
  have hr := heap_alloc_new (w.alloc (.cells #[.int .i64 id, .bool al, .int .i64 sq, .int .i64 mo, .slice ao ow.length ap, .slice ab bu.length ac, .slice ah he.length ai] 28)) (.cells #[.int .i64 0, .bool false, .int .i64 0, .int .i64 0, .slice none 0 0, .slice none 0 0, .slice none 0 0] 28)
  rw [show (w.alloc (.cells #[.int .i64 id, .bool al, .int .i64 sq, .int .i64 mo, .slice ao ow.length ap, .slice ab bu.length ac, .slice ah he.length ai] 28)).heap.size = w.heap.size + 1 by simp] at hr
  have HR := Lib.hid hr
  have HX := Lib.hid (heap_first w (.cells #[.int .i64 0, .bool false, .int .i64 0, .int .i64 0, .slice none 0 0, .slice none 0 0, .slice none 0 0] 28) (.cells #[.int .i64 id, .bool al, .int .i64 sq, .int .i64 mo, .slice ao ow.length ap, .slice ab bu.length ac, .slice ah he.length ai] 28))
  have HB := Lib.hid hb1
  have HSZ := Lib.hid (show ((w.alloc (.cells #[.int .i64 id, .bool al, .int .i64 sq, .int .i64 mo, .slice ao ow.length ap, .slice ab bu.length ac, .slice ah he.length ai] 28)).alloc (.cells #[.int .i64 0, .bool false, .int .i64 0, .int .i64 0, .slice none 0 0, .slice none 0 0, .slice none 0 0] 28)).heap.size = w.heap.size + 2 by simp)
  clear hb0 hb1 hr hB2 hB4
  go_enter Try.func46, Try.ntmps46
  go_upto_region 1 with (fail)
  generalize ((w.alloc (.cells #[.int .i64 id, .bool al, .int .i64 sq, .int .i64 mo, .slice ao ow.length ap, .slice ab bu.length ac, .slice ah he.length ai] 28)).alloc (.cells #[.int .i64 0, .bool false, .int .i64 0, .int .i64 0, .slice none 0 0, .slice none 0 0, .slice none 0 0] 28)) = W at *
  have hlt : w.heap.size < W.heap.size := by rw [HSZ.out]; omega
  obtain ⟨⟨x0, x1, x2, x3, x4, x5, x6⟩, -⟩ := row7_of HX.out
  have LO : ∀ w', Below W.heap.size W w' → (loadVar 24 ⟨w.heap.size, 4, none⟩).run Try.prog w' = .ok (.slice ao ow.length ap) w' := fun w' hb => ld_rds ((hb.cell (p := ⟨w.heap.size, 4, none⟩) hlt).trans x4)
  have LB : ∀ w', Below W.heap.size W w' → (loadVar 25 ⟨w.heap.size, 5, none⟩).run Try.prog w' = .ok (.slice ab bu.length ac) w' := fun w' hb => ld_cds ((hb.cell (p := ⟨w.heap.size, 5, none⟩) hlt).trans x5)
  have LH : ∀ w', Below W.heap.size W w' → (loadVar 26 ⟨w.heap.size, 6, none⟩).run Try.prog w' = .ok (.slice ah he.length ai) w' := fun w' hb => ld_ints ((hb.cell (p := ⟨w.heap.size, 6, none⟩) hlt).trans x6)
  have HBC := Lib.hid (Below.refl W.heap.size W).drew
  clear x0 x1 x2 x3 x4 x5 x6 hlt
  refine wp_region_L [5, 8] (fun wx => Below W.heap.size W wx) (by kernel_rfl) ?_
  refine wpL_seg [true, true, false, true, true, false, true, true] [2] 8 (by kernel_rfl) (by intro c a d v w h; cases d <;> exact h) (by kernel_rfl) (by kernel_rfl) HBC.out ?_
  try simp only [maskRows]
  repeat (first
    | go_big_quiet_skip
    | (go_big_quiet_want
       first
         | (refine q_load 24 _ ⟨w.heap.size, 4, none⟩ _ rfl rfl LO ?_; simp only [Act.put, List.setIfInBounds_toArray, List.set_cons_zero, List.set_cons_succ]; go_big_quiet_on)
         | (refine q_load 25 _ ⟨w.heap.size, 5, none⟩ _ rfl rfl LB ?_; simp only [Act.put, List.setIfInBounds_toArray, List.set_cons_zero, List.set_cons_succ]; go_big_quiet_on)
         | (refine q_load 26 _ ⟨w.heap.size, 6, none⟩ _ rfl rfl LH ?_; simp only [Act.put, List.setIfInBounds_toArray, List.set_cons_zero, List.set_cons_succ]; go_big_quiet_on)
         | (go_big_quiet_op; go_big_quiet_on)
         | (go_big_quiet_op; refine ⟨_, fun _ _ => rfl, ?_⟩; go_big_quiet_on)
         | (go_big_quiet_op; refine ⟨_, fun _ _ _ => rfl, ?_⟩; go_big_quiet_on)))
  refine wpQuiet_nil ?_
  refine List.forall_mem_singleton.2 ?_
  refine segl_run rfl (by rfl) (fun K hK => ?_)
  go_simp
  refine (HCR.out _ (HB.out.trans (HBC.out.mono HB.out.size))).mono ?_
  rintro e w6 ⟨v6, rfl, hv6, hb6⟩
  dsimp only
  obtain ⟨a6, n6, c6, rfl⟩ := own_shape hv6
  obtain rfl : n6 = ow.length := own_lenS hv6
  have HV6 := Lib.hid (own_base hv6 HBC.out.size)
  have HM6 := Lib.hid (fun g e => (hv6.lt g e).2)
  replace HBC := Lib.hid (HBC.out.trans (hb6.mono HBC.out.size))
  clear hv6 hb6 LO LB LH
  refine hK _ _ ⟨_, .inl (fun _ h => h), HBC.out, ?_⟩
  clear hK K
  try simp only [Act.put, List.setIfInBounds_toArray, List.set_cons_zero, List.set_cons_succ]
  refine wpL_seg [false, false, false, false, false, false, false, false, false, true] [5] 6 (by kernel_rfl) (by intro c a d v w h; cases d <;> exact h) (by kernel_rfl) (by kernel_rfl) HBC.out ?_
  try simp only [maskRows]
  repeat (first
    | go_big_quiet_skip
    | (go_big_quiet_want
       first
         | (go_big_quiet_op; go_big_quiet_on)
         | (go_big_quiet_op; refine ⟨_, fun _ _ => rfl, ?_⟩; go_big_quiet_on)
         | (go_big_quiet_op; refine ⟨_, fun _ _ _ => rfl, ?_⟩; go_big_quiet_on)))
  refine wpQuiet_nil ?_
  refine List.forall_mem_singleton.2 ?_
  refine segl_run rfl (by rfl) (fun K hK => ?_)
  go_simp
  refine (HCC.out _ (HB.out.trans (HBC.out.mono HB.out.size))).mono ?_
  rintro e w8 ⟨v8, us8, rfl, hv8, hb8⟩
  dsimp only
  obtain ⟨a8, n8, c8, rfl⟩ := own_shape hv8.own
  obtain rfl : n8 = bu.length := own_lenS hv8.own
  have HV8 := Lib.hid (hv8.base HBC.out.size)
  have HM8 := Lib.hid (And.intro (fun g e => hv8.own.lt g e) (fun i hi g e => (hv8.keys i hi).lt g e))
  replace HV6 := Lib.hid (own_below HV6.out hb8)
  replace HBC := Lib.hid (HBC.out.trans (hb8.mono HBC.out.size))
  clear hv8 hb8
  refine hK _ _ ⟨_, .inl (fun _ h => h), HBC.out, ?_⟩
  clear hK K
  try simp only [Act.put, List.setIfInBounds_toArray, List.set_cons_zero, List.set_cons_succ]
  refine wpL_seg [] [8] 5 (by kernel_rfl) (by intro c a d v w h; cases d <;> exact h) (by kernel_rfl) (by kernel_rfl) HBC.out ?_
  try simp only [maskRows]
  refine wpQuiet_nil ?_
  refine List.forall_mem_singleton.2 ?_
  refine segl_run rfl (by rfl) (fun K hK => ?_)
  have hnil : w8.ownsRow w8.heap.size 3 1 (.slice none 0 0) 0 [] := World.ownsRow_nil ..
  refine wp_append_in _ _ rfl hnil (.slice ah he.length ai) he (HIN.out _ (HB.out.trans (HBC.out.mono HB.out.size))) rfl rfl (by omega) (Nat.le_refl _) ?_
  intro v9 w9 ho9 hg9
  rw [Nat.zero_add, List.nil_append] at ho9
  obtain ⟨a9, n9, c9, rfl⟩ := own_shape ho9
  obtain rfl : n9 = he.length := own_lenS ho9
  have hb9 : Below w8.heap.size w8 w9 := (Below.refl _ _).grown hg9 (Nat.le_refl _) (fun g e => by cases e)
  have HV9 := Lib.hid (own_base ho9 HBC.out.size)
  have HM9 := Lib.hid (fun g e => (ho9.lt g e).1)
  replace HV6 := Lib.hid (own_below HV6.out hb9)
  replace HV8 := Lib.hid (HV8.out.below hb9)
  replace HBC := Lib.hid (HBC.out.trans (hb9.mono HBC.out.size))
  clear ho9 hg9 hb9 hnil
  have HSO := Lib.hid (show SaO w9 W.heap.size w6.heap.size w8.heap.size ⟨id, al, sq, mo, ow, bu, he⟩ (.slice a6 ow.length c6) (.slice a8 bu.length c8) (.slice a9 he.length c9) us8 from ⟨HV6.out, HV8.out, HV9.out, HM6.out, HM8.out.1, HM8.out.2, HM9.out⟩)
  clear HV6 HV8 HV9 HM6 HM8 HM9
  have HX9 := Lib.hid ((HBC.out.block _ (Array.getElem?_eq_some_iff.1 HX.out).1).trans HX.out)
  have HR9 := Lib.hid ((HBC.out.block _ (Array.getElem?_eq_some_iff.1 HR.out).1).trans HR.out)
  have HB9 := Lib.hid (HB.out.trans (HBC.out.mono HB.out.size))
  refine hK _ _ ⟨_, .inl (fun _ h => h), HBC.out, ?_⟩
  clear hK K
  try simp only [Act.put, List.setIfInBounds_toArray, List.set_cons_zero, List.set_cons_succ]
  refine wpL_seg [] [10] 4 (by kernel_rfl) (by intro c a d v w h; cases d <;> exact h) (by kernel_rfl) (by kernel_rfl) HBC.out ?_
  try simp only [maskRows]
  refine wpQuiet_nil ?_
  refine List.forall_mem_singleton.2 ?_
  obtain ⟨⟨x0, x1, x2, x3, x4, x5, x6⟩, f0, f1, f2, f3, f4, f5, f6⟩ := row7_of HX9.out
  refine segl_run rfl (by rfl) (fun K hK => ?_)
  go_simp
  have HK10 := Lib.hid (show KeepX (fun k => k = w.heap.size ∨ k = w.heap.size + 1) w9 (w9.setCell ⟨w.heap.size, 4, none⟩ (.slice a6 ow.length c6)) from (KeepX.refl (fun k => k = w.heap.size ∨ k = w.heap.size + 1) w9).set w.heap.size 4 _ (.inl rfl))
  have HX10 := Lib.hid (set_cellsR (w := w9) (B := w.heap.size) (j := 4) (.slice a6 ow.length c6) HX9.out)
  simp only [List.setIfInBounds_toArray, List.set_cons_zero, List.set_cons_succ] at HX10
  have HR10 := Lib.hid ((Below.heap_setCell w9 ⟨w.heap.size, 4, none⟩ (.slice a6 ow.length c6) (w.heap.size + 1) (by show w.heap.size + 1 ≠ w.heap.size; omega)).trans HR9.out)
  have HB10 := Lib.hid (HB9.out.setCell (p := ⟨w.heap.size, 4, none⟩) (Nat.le_refl _) (.slice a6 ow.length c6))
  clear x0 x1 x2 x3 x4 x5 x6 f0 f1 f2 f3 f4 f5 f6
  generalize w9.setCell ⟨w.heap.size, 4, none⟩ (.slice a6 ow.length c6) = w10 at *
  refine hK _ _ ⟨fun _ => True, .inr (lastQ_of (by kernel_rfl)), trivial, ?_⟩
  clear hK K
  try simp only [Act.put, List.setIfInBounds_toArray, List.set_cons_zero, List.set_cons_succ]
  refine wpL_seg [false, false, false, false, false, false, false, false, false, false, false, true] [12] 2 (by kernel_rfl) (by intro c a d v w h; cases d <;> exact h) (by kernel_rfl) (by kernel_rfl) trivial ?_
  try simp only [maskRows]
  repeat (first
    | go_big_quiet_skip
    | (go_big_quiet_want
       first
         | (go_big_quiet_op; go_big_quiet_on)
         | (go_big_quiet_op; refine ⟨_, fun _ _ => rfl, ?_⟩; go_big_quiet_on)
         | (go_big_quiet_op; refine ⟨_, fun _ _ _ => rfl, ?_⟩; go_big_quiet_on)))
  refine wpQuiet_nil ?_
  refine List.forall_mem_singleton.2 ?_
  obtain ⟨⟨x0, x1, x2, x3, x4, x5, x6⟩, f0, f1, f2, f3, f4, f5, f6⟩ := row7_of HX10.out
  refine segl_run rfl (by rfl) (fun K hK => ?_)
  go_simp
  have HK11 := Lib.hid (show KeepX (fun k => k = w.heap.size ∨ k = w.heap.size + 1) w10 (w10.setCell ⟨w.heap.size, 5, none⟩ (.slice a8 bu.length c8)) from (KeepX.refl (fun k => k = w.heap.size ∨ k = w.heap.size + 1) w10).set w.heap.size 5 _ (.inl rfl))
  have HX11 := Lib.hid (set_cellsR (w := w10) (B := w.heap.size) (j := 5) (.slice a8 bu.length c8) HX10.out)
  simp only [List.setIfInBounds_toArray, List.set_cons_zero, List.set_cons_succ] at HX11
  have HR11 := Lib.hid ((Below.heap_setCell w10 ⟨w.heap.size, 5, none⟩ (.slice a8 bu.length c8) (w.heap.size + 1) (by show w.heap.size + 1 ≠ w.heap.size; omega)).trans HR10.out)
  have HB11 := Lib.hid (HB10.out.setCell (p := ⟨w.heap.size, 5, none⟩) (Nat.le_refl _) (.slice a8 bu.length c8))
  clear x0 x1 x2 x3 x4 x5 x6 f0 f1 f2 f3 f4 f5 f6
  generalize w10.setCell ⟨w.heap.size, 5, none⟩ (.slice a8 bu.length c8) = w11 at *
  refine hK _ _ ⟨fun _ => True, .inr (lastQ_of (by kernel_rfl)), trivial, ?_⟩
  clear hK K
  try simp only [Act.put, List.setIfInBounds_toArray, List.set_cons_zero, List.set_cons_succ]
  refine wpL_seg [false, false, false, false, false, false, false, false, false, false, false, false, false, true] [14] 0 (by kernel_rfl) (by intro c a d v w h; cases d <;> exact h) (by kernel_rfl) (by kernel_rfl) trivial ?_
  try simp only [maskRows]
  repeat (first
    | go_big_quiet_skip
    | (go_big_quiet_want
       first
         | (go_big_quiet_op; go_big_quiet_on)
         | (go_big_quiet_op; refine ⟨_, fun _ _ => rfl, ?_⟩; go_big_quiet_on)
         | (go_big_quiet_op; refine ⟨_, fun _ _ _ => rfl, ?_⟩; go_big_quiet_on)))
  refine wpQuiet_nil ?_
  refine List.forall_mem_singleton.2 ?_
  obtain ⟨⟨x0, x1, x2, x3, x4, x5, x6⟩, f0, f1, f2, f3, f4, f5, f6⟩ := row7_of HX11.out
  refine segl_run rfl (by rfl) (fun K hK => ?_)
  go_simp
  have HK12 := Lib.hid (show KeepX (fun k => k = w.heap.size ∨ k = w.heap.size + 1) w11 (w11.setCell ⟨w.heap.size, 6, none⟩ (.slice a9 he.length c9)) from (KeepX.refl (fun k => k = w.heap.size ∨ k = w.heap.size + 1) w11).set w.heap.size 6 _ (.inl rfl))
  have HX12 := Lib.hid (set_cellsR (w := w11) (B := w.heap.size) (j := 6) (.slice a9 he.length c9) HX11.out)
  simp only [List.setIfInBounds_toArray, List.set_cons_zero, List.set_cons_succ] at HX12
  have HR12 := Lib.hid ((Below.heap_setCell w11 ⟨w.heap.size, 6, none⟩ (.slice a9 he.length c9) (w.heap.size + 1) (by show w.heap.size + 1 ≠ w.heap.size; omega)).trans HR11.out)
  have HB12 := Lib.hid (HB11.out.setCell (p := ⟨w.heap.size, 6, none⟩) (Nat.le_refl _) (.slice a9 he.length c9))
  clear x0 x1 x2 x3 x4 x5 x6 f0 f1 f2 f3 f4 f5 f6
  generalize w11.setCell ⟨w.heap.size, 6, none⟩ (.slice a9 he.length c9) = w12 at *
  refine hK _ _ ⟨fun _ => True, .inr (lastQ_of (by kernel_rfl)), trivial, ?_⟩
  clear hK K
  try simp only [Act.put, List.setIfInBounds_toArray, List.set_cons_zero, List.set_cons_succ]
  refine wpL_end [] (by kernel_rfl) (by intro c a d v w h; cases d <;> exact h) (by kernel_rfl) (by kernel_rfl) trivial ?_
  try simp only [maskRows]
  refine wpQuiet_nil ?_
  obtain ⟨⟨x0, x1, x2, x3, x4, x5, x6⟩, f0, f1, f2, f3, f4, f5, f6⟩ := row7_of HX12.out
  obtain ⟨⟨r0', r1', r2', r3', r4', r5', r6'⟩, q0, q1, q2, q3, q4, q5, q6⟩ := row7_of HR12.out
  have HFR := Lib.hid (sa_set HR12.out (.int .i64 id) (.bool al) (.int .i64 sq) (.int .i64 mo) (.slice a6 ow.length c6) (.slice a8 bu.length c8) (.slice a9 he.length c9))
  have HFB := Lib.hid (sa_setB HB12.out (b := w.heap.size + 1) (by omega) (.int .i64 id) (.bool al) (.int .i64 sq) (.int .i64 mo) (.slice a6 ow.length c6) (.slice a8 bu.length c8) (.slice a9 he.length c9))
  have HFO := Lib.hid (show SaO (set7 w12 (w.heap.size + 1) (.int .i64 id) (.bool al) (.int .i64 sq) (.int .i64 mo) (.slice a6 ow.length c6) (.slice a8 bu.length c8) (.slice a9 he.length c9)) (w.heap.size + 2) w6.heap.size w8.heap.size ⟨id, al, sq, mo, ow, bu, he⟩ (.slice a6 ow.length c6) (.slice a8 bu.length c8) (.slice a9 he.length c9) us8 from by
    have hx : ∀ g, W.heap.size ≤ g → ¬ (g = w.heap.size ∨ g = w.heap.size + 1) := fun g hg e => by have := HSZ.out; omega
    have h1 := ((HSO.out.keep HK10.out hx).keep HK11.out hx).keep HK12.out hx
    have h2 := h1.keep (show KeepX (fun k => k = w.heap.size ∨ k = w.heap.size + 1) w12 (set7 w12 (w.heap.size + 1) (.int .i64 id) (.bool al) (.int .i64 sq) (.int .i64 mo) (.slice a6 ow.length c6) (.slice a8 bu.length c8) (.slice a9 he.length c9)) from ((((((((KeepX.refl _ w12).set (w.heap.size + 1) 0 _ (.inr rfl)).set (w.heap.size + 1) 1 _ (.inr rfl)).set (w.heap.size + 1) 2 _ (.inr rfl)).set (w.heap.size + 1) 3 _ (.inr rfl)).set (w.heap.size + 1) 4 _ (.inr rfl)).set (w.heap.size + 1) 5 _ (.inr rfl)).set (w.heap.size + 1) 6 _ (.inr rfl))) hx
    rw [HSZ.out] at h2
    exact h2)
  clear HSO HK10 HK11 HK12
  go_wp2
  refine bodyPost_ret (v := saV ⟨id, al, sq, mo, ow, bu, he⟩ (.slice a6 ow.length c6) (.slice a8 bu.length c8) (.slice a9 he.length c9)) ?_ rfl ⟨_, _, _, _, _, us8, rfl, HFO.out, HFB.out⟩
  rw [results_cell (p := 2) (ty := 28) (by kernel_rfl)]
  have l2 := sa_load HFR.out
  simp [asAddr, Result.andThen, l2, saV]
end Go.Proofs.Ytjggheoonjajpaa
namespace Go.Proofs.Ytjggheoonjajpaa
open Go.ChangeShapes Go.WideShapes Go.ChangeAt Go.RowKit Go.BigFrame
set_option linter.unusedVariables false
set_option linter.unusedSimpArgs false

/-- the one panic of the chapter -/
def panD : Value := .string ⟨#[97, 32, 115, 116, 97, 116, 105, 111, 110, 32, 105, 115, 32, 97, 115, 107, 101, 100, 32, 102, 111, 114, 32, 119, 104, 97, 116, 32, 105, 116, 32, 100, 111, 101, 115, 110, 39, 116, 32, 100, 111]⟩
set_option maxRecDepth 100000 in
theorem idemand_yes (w : World) : Calls Try.prog 50 #[.bool true] w fun e w' => e = .returned (.tuple #[]) ∧ w' = w := by
  go_enter Try.func50, Try.ntmps50
  go_wp2
  go_end0
  exact ⟨rfl, rfl⟩
set_option maxRecDepth 100000 in
theorem idemand_no (w : World) : Calls Try.prog 50 #[.bool false] w fun e w' => e = .panicked [{ v := .iface 9 panD, recovered := false }] ∧ w' = w := by
  go_enter Try.func50, Try.ntmps50
  go_wp2
  exact ⟨rfl, rfl, rfl⟩
end Go.Proofs.Ytjggheoonjajpaa
namespace Go.Proofs.Ytjggheoonjajpaa
open Go.ChangeShapes Go.WideShapes Go.ChangeAt Go.RowKit Go.BigFrame
set_option linter.unusedVariables false
set_option linter.unusedSimpArgs false

theorem SaB.bounds {s : Stn} (h : SaB s) : s.buf.length ≤ 1900000 ∧ (∀ x ∈ s.buf, x.1.length ≤ 1900000) ∧ s.heard.length ≤ 1900000 :=
  ⟨by have := h.nb; omega, fun x hx => by have := (h.xb x hx).1; omega, by have := h.nh; omega⟩
end Go.Proofs.Ytjggheoonjajpaa
namespace Go.Proofs.Ytjggheoonjajpaa
open Go.ChangeShapes Go.WideShapes Go.ChangeAt Go.RowKit Go.BigFrame
set_option linter.unusedVariables false
set_option linter.unusedSimpArgs false

set_option maxRecDepth 100000 in
set_option maxHeartbeats 2000000 in
theorem icatche_panic (bx bl bb : Nat) (ux : Value) (yx : ByteArray) (l b0 : Int) (u : TypeId) (pv : Value) (older : List PanicEntry) (w : World)
    (hx : w.heap[bx]? = some (.cells #[ux, .string yx] 42 (0, 0))) (hl : w.heap[bl]? = some (.cells #[.int .i64 l] 3 (0, 0))) (hb : w.heap[bb]? = some (.cells #[.int .i64 b0] 3 (0, 0))) (n1 : bx ≠ bl) (n2 : bx ≠ bb) (n3 : bl ≠ bb) :
    CallsD Try.prog 77 #[.pointer (some ⟨bx, 0, none⟩), .pointer (some ⟨bl, 0, none⟩), .pointer (some ⟨bb, 0, none⟩)] (.panicking ({ v := .iface u pv, recovered := false } :: older)) w fun e u' w' =>
      e = .returned (.tuple #[]) ∧ u' = .panicking ({ v := .iface u pv, recovered := true } :: older) ∧ w'.heap[bx]? = some (.cells #[.slice none 0 0, .string z4] 42 (0, 0)) ∧ w'.heap[bb]? = some (.cells #[.int .i64 l] 3 (0, 0)) ∧ KeepX (fun k => k = bx ∨ k = bb) w w' := by
  refine callsD_of_wpS Try.func77 rfl fun c₀ cs hu => ?_
  apply wpS_seq
  apply wpS_region
  simp [wpOpsS, go_sem, recoverD, hu, Try.ntmps77, Exit.thenS]
  refine wpS_cond (t := true) (by simp [Act.eval, Array.replicate]) ?_
  simp only [if_true]
  refine wpS_of_wp ?_
  change Code.wp Try.prog _ _ { tmps := #[.pointer (some ⟨bx, 0, none⟩), .pointer (some ⟨bl, 0, none⟩), .pointer (some ⟨bb, 0, none⟩), .iface u pv, .bool true, undef, undef, undef], defers := [] } w
  have LX : ∀ w', Below w.heap.size w w' → (loadVar 42 ⟨bx, 0, none⟩).run Try.prog w' = .ok (.agg #[ux, .string yx]) w' := fun w' h => cd_load_b hx h
  have hlt := (Array.getElem?_eq_some_iff.1 hl).1
  have LL : ∀ w', Below w.heap.size w w' → (loadVar 3 ⟨bl, 0, none⟩).run Try.prog w' = .ok (.int .i64 l) w' := fun w' h => ld_int ((h.cell (p := ⟨bl, 0, none⟩) hlt).trans (cell_of_row _ _ _ _ _ _ hl))
  have HBC := Lib.hid (Below.refl w.heap.size w).drew
  refine wp_region_L [] (fun wx => Below w.heap.size w wx) (by kernel_rfl) ?_
  refine wpL_seg [true, false, true] [1] 2 (by kernel_rfl) (by intro c a d v w h; cases d <;> exact h) (by kernel_rfl) (by kernel_rfl) HBC.out ?_
  try simp only [maskRows]
  repeat (first
    | go_big_quiet_skip
    | (go_big_quiet_want
       first
         | (refine q_load 42 _ ⟨bx, 0, none⟩ _ rfl rfl LX ?_; simp only [Act.put, List.setIfInBounds_toArray, List.set_cons_zero, List.set_cons_succ]; go_big_quiet_on)
         | (refine q_load 3 _ ⟨bl, 0, none⟩ _ rfl rfl LL ?_; simp only [Act.put, List.setIfInBounds_toArray, List.set_cons_zero, List.set_cons_succ]; go_big_quiet_on)
         | (go_big_quiet_op; go_big_quiet_on)
         | (go_big_quiet_op; refine ⟨_, fun _ _ => rfl, ?_⟩; go_big_quiet_on)
         | (go_big_quiet_op; refine ⟨_, fun _ _ _ => rfl, ?_⟩; go_big_quiet_on)))
  refine wpQuiet_nil ?_
  refine List.forall_mem_singleton.2 ?_
  refine segl_run rfl (by rfl) (fun K hK => ?_)
  go_simp
  refine (iblank_any _ _ _).mono ?_
  rintro e w1 ⟨rfl, hb1⟩
  dsimp only
  replace HBC := Lib.hid (HBC.out.trans (hb1.mono HBC.out.size))
  have HX1 := Lib.hid ((HBC.out.block _ (Array.getElem?_eq_some_iff.1 hx).1).trans hx)
  have HB1 := Lib.hid ((HBC.out.block _ (Array.getElem?_eq_some_iff.1 hb).1).trans hb)
  have HK1 := Lib.hid (KeepX.below (X := fun k => k = bx ∨ k = bb) HBC.out)
  clear hb1 LX LL hlt
  refine hK _ _ ⟨_, .inl (fun _ h => h), HBC.out, ?_⟩
  clear hK K
  try simp only [Act.put, List.setIfInBounds_toArray, List.set_cons_zero, List.set_cons_succ]
  refine wpL_seg [] [3] 1 (by kernel_rfl) (by intro c a d v w h; cases d <;> exact h) (by kernel_rfl) (by kernel_rfl) HBC.out ?_
  try simp only [maskRows]
  refine wpQuiet_nil ?_
  refine List.forall_mem_singleton.2 ?_
  obtain ⟨y0, y1, f0, f1⟩ := row2_of HX1.out
  refine segl_run rfl (by rfl) (fun K hK => ?_)
  go_simp
  have HX2 := Lib.hid (set2 (.slice none 0 0) (.string z4) HX1.out)
  have HK2 := Lib.hid ((HK1.out.set bx 0 (.slice none 0 0) (.inl rfl)).set bx 1 (.string z4) (.inl rfl))
  have HB2 := Lib.hid ((Below.heap_setCell _ ⟨bx, 1, none⟩ (.string z4) bb (by show bb ≠ bx; exact fun e => n2 e.symm)).trans ((Below.heap_setCell _ ⟨bx, 0, none⟩ (.slice none 0 0) bb (by show bb ≠ bx; exact fun e => n2 e.symm)).trans HB1.out))
  clear y0 y1 f0 f1
  generalize (w1.setCell ⟨bx, 0, none⟩ (.slice none 0 0)).setCell ⟨bx, 1, none⟩ (.string z4) = w2 at *
  refine hK _ _ ⟨fun _ => True, .inr (lastQ_of (by kernel_rfl)), trivial, ?_⟩
  clear hK K
  try simp only [Act.put, List.setIfInBounds_toArray, List.set_cons_zero, List.set_cons_succ]
  refine wpL_seg [] [4] 0 (by kernel_rfl) (by intro c a d v w h; cases d <;> exact h) (by kernel_rfl) (by kernel_rfl) trivial ?_
  try simp only [maskRows]
  refine wpQuiet_nil ?_
  refine List.forall_mem_singleton.2 ?_
  have y0 := cell_of_row _ _ 0 _ _ _ HB2.out
  have f0 := frozen_of_row _ _ 0 _ _ HB2.out
  refine segl_run rfl (by rfl) (fun K hK => ?_)
  go_simp
  have HX3 := Lib.hid ((Below.heap_setCell w2 ⟨bb, 0, none⟩ (.int .i64 l) bx (by show bx ≠ bb; exact n2)).trans HX2.out)
  have HK3 := Lib.hid (HK2.out.set bb 0 (.int .i64 l) (.inr rfl))
  have HB3 := Lib.hid (set_cellsR (j := 0) (.int .i64 l) HB2.out)
  clear y0 f0
  generalize w2.setCell ⟨bb, 0, none⟩ (.int .i64 l) = w3 at *
  refine hK _ _ ⟨fun _ => True, .inr (lastQ_of (by kernel_rfl)), trivial, ?_⟩
  clear hK K
  try simp only [Act.put, List.setIfInBounds_toArray, List.set_cons_zero, List.set_cons_succ]
  refine wpL_end [] (by kernel_rfl) (by intro c a d v w h; cases d <;> exact h) (by kernel_rfl) (by kernel_rfl) trivial ?_
  try simp only [maskRows]
  refine wpQuiet_nil ?_
  refine ⟨rfl, _, rfl, .tuple #[], ?_, rfl, rfl, HX3.out, HB3.out, HK3.out⟩
  simp [results, Try.results77, go_sem]
end Go.Proofs.Ytjggheoonjajpaa
namespace Go.Proofs.Ytjggheoonjajpaa
open Go.ChangeShapes Go.WideShapes Go.ChangeAt Go.RowKit Go.BigFrame
set_option linter.unusedVariables false
set_option linter.unusedSimpArgs false

set_option maxRecDepth 100000 in
set_option maxHeartbeats 1000000 in
theorem ichoice_nil (b : Nat) (deg : Int) (ao ab : Option Addr) (ap ac : Nat) (w : World) (h3 : w.cell? ⟨b, 3, none⟩ = some (.slice ao 0 ap)) (h4 : w.cell? ⟨b, 4, none⟩ = some (.slice ab 0 ac)) :
    Calls Try.prog 79 #[.pointer (some ⟨b, 2, none⟩), .int .i64 deg] w fun e w' => e = .returned (.slice none 0 0) ∧ w' = w := by
  go_enter Try.func79, Try.ntmps79
  go_wp2
  go_loopw [5, 15] (fun c i wr => c = .slice none 0 0 ∧ i = .int .i64 0 ∧ wr = w) (fun _ _ _ => 0)
  case atStart => exact ⟨rfl, rfl, rfl⟩
  case round =>
    obtain ⟨rfl, rfl, rfl⟩ := hrel
    go_wp2
    go_loopw [5, 30] (fun c i wr' => c = .slice none 0 0 ∧ i = .int .i64 0 ∧ wr' = wr) (fun _ _ _ => 0)
    case atStart => exact ⟨rfl, rfl, rfl⟩
    case round =>
      obtain ⟨rfl, rfl, rfl⟩ := hrel
      go_wp2
      go_ret
      exact ⟨rfl, rfl⟩
end Go.Proofs.Ytjggheoonjajpaa
namespace Go.Proofs.Ytjggheoonjajpaa
open Go.ChangeShapes Go.WideShapes Go.ChangeAt Go.RowKit Go.BigFrame
set_option linter.unusedVariables false
set_option linter.unusedSimpArgs false

set_option maxRecDepth 100000 in
set_option maxHeartbeats 4000000 in
/-- a right one that is alive: its worker, in memory of its own -/
theorem iawake_yes (s : Stn) (vo vb vh : Value) (w : World) (h : SaL w s vo vb vh) (hB : SaB s) (hyes : (stOkB s && s.alive) = true) :
    Calls Try.prog 47 #[saV s vo vb vh] w fun e w' => ∃ b m1 m2 vo' vb' vh' us', e = .returned (.pointer (some ⟨b, 0, none⟩)) ∧ w'.heap[b]? = some (.cells #[.int .i64 s.id, .int .i64 s.seq, .int .i64 s.most, vo', vb', vh'] 87 (0, 0)) ∧
      SaO w' (w.heap.size + 1) m1 m2 s vo' vb' vh' us' ∧ w.heap.size < b ∧ (∀ g, vo'.ownBlock = some g → g < b) ∧ (∀ g, vb'.ownBlock = some g → g < b) ∧ (∀ i, i < s.buf.length → ∀ g, (us'.getD i undef).ownBlock = some g → g < b) ∧ (∀ g, vh'.ownBlock = some g → g < b) ∧ Below w.heap.size w w' := by
  have HSO := Lib.hid (fun wx (hb : Below w.heap.size w wx) => istationok_any s vo vb vh wx (h.below hb) hB.bounds.1 hB.bounds.2.1 hB.bounds.2.2)
  have HCS := Lib.hid (fun wx (hb : Below w.heap.size w wx) => icopystation_any s vo vb vh wx (h.below hb) hB)
  have HY := Lib.hid (show stOkB s = true ∧ s.alive = true by simpa using hyes)
  generalize stOkB s = bb at *
  clear hB hyes
  obtain ⟨id, al, sq, mo, ow, bu, he⟩ := s
  obtain ⟨⟨ao, ap, rfl, -, -⟩, ⟨ab, ac, rfl, -, -⟩, ⟨ah, ai, rfl, -, -⟩⟩ := h
  unfold saV at *
  dsimp only at *
  have hb0 := (Below.refl w.heap.size w).alloc (Nat.le_refl _) (.cells #[.int .i64 id, .bool al, .int .i64 sq, .int .i64 mo, .slice ao ow.length ap, .slice ab bu.length ac, .slice ah he.length ai] 28)
  have HX := Lib.hid (heap_alloc_new w (.cells #[.int .i64 id, .bool al, .int .i64 sq, .int .i64 mo, .slice ao ow.length ap, .slice ab bu.length ac, .slice ah he.length ai] 28))
  have HB := Lib.hid hb0
  clear hb0
  go_enter Try.func47, Try.ntmps47
  go_upto_region 1 with (fail)
  generalize w.alloc (.cells #[.int .i64 id, .bool al, .int .i64 sq, .int .i64 mo, .slice ao ow.length ap, .slice ab bu.length ac, .slice ah he.length ai] 28) = W at *
  obtain ⟨⟨x0, x1, x2, x3, x4, x5, x6⟩, -⟩ := row7_of HX.out
  go_wp2_with fail
  refine (HSO.out _ HB.out).mono ?_
  rintro e w1 ⟨rfl, hb1⟩
  have HB1 := Lib.hid (HB.out.trans (hb1.mono HB.out.size))
  have HX1 := Lib.hid ((hb1.block _ (Array.getElem?_eq_some_iff.1 HX.out).1).trans HX.out)
  clear x0 x1 x2 x3 x4 x5 x6 hb1 HSO
  obtain ⟨⟨x0, x1, x2, x3, x4, x5, x6⟩, -⟩ := row7_of HX1.out
  obtain ⟨hy1, hy2⟩ := HY.out
  subst hy1
  subst hy2
  clear HY
  go_wp2_with fail
  refine (idemand_yes _).mono ?_
  rintro e w2 ⟨rfl, rfl⟩
  go_wp2_with fail
  refine (HCS.out _ HB1.out).mono ?_
  rintro e w3 ⟨m1, m2, vo2, vb2, vh2, us2, rfl, hs3, hb3⟩
  have hsz := HB1.out.size
  obtain ⟨ao2, no2, ap2, rfl⟩ := own_shape hs3.own
  obtain ⟨ab2, nb2, ac2, rfl⟩ := own_shape hs3.cd.own
  obtain ⟨ah2, nh2, ai2, rfl⟩ := own_shape hs3.heard
  obtain rfl : no2 = ow.length := own_lenS hs3.own
  obtain rfl : nb2 = bu.length := own_lenS hs3.cd.own
  obtain rfl : nh2 = he.length := own_lenS hs3.heard
  have HB3 := Lib.hid (HB1.out.trans (hb3.mono HB1.out.size))
  clear x0 x1 x2 x3 x4 x5 x6
  have hb4 := (Below.refl w3.heap.size w3).alloc (Nat.le_refl _) (.cells #[.int .i64 id, .bool true, .int .i64 sq, .int .i64 mo, .slice ao2 ow.length ap2, .slice ab2 bu.length ac2, .slice ah2 he.length ai2] 28)
  have HY4 := Lib.hid (heap_alloc_new w3 (.cells #[.int .i64 id, .bool true, .int .i64 sq, .int .i64 mo, .slice ao2 ow.length ap2, .slice ab2 bu.length ac2, .slice ah2 he.length ai2] 28))
  have HB4 := Lib.hid (HB3.out.trans (hb4.mono HB3.out.size))
  have HS4 := Lib.hid (hs3.below hb4)
  have HLT := Lib.hid (show (∀ g, (Value.slice ao2 ow.length ap2).ownBlock = some g → g < w3.heap.size) ∧ (∀ g, (Value.slice ab2 bu.length ac2).ownBlock = some g → g < w3.heap.size) ∧ (∀ i, i < bu.length → ∀ g, (us2.getD i undef).ownBlock = some g → g < w3.heap.size) ∧ (∀ g, (Value.slice ah2 he.length ai2).ownBlock = some g → g < w3.heap.size) from
    ⟨fun g e => (hs3.own.lt g e).2, fun g e => (hs3.cd.own.lt g e).2, fun i hi g e => ((hs3.cd.keys i hi).lt g e).2, fun g e => (hs3.heard.lt g e).2⟩)
  have HW0 := Lib.hid (show w.heap.size + 1 ≤ w2.heap.size + 2 ∧ w.heap.size < w3.heap.size from ⟨by omega, by have := hb3.size; have := (Array.getElem?_eq_some_iff.1 HX1.out).1; omega⟩)
  clear hs3 hb3 hb4 hsz
  go_upto_region 3 with (fail)
  generalize w3.alloc (.cells #[.int .i64 id, .bool true, .int .i64 sq, .int .i64 mo, .slice ao2 ow.length ap2, .slice ab2 bu.length ac2, .slice ah2 he.length ai2] 28) = W4 at *
  obtain ⟨⟨x0, x1, x2, x3, x4, x5, x6⟩, -⟩ := row7_of HY4.out
  have hb5 := (Below.refl W4.heap.size W4).alloc (Nat.le_refl _) (.cells #[.int .i64 id, .int .i64 sq, .int .i64 mo, .slice ao2 ow.length ap2, .slice ab2 bu.length ac2, .slice ah2 he.length ai2] 87)
  have HZ5 := Lib.hid (heap_alloc_new W4 (.cells #[.int .i64 id, .int .i64 sq, .int .i64 mo, .slice ao2 ow.length ap2, .slice ab2 bu.length ac2, .slice ah2 he.length ai2] 87))
  have HB5 := Lib.hid (HB4.out.trans (hb5.mono HB4.out.size))
  have HS5 := Lib.hid ((HS4.out.below hb5).base HW0.out.1)
  have HL5 := Lib.hid (show w3.heap.size < W4.heap.size from (Array.getElem?_eq_some_iff.1 HY4.out).1)
  clear hb5
  go_wp2
  go_ret
  exact ⟨_, m1, m2, _, _, _, us2, rfl, HZ5.out, HS5.out, by have := HL5.out; have := HW0.out.2; omega, fun g e => by have := HLT.out.1 g e; have := HL5.out; omega, fun g e => by have := HLT.out.2.1 g e; have := HL5.out; omega, fun i hi g e => by have := HLT.out.2.2.1 i hi g e; have := HL5.out; omega, fun g e => by have := HLT.out.2.2.2 g e; have := HL5.out; omega, HB5.out⟩
end Go.Proofs.Ytjggheoonjajpaa
namespace Go.Proofs.Ytjggheoonjajpaa
open Go.ChangeShapes Go.WideShapes Go.ChangeAt Go.RowKit Go.BigFrame
set_option linter.unusedVariables false
set_option linter.unusedSimpArgs false

set_option maxRecDepth 100000 in
set_option maxHeartbeats 4000000 in
theorem iemit_nil (s : Stn) (vo vb vh : Value) (deg luck : Int) (w : World) (h : SaL w s vo vb vh) (hB : SaB s) (hyes : (stOkB s && s.alive) = true) (ho : s.own = []) (hbu : s.buf = []) (hd1 : 1 ≤ deg) (hd2 : deg ≤ 6) :
    Calls Try.prog 28 #[saV s vo vb vh, .int .i64 deg, .int .i64 luck] w fun e w' => e = .returned (.tuple #[.agg #[.slice none 0 0, .string z4], .int .i64 luck]) ∧ Below w.heap.size w w' := by
  have HAW := Lib.hid (fun wx (hb : Below w.heap.size w wx) => iawake_yes s vo vb vh wx (h.below hb) hB hyes)
  have HO := Lib.hid (And.intro ho hbu)
  clear hB hyes ho hbu
  obtain ⟨id, al, sq, mo, ow, bu, he⟩ := s
  obtain ⟨⟨ao, ap, rfl, -, -⟩, ⟨ab, ac, rfl, -, -⟩, ⟨ah, ai, rfl, -, -⟩⟩ := h
  unfold saV at *
  dsimp only at *
  have hmf : ∀ (fn : Fn) (first cap : Array Value) (w : World), (Instr.makeFunc fn first cap).run Try.prog w = .ok (.func fn first cap) w := fun _ _ _ _ => rfl
  have hb0 := (Below.refl w.heap.size w).alloc (Nat.le_refl _) (.cells #[.int .i64 id, .bool al, .int .i64 sq, .int .i64 mo, .slice ao ow.length ap, .slice ab bu.length ac, .slice ah he.length ai] 28)
  have hb1 := hb0.alloc hb0.size (.cells #[.int .i64 luck] 3)
  have hb2 := hb1.alloc hb1.size (.cells #[.slice none 0 0, .string ⟨#[]⟩] 42)
  have hb3 := hb2.alloc hb2.size (.cells #[.int .i64 0] 3)
  have e1 : (w.alloc (.cells #[.int .i64 id, .bool al, .int .i64 sq, .int .i64 mo, .slice ao ow.length ap, .slice ab bu.length ac, .slice ah he.length ai] 28)).heap.size = w.heap.size + 1 := by simp
  have e2 : ((w.alloc (.cells #[.int .i64 id, .bool al, .int .i64 sq, .int .i64 mo, .slice ao ow.length ap, .slice ab bu.length ac, .slice ah he.length ai] 28)).alloc (.cells #[.int .i64 luck] 3)).heap.size = w.heap.size + 2 := by simp
  have e3 : (((w.alloc (.cells #[.int .i64 id, .bool al, .int .i64 sq, .int .i64 mo, .slice ao ow.length ap, .slice ab bu.length ac, .slice ah he.length ai] 28)).alloc (.cells #[.int .i64 luck] 3)).alloc (.cells #[.slice none 0 0, .string ⟨#[]⟩] 42)).heap.size = w.heap.size + 3 := by simp
  have hS := (Below.heap_alloc (((w.alloc (.cells #[.int .i64 id, .bool al, .int .i64 sq, .int .i64 mo, .slice ao ow.length ap, .slice ab bu.length ac, .slice ah he.length ai] 28)).alloc (.cells #[.int .i64 luck] 3)).alloc (.cells #[.slice none 0 0, .string ⟨#[]⟩] 42)) (.cells #[.int .i64 0] 3) w.heap.size (by rw [e3]; omega)).trans ((Below.heap_alloc ((w.alloc (.cells #[.int .i64 id, .bool al, .int .i64 sq, .int .i64 mo, .slice ao ow.length ap, .slice ab bu.length ac, .slice ah he.length ai] 28)).alloc (.cells #[.int .i64 luck] 3)) (.cells #[.slice none 0 0, .string ⟨#[]⟩] 42) w.heap.size (by rw [e2]; omega)).trans (heap_first w (.cells #[.int .i64 luck] 3) (.cells #[.int .i64 id, .bool al, .int .i64 sq, .int .i64 mo, .slice ao ow.length ap, .slice ab bu.length ac, .slice ah he.length ai] 28)))
  have hL := (Below.heap_alloc (((w.alloc (.cells #[.int .i64 id, .bool al, .int .i64 sq, .int .i64 mo, .slice ao ow.length ap, .slice ab bu.length ac, .slice ah he.length ai] 28)).alloc (.cells #[.int .i64 luck] 3)).alloc (.cells #[.slice none 0 0, .string ⟨#[]⟩] 42)) (.cells #[.int .i64 0] 3) (w.alloc (.cells #[.int .i64 id, .bool al, .int .i64 sq, .int .i64 mo, .slice ao ow.length ap, .slice ab bu.length ac, .slice ah he.length ai] 28)).heap.size (by rw [e3, e1]; omega)).trans (heap_first (w.alloc (.cells #[.int .i64 id, .bool al, .int .i64 sq, .int .i64 mo, .slice ao ow.length ap, .slice ab bu.length ac, .slice ah he.length ai] 28)) (.cells #[.slice none 0 0, .string ⟨#[]⟩] 42) (.cells #[.int .i64 luck] 3))
  have hC := heap_first ((w.alloc (.cells #[.int .i64 id, .bool al, .int .i64 sq, .int .i64 mo, .slice ao ow.length ap, .slice ab bu.length ac, .slice ah he.length ai] 28)).alloc (.cells #[.int .i64 luck] 3)) (.cells #[.int .i64 0] 3) (.cells #[.slice none 0 0, .string ⟨#[]⟩] 42)
  have hD := heap_alloc_new (((w.alloc (.cells #[.int .i64 id, .bool al, .int .i64 sq, .int .i64 mo, .slice ao ow.length ap, .slice ab bu.length ac, .slice ah he.length ai] 28)).alloc (.cells #[.int .i64 luck] 3)).alloc (.cells #[.slice none 0 0, .string ⟨#[]⟩] 42)) (.cells #[.int .i64 0] 3)
  rw [e1] at hL
  rw [e2] at hC
  rw [e3] at hD
  have HB := Lib.hid hb3; have HX := Lib.hid hS; have HL := Lib.hid hL; have HC := Lib.hid hC; have HD := Lib.hid hD
  clear hb0 hb1 hb2 hb3 e1 e2 e3 hS hL hC hD
  go_enter_defers Try.func28, Try.ntmps28
  go_upto_region 2 with (fail)
  generalize ((((w.alloc (.cells #[.int .i64 id, .bool al, .int .i64 sq, .int .i64 mo, .slice ao ow.length ap, .slice ab bu.length ac, .slice ah he.length ai] 28)).alloc (.cells #[.int .i64 luck] 3)).alloc (.cells #[.slice none 0 0, .string ⟨#[]⟩] 42)).alloc (.cells #[.int .i64 0] 3)) = W at *
  obtain ⟨⟨x0, x1, x2, x3, x4, x5, x6⟩, -⟩ := row7_of HX.out
  go_wp2_with fail
  refine (HAW.out _ HB.out).mono ?_
  rintro e w1 ⟨b, m1, m2, vo2, vb2, vh2, us2, rfl, hrow, hso, hbg, -, -, -, -, hb1⟩
  obtain ⟨ao2, no2, ap2, rfl⟩ := own_shape hso.own
  obtain rfl : no2 = 0 := by have h9 := own_lenS hso.own; rw [HO.out.1] at h9; simpa using h9
  obtain ⟨ab2, nb2, ac2, rfl⟩ := own_shape hso.cd.own
  obtain rfl : nb2 = 0 := by have h9 := own_lenS hso.cd.own; rw [HO.out.2] at h9; simpa using h9
  have c3 : w1.cell? ⟨b, 3, none⟩ = some (.slice ao2 0 ap2) := by rw [cell_of_row _ _ 3 _ _ _ hrow]; rfl
  have c4 : w1.cell? ⟨b, 4, none⟩ = some (.slice ab2 0 ac2) := by rw [cell_of_row _ _ 4 _ _ _ hrow]; rfl
  clear x0 x1 x2 x3 x4 x5 x6 hso hbg hrow
  go_wp2_with fail
  refine (idemand_yes _).mono ?_
  rintro e w2 ⟨rfl, rfl⟩
  go_wp2_with fail
  refine (ichoice_nil b deg _ _ _ _ _ c3 c4).mono ?_
  rintro e w2 ⟨rfl, rfl⟩
  clear c3 c4
  go_wp2_with fail
  refine (idemand_no _).mono ?_
  rintro e w2 ⟨rfl, rfl⟩
  have q1 := (hb1.block _ (Array.getElem?_eq_some_iff.1 HL.out).1).trans HL.out
  have q2 := (hb1.block _ (Array.getElem?_eq_some_iff.1 HC.out).1).trans HC.out
  have q3 := (hb1.block _ (Array.getElem?_eq_some_iff.1 HD.out).1).trans HD.out
  have hbw := HB.out.trans (hb1.mono HB.out.size)
  refine leaves_cons (f := 77) (args := #[.pointer (some ⟨w.heap.size + 2, 0, none⟩), .pointer (some ⟨w.heap.size + 1, 0, none⟩), .pointer (some ⟨w.heap.size + 3, 0, none⟩)]) (by simp) (by simp [go_sem]) ?_
  refine (icatche_panic (w.heap.size + 2) (w.heap.size + 1) (w.heap.size + 3) _ _ luck 0 _ _ [] _ q2 q1 q3 (by omega) (by omega) (by omega)).mono ?_
  rintro e u' w'' ⟨rfl, rfl, hx9, hb9, hk9⟩
  have l1 : (loadVar 42 ⟨w.heap.size + 1 + 1, 0, none⟩).run Try.prog w'' = .ok (.agg #[.slice none 0 0, .string z4]) w'' := cd_load_b hx9 (Below.refl _ _)
  have l2 : (loadVar 3 ⟨w.heap.size + 1 + 1 + 1, 0, none⟩).run Try.prog w'' = .ok (.int .i64 luck) w'' := ld_int (cell_of_row _ _ 0 _ _ _ hb9)
  refine ⟨.tuple #[.agg #[.slice none 0 0, .string z4], .int .i64 luck], ?_, rfl, hk9.toBelow hbw hbw.size (fun k hk => by rcases hk with rfl | rfl <;> omega)⟩
  rw [results_cell_cell (p := 6) (q := 7) (ty := 42) (tz := 3) (by kernel_rfl)]
  simp [asAddr, Result.andThen, l1, l2]
end Go.Proofs.Ytjggheoonjajpaa
namespace Go.Proofs.Ytjggheoonjajpaa
open Go.ChangeShapes Go.WideShapes Go.ChangeAt Go.RowKit Go.BigFrame
set_option linter.unusedVariables false
set_option linter.unusedSimpArgs false

set_option maxRecDepth 100000 in
set_option maxHeartbeats 4000000 in
theorem fnnewstation_walk (a0 : Option Addr) (len0 cap0 : Nat) (z0 : List Int) (w : World) (w0 : IsRow .u8 w a0 len0 cap0 z0) :
    Calls Try.prog 5 #[.slice a0 len0 cap0] w fun e w' => e = .returned (.bool true) ∧ Below w.heap.size w w' := by
  by_cases hbig : len0 ≤ 1048576
  · have hc := codeAt_of w0 hbig
    have B1 := Lib.hid (fun w => big_any a0 len0 cap0 w hbig)
    have D1 := Lib.hid (fun (w' : World) (e : w' = w) => by subst e; exact drawnewstation_any len0 cap0 a0 z0 w' hc)
    clear w0 hc
    go_enter Try.func5, Try.ntmps5
    go_wp2_with fail
    refine (B1.out _).mono ?_
    rintro e w1 ⟨rfl, rfl⟩
    clear B1
    go_wp2_with fail
    refine (D1.out _ rfl).mono ?_
    rintro e w2 ⟨l, n, rfl, hb2⟩
    have HB2 := Lib.hid hb2
    clear D1 hb2
    have HI := Lib.hid (fun wx => inewstation_any l n wx)
    have HS := Lib.hid (fun wx => snewstation_any l n wx)
    have HLL := Lib.hid (show (newStM l n).own = [] ∧ (newStM l n).buf = [] ∧ (newStM l n).heard = [] by unfold newStM; split <;> exact ⟨rfl, rfl, rfl⟩)
    have HNL := Lib.hid (fun wx => show SaL wx (newStM l n) (.slice none 0 0) (.slice none 0 0) (.slice none 0 0) from ⟨by rw [HLL.out.1]; exact ⟨none, 0, rfl, Nat.le_refl _, .inl rfl⟩, by rw [HLL.out.2.1]; exact ⟨none, 0, rfl, Nat.le_refl _, .inl rfl⟩, by rw [HLL.out.2.2]; exact inAt_nil wx⟩)
    have HSM := Lib.hid (fun wx => samestation_self (newStM l n) (.slice none 0 0) (.slice none 0 0) (.slice none 0 0) (.slice none 0 0) (.slice none 0 0) (.slice none 0 0) wx (HNL.out wx) (HNL.out wx) (by rw [HLL.out.1]; simp) (by rw [HLL.out.2.1]; simp) (by rw [HLL.out.2.1]; intro x hx; cases hx) (by rw [HLL.out.2.2]; simp))
    have HOK := Lib.hid (fun wx => istationok_any (newStM l n) (.slice none 0 0) (.slice none 0 0) (.slice none 0 0) wx (HNL.out wx) (by rw [HLL.out.2.1]; simp) (by rw [HLL.out.2.1]; intro x hx; cases hx) (by rw [HLL.out.2.2]; simp))
    have HEM := Lib.hid (fun wx (hy : (stOkB (newStM l n) && (newStM l n).alive) = true) => iemit_nil (newStM l n) (.slice none 0 0) (.slice none 0 0) (.slice none 0 0) 1 7 wx (HNL.out wx) ⟨(by rw [HLL.out.1]; simp), (by rw [HLL.out.1]; intro r hr; cases hr), (by rw [HLL.out.2.1]; simp), (by rw [HLL.out.2.1]; intro x hx; cases hx), (by rw [HLL.out.2.2]; simp)⟩ hy HLL.out.1 HLL.out.2.1 (by omega) (by omega))
    have HV1 := Lib.hid (fun (hv : idB l = true ∧ 1 ≤ n ∧ n ≤ 6) => show newStM l n = ⟨l, true, 0, n, [], [], []⟩ ∧ stOkB (newStM l n) = true from by
      have e : newStM l n = ⟨l, true, 0, n, [], [], []⟩ := by unfold newStM; rw [if_pos hv]
      exact ⟨e, by rw [e, newSt_ok]; exact decide_eq_true hv⟩)
    have HV2 := Lib.hid (fun (hv : ¬ (idB l = true ∧ 1 ≤ n ∧ n ≤ 6)) => show newStM l n = noStn ∧ stOkB (newStM l n) = false from by
      have e : newStM l n = noStn := by unfold newStM; rw [if_neg hv]
      exact ⟨e, by rw [e]; exact noSt_ok⟩)
    clear HLL HNL
    generalize newStM l n = sx at *
    obtain ⟨i0, a0', s0, m0, o0, b0, h0⟩ := sx
    unfold saV at *
    dsimp only at *
    generalize stOkB ⟨i0, a0', s0, m0, o0, b0, h0⟩ = ok at *
    go_wp2_with fail
    refine (HI.out _).mono ?_
    rintro e w3 ⟨rfl, hb3⟩
    have HB3 := Lib.hid (HB2.out.trans (hb3.mono HB2.out.size))
    have hba := (Below.refl w3.heap.size w3).alloc (Nat.le_refl _) (.cells #[.int .i64 i0, .bool a0', .int .i64 s0, .int .i64 m0, .slice none 0 0, .slice none 0 0, .slice none 0 0] 28)
    have HX := Lib.hid (heap_alloc_new w3 (.cells #[.int .i64 i0, .bool a0', .int .i64 s0, .int .i64 m0, .slice none 0 0, .slice none 0 0, .slice none 0 0] 28))
    have HB4 := Lib.hid (HB3.out.trans (hba.mono HB3.out.size))
    clear hb3 hba HI
    go_upto_region 5 with (fail)
    generalize w3.alloc (.cells #[.int .i64 i0, .bool a0', .int .i64 s0, .int .i64 m0, .slice none 0 0, .slice none 0 0, .slice none 0 0] 28) = W at *
    have LX : ∀ w', Below W.heap.size W w' → (loadVar 28 ⟨w3.heap.size, 0, none⟩).run Try.prog w' = .ok (.agg #[.int .i64 i0, .bool a0', .int .i64 s0, .int .i64 m0, .slice none 0 0, .slice none 0 0, .slice none 0 0]) w' := fun w' hb => sa_load ((hb.block _ (Array.getElem?_eq_some_iff.1 HX.out).1).trans HX.out)
    refine wp_region_below W (by kernel_rfl) (by kernel_rfl) (Below.refl _ _) ?_
    repeat (first
      | go_big_quiet_skip
      | (go_big_quiet_want
         first
           | (refine q_load 28 _ ⟨w3.heap.size, 0, none⟩ _ rfl rfl LX ?_; simp only [Act.put, List.setIfInBounds_toArray, List.set_cons_zero, List.set_cons_succ]; go_big_quiet_on)
           | (go_big_quiet_op; go_big_quiet_on)
           | (go_big_quiet_op; refine ⟨_, fun _ _ => rfl, ?_⟩; go_big_quiet_on)
           | (go_big_quiet_op; apply Exists.intro; refine ⟨fun w' hw' => ?_, ?_⟩
              · first
                | (with_reducible refine (HS.out w').mono ?_
                   rintro e w2 ⟨rfl, hb2⟩
                   exact ⟨rfl, hw'.trans (hb2.mono hw'.size)⟩)
                | (with_reducible refine (HSM.out w').mono ?_
                   rintro e w2 ⟨rfl, hb2⟩
                   exact ⟨rfl, hw'.trans (hb2.mono hw'.size)⟩)
              go_big_quiet_on)
           | (go_big_quiet_op; refine ⟨_, fun _ _ _ => rfl, ?_⟩; go_big_quiet_on)))
    refine wpQuiet_nil ?_
    intro w5 hb5
    have HB5 := Lib.hid (HB4.out.trans (hb5.mono HB4.out.size))
    have HX5 := Lib.hid ((hb5.block _ (Array.getElem?_eq_some_iff.1 HX.out).1).trans HX.out)
    clear LX hb5 HS HSM
    obtain ⟨⟨x0, x1, x2, x3, x4, x5, x6⟩, -⟩ := row7_of HX5.out
    by_cases hv : idB l = true ∧ 1 ≤ n ∧ n ≤ 6
    · obtain ⟨e1, e2⟩ := HV1.out hv
      have hid : 1 ≤ l ∧ l ≤ 20 := by have h9 := hv.1; simpa [idB] using h9
      injection e1 with e1 e3 e4 e5 e6 e7 e8
      subst e1; subst e3; subst e4; subst e5; subst e2
      have k1 : ¬ i0 < 1 := by omega
      have k2 : ¬ 20 < i0 := by omega
      have k3 : ¬ m0 < 1 := by omega
      have k4 : ¬ 6 < m0 := by omega
      clear hv hid HV1 HV2
      go_wp2_with fail
      refine (HEM.out _ rfl).mono ?_
      rintro e w6 ⟨rfl, hb6⟩
      have HB6 := Lib.hid (HB5.out.trans (hb6.mono HB5.out.size))
      have HX6 := Lib.hid ((hb6.block _ (Array.getElem?_eq_some_iff.1 HX5.out).1).trans HX5.out)
      clear x0 x1 x2 x3 x4 x5 x6 hb6 HEM
      have hba := (Below.refl w6.heap.size w6).alloc (Nat.le_refl _) (.cells #[.slice none 0 0, .string z4] 42)
      have HY := Lib.hid (heap_alloc_new w6 (.cells #[.slice none 0 0, .string z4] 42))
      have HX7 := Lib.hid ((hba.block _ (Array.getElem?_eq_some_iff.1 HX6.out).1).trans HX6.out)
      have HB7 := Lib.hid (HB6.out.trans (hba.mono HB6.out.size))
      clear hba
      go_upto_region 10 with (fail)
      generalize w6.alloc (.cells #[.slice none 0 0, .string z4] 42) = W7 at *
      obtain ⟨⟨x0, x1, x2, x3, x4, x5, x6⟩, -⟩ := row7_of HX7.out
      go_wp2_with fail
      refine (HOK.out _).mono ?_
      rintro e w8 ⟨rfl, hb8⟩
      have HB8 := Lib.hid (HB7.out.trans (hb8.mono HB7.out.size))
      have HX8 := Lib.hid ((hb8.block _ (Array.getElem?_eq_some_iff.1 HX7.out).1).trans HX7.out)
      have HY8 := Lib.hid ((hb8.block _ (Array.getElem?_eq_some_iff.1 HY.out).1).trans HY.out)
      clear x0 x1 x2 x3 x4 x5 x6 hb8
      obtain ⟨⟨x0, x1, x2, x3, x4, x5, x6⟩, -⟩ := row7_of HX8.out
      obtain ⟨y0, y1, -, -⟩ := row2_of HY8.out
      go_wp2
      go_ret
      exact ⟨rfl, HB8.out⟩
    · obtain ⟨e1, e2⟩ := HV2.out hv
      injection e1 with e1 e3 e4 e5 e6 e7 e8
      subst e1; subst e3; subst e4; subst e5; subst e2
      have hno : l < 1 ∨ 20 < l ∨ n < 1 ∨ 6 < n := by
        have h9 : ¬ ((1 ≤ l ∧ l ≤ 20) ∧ 1 ≤ n ∧ n ≤ 6) := by simpa [idB] using hv
        omega
      clear hv HV1 HV2 HEM
      by_cases k1 : l < 1
      · clear hno
        go_wp2_with fail
        refine (HOK.out _).mono ?_
        rintro e w6 ⟨rfl, hb6⟩
        have HB6 := Lib.hid (HB5.out.trans (hb6.mono HB5.out.size))
        clear hb6
        go_wp2
        go_ret
        exact ⟨rfl, HB6.out⟩
      by_cases k2 : 20 < l
      · clear hno
        go_wp2_with fail
        refine (HOK.out _).mono ?_
        rintro e w6 ⟨rfl, hb6⟩
        have HB6 := Lib.hid (HB5.out.trans (hb6.mono HB5.out.size))
        clear hb6
        go_wp2
        go_ret
        exact ⟨rfl, HB6.out⟩
      by_cases k3 : n < 1
      · clear hno
        go_wp2_with fail
        refine (HOK.out _).mono ?_
        rintro e w6 ⟨rfl, hb6⟩
        have HB6 := Lib.hid (HB5.out.trans (hb6.mono HB5.out.size))
        clear hb6
        go_wp2
        go_ret
        exact ⟨rfl, HB6.out⟩
      have k4 : 6 < n := by omega
      clear hno
      go_wp2_with fail
      refine (HOK.out _).mono ?_
      rintro e w6 ⟨rfl, hb6⟩
      have HB6 := Lib.hid (HB5.out.trans (hb6.mono HB5.out.size))
      clear hb6
      go_wp2
      go_ret
      exact ⟨rfl, HB6.out⟩
  · have B2 := Lib.hid (fun w => big_true a0 len0 cap0 w hbig)
    go_enter Try.func5, Try.ntmps5
    go_wp2_with fail
    refine (B2.out _).mono ?_
    rintro e w1 ⟨rfl, rfl⟩
    go_wp2
    go_ret
    exact ⟨rfl, Below.refl _ _⟩
end Go.Proofs.Ytjggheoonjajpaa
