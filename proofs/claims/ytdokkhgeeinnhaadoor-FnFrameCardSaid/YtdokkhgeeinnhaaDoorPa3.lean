/- What the laws lean on (own lemmas and walks of the called functions). -/
import Derived.Test.YtdokkhgeeinnhaaDoorPa2
set_option linter.unusedVariables false
set_option linter.unusedSimpArgs false
namespace Go.Proofs.YtdokkhgeeinnhaaDoor
open Go.ChangeShapes Go.WideShapes Go.ChangeAt Go.RowKit Go.BigFrame
set_option linter.unusedVariables false
set_option maxRecDepth 100000 in
set_option maxHeartbeats 1000000 in
theorem eqkeys_any (va vb : Value) (A B : List K2) (w : World) (ha : keysAt w va A) (hb : keysAt w vb B) (hsA : A.length ≤ 4000000) (hsB : B.length ≤ 4000000) :
    Calls Tryd.prog 64 #[va, vb] w fun e w' => e = .returned (.bool (decide (A = B))) ∧ Below w.heap.size w w' := by
  obtain ⟨aa, ca, rfl, hca, hcA⟩ := ha
  obtain ⟨ab, cb, rfl, hcb, hcB⟩ := hb
  by_cases hl : A.length = B.length
  · have e0 : (A.length : Int) = (B.length : Int) := by omega
    go_enter Tryd.func64, Tryd.ntmps64
    rw [hl] at hca hcA ⊢
    go_wp2
    go_loopw [5] (fun i wr => ∃ k : Nat, k ≤ B.length ∧ i = .int .i64 k ∧ (∀ j, j < k → A.getD j (0, 0) = B.getD j (0, 0)) ∧ Below w.heap.size w wr) (fun i _ => B.length - (intOf i).toNat)
    case atStart => exact ⟨0, Nat.zero_le _, rfl, fun j hj => by omega, Below.refl _ _⟩
    case round =>
      obtain ⟨k, hk, rfl, hall, hbr⟩ := hrel
      by_cases hlt : k < B.length
      · obtain ⟨ga, offa, rfl, hga, hcsA⟩ := hcA.resolve_left (by omega)
        obtain ⟨gb, offb, rfl, hgb, hcsB⟩ := hcB.resolve_left (by omega)
        have cA := hcsA k hlt
        have cB := hcsB k hlt
        have z0 : (0 : Int) ≤ (k : Int) := by omega
        have z1 : (k : Int) < (B.length : Int) := by omega
        clear hcsA hcsB hcA hcB
        have L1 : ∀ w', Below w.heap.size w w' → (loadVar 50 ⟨ga, offa + k * 2, none⟩).run Tryd.prog w' = .ok (kv (A.getD k (0, 0))) w' := fun w' h => key_load cA hga h
        have L2 : ∀ w', Below w.heap.size w w' → (loadVar 50 ⟨gb, offb + k * 2, none⟩).run Tryd.prog w' = .ok (kv (B.getD k (0, 0))) w' := fun w' h => key_load cB hgb h
        have HE := Lib.hid (fun w => eqkey_any (A.getD k (0, 0)) (B.getD k (0, 0)) w)
        clear cA cB
        cases he : (A.getD k (0, 0) == B.getD k (0, 0)) with
        | true =>
          have hn : ∀ j, j < k + 1 → A.getD j (0, 0) = B.getD j (0, 0) := by
            intro j hj
            rcases (by omega : j < k ∨ j = k) with h1 | rfl
            · exact hall j h1
            · exact eq_of_beq he
          have HN := Lib.hid hn
          rw [he] at HE
          clear hall hn
          generalize A.getD k (0, 0) = kx at *
          generalize B.getD k (0, 0) = ky at *
          go_wp2
          refine wp_region_below w (by kernel_rfl) (by kernel_rfl) hbr ?_
          repeat (first
            | go_big_quiet_skip
            | (go_big_quiet_want
               first
                 | (go_big_quiet_op; go_big_quiet_on)
                 | (refine q_load 50 _ _ _ rfl rfl L1 ?_; simp only [Act.put, List.setIfInBounds_toArray, List.set_cons_zero, List.set_cons_succ]; go_big_quiet_on)
                 | (refine q_load 50 _ _ _ rfl rfl L2 ?_; simp only [Act.put, List.setIfInBounds_toArray, List.set_cons_zero, List.set_cons_succ]; go_big_quiet_on)
                 | (go_big_quiet_op; refine ⟨_, fun _ _ => rfl, ?_⟩; go_big_quiet_on)
                 | (go_big_quiet_op; apply Exists.intro; refine ⟨fun w' hw' => ?_, ?_⟩
                    · first
                      | (refine (HE.out w').mono ?_
                         rintro e w2 ⟨rfl, hb2⟩
                         exact ⟨rfl, hw'.trans (hb2.mono hw'.size)⟩)
                    go_big_quiet_on)))
          refine wpQuiet_nil ?_
          intro w2 hb2
          clear L1 L2 HE hbr
          go_wp2
          exact ⟨⟨k + 1, by omega, by go_num, HN.out, hb2⟩, by simp [intOf]; omega⟩
        | false =>
          have hne : decide (A = B) = false := by
            simp only [decide_eq_false_iff_not]
            intro e
            subst e
            simp at he
          have HD := Lib.hid hne
          rw [he] at HE
          clear hall hne
          generalize A.getD k (0, 0) = kx at *
          generalize B.getD k (0, 0) = ky at *
          go_wp2
          refine wp_region_below w (by kernel_rfl) (by kernel_rfl) hbr ?_
          repeat (first
            | go_big_quiet_skip
            | (go_big_quiet_want
               first
                 | (go_big_quiet_op; go_big_quiet_on)
                 | (refine q_load 50 _ _ _ rfl rfl L1 ?_; simp only [Act.put, List.setIfInBounds_toArray, List.set_cons_zero, List.set_cons_succ]; go_big_quiet_on)
                 | (refine q_load 50 _ _ _ rfl rfl L2 ?_; simp only [Act.put, List.setIfInBounds_toArray, List.set_cons_zero, List.set_cons_succ]; go_big_quiet_on)
                 | (go_big_quiet_op; refine ⟨_, fun _ _ => rfl, ?_⟩; go_big_quiet_on)
                 | (go_big_quiet_op; apply Exists.intro; refine ⟨fun w' hw' => ?_, ?_⟩
                    · first
                      | (refine (HE.out w').mono ?_
                         rintro e w2 ⟨rfl, hb2⟩
                         exact ⟨rfl, hw'.trans (hb2.mono hw'.size)⟩)
                    go_big_quiet_on)))
          refine wpQuiet_nil ?_
          intro w2 hb2
          clear L1 L2 HE hbr
          go_wp2
          go_ret
          exact ⟨by rw [HD.out]; rfl, hb2⟩
      · obtain rfl : k = B.length := by omega
        have he : decide (A = B) = true := by
          simp only [decide_eq_true_eq]
          apply List.ext_getElem hl
          intro i h1 h2
          have := hall i h2
          simpa [List.getD, h1, h2] using this
        have HD := Lib.hid he
        clear hall he
        go_wp2
        go_ret
        exact ⟨by rw [HD.out]; rfl, hbr⟩
  · have hne : decide (A = B) = false := by simp only [decide_eq_false_iff_not]; intro e; subst e; exact hl rfl
    have HD := Lib.hid hne
    have e0 : ¬ (A.length : Int) = (B.length : Int) := by omega
    clear hne
    go_enter Tryd.func64, Tryd.ntmps64
    go_wp2
    go_ret
    exact ⟨by rw [HD.out]; rfl, Below.refl _ _⟩
set_option maxRecDepth 100000 in
set_option maxHeartbeats 1000000 in
theorem samekeys_any (va vb : Value) (A B : List K2) (w : World) (ha : keysAt w va A) (hb : keysAt w vb B) (hsA : A.length ≤ 4000000) (hsB : B.length ≤ 4000000) :
    Calls Tryd.prog 61 #[va, vb] w fun e w' => e = .returned (.bool (decide (A = B))) ∧ Below w.heap.size w w' := by
  obtain ⟨aa, ca, rfl, hca, hcA⟩ := ha
  obtain ⟨ab, cb, rfl, hcb, hcB⟩ := hb
  by_cases hl : A.length = B.length
  · have e0 : (A.length : Int) = (B.length : Int) := by omega
    go_enter Tryd.func61, Tryd.ntmps61
    rw [hl] at hca hcA ⊢
    go_wp2
    go_loopw [5] (fun i wr => ∃ k : Nat, k ≤ B.length ∧ i = .int .i64 k ∧ (∀ j, j < k → A.getD j (0, 0) = B.getD j (0, 0)) ∧ Below w.heap.size w wr) (fun i _ => B.length - (intOf i).toNat)
    case atStart => exact ⟨0, Nat.zero_le _, rfl, fun j hj => by omega, Below.refl _ _⟩
    case round =>
      obtain ⟨k, hk, rfl, hall, hbr⟩ := hrel
      by_cases hlt : k < B.length
      · obtain ⟨ga, offa, rfl, hga, hcsA⟩ := hcA.resolve_left (by omega)
        obtain ⟨gb, offb, rfl, hgb, hcsB⟩ := hcB.resolve_left (by omega)
        have cA := hcsA k hlt
        have cB := hcsB k hlt
        have z0 : (0 : Int) ≤ (k : Int) := by omega
        have z1 : (k : Int) < (B.length : Int) := by omega
        clear hcsA hcsB hcA hcB
        have L1 : ∀ w', Below w.heap.size w w' → (loadVar 50 ⟨ga, offa + k * 2, none⟩).run Tryd.prog w' = .ok (kv (A.getD k (0, 0))) w' := fun w' h => key_load cA hga h
        have L2 : ∀ w', Below w.heap.size w w' → (loadVar 50 ⟨gb, offb + k * 2, none⟩).run Tryd.prog w' = .ok (kv (B.getD k (0, 0))) w' := fun w' h => key_load cB hgb h
        have HE := Lib.hid (fun w => eqkey_any (A.getD k (0, 0)) (B.getD k (0, 0)) w)
        clear cA cB
        cases he : (A.getD k (0, 0) == B.getD k (0, 0)) with
        | true =>
          have hn : ∀ j, j < k + 1 → A.getD j (0, 0) = B.getD j (0, 0) := by
            intro j hj
            rcases (by omega : j < k ∨ j = k) with h1 | rfl
            · exact hall j h1
            · exact eq_of_beq he
          have HN := Lib.hid hn
          rw [he] at HE
          clear hall hn
          generalize A.getD k (0, 0) = kx at *
          generalize B.getD k (0, 0) = ky at *
          go_wp2
          refine wp_region_below w (by kernel_rfl) (by kernel_rfl) hbr ?_
          repeat (first
            | go_big_quiet_skip
            | (go_big_quiet_want
               first
                 | (go_big_quiet_op; go_big_quiet_on)
                 | (refine q_load 50 _ _ _ rfl rfl L1 ?_; simp only [Act.put, List.setIfInBounds_toArray, List.set_cons_zero, List.set_cons_succ]; go_big_quiet_on)
                 | (refine q_load 50 _ _ _ rfl rfl L2 ?_; simp only [Act.put, List.setIfInBounds_toArray, List.set_cons_zero, List.set_cons_succ]; go_big_quiet_on)
                 | (refine q_bin _ 50 _ _ _ _ _ _ rfl rfl rfl (fun w => key_guard _ _ _ _ _ w) (fun w => key_eql _ _ w) ?_; simp only [Act.put, List.setIfInBounds_toArray, List.set_cons_zero, List.set_cons_succ]; go_big_quiet_on)
                 | (refine q_bin _ 50 _ _ _ _ _ _ rfl rfl rfl (fun w => key_guard _ _ _ _ _ w) (fun w => key_neq _ _ w) ?_; simp only [Act.put, List.setIfInBounds_toArray, List.set_cons_zero, List.set_cons_succ]; go_big_quiet_on)
                 | (go_big_quiet_op; refine ⟨_, fun _ _ => rfl, ?_⟩; go_big_quiet_on)
                 | (go_big_quiet_op; go_big_quiet_on)))
          refine wpQuiet_nil ?_
          intro w2 hb2
          rw [he]
          clear L1 L2 HE hbr
          go_wp2
          exact ⟨⟨k + 1, by omega, by go_num, HN.out, hb2⟩, by simp [intOf]; omega⟩
        | false =>
          have hne : decide (A = B) = false := by
            simp only [decide_eq_false_iff_not]
            intro e
            subst e
            simp at he
          have HD := Lib.hid hne
          rw [he] at HE
          clear hall hne
          generalize A.getD k (0, 0) = kx at *
          generalize B.getD k (0, 0) = ky at *
          go_wp2
          refine wp_region_below w (by kernel_rfl) (by kernel_rfl) hbr ?_
          repeat (first
            | go_big_quiet_skip
            | (go_big_quiet_want
               first
                 | (go_big_quiet_op; go_big_quiet_on)
                 | (refine q_load 50 _ _ _ rfl rfl L1 ?_; simp only [Act.put, List.setIfInBounds_toArray, List.set_cons_zero, List.set_cons_succ]; go_big_quiet_on)
                 | (refine q_load 50 _ _ _ rfl rfl L2 ?_; simp only [Act.put, List.setIfInBounds_toArray, List.set_cons_zero, List.set_cons_succ]; go_big_quiet_on)
                 | (refine q_bin _ 50 _ _ _ _ _ _ rfl rfl rfl (fun w => key_guard _ _ _ _ _ w) (fun w => key_eql _ _ w) ?_; simp only [Act.put, List.setIfInBounds_toArray, List.set_cons_zero, List.set_cons_succ]; go_big_quiet_on)
                 | (refine q_bin _ 50 _ _ _ _ _ _ rfl rfl rfl (fun w => key_guard _ _ _ _ _ w) (fun w => key_neq _ _ w) ?_; simp only [Act.put, List.setIfInBounds_toArray, List.set_cons_zero, List.set_cons_succ]; go_big_quiet_on)
                 | (go_big_quiet_op; refine ⟨_, fun _ _ => rfl, ?_⟩; go_big_quiet_on)
                 | (go_big_quiet_op; go_big_quiet_on)))
          refine wpQuiet_nil ?_
          intro w2 hb2
          rw [he]
          clear L1 L2 HE hbr
          go_wp2
          go_ret
          exact ⟨by rw [HD.out]; rfl, hb2⟩
      · obtain rfl : k = B.length := by omega
        have he : decide (A = B) = true := by
          simp only [decide_eq_true_eq]
          apply List.ext_getElem hl
          intro i h1 h2
          have := hall i h2
          simpa [List.getD, h1, h2] using this
        have HD := Lib.hid he
        clear hall he
        go_wp2
        go_ret
        exact ⟨by rw [HD.out]; rfl, hbr⟩
  · have hne : decide (A = B) = false := by simp only [decide_eq_false_iff_not]; intro e; subst e; exact hl rfl
    have HD := Lib.hid hne
    have e0 : ¬ (A.length : Int) = (B.length : Int) := by omega
    clear hne
    go_enter Tryd.func61, Tryd.ntmps61
    go_wp2
    go_ret
    exact ⟨by rw [HD.out]; rfl, Below.refl _ _⟩
end Go.Proofs.YtdokkhgeeinnhaaDoor
namespace Go.Proofs.YtdokkhgeeinnhaaDoor
open Go.ChangeShapes Go.WideShapes Go.ChangeAt Go.RowKit Go.BigFrame
set_option linter.unusedVariables false

theorem two_boxes (w : World) (va : Value) (ya : ByteArray) (vb : Value) (yb : ByteArray) :
    Below w.heap.size w ((w.alloc (.cells #[va, .string ya] 26)).alloc (.cells #[vb, .string yb] 26)) ∧
    ((w.alloc (.cells #[va, .string ya] 26)).alloc (.cells #[vb, .string yb] 26)).heap[w.heap.size]? = some (.cells #[va, .string ya] 26) ∧
    ((w.alloc (.cells #[va, .string ya] 26)).alloc (.cells #[vb, .string yb] 26)).heap[w.heap.size + 1]? = some (.cells #[vb, .string yb] 26) := by
  have hb1 := (Below.refl w.heap.size w).alloc (Nat.le_refl _) (.cells #[va, .string ya] 26)
  have e1 : (w.alloc (.cells #[va, .string ya] 26)).heap.size = w.heap.size + 1 := by simp
  have r2 := heap_alloc_new (w.alloc (.cells #[va, .string ya] 26)) (.cells #[vb, .string yb] 26)
  rw [e1] at r2
  exact ⟨hb1.alloc hb1.size _, (Below.heap_alloc _ _ w.heap.size (by simp)).trans (heap_alloc_new w _), r2⟩
theorem str_eq (a b : ByteArray) : (a.toList == b.toList) = decide (a = b) := by
  rw [Bool.eq_iff_iff, decide_eq_true_eq, beq_iff_eq, bytes_toList_iff]
set_option maxRecDepth 100000 in
set_option maxHeartbeats 1000000 in
theorem eqcode_any (va : Value) (A : List K2) (ya : ByteArray) (vb : Value) (B : List K2) (yb : ByteArray) (w : World) (ha : keysAt w va A) (hb : keysAt w vb B) (hsA : A.length ≤ 4000000) (hsB : B.length ≤ 4000000) :
    Calls Tryd.prog 42 #[.agg #[va, .string ya], .agg #[vb, .string yb]] w fun e w' => e = .returned (.bool (decide (A = B) && decide (ya = yb))) ∧ Below w.heap.size w w' := by
  obtain ⟨t1, t2, t3⟩ := two_boxes w va ya vb yb
  have HB := Lib.hid t1; have HX := Lib.hid t2; have HY := Lib.hid t3
  have EQ := Lib.hid (fun w' (h : Below w.heap.size w w') => eqkeys_any va vb A B w' (keysAt_below ha h) (keysAt_below hb h) hsA hsB)
  obtain ⟨x0, x1, -, -⟩ := row2_of t2
  obtain ⟨y0, y1, -, -⟩ := row2_of t3
  have hne := str_eq ya yb
  clear t1 t2 t3 ha hb
  generalize decide (A = B) = p at *
  generalize decide (ya = yb) = q at *
  go_enter Tryd.func42, Tryd.ntmps42
  go_wp2_with fail
  generalize (w.alloc (.cells #[va, .string ya] 26)).alloc (.cells #[vb, .string yb] 26) = W at *
  refine (EQ.out _ HB.out).mono ?_
  rintro e w1 ⟨rfl, hb1⟩
  have HB1 := Lib.hid (HB.out.trans (hb1.mono HB.out.size))
  obtain ⟨c0, c1⟩ := cd_cells HX.out hb1
  obtain ⟨d0, d1⟩ := cd_cells HY.out hb1
  clear hb1 x0 x1 y0 y1 HB HX HY EQ
  cases p with
  | false =>
    go_wp2
    go_ret
    exact ⟨rfl, HB1.out⟩
  | true =>
    cases q with
    | false =>
      go_wp2
      go_ret
      exact ⟨rfl, HB1.out⟩
    | true =>
      go_wp2
      go_ret
      exact ⟨rfl, HB1.out⟩
set_option maxRecDepth 100000 in
set_option maxHeartbeats 1000000 in
theorem samecode_any (va : Value) (A : List K2) (ya : ByteArray) (vb : Value) (B : List K2) (yb : ByteArray) (w : World) (ha : keysAt w va A) (hb : keysAt w vb B) (hsA : A.length ≤ 4000000) (hsB : B.length ≤ 4000000) :
    Calls Tryd.prog 34 #[.agg #[va, .string ya], .agg #[vb, .string yb]] w fun e w' => e = .returned (.bool (decide (ya = yb) && decide (A = B))) ∧ Below w.heap.size w w' := by
  obtain ⟨t1, t2, t3⟩ := two_boxes w va ya vb yb
  have HB := Lib.hid t1; have HX := Lib.hid t2; have HY := Lib.hid t3
  have EQ := Lib.hid (fun w' (h : Below w.heap.size w w') => samekeys_any va vb A B w' (keysAt_below ha h) (keysAt_below hb h) hsA hsB)
  obtain ⟨x0, x1, -, -⟩ := row2_of t2
  obtain ⟨y0, y1, -, -⟩ := row2_of t3
  have hne := str_eq ya yb
  clear t1 t2 t3 ha hb
  generalize decide (A = B) = p at *
  generalize decide (ya = yb) = q at *
  go_enter Tryd.func34, Tryd.ntmps34
  cases q with
  | false =>
    go_wp2
    go_ret
    exact ⟨by simp, HB.out⟩
  | true =>
    go_wp2_with fail
    generalize (w.alloc (.cells #[va, .string ya] 26)).alloc (.cells #[vb, .string yb] 26) = W at *
    refine (EQ.out _ HB.out).mono ?_
    rintro e w1 ⟨rfl, hb1⟩
    have HB1 := Lib.hid (HB.out.trans (hb1.mono HB.out.size))
    clear hb1 x0 x1 y0 y1 HB HX HY EQ
    go_wp2
    go_ret
    exact ⟨by simp, HB1.out⟩
end Go.Proofs.YtdokkhgeeinnhaaDoor
namespace Go.Proofs.YtdokkhgeeinnhaaDoor
open Go.ChangeShapes Go.WideShapes Go.ChangeAt Go.RowKit Go.BigFrame
set_option linter.unusedVariables false

def marked (n : Nat) (m : Int) : List K2 := (List.range n).map fun (i : Nat) => (m + 2 * (i : Int), m + 2 * (i : Int) + 1)
theorem marked_len (n : Nat) (m : Int) : (marked n m).length = n := by simp [marked]
theorem marked_get (n : Nat) (m : Int) (i : Nat) (h : i < n) : (marked n m).getD i (0, 0) = (m + 2 * (i : Int), m + 2 * (i : Int) + 1) := by
  simp [marked, List.getD, h]
theorem marked_succ (k : Nat) (m : Int) : marked (k + 1) m = marked k m ++ [(m + 2 * (k : Int), m + 2 * (k : Int) + 1)] := by
  simp [marked, List.range_succ]
theorem set_mark (k : Nat) (m : Int) (u1 u2 : Value) (rest : List Value) :
    ((keyCells (marked k m) ++ u1 :: u2 :: rest).set (k * 2) (.int .i64 (m + 2 * (k : Int)))).set (k * 2 + 1) (.int .i64 (m + 2 * (k : Int) + 1)) = keyCells (marked (k + 1) m) ++ rest := by
  have hl := keyCells_len (marked k m)
  rw [marked_len] at hl
  rw [marked_succ, keyCells_snoc]
  rw [List.set_append_right _ _ (by omega), hl, Nat.sub_self, List.set_cons_zero, List.set_append_right _ _ (by omega), hl, show k * 2 + 1 - k * 2 = 1 by omega]
  simp
set_option maxRecDepth 100000 in
set_option maxHeartbeats 1000000 in
theorem markkeys_any (base : Nat) (v : Value) (n : Nat) (xs : List Value) (m : Int) (w : World) (h : w.ownsRow base 50 2 v n xs) (hm : 0 ≤ m ∧ m ≤ 1000000000) (hn : n ≤ 4000000) (hb0 : base ≤ w.heap.size) :
    Calls Tryd.prog 65 #[v, .int .i64 m] w fun e w' => e = .returned (.int .i64 (m + 2 * (n : Int))) ∧ w'.ownsRow base 50 2 v n (keyCells (marked n m)) ∧ w.grownBy w' v.ownBlock := by
  rcases ownsRowK_shape h with ⟨rfl, rfl⟩ | ⟨g, cap, rfl, hnc, hcm, hbg, hgs⟩
  · have e0 : m + 2 * ((0 : Nat) : Int) = m := by omega
    rw [e0]
    have ho : w.ownsRow base 50 2 (.slice none 0 0) 0 (keyCells (marked 0 m)) := ⟨by simp [marked, keyCells], .inl ⟨rfl, rfl⟩⟩
    go_enter Tryd.func65, Tryd.ntmps65
    go_wp2
    go_loopw [1, 5] (fun c i wr => c = .int .i64 m ∧ i = .int .i64 0 ∧ wr = w) (fun _ _ _ => 0)
    case atStart => exact ⟨rfl, rfl, rfl⟩
    case round =>
      obtain ⟨rfl, rfl, rfl⟩ := hrel
      go_wp2
      go_ret
      exact ⟨rfl, ho, World.grownBy.refl _ _⟩
  · have hxl := h.1
    go_enter Tryd.func65, Tryd.ntmps65
    go_wp2
    go_loopw [1, 5] (fun c i wr => ∃ (k : Nat) (rest : List Value), k ≤ n ∧ i = .int .i64 k ∧ c = .int .i64 (m + 2 * (k : Int)) ∧ wr.ownsRow base 50 2 (.slice (some ⟨g, 0, none⟩) n cap) n (keyCells (marked k m) ++ rest) ∧ w.grownBy wr (some g))
      (fun _ i _ => n - (intOf i).toNat)
    case atStart => exact ⟨0, xs, Nat.zero_le _, rfl, by simp, by simpa [marked, keyCells] using h, World.grownBy.refl _ _⟩
    case round =>
      obtain ⟨k, rest, hk, rfl, rfl, hown, hgr⟩ := hrel
      clear h
      by_cases hlt : k < n
      · have z0 : (0 : Int) ≤ (k : Int) := by omega
        have z1 : (k : Int) < (n : Int) := by omega
        have hkl := keyCells_len (marked k m)
        rw [marked_len] at hkl
        have hrl : rest.length = (n - k) * 2 := by
          have := hown.1
          rw [List.length_append, hkl] at this
          omega
        obtain ⟨u1, u2, rest2, rfl⟩ : ∃ u1 u2 r, rest = u1 :: u2 :: r := by
          match rest, hrl with
          | [], h => simp at h; omega
          | [_], h => simp at h; omega
          | a :: b :: r, _ => exact ⟨a, b, r, rfl⟩
        obtain ⟨s1, s2⟩ := own_cell hown (k * 2) (by omega)
        have st1 := hown.stored (k * 2) (.int .i64 (m + 2 * (k : Int)))
        obtain ⟨s3, s4⟩ := own_cell st1.1 (k * 2 + 1) (by omega)
        have st2 := st1.1.stored (k * 2 + 1) (.int .i64 (m + 2 * (k : Int) + 1))
        rw [set_mark] at st2
        have R := Lib.hid (And.intro st2.1 (grown_trans hgr (grown_trans st1.2 st2.2)))
        clear st1 st2 hown hgr hrl hkl
        go_wp2
        exact ⟨⟨k + 1, rest2, by omega, by go_num, by go_num, R.out.1, R.out.2⟩, by simp [intOf]; omega⟩
      · obtain rfl : k = n := by omega
        have hr0 : rest = [] := by
          have h1 := hown.1
          rw [List.length_append, keyCells_len, marked_len] at h1
          exact List.eq_nil_of_length_eq_zero (by omega)
        subst hr0
        rw [List.append_nil] at hown
        go_wp2
        go_ret
        exact ⟨rfl, hown, hgr⟩
set_option maxRecDepth 100000 in
set_option maxHeartbeats 1000000 in
theorem heldkeys_any (v : Value) (n : Nat) (m : Int) (w : World) (h : keysAt w v (marked n m)) (hm : 0 ≤ m ∧ m ≤ 1000000000) (hn : n ≤ 4000000) :
    Calls Tryd.prog 66 #[v, .int .i64 m] w fun e w' => e = .returned (.int .i64 (m + 2 * (n : Int))) ∧ w' = w := by
  obtain ⟨a, cap, rfl, hcap, hcells⟩ := h
  rw [marked_len] at hcap hcells ⊢
  go_enter Tryd.func66, Tryd.ntmps66
  go_wp2
  go_loopw [1, 5] (fun c i wr => ∃ k : Nat, k ≤ n ∧ i = .int .i64 k ∧ c = .int .i64 (m + 2 * (k : Int)) ∧ wr = w) (fun _ i _ => n - (intOf i).toNat)
  case atStart => exact ⟨0, Nat.zero_le _, rfl, by simp, rfl⟩
  case round =>
    obtain ⟨k, hk, rfl, rfl, rfl⟩ := hrel
    by_cases hlt : k < n
    · obtain ⟨g, off, rfl, hg, hcs⟩ := hcells.resolve_left (by omega)
      have z0 : (0 : Int) ≤ (k : Int) := by omega
      have z1 : (k : Int) < (n : Int) := by omega
      have hc := hcs k hlt
      rw [marked_get n m k hlt] at hc
      obtain ⟨c1, c2⟩ := hc
      clear hcs hcells
      go_wp2
      exact ⟨⟨k + 1, by omega, by go_num, by go_num, trivial⟩, by simp [intOf]; omega⟩
    · obtain rfl : k = n := by omega
      go_wp2
      go_ret
      exact ⟨rfl, rfl⟩
end Go.Proofs.YtdokkhgeeinnhaaDoor
namespace Go.Proofs.YtdokkhgeeinnhaaDoor
open Go.ChangeShapes Go.WideShapes Go.ChangeAt Go.RowKit Go.BigFrame
set_option linter.unusedVariables false

set_option maxRecDepth 100000 in
set_option maxHeartbeats 1000000 in
theorem markcode_any (base : Nat) (v : Value) (n : Nat) (xs : List Value) (y : ByteArray) (m : Int) (w : World) (h : w.ownsRow base 50 2 v n xs) (hm : 0 ≤ m ∧ m ≤ 1000000000) (hn : n ≤ 4000000) (hb0 : base ≤ w.heap.size) :
    Calls Tryd.prog 43 #[.agg #[v, .string y], .int .i64 m] w fun e w' => e = .returned (.int .i64 (m + 2 * (n : Int))) ∧ w'.ownsRow base 50 2 v n (keyCells (marked n m)) ∧ w.grownBy w' v.ownBlock := by
  have hg0 : w.grownBy (w.alloc (.cells #[v, .string y] 26)) v.ownBlock := grown_of_below' ((Below.refl w.heap.size w).alloc (Nat.le_refl _) _) _
  have HG := Lib.hid hg0
  have MK := Lib.hid (markkeys_any base v n xs m _ (h.alloc (.cells #[v, .string y] 26)) hm hn (by simp; omega))
  obtain ⟨x0, x1, -, -⟩ := row2_of (heap_alloc_new w (.cells #[v, .string y] 26))
  clear hg0
  go_enter Tryd.func43, Tryd.ntmps43
  go_wp2_with fail
  generalize w.alloc (.cells #[v, .string y] 26) = W at *
  refine MK.out.mono ?_
  rintro e w1 ⟨rfl, ho1, hg1⟩
  have HF := Lib.hid (And.intro ho1 (grownT HG.out hg1))
  clear ho1 hg1 MK HG x0 x1
  go_wp2
  go_ret
  exact ⟨rfl, HF.out.1, HF.out.2⟩
set_option maxRecDepth 100000 in
set_option maxHeartbeats 1000000 in
theorem heldcode_any (v : Value) (n : Nat) (y : ByteArray) (m : Int) (w : World) (h : keysAt w v (marked n m)) (hm : 0 ≤ m ∧ m ≤ 1000000000) (hn : n ≤ 4000000) :
    Calls Tryd.prog 44 #[.agg #[v, .string y], .int .i64 m] w fun e w' => e = .returned (.int .i64 (m + 2 * (n : Int))) ∧ Below w.heap.size w w' := by
  have hb := (Below.refl w.heap.size w).alloc (Nat.le_refl _) (.cells #[v, .string y] 26)
  have HB := Lib.hid hb
  have HK := Lib.hid (heldkeys_any v n m _ (keysAt_below h hb) hm hn)
  obtain ⟨x0, x1, -, -⟩ := row2_of (heap_alloc_new w (.cells #[v, .string y] 26))
  have e1 : IntKind.i64.wrap (m + 2 * (n : Int)) = m + 2 * (n : Int) := IntWalk.i64_in _ (by omega)
  have hpos : ¬ m + 2 * (n : Int) < 0 := by omega
  clear hb h
  go_enter Tryd.func44, Tryd.ntmps44
  go_wp2_with fail
  generalize w.alloc (.cells #[v, .string y] 26) = W at *
  refine HK.out.mono ?_
  rintro e w1 ⟨rfl, rfl⟩
  clear HK
  go_wp2
  go_ret
  exact ⟨rfl, HB.out⟩
end Go.Proofs.YtdokkhgeeinnhaaDoor
namespace Go.Proofs.YtdokkhgeeinnhaaDoor
open Go.ChangeShapes Go.WideShapes Go.ChangeAt Go.RowKit Go.BigFrame
set_option linter.unusedVariables false

theorem own_ne_row {w w' : World} {e : TypeId} {size n b : Nat} {v : Value} {xs : List Value} (h : w'.ownsRow w.heap.size e size v n xs) (hb : b < w.heap.size) : v.ownBlock ≠ some b :=
  fun e => absurd (h.lt _ e).1 (Nat.not_le.2 hb)
theorem own_ne_new {w : World} {base : Nat} {e : TypeId} {size n : Nat} {v : Value} {xs : List Value} (h : w.ownsRow base e size v n xs) : v.ownBlock ≠ some w.heap.size :=
  fun e => absurd (h.lt _ e).2 (Nat.lt_irrefl _)
theorem own_ne {w w' : World} {b1 : Nat} {e1 e2 : TypeId} {s1 s2 n1 n2 : Nat} {u v : Value} {xs ys : List Value} (hu : w.ownsRow b1 e1 s1 u n1 xs) (hv : w'.ownsRow w.heap.size e2 s2 v n2 ys) : u.ownBlock = none ∨ u.ownBlock ≠ v.ownBlock := by
  cases hq : u.ownBlock with
  | none => exact .inl rfl
  | some b =>
    refine .inr fun e => ?_
    have h1 := (hu.lt b hq).2
    have h2 := (hv.lt b e.symm).1
    omega
end Go.Proofs.YtdokkhgeeinnhaaDoor
namespace Go.Proofs.YtdokkhgeeinnhaaDoor
open Go.ChangeShapes Go.WideShapes Go.ChangeAt Go.RowKit Go.BigFrame
set_option linter.unusedVariables false

/-- two frames' boxes -/
theorem two_fboxes (w : World) (A B : Array Value) (T U : TypeId) :
    Below w.heap.size w ((w.alloc (.cells A T)).alloc (.cells B U)) ∧ ((w.alloc (.cells A T)).alloc (.cells B U)).heap[w.heap.size]? = some (.cells A T) ∧ ((w.alloc (.cells A T)).alloc (.cells B U)).heap[w.heap.size + 1]? = some (.cells B U) := by
  have hb1 := (Below.refl w.heap.size w).alloc (Nat.le_refl _) (.cells A T)
  have r2 := heap_alloc_new (w.alloc (.cells A T)) (.cells B U)
  rw [show (w.alloc (.cells A T)).heap.size = w.heap.size + 1 by simp] at r2
  exact ⟨hb1.alloc hb1.size _, heap_first w _ _, r2⟩
set_option maxRecDepth 100000 in
theorem eqframe_any (p q : Int) (va : Value) (A : List K2) (ya : ByteArray) (p2 q2 : Int) (vb : Value) (B : List K2) (yb : ByteArray) (w : World) (ha : keysAt w va A) (hb : keysAt w vb B) (hsA : A.length ≤ 4000000) (hsB : B.length ≤ 4000000) :
    Calls Tryd.prog 19 #[.agg #[.int .i64 p, .int .i64 q, va, .string ya], .agg #[.int .i64 p2, .int .i64 q2, vb, .string yb]] w fun e w' => e = .returned (.bool (decide (p = p2) && (decide (q = q2) && (decide (A = B) && decide (ya = yb))))) ∧ Below w.heap.size w w' := by
  obtain ⟨t1, t2, t3⟩ := two_fboxes w #[.int .i64 p, .int .i64 q, va, .string ya] #[.int .i64 p2, .int .i64 q2, vb, .string yb] 28 28
  have HB := Lib.hid t1
  have EQ := Lib.hid (fun w' (h : Below w.heap.size w w') => eqcode_any va A ya vb B yb w' (keysAt_below ha h) (keysAt_below hb h) hsA hsB)
  obtain ⟨x0, x1, x2, x3⟩ := fr_cells t2 (Below.refl _ _)
  obtain ⟨y0, y1, y2, y3⟩ := fr_cells t3 (Below.refl _ _)
  have LA := fr_loadc t2 (Below.refl _ _)
  have LB := fr_loadc t3 (Below.refl _ _)
  obtain ⟨aA, cA, rfl, -, -⟩ := ha
  obtain ⟨aB, cB, rfl, -, -⟩ := hb
  clear t1 t2 t3
  generalize (decide (A = B) && decide (ya = yb)) = bo at *
  by_cases h1 : p = p2
  · by_cases h2 : q = q2
    · have HV := Lib.hid (show (decide (p = p2) && (decide (q = q2) && bo)) = bo by simp [h1, h2])
      rw [HV.out]
      clear HV
      subst h1 h2
      go_enter Tryd.func19, Tryd.ntmps19
      go_wp2_with fail
      refine (EQ.out _ HB.out).mono ?_
      rintro e w1 ⟨rfl, hb1⟩
      have HB1 := Lib.hid (HB.out.trans (hb1.mono HB.out.size))
      clear hb1 EQ x0 x1 x2 x3 y0 y1 y2 y3 LA LB
      cases bo
      · go_wp2
        go_ret
        exact ⟨rfl, HB1.out⟩
      · go_wp2
        go_ret
        exact ⟨rfl, HB1.out⟩
    · have HV := Lib.hid (show (decide (p = p2) && (decide (q = q2) && bo)) = false by simp [h2])
      rw [HV.out]
      subst h1
      go_enter Tryd.func19, Tryd.ntmps19
      go_wp2
      go_ret
      exact ⟨rfl, HB.out⟩
  · have HV := Lib.hid (show (decide (p = p2) && (decide (q = q2) && bo)) = false by simp [h1])
    rw [HV.out]
    go_enter Tryd.func19, Tryd.ntmps19
    go_wp2
    go_ret
    exact ⟨rfl, HB.out⟩
theorem eqframe_self (p q : Int) (va vb : Value) (A : List K2) (ya : ByteArray) (w : World) (ha : keysAt w va A) (hb : keysAt w vb A) (hsA : A.length ≤ 4000000) :
    Calls Tryd.prog 19 #[.agg #[.int .i64 p, .int .i64 q, va, .string ya], .agg #[.int .i64 p, .int .i64 q, vb, .string ya]] w fun e w' => e = .returned (.bool true) ∧ Below w.heap.size w w' :=
  (eqframe_any p q va A ya p q vb A ya w ha hb hsA hsA).mono fun e w' h => ⟨by rw [h.1]; simp, h.2⟩
end Go.Proofs.YtdokkhgeeinnhaaDoor
namespace Go.Proofs.YtdokkhgeeinnhaaDoor
open Go.ChangeShapes Go.WideShapes Go.ChangeAt Go.RowKit Go.BigFrame
set_option linter.unusedVariables false

set_option maxRecDepth 100000 in
theorem sameframe_any (p q : Int) (va : Value) (A : List K2) (ya : ByteArray) (p2 q2 : Int) (vb : Value) (B : List K2) (yb : ByteArray) (w : World) (ha : keysAt w va A) (hb : keysAt w vb B) (hsA : A.length ≤ 4000000) (hsB : B.length ≤ 4000000) :
    Calls Tryd.prog 14 #[.agg #[.int .i64 p, .int .i64 q, va, .string ya], .agg #[.int .i64 p2, .int .i64 q2, vb, .string yb]] w fun e w' => e = .returned (.bool (decide (p = p2) && (decide (q = q2) && (decide (ya = yb) && decide (A = B))))) ∧ Below w.heap.size w w' := by
  obtain ⟨t1, t2, t3⟩ := two_fboxes w #[.int .i64 p, .int .i64 q, va, .string ya] #[.int .i64 p2, .int .i64 q2, vb, .string yb] 28 28
  have HB := Lib.hid t1
  have EQ := Lib.hid (fun w' (h : Below w.heap.size w w') => samecode_any va A ya vb B yb w' (keysAt_below ha h) (keysAt_below hb h) hsA hsB)
  obtain ⟨x0, x1, x2, x3⟩ := fr_cells t2 (Below.refl _ _)
  obtain ⟨y0, y1, y2, y3⟩ := fr_cells t3 (Below.refl _ _)
  have LA := fr_loadc t2 (Below.refl _ _)
  have LB := fr_loadc t3 (Below.refl _ _)
  obtain ⟨aA, cA, rfl, -, -⟩ := ha
  obtain ⟨aB, cB, rfl, -, -⟩ := hb
  clear t1 t2 t3
  generalize (decide (ya = yb) && decide (A = B)) = bo at *
  by_cases h1 : p = p2
  · by_cases h2 : q = q2
    · have HV := Lib.hid (show (decide (p = p2) && (decide (q = q2) && bo)) = bo by simp [h1, h2])
      rw [HV.out]
      clear HV
      subst h1 h2
      go_enter Tryd.func14, Tryd.ntmps14
      go_wp2_with fail
      refine (EQ.out _ HB.out).mono ?_
      rintro e w1 ⟨rfl, hb1⟩
      have HB1 := Lib.hid (HB.out.trans (hb1.mono HB.out.size))
      clear hb1 EQ x0 x1 x2 x3 y0 y1 y2 y3 LA LB
      go_wp2
      go_ret
      exact ⟨rfl, HB1.out⟩
    · have HV := Lib.hid (show (decide (p = p2) && (decide (q = q2) && bo)) = false by simp [h2])
      rw [HV.out]
      subst h1
      go_enter Tryd.func14, Tryd.ntmps14
      go_wp2
      go_ret
      exact ⟨rfl, HB.out⟩
  · have HV := Lib.hid (show (decide (p = p2) && (decide (q = q2) && bo)) = false by simp [h1])
    rw [HV.out]
    go_enter Tryd.func14, Tryd.ntmps14
    go_wp2
    go_ret
    exact ⟨rfl, HB.out⟩
set_option maxRecDepth 100000 in
theorem markframe_any (base : Nat) (p q : Int) (v : Value) (n : Nat) (xs : List Value) (y : ByteArray) (m : Int) (w : World) (h : w.ownsRow base 50 2 v n xs) (hm : 0 ≤ m ∧ m ≤ 1000000000) (hn : n ≤ 4000000) (hb0 : base ≤ w.heap.size) :
    Calls Tryd.prog 20 #[.agg #[.int .i64 p, .int .i64 q, v, .string y], .int .i64 m] w fun e w' => e = .returned (.int .i64 (m + 2 * (n : Int))) ∧ w'.ownsRow base 50 2 v n (keyCells (marked n m)) ∧ w.grownBy w' v.ownBlock := by
  have hg0 : w.grownBy (w.alloc (.cells #[.int .i64 p, .int .i64 q, v, .string y] 28)) v.ownBlock := grown_of_below' ((Below.refl w.heap.size w).alloc (Nat.le_refl _) _) _
  have HG := Lib.hid hg0
  have MK := Lib.hid (markcode_any base v n xs y m _ (h.alloc (.cells #[.int .i64 p, .int .i64 q, v, .string y] 28)) hm hn (by simp; omega))
  have LC := fr_loadc (heap_alloc_new w (.cells #[.int .i64 p, .int .i64 q, v, .string y] 28)) (Below.refl _ _)
  clear hg0
  go_enter Tryd.func20, Tryd.ntmps20
  go_wp2_with fail
  generalize w.alloc (.cells #[.int .i64 p, .int .i64 q, v, .string y] 28) = W at *
  refine MK.out.mono ?_
  rintro e w1 ⟨rfl, ho1, hg1⟩
  have HF := Lib.hid (And.intro ho1 (grownT HG.out hg1))
  clear ho1 hg1 MK HG LC
  go_wp2
  go_ret
  exact ⟨rfl, HF.out.1, HF.out.2⟩
set_option maxRecDepth 100000 in
set_option maxHeartbeats 1000000 in
theorem heldframe_any (p q : Int) (v : Value) (n : Nat) (y : ByteArray) (m : Int) (w : World) (h : keysAt w v (marked n m)) (hm : 0 ≤ m ∧ m ≤ 1000000000) (hn : n ≤ 4000000) :
    Calls Tryd.prog 21 #[.agg #[.int .i64 p, .int .i64 q, v, .string y], .int .i64 m] w fun e w' => e = .returned (.int .i64 (m + 2 * (n : Int))) ∧ Below w.heap.size w w' := by
  have hb := (Below.refl w.heap.size w).alloc (Nat.le_refl _) (.cells #[.int .i64 p, .int .i64 q, v, .string y] 28)
  have HB := Lib.hid hb
  have HK := Lib.hid (heldcode_any v n y m _ (keysAt_below h hb) hm hn)
  have LC := fr_loadc (heap_alloc_new w (.cells #[.int .i64 p, .int .i64 q, v, .string y] 28)) (Below.refl _ _)
  have e1 : IntKind.i64.wrap (m + 2 * (n : Int)) = m + 2 * (n : Int) := IntWalk.i64_in _ (by omega)
  have hpos : ¬ m + 2 * (n : Int) < 0 := by omega
  clear hb h
  go_enter Tryd.func21, Tryd.ntmps21
  go_wp2_with fail
  generalize w.alloc (.cells #[.int .i64 p, .int .i64 q, v, .string y] 28) = W at *
  refine HK.out.mono ?_
  rintro e w1 ⟨rfl, hb1⟩
  have HB1 := Lib.hid (HB.out.trans (hb1.mono HB.out.size))
  clear HK LC hb1
  go_wp2
  go_ret
  exact ⟨rfl, HB1.out⟩
end Go.Proofs.YtdokkhgeeinnhaaDoor
namespace Go.Proofs.YtdokkhgeeinnhaaDoor
open Go.ChangeShapes Go.WideShapes Go.ChangeAt Go.RowKit Go.BigFrame
set_option linter.unusedVariables false

theorem getF_few (l : List UInt8) : (getF l).1.2.1.length ≤ 255 := by
  rcases get_cases l with ⟨_, h, _⟩ | ⟨_, h⟩
  · rw [h]
    show (keysL _ _).length ≤ _
    rw [keysL_len]
    have := (l[4]?.getD 0).toNat_lt
    omega
  · rw [h]; decide
set_option maxRecDepth 100000 in
set_option maxHeartbeats 8000000 in
theorem exgetframe_walk (s : ByteArray) (w : World) (hs : s.size ≤ maxLen) (hg : etOk w) : Calls Tryd.prog 6 #[.string s] w fun e w' => e = .returned (.bool true) ∧ Below w.heap.size w w' := by
  unfold maxLen at hs
  rcases Nat.lt_or_ge 1048576 s.size with hbig | hbig
  · have i1 : (1048576 : Int) < (s.size : Int) := by omega
    go_enter Tryd.func6, Tryd.ntmps6
    go_wp2
    go_ret
    exact ⟨rfl, Below.refl _ _⟩
  have i1 : ¬ (1048576 : Int) < (s.size : Int) := by omega
  have SG := Lib.hid (fun w' => sgetframe_any s w' (by omega))
  have IG := Lib.hid (fun w' (hb : Below w.heap.size w w') => igetframe_any s w' (hg.below hb) (by omega))
  have hk := getF_few s.data.toList
  generalize getF s.data.toList = r at *
  obtain ⟨⟨⟨p, q⟩, ⟨KS, Y⟩⟩, c⟩ := r
  dsimp only at *
  clear hg hs
  go_enter Tryd.func6, Tryd.ntmps6
  go_wp2_with fail
  refine (SG.out _).mono ?_
  rintro e w1 ⟨xv, rfl, ho, hb⟩
  obtain ⟨xa, xn, xc, rfl⟩ := own_shape ho
  have HB := Lib.hid hb
  have Ox := Lib.hid ho
  clear ho hb SG
  replace HB := Lib.hid (HB.out.alloc HB.out.size (.cells #[.int .i64 p, .int .i64 q, .slice xa xn xc, .string Y] 28))
  replace Ox := Lib.hid (Ox.out.alloc (.cells #[.int .i64 p, .int .i64 q, .slice xa xn xc, .string Y] 28))
  have Rx := Lib.hid (heap_alloc_new w1 (.cells #[.int .i64 p, .int .i64 q, .slice xa xn xc, .string Y] 28))
  have HW := Lib.hid (show w1.heap.size ≤ (w1.alloc (.cells #[.int .i64 p, .int .i64 q, .slice xa xn xc, .string Y] 28)).heap.size by simp)
  go_wp2_with fail
  generalize w1.alloc (.cells #[.int .i64 p, .int .i64 q, .slice xa xn xc, .string Y] 28) = W1 at *
  generalize w1.heap.size = bx at *
  refine (IG.out W1 HB.out).mono ?_
  rintro e w2 ⟨yv, rfl, ho, hb⟩
  obtain ⟨ya, yn, yc, rfl⟩ := own_shape ho
  have NEyx := Lib.hid (own_ne_row (b := bx) ho (Array.getElem?_eq_some_iff.1 Rx.out).1)
  have NExy := Lib.hid (own_ne Ox.out ho)
  have Oy := Lib.hid (own_base ho HB.out.size)
  replace HB := Lib.hid (HB.out.trans (hb.mono HB.out.size))
  replace Ox := Lib.hid (own_below Ox.out hb)
  replace Rx := Lib.hid ((hb.block _ (Array.getElem?_eq_some_iff.1 Rx.out).1).trans Rx.out)
  clear ho hb
  have NEyy := Lib.hid (own_ne_new Oy.out)
  replace HB := Lib.hid (HB.out.alloc HB.out.size (.cells #[.int .i64 p, .int .i64 q, .slice ya yn yc, .string Y] 28))
  replace Ox := Lib.hid (Ox.out.alloc (.cells #[.int .i64 p, .int .i64 q, .slice ya yn yc, .string Y] 28))
  replace Rx := Lib.hid ((Below.heap_alloc _ (.cells #[.int .i64 p, .int .i64 q, .slice ya yn yc, .string Y] 28) _ (Array.getElem?_eq_some_iff.1 Rx.out).1).trans Rx.out)
  replace Oy := Lib.hid (Oy.out.alloc (.cells #[.int .i64 p, .int .i64 q, .slice ya yn yc, .string Y] 28))
  have Ry := Lib.hid (heap_alloc_new w2 (.cells #[.int .i64 p, .int .i64 q, .slice ya yn yc, .string Y] 28))
  obtain ⟨xc0, xc1, xc2, xc3, -, -, -, -⟩ := row4_of Rx.out
  obtain ⟨yc0, yc1, yc2, yc3, -, -, -, -⟩ := row4_of Ry.out
  go_wp2_with fail
  generalize w2.alloc (.cells #[.int .i64 p, .int .i64 q, .slice ya yn yc, .string Y] 28) = W2 at *
  generalize w2.heap.size = bY at *
  refine (eqframe_self p q _ _ KS Y _ (keysAt_own Oy.out) (keysAt_own Ox.out) (by omega)).mono ?_
  rintro e w3 ⟨rfl, hb⟩
  replace HB := Lib.hid (HB.out.trans (hb.mono HB.out.size))
  replace Ox := Lib.hid (own_below Ox.out hb)
  replace Rx := Lib.hid ((hb.block _ (Array.getElem?_eq_some_iff.1 Rx.out).1).trans Rx.out)
  replace Oy := Lib.hid (own_below Oy.out hb)
  replace Ry := Lib.hid ((hb.block _ (Array.getElem?_eq_some_iff.1 Ry.out).1).trans Ry.out)
  clear hb
  clear xc0 xc1 xc2 xc3
  clear yc0 yc1 yc2 yc3
  obtain ⟨yc0, yc1, yc2, yc3, -, -, -, -⟩ := row4_of Ry.out
  go_wp2_with fail
  refine (markframe_any w.heap.size p q _ KS.length (keyCells KS) Y 1 _ Oy.out (by omega) (by omega) HB.out.size).mono ?_
  rintro e w4 ⟨rfl, hom, hgr⟩
  replace HB := Lib.hid (HB.out.grown hgr HB.out.size (fun g e => (Oy.out.lt g e).1))
  replace Ox := Lib.hid (Ox.out.kept hgr NExy.out)
  replace Rx := Lib.hid ((hgr.block _ (Array.getElem?_eq_some_iff.1 Rx.out).1 (fun e => NEyx.out e.symm)).trans Rx.out)
  replace Ry := Lib.hid ((hgr.block _ (Array.getElem?_eq_some_iff.1 Ry.out).1 (fun e => NEyy.out e.symm)).trans Ry.out)
  replace Oy := Lib.hid hom
  clear hom hgr
  clear yc0 yc1 yc2 yc3
  have hml : (marked KS.length 1).length = KS.length := marked_len _ _
  obtain ⟨yc0, yc1, yc2, yc3, -, -, -, -⟩ := row4_of Ry.out
  go_wp2_with fail
  refine (heldframe_any p q _ KS.length Y 1 _ (keysAt_own (by rw [hml]; exact Oy.out)) (by omega) (by omega)).mono ?_
  rintro e w5 ⟨rfl, hb⟩
  replace HB := Lib.hid (HB.out.trans (hb.mono HB.out.size))
  replace Ox := Lib.hid (own_below Ox.out hb)
  replace Rx := Lib.hid ((hb.block _ (Array.getElem?_eq_some_iff.1 Rx.out).1).trans Rx.out)
  replace Oy := Lib.hid (own_below Oy.out hb)
  replace Ry := Lib.hid ((hb.block _ (Array.getElem?_eq_some_iff.1 Ry.out).1).trans Ry.out)
  clear hb
  clear yc0 yc1 yc2 yc3
  go_wp2_with fail
  refine (IG.out _ HB.out).mono ?_
  rintro e w6 ⟨zv, rfl, ho, hb⟩
  obtain ⟨za, zn, zc, rfl⟩ := own_shape ho
  have Oz := Lib.hid (own_base ho HB.out.size)
  replace HB := Lib.hid (HB.out.trans (hb.mono HB.out.size))
  replace Ox := Lib.hid (own_below Ox.out hb)
  replace Rx := Lib.hid ((hb.block _ (Array.getElem?_eq_some_iff.1 Rx.out).1).trans Rx.out)
  replace Oy := Lib.hid (own_below Oy.out hb)
  replace Ry := Lib.hid ((hb.block _ (Array.getElem?_eq_some_iff.1 Ry.out).1).trans Ry.out)
  clear ho hb
  replace HB := Lib.hid (HB.out.alloc HB.out.size (.cells #[.int .i64 p, .int .i64 q, .slice za zn zc, .string Y] 28))
  replace Ox := Lib.hid (Ox.out.alloc (.cells #[.int .i64 p, .int .i64 q, .slice za zn zc, .string Y] 28))
  replace Rx := Lib.hid ((Below.heap_alloc _ (.cells #[.int .i64 p, .int .i64 q, .slice za zn zc, .string Y] 28) _ (Array.getElem?_eq_some_iff.1 Rx.out).1).trans Rx.out)
  replace Oy := Lib.hid (Oy.out.alloc (.cells #[.int .i64 p, .int .i64 q, .slice za zn zc, .string Y] 28))
  replace Ry := Lib.hid ((Below.heap_alloc _ (.cells #[.int .i64 p, .int .i64 q, .slice za zn zc, .string Y] 28) _ (Array.getElem?_eq_some_iff.1 Ry.out).1).trans Ry.out)
  replace Oz := Lib.hid (Oz.out.alloc (.cells #[.int .i64 p, .int .i64 q, .slice za zn zc, .string Y] 28))
  have Rz := Lib.hid (heap_alloc_new w6 (.cells #[.int .i64 p, .int .i64 q, .slice za zn zc, .string Y] 28))
  obtain ⟨xc0, xc1, xc2, xc3, -, -, -, -⟩ := row4_of Rx.out
  obtain ⟨zc0, zc1, zc2, zc3, -, -, -, -⟩ := row4_of Rz.out
  go_wp2_with fail
  generalize w6.alloc (.cells #[.int .i64 p, .int .i64 q, .slice za zn zc, .string Y] 28) = W6 at *
  generalize w6.heap.size = bZ at *
  refine (eqframe_self p q _ _ KS Y _ (keysAt_own Oz.out) (keysAt_own Ox.out) (by omega)).mono ?_
  rintro e w7 ⟨rfl, hb⟩
  replace HB := Lib.hid (HB.out.trans (hb.mono HB.out.size))
  replace Ox := Lib.hid (own_below Ox.out hb)
  replace Rx := Lib.hid ((hb.block _ (Array.getElem?_eq_some_iff.1 Rx.out).1).trans Rx.out)
  replace Oy := Lib.hid (own_below Oy.out hb)
  replace Ry := Lib.hid ((hb.block _ (Array.getElem?_eq_some_iff.1 Ry.out).1).trans Ry.out)
  replace Oz := Lib.hid (own_below Oz.out hb)
  replace Rz := Lib.hid ((hb.block _ (Array.getElem?_eq_some_iff.1 Rz.out).1).trans Rz.out)
  clear hb
  clear xc0 xc1 xc2 xc3
  clear zc0 zc1 zc2 zc3
  obtain ⟨yc0, yc1, yc2, yc3, -, -, -, -⟩ := row4_of Ry.out
  go_wp2_with fail
  refine (heldframe_any p q _ KS.length Y 1 _ (keysAt_own (by rw [hml]; exact Oy.out)) (by omega) (by omega)).mono ?_
  rintro e w8 ⟨rfl, hb⟩
  replace HB := Lib.hid (HB.out.trans (hb.mono HB.out.size))
  replace Ox := Lib.hid (own_below Ox.out hb)
  replace Rx := Lib.hid ((hb.block _ (Array.getElem?_eq_some_iff.1 Rx.out).1).trans Rx.out)
  replace Oy := Lib.hid (own_below Oy.out hb)
  replace Ry := Lib.hid ((hb.block _ (Array.getElem?_eq_some_iff.1 Ry.out).1).trans Ry.out)
  replace Oz := Lib.hid (own_below Oz.out hb)
  replace Rz := Lib.hid ((hb.block _ (Array.getElem?_eq_some_iff.1 Rz.out).1).trans Rz.out)
  clear hb
  clear yc0 yc1 yc2 yc3
  go_wp2
  go_ret
  exact ⟨rfl, HB.out⟩
end Go.Proofs.YtdokkhgeeinnhaaDoor
namespace Go.Proofs.YtdokkhgeeinnhaaDoor
open Go
set_option linter.unusedVariables false

theorem put_nil (f : F4) : putL f = [] ↔ frOkB f = false := by
  constructor
  · intro h
    cases hf : frOkB f
    · rfl
    · have := putL_len hf
      rw [h] at this
      simp at this
      omega
  · intro h
    exact if_neg (by rw [h]; exact Bool.false_ne_true)
end Go.Proofs.YtdokkhgeeinnhaaDoor
namespace Go.Proofs.YtdokkhgeeinnhaaDoor
open Go.ChangeShapes Go.WideShapes Go.ChangeAt Go.RowKit Go.BigFrame
set_option linter.unusedVariables false

theorem igetval (s : ByteArray) (w w' : World) (hg : etOk w) (hb : Below w.heap.size w w') (hs : s.size ≤ 1100000) {p q c : Int} {KS : List K2} {Y : ByteArray} (h : getF s.data.toList = (((p, q), (KS, Y)), c)) :
    Calls Tryd.prog 13 #[.string s] w' fun e w'' => ∃ v', e = .returned (.tuple #[.agg #[.int .i64 p, .int .i64 q, v', .string Y], .int .i64 c]) ∧ w''.ownsRow w'.heap.size 50 2 v' KS.length (keyCells KS) ∧ Below w'.heap.size w' w'' := by
  have h1 := igetframe_any s w' (hg.below hb) hs
  rw [h] at h1
  exact h1
set_option maxRecDepth 100000 in
set_option maxHeartbeats 8000000 in
theorem fnframe_walk (a0 : Option Addr) (len0 cap0 : Nat) (z0 : List Int) (w : World) (w0 : IsRow .u8 w a0 len0 cap0 z0) (hg : etOk w) :
    Calls Tryd.prog 3 #[.slice a0 len0 cap0] w fun e w' => e = .returned (.bool true) ∧ Below w.heap.size w w' := by
  by_cases hbig : len0 ≤ 1048576
  · have hcode := codeAt_of w0 hbig
    clear w0
    have HC := Lib.hid hcode
    have HET := Lib.hid hg
    clear hcode hg
    go_enter Tryd.func3, Tryd.ntmps3
    go_wp2_with fail
    refine (big_any _ _ _ _ hbig).mono ?_
    rintro e w1 ⟨rfl, rfl⟩
    go_wp2_with fail
    refine (drawputframe_any w1.heap.size len0 cap0 a0 z0 w1 HC.out (Nat.le_refl _)).mono ?_
    rintro e w2 ⟨p, q, v, ks, y, rfl, hk7, hy5, ho, hb⟩
    have hkA := keysAt_own ho
    obtain ⟨sa, sk, rfl, -, -⟩ := id hkA
    have hb' := hb.alloc hb.size (.cells #[.int .i64 p, .int .i64 q, .slice sa ks.length sk, .string y] 28)
    have HB := Lib.hid hb'
    have RX := Lib.hid (heap_alloc_new w2 (.cells #[.int .i64 p, .int .i64 q, .slice sa ks.length sk, .string y] 28))
    have HK := Lib.hid (keysAt_below hkA ((Below.refl w2.heap.size w2).alloc (Nat.le_refl _) (.cells #[.int .i64 p, .int .i64 q, .slice sa ks.length sk, .string y] 28)))
    clear HC ho hb hb' hkA
    have LF0 := fr_load RX.out (Below.refl _ _)
    go_wp2_with fail
    generalize w2.alloc (.cells #[.int .i64 p, .int .i64 q, .slice sa ks.length sk, .string y] 28) = W at *
    generalize w2.heap.size = bF at *
    refine (iputframe_any p q _ ks y W HK.out (by omega)).mono ?_
    rintro e w3 ⟨rfl, hb3⟩
    clear LF0
    have SP := Lib.hid (fun w' (h : Below w3.heap.size w3 w') => sputframe_any p q _ ks y w' (keysAt_below HK.out (hb3.trans (h.mono hb3.size))) (by omega))
    have SA := Lib.hid (fun w' (h : Below w3.heap.size w3 w') => iframeok_any p q _ ks y w' (keysAt_below HK.out (hb3.trans (h.mono hb3.size))) (by omega))
    have SB := Lib.hid (fun w' (h : Below w3.heap.size w3 w') => sframeok_any p q _ ks y w' (keysAt_below HK.out (hb3.trans (h.mono hb3.size))) (by omega))
    replace HB := Lib.hid (HB.out.trans (hb3.mono HB.out.size))
    replace RX := Lib.hid ((hb3.block _ (Array.getElem?_eq_some_iff.1 RX.out).1).trans RX.out)
    replace HK := Lib.hid (keysAt_below HK.out hb3)
    clear hb3
    have LF := fun (w' : World) (h : Below w3.heap.size w3 w') => fr_load RX.out h
    cases hok : frOkB ((p, q), (ks, y)) with
    | false =>
      rw [hok] at SA SB
      have hv : putS ((p, q), (ks, y)) = ⟨#[]⟩ := by unfold putS; rw [(put_nil _).2 hok]
      rw [hv] at SP
      rw [hv]
      clear hok hv
      go_wp2_with fail
      refine wp_region_below w3 (by kernel_rfl) (by kernel_rfl) (Below.refl _ _) ?_
      repeat (first
        | go_big_quiet_skip
        | (go_big_quiet_want
           first
             | (go_big_quiet_op; go_big_quiet_on)
             | (refine q_load 28 _ _ _ rfl rfl LF ?_; simp only [Act.put, List.setIfInBounds_toArray, List.set_cons_zero, List.set_cons_succ]; go_big_quiet_on)
             | (go_big_quiet_op; refine ⟨_, fun _ _ => rfl, ?_⟩; go_big_quiet_on)
             | (go_big_quiet_op; refine ⟨_, fun _ _ _ => rfl, ?_⟩; go_big_quiet_on)
             | (go_big_quiet_op; apply Exists.intro; refine ⟨fun w' hw' => ?_, ?_⟩
                · first
                  | (with_reducible refine (SP.out w' hw').mono ?_
                     rintro e w2 ⟨rfl, hb2⟩
                     exact ⟨rfl, hw'.trans (hb2.mono hw'.size)⟩)
                  | (with_reducible refine (SA.out w' hw').mono ?_
                     rintro e w2 ⟨rfl, hb2⟩
                     exact ⟨rfl, hw'.trans (hb2.mono hw'.size)⟩)
                  | (with_reducible refine (SB.out w' hw').mono ?_
                     rintro e w2 ⟨rfl, hb2⟩
                     exact ⟨rfl, hw'.trans (hb2.mono hw'.size)⟩)
                go_big_quiet_on)))
      refine wpQuiet_nil ?_
      intro w4 hb4
      replace HB := Lib.hid (HB.out.trans (hb4.mono HB.out.size))
      replace RX := Lib.hid ((hb4.block _ (Array.getElem?_eq_some_iff.1 RX.out).1).trans RX.out)
      replace HK := Lib.hid (keysAt_below HK.out hb4)
      have SB4 := Lib.hid (SB.out w4 hb4)
      clear LF SA SB SP hb4
      obtain ⟨X0, X1, X2, X3, -, -, -, -⟩ := row4_of RX.out
      go_wp2_with fail
      refine SB4.out.mono ?_
      rintro e w5 ⟨rfl, hb⟩
      replace HB := Lib.hid (HB.out.trans (hb.mono HB.out.size))
      replace RX := Lib.hid ((hb.block _ (Array.getElem?_eq_some_iff.1 RX.out).1).trans RX.out)
      replace HK := Lib.hid (keysAt_below HK.out hb)
      clear hb SB4 X0 X1 X2 X3
      go_wp2
      go_ret
      exact ⟨rfl, HB.out⟩
    | true =>
      rw [hok] at SA SB
      have hsz : (putS ((p, q), (ks, y))).size = 13 + 2 * ks.length := by rw [← putL_len hok]; show (putL _).toArray.size = _; simp
      have hpd : (putS ((p, q), (ks, y))).data.toList = putL ((p, q), (ks, y)) := by simp [putS]
      have hl1 : (putL ((p, q), (ks, y))).length = 13 + 2 * ks.length := putL_len hok
      have g1 : getF (putS ((p, q), (ks, y))).data.toList = (((p, q), (ks, y)), 0) := by rw [hpd]; exact get_put hok
      have g2 : getF ((putS ((p, q), (ks, y))).extract 0 (12 + 2 * ks.length)).data.toList = (((0, 0), ([], ByteArray.empty)), 1) := by
        rw [extract_take]
        show getF ((putS ((p, q), (ks, y))).data.toList.take (12 + 2 * ks.length)) = _
        rw [hpd]
        have h := get_cut hok
        rw [hl1, show 13 + 2 * ks.length - 1 = 12 + 2 * ks.length by omega] at h
        exact h
      have g3 : getF ((putS ((p, q), (ks, y))) ++ (⟨#[120]⟩ : ByteArray)).data.toList = (((0, 0), ([], ByteArray.empty)), 1) := by
        rw [ByteArray.data_append]
        show getF _ = (fr0, 1)
        have h := get_more hok 120
        rw [← hpd] at h
        simpa using h
      have hS : (putS ((p, q), (ks, y))).toList.isEmpty = false := by
        rw [ByteArray.toList_eq, List.isEmpty_eq_false_iff]
        intro h1
        rw [hpd] at h1
        rw [h1] at hl1
        simp at hl1
        omega
      clear hok hpd hl1
      generalize putS ((p, q), (ks, y)) = S at *
      have HBW := HB
      have I1 := Lib.hid (fun w' (h : Below w1.heap.size w1 w') => igetval S w1 w' HET.out h (by omega) g1)
      have I2 := Lib.hid (fun w' (h : Below w1.heap.size w1 w') => igetval (S.extract 0 (12 + 2 * ks.length)) w1 w' HET.out h (by simp; omega) g2)
      have I3 := Lib.hid (fun w' (h : Below w1.heap.size w1 w') => igetval (S ++ (⟨#[120]⟩ : ByteArray)) w1 w' HET.out h (by rw [ByteArray.size_append]; show S.size + 1 ≤ _; omega) g3)
      clear g1 g2 g3 HBW HET
      obtain ⟨m, hm⟩ : ∃ m, 12 + 2 * ks.length = m := ⟨_, rfl⟩
      have hsm : S.size = m + 1 := by omega
      rw [hm] at I2
      have HM := Lib.hid (And.intro hm hsz)
      clear hm hsz
      go_wp2_with fail
      refine wp_region_below w3 (by kernel_rfl) (by kernel_rfl) (Below.refl _ _) ?_
      repeat (first
        | go_big_quiet_skip
        | (go_big_quiet_want
           first
             | (go_big_quiet_op; go_big_quiet_on)
             | (refine q_load 28 _ _ _ rfl rfl LF ?_; simp only [Act.put, List.setIfInBounds_toArray, List.set_cons_zero, List.set_cons_succ]; go_big_quiet_on)
             | (go_big_quiet_op; refine ⟨_, fun _ _ => rfl, ?_⟩; go_big_quiet_on)
             | (go_big_quiet_op; refine ⟨_, fun _ _ _ => rfl, ?_⟩; go_big_quiet_on)
             | (go_big_quiet_op; apply Exists.intro; refine ⟨fun w' hw' => ?_, ?_⟩
                · first
                  | (with_reducible refine (SP.out w' hw').mono ?_
                     rintro e w2 ⟨rfl, hb2⟩
                     exact ⟨rfl, hw'.trans (hb2.mono hw'.size)⟩)
                  | (with_reducible refine (SA.out w' hw').mono ?_
                     rintro e w2 ⟨rfl, hb2⟩
                     exact ⟨rfl, hw'.trans (hb2.mono hw'.size)⟩)
                  | (with_reducible refine (SB.out w' hw').mono ?_
                     rintro e w2 ⟨rfl, hb2⟩
                     exact ⟨rfl, hw'.trans (hb2.mono hw'.size)⟩)
                go_big_quiet_on)))
      refine wpQuiet_nil ?_
      intro w4 hb4
      replace HB := Lib.hid (HB.out.trans (hb4.mono HB.out.size))
      replace RX := Lib.hid ((hb4.block _ (Array.getElem?_eq_some_iff.1 RX.out).1).trans RX.out)
      replace HK := Lib.hid (keysAt_below HK.out hb4)
      have SB4 := Lib.hid (SB.out w4 hb4)
      clear LF SA SB SP hb4
      obtain ⟨X0, X1, X2, X3, -, -, -, -⟩ := row4_of RX.out
      go_wp2_with fail
      refine SB4.out.mono ?_
      rintro e w5 ⟨rfl, hb⟩
      replace HB := Lib.hid (HB.out.trans (hb.mono HB.out.size))
      replace RX := Lib.hid ((hb.block _ (Array.getElem?_eq_some_iff.1 RX.out).1).trans RX.out)
      replace HK := Lib.hid (keysAt_below HK.out hb)
      clear hb SB4 X0 X1 X2 X3
      go_wp2_with fail
      refine (I1.out _ HB.out).mono ?_
      rintro e w6 ⟨bkv, rfl, ho, hb⟩
      obtain ⟨bka, bkn, bkc, rfl⟩ := own_shape ho
      have hbA := hb.alloc hb.size (.cells #[.int .i64 p, .int .i64 q, .slice bka bkn bkc, .string y] 28)
      have RB := Lib.hid (heap_alloc_new w6 (.cells #[.int .i64 p, .int .i64 q, .slice bka bkn bkc, .string y] 28))
      have HO := Lib.hid (keysAt_own (ho.alloc (.cells #[.int .i64 p, .int .i64 q, .slice bka bkn bkc, .string y] 28)))
      replace HB := Lib.hid (HB.out.trans (hbA.mono HB.out.size))
      replace RX := Lib.hid ((hbA.block _ (Array.getElem?_eq_some_iff.1 RX.out).1).trans RX.out)
      replace HK := Lib.hid (keysAt_below HK.out hbA)
      clear hb ho hbA
      clear I1
      have j0 : (0 : Int) ≤ (m : Int) := by omega
      have j1 : (m : Int) ≤ (m : Int) + 1 := by omega
      have j2 : IntKind.i64.wrap ((m : Int) + 1 - 1) = (m : Int) := by rw [show (m : Int) + 1 - 1 = m by omega]; exact IntWalk.i64_in _ (by have := HM.out.1; omega)
      have hm100 : m ≤ 100 := by have := HM.out.1; omega
      go_wp2_with fail
      generalize w6.alloc (.cells #[.int .i64 p, .int .i64 q, .slice bka bkn bkc, .string y] 28) = W6 at *
      generalize w6.heap.size = bB at *
      refine (I2.out _ HB.out).mono ?_
      rintro e w7 ⟨ckv, rfl, ho, hb⟩
      obtain ⟨cka, ckn, ckc, rfl⟩ := own_shape ho
      have hbA := hb.alloc hb.size (.cells #[.int .i64 0, .int .i64 0, .slice cka ckn ckc, .string ByteArray.empty] 28)
      replace RB := Lib.hid ((hbA.block _ (Array.getElem?_eq_some_iff.1 RB.out).1).trans RB.out)
      replace HO := Lib.hid (keysAt_below HO.out hbA)
      replace HB := Lib.hid (HB.out.trans (hbA.mono HB.out.size))
      replace RX := Lib.hid ((hbA.block _ (Array.getElem?_eq_some_iff.1 RX.out).1).trans RX.out)
      replace HK := Lib.hid (keysAt_below HK.out hbA)
      clear hb ho hbA
      clear I2 j0 j1 j2
      have hno : ¬ 9223372036854775807 < m + 1 + 1 := by omega
      go_wp2_with fail
      generalize w7.alloc (.cells #[.int .i64 0, .int .i64 0, .slice cka ckn ckc, .string ByteArray.empty] 28) = W7 at *
      refine (I3.out _ HB.out).mono ?_
      rintro e w8 ⟨mkv, rfl, ho, hb⟩
      obtain ⟨mka, mkn, mkc, rfl⟩ := own_shape ho
      have hbA := hb.alloc hb.size (.cells #[.int .i64 0, .int .i64 0, .slice mka mkn mkc, .string ByteArray.empty] 28)
      replace RB := Lib.hid ((hbA.block _ (Array.getElem?_eq_some_iff.1 RB.out).1).trans RB.out)
      replace HO := Lib.hid (keysAt_below HO.out hbA)
      replace HB := Lib.hid (HB.out.trans (hbA.mono HB.out.size))
      replace RX := Lib.hid ((hbA.block _ (Array.getElem?_eq_some_iff.1 RX.out).1).trans RX.out)
      replace HK := Lib.hid (keysAt_below HK.out hbA)
      clear hb ho hbA
      clear I3
      obtain ⟨X0, X1, X2, X3, -, -, -, -⟩ := row4_of RX.out
      obtain ⟨B0, B1, B2, B3, -, -, -, -⟩ := row4_of RB.out
      have SM := Lib.hid (sameframe_any p q _ ks y p q _ ks y _ HO.out HK.out (by omega) (by omega))
      rw [show (decide (p = p) && (decide (q = q) && (decide (y = y) && decide (ks = ks)))) = true by simp] at SM
      have k1 : IntKind.i64.wrap (2 * (ks.length : Int)) = 2 * (ks.length : Int) := IntWalk.i64_in _ (by omega)
      have k2 : IntKind.i64.wrap (13 + 2 * (ks.length : Int)) = 13 + 2 * (ks.length : Int) := IntWalk.i64_in _ (by omega)
      have k3 : (m : Int) + 1 = 13 + 2 * (ks.length : Int) := by have := HM.out.1; omega
      go_wp2_with fail
      refine SM.out.mono ?_
      rintro e w9 ⟨rfl, hb⟩
      replace RX := Lib.hid ((hb.block _ (Array.getElem?_eq_some_iff.1 RX.out).1).trans RX.out)
      replace HB := Lib.hid (HB.out.trans (hb.mono HB.out.size))
      clear hb SM X0 X1 X2 X3 B0 B1 B2 B3
      obtain ⟨X0, X1, X2, X3, -, -, -, -⟩ := row4_of RX.out
      go_wp2
      go_ret
      exact ⟨rfl, HB.out⟩
  · go_enter Tryd.func3, Tryd.ntmps3
    go_wp2_with fail
    refine (big_true _ _ _ _ hbig).mono ?_
    rintro e w1 ⟨rfl, rfl⟩
    go_wp2
    go_ret
    exact ⟨rfl, Below.refl _ _⟩
end Go.Proofs.YtdokkhgeeinnhaaDoor
