/- Readings in the laws: two, and lists of them, held against each other. -/
import Derived.Test.YtbkeggklfaepnaaRdE
import Derived.Test.YtbkeggklfaepnaaKeyL0
import Derived.Test.YtbkeggklfaepnaaQuiet2
namespace Go.Proofs.Ytbkeggklfaepnaa
open Go.ChangeShapes Go.WideShapes Go.ChangeAt Go.RowKit Go.BigFrame
set_option linter.unusedVariables false

set_option maxHeartbeats 1000000 in
theorem eqreading_any (p q : R3) (w : World) : Calls Try.prog 44 #[rv p, rv q] w fun e w' => e = .returned (.bool (decide (p = q))) ∧ Below w.heap.size w w' := by
  obtain ⟨⟨a, b⟩, s⟩ := p; obtain ⟨⟨c, d⟩, t⟩ := q
  unfold rv
  dsimp only
  have hb : Below w.heap.size w ((w.alloc (.cells #[.int .i64 a, .int .i64 b, .string s] 28)).alloc (.cells #[.int .i64 c, .int .i64 d, .string t] 28)) := ((Below.refl _ _).alloc (Nat.le_refl _) _).alloc (by simp) _
  have f1 := heap_first w (.cells #[.int .i64 c, .int .i64 d, .string t] 28) (.cells #[.int .i64 a, .int .i64 b, .string s] 28)
  have f2 : ((w.alloc (.cells #[.int .i64 a, .int .i64 b, .string s] 28)).alloc (.cells #[.int .i64 c, .int .i64 d, .string t] 28)).heap[w.heap.size + 1]? = some (.cells #[.int .i64 c, .int .i64 d, .string t] 28) := by
    have := heap_alloc_new (w.alloc (.cells #[.int .i64 a, .int .i64 b, .string s] 28)) (.cells #[.int .i64 c, .int .i64 d, .string t] 28)
    simpa using this
  have hz : ((w.alloc (.cells #[.int .i64 a, .int .i64 b, .string s] 28)).alloc (.cells #[.int .i64 c, .int .i64 d, .string t] 28)).heap.size = w.heap.size + 1 + 1 := by simp
  have HE := fun w => eqkey_any (a, b) (c, d) w
  go_enter Try.func44, Try.ntmps44
  go_wp2_with fail
  generalize ((w.alloc (.cells #[.int .i64 a, .int .i64 b, .string s] 28)).alloc (.cells #[.int .i64 c, .int .i64 d, .string t] 28)) = W at *
  have cs : W.cell? ⟨w.heap.size, 2, none⟩ = some (.string s) := by rw [cell_of_row _ _ 2 _ _ _ f1]; rfl
  have ct : W.cell? ⟨w.heap.size + 1, 2, none⟩ = some (.string t) := by rw [cell_of_row _ _ 2 _ _ _ f2]; rfl
  refine (HE _).mono ?_
  rintro e w1 ⟨rfl, hb1⟩
  have cs1 := (hb1.cell (p := ⟨w.heap.size, 2, none⟩) (by rw [hz]; dsimp only; omega)).trans cs
  have ct1 := (hb1.cell (p := ⟨w.heap.size + 1, 2, none⟩) (by rw [hz]; dsimp only; omega)).trans ct
  have hB := hb.trans (hb1.mono hb.size)
  clear f1 f2 cs ct HE hb hb1 hz
  by_cases hk : (a, b) = (c, d)
  · have e1 : ((a, b) == (c, d)) = true := by rw [hk]; exact beq_self_eq_true _
    rw [e1]
    by_cases h3 : s = t
    · have e2 : s.toList = t.toList := by rw [h3]
      have e3 : decide (((a, b), s) = ((c, d), t)) = true := by rw [hk, h3]; simp
      have e4 : (s == t) = true := by rw [Go.beq_toListBytes, e2]; simp
      have E3 := Lib.hid e3
      clear e1 hk h3 e3
      go_wp2
      go_ret
      exact ⟨by rw [E3.out]; rfl, hB⟩
    · have e2 : ¬ s.toList = t.toList := fun h => h3 ((bytes_toList_iff _ _).1 h)
      have e3 : decide (((a, b), s) = ((c, d), t)) = false := by simp [h3]
      have e4 : (s.toList == t.toList) = false := beq_eq_false_iff_ne.2 e2
      have E3 := Lib.hid e3
      clear e1 hk h3 e3
      go_wp2
      go_ret
      exact ⟨by rw [E3.out]; rfl, hB⟩
  · have e1 : ((a, b) == (c, d)) = false := beq_eq_false_iff_ne.2 hk
    have e3 : decide (((a, b), s) = ((c, d), t)) = false := by
      rw [decide_eq_false_iff_not]; intro h; exact hk (Prod.mk.inj h).1
    rw [e1]
    have E3 := Lib.hid e3
    clear e1 e3 hk
    go_wp2
    go_ret
    exact ⟨by rw [E3.out]; rfl, hB⟩
set_option maxRecDepth 100000 in
set_option maxHeartbeats 1000000 in
theorem eqreadings_any (va vb : Value) (A B : List R3) (w : World) (ha : rdAt w va A) (hb : rdAt w vb B) (hsA : A.length ≤ 4000000) (hsB : B.length ≤ 4000000) :
    Calls Try.prog 27 #[va, vb] w fun e w' => e = .returned (.bool (decide (A = B))) ∧ Below w.heap.size w w' := by
  obtain ⟨aa, ca, rfl, hca, hcA⟩ := ha
  obtain ⟨ab, cb, rfl, hcb, hcB⟩ := hb
  by_cases hl : A.length = B.length
  · have e0 : (A.length : Int) = (B.length : Int) := by omega
    go_enter Try.func27, Try.ntmps27
    rw [hl] at hca hcA ⊢
    go_wp2
    go_loopw [5] (fun i wr => ∃ k : Nat, k ≤ B.length ∧ i = .int .i64 k ∧ (∀ j, j < k → A.getD j r0 = B.getD j r0) ∧ Below w.heap.size w wr) (fun i _ => B.length - (intOf i).toNat)
    case atStart => exact ⟨0, Nat.zero_le _, rfl, fun j hj => by omega, Below.refl _ _⟩
    case round =>
      obtain ⟨k, hk, rfl, hall, hbr⟩ := hrel
      by_cases hlt : k < B.length
      · obtain ⟨ga, offa, rfl, hga, hcsA⟩ := hcA.resolve_left (by omega)
        obtain ⟨gb, offb, rfl, hgb, hcsB⟩ := hcB.resolve_left (by omega)
        have cA := hcsA k hlt
        have cB := hcsB k hlt
        have z0 : (0 : Int) ≤ (k : Int) := by omega
        have z1 : (k : Int) < (B.length : Int) := by omega
        clear hcsA hcsB hcA hcB
        have L1 : ∀ w', Below w.heap.size w w' → (loadVar 28 ⟨ga, offa + k * 3, none⟩).run Try.prog w' = .ok (rv (A.getD k r0)) w' := fun w' h => rd_load cA hga h
        have L2 : ∀ w', Below w.heap.size w w' → (loadVar 28 ⟨gb, offb + k * 3, none⟩).run Try.prog w' = .ok (rv (B.getD k r0)) w' := fun w' h => rd_load cB hgb h
        have HE := Lib.hid (fun w => eqreading_any (A.getD k r0) (B.getD k r0) w)
        clear cA cB
        cases he : decide (A.getD k r0 = B.getD k r0) with
        | true =>
          have hn : ∀ j, j < k + 1 → A.getD j r0 = B.getD j r0 := by
            intro j hj
            rcases (by omega : j < k ∨ j = k) with h1 | rfl
            · exact hall j h1
            · exact of_decide_eq_true he
          have HN := Lib.hid hn
          rw [he] at HE
          clear hall hn
          generalize A.getD k r0 = kx at *
          generalize B.getD k r0 = ky at *
          go_wp2
          refine wp_region_below w (by kernel_rfl) (by kernel_rfl) hbr ?_
          repeat (first
            | go_big_quiet_skip
            | (go_big_quiet_want
               first
                 | (go_big_quiet_op; go_big_quiet_on)
                 | (refine q_load 28 _ _ _ rfl rfl L1 ?_; simp only [Act.put, List.setIfInBounds_toArray, List.set_cons_zero, List.set_cons_succ]; go_big_quiet_on)
                 | (refine q_load 28 _ _ _ rfl rfl L2 ?_; simp only [Act.put, List.setIfInBounds_toArray, List.set_cons_zero, List.set_cons_succ]; go_big_quiet_on)
                 | (go_big_quiet_op; refine ⟨_, fun _ _ => rfl, ?_⟩; go_big_quiet_on)
                 | (go_big_quiet_op; apply Exists.intro; refine ⟨fun w' hw' => ?_, ?_⟩
                    · first
                      | (refine (HE.out w').mono ?_
                         rintro e w2 ⟨rfl, hb2⟩
                         exact ⟨rfl, hw'.trans (hb2.mono hw'.size)⟩)
                    go_big_quiet_on)))
          refine wpQuiet_nil ?_
          intro w2 hb2
          clear L1 L2 HE hbr
          go_wp2
          exact ⟨⟨k + 1, by omega, by go_num, HN.out, hb2⟩, by simp [intOf]; omega⟩
        | false =>
          have hne : decide (A = B) = false := by
            simp only [decide_eq_false_iff_not]
            intro e
            subst e
            simp at he
          have HD := Lib.hid hne
          rw [he] at HE
          clear hall hne
          generalize A.getD k r0 = kx at *
          generalize B.getD k r0 = ky at *
          go_wp2
          refine wp_region_below w (by kernel_rfl) (by kernel_rfl) hbr ?_
          repeat (first
            | go_big_quiet_skip
            | (go_big_quiet_want
               first
                 | (go_big_quiet_op; go_big_quiet_on)
                 | (refine q_load 28 _ _ _ rfl rfl L1 ?_; simp only [Act.put, List.setIfInBounds_toArray, List.set_cons_zero, List.set_cons_succ]; go_big_quiet_on)
                 | (refine q_load 28 _ _ _ rfl rfl L2 ?_; simp only [Act.put, List.setIfInBounds_toArray, List.set_cons_zero, List.set_cons_succ]; go_big_quiet_on)
                 | (go_big_quiet_op; refine ⟨_, fun _ _ => rfl, ?_⟩; go_big_quiet_on)
                 | (go_big_quiet_op; apply Exists.intro; refine ⟨fun w' hw' => ?_, ?_⟩
                    · first
                      | (refine (HE.out w').mono ?_
                         rintro e w2 ⟨rfl, hb2⟩
                         exact ⟨rfl, hw'.trans (hb2.mono hw'.size)⟩)
                    go_big_quiet_on)))
          refine wpQuiet_nil ?_
          intro w2 hb2
          clear L1 L2 HE hbr
          go_wp2
          go_ret
          exact ⟨by rw [HD.out]; rfl, hb2⟩
      · obtain rfl : k = B.length := by omega
        have he : decide (A = B) = true := by
          simp only [decide_eq_true_eq]
          apply List.ext_getElem hl
          intro i h1 h2
          have := hall i h2
          simpa [List.getD, h1, h2] using this
        have HD := Lib.hid he
        clear hall he
        go_wp2
        go_ret
        exact ⟨by rw [HD.out]; rfl, hbr⟩
  · have hne : decide (A = B) = false := by simp only [decide_eq_false_iff_not]; intro e; subst e; exact hl rfl
    have HD := Lib.hid hne
    have e0 : ¬ (A.length : Int) = (B.length : Int) := by omega
    clear hne
    go_enter Try.func27, Try.ntmps27
    go_wp2
    go_ret
    exact ⟨by rw [HD.out]; rfl, Below.refl _ _⟩
set_option maxRecDepth 100000 in
set_option maxHeartbeats 1000000 in
theorem samereadings_any (va vb : Value) (A B : List R3) (w : World) (ha : rdAt w va A) (hb : rdAt w vb B) (hsA : A.length ≤ 4000000) (hsB : B.length ≤ 4000000) :
    Calls Try.prog 13 #[va, vb] w fun e w' => e = .returned (.bool (decide (A = B))) ∧ Below w.heap.size w w' := by
  obtain ⟨aa, ca, rfl, hca, hcA⟩ := ha
  obtain ⟨ab, cb, rfl, hcb, hcB⟩ := hb
  by_cases hl : A.length = B.length
  · have e0 : (A.length : Int) = (B.length : Int) := by omega
    go_enter Try.func13, Try.ntmps13
    rw [hl] at hca hcA ⊢
    go_wp2
    go_loopw [5] (fun i wr => ∃ k : Nat, k ≤ B.length ∧ i = .int .i64 k ∧ (∀ j, j < k → A.getD j r0 = B.getD j r0) ∧ Below w.heap.size w wr) (fun i _ => B.length - (intOf i).toNat)
    case atStart => exact ⟨0, Nat.zero_le _, rfl, fun j hj => by omega, Below.refl _ _⟩
    case round =>
      obtain ⟨k, hk, rfl, hall, hbr⟩ := hrel
      by_cases hlt : k < B.length
      · obtain ⟨ga, offa, rfl, hga, hcsA⟩ := hcA.resolve_left (by omega)
        obtain ⟨gb, offb, rfl, hgb, hcsB⟩ := hcB.resolve_left (by omega)
        have cA := hcsA k hlt
        have cB := hcsB k hlt
        have z0 : (0 : Int) ≤ (k : Int) := by omega
        have z1 : (k : Int) < (B.length : Int) := by omega
        clear hcsA hcsB hcA hcB
        have L1 : ∀ w', Below w.heap.size w w' → (loadVar 28 ⟨ga, offa + k * 3, none⟩).run Try.prog w' = .ok (rv (A.getD k r0)) w' := fun w' h => rd_load cA hga h
        have L2 : ∀ w', Below w.heap.size w w' → (loadVar 28 ⟨gb, offb + k * 3, none⟩).run Try.prog w' = .ok (rv (B.getD k r0)) w' := fun w' h => rd_load cB hgb h
        have HE := Lib.hid (fun w => eqreading_any (A.getD k r0) (B.getD k r0) w)
        clear cA cB
        cases he : decide (A.getD k r0 = B.getD k r0) with
        | true =>
          have hn : ∀ j, j < k + 1 → A.getD j r0 = B.getD j r0 := by
            intro j hj
            rcases (by omega : j < k ∨ j = k) with h1 | rfl
            · exact hall j h1
            · exact of_decide_eq_true he
          have HN := Lib.hid hn
          rw [he] at HE
          clear hall hn
          generalize A.getD k r0 = kx at *
          generalize B.getD k r0 = ky at *
          go_wp2
          refine wp_region_below w (by kernel_rfl) (by kernel_rfl) hbr ?_
          repeat (first
            | go_big_quiet_skip
            | (go_big_quiet_want
               first
                 | (go_big_quiet_op; go_big_quiet_on)
                 | (refine q_load 28 _ _ _ rfl rfl L1 ?_; simp only [Act.put, List.setIfInBounds_toArray, List.set_cons_zero, List.set_cons_succ]; go_big_quiet_on)
                 | (refine q_load 28 _ _ _ rfl rfl L2 ?_; simp only [Act.put, List.setIfInBounds_toArray, List.set_cons_zero, List.set_cons_succ]; go_big_quiet_on)
                 | (refine q_bin _ 28 _ _ _ _ _ _ rfl rfl rfl (fun w => rd_guard _ _ _ _ _ w) (fun w => rd_eql _ _ w) ?_; simp only [Act.put, List.setIfInBounds_toArray, List.set_cons_zero, List.set_cons_succ]; go_big_quiet_on)
                 | (refine q_bin _ 28 _ _ _ _ _ _ rfl rfl rfl (fun w => rd_guard _ _ _ _ _ w) (fun w => rd_neq _ _ w) ?_; simp only [Act.put, List.setIfInBounds_toArray, List.set_cons_zero, List.set_cons_succ]; go_big_quiet_on)
                 | (go_big_quiet_op; refine ⟨_, fun _ _ => rfl, ?_⟩; go_big_quiet_on)
                 | (go_big_quiet_op; go_big_quiet_on)))
          refine wpQuiet_nil ?_
          intro w2 hb2
          rw [he]
          clear L1 L2 HE hbr
          go_wp2
          exact ⟨⟨k + 1, by omega, by go_num, HN.out, hb2⟩, by simp [intOf]; omega⟩
        | false =>
          have hne : decide (A = B) = false := by
            simp only [decide_eq_false_iff_not]
            intro e
            subst e
            simp at he
          have HD := Lib.hid hne
          rw [he] at HE
          clear hall hne
          generalize A.getD k r0 = kx at *
          generalize B.getD k r0 = ky at *
          go_wp2
          refine wp_region_below w (by kernel_rfl) (by kernel_rfl) hbr ?_
          repeat (first
            | go_big_quiet_skip
            | (go_big_quiet_want
               first
                 | (go_big_quiet_op; go_big_quiet_on)
                 | (refine q_load 28 _ _ _ rfl rfl L1 ?_; simp only [Act.put, List.setIfInBounds_toArray, List.set_cons_zero, List.set_cons_succ]; go_big_quiet_on)
                 | (refine q_load 28 _ _ _ rfl rfl L2 ?_; simp only [Act.put, List.setIfInBounds_toArray, List.set_cons_zero, List.set_cons_succ]; go_big_quiet_on)
                 | (refine q_bin _ 28 _ _ _ _ _ _ rfl rfl rfl (fun w => rd_guard _ _ _ _ _ w) (fun w => rd_eql _ _ w) ?_; simp only [Act.put, List.setIfInBounds_toArray, List.set_cons_zero, List.set_cons_succ]; go_big_quiet_on)
                 | (refine q_bin _ 28 _ _ _ _ _ _ rfl rfl rfl (fun w => rd_guard _ _ _ _ _ w) (fun w => rd_neq _ _ w) ?_; simp only [Act.put, List.setIfInBounds_toArray, List.set_cons_zero, List.set_cons_succ]; go_big_quiet_on)
                 | (go_big_quiet_op; refine ⟨_, fun _ _ => rfl, ?_⟩; go_big_quiet_on)
                 | (go_big_quiet_op; go_big_quiet_on)))
          refine wpQuiet_nil ?_
          intro w2 hb2
          rw [he]
          clear L1 L2 HE hbr
          go_wp2
          go_ret
          exact ⟨by rw [HD.out]; rfl, hb2⟩
      · obtain rfl : k = B.length := by omega
        have he : decide (A = B) = true := by
          simp only [decide_eq_true_eq]
          apply List.ext_getElem hl
          intro i h1 h2
          have := hall i h2
          simpa [List.getD, h1, h2] using this
        have HD := Lib.hid he
        clear hall he
        go_wp2
        go_ret
        exact ⟨by rw [HD.out]; rfl, hbr⟩
  · have hne : decide (A = B) = false := by simp only [decide_eq_false_iff_not]; intro e; subst e; exact hl rfl
    have HD := Lib.hid hne
    have e0 : ¬ (A.length : Int) = (B.length : Int) := by omega
    clear hne
    go_enter Try.func13, Try.ntmps13
    go_wp2
    go_ret
    exact ⟨by rw [HD.out]; rfl, Below.refl _ _⟩
end Go.Proofs.Ytbkeggklfaepnaa
