/- The model's chapter 3, walked: two lists of keys made one (the walk). -/
import Derived.Test.YtbhdgkaeackbkaaDoorKeyG
namespace Go.Proofs.YtbhdgkaeackbkaaDoor
open Go.ChangeShapes Go.WideShapes Go.ChangeAt Go.RowKit Go.BigFrame
set_option linter.unusedVariables false

def mergeV (both : Bool) (a b : List K2) : List K2 := if keysOkR a && keysOkR b then mergeL both a b else []
theorem cell_two_new (w : World) (x y : Value) (e : TypeId) : ∀ j u, ([x, y] : List Value)[j]? = some u → (w.alloc (.cells #[x, y] e)).cell? ((⟨w.heap.size, 0, none⟩ : Addr).add j) = some u := by
  intro j u hj
  have : j < 2 := by have := (List.getElem?_eq_some_iff.1 hj).1; simpa using this
  rcases (by omega : j = 0 ∨ j = 1) with rfl | rfl <;> simpa [Addr.add_lit] using hj
set_option maxRecDepth 100000 in
set_option maxHeartbeats 4000000 in
theorem smerge_any (va vb : Value) (A B : List K2) (both : Bool) (w : World) (ha : keysAt w va A) (hb : keysAt w vb B) (hsA : A.length ≤ 2000000) (hsB : B.length ≤ 2000000) :
    Calls Tryd.prog 63 #[va, vb, .bool both] w fun e w' => ∃ v, e = .returned v ∧ w'.ownsRow w.heap.size 43 2 v (mergeV both A B).length (keyCells (mergeV both A B)) ∧ Below w.heap.size w w' := by
  obtain ⟨i0, hi, hz0, hz1, hz2⟩ := info_parts infoK
  have hown0 := World.ownsRow_made (base := w.heap.size) (e := 43) (size := 2) w #[] 0 (Nat.le_refl _) (by unfold maxLen; omega) rfl
  have hb0 := (Below.refl w.heap.size w).alloc (Nat.le_refl _) (.cells #[] 43)
  have KA := Lib.hid (fun w' (h : Below w.heap.size w w') => skeysok_any va A w' (keysAt_below ha h) hsA)
  have KB := Lib.hid (fun w' (h : Below w.heap.size w w') => skeysok_any vb B w' (keysAt_below hb h) hsB)
  generalize hmv : mergeV both A B = M
  go_enter Tryd.func63, Tryd.ntmps63
  go_wp2_with fail
  generalize w.alloc (.cells #[] 43) = W at *
  refine (KA.out _ hb0).mono ?_
  rintro e w1 ⟨rfl, hbx⟩
  have hown1 := own_below hown0 hbx
  have hb1 := hb0.trans (hbx.mono hb0.size)
  clear hbx hown0 hb0 KA
  cases hA : keysOkR A with
  | false =>
    obtain rfl : M = [] := by rw [← hmv]; unfold mergeV; rw [hA]; rfl
    go_wp2
    go_ret
    exact ⟨_, rfl, hown1, hb1⟩
  | true =>
    go_wp2_with fail
    refine (KB.out _ hb1).mono ?_
    rintro e w2 ⟨rfl, hbx⟩
    have hown2 := own_below hown1 hbx
    have hb2 := hb1.trans (hbx.mono hb1.size)
    clear hbx hown1 hb1 KB
    cases hB : keysOkR B with
    | false =>
      obtain rfl : M = [] := by rw [← hmv]; unfold mergeV; rw [hA, hB]; rfl
      go_wp2
      go_ret
      exact ⟨_, rfl, hown2, hb2⟩
    | true =>
      have hML : mergeL both A B = M := by rw [← hmv]; unfold mergeV; rw [hA, hB]; rfl
      have hlen := mergeL_len both A B
      rw [hML] at hlen
      obtain ⟨aa, ca, rfl, hca, hcA⟩ := ha
      obtain ⟨ab, cb, rfl, hcb, hcB⟩ := hb
      clear hA hB hmv
      go_wp2
      go_loopw [7, 8, 9] (fun v i j wr => ∃ (x y : Nat) (out : List K2), x ≤ A.length ∧ y ≤ B.length ∧ i = .int .i64 x ∧ j = .int .i64 y ∧ out ++ mergeL both (A.drop x) (B.drop y) = M ∧
          wr.ownsRow w.heap.size 43 2 v out.length (keyCells out) ∧ Below w.heap.size w wr) (fun _ i j _ => (A.length - (intOf i).toNat) + (B.length - (intOf j).toNat))
      case atStart => exact ⟨0, 0, [], by omega, by omega, rfl, rfl, by simpa using hML, hown2, hb2⟩
      case round =>
        obtain ⟨x, y, out, hx, hy, rfl, rfl, hout, hown, hbr⟩ := hrel
        clear hown2 hb2
        have hol : out.length ≤ M.length := by rw [← hout]; simp
        by_cases hxA : x < A.length
        · by_cases hyB : y < B.length
          ·
            obtain ⟨ga, offa, rfl, hga, hcsA⟩ := hcA.resolve_left (by omega)
            have cA := hcsA x hxA
            have LA : ∀ w', Below wr.heap.size wr w' → (loadVar 43 ⟨ga, offa + x * 2, none⟩).run Tryd.prog w' = .ok (kv (A.getD x (0, 0))) w' := fun w' h => key_load cA hga (hbr.trans (h.mono hbr.size))
            clear hcsA hcA
            obtain ⟨gb, offb, rfl, hgb, hcsB⟩ := hcB.resolve_left (by omega)
            have cB := hcsB y hyB
            have LB : ∀ w', Below wr.heap.size wr w' → (loadVar 43 ⟨gb, offb + y * 2, none⟩).run Tryd.prog w' = .ok (kv (B.getD y (0, 0))) w' := fun w' h => key_load cB hgb (hbr.trans (h.mono hbr.size))
            clear hcsB hcB
            have hdA := drop_at A x hxA
            have hdB := drop_at B y hyB
            have hco := mergeL_cons both (A.getD x (0, 0)) (A.drop (x + 1)) (B.getD y (0, 0)) (B.drop (y + 1))
            rw [← hdA, ← hdB] at hco
            have HAB := Lib.hid (fun w => sahead_any (A.getD x (0, 0)) (B.getD y (0, 0)) w)
            have HBA := Lib.hid (fun w => sahead_any (B.getD y (0, 0)) (A.getD x (0, 0)) w)
            cases hab : aheadB (A.getD x (0, 0)) (B.getD y (0, 0)) with
            | true =>
              rw [hab] at HAB
              rw [if_pos hab] at hco
              have hnx : (out ++ [A.getD x (0, 0)]) ++ mergeL both (A.drop (x + 1)) (B.drop y) = M := by
                rw [← hout, hco]; simp
              clear HBA hco hdA hdB hout hab
              generalize B.getD y (0, 0) = ky at *
              generalize A.getD x (0, 0) = kx at *
              obtain ⟨p, q⟩ := kx
              have HNX := Lib.hid hnx; have CA := Lib.hid cA
              clear hnx cA cB
              have z0 : (0 : Int) ≤ (x : Int) := by omega
              have z1 : (x : Int) < (A.length : Int) := by omega
              have y0 : (0 : Int) ≤ (y : Int) := by omega
              have y1 : (y : Int) < (B.length : Int) := by omega
              have n1 : ¬ (y : Int) = (B.length : Int) := by omega
              have n2 : ¬ y = B.length := by omega
              have n3 : ((y : Int) == (B.length : Int)) = false := beq_eq_false_iff_ne.2 n1
              have m1 : ¬ (x : Int) = (A.length : Int) := by omega
              have m2 : ¬ x = A.length := by omega
              have m3 : ((x : Int) == (A.length : Int)) = false := beq_eq_false_iff_ne.2 m1
              go_wp2
              refine wp_region_below wr (by kernel_rfl) (by kernel_rfl) (Below.refl _ _) ?_
              repeat (first
                | go_big_quiet_skip
                | (go_big_quiet_want
                   first
                     | (go_big_quiet_op; go_big_quiet_on)
                     | (refine q_load 43 _ _ _ rfl rfl LA ?_; simp only [Act.put, List.setIfInBounds_toArray, List.set_cons_zero, List.set_cons_succ]; go_big_quiet_on)
                     | (refine q_load 43 _ _ _ rfl rfl LB ?_; simp only [Act.put, List.setIfInBounds_toArray, List.set_cons_zero, List.set_cons_succ]; go_big_quiet_on)
                     | (go_big_quiet_op; refine ⟨_, fun _ _ => rfl, ?_⟩; go_big_quiet_on)
                     | (go_big_quiet_op; apply Exists.intro; refine ⟨fun w' hw' => ?_, ?_⟩
                        · first
                          | (refine (HAB.out w').mono ?_
                             rintro e w2 ⟨rfl, hb2⟩
                             exact ⟨rfl, hw'.trans (hb2.mono hw'.size)⟩)
                        go_big_quiet_on)))
              refine wpQuiet_nil ?_
              intro w2 hb2
              clear LA LB HAB
              have hown2 := own_below hown hb2
              have hbq := hbr.trans (hb2.mono hbr.size)
              have d1 : w2.cell? ⟨ga, offa + x * 2, none⟩ = some (.int .i64 p) := by rw [hbq.cell (p := ⟨ga, offa + x * 2, none⟩) hga]; exact CA.out.1
              have d2 : w2.cell? ⟨ga, offa + x * 2 + 1, none⟩ = some (.int .i64 q) := by rw [hbq.cell (p := ⟨ga, offa + x * 2 + 1, none⟩) hga]; exact CA.out.2
              have hns := hbq.size
              clear hown hbr hb2
              go_wp2_with (at_builtin; refine wpList_append_own _ rfl (.tmp 64) (.tmp 69) 24 rfl w.heap.size 43 i0 (.agg #[.int .i64 0, .int .i64 0]) 2 16 Tryd.underlying24 hi hz0 hz1 hz2 rfl (by decide) _ _ _ rfl (hown2.alloc _) ⟨w2.heap.size, 0, none⟩ 1 1 [.int .i64 p, .int .i64 q] rfl rfl (cell_two_new _ _ _ _) (by intro u hu; simp at hu; rcases hu with rfl | rfl <;> rfl) (by unfold maxLen; omega) (by omega) (by simp; omega) ?_; intro v' w5 hown' hgrow _)
              have R : w5.ownsRow w.heap.size 43 2 v' (out ++ [(p, q)]).length (keyCells (out ++ [(p, q)])) ∧ Below w.heap.size w w5 := by
                refine ⟨by rw [keyCells_snoc]; simpa using hown', (hbq.alloc hbq.size _).grown hgrow (by simp; omega) (fun g hg => (hown2.lt g hg).1)⟩
              have HR := Lib.hid R
              clear R hown' hgrow hown2 hbq
              go_wp2
              exact ⟨⟨x + 1, y, out ++ [(p, q)], by omega, by omega, by go_num, by go_num, HNX.out, HR.out.1, HR.out.2⟩, by simp [intOf]; omega⟩
            | false =>
              cases hba : aheadB (B.getD y (0, 0)) (A.getD x (0, 0)) with
              | true =>
                rw [hab] at HAB
                rw [hba] at HBA
                rw [if_neg (by rw [hab]; exact Bool.false_ne_true), if_pos hba] at hco
                have hnx : (out ++ [B.getD y (0, 0)]) ++ mergeL both (A.drop x) (B.drop (y + 1)) = M := by
                  rw [← hout, hco]; simp
                clear hco hdA hdB hout hab hba
                generalize A.getD x (0, 0) = kx at *
                generalize B.getD y (0, 0) = ky at *
                obtain ⟨p, q⟩ := ky
                have HNX := Lib.hid hnx; have CB := Lib.hid cB
                clear hnx cA cB
                have z0 : (0 : Int) ≤ (x : Int) := by omega
                have z1 : (x : Int) < (A.length : Int) := by omega
                have y0 : (0 : Int) ≤ (y : Int) := by omega
                have y1 : (y : Int) < (B.length : Int) := by omega
                have n1 : ¬ (y : Int) = (B.length : Int) := by omega
                have n2 : ¬ y = B.length := by omega
                have n3 : ((y : Int) == (B.length : Int)) = false := beq_eq_false_iff_ne.2 n1
                have m1 : ¬ (x : Int) = (A.length : Int) := by omega
                have m2 : ¬ x = A.length := by omega
                have m3 : ((x : Int) == (A.length : Int)) = false := beq_eq_false_iff_ne.2 m1
                go_wp2
                refine wp_region_below wr (by kernel_rfl) (by kernel_rfl) (Below.refl _ _) ?_
                repeat (first
                  | go_big_quiet_skip
                  | (go_big_quiet_want
                     first
                       | (go_big_quiet_op; go_big_quiet_on)
                       | (refine q_load 43 _ _ _ rfl rfl LA ?_; simp only [Act.put, List.setIfInBounds_toArray, List.set_cons_zero, List.set_cons_succ]; go_big_quiet_on)
                       | (refine q_load 43 _ _ _ rfl rfl LB ?_; simp only [Act.put, List.setIfInBounds_toArray, List.set_cons_zero, List.set_cons_succ]; go_big_quiet_on)
                       | (go_big_quiet_op; refine ⟨_, fun _ _ => rfl, ?_⟩; go_big_quiet_on)
                       | (go_big_quiet_op; apply Exists.intro; refine ⟨fun w' hw' => ?_, ?_⟩
                          · first
                            | (refine (HAB.out w').mono ?_
                               rintro e w2 ⟨rfl, hb2⟩
                               exact ⟨rfl, hw'.trans (hb2.mono hw'.size)⟩)
                          go_big_quiet_on)))
                refine wpQuiet_nil ?_
                intro w1' hb1'
                go_wp2
                refine wp_region_below wr (by kernel_rfl) (by kernel_rfl) hb1' ?_
                repeat (first
                  | go_big_quiet_skip
                  | (go_big_quiet_want
                     first
                       | (go_big_quiet_op; go_big_quiet_on)
                       | (refine q_load 43 _ _ _ rfl rfl LA ?_; simp only [Act.put, List.setIfInBounds_toArray, List.set_cons_zero, List.set_cons_succ]; go_big_quiet_on)
                       | (refine q_load 43 _ _ _ rfl rfl LB ?_; simp only [Act.put, List.setIfInBounds_toArray, List.set_cons_zero, List.set_cons_succ]; go_big_quiet_on)
                       | (go_big_quiet_op; refine ⟨_, fun _ _ => rfl, ?_⟩; go_big_quiet_on)
                       | (go_big_quiet_op; apply Exists.intro; refine ⟨fun w' hw' => ?_, ?_⟩
                          · first
                            | (refine (HBA.out w').mono ?_
                               rintro e w2 ⟨rfl, hb2⟩
                               exact ⟨rfl, hw'.trans (hb2.mono hw'.size)⟩)
                          go_big_quiet_on)))
                refine wpQuiet_nil ?_
                intro w2 hb2
                clear LA LB HAB HBA hb1'
                have hown2 := own_below hown hb2
                have hbq := hbr.trans (hb2.mono hbr.size)
                have d1 : w2.cell? ⟨gb, offb + y * 2, none⟩ = some (.int .i64 p) := by rw [hbq.cell (p := ⟨gb, offb + y * 2, none⟩) hgb]; exact CB.out.1
                have d2 : w2.cell? ⟨gb, offb + y * 2 + 1, none⟩ = some (.int .i64 q) := by rw [hbq.cell (p := ⟨gb, offb + y * 2 + 1, none⟩) hgb]; exact CB.out.2
                have hns := hbq.size
                clear hown hbr hb2
                go_wp2_with (at_builtin; refine wpList_append_own _ rfl (.tmp 89) (.tmp 94) 24 rfl w.heap.size 43 i0 (.agg #[.int .i64 0, .int .i64 0]) 2 16 Tryd.underlying24 hi hz0 hz1 hz2 rfl (by decide) _ _ _ rfl (hown2.alloc _) ⟨w2.heap.size, 0, none⟩ 1 1 [.int .i64 p, .int .i64 q] rfl rfl (cell_two_new _ _ _ _) (by intro u hu; simp at hu; rcases hu with rfl | rfl <;> rfl) (by unfold maxLen; omega) (by omega) (by simp; omega) ?_; intro v' w5 hown' hgrow _)
                have R : w5.ownsRow w.heap.size 43 2 v' (out ++ [(p, q)]).length (keyCells (out ++ [(p, q)])) ∧ Below w.heap.size w w5 := by
                  refine ⟨by rw [keyCells_snoc]; simpa using hown', (hbq.alloc hbq.size _).grown hgrow (by simp; omega) (fun g hg => (hown2.lt g hg).1)⟩
                have HR := Lib.hid R
                clear R hown' hgrow hown2 hbq
                go_wp2
                exact ⟨⟨x, y + 1, out ++ [(p, q)], by omega, by omega, by go_num, by go_num, HNX.out, HR.out.1, HR.out.2⟩, by simp [intOf]; omega⟩
              | false =>
                rw [hab] at HAB
                rw [hba] at HBA
                rw [if_neg (by rw [hab]; exact Bool.false_ne_true), if_neg (by rw [hba]; exact Bool.false_ne_true)] at hco
                have hnx : (out ++ (if both then [A.getD x (0, 0)] else [])) ++ mergeL both (A.drop (x + 1)) (B.drop (y + 1)) = M := by
                  rw [← hout, hco]; simp
                clear hco hdA hdB hout hab hba
                generalize A.getD x (0, 0) = kx at *
                generalize B.getD y (0, 0) = ky at *
                obtain ⟨p, q⟩ := kx
                have z0 : (0 : Int) ≤ (x : Int) := by omega
                have z1 : (x : Int) < (A.length : Int) := by omega
                have y0 : (0 : Int) ≤ (y : Int) := by omega
                have y1 : (y : Int) < (B.length : Int) := by omega
                have n1 : ¬ (y : Int) = (B.length : Int) := by omega
                have n2 : ¬ y = B.length := by omega
                have n3 : ((y : Int) == (B.length : Int)) = false := beq_eq_false_iff_ne.2 n1
                have m1 : ¬ (x : Int) = (A.length : Int) := by omega
                have m2 : ¬ x = A.length := by omega
                have m3 : ((x : Int) == (A.length : Int)) = false := beq_eq_false_iff_ne.2 m1
                cases both with
                | true =>
                  have hnx2 : (out ++ [(p, q)]) ++ mergeL true (A.drop (x + 1)) (B.drop (y + 1)) = M := hnx
                  have HNX := Lib.hid hnx2; have CA := Lib.hid cA
                  clear hnx hnx2 cA cB
                  go_wp2
                  refine wp_region_below wr (by kernel_rfl) (by kernel_rfl) (Below.refl _ _) ?_
                  repeat (first
                    | go_big_quiet_skip
                    | (go_big_quiet_want
                       first
                         | (go_big_quiet_op; go_big_quiet_on)
                         | (refine q_load 43 _ _ _ rfl rfl LA ?_; simp only [Act.put, List.setIfInBounds_toArray, List.set_cons_zero, List.set_cons_succ]; go_big_quiet_on)
                         | (refine q_load 43 _ _ _ rfl rfl LB ?_; simp only [Act.put, List.setIfInBounds_toArray, List.set_cons_zero, List.set_cons_succ]; go_big_quiet_on)
                         | (go_big_quiet_op; refine ⟨_, fun _ _ => rfl, ?_⟩; go_big_quiet_on)
                         | (go_big_quiet_op; apply Exists.intro; refine ⟨fun w' hw' => ?_, ?_⟩
                            · first
                              | (refine (HAB.out w').mono ?_
                                 rintro e w2 ⟨rfl, hb2⟩
                                 exact ⟨rfl, hw'.trans (hb2.mono hw'.size)⟩)
                            go_big_quiet_on)))
                  refine wpQuiet_nil ?_
                  intro w1' hb1'
                  go_wp2
                  refine wp_region_below wr (by kernel_rfl) (by kernel_rfl) hb1' ?_
                  repeat (first
                    | go_big_quiet_skip
                    | (go_big_quiet_want
                       first
                         | (go_big_quiet_op; go_big_quiet_on)
                         | (refine q_load 43 _ _ _ rfl rfl LA ?_; simp only [Act.put, List.setIfInBounds_toArray, List.set_cons_zero, List.set_cons_succ]; go_big_quiet_on)
                         | (refine q_load 43 _ _ _ rfl rfl LB ?_; simp only [Act.put, List.setIfInBounds_toArray, List.set_cons_zero, List.set_cons_succ]; go_big_quiet_on)
                         | (go_big_quiet_op; refine ⟨_, fun _ _ => rfl, ?_⟩; go_big_quiet_on)
                         | (go_big_quiet_op; apply Exists.intro; refine ⟨fun w' hw' => ?_, ?_⟩
                            · first
                              | (refine (HBA.out w').mono ?_
                                 rintro e w2 ⟨rfl, hb2⟩
                                 exact ⟨rfl, hw'.trans (hb2.mono hw'.size)⟩)
                            go_big_quiet_on)))
                  refine wpQuiet_nil ?_
                  intro w2 hb2
                  clear LA LB HAB HBA hb1'
                  have hown2 := own_below hown hb2
                  have hbq := hbr.trans (hb2.mono hbr.size)
                  have d1 : w2.cell? ⟨ga, offa + x * 2, none⟩ = some (.int .i64 p) := by rw [hbq.cell (p := ⟨ga, offa + x * 2, none⟩) hga]; exact CA.out.1
                  have d2 : w2.cell? ⟨ga, offa + x * 2 + 1, none⟩ = some (.int .i64 q) := by rw [hbq.cell (p := ⟨ga, offa + x * 2 + 1, none⟩) hga]; exact CA.out.2
                  have hns := hbq.size
                  clear hown hbr hb2
                  go_wp2_with (at_builtin; refine wpList_append_own _ rfl (.tmp 31) (.tmp 36) 24 rfl w.heap.size 43 i0 (.agg #[.int .i64 0, .int .i64 0]) 2 16 Tryd.underlying24 hi hz0 hz1 hz2 rfl (by decide) _ _ _ rfl (hown2.alloc _) ⟨w2.heap.size, 0, none⟩ 1 1 [.int .i64 p, .int .i64 q] rfl rfl (cell_two_new _ _ _ _) (by intro u hu; simp at hu; rcases hu with rfl | rfl <;> rfl) (by unfold maxLen; omega) (by omega) (by simp; omega) ?_; intro v' w5 hown' hgrow _)
                  have R : w5.ownsRow w.heap.size 43 2 v' (out ++ [(p, q)]).length (keyCells (out ++ [(p, q)])) ∧ Below w.heap.size w w5 := by
                    refine ⟨by rw [keyCells_snoc]; simpa using hown', (hbq.alloc hbq.size _).grown hgrow (by simp; omega) (fun g hg => (hown2.lt g hg).1)⟩
                  have HR := Lib.hid R
                  clear R hown' hgrow hown2 hbq
                  go_wp2
                  exact ⟨⟨x + 1, y + 1, out ++ [(p, q)], by omega, by omega, by go_num, by go_num, HNX.out, HR.out.1, HR.out.2⟩, by simp [intOf]; omega⟩
                | false =>
                  have hnx2 : out ++ mergeL false (A.drop (x + 1)) (B.drop (y + 1)) = M := by simpa using hnx
                  have HNX := Lib.hid hnx2
                  clear hnx hnx2 cA cB
                  go_wp2
                  refine wp_region_below wr (by kernel_rfl) (by kernel_rfl) (Below.refl _ _) ?_
                  repeat (first
                    | go_big_quiet_skip
                    | (go_big_quiet_want
                       first
                         | (go_big_quiet_op; go_big_quiet_on)
                         | (refine q_load 43 _ _ _ rfl rfl LA ?_; simp only [Act.put, List.setIfInBounds_toArray, List.set_cons_zero, List.set_cons_succ]; go_big_quiet_on)
                         | (refine q_load 43 _ _ _ rfl rfl LB ?_; simp only [Act.put, List.setIfInBounds_toArray, List.set_cons_zero, List.set_cons_succ]; go_big_quiet_on)
                         | (go_big_quiet_op; refine ⟨_, fun _ _ => rfl, ?_⟩; go_big_quiet_on)
                         | (go_big_quiet_op; apply Exists.intro; refine ⟨fun w' hw' => ?_, ?_⟩
                            · first
                              | (refine (HAB.out w').mono ?_
                                 rintro e w2 ⟨rfl, hb2⟩
                                 exact ⟨rfl, hw'.trans (hb2.mono hw'.size)⟩)
                            go_big_quiet_on)))
                  refine wpQuiet_nil ?_
                  intro w1' hb1'
                  go_wp2
                  refine wp_region_below wr (by kernel_rfl) (by kernel_rfl) hb1' ?_
                  repeat (first
                    | go_big_quiet_skip
                    | (go_big_quiet_want
                       first
                         | (go_big_quiet_op; go_big_quiet_on)
                         | (refine q_load 43 _ _ _ rfl rfl LA ?_; simp only [Act.put, List.setIfInBounds_toArray, List.set_cons_zero, List.set_cons_succ]; go_big_quiet_on)
                         | (refine q_load 43 _ _ _ rfl rfl LB ?_; simp only [Act.put, List.setIfInBounds_toArray, List.set_cons_zero, List.set_cons_succ]; go_big_quiet_on)
                         | (go_big_quiet_op; refine ⟨_, fun _ _ => rfl, ?_⟩; go_big_quiet_on)
                         | (go_big_quiet_op; apply Exists.intro; refine ⟨fun w' hw' => ?_, ?_⟩
                            · first
                              | (refine (HBA.out w').mono ?_
                                 rintro e w2 ⟨rfl, hb2⟩
                                 exact ⟨rfl, hw'.trans (hb2.mono hw'.size)⟩)
                            go_big_quiet_on)))
                  refine wpQuiet_nil ?_
                  intro w2 hb2
                  clear LA LB HAB HBA hb1'
                  have hown2 := own_below hown hb2
                  have hbq := hbr.trans (hb2.mono hbr.size)
                  go_wp2
                  exact ⟨⟨x + 1, y + 1, out, by omega, by omega, by go_num, by go_num, HNX.out, hown2, hbq⟩, by simp [intOf]; omega⟩
          ·
            obtain rfl : y = B.length := by omega
            obtain ⟨ga, offa, rfl, hga, hcsA⟩ := hcA.resolve_left (by omega)
            have cA := hcsA x hxA
            have LA : ∀ w', Below wr.heap.size wr w' → (loadVar 43 ⟨ga, offa + x * 2, none⟩).run Tryd.prog w' = .ok (kv (A.getD x (0, 0))) w' := fun w' h => key_load cA hga (hbr.trans (h.mono hbr.size))
            clear hcsA hcA
            have hdA := drop_at A x hxA
            have hdB : B.drop B.length = [] := List.drop_eq_nil_of_le (Nat.le_refl _)
            have hnx : (out ++ [A.getD x (0, 0)]) ++ mergeL both (A.drop (x + 1)) (B.drop B.length) = M := by
              rw [← hout, hdB, mergeL_nil_r, mergeL_nil_r, hdA]; simp
            generalize A.getD x (0, 0) = kx at *
            obtain ⟨p, q⟩ := kx
            have HNX := Lib.hid hnx; have CA := Lib.hid cA
            clear hdA hdB hnx hout cA
            have z0 : (0 : Int) ≤ (x : Int) := by omega
            have z1 : (x : Int) < (A.length : Int) := by omega
            have z2 : ¬ (B.length : Int) < (B.length : Int) := by omega
            go_wp2
            refine wp_region_below wr (by kernel_rfl) (by kernel_rfl) (Below.refl _ _) ?_
            repeat (first
              | go_big_quiet_skip
              | (go_big_quiet_want
                 first
                   | (go_big_quiet_op; go_big_quiet_on)
                   | (refine q_load 43 _ _ _ rfl rfl LA ?_; simp only [Act.put, List.setIfInBounds_toArray, List.set_cons_zero, List.set_cons_succ]; go_big_quiet_on)
                   | (go_big_quiet_op; refine ⟨_, fun _ _ => rfl, ?_⟩; go_big_quiet_on)
                   | (go_big_quiet_op; go_big_quiet_on)))
            refine wpQuiet_nil ?_
            intro w2 hb2
            clear LA
            have hown2 := own_below hown hb2
            have hbq := hbr.trans (hb2.mono hbr.size)
            have d1 : w2.cell? ⟨ga, offa + x * 2, none⟩ = some (.int .i64 p) := by rw [hbq.cell (p := ⟨ga, offa + x * 2, none⟩) hga]; exact CA.out.1
            have d2 : w2.cell? ⟨ga, offa + x * 2 + 1, none⟩ = some (.int .i64 q) := by rw [hbq.cell (p := ⟨ga, offa + x * 2 + 1, none⟩) hga]; exact CA.out.2
            have hns := hbq.size
            clear hown hbr hb2
            go_wp2_with (at_builtin; refine wpList_append_own _ rfl (.tmp 64) (.tmp 69) 24 rfl w.heap.size 43 i0 (.agg #[.int .i64 0, .int .i64 0]) 2 16 Tryd.underlying24 hi hz0 hz1 hz2 rfl (by decide) _ _ _ rfl (hown2.alloc _) ⟨w2.heap.size, 0, none⟩ 1 1 [.int .i64 p, .int .i64 q] rfl rfl (cell_two_new _ _ _ _) (by intro u hu; simp at hu; rcases hu with rfl | rfl <;> rfl) (by unfold maxLen; omega) (by omega) (by simp; omega) ?_; intro v' w5 hown' hgrow _)
            have R : w5.ownsRow w.heap.size 43 2 v' (out ++ [(p, q)]).length (keyCells (out ++ [(p, q)])) ∧ Below w.heap.size w w5 := by
              refine ⟨by rw [keyCells_snoc]; simpa using hown', (hbq.alloc hbq.size _).grown hgrow (by simp; omega) (fun g hg => (hown2.lt g hg).1)⟩
            have HR := Lib.hid R
            clear R hown' hgrow hown2 hbq
            go_wp2
            exact ⟨⟨x + 1, B.length, out ++ [(p, q)], by omega, by omega, by go_num, by go_num, HNX.out, HR.out.1, HR.out.2⟩, by simp [intOf]; omega⟩
        · by_cases hyB : y < B.length
          ·
            obtain rfl : x = A.length := by omega
            obtain ⟨gb, offb, rfl, hgb, hcsB⟩ := hcB.resolve_left (by omega)
            have cB := hcsB y hyB
            have LB : ∀ w', Below wr.heap.size wr w' → (loadVar 43 ⟨gb, offb + y * 2, none⟩).run Tryd.prog w' = .ok (kv (B.getD y (0, 0))) w' := fun w' h => key_load cB hgb (hbr.trans (h.mono hbr.size))
            clear hcsB hcB
            have hdB := drop_at B y hyB
            have hdA : A.drop A.length = [] := List.drop_eq_nil_of_le (Nat.le_refl _)
            have hnx : (out ++ [B.getD y (0, 0)]) ++ mergeL both (A.drop A.length) (B.drop (y + 1)) = M := by
              rw [← hout, hdA, mergeL_nil_l, mergeL_nil_l, hdB]; simp
            generalize B.getD y (0, 0) = ky at *
            obtain ⟨p, q⟩ := ky
            have HNX := Lib.hid hnx; have CB := Lib.hid cB
            clear hdA hdB hnx hout cB
            have y0 : (0 : Int) ≤ (y : Int) := by omega
            have y1 : (y : Int) < (B.length : Int) := by omega
            have n1 : ¬ (y : Int) = (B.length : Int) := by omega
            have n2 : ¬ y = B.length := by omega
            have n3 : ((y : Int) == (B.length : Int)) = false := beq_eq_false_iff_ne.2 n1
            have z2 : ¬ (A.length : Int) < (A.length : Int) := by omega
            go_wp2
            refine wp_region_below wr (by kernel_rfl) (by kernel_rfl) (Below.refl _ _) ?_
            repeat (first
              | go_big_quiet_skip
              | (go_big_quiet_want
                 first
                   | (go_big_quiet_op; go_big_quiet_on)
                   | (refine q_load 43 _ _ _ rfl rfl LB ?_; simp only [Act.put, List.setIfInBounds_toArray, List.set_cons_zero, List.set_cons_succ]; go_big_quiet_on)
                   | (go_big_quiet_op; refine ⟨_, fun _ _ => rfl, ?_⟩; go_big_quiet_on)
                   | (go_big_quiet_op; go_big_quiet_on)))
            refine wpQuiet_nil ?_
            intro w1' hb1'
            go_wp2
            refine wp_region_below wr (by kernel_rfl) (by kernel_rfl) hb1' ?_
            repeat (first
              | go_big_quiet_skip
              | (go_big_quiet_want
                 first
                   | (go_big_quiet_op; go_big_quiet_on)
                   | (refine q_load 43 _ _ _ rfl rfl LB ?_; simp only [Act.put, List.setIfInBounds_toArray, List.set_cons_zero, List.set_cons_succ]; go_big_quiet_on)
                   | (go_big_quiet_op; refine ⟨_, fun _ _ => rfl, ?_⟩; go_big_quiet_on)
                   | (go_big_quiet_op; go_big_quiet_on)))
            refine wpQuiet_nil ?_
            intro w2 hb2
            clear LB hb1'
            have hown2 := own_below hown hb2
            have hbq := hbr.trans (hb2.mono hbr.size)
            have d1 : w2.cell? ⟨gb, offb + y * 2, none⟩ = some (.int .i64 p) := by rw [hbq.cell (p := ⟨gb, offb + y * 2, none⟩) hgb]; exact CB.out.1
            have d2 : w2.cell? ⟨gb, offb + y * 2 + 1, none⟩ = some (.int .i64 q) := by rw [hbq.cell (p := ⟨gb, offb + y * 2 + 1, none⟩) hgb]; exact CB.out.2
            have hns := hbq.size
            clear hown hbr hb2
            go_wp2_with (at_builtin; refine wpList_append_own _ rfl (.tmp 89) (.tmp 94) 24 rfl w.heap.size 43 i0 (.agg #[.int .i64 0, .int .i64 0]) 2 16 Tryd.underlying24 hi hz0 hz1 hz2 rfl (by decide) _ _ _ rfl (hown2.alloc _) ⟨w2.heap.size, 0, none⟩ 1 1 [.int .i64 p, .int .i64 q] rfl rfl (cell_two_new _ _ _ _) (by intro u hu; simp at hu; rcases hu with rfl | rfl <;> rfl) (by unfold maxLen; omega) (by omega) (by simp; omega) ?_; intro v' w5 hown' hgrow _)
            have R : w5.ownsRow w.heap.size 43 2 v' (out ++ [(p, q)]).length (keyCells (out ++ [(p, q)])) ∧ Below w.heap.size w w5 := by
              refine ⟨by rw [keyCells_snoc]; simpa using hown', (hbq.alloc hbq.size _).grown hgrow (by simp; omega) (fun g hg => (hown2.lt g hg).1)⟩
            have HR := Lib.hid R
            clear R hown' hgrow hown2 hbq
            go_wp2
            exact ⟨⟨A.length, y + 1, out ++ [(p, q)], by omega, by omega, by go_num, by go_num, HNX.out, HR.out.1, HR.out.2⟩, by simp [intOf]; omega⟩
          ·
            obtain rfl : x = A.length := by omega
            obtain rfl : y = B.length := by omega
            have hdA : A.drop A.length = [] := List.drop_eq_nil_of_le (Nat.le_refl _)
            have hdB : B.drop B.length = [] := List.drop_eq_nil_of_le (Nat.le_refl _)
            rw [hdA, hdB, mergeL_nil_r, List.append_nil] at hout
            subst hout
            have z2 : ¬ (A.length : Int) < (A.length : Int) := by omega
            have z3 : ¬ (B.length : Int) < (B.length : Int) := by omega
            go_wp2
            go_ret
            exact ⟨_, rfl, hown, hbr⟩
end Go.Proofs.YtbhdgkaeackbkaaDoor
