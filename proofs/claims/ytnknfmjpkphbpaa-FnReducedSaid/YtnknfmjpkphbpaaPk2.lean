/- Texts of this seat, one behind the other (part 2): what the laws of chapter 5 lean on. -/
import Derived.Test.YtnknfmjpkphbpaaPk1
import Derived.OrdersHeld
import Derived.Deep.Quiet
import Derived.KernelRfl
import Derived.Lib.BufferWrite
import Derived.Lib.SlBuf
import Derived.Laws.CopyOwn
import Derived.Stop.BytesEq
import Derived.Laws.BytesArg
import Derived.Maps.AppendAt
import Derived.Shelf.LaysM
import Derived.Shelf.Strconv.Clone
import Derived.Test.YtnknfmjpkphbpaaProg

set_option linter.unusedVariables false
set_option linter.unusedSimpArgs false

/- The model's chapter 3, walked: two lists of keys made one (the walk). -/
namespace Go.Proofs.Ytnknfmjpkphbpaa
open Go.ChangeShapes Go.WideShapes Go.ChangeAt Go.RowKit Go.BigFrame
set_option linter.unusedVariables false

set_option maxRecDepth 100000 in
set_option maxHeartbeats 4000000 in
theorem smerge_any (va vb : Value) (A B : List K2) (both : Bool) (w : World) (ha : keysAt w va A) (hb : keysAt w vb B) (hsA : A.length ≤ 2000000) (hsB : B.length ≤ 2000000) :
    Calls Try.prog 83 #[va, vb, .bool both] w fun e w' => ∃ v, e = .returned v ∧ w'.ownsRow w.heap.size 41 2 v (mergeV both A B).length (keyCells (mergeV both A B)) ∧ Below w.heap.size w w' := by
  obtain ⟨i0, hi, hz0, hz1, hz2⟩ := info_parts infoK
  have hown0 := World.ownsRow_made (base := w.heap.size) (e := 41) (size := 2) w #[] 0 (Nat.le_refl _) (by unfold maxLen; omega) rfl
  have hb0 := (Below.refl w.heap.size w).alloc (Nat.le_refl _) (.cells #[] 41)
  have KA := Lib.hid (fun w' (h : Below w.heap.size w w') => skeysok_any va A w' (keysAt_below ha h) hsA)
  have KB := Lib.hid (fun w' (h : Below w.heap.size w w') => skeysok_any vb B w' (keysAt_below hb h) hsB)
  generalize hmv : mergeV both A B = M
  go_enter Try.func83, Try.ntmps83
  go_wp2_with fail
  generalize w.alloc (.cells #[] 41) = W at *
  refine (KA.out _ hb0).mono ?_
  rintro e w1 ⟨rfl, hbx⟩
  have hown1 := own_below hown0 hbx
  have hb1 := hb0.trans (hbx.mono hb0.size)
  clear hbx hown0 hb0 KA
  cases hA : keysOkR A with
  | false =>
    obtain rfl : M = [] := by rw [← hmv]; unfold mergeV; rw [hA]; rfl
    go_wp2
    go_ret
    exact ⟨_, rfl, hown1, hb1⟩
  | true =>
    go_wp2_with fail
    refine (KB.out _ hb1).mono ?_
    rintro e w2 ⟨rfl, hbx⟩
    have hown2 := own_below hown1 hbx
    have hb2 := hb1.trans (hbx.mono hb1.size)
    clear hbx hown1 hb1 KB
    cases hB : keysOkR B with
    | false =>
      obtain rfl : M = [] := by rw [← hmv]; unfold mergeV; rw [hA, hB]; rfl
      go_wp2
      go_ret
      exact ⟨_, rfl, hown2, hb2⟩
    | true =>
      have hML : mergeL both A B = M := by rw [← hmv]; unfold mergeV; rw [hA, hB]; rfl
      have hlen := mergeL_len both A B
      rw [hML] at hlen
      obtain ⟨aa, ca, rfl, hca, hcA⟩ := ha
      obtain ⟨ab, cb, rfl, hcb, hcB⟩ := hb
      clear hA hB hmv
      go_wp2
      go_loopw [7, 8, 9] (fun v i j wr => ∃ (x y : Nat) (out : List K2), x ≤ A.length ∧ y ≤ B.length ∧ i = .int .i64 x ∧ j = .int .i64 y ∧ out ++ mergeL both (A.drop x) (B.drop y) = M ∧
          wr.ownsRow w.heap.size 41 2 v out.length (keyCells out) ∧ Below w.heap.size w wr) (fun _ i j _ => (A.length - (intOf i).toNat) + (B.length - (intOf j).toNat))
      case atStart => exact ⟨0, 0, [], by omega, by omega, rfl, rfl, by simpa using hML, hown2, hb2⟩
      case round =>
        obtain ⟨x, y, out, hx, hy, rfl, rfl, hout, hown, hbr⟩ := hrel
        clear hown2 hb2
        have hol : out.length ≤ M.length := by rw [← hout]; simp
        by_cases hxA : x < A.length
        · by_cases hyB : y < B.length
          ·
            obtain ⟨ga, offa, rfl, hga, hcsA⟩ := hcA.resolve_left (by omega)
            have cA := hcsA x hxA
            have LA : ∀ w', Below wr.heap.size wr w' → (loadVar 41 ⟨ga, offa + x * 2, none⟩).run Try.prog w' = .ok (kv (A.getD x (0, 0))) w' := fun w' h => key_load cA hga (hbr.trans (h.mono hbr.size))
            clear hcsA hcA
            obtain ⟨gb, offb, rfl, hgb, hcsB⟩ := hcB.resolve_left (by omega)
            have cB := hcsB y hyB
            have LB : ∀ w', Below wr.heap.size wr w' → (loadVar 41 ⟨gb, offb + y * 2, none⟩).run Try.prog w' = .ok (kv (B.getD y (0, 0))) w' := fun w' h => key_load cB hgb (hbr.trans (h.mono hbr.size))
            clear hcsB hcB
            have hdA := drop_at A x hxA
            have hdB := drop_at B y hyB
            have hco := mergeL_cons both (A.getD x (0, 0)) (A.drop (x + 1)) (B.getD y (0, 0)) (B.drop (y + 1))
            rw [← hdA, ← hdB] at hco
            have HAB := Lib.hid (fun w => sahead_any (A.getD x (0, 0)) (B.getD y (0, 0)) w)
            have HBA := Lib.hid (fun w => sahead_any (B.getD y (0, 0)) (A.getD x (0, 0)) w)
            cases hab : aheadB (A.getD x (0, 0)) (B.getD y (0, 0)) with
            | true =>
              rw [hab] at HAB
              rw [if_pos hab] at hco
              have hnx : (out ++ [A.getD x (0, 0)]) ++ mergeL both (A.drop (x + 1)) (B.drop y) = M := by
                rw [← hout, hco]; simp
              clear HBA hco hdA hdB hout hab
              generalize B.getD y (0, 0) = ky at *
              generalize A.getD x (0, 0) = kx at *
              obtain ⟨p, q⟩ := kx
              have HNX := Lib.hid hnx; have CA := Lib.hid cA
              clear hnx cA cB
              have z0 : (0 : Int) ≤ (x : Int) := by omega
              have z1 : (x : Int) < (A.length : Int) := by omega
              have y0 : (0 : Int) ≤ (y : Int) := by omega
              have y1 : (y : Int) < (B.length : Int) := by omega
              have n1 : ¬ (y : Int) = (B.length : Int) := by omega
              have n2 : ¬ y = B.length := by omega
              have n3 : ((y : Int) == (B.length : Int)) = false := beq_eq_false_iff_ne.2 n1
              have m1 : ¬ (x : Int) = (A.length : Int) := by omega
              have m2 : ¬ x = A.length := by omega
              have m3 : ((x : Int) == (A.length : Int)) = false := beq_eq_false_iff_ne.2 m1
              go_wp2
              refine wp_region_below wr (by kernel_rfl) (by kernel_rfl) (Below.refl _ _) ?_
              repeat (first
                | go_big_quiet_skip
                | (go_big_quiet_want
                   first
                     | (go_big_quiet_op; go_big_quiet_on)
                     | (refine q_load 41 _ _ _ rfl rfl LA ?_; simp only [Act.put, List.setIfInBounds_toArray, List.set_cons_zero, List.set_cons_succ]; go_big_quiet_on)
                     | (refine q_load 41 _ _ _ rfl rfl LB ?_; simp only [Act.put, List.setIfInBounds_toArray, List.set_cons_zero, List.set_cons_succ]; go_big_quiet_on)
                     | (go_big_quiet_op; refine ⟨_, fun _ _ => rfl, ?_⟩; go_big_quiet_on)
                     | (go_big_quiet_op; apply Exists.intro; refine ⟨fun w' hw' => ?_, ?_⟩
                        · first
                          | (refine (HAB.out w').mono ?_
                             rintro e w2 ⟨rfl, hb2⟩
                             exact ⟨rfl, hw'.trans (hb2.mono hw'.size)⟩)
                        go_big_quiet_on)))
              refine wpQuiet_nil ?_
              intro w2 hb2
              clear LA LB HAB
              have hown2 := own_below hown hb2
              have hbq := hbr.trans (hb2.mono hbr.size)
              have d1 : w2.cell? ⟨ga, offa + x * 2, none⟩ = some (.int .i64 p) := by rw [hbq.cell (p := ⟨ga, offa + x * 2, none⟩) hga]; exact CA.out.1
              have d2 : w2.cell? ⟨ga, offa + x * 2 + 1, none⟩ = some (.int .i64 q) := by rw [hbq.cell (p := ⟨ga, offa + x * 2 + 1, none⟩) hga]; exact CA.out.2
              have hns := hbq.size
              clear hown hbr hb2
              go_wp2_with (at_builtin; refine wpList_append_own _ rfl (.tmp 64) (.tmp 69) 24 rfl w.heap.size 41 i0 (.agg #[.int .i64 0, .int .i64 0]) 2 16 Try.underlying24 hi hz0 hz1 hz2 rfl (by decide) _ _ _ rfl (hown2.alloc _) ⟨w2.heap.size, 0, none⟩ 1 1 [.int .i64 p, .int .i64 q] rfl rfl (cell_two_new _ _ _ _) (by intro u hu; simp at hu; rcases hu with rfl | rfl <;> rfl) (by unfold maxLen; omega) (by omega) (by simp; omega) ?_; intro v' w5 hown' hgrow _)
              have R : w5.ownsRow w.heap.size 41 2 v' (out ++ [(p, q)]).length (keyCells (out ++ [(p, q)])) ∧ Below w.heap.size w w5 := by
                refine ⟨by rw [keyCells_snoc]; simpa using hown', (hbq.alloc hbq.size _).grown hgrow (by simp; omega) (fun g hg => (hown2.lt g hg).1)⟩
              have HR := Lib.hid R
              clear R hown' hgrow hown2 hbq
              go_wp2
              exact ⟨⟨x + 1, y, out ++ [(p, q)], by omega, by omega, by go_num, by go_num, HNX.out, HR.out.1, HR.out.2⟩, by simp [intOf]; omega⟩
            | false =>
              cases hba : aheadB (B.getD y (0, 0)) (A.getD x (0, 0)) with
              | true =>
                rw [hab] at HAB
                rw [hba] at HBA
                rw [if_neg (by rw [hab]; exact Bool.false_ne_true), if_pos hba] at hco
                have hnx : (out ++ [B.getD y (0, 0)]) ++ mergeL both (A.drop x) (B.drop (y + 1)) = M := by
                  rw [← hout, hco]; simp
                clear hco hdA hdB hout hab hba
                generalize A.getD x (0, 0) = kx at *
                generalize B.getD y (0, 0) = ky at *
                obtain ⟨p, q⟩ := ky
                have HNX := Lib.hid hnx; have CB := Lib.hid cB
                clear hnx cA cB
                have z0 : (0 : Int) ≤ (x : Int) := by omega
                have z1 : (x : Int) < (A.length : Int) := by omega
                have y0 : (0 : Int) ≤ (y : Int) := by omega
                have y1 : (y : Int) < (B.length : Int) := by omega
                have n1 : ¬ (y : Int) = (B.length : Int) := by omega
                have n2 : ¬ y = B.length := by omega
                have n3 : ((y : Int) == (B.length : Int)) = false := beq_eq_false_iff_ne.2 n1
                have m1 : ¬ (x : Int) = (A.length : Int) := by omega
                have m2 : ¬ x = A.length := by omega
                have m3 : ((x : Int) == (A.length : Int)) = false := beq_eq_false_iff_ne.2 m1
                go_wp2
                refine wp_region_below wr (by kernel_rfl) (by kernel_rfl) (Below.refl _ _) ?_
                repeat (first
                  | go_big_quiet_skip
                  | (go_big_quiet_want
                     first
                       | (go_big_quiet_op; go_big_quiet_on)
                       | (refine q_load 41 _ _ _ rfl rfl LA ?_; simp only [Act.put, List.setIfInBounds_toArray, List.set_cons_zero, List.set_cons_succ]; go_big_quiet_on)
                       | (refine q_load 41 _ _ _ rfl rfl LB ?_; simp only [Act.put, List.setIfInBounds_toArray, List.set_cons_zero, List.set_cons_succ]; go_big_quiet_on)
                       | (go_big_quiet_op; refine ⟨_, fun _ _ => rfl, ?_⟩; go_big_quiet_on)
                       | (go_big_quiet_op; apply Exists.intro; refine ⟨fun w' hw' => ?_, ?_⟩
                          · first
                            | (refine (HAB.out w').mono ?_
                               rintro e w2 ⟨rfl, hb2⟩
                               exact ⟨rfl, hw'.trans (hb2.mono hw'.size)⟩)
                          go_big_quiet_on)))
                refine wpQuiet_nil ?_
                intro w1' hb1'
                go_wp2
                refine wp_region_below wr (by kernel_rfl) (by kernel_rfl) hb1' ?_
                repeat (first
                  | go_big_quiet_skip
                  | (go_big_quiet_want
                     first
                       | (go_big_quiet_op; go_big_quiet_on)
                       | (refine q_load 41 _ _ _ rfl rfl LA ?_; simp only [Act.put, List.setIfInBounds_toArray, List.set_cons_zero, List.set_cons_succ]; go_big_quiet_on)
                       | (refine q_load 41 _ _ _ rfl rfl LB ?_; simp only [Act.put, List.setIfInBounds_toArray, List.set_cons_zero, List.set_cons_succ]; go_big_quiet_on)
                       | (go_big_quiet_op; refine ⟨_, fun _ _ => rfl, ?_⟩; go_big_quiet_on)
                       | (go_big_quiet_op; apply Exists.intro; refine ⟨fun w' hw' => ?_, ?_⟩
                          · first
                            | (refine (HBA.out w').mono ?_
                               rintro e w2 ⟨rfl, hb2⟩
                               exact ⟨rfl, hw'.trans (hb2.mono hw'.size)⟩)
                          go_big_quiet_on)))
                refine wpQuiet_nil ?_
                intro w2 hb2
                clear LA LB HAB HBA hb1'
                have hown2 := own_below hown hb2
                have hbq := hbr.trans (hb2.mono hbr.size)
                have d1 : w2.cell? ⟨gb, offb + y * 2, none⟩ = some (.int .i64 p) := by rw [hbq.cell (p := ⟨gb, offb + y * 2, none⟩) hgb]; exact CB.out.1
                have d2 : w2.cell? ⟨gb, offb + y * 2 + 1, none⟩ = some (.int .i64 q) := by rw [hbq.cell (p := ⟨gb, offb + y * 2 + 1, none⟩) hgb]; exact CB.out.2
                have hns := hbq.size
                clear hown hbr hb2
                go_wp2_with (at_builtin; refine wpList_append_own _ rfl (.tmp 89) (.tmp 94) 24 rfl w.heap.size 41 i0 (.agg #[.int .i64 0, .int .i64 0]) 2 16 Try.underlying24 hi hz0 hz1 hz2 rfl (by decide) _ _ _ rfl (hown2.alloc _) ⟨w2.heap.size, 0, none⟩ 1 1 [.int .i64 p, .int .i64 q] rfl rfl (cell_two_new _ _ _ _) (by intro u hu; simp at hu; rcases hu with rfl | rfl <;> rfl) (by unfold maxLen; omega) (by omega) (by simp; omega) ?_; intro v' w5 hown' hgrow _)
                have R : w5.ownsRow w.heap.size 41 2 v' (out ++ [(p, q)]).length (keyCells (out ++ [(p, q)])) ∧ Below w.heap.size w w5 := by
                  refine ⟨by rw [keyCells_snoc]; simpa using hown', (hbq.alloc hbq.size _).grown hgrow (by simp; omega) (fun g hg => (hown2.lt g hg).1)⟩
                have HR := Lib.hid R
                clear R hown' hgrow hown2 hbq
                go_wp2
                exact ⟨⟨x, y + 1, out ++ [(p, q)], by omega, by omega, by go_num, by go_num, HNX.out, HR.out.1, HR.out.2⟩, by simp [intOf]; omega⟩
              | false =>
                rw [hab] at HAB
                rw [hba] at HBA
                rw [if_neg (by rw [hab]; exact Bool.false_ne_true), if_neg (by rw [hba]; exact Bool.false_ne_true)] at hco
                have hnx : (out ++ (if both then [A.getD x (0, 0)] else [])) ++ mergeL both (A.drop (x + 1)) (B.drop (y + 1)) = M := by
                  rw [← hout, hco]; simp
                clear hco hdA hdB hout hab hba
                generalize A.getD x (0, 0) = kx at *
                generalize B.getD y (0, 0) = ky at *
                obtain ⟨p, q⟩ := kx
                have z0 : (0 : Int) ≤ (x : Int) := by omega
                have z1 : (x : Int) < (A.length : Int) := by omega
                have y0 : (0 : Int) ≤ (y : Int) := by omega
                have y1 : (y : Int) < (B.length : Int) := by omega
                have n1 : ¬ (y : Int) = (B.length : Int) := by omega
                have n2 : ¬ y = B.length := by omega
                have n3 : ((y : Int) == (B.length : Int)) = false := beq_eq_false_iff_ne.2 n1
                have m1 : ¬ (x : Int) = (A.length : Int) := by omega
                have m2 : ¬ x = A.length := by omega
                have m3 : ((x : Int) == (A.length : Int)) = false := beq_eq_false_iff_ne.2 m1
                cases both with
                | true =>
                  have hnx2 : (out ++ [(p, q)]) ++ mergeL true (A.drop (x + 1)) (B.drop (y + 1)) = M := hnx
                  have HNX := Lib.hid hnx2; have CA := Lib.hid cA
                  clear hnx hnx2 cA cB
                  go_wp2
                  refine wp_region_below wr (by kernel_rfl) (by kernel_rfl) (Below.refl _ _) ?_
                  repeat (first
                    | go_big_quiet_skip
                    | (go_big_quiet_want
                       first
                         | (go_big_quiet_op; go_big_quiet_on)
                         | (refine q_load 41 _ _ _ rfl rfl LA ?_; simp only [Act.put, List.setIfInBounds_toArray, List.set_cons_zero, List.set_cons_succ]; go_big_quiet_on)
                         | (refine q_load 41 _ _ _ rfl rfl LB ?_; simp only [Act.put, List.setIfInBounds_toArray, List.set_cons_zero, List.set_cons_succ]; go_big_quiet_on)
                         | (go_big_quiet_op; refine ⟨_, fun _ _ => rfl, ?_⟩; go_big_quiet_on)
                         | (go_big_quiet_op; apply Exists.intro; refine ⟨fun w' hw' => ?_, ?_⟩
                            · first
                              | (refine (HAB.out w').mono ?_
                                 rintro e w2 ⟨rfl, hb2⟩
                                 exact ⟨rfl, hw'.trans (hb2.mono hw'.size)⟩)
                            go_big_quiet_on)))
                  refine wpQuiet_nil ?_
                  intro w1' hb1'
                  go_wp2
                  refine wp_region_below wr (by kernel_rfl) (by kernel_rfl) hb1' ?_
                  repeat (first
                    | go_big_quiet_skip
                    | (go_big_quiet_want
                       first
                         | (go_big_quiet_op; go_big_quiet_on)
                         | (refine q_load 41 _ _ _ rfl rfl LA ?_; simp only [Act.put, List.setIfInBounds_toArray, List.set_cons_zero, List.set_cons_succ]; go_big_quiet_on)
                         | (refine q_load 41 _ _ _ rfl rfl LB ?_; simp only [Act.put, List.setIfInBounds_toArray, List.set_cons_zero, List.set_cons_succ]; go_big_quiet_on)
                         | (go_big_quiet_op; refine ⟨_, fun _ _ => rfl, ?_⟩; go_big_quiet_on)
                         | (go_big_quiet_op; apply Exists.intro; refine ⟨fun w' hw' => ?_, ?_⟩
                            · first
                              | (refine (HBA.out w').mono ?_
                                 rintro e w2 ⟨rfl, hb2⟩
                                 exact ⟨rfl, hw'.trans (hb2.mono hw'.size)⟩)
                            go_big_quiet_on)))
                  refine wpQuiet_nil ?_
                  intro w2 hb2
                  clear LA LB HAB HBA hb1'
                  have hown2 := own_below hown hb2
                  have hbq := hbr.trans (hb2.mono hbr.size)
                  have d1 : w2.cell? ⟨ga, offa + x * 2, none⟩ = some (.int .i64 p) := by rw [hbq.cell (p := ⟨ga, offa + x * 2, none⟩) hga]; exact CA.out.1
                  have d2 : w2.cell? ⟨ga, offa + x * 2 + 1, none⟩ = some (.int .i64 q) := by rw [hbq.cell (p := ⟨ga, offa + x * 2 + 1, none⟩) hga]; exact CA.out.2
                  have hns := hbq.size
                  clear hown hbr hb2
                  go_wp2_with (at_builtin; refine wpList_append_own _ rfl (.tmp 31) (.tmp 36) 24 rfl w.heap.size 41 i0 (.agg #[.int .i64 0, .int .i64 0]) 2 16 Try.underlying24 hi hz0 hz1 hz2 rfl (by decide) _ _ _ rfl (hown2.alloc _) ⟨w2.heap.size, 0, none⟩ 1 1 [.int .i64 p, .int .i64 q] rfl rfl (cell_two_new _ _ _ _) (by intro u hu; simp at hu; rcases hu with rfl | rfl <;> rfl) (by unfold maxLen; omega) (by omega) (by simp; omega) ?_; intro v' w5 hown' hgrow _)
                  have R : w5.ownsRow w.heap.size 41 2 v' (out ++ [(p, q)]).length (keyCells (out ++ [(p, q)])) ∧ Below w.heap.size w w5 := by
                    refine ⟨by rw [keyCells_snoc]; simpa using hown', (hbq.alloc hbq.size _).grown hgrow (by simp; omega) (fun g hg => (hown2.lt g hg).1)⟩
                  have HR := Lib.hid R
                  clear R hown' hgrow hown2 hbq
                  go_wp2
                  exact ⟨⟨x + 1, y + 1, out ++ [(p, q)], by omega, by omega, by go_num, by go_num, HNX.out, HR.out.1, HR.out.2⟩, by simp [intOf]; omega⟩
                | false =>
                  have hnx2 : out ++ mergeL false (A.drop (x + 1)) (B.drop (y + 1)) = M := by simpa using hnx
                  have HNX := Lib.hid hnx2
                  clear hnx hnx2 cA cB
                  go_wp2
                  refine wp_region_below wr (by kernel_rfl) (by kernel_rfl) (Below.refl _ _) ?_
                  repeat (first
                    | go_big_quiet_skip
                    | (go_big_quiet_want
                       first
                         | (go_big_quiet_op; go_big_quiet_on)
                         | (refine q_load 41 _ _ _ rfl rfl LA ?_; simp only [Act.put, List.setIfInBounds_toArray, List.set_cons_zero, List.set_cons_succ]; go_big_quiet_on)
                         | (refine q_load 41 _ _ _ rfl rfl LB ?_; simp only [Act.put, List.setIfInBounds_toArray, List.set_cons_zero, List.set_cons_succ]; go_big_quiet_on)
                         | (go_big_quiet_op; refine ⟨_, fun _ _ => rfl, ?_⟩; go_big_quiet_on)
                         | (go_big_quiet_op; apply Exists.intro; refine ⟨fun w' hw' => ?_, ?_⟩
                            · first
                              | (refine (HAB.out w').mono ?_
                                 rintro e w2 ⟨rfl, hb2⟩
                                 exact ⟨rfl, hw'.trans (hb2.mono hw'.size)⟩)
                            go_big_quiet_on)))
                  refine wpQuiet_nil ?_
                  intro w1' hb1'
                  go_wp2
                  refine wp_region_below wr (by kernel_rfl) (by kernel_rfl) hb1' ?_
                  repeat (first
                    | go_big_quiet_skip
                    | (go_big_quiet_want
                       first
                         | (go_big_quiet_op; go_big_quiet_on)
                         | (refine q_load 41 _ _ _ rfl rfl LA ?_; simp only [Act.put, List.setIfInBounds_toArray, List.set_cons_zero, List.set_cons_succ]; go_big_quiet_on)
                         | (refine q_load 41 _ _ _ rfl rfl LB ?_; simp only [Act.put, List.setIfInBounds_toArray, List.set_cons_zero, List.set_cons_succ]; go_big_quiet_on)
                         | (go_big_quiet_op; refine ⟨_, fun _ _ => rfl, ?_⟩; go_big_quiet_on)
                         | (go_big_quiet_op; apply Exists.intro; refine ⟨fun w' hw' => ?_, ?_⟩
                            · first
                              | (refine (HBA.out w').mono ?_
                                 rintro e w2 ⟨rfl, hb2⟩
                                 exact ⟨rfl, hw'.trans (hb2.mono hw'.size)⟩)
                            go_big_quiet_on)))
                  refine wpQuiet_nil ?_
                  intro w2 hb2
                  clear LA LB HAB HBA hb1'
                  have hown2 := own_below hown hb2
                  have hbq := hbr.trans (hb2.mono hbr.size)
                  go_wp2
                  exact ⟨⟨x + 1, y + 1, out, by omega, by omega, by go_num, by go_num, HNX.out, hown2, hbq⟩, by simp [intOf]; omega⟩
          ·
            obtain rfl : y = B.length := by omega
            obtain ⟨ga, offa, rfl, hga, hcsA⟩ := hcA.resolve_left (by omega)
            have cA := hcsA x hxA
            have LA : ∀ w', Below wr.heap.size wr w' → (loadVar 41 ⟨ga, offa + x * 2, none⟩).run Try.prog w' = .ok (kv (A.getD x (0, 0))) w' := fun w' h => key_load cA hga (hbr.trans (h.mono hbr.size))
            clear hcsA hcA
            have hdA := drop_at A x hxA
            have hdB : B.drop B.length = [] := List.drop_eq_nil_of_le (Nat.le_refl _)
            have hnx : (out ++ [A.getD x (0, 0)]) ++ mergeL both (A.drop (x + 1)) (B.drop B.length) = M := by
              rw [← hout, hdB, mergeL_nil_r, mergeL_nil_r, hdA]; simp
            generalize A.getD x (0, 0) = kx at *
            obtain ⟨p, q⟩ := kx
            have HNX := Lib.hid hnx; have CA := Lib.hid cA
            clear hdA hdB hnx hout cA
            have z0 : (0 : Int) ≤ (x : Int) := by omega
            have z1 : (x : Int) < (A.length : Int) := by omega
            have z2 : ¬ (B.length : Int) < (B.length : Int) := by omega
            go_wp2
            refine wp_region_below wr (by kernel_rfl) (by kernel_rfl) (Below.refl _ _) ?_
            repeat (first
              | go_big_quiet_skip
              | (go_big_quiet_want
                 first
                   | (go_big_quiet_op; go_big_quiet_on)
                   | (refine q_load 41 _ _ _ rfl rfl LA ?_; simp only [Act.put, List.setIfInBounds_toArray, List.set_cons_zero, List.set_cons_succ]; go_big_quiet_on)
                   | (go_big_quiet_op; refine ⟨_, fun _ _ => rfl, ?_⟩; go_big_quiet_on)
                   | (go_big_quiet_op; go_big_quiet_on)))
            refine wpQuiet_nil ?_
            intro w2 hb2
            clear LA
            have hown2 := own_below hown hb2
            have hbq := hbr.trans (hb2.mono hbr.size)
            have d1 : w2.cell? ⟨ga, offa + x * 2, none⟩ = some (.int .i64 p) := by rw [hbq.cell (p := ⟨ga, offa + x * 2, none⟩) hga]; exact CA.out.1
            have d2 : w2.cell? ⟨ga, offa + x * 2 + 1, none⟩ = some (.int .i64 q) := by rw [hbq.cell (p := ⟨ga, offa + x * 2 + 1, none⟩) hga]; exact CA.out.2
            have hns := hbq.size
            clear hown hbr hb2
            go_wp2_with (at_builtin; refine wpList_append_own _ rfl (.tmp 64) (.tmp 69) 24 rfl w.heap.size 41 i0 (.agg #[.int .i64 0, .int .i64 0]) 2 16 Try.underlying24 hi hz0 hz1 hz2 rfl (by decide) _ _ _ rfl (hown2.alloc _) ⟨w2.heap.size, 0, none⟩ 1 1 [.int .i64 p, .int .i64 q] rfl rfl (cell_two_new _ _ _ _) (by intro u hu; simp at hu; rcases hu with rfl | rfl <;> rfl) (by unfold maxLen; omega) (by omega) (by simp; omega) ?_; intro v' w5 hown' hgrow _)
            have R : w5.ownsRow w.heap.size 41 2 v' (out ++ [(p, q)]).length (keyCells (out ++ [(p, q)])) ∧ Below w.heap.size w w5 := by
              refine ⟨by rw [keyCells_snoc]; simpa using hown', (hbq.alloc hbq.size _).grown hgrow (by simp; omega) (fun g hg => (hown2.lt g hg).1)⟩
            have HR := Lib.hid R
            clear R hown' hgrow hown2 hbq
            go_wp2
            exact ⟨⟨x + 1, B.length, out ++ [(p, q)], by omega, by omega, by go_num, by go_num, HNX.out, HR.out.1, HR.out.2⟩, by simp [intOf]; omega⟩
        · by_cases hyB : y < B.length
          ·
            obtain rfl : x = A.length := by omega
            obtain ⟨gb, offb, rfl, hgb, hcsB⟩ := hcB.resolve_left (by omega)
            have cB := hcsB y hyB
            have LB : ∀ w', Below wr.heap.size wr w' → (loadVar 41 ⟨gb, offb + y * 2, none⟩).run Try.prog w' = .ok (kv (B.getD y (0, 0))) w' := fun w' h => key_load cB hgb (hbr.trans (h.mono hbr.size))
            clear hcsB hcB
            have hdB := drop_at B y hyB
            have hdA : A.drop A.length = [] := List.drop_eq_nil_of_le (Nat.le_refl _)
            have hnx : (out ++ [B.getD y (0, 0)]) ++ mergeL both (A.drop A.length) (B.drop (y + 1)) = M := by
              rw [← hout, hdA, mergeL_nil_l, mergeL_nil_l, hdB]; simp
            generalize B.getD y (0, 0) = ky at *
            obtain ⟨p, q⟩ := ky
            have HNX := Lib.hid hnx; have CB := Lib.hid cB
            clear hdA hdB hnx hout cB
            have y0 : (0 : Int) ≤ (y : Int) := by omega
            have y1 : (y : Int) < (B.length : Int) := by omega
            have n1 : ¬ (y : Int) = (B.length : Int) := by omega
            have n2 : ¬ y = B.length := by omega
            have n3 : ((y : Int) == (B.length : Int)) = false := beq_eq_false_iff_ne.2 n1
            have z2 : ¬ (A.length : Int) < (A.length : Int) := by omega
            go_wp2
            refine wp_region_below wr (by kernel_rfl) (by kernel_rfl) (Below.refl _ _) ?_
            repeat (first
              | go_big_quiet_skip
              | (go_big_quiet_want
                 first
                   | (go_big_quiet_op; go_big_quiet_on)
                   | (refine q_load 41 _ _ _ rfl rfl LB ?_; simp only [Act.put, List.setIfInBounds_toArray, List.set_cons_zero, List.set_cons_succ]; go_big_quiet_on)
                   | (go_big_quiet_op; refine ⟨_, fun _ _ => rfl, ?_⟩; go_big_quiet_on)
                   | (go_big_quiet_op; go_big_quiet_on)))
            refine wpQuiet_nil ?_
            intro w1' hb1'
            go_wp2
            refine wp_region_below wr (by kernel_rfl) (by kernel_rfl) hb1' ?_
            repeat (first
              | go_big_quiet_skip
              | (go_big_quiet_want
                 first
                   | (go_big_quiet_op; go_big_quiet_on)
                   | (refine q_load 41 _ _ _ rfl rfl LB ?_; simp only [Act.put, List.setIfInBounds_toArray, List.set_cons_zero, List.set_cons_succ]; go_big_quiet_on)
                   | (go_big_quiet_op; refine ⟨_, fun _ _ => rfl, ?_⟩; go_big_quiet_on)
                   | (go_big_quiet_op; go_big_quiet_on)))
            refine wpQuiet_nil ?_
            intro w2 hb2
            clear LB hb1'
            have hown2 := own_below hown hb2
            have hbq := hbr.trans (hb2.mono hbr.size)
            have d1 : w2.cell? ⟨gb, offb + y * 2, none⟩ = some (.int .i64 p) := by rw [hbq.cell (p := ⟨gb, offb + y * 2, none⟩) hgb]; exact CB.out.1
            have d2 : w2.cell? ⟨gb, offb + y * 2 + 1, none⟩ = some (.int .i64 q) := by rw [hbq.cell (p := ⟨gb, offb + y * 2 + 1, none⟩) hgb]; exact CB.out.2
            have hns := hbq.size
            clear hown hbr hb2
            go_wp2_with (at_builtin; refine wpList_append_own _ rfl (.tmp 89) (.tmp 94) 24 rfl w.heap.size 41 i0 (.agg #[.int .i64 0, .int .i64 0]) 2 16 Try.underlying24 hi hz0 hz1 hz2 rfl (by decide) _ _ _ rfl (hown2.alloc _) ⟨w2.heap.size, 0, none⟩ 1 1 [.int .i64 p, .int .i64 q] rfl rfl (cell_two_new _ _ _ _) (by intro u hu; simp at hu; rcases hu with rfl | rfl <;> rfl) (by unfold maxLen; omega) (by omega) (by simp; omega) ?_; intro v' w5 hown' hgrow _)
            have R : w5.ownsRow w.heap.size 41 2 v' (out ++ [(p, q)]).length (keyCells (out ++ [(p, q)])) ∧ Below w.heap.size w w5 := by
              refine ⟨by rw [keyCells_snoc]; simpa using hown', (hbq.alloc hbq.size _).grown hgrow (by simp; omega) (fun g hg => (hown2.lt g hg).1)⟩
            have HR := Lib.hid R
            clear R hown' hgrow hown2 hbq
            go_wp2
            exact ⟨⟨A.length, y + 1, out ++ [(p, q)], by omega, by omega, by go_num, by go_num, HNX.out, HR.out.1, HR.out.2⟩, by simp [intOf]; omega⟩
          ·
            obtain rfl : x = A.length := by omega
            obtain rfl : y = B.length := by omega
            have hdA : A.drop A.length = [] := List.drop_eq_nil_of_le (Nat.le_refl _)
            have hdB : B.drop B.length = [] := List.drop_eq_nil_of_le (Nat.le_refl _)
            rw [hdA, hdB, mergeL_nil_r, List.append_nil] at hout
            subst hout
            have z2 : ¬ (A.length : Int) < (A.length : Int) := by omega
            have z3 : ¬ (B.length : Int) < (B.length : Int) := by omega
            go_wp2
            go_ret
            exact ⟨_, rfl, hown, hbr⟩
end Go.Proofs.Ytnknfmjpkphbpaa
/- Keys in the laws: one made anew, two held against each other. -/
namespace Go.Proofs.Ytnknfmjpkphbpaa
open Go.ChangeShapes Go.WideShapes Go.ChangeAt Go.RowKit Go.BigFrame
set_option linter.unusedVariables false

theorem tokey_any (k : K2) (w : World) : Calls Try.prog 74 #[kv k] w fun e w' => e = .returned (kv k) ∧ Below w.heap.size w w' := by
  obtain ⟨n, s⟩ := k
  unfold kv
  dsimp only
  have hB : ∀ o1 o2 o3, Below w.heap.size w (((w.alloc o1).alloc o2).alloc o3) := fun o1 o2 o3 => (((Below.refl _ _).alloc (Nat.le_refl _) _).alloc (by simp) _).alloc (by simp; omega) _
  have HB := Lib.hid hB; clear hB
  go_enter Try.func74, Try.ntmps74
  go_wp2
  refine bodyPost_ret (v := .agg #[.int .i64 n, .int .i64 s]) ?_ rfl ⟨rfl, HB.out _ _ _⟩
  rw [results_cell (p := 2) (ty := 41) (by kernel_rfl)]
  have hl := run_loadVar_row (P := Try.prog) (((w.alloc (.cells #[.int .i64 n, .int .i64 s] 55)).alloc (.cells #[.int .i64 n, .int .i64 s] 41)).alloc (.cells #[.int .i64 n, .int .i64 s] 41)) (w.heap.size + 1) 41 41 #[.int .i64 n, .int .i64 s] (0, 0) _ (heap_mid w _ _ _) Try.underlying41 rfl (by kernel_rfl)
  simp [asAddr, Result.andThen, hl]
theorem eqkey_any (p q : K2) (w : World) : Calls Try.prog 93 #[kv p, kv q] w fun e w' => e = .returned (.bool (p == q)) ∧ Below w.heap.size w w' := by
  obtain ⟨a, b⟩ := p; obtain ⟨c, d⟩ := q
  have hB : ∀ o o', Below w.heap.size w ((w.alloc o).alloc o') := fun o o' => ((Below.refl _ _).alloc (Nat.le_refl _) _).alloc (by simp) _
  have HB := Lib.hid hB; clear hB
  by_cases h1 : a = c
  · by_cases h2 : b = d
    · have he : ((a, b) == (c, d)) = true := by simp [h1, h2]
      rw [he]
      unfold kv
      dsimp only
      subst h1; subst h2
      go_enter Try.func93, Try.ntmps93
      go_wp2
      go_ret
      exact ⟨rfl, HB.out _ _⟩
    · have he : ((a, b) == (c, d)) = false := by simp [h1, h2]
      rw [he]
      unfold kv
      dsimp only
      subst h1
      go_enter Try.func93, Try.ntmps93
      go_wp2
      go_ret
      exact ⟨rfl, HB.out _ _⟩
  · have he : ((a, b) == (c, d)) = false := by simp [h1]
    rw [he]
    unfold kv
    dsimp only
    go_enter Try.func93, Try.ntmps93
    go_wp2
    go_ret
    exact ⟨rfl, HB.out _ _⟩
end Go.Proofs.Ytnknfmjpkphbpaa
/- Keys in the laws: joined by the model. -/
namespace Go.Proofs.Ytnknfmjpkphbpaa
open Go.ChangeShapes Go.WideShapes Go.ChangeAt Go.RowKit Go.BigFrame
set_option linter.unusedVariables false

theorem sjoined_any (va vb : Value) (A B : List K2) (w : World) (ha : keysAt w va A) (hb : keysAt w vb B) (hsA : A.length ≤ 2000000) (hsB : B.length ≤ 2000000) :
    Calls Try.prog 102 #[va, vb] w fun e w' => ∃ v, e = .returned v ∧ w'.ownsRow w.heap.size 41 2 v (mergeV true A B).length (keyCells (mergeV true A B)) ∧ Below w.heap.size w w' := by
  have H := Lib.hid (smerge_any va vb A B true w ha hb hsA hsB)
  go_enter Try.func102, Try.ntmps102
  go_wp2_with fail
  refine H.out.mono ?_
  rintro e w1 ⟨v, rfl, ho, hB⟩
  go_wp2
  go_ret
  exact ⟨v, rfl, ho, hB⟩
end Go.Proofs.Ytnknfmjpkphbpaa
/- Keys in the laws: a list made anew. -/
namespace Go.Proofs.Ytnknfmjpkphbpaa
open Go.ChangeShapes Go.WideShapes Go.ChangeAt Go.RowKit Go.BigFrame
set_option linter.unusedVariables false

theorem szkeys_any (v : Value) (ks : List K2) (left : Int) (w : World) (h : ∃ a cap, v = .slice a ks.length cap) (hl : 0 ≤ left ∧ left ≤ 1000000000) (hs : ks.length ≤ 9223372036854775807) :
    Calls Try.prog 69 #[v, .int .i64 left] w fun e w' => e = .returned (.int .i64 (if left - (ks.length : Int) < 0 then -1 else left - (ks.length : Int))) ∧ w' = w := by
  obtain ⟨a, cap, rfl⟩ := h
  by_cases hn : left - (ks.length : Int) < 0
  · rw [if_pos hn]
    have ew : IntKind.i64.wrap (left - (ks.length : Int)) = left - (ks.length : Int) := IntWalk.i64_in _ (by omega)
    go_enter Try.func69, Try.ntmps69
    go_wp2
    go_ret
    exact ⟨rfl, rfl⟩
  · rw [if_neg hn]
    have ew : IntKind.i64.wrap (left - (ks.length : Int)) = left - (ks.length : Int) := IntWalk.i64_in _ (by omega)
    go_enter Try.func69, Try.ntmps69
    go_wp2
    go_ret
    exact ⟨rfl, rfl⟩
theorem set_key (ks : List K2) (k : Nat) (p q : Int) (u1 u2 : Value) (rest : List Value) (hk : k < ks.length) (hx : ks.getD k (0, 0) = (p, q)) :
    ((keyCells (ks.take k) ++ u1 :: u2 :: rest).set (k * 2) (.int .i64 p)).set (k * 2 + 1) (.int .i64 q) = keyCells (ks.take (k + 1)) ++ rest := by
  have hl := keyCells_len (ks.take k)
  have hl2 : (keyCells (ks.take k)).length = k * 2 := by rw [hl]; simp; omega
  rw [List.take_succ_eq_append_getElem hk, keyCells_snoc, show ks[k] = (p, q) by rw [← hx]; simp [List.getD, hk]]
  rw [List.set_append_right _ _ (by omega), hl2, Nat.sub_self, List.set_cons_zero, List.set_append_right _ _ (by omega), hl2, show k * 2 + 1 - k * 2 = 1 by omega]
  simp
set_option maxRecDepth 100000 in
set_option maxHeartbeats 1000000 in
theorem tokeys_any (v : Value) (ks : List K2) (w : World) (h : keysAt w v ks) (hs : ks.length ≤ 2000000) : Calls Try.prog 70 #[v] w fun e w' => ∃ g, e = .returned (.slice (some ⟨g, 0, none⟩) ks.length ks.length) ∧ w.heap.size ≤ g ∧
    w'.ownsRow w.heap.size 41 2 (.slice (some ⟨g, 0, none⟩) ks.length ks.length) ks.length (keyCells ks) ∧ Below w.heap.size w w' := by
  obtain ⟨a, cap, rfl, hcap, hcells⟩ := h
  obtain ⟨i0, hi, hz0, hz1, hz2⟩ := info_parts infoK
  obtain ⟨W, hmk, hown0, hgr0⟩ := run_make_full (P := Try.prog) w w.heap.size 24 41 i0 _ 2 Try.underlying24 hi hz0 hz1 .i64 .i64 ks.length (by rw [hz2]; omega) (by unfold maxLen; omega) (Nat.le_refl _)
  have hb0 : Below w.heap.size w W := (Below.refl _ _).grown hgr0 (Nat.le_refl _) (by simp)
  have hrest : (madeCells (Value.agg #[.int .i64 0, .int .i64 0]).cells (ks.length * 2)).toList.length = ks.length * 2 := hown0.1
  generalize (madeCells (Value.agg #[.int .i64 0, .int .i64 0]).cells (ks.length * 2)).toList = Z at *
  go_enter Try.func70, Try.ntmps70
  go_wp2
  clear hmk hgr0
  go_loopw [4] (fun i wr => ∃ (k : Nat) (rest : List Value), k ≤ ks.length ∧ i = .int .i64 k ∧ wr.ownsRow w.heap.size 41 2 (.slice (some ⟨w.heap.size, 0, none⟩) ks.length ks.length) ks.length (keyCells (ks.take k) ++ rest) ∧ Below w.heap.size w wr)
    (fun i _ => ks.length - (intOf i).toNat)
  case atStart => exact ⟨0, Z, Nat.zero_le _, rfl, by simpa [keyCells] using hown0, hb0⟩
  case round =>
    obtain ⟨k, rest, hk, rfl, hown, hbr⟩ := hrel
    clear hown0 hb0 hrest
    by_cases hlt : k < ks.length
    · obtain ⟨ga, off, rfl, hg, hcs⟩ := hcells.resolve_left (by omega)
      have hc := hcs k hlt
      have z0 : (0 : Int) ≤ (k : Int) := by omega
      have z1 : (k : Int) < (ks.length : Int) := by omega
      have d1 : wr.cell? ⟨ga, off + k * 2, none⟩ = some (.int .i64 (ks.getD k (0, 0)).1) := by rw [hbr.cell (p := ⟨ga, off + k * 2, none⟩) hg]; exact hc.1
      have d2 : wr.cell? ⟨ga, off + k * 2 + 1, none⟩ = some (.int .i64 (ks.getD k (0, 0)).2) := by rw [hbr.cell (p := ⟨ga, off + k * 2 + 1, none⟩) hg]; exact hc.2
      clear hcs hc hcells
      have hkt : (ks.take k).length = k := by simp; omega
      have hkl := keyCells_len (ks.take k)
      have hrl : rest.length = (ks.length - k) * 2 := by
        have := hown.1
        rw [List.length_append, hkl, hkt] at this
        omega
      obtain ⟨u1, u2, rest2, rfl⟩ : ∃ u1 u2 r, rest = u1 :: u2 :: r := by
        match rest, hrl with
        | [], h => simp at h; omega
        | [_], h => simp at h; omega
        | a :: b :: r, _ => exact ⟨a, b, r, rfl⟩
      generalize hkx : ks.getD k (0, 0) = kx at *
      obtain ⟨p, q⟩ := kx
      have hset := set_key ks k p q u1 u2 rest2 hlt hkx
      have HSET := Lib.hid hset
      have HT := Lib.hid (tokey_any (p, q) wr)
      clear hkx hset hrl
      go_wp2_with fail
      refine HT.out.mono ?_
      rintro e w2 ⟨rfl, hb2⟩
      have hown2 := own_below hown hb2
      have hbq := hbr.trans (hb2.mono hbr.size)
      clear hown hbr hb2 HT d1 d2
      have st1 := hown2.stored (k * 2) (.int .i64 p)
      have st2 := st1.1.stored (k * 2 + 1) (.int .i64 q)
      rw [HSET.out] at st2
      have hbz := (hbq.setCell (p := ⟨w.heap.size, k * 2, none⟩) (Nat.le_refl _) (.int .i64 p)).setCell (p := ⟨w.heap.size, k * 2 + 1, none⟩) (Nat.le_refl _) (.int .i64 q)
      have R := Lib.hid (And.intro st2.1 hbz)
      clear st1 st2 hbz hbq HSET
      obtain ⟨s1, s2⟩ := own_cell hown2 (k * 2) (by omega)
      obtain ⟨s3, s4⟩ := own_cell hown2 (k * 2 + 1) (by omega)
      unfold kv
      dsimp only
      go_wp2
      exact ⟨⟨k + 1, rest2, by omega, by go_num, R.out.1, R.out.2⟩, by simp [intOf]; omega⟩
    · obtain rfl : k = ks.length := by omega
      rw [List.take_length] at hown
      have hr0 : rest = [] := by
        have h1 := hown.1
        rw [List.length_append, keyCells_len] at h1
        exact List.eq_nil_of_length_eq_zero (by omega)
      subst hr0
      rw [List.append_nil] at hown
      go_wp2
      go_ret
      exact ⟨w.heap.size, rfl, Nat.le_refl _, hown, hbr⟩
end Go.Proofs.Ytnknfmjpkphbpaa
/- Keys in the laws: lists held against each other. -/
namespace Go.Proofs.Ytnknfmjpkphbpaa
open Go.ChangeShapes Go.WideShapes Go.ChangeAt Go.RowKit Go.BigFrame
set_option linter.unusedVariables false
set_option maxRecDepth 100000 in
set_option maxHeartbeats 1000000 in
theorem eqkeys_any (va vb : Value) (A B : List K2) (w : World) (ha : keysAt w va A) (hb : keysAt w vb B) (hsA : A.length ≤ 4000000) (hsB : B.length ≤ 4000000) :
    Calls Try.prog 71 #[va, vb] w fun e w' => e = .returned (.bool (decide (A = B))) ∧ Below w.heap.size w w' := by
  obtain ⟨aa, ca, rfl, hca, hcA⟩ := ha
  obtain ⟨ab, cb, rfl, hcb, hcB⟩ := hb
  by_cases hl : A.length = B.length
  · have e0 : (A.length : Int) = (B.length : Int) := by omega
    go_enter Try.func71, Try.ntmps71
    rw [hl] at hca hcA ⊢
    go_wp2
    go_loopw [5] (fun i wr => ∃ k : Nat, k ≤ B.length ∧ i = .int .i64 k ∧ (∀ j, j < k → A.getD j (0, 0) = B.getD j (0, 0)) ∧ Below w.heap.size w wr) (fun i _ => B.length - (intOf i).toNat)
    case atStart => exact ⟨0, Nat.zero_le _, rfl, fun j hj => by omega, Below.refl _ _⟩
    case round =>
      obtain ⟨k, hk, rfl, hall, hbr⟩ := hrel
      by_cases hlt : k < B.length
      · obtain ⟨ga, offa, rfl, hga, hcsA⟩ := hcA.resolve_left (by omega)
        obtain ⟨gb, offb, rfl, hgb, hcsB⟩ := hcB.resolve_left (by omega)
        have cA := hcsA k hlt
        have cB := hcsB k hlt
        have z0 : (0 : Int) ≤ (k : Int) := by omega
        have z1 : (k : Int) < (B.length : Int) := by omega
        clear hcsA hcsB hcA hcB
        have L1 : ∀ w', Below w.heap.size w w' → (loadVar 41 ⟨ga, offa + k * 2, none⟩).run Try.prog w' = .ok (kv (A.getD k (0, 0))) w' := fun w' h => key_load cA hga h
        have L2 : ∀ w', Below w.heap.size w w' → (loadVar 41 ⟨gb, offb + k * 2, none⟩).run Try.prog w' = .ok (kv (B.getD k (0, 0))) w' := fun w' h => key_load cB hgb h
        have HE := Lib.hid (fun w => eqkey_any (A.getD k (0, 0)) (B.getD k (0, 0)) w)
        clear cA cB
        cases he : (A.getD k (0, 0) == B.getD k (0, 0)) with
        | true =>
          have hn : ∀ j, j < k + 1 → A.getD j (0, 0) = B.getD j (0, 0) := by
            intro j hj
            rcases (by omega : j < k ∨ j = k) with h1 | rfl
            · exact hall j h1
            · exact eq_of_beq he
          have HN := Lib.hid hn
          rw [he] at HE
          clear hall hn
          generalize A.getD k (0, 0) = kx at *
          generalize B.getD k (0, 0) = ky at *
          go_wp2
          refine wp_region_below w (by kernel_rfl) (by kernel_rfl) hbr ?_
          repeat (first
            | go_big_quiet_skip
            | (go_big_quiet_want
               first
                 | (go_big_quiet_op; go_big_quiet_on)
                 | (refine q_load 41 _ _ _ rfl rfl L1 ?_; simp only [Act.put, List.setIfInBounds_toArray, List.set_cons_zero, List.set_cons_succ]; go_big_quiet_on)
                 | (refine q_load 41 _ _ _ rfl rfl L2 ?_; simp only [Act.put, List.setIfInBounds_toArray, List.set_cons_zero, List.set_cons_succ]; go_big_quiet_on)
                 | (go_big_quiet_op; refine ⟨_, fun _ _ => rfl, ?_⟩; go_big_quiet_on)
                 | (go_big_quiet_op; apply Exists.intro; refine ⟨fun w' hw' => ?_, ?_⟩
                    · first
                      | (refine (HE.out w').mono ?_
                         rintro e w2 ⟨rfl, hb2⟩
                         exact ⟨rfl, hw'.trans (hb2.mono hw'.size)⟩)
                    go_big_quiet_on)))
          refine wpQuiet_nil ?_
          intro w2 hb2
          clear L1 L2 HE hbr
          go_wp2
          exact ⟨⟨k + 1, by omega, by go_num, HN.out, hb2⟩, by simp [intOf]; omega⟩
        | false =>
          have hne : decide (A = B) = false := by
            simp only [decide_eq_false_iff_not]
            intro e
            subst e
            simp at he
          have HD := Lib.hid hne
          rw [he] at HE
          clear hall hne
          generalize A.getD k (0, 0) = kx at *
          generalize B.getD k (0, 0) = ky at *
          go_wp2
          refine wp_region_below w (by kernel_rfl) (by kernel_rfl) hbr ?_
          repeat (first
            | go_big_quiet_skip
            | (go_big_quiet_want
               first
                 | (go_big_quiet_op; go_big_quiet_on)
                 | (refine q_load 41 _ _ _ rfl rfl L1 ?_; simp only [Act.put, List.setIfInBounds_toArray, List.set_cons_zero, List.set_cons_succ]; go_big_quiet_on)
                 | (refine q_load 41 _ _ _ rfl rfl L2 ?_; simp only [Act.put, List.setIfInBounds_toArray, List.set_cons_zero, List.set_cons_succ]; go_big_quiet_on)
                 | (go_big_quiet_op; refine ⟨_, fun _ _ => rfl, ?_⟩; go_big_quiet_on)
                 | (go_big_quiet_op; apply Exists.intro; refine ⟨fun w' hw' => ?_, ?_⟩
                    · first
                      | (refine (HE.out w').mono ?_
                         rintro e w2 ⟨rfl, hb2⟩
                         exact ⟨rfl, hw'.trans (hb2.mono hw'.size)⟩)
                    go_big_quiet_on)))
          refine wpQuiet_nil ?_
          intro w2 hb2
          clear L1 L2 HE hbr
          go_wp2
          go_ret
          exact ⟨by rw [HD.out]; rfl, hb2⟩
      · obtain rfl : k = B.length := by omega
        have he : decide (A = B) = true := by
          simp only [decide_eq_true_eq]
          apply List.ext_getElem hl
          intro i h1 h2
          have := hall i h2
          simpa [List.getD, h1, h2] using this
        have HD := Lib.hid he
        clear hall he
        go_wp2
        go_ret
        exact ⟨by rw [HD.out]; rfl, hbr⟩
  · have hne : decide (A = B) = false := by simp only [decide_eq_false_iff_not]; intro e; subst e; exact hl rfl
    have HD := Lib.hid hne
    have e0 : ¬ (A.length : Int) = (B.length : Int) := by omega
    clear hne
    go_enter Try.func71, Try.ntmps71
    go_wp2
    go_ret
    exact ⟨by rw [HD.out]; rfl, Below.refl _ _⟩
set_option maxRecDepth 100000 in
set_option maxHeartbeats 1000000 in
theorem samekeys_any (va vb : Value) (A B : List K2) (w : World) (ha : keysAt w va A) (hb : keysAt w vb B) (hsA : A.length ≤ 4000000) (hsB : B.length ≤ 4000000) :
    Calls Try.prog 51 #[va, vb] w fun e w' => e = .returned (.bool (decide (A = B))) ∧ Below w.heap.size w w' := by
  obtain ⟨aa, ca, rfl, hca, hcA⟩ := ha
  obtain ⟨ab, cb, rfl, hcb, hcB⟩ := hb
  by_cases hl : A.length = B.length
  · have e0 : (A.length : Int) = (B.length : Int) := by omega
    go_enter Try.func51, Try.ntmps51
    rw [hl] at hca hcA ⊢
    go_wp2
    go_loopw [5] (fun i wr => ∃ k : Nat, k ≤ B.length ∧ i = .int .i64 k ∧ (∀ j, j < k → A.getD j (0, 0) = B.getD j (0, 0)) ∧ Below w.heap.size w wr) (fun i _ => B.length - (intOf i).toNat)
    case atStart => exact ⟨0, Nat.zero_le _, rfl, fun j hj => by omega, Below.refl _ _⟩
    case round =>
      obtain ⟨k, hk, rfl, hall, hbr⟩ := hrel
      by_cases hlt : k < B.length
      · obtain ⟨ga, offa, rfl, hga, hcsA⟩ := hcA.resolve_left (by omega)
        obtain ⟨gb, offb, rfl, hgb, hcsB⟩ := hcB.resolve_left (by omega)
        have cA := hcsA k hlt
        have cB := hcsB k hlt
        have z0 : (0 : Int) ≤ (k : Int) := by omega
        have z1 : (k : Int) < (B.length : Int) := by omega
        clear hcsA hcsB hcA hcB
        have L1 : ∀ w', Below w.heap.size w w' → (loadVar 41 ⟨ga, offa + k * 2, none⟩).run Try.prog w' = .ok (kv (A.getD k (0, 0))) w' := fun w' h => key_load cA hga h
        have L2 : ∀ w', Below w.heap.size w w' → (loadVar 41 ⟨gb, offb + k * 2, none⟩).run Try.prog w' = .ok (kv (B.getD k (0, 0))) w' := fun w' h => key_load cB hgb h
        have HE := Lib.hid (fun w => eqkey_any (A.getD k (0, 0)) (B.getD k (0, 0)) w)
        clear cA cB
        cases he : (A.getD k (0, 0) == B.getD k (0, 0)) with
        | true =>
          have hn : ∀ j, j < k + 1 → A.getD j (0, 0) = B.getD j (0, 0) := by
            intro j hj
            rcases (by omega : j < k ∨ j = k) with h1 | rfl
            · exact hall j h1
            · exact eq_of_beq he
          have HN := Lib.hid hn
          rw [he] at HE
          clear hall hn
          generalize A.getD k (0, 0) = kx at *
          generalize B.getD k (0, 0) = ky at *
          go_wp2
          refine wp_region_below w (by kernel_rfl) (by kernel_rfl) hbr ?_
          repeat (first
            | go_big_quiet_skip
            | (go_big_quiet_want
               first
                 | (go_big_quiet_op; go_big_quiet_on)
                 | (refine q_load 41 _ _ _ rfl rfl L1 ?_; simp only [Act.put, List.setIfInBounds_toArray, List.set_cons_zero, List.set_cons_succ]; go_big_quiet_on)
                 | (refine q_load 41 _ _ _ rfl rfl L2 ?_; simp only [Act.put, List.setIfInBounds_toArray, List.set_cons_zero, List.set_cons_succ]; go_big_quiet_on)
                 | (refine q_bin _ 41 _ _ _ _ _ _ rfl rfl rfl (fun w => key_guard _ _ _ _ _ w) (fun w => key_eql _ _ w) ?_; simp only [Act.put, List.setIfInBounds_toArray, List.set_cons_zero, List.set_cons_succ]; go_big_quiet_on)
                 | (refine q_bin _ 41 _ _ _ _ _ _ rfl rfl rfl (fun w => key_guard _ _ _ _ _ w) (fun w => key_neq _ _ w) ?_; simp only [Act.put, List.setIfInBounds_toArray, List.set_cons_zero, List.set_cons_succ]; go_big_quiet_on)
                 | (go_big_quiet_op; refine ⟨_, fun _ _ => rfl, ?_⟩; go_big_quiet_on)
                 | (go_big_quiet_op; go_big_quiet_on)))
          refine wpQuiet_nil ?_
          intro w2 hb2
          rw [he]
          clear L1 L2 HE hbr
          go_wp2
          exact ⟨⟨k + 1, by omega, by go_num, HN.out, hb2⟩, by simp [intOf]; omega⟩
        | false =>
          have hne : decide (A = B) = false := by
            simp only [decide_eq_false_iff_not]
            intro e
            subst e
            simp at he
          have HD := Lib.hid hne
          rw [he] at HE
          clear hall hne
          generalize A.getD k (0, 0) = kx at *
          generalize B.getD k (0, 0) = ky at *
          go_wp2
          refine wp_region_below w (by kernel_rfl) (by kernel_rfl) hbr ?_
          repeat (first
            | go_big_quiet_skip
            | (go_big_quiet_want
               first
                 | (go_big_quiet_op; go_big_quiet_on)
                 | (refine q_load 41 _ _ _ rfl rfl L1 ?_; simp only [Act.put, List.setIfInBounds_toArray, List.set_cons_zero, List.set_cons_succ]; go_big_quiet_on)
                 | (refine q_load 41 _ _ _ rfl rfl L2 ?_; simp only [Act.put, List.setIfInBounds_toArray, List.set_cons_zero, List.set_cons_succ]; go_big_quiet_on)
                 | (refine q_bin _ 41 _ _ _ _ _ _ rfl rfl rfl (fun w => key_guard _ _ _ _ _ w) (fun w => key_eql _ _ w) ?_; simp only [Act.put, List.setIfInBounds_toArray, List.set_cons_zero, List.set_cons_succ]; go_big_quiet_on)
                 | (refine q_bin _ 41 _ _ _ _ _ _ rfl rfl rfl (fun w => key_guard _ _ _ _ _ w) (fun w => key_neq _ _ w) ?_; simp only [Act.put, List.setIfInBounds_toArray, List.set_cons_zero, List.set_cons_succ]; go_big_quiet_on)
                 | (go_big_quiet_op; refine ⟨_, fun _ _ => rfl, ?_⟩; go_big_quiet_on)
                 | (go_big_quiet_op; go_big_quiet_on)))
          refine wpQuiet_nil ?_
          intro w2 hb2
          rw [he]
          clear L1 L2 HE hbr
          go_wp2
          go_ret
          exact ⟨by rw [HD.out]; rfl, hb2⟩
      · obtain rfl : k = B.length := by omega
        have he : decide (A = B) = true := by
          simp only [decide_eq_true_eq]
          apply List.ext_getElem hl
          intro i h1 h2
          have := hall i h2
          simpa [List.getD, h1, h2] using this
        have HD := Lib.hid he
        clear hall he
        go_wp2
        go_ret
        exact ⟨by rw [HD.out]; rfl, hbr⟩
  · have hne : decide (A = B) = false := by simp only [decide_eq_false_iff_not]; intro e; subst e; exact hl rfl
    have HD := Lib.hid hne
    have e0 : ¬ (A.length : Int) = (B.length : Int) := by omega
    clear hne
    go_enter Try.func51, Try.ntmps51
    go_wp2
    go_ret
    exact ⟨by rw [HD.out]; rfl, Below.refl _ _⟩
end Go.Proofs.Ytnknfmjpkphbpaa
/- Words of several readings in the laws: made, measured, held against each other. -/
namespace Go.Proofs.Ytnknfmjpkphbpaa
open Go.ChangeShapes Go.WideShapes Go.ChangeAt Go.RowKit Go.BigFrame
set_option linter.unusedVariables false

theorem two_boxes (w : World) (va : Value) (ya : ByteArray) (vb : Value) (yb : ByteArray) :
    Below w.heap.size w ((w.alloc (.cells #[va, .string ya] 26)).alloc (.cells #[vb, .string yb] 26)) ∧
    ((w.alloc (.cells #[va, .string ya] 26)).alloc (.cells #[vb, .string yb] 26)).heap[w.heap.size]? = some (.cells #[va, .string ya] 26) ∧
    ((w.alloc (.cells #[va, .string ya] 26)).alloc (.cells #[vb, .string yb] 26)).heap[w.heap.size + 1]? = some (.cells #[vb, .string yb] 26) := by
  have hb1 := (Below.refl w.heap.size w).alloc (Nat.le_refl _) (.cells #[va, .string ya] 26)
  have e1 : (w.alloc (.cells #[va, .string ya] 26)).heap.size = w.heap.size + 1 := by simp
  have r2 := heap_alloc_new (w.alloc (.cells #[va, .string ya] 26)) (.cells #[vb, .string yb] 26)
  rw [e1] at r2
  exact ⟨hb1.alloc hb1.size _, (Below.heap_alloc _ _ w.heap.size (by simp)).trans (heap_alloc_new w _), r2⟩
theorem str_neq (a b : ByteArray) : (a.toList != b.toList) = !(decide (a = b)) := by
  rw [Bool.eq_iff_iff, bne_iff_ne, Bool.not_eq_true', decide_eq_false_iff_not, ne_eq, bytes_toList_iff]
theorem str_eq (a b : ByteArray) : (a.toList == b.toList) = decide (a = b) := by
  rw [Bool.eq_iff_iff, decide_eq_true_eq, beq_iff_eq, bytes_toList_iff]
set_option maxRecDepth 100000 in
set_option maxHeartbeats 1000000 in
theorem eqcode_any (va : Value) (A : List K2) (ya : ByteArray) (vb : Value) (B : List K2) (yb : ByteArray) (w : World) (ha : keysAt w va A) (hb : keysAt w vb B) (hsA : A.length ≤ 4000000) (hsB : B.length ≤ 4000000) :
    Calls Try.prog 33 #[.agg #[va, .string ya], .agg #[vb, .string yb]] w fun e w' => e = .returned (.bool (decide (A = B) && decide (ya = yb))) ∧ Below w.heap.size w w' := by
  obtain ⟨t1, t2, t3⟩ := two_boxes w va ya vb yb
  have HB := Lib.hid t1; have HX := Lib.hid t2; have HY := Lib.hid t3
  have EQ := Lib.hid (fun w' (h : Below w.heap.size w w') => eqkeys_any va vb A B w' (keysAt_below ha h) (keysAt_below hb h) hsA hsB)
  obtain ⟨x0, x1, -, -⟩ := row2_of t2
  obtain ⟨y0, y1, -, -⟩ := row2_of t3
  have hne := str_eq ya yb
  clear t1 t2 t3 ha hb
  generalize decide (A = B) = p at *
  generalize decide (ya = yb) = q at *
  go_enter Try.func33, Try.ntmps33
  go_wp2_with fail
  generalize (w.alloc (.cells #[va, .string ya] 26)).alloc (.cells #[vb, .string yb] 26) = W at *
  refine (EQ.out _ HB.out).mono ?_
  rintro e w1 ⟨rfl, hb1⟩
  have HB1 := Lib.hid (HB.out.trans (hb1.mono HB.out.size))
  obtain ⟨c0, c1⟩ := cd_cells HX.out hb1
  obtain ⟨d0, d1⟩ := cd_cells HY.out hb1
  clear hb1 x0 x1 y0 y1 HB HX HY EQ
  cases p with
  | false =>
    go_wp2
    go_ret
    exact ⟨rfl, HB1.out⟩
  | true =>
    cases q with
    | false =>
      go_wp2
      go_ret
      exact ⟨rfl, HB1.out⟩
    | true =>
      go_wp2
      go_ret
      exact ⟨rfl, HB1.out⟩
set_option maxRecDepth 100000 in
set_option maxHeartbeats 1000000 in
theorem samecode_any (va : Value) (A : List K2) (ya : ByteArray) (vb : Value) (B : List K2) (yb : ByteArray) (w : World) (ha : keysAt w va A) (hb : keysAt w vb B) (hsA : A.length ≤ 4000000) (hsB : B.length ≤ 4000000) :
    Calls Try.prog 16 #[.agg #[va, .string ya], .agg #[vb, .string yb]] w fun e w' => e = .returned (.bool (decide (ya = yb) && decide (A = B))) ∧ Below w.heap.size w w' := by
  obtain ⟨t1, t2, t3⟩ := two_boxes w va ya vb yb
  have HB := Lib.hid t1; have HX := Lib.hid t2; have HY := Lib.hid t3
  have EQ := Lib.hid (fun w' (h : Below w.heap.size w w') => samekeys_any va vb A B w' (keysAt_below ha h) (keysAt_below hb h) hsA hsB)
  obtain ⟨x0, x1, -, -⟩ := row2_of t2
  obtain ⟨y0, y1, -, -⟩ := row2_of t3
  have hne := str_eq ya yb
  clear t1 t2 t3 ha hb
  generalize decide (A = B) = p at *
  generalize decide (ya = yb) = q at *
  go_enter Try.func16, Try.ntmps16
  cases q with
  | false =>
    go_wp2
    go_ret
    exact ⟨by simp, HB.out⟩
  | true =>
    go_wp2_with fail
    generalize (w.alloc (.cells #[va, .string ya] 26)).alloc (.cells #[vb, .string yb] 26) = W at *
    refine (EQ.out _ HB.out).mono ?_
    rintro e w1 ⟨rfl, hb1⟩
    have HB1 := Lib.hid (HB.out.trans (hb1.mono HB.out.size))
    clear hb1 x0 x1 y0 y1 HB HX HY EQ
    go_wp2
    go_ret
    exact ⟨by simp, HB1.out⟩
end Go.Proofs.Ytnknfmjpkphbpaa
/- Words of several readings in the laws: made, measured. -/
namespace Go.Proofs.Ytnknfmjpkphbpaa
open Go.ChangeShapes Go.WideShapes Go.ChangeAt Go.RowKit Go.BigFrame
set_option linter.unusedVariables false

theorem lcd_cells {W w' : World} {b : Nat} {v : Value} {y : ByteArray} {T : TypeId} (h : W.heap[b]? = some (.cells #[v, .string y] T)) (hb : Below W.heap.size W w') :
    w'.cell? ⟨b, 0, none⟩ = some v ∧ w'.cell? ⟨b, 1, none⟩ = some (.string y) := cd_cells h hb
def szC (left : Int) (n m : Nat) : Int := if left - (n : Int) < 0 then -1 else if left - (n : Int) - (m : Int) < 0 then -1 else left - (n : Int) - (m : Int)
set_option maxRecDepth 100000 in
set_option maxHeartbeats 1000000 in
theorem szcode_any (v : Value) (ks : List K2) (y : ByteArray) (left : Int) (w : World) (h : ∃ a cap, v = .slice a ks.length cap) (hl : 0 ≤ left ∧ left ≤ 1000000000) (hs : ks.length ≤ 9223372036854775807) (hy : y.size ≤ 9223372036854775807) :
    Calls Try.prog 31 #[.agg #[v, .string y], .int .i64 left] w fun e w' => e = .returned (.int .i64 (szC left ks.length y.size)) ∧ Below w.heap.size w w' := by
  have hb := (Below.refl w.heap.size w).alloc (Nat.le_refl _) (.cells #[v, .string y] 50)
  have SZ := Lib.hid (fun w' => szkeys_any v ks left w' h hl hs)
  obtain ⟨x0, x1, -, -⟩ := row2_of (heap_alloc_new w (.cells #[v, .string y] 50))
  have HB := Lib.hid hb
  clear hb h
  unfold szC
  go_enter Try.func31, Try.ntmps31
  go_wp2_with fail
  generalize w.alloc (.cells #[v, .string y] 50) = W at *
  refine (SZ.out _).mono ?_
  rintro e w1 ⟨rfl, rfl⟩
  clear SZ
  by_cases h1 : left - (ks.length : Int) < 0
  · rw [if_pos h1]
    go_wp2
    go_ret
    exact ⟨rfl, HB.out⟩
  · rw [if_neg h1]
    have ew : IntKind.i64.wrap (left - (ks.length : Int) - (y.size : Int)) = left - (ks.length : Int) - (y.size : Int) := IntWalk.i64_in _ (by omega)
    by_cases h2 : left - (ks.length : Int) - (y.size : Int) < 0
    · go_wp2
      go_ret
      exact ⟨rfl, HB.out⟩
    · go_wp2
      go_ret
      exact ⟨rfl, HB.out⟩
theorem three_boxes (w : World) (v : Value) (y : ByteArray) :
    Below w.heap.size w (((w.alloc (.cells #[v, .string y] 50)).alloc (.cells #[.slice none 0 0, .string ⟨#[]⟩] 26)).alloc (.cells #[.slice none 0 0, .string ⟨#[]⟩] 26)) ∧
    (((w.alloc (.cells #[v, .string y] 50)).alloc (.cells #[.slice none 0 0, .string ⟨#[]⟩] 26)).alloc (.cells #[.slice none 0 0, .string ⟨#[]⟩] 26)).heap[w.heap.size]? = some (.cells #[v, .string y] 50) ∧
    (((w.alloc (.cells #[v, .string y] 50)).alloc (.cells #[.slice none 0 0, .string ⟨#[]⟩] 26)).alloc (.cells #[.slice none 0 0, .string ⟨#[]⟩] 26)).heap[w.heap.size + 1]? = some (.cells #[.slice none 0 0, .string ⟨#[]⟩] 26) ∧
    (((w.alloc (.cells #[v, .string y] 50)).alloc (.cells #[.slice none 0 0, .string ⟨#[]⟩] 26)).alloc (.cells #[.slice none 0 0, .string ⟨#[]⟩] 26)).heap[w.heap.size + 2]? = some (.cells #[.slice none 0 0, .string ⟨#[]⟩] 26) ∧
    (((w.alloc (.cells #[v, .string y] 50)).alloc (.cells #[.slice none 0 0, .string ⟨#[]⟩] 26)).alloc (.cells #[.slice none 0 0, .string ⟨#[]⟩] 26)).heap.size = w.heap.size + 3 := by
  have hb1 := (Below.refl w.heap.size w).alloc (Nat.le_refl _) (.cells #[v, .string y] 50)
  have hb2 := hb1.alloc hb1.size (.cells #[.slice none 0 0, .string ⟨#[]⟩] 26)
  have e1 : (w.alloc (.cells #[v, .string y] 50)).heap.size = w.heap.size + 1 := by simp
  have e2 : ((w.alloc (.cells #[v, .string y] 50)).alloc (.cells #[.slice none 0 0, .string ⟨#[]⟩] 26)).heap.size = w.heap.size + 2 := by simp
  have r2 := heap_alloc_new (w.alloc (.cells #[v, .string y] 50)) (.cells #[.slice none 0 0, .string ⟨#[]⟩] 26)
  rw [e1] at r2
  have r3 := heap_alloc_new ((w.alloc (.cells #[v, .string y] 50)).alloc (.cells #[.slice none 0 0, .string ⟨#[]⟩] 26)) (.cells #[.slice none 0 0, .string ⟨#[]⟩] 26)
  rw [e2] at r3
  exact ⟨hb2.alloc hb2.size _, (Below.heap_alloc _ _ w.heap.size (by simp; omega)).trans ((Below.heap_alloc _ _ w.heap.size (by simp)).trans (heap_alloc_new w _)), (Below.heap_alloc _ _ (w.heap.size + 1) (by simp)).trans r2, r3, by simp⟩
set_option maxRecDepth 100000 in
set_option maxHeartbeats 1000000 in
theorem tocode_any (v : Value) (ks : List K2) (y : ByteArray) (w : World) (h : keysAt w v ks) (hs : ks.length ≤ 2000000) :
    Calls Try.prog 32 #[.agg #[v, .string y]] w fun e w' => ∃ v', e = .returned (.agg #[v', .string y]) ∧ w'.ownsRow w.heap.size 41 2 v' ks.length (keyCells ks) ∧ Below w.heap.size w w' := by
  obtain ⟨t1, t2, t3, t4, t5⟩ := three_boxes w v y
  have HB := Lib.hid t1; have HX := Lib.hid t2; have HR := Lib.hid t3; have HT := Lib.hid t4; have HS := Lib.hid t5
  have TK := Lib.hid (tokeys_any v ks (((w.alloc (.cells #[v, .string y] 50)).alloc (.cells #[.slice none 0 0, .string ⟨#[]⟩] 26)).alloc (.cells #[.slice none 0 0, .string ⟨#[]⟩] 26)) (keysAt_below h t1) hs)
  obtain ⟨x0, x1, -, -⟩ := row2_of t2
  clear t1 t2 t3 t4 t5 h
  go_enter Try.func32, Try.ntmps32
  go_wp2_with fail
  generalize ((w.alloc (.cells #[v, .string y] 50)).alloc (.cells #[.slice none 0 0, .string ⟨#[]⟩] 26)).alloc (.cells #[.slice none 0 0, .string ⟨#[]⟩] 26) = W at *
  refine TK.out.mono ?_
  rintro e w1 ⟨g, rfl, hg, ho1, hb1⟩
  have hB1 := HB.out.trans (hb1.mono HB.out.size)
  have hx1 := (hb1.block _ (Array.getElem?_eq_some_iff.1 HX.out).1).trans HX.out
  have hr1 := (hb1.block _ (Array.getElem?_eq_some_iff.1 HR.out).1).trans HR.out
  have ht1 := (hb1.block _ (Array.getElem?_eq_some_iff.1 HT.out).1).trans HT.out
  have hs := HS.out
  rw [hs] at ho1
  obtain ⟨p0, p1, -, -⟩ := row2_of hx1
  obtain ⟨q0, q1, g0, g1⟩ := row2_of ht1
  obtain ⟨c0, c1, f0, f1⟩ := row2_of hr1
  have hltx := (Array.getElem?_eq_some_iff.1 hx1).1
  have hltr := (Array.getElem?_eq_some_iff.1 hr1).1
  have hltt := (Array.getElem?_eq_some_iff.1 ht1).1
  -- the new word's own box, set
  have ht2 := set2 (.slice (some ⟨g, 0, none⟩) ks.length ks.length) (.string y) ht1
  have hr2 : ((w1.setCell ⟨w.heap.size + 2, 0, none⟩ (.slice (some ⟨g, 0, none⟩) ks.length ks.length)).setCell ⟨w.heap.size + 2, 1, none⟩ (.string y)).heap[w.heap.size + 1]? = some (.cells #[.slice none 0 0, .string ⟨#[]⟩] 26) := by
    rw [Below.heap_setCell _ _ _ _ (by simp), Below.heap_setCell _ _ _ _ (by simp)]
    exact hr1
  have ho2 := own_set2 ho1 (by omega : w.heap.size + 2 < w.heap.size + 3) (.slice (some ⟨g, 0, none⟩) ks.length ks.length) (.string y)
  have hB2 := below2 hB1 (by omega : w.heap.size ≤ w.heap.size + 2) (.slice (some ⟨g, 0, none⟩) ks.length ks.length) (.string y)
  have HT2 := Lib.hid ht2; have HR2 := Lib.hid hr2
  have L2 := Lib.hid (cd_res hr2 (.slice (some ⟨g, 0, none⟩) ks.length ks.length) y)
  have HF := Lib.hid (And.intro (own_base (own_set2 ho2 (by omega : w.heap.size + 1 < w.heap.size + 3) (.slice (some ⟨g, 0, none⟩) ks.length ks.length) (.string y)) (by omega : w.heap.size ≤ w.heap.size + 3)) (below2 hB2 (by omega : w.heap.size ≤ w.heap.size + 1) (.slice (some ⟨g, 0, none⟩) ks.length ks.length) (.string y)))
  clear ho1 ho2 hb1 hB1 hB2 hx1 hr1 ht1 ht2 hr2 HB HX HR HT HS TK x0 x1 hs
  go_wp2_with fail
  refine bodyPost_ret (v := .agg #[.slice (some ⟨g, 0, none⟩) ks.length ks.length, .string y]) ?_ rfl ⟨_, rfl, HF.out.1, HF.out.2⟩
  rw [results_cell (p := 2) (ty := 26) (by kernel_rfl)]
  have l2 := L2.out
  simp [asAddr, Result.andThen, l2]
end Go.Proofs.Ytnknfmjpkphbpaa
/- A region that draws its order, with loads (guarded ones too) beside calls and memory that is made: those that make memory stand in one forced order; what only reads may come at any time: it is walked in segments: what reads, then one that makes memory, and so on.
   On Derived/OrdersHeld.lean's laws, with a condition on the world that may be sharpened behind each operation that is carried out. -/
namespace Go.Proofs.Ytnknfmjpkphbpaa
open Go
section
variable {P : Program} {ops : Array Oper} {Q : Exit → Act → World → Prop} {md : Region.Mode} {S : World → Prop}

/-- whatever order is picked from here on; behind each operation a sharper condition holds -/
def wpG (P : Program) (md : Region.Mode) (ops : Array Oper) (Q : Exit → Act → World → Prop) : Nat → (World → Prop) → Array Bool → Act → World → Prop
  | 0, _, listed, a, w => Region.ready md ops listed = [] ∧ Q .normal a w
  | fuel + 1, S, listed, a, w =>
    (Region.ready md ops listed = [] → Q .normal a w) ∧
    ∀ i ∈ Region.ready md ops listed, wpOp P ops Q i (fun a' w' => ∃ S' : World → Prop, (∀ x, S' x → S x) ∧ S' w' ∧ wpG P md ops Q fuel S' (listed.setIfInBounds i true) a' w') a w

theorem wpAny_of_G : ∀ (fuel : Nat) (S : World → Prop) (listed : Array Bool) (a : Act) (w : World), wpG P md ops Q fuel S listed a w → wpAny P md ops Q fuel listed a w
  | 0, _, _, _, _, h => h
  | fuel + 1, S, _, _, _, h => ⟨h.1, fun i hi => wpOp_mono (fun a' w' ⟨S', _, _, h'⟩ => wpAny_of_G fuel S' _ a' w' h') (h.2 i hi)⟩

theorem YieldsIf.sharper {S' : World → Prop} {o : Oper} {v : Value} {a : Act} (h : ∀ x, S' x → S x) (hy : YieldsIf P ops S o v a) : YieldsIf P ops S' o v a :=
  hy.imp (fun ⟨hw, hv⟩ => ⟨hw, fun w hs => hv w (h w hs)⟩) id

theorem wpG_first {i : Nat} {oi : Oper} {v : Value} (hi : ops[i]? = some oi) (hsel : ∀ (j : Nat) (o : Oper) cs b, ops[j]? = some o → o.op ≠ .select cs b)
    (hQ : ∀ c a w, Q (.panic c) (a.put oi.dst v) w → Q (.panic c) a w) :
    ∀ (fuel : Nat) (S : World → Prop) (listed : Array Bool) (a : Act) (w : World),
      (∀ j oj, ops[j]? = some oj → j ≠ i → listed.getD j true = false → (∀ e ∈ oj.after, Region.binds md e = true → e.on ≠ i) → oi.apart ops oj = true) →
      i ∈ Region.ready md ops listed → YieldsIf P ops S oi v a → S w →
      wpG P md ops Q fuel S (listed.setIfInBounds i true) (a.put oi.dst v) w → wpG P md ops Q (fuel + 1) S listed a w := by
  intro fuel
  induction fuel with
  | zero =>
    intro S listed a w _ hr hy hS H
    refine ⟨fun h => (by rw [h] at hr; cases hr), fun j hj => ?_⟩
    by_cases hji : j = i
    · subst hji; exact hy.wpOp hi hS ⟨S, fun _ h => h, hS, H⟩
    · have := ready_mono hj hji
      rw [H.1] at this
      cases this
  | succ fuel ih =>
    intro S listed a w hfree hr hy hS H
    refine ⟨fun h => (by rw [h] at hr; cases hr), fun j hj => ?_⟩
    by_cases hji : j = i
    · subst hji; exact hy.wpOp hi hS ⟨S, fun _ h => h, hS, H⟩
    · have h1 := H.2 j (ready_mono hj hji)
      obtain ⟨hjun, oj, hoj, hall⟩ := mem_ready.1 hj
      have hnot : ∀ e ∈ oj.after, Region.binds md e = true → e.on ≠ i := fun e he hb heq => by
        have h1 := hall e he hb
        have h0 := (mem_ready.1 hr).1
        rw [heq] at h1
        rcases Nat.lt_or_ge i listed.size with h' | h'
        · simp [h'] at h0 h1; rw [h0] at h1; cases h1
        · simp [Array.getElem?_eq_none h'] at h1
      have h2 := wpOp_putIf hoj (hfree j oj hoj hji hjun hnot) (fun cs b => hsel i oi cs b hi) (fun cs b => hsel j oj cs b hoj) hQ hy h1
      have hfree' : ∀ k ok, ops[k]? = some ok → k ≠ i → (listed.setIfInBounds j true).getD k true = false →
          (∀ e ∈ ok.after, Region.binds md e = true → e.on ≠ i) → oi.apart ops ok = true := fun k ok hk hki hun hno => by
        refine hfree k ok hk hki ?_ hno
        by_cases hjk : j = k
        · subst hjk; exact hjun
        · rw [getD_set_ne true hjk] at hun; exact hun
      refine wpOp_mono (fun a' w' h3 => ?_) h2
      obtain ⟨hy3, S', hs, hs2, h4⟩ := h3
      refine ⟨S', hs, hs2, ih S' (listed.setIfInBounds j true) a' w' hfree' (ready_mono hr (Ne.symm hji)) (YieldsIf.sharper hs hy3) hs2 ?_⟩
      rw [Array.setIfInBounds_comm _ _ hji]
      exact h4

/-- an operation that hands back a value and nothing else -/
def valueOp : Op → Bool
  | .move _ | .assign _ | .pick _ _ _ | .load _ _ | .binOp _ _ _ _ _ | .unOp _ _ _ | .convert _ _ _ | .slice _ _ _ _ _ | .fieldAddr _ _ _ | .field _ _ _ | .indexAddr _ _ _ | .index _ _ _ | .extract _ _ => true
  | _ => false
theorem value_of_run {α : Type} (s : Sem α) (f : α → Value) (w w' : World) (n : Next) (h : ((do pure (Next.value (f (← s)))) : Sem Next).run P w = .ok n w') : ∃ u, n = .value u := by
  rw [Sem.run_bind] at h
  cases hs : s.run P w with
  | ok v w1 =>
    rw [hs] at h
    simp only [Result.andThen, Sem.run_pure, Result.ok.injEq] at h
    exact ⟨_, h.1.symm⟩
  | halt x w1 => rw [hs] at h; simp [Result.andThen] at h
theorem valueOp_spec {o : Oper} (h : valueOp o.op = true) (ρ : Operand → Value) (w w' : World) (n : Next) (hr : (execOp ρ o).run P w = .ok n w') : ∃ u, n = .value u := by
  unfold execOp at hr
  cases ho : o.op <;> rw [ho] at h hr <;> simp only [valueOp] at h <;> try (exact absurd h Bool.false_ne_true)
  all_goals dsimp only at hr
  all_goals first
    | (simp only [Sem.run_pure, Result.ok.injEq] at hr; exact ⟨_, hr.1.symm⟩)
    | exact value_of_run _ (fun v => v) w w' n hr
    | exact value_of_run _ _ w w' n hr
theorem yields_of_quiet {o : Oper} {a : Act} {v : Value} (hv : valueOp o.op = true) (hw : Region.wanted o (yielded ops a.tmps) = true) (h : ∀ w, S w → o.quietAt P a S w v) : YieldsIf P ops S o v a := by
  refine .inl ⟨hw, fun w hs => ?_⟩
  have h1 := h w hs
  unfold Oper.quietAt at h1
  cases hr : (execOp a.eval o).run P w with
  | ok n w' =>
    obtain ⟨u, rfl⟩ := valueOp_spec hv a.eval w w' n hr
    rw [hr] at h1
    simp only [Oper.quietUpon] at h1
    obtain ⟨rfl, rfl⟩ := h1
    rfl
  | halt x w' => rw [hr] at h1; exact absurd h1 (by simp [Oper.quietUpon])

/-- the takes of a segment, in the order of the text -/
def takesB (md : Region.Mode) (l : List Oper) : List Bool → Nat → Array Bool → Bool
  | true :: m, i, listed => (match l[i]? with | some o => valueOp o.op | none => false) && Region.free md l.toArray listed i && (Region.ready md l.toArray listed).contains i && takesB md l m (i + 1) (listed.setIfInBounds i true)
  | false :: m, i, listed => takesB md l m (i + 1) listed
  | [], _, _ => true
def takenL : List Bool → Nat → Array Bool → Array Bool
  | true :: m, i, listed => takenL m (i + 1) (listed.setIfInBounds i true)
  | false :: m, i, listed => takenL m (i + 1) listed
  | [], _, listed => listed
def countT : List Bool → Nat
  | true :: m => countT m + 1
  | false :: m => countT m
  | [] => 0
def segsB (md : Region.Mode) (l : List Oper) : List (List Bool × Nat) → List Bool → Nat → Array Bool → Bool
  | [], fm, fuel, listed => decide (countT fm ≤ fuel) && decide (fm.length ≤ l.length) && takesB md l fm 0 listed && decide (Region.ready md l.toArray (takenL fm 0 listed) = [])
  | (m, i) :: r, fm, fuel, listed => decide (countT m + 1 ≤ fuel) && decide (m.length ≤ l.length) && takesB md l m 0 listed && decide (Region.ready md l.toArray (takenL m 0 listed) = [i]) &&
      segsB md l r fm (fuel - (countT m + 1)) ((takenL m 0 listed).setIfInBounds i true)

/-- the walk, segment by segment -/
def wpSegs (P : Program) (l : List Oper) (Q : Exit → Act → World → Prop) : List (List Bool × Nat) → List Bool → (World → Prop) → Act → World → Prop
  | [], fm, S, a, w => wpQuiet P l.toArray S (fun a' => Q .normal a' w) (maskRows fm l) a
  | (m, i) :: r, fm, S, a, w => wpQuiet P l.toArray S (fun a' => wpOp P l.toArray Q i (fun a'' w'' => ∃ S' : World → Prop, (∀ x, S' x → S x) ∧ S' w'' ∧ wpSegs P l Q r fm S' a'' w'') a' w) (maskRows m l) a

theorem takes_G {l : List Oper} (hs : Region.noSelect l.toArray = true) (hQ : ∀ c a d v w, Q (.panic c) (Act.put a d v) w → Q (.panic c) a w) {S : World → Prop} {w : World} (hS : S w) {R : Act → Prop} :
    ∀ (m : List Bool) (i fuel : Nat) (listed : Array Bool) (a : Act), takesB md l m i listed = true → m.length + i ≤ l.length →
      (∀ a', R a' → wpG P md l.toArray Q fuel S (takenL m i listed) a' w) → wpQuiet P l.toArray S R (maskRows m (l.drop i)) a → wpG P md l.toArray Q (fuel + countT m) S listed a w
  | [], i, fuel, listed, a, _, _, hk, h => hk a (by simpa [maskRows, wpQuiet] using h)
  | false :: m, i, fuel, listed, a, hb, hl, hk, h => by
    have hlt : i < l.length := by simp only [List.length_cons] at hl; omega
    rw [List.drop_eq_getElem_cons hlt] at h
    exact takes_G hs hQ hS m (i + 1) fuel listed a hb (by simp only [List.length_cons] at hl; omega) hk h
  | true :: m, i, fuel, listed, a, hb, hl, hk, h => by
    have hlt : i < l.length := by simp only [List.length_cons] at hl; omega
    rw [List.drop_eq_getElem_cons hlt] at h
    simp only [takesB, Bool.and_eq_true] at hb
    obtain ⟨⟨⟨hv, hf⟩, hr⟩, hb⟩ := hb
    have ho : l.toArray[i]? = some l[i] := by simp [hlt]
    rw [show l[i]? = some l[i] from by simp [hlt]] at hv
    dsimp only at hv
    simp only [maskRows, wpQuiet] at h
    have hin : i ∈ Region.ready md l.toArray listed := by simpa using hr
    show wpG P md l.toArray Q (fuel + countT m + 1) S listed a w
    by_cases hw : Region.wanted l[i] (yielded l.toArray a.tmps) = true
    · rw [if_pos hw] at h
      obtain ⟨v, h1, h2⟩ := h
      exact wpG_first ho (Region.noSelect_spec hs) (fun c a w => hQ c a _ _ w) _ S listed a w (Region.free_spec ho hf) hin (yields_of_quiet hv hw h1) hS
        (takes_G hs hQ hS m (i + 1) fuel _ _ hb (by simp only [List.length_cons] at hl; omega) hk h2)
    · rw [if_neg hw] at h
      exact wpG_first ho (Region.noSelect_spec hs) (fun c a w => hQ c a _ _ w) _ S listed a w (Region.free_spec ho hf) hin (.inr ⟨by simpa using hw, rfl⟩) hS
        (takes_G hs hQ hS m (i + 1) fuel _ _ hb (by simp only [List.length_cons] at hl; omega) hk h)
theorem wpG_done {listed : Array Bool} {a : Act} {w : World} (hr : Region.ready md ops listed = []) (h : Q .normal a w) : ∀ fuel, wpG P md ops Q fuel S listed a w
  | 0 => ⟨hr, h⟩
  | _ + 1 => ⟨fun _ => h, by rw [hr]; simp⟩
theorem segs_G {l : List Oper} (hs : Region.noSelect l.toArray = true) (hQ : ∀ c a d v w, Q (.panic c) (Act.put a d v) w → Q (.panic c) a w) (fm : List Bool) :
    ∀ (r : List (List Bool × Nat)) (fuel : Nat) (S : World → Prop) (listed : Array Bool) (a : Act) (w : World), segsB md l r fm fuel listed = true → S w → wpSegs P l Q r fm S a w → wpG P md l.toArray Q fuel S listed a w
  | [], fuel, S, listed, a, w, hb, hS, h => by
    simp only [segsB, Bool.and_eq_true, decide_eq_true_eq] at hb
    obtain ⟨⟨⟨h1, h2⟩, h3⟩, h4⟩ := hb
    have := takes_G (P := P) (md := md) hs hQ hS (R := fun a' => Q .normal a' w) fm 0 (fuel - countT fm) listed a h3 (by omega) (fun a' hq => wpG_done h4 hq _) (by simpa [wpSegs] using h)
    rwa [Nat.sub_add_cancel h1] at this
  | (m, i) :: r, fuel, S, listed, a, w, hb, hS, h => by
    simp only [segsB, Bool.and_eq_true, decide_eq_true_eq] at hb
    obtain ⟨⟨⟨⟨h1, h2⟩, h3⟩, h4⟩, h5⟩ := hb
    have hk : ∀ a', wpOp P l.toArray Q i (fun a'' w'' => ∃ S' : World → Prop, (∀ x, S' x → S x) ∧ S' w'' ∧ wpSegs P l Q r fm S' a'' w'') a' w → wpG P md l.toArray Q (fuel - (countT m + 1) + 1) S (takenL m 0 listed) a' w := by
      intro a' hq
      refine ⟨fun h0 => (by rw [h4] at h0; cases h0), fun j hj => ?_⟩
      rw [h4] at hj
      obtain rfl := List.mem_singleton.1 hj
      exact wpOp_mono (fun a'' w'' ⟨S', hs', hs2, h'⟩ => ⟨S', hs', hs2, segs_G hs hQ fm r _ S' _ a'' w'' h5 hs2 h'⟩) hq
    have := takes_G (P := P) (md := md) hs hQ hS m 0 (fuel - (countT m + 1) + 1) listed a h3 (by omega) hk (by simpa [wpSegs] using h)
    rwa [show fuel - (countT m + 1) + 1 + countT m = fuel by omega] at this
/-- the region: in segments -/
theorem wp_region_segs {id : Nat} {a : Act} {w : World} {l : List Oper} (segs : List (List Bool × Nat)) (fm : List Bool) (S : World → Prop) (hm : P.follows .mixedOrders = true) (hs : Region.noSelect l.toArray = true)
    (hb : segsB .any l segs fm l.length (Array.replicate l.length false) = true) (hQ : ∀ c a d v w, Q (.panic c) (Act.put a d v) w → Q (.panic c) a w) (hS : S w.drew) (h : wpSegs P l Q segs fm S a w.drew) :
    (Code.region id l.toArray true).wp P Q a w :=
  wp_region_any hm (wpAny_of_G _ _ _ _ _ (by simpa using segs_G hs hQ fm segs l.length S _ a _ hb hS h))
/-- one that is carried out: what must be shown of it -/
theorem seg_run {l : List Oper} {r : List (List Bool × Nat)} {fm : List Bool} {i : Nat} {o : Oper} {a : Act} {w : World} (ho : l.toArray[i]? = some o) (hw : Region.wanted o (yielded l.toArray a.tmps) = true)
    (h : ∀ K : Act → World → Prop, (∀ a' w', (∃ S' : World → Prop, (∀ x, S' x → S x) ∧ S' w' ∧ wpSegs P l Q r fm S' a' w') → K a' w') → o.wp P a w K Q) :
    wpOp P l.toArray Q i (fun a'' w'' => ∃ S' : World → Prop, (∀ x, S' x → S x) ∧ S' w'' ∧ wpSegs P l Q r fm S' a'' w'') a w := by
  unfold wpOp
  simp only [ho, hw, if_true]
  exact .inl (h _ fun _ _ h => h)
theorem seg_skip {l : List Oper} {r : List (List Bool × Nat)} {fm : List Bool} {i : Nat} {o : Oper} {a : Act} {w : World} (ho : l.toArray[i]? = some o) (hw : Region.wanted o (yielded l.toArray a.tmps) = false) (hS : S w)
    (h : wpSegs P l Q r fm S (a.put o.dst undef) w) :
    wpOp P l.toArray Q i (fun a'' w'' => ∃ S' : World → Prop, (∀ x, S' x → S x) ∧ S' w'' ∧ wpSegs P l Q r fm S' a'' w'') a w := by
  unfold wpOp
  simp only [ho, hw, Bool.false_eq_true, if_false]
  exact ⟨S, fun _ h => h, hS, h⟩
end
end Go.Proofs.Ytnknfmjpkphbpaa
/- A region that draws its order, in segments, where what makes memory may stand in several orders: a tree of segments. -/
namespace Go.Proofs.Ytnknfmjpkphbpaa
open Go
section
variable {P : Program} {Q : Exit → Act → World → Prop} {md : Region.Mode} {S : World → Prop}
def segtB (md : Region.Mode) (l : List Oper) (m : List Bool) (rd : List Nat) (fuel fuel' : Nat) (listed : Array Bool) : Bool :=
  decide (fuel = fuel' + 1 + countT m) && decide (m.length ≤ l.length) && takesB md l m 0 listed && decide (Region.ready md l.toArray (takenL m 0 listed) = rd) && !rd.isEmpty
/-- what reads is taken; then one after another of what is ready is tried -/
theorem wpG_seg {l : List Oper} (m : List Bool) (rd : List Nat) (fuel' : Nat) {fuel : Nat} {listed : Array Bool} {a : Act} {w : World} (hs : Region.noSelect l.toArray = true)
    (hQ : ∀ c a d v w, Q (.panic c) (Act.put a d v) w → Q (.panic c) a w) (hb : segtB md l m rd fuel fuel' listed = true) (hS : S w)
    (h : wpQuiet P l.toArray S (fun a' => ∀ i ∈ rd, wpOp P l.toArray Q i (fun a'' w'' => ∃ S' : World → Prop, (∀ x, S' x → S x) ∧ S' w'' ∧ wpG P md l.toArray Q fuel' S' ((takenL m 0 listed).setIfInBounds i true) a'' w'') a' w) (maskRows m l) a) :
    wpG P md l.toArray Q fuel S listed a w := by
  simp only [segtB, Bool.and_eq_true, decide_eq_true_eq, Bool.not_eq_true'] at hb
  obtain ⟨⟨⟨⟨h1, h2⟩, h3⟩, h4⟩, h5⟩ := hb
  subst h1
  refine takes_G (P := P) (md := md) hs hQ hS (R := fun a' => ∀ i ∈ rd, wpOp P l.toArray Q i (fun a'' w'' => ∃ S' : World → Prop, (∀ x, S' x → S x) ∧ S' w'' ∧ wpG P md l.toArray Q fuel' S' ((takenL m 0 listed).setIfInBounds i true) a'' w'') a' w) m 0 (fuel' + 1) listed a h3 (by omega) (fun a' hq => ?_) (by simpa using h)
  refine ⟨fun h0 => (by rw [h4] at h0; rw [h0] at h5; cases h5), fun j hj => ?_⟩
  rw [h4] at hj
  exact hq j hj
def segeB (md : Region.Mode) (l : List Oper) (m : List Bool) (fuel : Nat) (listed : Array Bool) : Bool :=
  decide (countT m ≤ fuel) && decide (m.length ≤ l.length) && takesB md l m 0 listed && decide (Region.ready md l.toArray (takenL m 0 listed) = [])
theorem wpG_end {l : List Oper} (m : List Bool) {fuel : Nat} {listed : Array Bool} {a : Act} {w : World} (hs : Region.noSelect l.toArray = true)
    (hQ : ∀ c a d v w, Q (.panic c) (Act.put a d v) w → Q (.panic c) a w) (hb : segeB md l m fuel listed = true) (hS : S w)
    (h : wpQuiet P l.toArray S (fun a' => Q .normal a' w) (maskRows m l) a) : wpG P md l.toArray Q fuel S listed a w := by
  simp only [segeB, Bool.and_eq_true, decide_eq_true_eq] at hb
  obtain ⟨⟨⟨h1, h2⟩, h3⟩, h4⟩ := hb
  have := takes_G (P := P) (md := md) hs hQ hS (R := fun a' => Q .normal a' w) m 0 (fuel - countT m) listed a h3 (by omega) (fun a' hq => wpG_done h4 hq _) (by simpa using h)
  rwa [Nat.sub_add_cancel h1] at this
theorem wp_region_G {id : Nat} {a : Act} {w : World} {l : List Oper} (S : World → Prop) (hm : P.follows .mixedOrders = true) (h : wpG P .any l.toArray Q l.length S (Array.replicate l.length false) a w.drew) :
    (Code.region id l.toArray true).wp P Q a w := wp_region_any hm (wpAny_of_G _ _ _ _ _ (by simpa using h))
/-- the same in a round of a range over a function, at the wide fence -/
theorem wpIn_region_G {id l0 k : Nat} {a : Act} {w : World} {l : List Oper} (S : World → Prop) (hm : P.follows .mixedOrders = true) (hd : noDefer l.toArray = true) (h : wpG P .any l.toArray (OnlyNormal Q) l.length S (Array.replicate l.length false) a w.drew) :
    (Code.region id l.toArray true).wpIn (Fence.wide.inRound l0) k P Q a w := by
  refine wpIn_region_draw fun t => wpOps_in hd _ _ _ ?_
  simp only [Region.schedule, hm, Bool.true_or, if_true]
  exact wpAny_sound l.toArray.size t _ a _ (wpAny_of_G _ _ _ _ _ (by simpa using h))
/-- one that is carried out -/
theorem segt_run {l : List Oper} {fuel : Nat} {listed : Array Bool} {i : Nat} {o : Oper} {a : Act} {w : World} (ho : l.toArray[i]? = some o) (hw : Region.wanted o (yielded l.toArray a.tmps) = true)
    (h : ∀ K : Act → World → Prop, (∀ a' w', (∃ S' : World → Prop, (∀ x, S' x → S x) ∧ S' w' ∧ wpG P md l.toArray Q fuel S' listed a' w') → K a' w') → o.wp P a w K Q) :
    wpOp P l.toArray Q i (fun a'' w'' => ∃ S' : World → Prop, (∀ x, S' x → S x) ∧ S' w'' ∧ wpG P md l.toArray Q fuel S' listed a'' w'') a w := by
  unfold wpOp
  simp only [ho, hw, if_true]
  exact .inl (h _ fun _ _ h => h)
end
end Go.Proofs.Ytnknfmjpkphbpaa
/- Two words, put together: what is known on the way. -/
namespace Go.Proofs.Ytnknfmjpkphbpaa
open Go.ChangeShapes Go.WideShapes Go.ChangeAt Go.RowKit Go.BigFrame
set_option linter.unusedVariables false

/-- what is known of a world in which two words are put together -/
structure CbC (w W : World) (va : Value) (ya : ByteArray) (vb : Value) (yb : ByteArray) : Prop where
  below : Below w.heap.size w W
  size : w.heap.size + 3 ≤ W.heap.size
  rowa : W.heap[w.heap.size]? = some (.cells #[va, .string ya] 26)
  rowb : W.heap[w.heap.size + 1]? = some (.cells #[vb, .string yb] 26)
  res : W.heap[w.heap.size + 2]? = some (.cells #[.slice none 0 0, .string ⟨#[]⟩] 26)
theorem cbc_new (w : World) (va : Value) (ya : ByteArray) (vb : Value) (yb : ByteArray) : CbC w (((w.alloc (.cells #[va, .string ya] 26)).alloc (.cells #[vb, .string yb] 26)).alloc (.cells #[.slice none 0 0, .string ⟨#[]⟩] 26)) va ya vb yb := by
  have hb1 := (Below.refl w.heap.size w).alloc (Nat.le_refl _) (.cells #[va, .string ya] 26)
  have hb2 := hb1.alloc hb1.size (.cells #[vb, .string yb] 26)
  have e1 : (w.alloc (.cells #[va, .string ya] 26)).heap.size = w.heap.size + 1 := by simp
  have e2 : ((w.alloc (.cells #[va, .string ya] 26)).alloc (.cells #[vb, .string yb] 26)).heap.size = w.heap.size + 2 := by simp
  have r2 := heap_alloc_new (w.alloc (.cells #[va, .string ya] 26)) (.cells #[vb, .string yb] 26)
  rw [e1] at r2
  have r3 := heap_alloc_new ((w.alloc (.cells #[va, .string ya] 26)).alloc (.cells #[vb, .string yb] 26)) (.cells #[.slice none 0 0, .string ⟨#[]⟩] 26)
  rw [e2] at r3
  exact ⟨hb2.alloc hb2.size _, by simp, (Below.heap_alloc _ _ w.heap.size (by simp; omega)).trans ((Below.heap_alloc _ _ w.heap.size (by simp)).trans (heap_alloc_new w _)), (Below.heap_alloc _ _ (w.heap.size + 1) (by simp)).trans r2, r3⟩
theorem CbC.next {w W W' : World} {va : Value} {ya : ByteArray} {vb : Value} {yb : ByteArray} (h : CbC w W va ya vb yb) (hb : Below W.heap.size W W') : CbC w W' va ya vb yb := by
  have hs := h.size
  exact ⟨h.below.trans (hb.mono h.below.size), Nat.le_trans hs hb.size, (hb.block _ (by omega)).trans h.rowa, (hb.block _ (by omega)).trans h.rowb, (hb.block _ (by omega)).trans h.res⟩
theorem row_set2 {W : World} {b b' : Nat} {o : Obj} (h : W.heap[b']? = some o) (hne : b' ≠ b) (p q : Value) : ((W.setCell ⟨b, 0, none⟩ p).setCell ⟨b, 1, none⟩ q).heap[b']? = some o := by
  rw [Below.heap_setCell _ _ _ _ hne, Below.heap_setCell _ _ _ _ hne]; exact h
theorem results_cell_slot {fn : Func} {p u : Tmp} {ty : TypeId} (h : fn.results = #[.cell p ty, .tmp u]) (tmps : Array Value) (P : Program) (w : World) :
    (results fn tmps).run P w = ((asAddr (tmps.getD p undef)).run P w).andThen fun a w₁ => ((loadVar ty a).run P w₁).andThen fun v w₂ => .ok (.tuple #[v, tmps.getD u undef]) w₂ := by
  simp only [results, h]
  simp [Sem.run_bind, Result.andThen]
theorem size_le_alloc (w : World) (o : Obj) : w.heap.size ≤ (w.alloc o).heap.size := by simp
theorem size_set2 (w : World) (b : Nat) (p q : Value) : ((w.setCell ⟨b, 0, none⟩ p).setCell ⟨b, 1, none⟩ q).heap.size = w.heap.size := by simp [World.setCell]
theorem mergeV_ln (both : Bool) (a b : List K2) : (mergeV both a b).length ≤ a.length + b.length := by
  unfold mergeV
  split
  · exact mergeL_len both a b
  · simp
theorem comb_noA {a b : C2} (h : codeOkB a = false) : combM a b = (blankC, false) := by
  unfold combM; rw [if_neg]; rintro ⟨h1, _⟩; rw [h] at h1; cases h1
theorem comb_noB {a b : C2} (h : codeOkB b = false) : combM a b = (blankC, false) := by
  unfold combM; rw [if_neg]; rintro ⟨_, h1, _⟩; rw [h] at h1; cases h1
theorem comb_noX {a b : C2} (h : codeOkB (mixC a b) = false) : combM a b = (blankC, false) := by
  unfold combM; rw [if_neg]; rintro ⟨_, _, h1⟩; rw [h] at h1; cases h1
theorem comb_yes {a b : C2} (h1 : codeOkB a = true) (h2 : codeOkB b = true) (h : codeOkB (mixC a b) = true) : combM a b = (mixC a b, true) := by
  unfold combM; rw [if_pos ⟨h1, h2, h⟩]
end Go.Proofs.Ytnknfmjpkphbpaa
/- Words in the laws: what stands apart from what. -/
namespace Go.Proofs.Ytnknfmjpkphbpaa
open Go.ChangeShapes Go.WideShapes Go.ChangeAt Go.RowKit Go.BigFrame
set_option linter.unusedVariables false

theorem own_ne_row {w w' : World} {e : TypeId} {size n b : Nat} {v : Value} {xs : List Value} (h : w'.ownsRow w.heap.size e size v n xs) (hb : b < w.heap.size) : v.ownBlock ≠ some b :=
  fun e => absurd (h.lt _ e).1 (Nat.not_le.2 hb)
theorem own_ne_new {w : World} {base : Nat} {e : TypeId} {size n : Nat} {v : Value} {xs : List Value} (h : w.ownsRow base e size v n xs) : v.ownBlock ≠ some w.heap.size :=
  fun e => absurd (h.lt _ e).2 (Nat.lt_irrefl _)
theorem own_ne {w w' : World} {b1 : Nat} {e1 e2 : TypeId} {s1 s2 n1 n2 : Nat} {u v : Value} {xs ys : List Value} (hu : w.ownsRow b1 e1 s1 u n1 xs) (hv : w'.ownsRow w.heap.size e2 s2 v n2 ys) : u.ownBlock = none ∨ u.ownBlock ≠ v.ownBlock := by
  cases hq : u.ownBlock with
  | none => exact .inl rfl
  | some b =>
    refine .inr fun e => ?_
    have h1 := (hu.lt b hq).2
    have h2 := (hv.lt b e.symm).1
    omega
theorem own_ne' {w w' : World} {b1 : Nat} {e1 e2 : TypeId} {s1 s2 n1 n2 : Nat} {u v : Value} {xs ys : List Value} (hu : w.ownsRow b1 e1 s1 u n1 xs) (hv : w'.ownsRow w.heap.size e2 s2 v n2 ys) : v.ownBlock = none ∨ v.ownBlock ≠ u.ownBlock := by
  rcases own_ne hu hv with h | h
  · cases hq : v.ownBlock with
    | none => exact .inl rfl
    | some b => exact .inr (by rw [h]; simp)
  · exact .inr fun e => h e.symm
theorem szC_cases (left : Int) (n m : Nat) (hl : 0 ≤ left) : szC left n m < 0 ∨ (¬ szC left n m < 0 ∧ 0 ≤ szC left n m ∧ szC left n m ≤ left ∧ (n : Int) ≤ left ∧ (m : Int) ≤ left) := by
  unfold szC
  split
  · exact .inl (by omega)
  · split
    · exact .inl (by omega)
    · exact .inr (by omega)
theorem eqcode_self (va vb : Value) (A : List K2) (y : ByteArray) (w : World) (ha : keysAt w va A) (hb : keysAt w vb A) (hs : A.length ≤ 4000000) :
    Calls Try.prog 33 #[.agg #[va, .string y], .agg #[vb, .string y]] w fun e w' => e = .returned (.bool true) ∧ Below w.heap.size w w' := by
  have h := eqcode_any va A y vb A y w ha hb hs hs
  simpa using h
theorem samecode_self (va vb : Value) (A : List K2) (y : ByteArray) (w : World) (ha : keysAt w va A) (hb : keysAt w vb A) (hs : A.length ≤ 4000000) :
    Calls Try.prog 16 #[.agg #[va, .string y], .agg #[vb, .string y]] w fun e w' => e = .returned (.bool true) ∧ Below w.heap.size w w' := by
  have h := samecode_any va A y vb A y w ha hb hs hs
  simpa using h
theorem lcd_load {w' : World} {b : Nat} {v : Value} {y : ByteArray} (h : w'.heap[b]? = some (.cells #[v, .string y] 50)) :
    (loadVar 50 ⟨b, 0, none⟩).run Try.prog w' = .ok (.agg #[v, .string y]) w' := by
  obtain ⟨h0, h1, -, -⟩ := row2_of h
  refine run_loadVar_mid w' b 0 50 [v, .string y] _ (fun j u hj => ?_) Try.underlying50 rfl (by kernel_rfl)
  have hj2 : j < 2 := by have := (List.getElem?_eq_some_iff.1 hj).1; simpa using this
  rcases (by omega : j = 0 ∨ j = 1) with rfl | rfl
  · simpa using h0.trans (by simpa using hj)
  · simpa using h1.trans (by simpa using hj)
end Go.Proofs.Ytnknfmjpkphbpaa
/- Keys in the laws: lists marked, and held. -/
namespace Go.Proofs.Ytnknfmjpkphbpaa
open Go.ChangeShapes Go.WideShapes Go.ChangeAt Go.RowKit Go.BigFrame
set_option linter.unusedVariables false

def marked (n : Nat) (m : Int) : List K2 := (List.range n).map fun (i : Nat) => (m + 2 * (i : Int), m + 2 * (i : Int) + 1)
theorem marked_len (n : Nat) (m : Int) : (marked n m).length = n := by simp [marked]
theorem marked_get (n : Nat) (m : Int) (i : Nat) (h : i < n) : (marked n m).getD i (0, 0) = (m + 2 * (i : Int), m + 2 * (i : Int) + 1) := by
  simp [marked, List.getD, h]
theorem marked_succ (k : Nat) (m : Int) : marked (k + 1) m = marked k m ++ [(m + 2 * (k : Int), m + 2 * (k : Int) + 1)] := by
  simp [marked, List.range_succ]
theorem set_mark (k : Nat) (m : Int) (u1 u2 : Value) (rest : List Value) :
    ((keyCells (marked k m) ++ u1 :: u2 :: rest).set (k * 2) (.int .i64 (m + 2 * (k : Int)))).set (k * 2 + 1) (.int .i64 (m + 2 * (k : Int) + 1)) = keyCells (marked (k + 1) m) ++ rest := by
  have hl := keyCells_len (marked k m)
  rw [marked_len] at hl
  rw [marked_succ, keyCells_snoc]
  rw [List.set_append_right _ _ (by omega), hl, Nat.sub_self, List.set_cons_zero, List.set_append_right _ _ (by omega), hl, show k * 2 + 1 - k * 2 = 1 by omega]
  simp
set_option maxRecDepth 100000 in
set_option maxHeartbeats 1000000 in
theorem markkeys_any (base : Nat) (v : Value) (n : Nat) (xs : List Value) (m : Int) (w : World) (h : w.ownsRow base 41 2 v n xs) (hm : 0 ≤ m ∧ m ≤ 1000000000) (hn : n ≤ 4000000) (hb0 : base ≤ w.heap.size) :
    Calls Try.prog 72 #[v, .int .i64 m] w fun e w' => e = .returned (.int .i64 (m + 2 * (n : Int))) ∧ w'.ownsRow base 41 2 v n (keyCells (marked n m)) ∧ w.grownBy w' v.ownBlock := by
  rcases ownsRowK_shape h with ⟨rfl, rfl⟩ | ⟨g, cap, rfl, hnc, hcm, hbg, hgs⟩
  · have e0 : m + 2 * ((0 : Nat) : Int) = m := by omega
    rw [e0]
    have ho : w.ownsRow base 41 2 (.slice none 0 0) 0 (keyCells (marked 0 m)) := ⟨by simp [marked, keyCells], .inl ⟨rfl, rfl⟩⟩
    go_enter Try.func72, Try.ntmps72
    go_wp2
    go_loopw [1, 5] (fun c i wr => c = .int .i64 m ∧ i = .int .i64 0 ∧ wr = w) (fun _ _ _ => 0)
    case atStart => exact ⟨rfl, rfl, rfl⟩
    case round =>
      obtain ⟨rfl, rfl, rfl⟩ := hrel
      go_wp2
      go_ret
      exact ⟨rfl, ho, World.grownBy.refl _ _⟩
  · have hxl := h.1
    go_enter Try.func72, Try.ntmps72
    go_wp2
    go_loopw [1, 5] (fun c i wr => ∃ (k : Nat) (rest : List Value), k ≤ n ∧ i = .int .i64 k ∧ c = .int .i64 (m + 2 * (k : Int)) ∧ wr.ownsRow base 41 2 (.slice (some ⟨g, 0, none⟩) n cap) n (keyCells (marked k m) ++ rest) ∧ w.grownBy wr (some g))
      (fun _ i _ => n - (intOf i).toNat)
    case atStart => exact ⟨0, xs, Nat.zero_le _, rfl, by simp, by simpa [marked, keyCells] using h, World.grownBy.refl _ _⟩
    case round =>
      obtain ⟨k, rest, hk, rfl, rfl, hown, hgr⟩ := hrel
      clear h
      by_cases hlt : k < n
      · have z0 : (0 : Int) ≤ (k : Int) := by omega
        have z1 : (k : Int) < (n : Int) := by omega
        have hkl := keyCells_len (marked k m)
        rw [marked_len] at hkl
        have hrl : rest.length = (n - k) * 2 := by
          have := hown.1
          rw [List.length_append, hkl] at this
          omega
        obtain ⟨u1, u2, rest2, rfl⟩ : ∃ u1 u2 r, rest = u1 :: u2 :: r := by
          match rest, hrl with
          | [], h => simp at h; omega
          | [_], h => simp at h; omega
          | a :: b :: r, _ => exact ⟨a, b, r, rfl⟩
        obtain ⟨s1, s2⟩ := own_cell hown (k * 2) (by omega)
        have st1 := hown.stored (k * 2) (.int .i64 (m + 2 * (k : Int)))
        obtain ⟨s3, s4⟩ := own_cell st1.1 (k * 2 + 1) (by omega)
        have st2 := st1.1.stored (k * 2 + 1) (.int .i64 (m + 2 * (k : Int) + 1))
        rw [set_mark] at st2
        have R := Lib.hid (And.intro st2.1 (grown_trans hgr (grown_trans st1.2 st2.2)))
        clear st1 st2 hown hgr hrl hkl
        go_wp2
        exact ⟨⟨k + 1, rest2, by omega, by go_num, by go_num, R.out.1, R.out.2⟩, by simp [intOf]; omega⟩
      · obtain rfl : k = n := by omega
        have hr0 : rest = [] := by
          have h1 := hown.1
          rw [List.length_append, keyCells_len, marked_len] at h1
          exact List.eq_nil_of_length_eq_zero (by omega)
        subst hr0
        rw [List.append_nil] at hown
        go_wp2
        go_ret
        exact ⟨rfl, hown, hgr⟩
set_option maxRecDepth 100000 in
set_option maxHeartbeats 1000000 in
theorem heldkeys_any (v : Value) (n : Nat) (m : Int) (w : World) (h : keysAt w v (marked n m)) (hm : 0 ≤ m ∧ m ≤ 1000000000) (hn : n ≤ 4000000) :
    Calls Try.prog 73 #[v, .int .i64 m] w fun e w' => e = .returned (.int .i64 (m + 2 * (n : Int))) ∧ w' = w := by
  obtain ⟨a, cap, rfl, hcap, hcells⟩ := h
  rw [marked_len] at hcap hcells ⊢
  go_enter Try.func73, Try.ntmps73
  go_wp2
  go_loopw [1, 5] (fun c i wr => ∃ k : Nat, k ≤ n ∧ i = .int .i64 k ∧ c = .int .i64 (m + 2 * (k : Int)) ∧ wr = w) (fun _ i _ => n - (intOf i).toNat)
  case atStart => exact ⟨0, Nat.zero_le _, rfl, by simp, rfl⟩
  case round =>
    obtain ⟨k, hk, rfl, rfl, rfl⟩ := hrel
    by_cases hlt : k < n
    · obtain ⟨g, off, rfl, hg, hcs⟩ := hcells.resolve_left (by omega)
      have z0 : (0 : Int) ≤ (k : Int) := by omega
      have z1 : (k : Int) < (n : Int) := by omega
      have hc := hcs k hlt
      rw [marked_get n m k hlt] at hc
      obtain ⟨c1, c2⟩ := hc
      clear hcs hcells
      go_wp2
      exact ⟨⟨k + 1, by omega, by go_num, by go_num, trivial⟩, by simp [intOf]; omega⟩
    · obtain rfl : k = n := by omega
      go_wp2
      go_ret
      exact ⟨rfl, rfl⟩
end Go.Proofs.Ytnknfmjpkphbpaa
/- Words of several readings in the laws: marked, held. -/
namespace Go.Proofs.Ytnknfmjpkphbpaa
open Go.ChangeShapes Go.WideShapes Go.ChangeAt Go.RowKit Go.BigFrame
set_option linter.unusedVariables false

set_option maxRecDepth 100000 in
set_option maxHeartbeats 1000000 in
theorem markcode_any (base : Nat) (v : Value) (n : Nat) (xs : List Value) (y : ByteArray) (m : Int) (w : World) (h : w.ownsRow base 41 2 v n xs) (hm : 0 ≤ m ∧ m ≤ 1000000000) (hn : n ≤ 4000000) (hb0 : base ≤ w.heap.size) :
    Calls Try.prog 34 #[.agg #[v, .string y], .int .i64 m] w fun e w' => e = .returned (.int .i64 (m + 2 * (n : Int))) ∧ w'.ownsRow base 41 2 v n (keyCells (marked n m)) ∧ w.grownBy w' v.ownBlock := by
  have hg0 : w.grownBy (w.alloc (.cells #[v, .string y] 26)) v.ownBlock := grown_of_below' ((Below.refl w.heap.size w).alloc (Nat.le_refl _) _) _
  have HG := Lib.hid hg0
  have MK := Lib.hid (markkeys_any base v n xs m _ (h.alloc (.cells #[v, .string y] 26)) hm hn (by simp; omega))
  obtain ⟨x0, x1, -, -⟩ := row2_of (heap_alloc_new w (.cells #[v, .string y] 26))
  clear hg0
  go_enter Try.func34, Try.ntmps34
  go_wp2_with fail
  generalize w.alloc (.cells #[v, .string y] 26) = W at *
  refine MK.out.mono ?_
  rintro e w1 ⟨rfl, ho1, hg1⟩
  have HF := Lib.hid (And.intro ho1 (grownT HG.out hg1))
  clear ho1 hg1 MK HG x0 x1
  go_wp2
  go_ret
  exact ⟨rfl, HF.out.1, HF.out.2⟩
set_option maxRecDepth 100000 in
set_option maxHeartbeats 1000000 in
theorem heldcode_any (v : Value) (n : Nat) (y : ByteArray) (m : Int) (w : World) (h : keysAt w v (marked n m)) (hm : 0 ≤ m ∧ m ≤ 1000000000) (hn : n ≤ 4000000) :
    Calls Try.prog 35 #[.agg #[v, .string y], .int .i64 m] w fun e w' => e = .returned (.int .i64 (m + 2 * (n : Int))) ∧ Below w.heap.size w w' := by
  have hb := (Below.refl w.heap.size w).alloc (Nat.le_refl _) (.cells #[v, .string y] 26)
  have HB := Lib.hid hb
  have HK := Lib.hid (heldkeys_any v n m _ (keysAt_below h hb) hm hn)
  obtain ⟨x0, x1, -, -⟩ := row2_of (heap_alloc_new w (.cells #[v, .string y] 26))
  have e1 : IntKind.i64.wrap (m + 2 * (n : Int)) = m + 2 * (n : Int) := IntWalk.i64_in _ (by omega)
  have hpos : ¬ m + 2 * (n : Int) < 0 := by omega
  clear hb h
  go_enter Try.func35, Try.ntmps35
  go_wp2_with fail
  generalize w.alloc (.cells #[v, .string y] 26) = W at *
  refine HK.out.mono ?_
  rintro e w1 ⟨rfl, rfl⟩
  clear HK
  go_wp2
  go_ret
  exact ⟨rfl, HB.out⟩
end Go.Proofs.Ytnknfmjpkphbpaa
/- Words in the laws: what stands apart from what. -/
namespace Go.Proofs.Ytnknfmjpkphbpaa
open Go.ChangeShapes Go.WideShapes Go.ChangeAt Go.RowKit Go.BigFrame
set_option linter.unusedVariables false

theorem keysAt_marked {w : World} {base : Nat} {v : Value} {n : Nat} {m : Int} (h : w.ownsRow base 41 2 v n (keyCells (marked n m))) : keysAt w v (marked n m) := keysAt_own (by rw [marked_len]; exact h)
end Go.Proofs.Ytnknfmjpkphbpaa
/- The program's chapter 4, walked: the bytes of a load. -/
namespace Go.Proofs.Ytnknfmjpkphbpaa
open Go.ChangeShapes Go.WideShapes Go.ChangeAt Go.RowKit Go.BigFrame
set_option linter.unusedVariables false

/-- four bytes as an array's value -/
def arr4 (y : ByteArray) : Value := .agg (Lib.byteCells y.data.toList).toArray
theorem four_bytes (y : ByteArray) (h : y.size = 4) : ∃ a b c d : UInt8, y.data.toList = [a, b, c, d] := by
  have hl : y.data.toList.length = 4 := by simpa using h
  match hm : y.data.toList, hl with
  | [a, b, c, d], _ => exact ⟨a, b, c, d, rfl⟩
theorem set_cellsR {w : World} {B j : Nat} {cs : Array Value} {t : TypeId} (u : Value) (h : w.heap[B]? = some (.cells cs t (0, 0))) : (w.setCell ⟨B, j, none⟩ u).heap[B]? = some (.cells (cs.setIfInBounds j u) t (0, 0)) := by
  obtain ⟨hlt, hk⟩ := Array.getElem?_eq_some_iff.1 h
  show (w.heap.modify B _)[B]? = _
  rw [Array.getElem?_eq_getElem (by rw [Array.size_modify]; exact hlt), Array.getElem_modify_self, hk]
  rfl
set_option maxRecDepth 100000 in
theorem iloadbytes_any (y : ByteArray) (w : World) (hy : y.size = 4) : Calls Try.prog 48 #[.string y] w fun e w' => e = .returned (arr4 y) ∧ Below w.heap.size w w' := by
  obtain ⟨a, b, c, d, hd⟩ := four_bytes y hy
  have hsz : (Try.prog.info? 5).map (·.size) = some 1 := by kernel_rfl
  have hW : (((w.alloc (.cells #[.int .u8 0, .int .u8 0, .int .u8 0, .int .u8 0] 73)).alloc (.cells #[.int .u8 0, .int .u8 0, .int .u8 0, .int .u8 0] 73))).heap[w.heap.size + 1]? = some (.cells #[.int .u8 0, .int .u8 0, .int .u8 0, .int .u8 0] 73) := by
    have := heap_alloc_new (w.alloc (.cells #[.int .u8 0, .int .u8 0, .int .u8 0, .int .u8 0] 73)) (.cells #[.int .u8 0, .int .u8 0, .int .u8 0, .int .u8 0] 73)
    simpa using this
  have hB : Below w.heap.size w ((w.alloc (.cells #[.int .u8 0, .int .u8 0, .int .u8 0, .int .u8 0] 73)).alloc (.cells #[.int .u8 0, .int .u8 0, .int .u8 0, .int .u8 0] 73)) := ((Below.refl _ _).alloc (Nat.le_refl _) _).alloc (by simp) _
  have hF : ((w.alloc (.cells #[.int .u8 0, .int .u8 0, .int .u8 0, .int .u8 0] 73)).alloc (.cells #[.int .u8 0, .int .u8 0, .int .u8 0, .int .u8 0] 73)).heap[w.heap.size]? = some (.cells #[.int .u8 0, .int .u8 0, .int .u8 0, .int .u8 0] 73) := heap_first _ _ _
  have hr := fun ty => Lib.run_copy_row_string (P := Try.prog) ((w.alloc (.cells #[.int .u8 0, .int .u8 0, .int .u8 0, .int .u8 0] 73)).alloc (.cells #[.int .u8 0, .int .u8 0, .int .u8 0, .int .u8 0] 73)) 22 9 ty 5 (w.heap.size + 1) 0 4 4 y #[.int .u8 0, .int .u8 0, .int .u8 0, .int .u8 0] 73 Try.underlying22 hsz hW (by omega) (by simp; omega)
  rw [show (List.take 0 (#[Value.int .u8 0, .int .u8 0, .int .u8 0, .int .u8 0] : Array Value).toList ++ Lib.byteCells y.data.toList ++ List.drop (0 + y.size) (#[Value.int .u8 0, .int .u8 0, .int .u8 0, .int .u8 0] : Array Value).toList).toArray = #[.int .u8 a.toNat, .int .u8 b.toNat, .int .u8 c.toNat, .int .u8 d.toNat] by rw [hy, hd]; rfl] at hr
  have hB2 := below_setRow hB (show w.heap.size ≤ w.heap.size + 1 by omega) #[.int .u8 a.toNat, .int .u8 b.toNat, .int .u8 c.toNat, .int .u8 d.toNat]
  have hS := setRow_heap _ (w.heap.size + 1) _ #[.int .u8 a.toNat, .int .u8 b.toNat, .int .u8 c.toNat, .int .u8 d.toNat] 73 (0, 0) hW
  have hF2 : (World.setRow ((w.alloc (.cells #[.int .u8 0, .int .u8 0, .int .u8 0, .int .u8 0] 73)).alloc (.cells #[.int .u8 0, .int .u8 0, .int .u8 0, .int .u8 0] 73)) (w.heap.size + 1) #[.int .u8 a.toNat, .int .u8 b.toNat, .int .u8 c.toNat, .int .u8 d.toNat]).heap[w.heap.size]? = some (.cells #[.int .u8 0, .int .u8 0, .int .u8 0, .int .u8 0] 73) := by
    rw [setRow_other _ _ _ _ (by omega)]; exact hF
  generalize World.setRow ((w.alloc (.cells #[.int .u8 0, .int .u8 0, .int .u8 0, .int .u8 0] 73)).alloc (.cells #[.int .u8 0, .int .u8 0, .int .u8 0, .int .u8 0] 73)) (w.heap.size + 1) #[.int .u8 a.toNat, .int .u8 b.toNat, .int .u8 c.toNat, .int .u8 d.toNat] = W2 at *
  have c0 : W2.cell? ⟨w.heap.size + 1, 0, none⟩ = some (.int .u8 a.toNat) := by rw [cell_of_row _ _ 0 _ _ _ hS]; rfl
  have c1 : W2.cell? ⟨w.heap.size + 1, 1, none⟩ = some (.int .u8 b.toNat) := by rw [cell_of_row _ _ 1 _ _ _ hS]; rfl
  have c2 : W2.cell? ⟨w.heap.size + 1, 2, none⟩ = some (.int .u8 c.toNat) := by rw [cell_of_row _ _ 2 _ _ _ hS]; rfl
  have c3 : W2.cell? ⟨w.heap.size + 1, 3, none⟩ = some (.int .u8 d.toNat) := by rw [cell_of_row _ _ 3 _ _ _ hS]; rfl
  have d0 : W2.cell? ⟨w.heap.size, 0, none⟩ = some (.int .u8 0) := by rw [cell_of_row _ _ 0 _ _ _ hF2]; rfl
  have d1 : W2.cell? ⟨w.heap.size, 1, none⟩ = some (.int .u8 0) := by rw [cell_of_row _ _ 1 _ _ _ hF2]; rfl
  have d2 : W2.cell? ⟨w.heap.size, 2, none⟩ = some (.int .u8 0) := by rw [cell_of_row _ _ 2 _ _ _ hF2]; rfl
  have d3 : W2.cell? ⟨w.heap.size, 3, none⟩ = some (.int .u8 0) := by rw [cell_of_row _ _ 3 _ _ _ hF2]; rfl
  have f0 : W2.frozen? ⟨w.heap.size, 0, none⟩ = false := by simp [World.frozen?, hF2]
  have f1 : W2.frozen? ⟨w.heap.size, 1, none⟩ = false := by simp [World.frozen?, hF2]
  have f2 : W2.frozen? ⟨w.heap.size, 2, none⟩ = false := by simp [World.frozen?, hF2]
  have f3 : W2.frozen? ⟨w.heap.size, 3, none⟩ = false := by simp [World.frozen?, hF2]
  have hfin : ((((W2.setCell ⟨w.heap.size, 0, none⟩ (.int .u8 a.toNat)).setCell ⟨w.heap.size, 1, none⟩ (.int .u8 b.toNat)).setCell ⟨w.heap.size, 2, none⟩ (.int .u8 c.toNat)).setCell ⟨w.heap.size, 3, none⟩ (.int .u8 d.toNat)).heap[w.heap.size]? = some (.cells #[.int .u8 a.toNat, .int .u8 b.toNat, .int .u8 c.toNat, .int .u8 d.toNat] 73) :=
    set_cellsR _ (set_cellsR _ (set_cellsR _ (set_cellsR _ hF2)))
  have hBf := (((hB2.setCell (p := ⟨w.heap.size, 0, none⟩) (Nat.le_refl _) (.int .u8 a.toNat)).setCell (p := ⟨w.heap.size, 1, none⟩) (Nat.le_refl _) (.int .u8 b.toNat)).setCell (p := ⟨w.heap.size, 2, none⟩) (Nat.le_refl _) (.int .u8 c.toNat)).setCell (p := ⟨w.heap.size, 3, none⟩) (Nat.le_refl _) (.int .u8 d.toNat)
  have L2 := run_loadVar_row (P := Try.prog) _ w.heap.size 73 73 #[.int .u8 a.toNat, .int .u8 b.toNat, .int .u8 c.toNat, .int .u8 d.toNat] (0, 0) _ hfin Try.underlying73 rfl (by kernel_rfl)
  have L2 := Lib.hid L2; have HBF := Lib.hid hBf; clear hfin hBf hB2 hB hF hW hF2 hS hsz
  go_enter Try.func48, Try.ntmps48
  go_wp2_with (at_builtin; refine Lib.wpList_copy_run _ rfl (.tmp 4) (.tmp 5) 22 9 rfl _ _ rfl rfl (hr _) ?_)
  refine bodyPost_ret (v := .agg #[.int .u8 a.toNat, .int .u8 b.toNat, .int .u8 c.toNat, .int .u8 d.toNat]) ?_ rfl ⟨by unfold arr4; rw [hd]; rfl, HBF.out⟩
  rw [results_cell (p := 2) (ty := 73) (by kernel_rfl)]
  simp [asAddr, Result.andThen, L2.out]
end Go.Proofs.Ytnknfmjpkphbpaa
/- Arrays of four bytes: held against each other. -/
namespace Go.Proofs.Ytnknfmjpkphbpaa
open Go.ChangeShapes Go.WideShapes Go.ChangeAt Go.RowKit Go.BigFrame
set_option linter.unusedVariables false

theorem arr_sz : ∀ w : World, (sizeOf 5).run Try.prog w = .ok 1 w := by
  obtain ⟨i0, h1, h2⟩ : ∃ i, Try.prog.info? 5 = some i ∧ i.size = 1 := by
    have h : (Try.prog.info? 5).map (·.size) = some 1 := by kernel_rfl
    cases hq : Try.prog.info? 5 with
    | none => rw [hq] at h; simp at h
    | some i => rw [hq] at h; exact ⟨i, rfl, by simpa using h⟩
  intro w
  simp [sizeOf, typeInfo, h1, h2]
theorem arr4_cell (y : ByteArray) : arr4 y = .agg (y.data.toList.map Extern.Stop.cell).toArray := rfl
theorem arr_eql (x y : ByteArray) (hx : x.size = 4) (hy : y.size = 4) (w : World) : (binOp .eql 73 (arr4 x) (arr4 y)).run Try.prog w = .ok (.bool (x.data.toList == y.data.toList)) w :=
  run_eql_bytes w 73 5 4 Try.underlying73 Try.underlying5 arr_sz _ _ (by simpa using hx) (by simpa using hy)
theorem arr_guard (op : BinOp) (x y : Operand) (a b : ByteArray) (w : World) : (eqGuard op 73 x y (arr4 a) (arr4 b)).run Try.prog w = .ok () w := by
  unfold arr4
  exact run_eqGuard_agg w op 73 x y _ _ (by kernel_rfl)
theorem arr4_lit (y : ByteArray) (h : y.size = 4) : ∃ a b c d : Int, arr4 y = .agg #[.int .u8 a, .int .u8 b, .int .u8 c, .int .u8 d] := by
  obtain ⟨a, b, c, d, hd⟩ := four_bytes y h
  exact ⟨a.toNat, b.toNat, c.toNat, d.toNat, by unfold arr4; rw [hd]; rfl⟩
end Go.Proofs.Ytnknfmjpkphbpaa
/- The program's chapter 5, walked: a word of keys and a load; loads by or (exclusively). -/
namespace Go.Proofs.Ytnknfmjpkphbpaa
open Go.ChangeShapes Go.WideShapes Go.ChangeAt Go.RowKit Go.BigFrame
set_option linter.unusedVariables false

theorem nums_cell {w : World} {b : Nat} {p q r s : UInt8} {t : TypeId} (h : w.heap[b]? = some (.cells #[.int .u8 p.toNat, .int .u8 q.toNat, .int .u8 r.toNat, .int .u8 s.toNat] t (0, 0))) :
    ∀ i, i < 4 → w.cell? ⟨b, 0 + i, none⟩ = some (.int .u8 ((numsOf [p, q, r, s]).getD i 0)) := by
  intro i hi
  rcases (by omega : i = 0 ∨ i = 1 ∨ i = 2 ∨ i = 3) with rfl | rfl | rfl | rfl <;> (rw [cell_of_row _ _ _ _ _ _ h]; rfl)
set_option maxRecDepth 100000 in
theorem icodeof_any (a : Option Addr) (n c : Nat) (y : ByteArray) (hy : y.size = 4) (w : World) :
    Calls Try.prog 45 #[.slice a n c, arr4 y] w fun e w' => e = .returned (.agg #[.slice a n c, .string y]) ∧ Below w.heap.size w w' := by
  obtain ⟨p, q, r, s, hd⟩ := four_bytes y hy
  have ha : arr4 y = .agg #[.int .u8 p.toNat, .int .u8 q.toNat, .int .u8 r.toNat, .int .u8 s.toNat] := by unfold arr4; rw [hd]; rfl
  have hb1 := (Below.refl w.heap.size w).alloc (Nat.le_refl _) (.cells #[.int .u8 p.toNat, .int .u8 q.toNat, .int .u8 r.toNat, .int .u8 s.toNat] 73)
  have hb2 := hb1.alloc hb1.size (.cells #[.slice a n c, .string y] 26)
  have hr3 := heap_alloc_new (w.alloc (.cells #[.int .u8 p.toNat, .int .u8 q.toNat, .int .u8 r.toNat, .int .u8 s.toNat] 73)) (.cells #[.slice a n c, .string y] 26)
  have hr1 := heap_first w (.cells #[.slice none 0 0, .string ⟨#[]⟩] 26) (.cells #[.int .u8 p.toNat, .int .u8 q.toNat, .int .u8 r.toNat, .int .u8 s.toNat] 73)
  have hr2 := heap_alloc_new (w.alloc (.cells #[.int .u8 p.toNat, .int .u8 q.toNat, .int .u8 r.toNat, .int .u8 s.toNat] 73)) (.cells #[.slice none 0 0, .string ⟨#[]⟩] 26)
  have e1 : (w.alloc (.cells #[.int .u8 p.toNat, .int .u8 q.toNat, .int .u8 r.toNat, .int .u8 s.toNat] 73)).heap.size = w.heap.size + 1 := by simp
  rw [e1] at hr2 hr3
  have hconv := run_convert_bytes_arg (P := Try.prog) _ 22 5 Try.underlying22 Try.underlying5 w.heap.size 0 4 4 (numsOf [p, q, r, s]) rfl (nums_cell hr1) 9 Try.underlying9
  rw [nums_back, show (⟨[p, q, r, s].toArray⟩ : ByteArray) = y from by rw [← hd]] at hconv
  rw [ha]
  obtain ⟨c0, c1, f0, f1⟩ := row2_of hr2
  have HF := Lib.hid (And.intro (cd_load hr3 (Below.refl _ _)) hb2)
  clear hb1 hb2 hr1 hr2 hr3 e1 ha hd
  go_enter Try.func45, Try.ntmps45
  go_wp2_with fail
  refine bodyPost_ret (v := .agg #[.slice a n c, .string y]) ?_ rfl ⟨rfl, HF.out.2⟩
  rw [results_cell (p := 4) (ty := 26) (by kernel_rfl)]
  have l2 := HF.out.1
  simp [asAddr, Result.andThen, l2]
set_option maxRecDepth 100000 in
theorem iblank_any (v : Value) (y : ByteArray) (w : World) :
    Calls Try.prog 19 #[.agg #[v, .string y]] w fun e w' => e = .returned (.agg #[.slice none 0 0, .string z4]) ∧ Below w.heap.size w w' := by
  have hb1 := (Below.refl w.heap.size w).alloc (Nat.le_refl _) (.cells #[v, .string y] 26)
  have hb2 := hb1.alloc hb1.size (.cells #[.slice none 0 0, .string ⟨#[]⟩] 26)
  have hr2 := heap_alloc_new (w.alloc (.cells #[v, .string y] 26)) (.cells #[.slice none 0 0, .string ⟨#[]⟩] 26)
  have e1 : (w.alloc (.cells #[v, .string y] 26)).heap.size = w.heap.size + 1 := by simp
  rw [e1] at hr2
  have HC := Lib.hid (fun w => icodeof_any none 0 0 z4 rfl w)
  have ha : arr4 z4 = .agg #[.int .u8 0, .int .u8 0, .int .u8 0, .int .u8 0] := rfl
  rw [ha] at HC
  have HB := Lib.hid hb2; have HR := Lib.hid hr2
  clear hb1 hb2 hr2 e1 ha
  go_enter Try.func19, Try.ntmps19
  go_wp2_with fail
  generalize (w.alloc (.cells #[v, .string y] 26)).alloc (.cells #[.slice none 0 0, .string ⟨#[]⟩] 26) = W at *
  refine (HC.out _).mono ?_
  rintro e w1 ⟨rfl, hb1⟩
  have hr1 := (hb1.block _ (Array.getElem?_eq_some_iff.1 HR.out).1).trans HR.out
  obtain ⟨c0, c1, f0, f1⟩ := row2_of hr1
  have hlt := (Array.getElem?_eq_some_iff.1 hr1).1
  have HF := Lib.hid (And.intro (cd_res hr1 (.slice none 0 0) z4) (below2 (HB.out.trans (hb1.mono HB.out.size)) (by omega : w.heap.size ≤ w.heap.size + 1) (.slice none 0 0) (.string z4)))
  clear HB HR HC hb1 hr1
  go_wp2_with fail
  refine bodyPost_ret (v := .agg #[.slice none 0 0, .string z4]) ?_ rfl ⟨rfl, HF.out.2⟩
  rw [results_cell (p := 2) (ty := 26) (by kernel_rfl)]
  have l2 := HF.out.1
  simp [asAddr, Result.andThen, l2]
end Go.Proofs.Ytnknfmjpkphbpaa
/- The program's chapter 3, walked: keys that are right, that stand ahead, that rise; whether a key is there. -/
namespace Go.Proofs.Ytnknfmjpkphbpaa
open Go.ChangeShapes Go.WideShapes Go.ChangeAt Go.RowKit Go.BigFrame
set_option linter.unusedVariables false

theorem ikeyok_any (k : K2) (w : World) : Calls Try.prog 84 #[kv k] w fun e w' => e = .returned (.bool (keyOkB k)) ∧ Below w.heap.size w w' := by
  obtain ⟨n, s⟩ := k
  unfold keyOkB kv
  dsimp only
  have hb : ∀ o, Below w.heap.size w (w.alloc o) := fun o => (Below.refl _ _).alloc (Nat.le_refl _) _
  by_cases h1 : 1 ≤ n
  · by_cases h2 : n ≤ 20
    · by_cases h3 : 1 ≤ s
      · by_cases h4 : s ≤ 99
        · go_enter Try.func84, Try.ntmps84
          go_wp2
          go_ret
          exact ⟨by simp [h1, h2, h3, h4], hb _⟩
        · go_enter Try.func84, Try.ntmps84
          go_wp2
          go_ret
          exact ⟨by simp [h1, h2, h3, h4], hb _⟩
      · go_enter Try.func84, Try.ntmps84
        go_wp2
        go_ret
        exact ⟨by simp [h1, h2, h3]; omega, hb _⟩
    · go_enter Try.func84, Try.ntmps84
      go_wp2
      go_ret
      exact ⟨by simp [h1, h2]; omega, hb _⟩
  · go_enter Try.func84, Try.ntmps84
    go_wp2
    go_ret
    exact ⟨by simp [h1]; omega, hb _⟩
theorem iahead_any (a b : K2) (w : World) : Calls Try.prog 85 #[kv a, kv b] w fun e w' => e = .returned (.bool (aheadB a b)) ∧ Below w.heap.size w w' := by
  obtain ⟨n, s⟩ := a
  obtain ⟨m, t⟩ := b
  have hb : ∀ o o', Below w.heap.size w ((w.alloc o).alloc o') := fun o o' => ((Below.refl _ _).alloc (Nat.le_refl _) _).alloc (by simp) _
  by_cases h : n = m
  · have ha : aheadB (n, s) (m, t) = decide (s < t) := by unfold aheadB; rw [if_pos h]
    rw [ha]
    unfold kv
    dsimp only
    subst h
    go_enter Try.func85, Try.ntmps85
    go_wp2
    go_ret
    exact ⟨rfl, hb _ _⟩
  · have ha : aheadB (n, s) (m, t) = decide (n < m) := by unfold aheadB; rw [if_neg h]
    rw [ha]
    unfold kv
    dsimp only
    go_enter Try.func85, Try.ntmps85
    go_wp2
    go_ret
    exact ⟨rfl, hb _ _⟩
set_option maxRecDepth 100000 in
theorem ikeysok_any (v : Value) (ks : List K2) (w : World) (h : keysAt w v ks) (hs : ks.length ≤ 2000000) : Calls Try.prog 53 #[v] w fun e w' => e = .returned (.bool (keysOkR ks)) ∧ Below w.heap.size w w' := by
  obtain ⟨a, cap, rfl, hcap, hcells⟩ := h
  go_enter Try.func53, Try.ntmps53
  go_wp2
  go_loopw [7] (fun i wr => ∃ k : Nat, k ≤ ks.length ∧ i = .int .i64 k ∧ (List.range k).all (stepB ks) = true ∧ Below w.heap.size w wr) (fun i _ => ks.length - (intOf i).toNat)
  case atStart => exact ⟨0, Nat.zero_le _, rfl, rfl, Below.refl _ _⟩
  case round =>
    obtain ⟨k, hk, rfl, hall, hb⟩ := hrel
    by_cases hlt : k < ks.length
    · obtain ⟨g, off, rfl, hg, hcs⟩ := hcells.resolve_left (by omega)
      have z0 : (0 : Int) ≤ (k : Int) := by omega
      have z1 : (k : Int) < (ks.length : Int) := by omega
      have c1 := hcs k hlt
      have hst : stepB ks k = (keyOkB (ks.getD k (0, 0)) && (decide (k = 0) || aheadB (ks.getD (k - 1) (0, 0)) (ks.getD k (0, 0)))) := rfl
      have hsu := keysR_succ ks k
      rw [hst, hall] at hsu
      have HF := Lib.hid (fun (h : stepB ks k = false) => stepB_false hlt h)
      rw [hst] at HF
      have c0 : 0 < k → _ := fun h => hcs (k - 1) (by omega)
      rename_i wr
      have C1 : wr.cell? ⟨g, off + k * 2, none⟩ = some (.int .i64 (ks.getD k (0, 0)).1) := (hb.cell (p := ⟨g, off + k * 2, none⟩) hg).trans c1.1
      have C2 : wr.cell? ⟨g, off + k * 2 + 1, none⟩ = some (.int .i64 (ks.getD k (0, 0)).2) := (hb.cell (p := ⟨g, off + k * 2 + 1, none⟩) hg).trans c1.2
      generalize ks.getD k (0, 0) = kx at *
      obtain ⟨p, q⟩ := kx
      dsimp only at C1 C2
      have hb1 : Below w.heap.size w (wr.alloc (.cells #[.int .i64 p, .int .i64 q] 41)) := hb.alloc hb.size _
      have LK : ∀ w', Below (wr.heap.size + 1) (wr.alloc (.cells #[.int .i64 p, .int .i64 q] 41)) w' → (loadVar 41 ⟨wr.heap.size, 0, none⟩).run Try.prog w' = .ok (kv (p, q)) w' := fun w' hb' =>
        key_load (k := (p, q)) (w := wr.alloc (.cells #[.int .i64 p, .int .i64 q] 41)) (g := wr.heap.size) (o := 0) ⟨by simp, by simp⟩ (by simp) (by simpa using hb')
      have LK0 := Lib.hid LK; clear LK
      have HSU := Lib.hid hsu; have C0 := Lib.hid c0; clear hsu c0 hst c1 hcells hcs
      have HK := Lib.hid (fun w => ikeyok_any (p, q) w)
      have HB1 := Lib.hid hb1; clear hb1
      go_wp2_with fail
      refine (HK.out _).mono ?_
      rintro e w2 ⟨rfl, hb2⟩
      have hbw2 := HB1.out.trans (hb2.mono HB1.out.size)
      have LK : ∀ w', Below w2.heap.size w2 w' → (loadVar 41 ⟨wr.heap.size, 0, none⟩).run Try.prog w' = .ok (kv (p, q)) w' := fun w' hb' => LK0.out w' ((by simpa using hb2 : Below (wr.heap.size + 1) _ w2).trans (hb'.mono (by have := hb2.size; simp at this; omega)))
      clear LK0 C1 C2 HK hb2 HB1
      cases hko : keyOkB (p, q) with
      | false =>
        rw [hko] at HF
        go_wp2
        go_ret
        exact ⟨by rw [HF.out rfl]; rfl, hbw2⟩
      | true =>
        rw [hko] at HF HSU
        by_cases hk0 : k = 0
        · subst hk0
          have y0 : ¬ (0 : Int) < ((0 : Nat) : Int) := by omega
          clear HF C0
          go_wp2
          refine wp_region_below w2 (by kernel_rfl) (by kernel_rfl) (Below.refl _ _) ?_
          repeat (first
            | go_big_quiet_skip
            | (go_big_quiet_want
               first
                 | (go_big_quiet_op; go_big_quiet_on)
                 | (refine q_load 41 _ _ _ rfl rfl LK ?_; simp only [Act.put, List.setIfInBounds_toArray, List.set_cons_zero, List.set_cons_succ]; go_big_quiet_on)
                 | (go_big_quiet_op; refine ⟨_, fun _ _ => rfl, ?_⟩; go_big_quiet_on)
                 | (go_big_quiet_op; go_big_quiet_on)))
          refine wpQuiet_nil ?_
          intro w3 hb3
          have hbw3 := hbw2.trans (hb3.mono hbw2.size)
          clear LK
          go_wp2
          exact ⟨⟨1, by omega, by go_num, by rw [HSU.out]; rfl, hbw3⟩, by simp [intOf]; omega⟩
        · have ha := C0.out (by omega)
          have L2 : ∀ w', Below w2.heap.size w2 w' → (loadVar 41 ⟨g, off + (k - 1) * 2, none⟩).run Try.prog w' = .ok (kv (ks.getD (k - 1) (0, 0))) w' := fun w' hb' => key_load ha hg (hbw2.trans (hb'.mono hbw2.size))
          generalize ks.getD (k - 1) (0, 0) = ky at *
          have HA := Lib.hid (fun w => iahead_any ky (p, q) w)
          have d0 : decide (k = 0) = false := by simpa using hk0
          rw [d0] at HF HSU
          have y0 : (0 : Int) < (k : Int) := by omega
          have yk : 0 < k := by omega
          have y1 : (0 : Int) ≤ (k : Int) - 1 := by omega
          have y2 : (k : Int) - 1 < (ks.length : Int) := by omega
          have ew : IntKind.i64.wrap ((k : Int) - 1) = (k : Int) - 1 := IntWalk.i64_in _ (by omega)
          have et : ((k : Int) - 1).toNat = k - 1 := by omega
          clear C0 ha
          cases hah : aheadB ky (p, q) with
          | false =>
            rw [hah] at HA HF
            have HF2 := HF.out rfl
            have HF3 := Lib.hid HF2; clear HF2 HF HSU
            go_wp2
            refine wp_region_below w2 (by kernel_rfl) (by kernel_rfl) (Below.refl _ _) ?_
            repeat (first
              | go_big_quiet_skip
              | (go_big_quiet_want
                 first
                   | (go_big_quiet_op; go_big_quiet_on)
                   | (refine q_load 41 _ _ _ rfl rfl L2 ?_; simp only [Act.put, List.setIfInBounds_toArray, List.set_cons_zero, List.set_cons_succ]; go_big_quiet_on)
                   | (refine q_load 41 _ _ _ rfl rfl LK ?_; simp only [Act.put, List.setIfInBounds_toArray, List.set_cons_zero, List.set_cons_succ]; go_big_quiet_on)
                   | (go_big_quiet_op; refine ⟨_, fun _ _ => rfl, ?_⟩; go_big_quiet_on)
                   | (go_big_quiet_op; apply Exists.intro; refine ⟨fun w' hw' => ?_, ?_⟩
                      · first
                        | (with_reducible refine (HA.out w').mono ?_
                           rintro e w2 ⟨rfl, hb2⟩
                           exact ⟨rfl, hw'.trans (hb2.mono hw'.size)⟩)
                      go_big_quiet_on)))
            refine wpQuiet_nil ?_
            intro w3 hb3
            have hbw3 := hbw2.trans (hb3.mono hbw2.size)
            clear LK L2 HA
            go_wp2
            go_ret
            exact ⟨by rw [HF3.out]; rfl, hbw3⟩
          | true =>
            rw [hah] at HA HSU
            clear HF
            go_wp2
            refine wp_region_below w2 (by kernel_rfl) (by kernel_rfl) (Below.refl _ _) ?_
            repeat (first
              | go_big_quiet_skip
              | (go_big_quiet_want
                 first
                   | (go_big_quiet_op; go_big_quiet_on)
                   | (refine q_load 41 _ _ _ rfl rfl L2 ?_; simp only [Act.put, List.setIfInBounds_toArray, List.set_cons_zero, List.set_cons_succ]; go_big_quiet_on)
                   | (refine q_load 41 _ _ _ rfl rfl LK ?_; simp only [Act.put, List.setIfInBounds_toArray, List.set_cons_zero, List.set_cons_succ]; go_big_quiet_on)
                   | (go_big_quiet_op; refine ⟨_, fun _ _ => rfl, ?_⟩; go_big_quiet_on)
                   | (go_big_quiet_op; apply Exists.intro; refine ⟨fun w' hw' => ?_, ?_⟩
                      · first
                        | (with_reducible refine (HA.out w').mono ?_
                           rintro e w2 ⟨rfl, hb2⟩
                           exact ⟨rfl, hw'.trans (hb2.mono hw'.size)⟩)
                      go_big_quiet_on)))
            refine wpQuiet_nil ?_
            intro w3 hb3
            have hbw3 := hbw2.trans (hb3.mono hbw2.size)
            clear LK L2 HA
            go_wp2
            exact ⟨⟨k + 1, by omega, by go_num, by rw [HSU.out]; rfl, hbw3⟩, by simp [intOf]; omega⟩
    · obtain rfl : k = ks.length := by omega
      have HF := Lib.hid hall
      go_wp2
      go_ret
      exact ⟨by unfold keysOkR; rw [HF.out]; rfl, hb⟩
end Go.Proofs.Ytnknfmjpkphbpaa
/- The program's chapter 5, walked: which words are right. -/
namespace Go.Proofs.Ytnknfmjpkphbpaa
open Go.ChangeShapes Go.WideShapes Go.ChangeAt Go.RowKit Go.BigFrame
set_option linter.unusedVariables false

def zero4L : List UInt8 := [0, 0, 0, 0]
theorem z4_eq (y : ByteArray) : decide (y = z4) = (y.data.toList == zero4L) := by
  rw [Bool.eq_iff_iff, decide_eq_true_eq, beq_iff_eq]
  constructor
  · rintro rfl; rfl
  · intro h
    have : y = ⟨y.data.toList.toArray⟩ := by simp
    rw [this, h]; rfl
set_option maxRecDepth 100000 in
set_option maxHeartbeats 1000000 in
theorem icodeok_any (v : Value) (ks : List K2) (y : ByteArray) (w : World) (h : keysAt w v ks) (hs : ks.length ≤ 2000000) :
    Calls Try.prog 18 #[.agg #[v, .string y]] w fun e w' => e = .returned (.bool (codeOkB (ks, y))) ∧ Below w.heap.size w w' := by
  have hb := (Below.refl w.heap.size w).alloc (Nat.le_refl _) (.cells #[v, .string y] 26)
  have HB := Lib.hid hb
  have HX := Lib.hid (heap_alloc_new w (.cells #[v, .string y] 26))
  have HK := Lib.hid (ikeysok_any v ks (w.alloc (.cells #[v, .string y] 26)) (keysAt_below h hb) hs)
  obtain ⟨a, cap, rfl, -, -⟩ := h
  unfold codeOkB
  dsimp only
  obtain ⟨x0, x1, -, -⟩ := row2_of HX.out
  clear hb
  go_enter Try.func18, Try.ntmps18
  by_cases h1 : ks.length ≤ 6
  · have i1 : ¬ (6 : Int) < (ks.length : Int) := by omega
    have i2 : (ks.length : Int) ≤ 6 := by omega
    go_wp2_with fail
    generalize w.alloc (.cells #[.slice a ks.length cap, .string y] 26) = W at *
    refine HK.out.mono ?_
    rintro e w1 ⟨rfl, hb1⟩
    have HB1 := Lib.hid (HB.out.trans (hb1.mono HB.out.size))
    clear x0 x1
    obtain ⟨x0, x1⟩ := cd_cells HX.out hb1
    clear hb1 HK HX HB
    cases h2 : keysOkR ks with
    | false =>
      go_wp2
      go_ret
      exact ⟨by simp [h1, h2], HB1.out⟩
    | true =>
      by_cases h3 : y.size = 4
      · have i3 : (y.size : Int) = 4 := by omega
        by_cases h4 : 0 < ks.length
        · have i4 : (0 : Int) < (ks.length : Int) := by omega
          go_wp2
          go_ret
          exact ⟨by simp [h1, h2, h3, h4], HB1.out⟩
        · have i4 : ¬ (0 : Int) < (ks.length : Int) := by omega
          have AE := fun w => arr_eql y z4 h3 rfl w
          have AG := fun op x z w => arr_guard op x z y z4 w
          have HL := Lib.hid (iloadbytes_any y w1 h3)
          obtain ⟨p, q, r, s, hp⟩ := arr4_lit y h3
          rw [hp] at AE AG HL
          rw [show arr4 z4 = .agg #[.int .u8 0, .int .u8 0, .int .u8 0, .int .u8 0] from rfl] at AE AG
          rw [show z4.data.toList = zero4L from rfl, ← z4_eq] at AE
          clear hp
          generalize hbo : decide (y = z4) = bo at *
          go_wp2_with fail
          refine HL.out.mono ?_
          rintro e w2 ⟨rfl, hb2⟩
          have HB2 := Lib.hid (HB1.out.trans (hb2.mono HB1.out.size))
          clear hb2 HL x0 x1 HB1
          go_wp2
          go_ret
          exact ⟨by rw [← hbo]; simp [h1, h2, h3, h4], HB2.out⟩
      · have i3 : ¬ (y.size : Int) = 4 := by omega
        go_wp2
        go_ret
        exact ⟨by simp [h1, h2, h3], HB1.out⟩
  · have i1 : (6 : Int) < (ks.length : Int) := by omega
    have i2 : ¬ (ks.length : Int) ≤ 6 := by omega
    go_wp2
    go_ret
    exact ⟨by simp [h1], HB.out⟩
end Go.Proofs.Ytnknfmjpkphbpaa
/- A reading that is right, by the program. -/
namespace Go.Proofs.Ytnknfmjpkphbpaa
open Go.ChangeShapes Go.WideShapes Go.ChangeAt Go.RowKit Go.BigFrame
set_option linter.unusedVariables false

theorem ireadingok_any (r : R3) (w : World) : Calls Try.prog 61 #[rv r] w fun e w' => e = .returned (.bool (rdOkB r)) ∧ Below w.heap.size w w' := by
  obtain ⟨⟨n, s⟩, x⟩ := r
  unfold rdOkB rv
  dsimp only
  have hb : Below w.heap.size w (w.alloc (.cells #[.int .i64 n, .int .i64 s, .string x] 43)) := (Below.refl _ _).alloc (Nat.le_refl _) _
  have L1 := rdk_load (r := ((n, s), x)) (w := w.alloc (.cells #[.int .i64 n, .int .i64 s, .string x] 43)) (g := w.heap.size) (o := 0) ⟨by simp, by simp, by simp⟩ (by simp) (Below.refl _ _)
  have c2 : (w.alloc (.cells #[.int .i64 n, .int .i64 s, .string x] 43)).cell? ⟨w.heap.size, 2, none⟩ = some (.string x) := by simp
  have hlt : w.heap.size < (w.alloc (.cells #[.int .i64 n, .int .i64 s, .string x] 43)).heap.size := by simp
  have H1 := fun w => ikeyok_any (n, s) w
  go_enter Try.func61, Try.ntmps61
  have HZ := Lib.hid (show ((x.size : Int) = 4) = (x.size = 4) from propext (by omega))
  generalize keyOkB (n, s) = p at *
  dsimp only at L1
  cases p with
  | false =>
    go_wp2_with fail
    refine (H1 _).mono ?_
    rintro e w1 ⟨rfl, hb1⟩
    have hB := hb.trans (hb1.mono hb.size)
    go_wp2
    go_ret
    exact ⟨by simp, hB⟩
  | true =>
    go_wp2_with fail
    refine (H1 _).mono ?_
    rintro e w1 ⟨rfl, hb1⟩
    have hB := hb.trans (hb1.mono hb.size)
    have c3 : w1.cell? ⟨w.heap.size, 2, none⟩ = some (.string x) := (hb1.cell (p := ⟨w.heap.size, 2, none⟩) hlt).trans c2
    by_cases h4 : x.size = 4
    · have e4 : (x.size : Int) = 4 := by omega
      clear hb hb1 c2 H1 L1
      go_wp2
      go_ret
      exact ⟨by simp [h4], hB⟩
    · have e4 : ¬ (x.size : Int) = 4 := by omega
      clear hb hb1 c2 H1 L1
      go_wp2
      go_ret
      exact ⟨by simp [h4, e4], hB⟩
end Go.Proofs.Ytnknfmjpkphbpaa
/- The program's chapter 5, walked: a word of one reading. -/
namespace Go.Proofs.Ytnknfmjpkphbpaa
open Go.ChangeShapes Go.WideShapes Go.ChangeAt Go.RowKit Go.BigFrame
set_option linter.unusedVariables false

set_option maxRecDepth 100000 in
set_option maxHeartbeats 1000000 in
theorem isingle_any (r : R3) (w : World) :
    Calls Try.prog 24 #[rv r] w fun e w' => ∃ v', e = .returned (.agg #[v', .string (singM r).2]) ∧ w'.ownsRow w.heap.size 41 2 v' (singM r).1.length (keyCells (singM r).1) ∧ Below w.heap.size w w' := by
  have hs : singM r = if rdOkB r then ([r.1], r.2) else blankC := rfl
  have H1 := fun w => ireadingok_any r w
  have h4 : rdOkB r = true → r.2.size = 4 := by
    intro h
    simp only [rdOkB, Bool.and_eq_true, decide_eq_true_eq] at h
    exact h.2
  obtain ⟨⟨p, q⟩, y⟩ := r
  unfold rv at *
  dsimp only at *
  have hb1 := (Below.refl w.heap.size w).alloc (Nat.le_refl _) (.cells #[.int .i64 p, .int .i64 q, .string y] 43)
  have hb2 := hb1.alloc hb1.size (.cells #[.slice none 0 0, .string ⟨#[]⟩] 26)
  have hr1 := heap_first w (.cells #[.slice none 0 0, .string ⟨#[]⟩] 26) (.cells #[.int .i64 p, .int .i64 q, .string y] 43)
  have hr2 := heap_alloc_new (w.alloc (.cells #[.int .i64 p, .int .i64 q, .string y] 43)) (.cells #[.slice none 0 0, .string ⟨#[]⟩] 26)
  have e1 : (w.alloc (.cells #[.int .i64 p, .int .i64 q, .string y] 43)).heap.size = w.heap.size + 1 := by simp
  rw [e1] at hr2
  have e2 : ((w.alloc (.cells #[.int .i64 p, .int .i64 q, .string y] 43)).alloc (.cells #[.slice none 0 0, .string ⟨#[]⟩] 26)).heap.size = w.heap.size + 2 := by simp
  have HZ := Lib.hid e2
  have HB := Lib.hid hb2; have HR := Lib.hid hr2; have HX := Lib.hid hr1
  clear hb1 hb2 hr1 hr2 e1 e2
  obtain ⟨x0, x1, x2, -, -, -⟩ := row3_of HX.out
  go_enter Try.func24, Try.ntmps24
  go_wp2_with fail
  generalize (w.alloc (.cells #[.int .i64 p, .int .i64 q, .string y] 43)).alloc (.cells #[.slice none 0 0, .string ⟨#[]⟩] 26) = W at *
  refine (H1 _).mono ?_
  rintro e w1 ⟨rfl, hb1⟩
  have HB0 := Lib.hid (HB.out.trans (hb1.mono HB.out.size))
  have HRES := Lib.hid ((hb1.block _ (Array.getElem?_eq_some_iff.1 HR.out).1).trans HR.out)
  have HX1 := Lib.hid ((hb1.block _ (Array.getElem?_eq_some_iff.1 HX.out).1).trans HX.out)
  have HSZ := Lib.hid (show w.heap.size + 2 ≤ w1.heap.size by have := hb1.size; have := HZ.out; omega)
  clear hb1 x0 x1 x2 HB HR HX H1 HZ
  generalize hok : rdOkB ((p, q), y) = b at *
  have HS := Lib.hid hs
  clear hs hok
  cases b with
  | false =>
    go_wp2_with fail
    refine (iblank_any _ _ _).mono ?_
    rintro e w2 ⟨rfl, hb2⟩
    have hr2 := (hb2.block _ (Array.getElem?_eq_some_iff.1 HRES.out).1).trans HRES.out
    have hB2 := HB0.out.trans (hb2.mono HB0.out.size)
    obtain ⟨c0, c1, f0, f1⟩ := row2_of hr2
    have hlt := (Array.getElem?_eq_some_iff.1 hr2).1
    have L2 := Lib.hid (cd_res hr2 (.slice none 0 0) z4)
    have HF := Lib.hid (below2 hB2 (by omega : w.heap.size ≤ w.heap.size + 1) (.slice none 0 0) (.string z4))
    clear hb2 hr2 hB2 HB0 HRES HX1
    go_wp2_with fail
    refine bodyPost_ret (v := .agg #[.slice none 0 0, .string z4]) ?_ rfl ⟨_, by rw [HS.out]; rfl, by rw [HS.out]; exact World.ownsRow_nil _ _ _ _, HF.out⟩
    rw [results_cell (p := 2) (ty := 26) (by kernel_rfl)]
    have l2 := L2.out
    simp [asAddr, Result.andThen, l2]
  | true =>
    have HL := Lib.hid (fun w => iloadbytes_any y w (h4 rfl))
    have HC := Lib.hid (fun a n c w => icodeof_any a n c y (h4 rfl) w)
    have L1 : ∀ w' : World, w'.heap[w.heap.size]? = some (.cells #[.int .i64 p, .int .i64 q, .string y] 43) → (loadVar 41 ⟨w.heap.size, 0, none⟩).run Try.prog w' = .ok (.agg #[.int .i64 p, .int .i64 q]) w' := fun w' h => by
      obtain ⟨x0, x1, x2, -, -, -⟩ := row3_of h
      exact rdk_load (r := ((p, q), y)) (o := 0) ⟨x0, x1, x2⟩ (Array.getElem?_eq_some_iff.1 h).1 (Below.refl _ _)
    have L2 : ∀ w' : World, w'.heap[w.heap.size]? = some (.cells #[.int .i64 p, .int .i64 q, .string y] 43) → (loadVar 9 ⟨w.heap.size, 2, none⟩).run Try.prog w' = .ok (.string y) w' := fun w' h => load_one agg_str (row3_of h).c2
    clear h4
    go_wp2_with fail
    refine wp_region_G (fun w' => w'.heap[w.heap.size]? = some (.cells #[.int .i64 p, .int .i64 q, .string y] 43)) (by kernel_rfl) ?_
    replace HX1 := Lib.hid (show (World.drew _).heap[_]? = _ from HX1.out)
    replace HB0 := Lib.hid (HB0.out.drew)
    replace HRES := Lib.hid (show (World.drew _).heap[_]? = _ from HRES.out)
    replace HSZ := Lib.hid (show _ ≤ (World.drew _).heap.size from HSZ.out)
    generalize (w1).drew = wD at *
    refine wpG_seg [true, true, false, true, true] [2, 5] 3 (by kernel_rfl) (by intro c a d v w h; cases d <;> exact h) (by kernel_rfl) HX1.out ?_
    try simp only [maskRows]
    repeat (first
      | go_big_quiet_skip
      | (go_big_quiet_want
         first
           | (go_big_quiet_op; go_big_quiet_on)
           | (refine q_load 41 _ _ _ rfl rfl L1 ?_; simp only [Act.put, List.setIfInBounds_toArray, List.set_cons_zero, List.set_cons_succ]; go_big_quiet_on)
           | (refine q_load 9 _ _ _ rfl rfl L2 ?_; simp only [Act.put, List.setIfInBounds_toArray, List.set_cons_zero, List.set_cons_succ]; go_big_quiet_on)
           | (go_big_quiet_op; refine ⟨_, fun _ _ => rfl, ?_⟩; go_big_quiet_on)))
    refine wpQuiet_nil ?_
    refine List.forall_mem_cons.2 ⟨?_, List.forall_mem_singleton.2 ?_⟩
    · refine segt_run rfl (by rfl) (fun K hK => ?_)
      go_simp
      have HOn := Lib.hid (own_one (w := wD) (base := w.heap.size + 2) p q HSZ.out)
      replace HX1 := Lib.hid ((Below.heap_alloc _ (.cells #[.int .i64 p, .int .i64 q] 41) _ (Array.getElem?_eq_some_iff.1 HX1.out).1).trans HX1.out)
      replace HB0 := Lib.hid (HB0.out.alloc HB0.out.size (.cells #[.int .i64 p, .int .i64 q] 41))
      replace HRES := Lib.hid ((Below.heap_alloc _ (.cells #[.int .i64 p, .int .i64 q] 41) _ (Array.getElem?_eq_some_iff.1 HRES.out).1).trans HRES.out)
      replace HSZ := Lib.hid (Nat.le_trans HSZ.out (size_le_alloc _ (.cells #[.int .i64 p, .int .i64 q] 41)))
      generalize World.alloc (wD) (.cells #[.int .i64 p, .int .i64 q] 41) = w3 at *
      generalize (wD).heap.size = b3 at *
      have HO := HOn
      clear HOn
      refine hK _ _ ⟨_, fun _ h => h, HX1.out, ?_⟩
      clear hK K
      try simp only [Act.put, List.setIfInBounds_toArray, List.set_cons_zero, List.set_cons_succ]
      refine wpG_seg [] [5] 2 (by kernel_rfl) (by intro c a d v w h; cases d <;> exact h) (by kernel_rfl) HX1.out ?_
      try simp only [maskRows]
      refine wpQuiet_nil ?_
      refine List.forall_mem_singleton.2 ?_
      refine segt_run rfl (by rfl) (fun K hK => ?_)
      go_simp
      refine (HL.out _).mono ?_
      rintro e w4 ⟨rfl, hb⟩
      dsimp only
      replace HX1 := Lib.hid ((hb.block _ (Array.getElem?_eq_some_iff.1 HX1.out).1).trans HX1.out)
      replace HB0 := Lib.hid (HB0.out.trans (hb.mono HB0.out.size))
      replace HRES := Lib.hid ((hb.block _ (Array.getElem?_eq_some_iff.1 HRES.out).1).trans HRES.out)
      replace HSZ := Lib.hid (Nat.le_trans HSZ.out hb.size)
      replace HO := Lib.hid (own_below HO.out hb)
      clear hb
      refine hK _ _ ⟨_, fun _ h => h, HX1.out, ?_⟩
      clear hK K
      try simp only [Act.put, List.setIfInBounds_toArray, List.set_cons_zero, List.set_cons_succ]
      refine wpG_seg [] [6] 1 (by kernel_rfl) (by intro c a d v w h; cases d <;> exact h) (by kernel_rfl) HX1.out ?_
      try simp only [maskRows]
      refine wpQuiet_nil ?_
      refine List.forall_mem_singleton.2 ?_
      refine segt_run rfl (by rfl) (fun K hK => ?_)
      go_simp
      refine (HC.out _ _ _ _).mono ?_
      rintro e w5 ⟨rfl, hb⟩
      dsimp only
      replace HX1 := Lib.hid ((hb.block _ (Array.getElem?_eq_some_iff.1 HX1.out).1).trans HX1.out)
      replace HB0 := Lib.hid (HB0.out.trans (hb.mono HB0.out.size))
      replace HRES := Lib.hid ((hb.block _ (Array.getElem?_eq_some_iff.1 HRES.out).1).trans HRES.out)
      replace HSZ := Lib.hid (Nat.le_trans HSZ.out hb.size)
      replace HO := Lib.hid (own_below HO.out hb)
      clear hb
      obtain ⟨c0, c1, f0, f1⟩ := row2_of HRES.out
      have hlt := (Array.getElem?_eq_some_iff.1 HRES.out).1
      have HF := Lib.hid (And.intro (cd_res HRES.out (.slice (some ⟨b3, 0, none⟩) 1 1) y) (And.intro (own_base (own_set2 HO.out (by omega : w.heap.size + 1 < w.heap.size + 2) (.slice (some ⟨b3, 0, none⟩) 1 1) (.string y)) (by omega : w.heap.size ≤ w.heap.size + 2)) (below2 HB0.out (by omega : w.heap.size ≤ w.heap.size + 1) (.slice (some ⟨b3, 0, none⟩) 1 1) (.string y))))
      have HX2 := Lib.hid (row_set2 HX1.out (by omega : w.heap.size ≠ w.heap.size + 1) (.slice (some ⟨b3, 0, none⟩) 1 1) (.string y))
      refine hK _ _ ⟨_, fun _ h => h, HX1.out, ?_⟩
      clear hK K
      try simp only [Act.put, List.setIfInBounds_toArray, List.set_cons_zero, List.set_cons_succ]
      refine wpG_seg [] [7] 0 (by kernel_rfl) (by intro c a d v w h; cases d <;> exact h) (by kernel_rfl) HX1.out ?_
      try simp only [maskRows]
      refine wpQuiet_nil ?_
      refine List.forall_mem_singleton.2 ?_
      refine segt_run rfl (by rfl) (fun K hK => ?_)
      go_simp
      replace HX1 := HX2
      clear HX2 HRES HO HB0 c0 c1 f0 f1 hlt
      refine hK _ _ ⟨_, fun _ h => h, HX1.out, ?_⟩
      clear hK K
      try simp only [Act.put, List.setIfInBounds_toArray, List.set_cons_zero, List.set_cons_succ]
      refine wpG_end [] (by kernel_rfl) (by intro c a d v w h; cases d <;> exact h) (by kernel_rfl) HX1.out ?_
      try simp only [maskRows]
      refine wpQuiet_nil ?_
      go_wp2_with fail
      refine bodyPost_ret (v := .agg #[.slice (some ⟨b3, 0, none⟩) 1 1, .string y]) ?_ rfl ⟨_, by rw [HS.out]; rfl, by rw [HS.out]; exact HF.out.2.1, HF.out.2.2⟩
      rw [results_cell (p := 2) (ty := 26) (by kernel_rfl)]
      have l2 := HF.out.1
      simp [asAddr, Result.andThen, l2]
    · refine segt_run rfl (by rfl) (fun K hK => ?_)
      go_simp
      refine (HL.out _).mono ?_
      rintro e w3 ⟨rfl, hb⟩
      dsimp only
      replace HX1 := Lib.hid ((hb.block _ (Array.getElem?_eq_some_iff.1 HX1.out).1).trans HX1.out)
      replace HB0 := Lib.hid (HB0.out.trans (hb.mono HB0.out.size))
      replace HRES := Lib.hid ((hb.block _ (Array.getElem?_eq_some_iff.1 HRES.out).1).trans HRES.out)
      replace HSZ := Lib.hid (Nat.le_trans HSZ.out hb.size)
      clear hb
      refine hK _ _ ⟨_, fun _ h => h, HX1.out, ?_⟩
      clear hK K
      try simp only [Act.put, List.setIfInBounds_toArray, List.set_cons_zero, List.set_cons_succ]
      refine wpG_seg [] [2] 2 (by kernel_rfl) (by intro c a d v w h; cases d <;> exact h) (by kernel_rfl) HX1.out ?_
      try simp only [maskRows]
      refine wpQuiet_nil ?_
      refine List.forall_mem_singleton.2 ?_
      refine segt_run rfl (by rfl) (fun K hK => ?_)
      go_simp
      have HOn := Lib.hid (own_one (w := w3) (base := w.heap.size + 2) p q HSZ.out)
      replace HX1 := Lib.hid ((Below.heap_alloc _ (.cells #[.int .i64 p, .int .i64 q] 41) _ (Array.getElem?_eq_some_iff.1 HX1.out).1).trans HX1.out)
      replace HB0 := Lib.hid (HB0.out.alloc HB0.out.size (.cells #[.int .i64 p, .int .i64 q] 41))
      replace HRES := Lib.hid ((Below.heap_alloc _ (.cells #[.int .i64 p, .int .i64 q] 41) _ (Array.getElem?_eq_some_iff.1 HRES.out).1).trans HRES.out)
      replace HSZ := Lib.hid (Nat.le_trans HSZ.out (size_le_alloc _ (.cells #[.int .i64 p, .int .i64 q] 41)))
      generalize World.alloc (w3) (.cells #[.int .i64 p, .int .i64 q] 41) = w4 at *
      generalize (w3).heap.size = b3 at *
      have HO := HOn
      clear HOn
      refine hK _ _ ⟨_, fun _ h => h, HX1.out, ?_⟩
      clear hK K
      try simp only [Act.put, List.setIfInBounds_toArray, List.set_cons_zero, List.set_cons_succ]
      refine wpG_seg [] [6] 1 (by kernel_rfl) (by intro c a d v w h; cases d <;> exact h) (by kernel_rfl) HX1.out ?_
      try simp only [maskRows]
      refine wpQuiet_nil ?_
      refine List.forall_mem_singleton.2 ?_
      refine segt_run rfl (by rfl) (fun K hK => ?_)
      go_simp
      refine (HC.out _ _ _ _).mono ?_
      rintro e w5 ⟨rfl, hb⟩
      dsimp only
      replace HX1 := Lib.hid ((hb.block _ (Array.getElem?_eq_some_iff.1 HX1.out).1).trans HX1.out)
      replace HB0 := Lib.hid (HB0.out.trans (hb.mono HB0.out.size))
      replace HRES := Lib.hid ((hb.block _ (Array.getElem?_eq_some_iff.1 HRES.out).1).trans HRES.out)
      replace HSZ := Lib.hid (Nat.le_trans HSZ.out hb.size)
      replace HO := Lib.hid (own_below HO.out hb)
      clear hb
      obtain ⟨c0, c1, f0, f1⟩ := row2_of HRES.out
      have hlt := (Array.getElem?_eq_some_iff.1 HRES.out).1
      have HF := Lib.hid (And.intro (cd_res HRES.out (.slice (some ⟨b3, 0, none⟩) 1 1) y) (And.intro (own_base (own_set2 HO.out (by omega : w.heap.size + 1 < w.heap.size + 2) (.slice (some ⟨b3, 0, none⟩) 1 1) (.string y)) (by omega : w.heap.size ≤ w.heap.size + 2)) (below2 HB0.out (by omega : w.heap.size ≤ w.heap.size + 1) (.slice (some ⟨b3, 0, none⟩) 1 1) (.string y))))
      have HX2 := Lib.hid (row_set2 HX1.out (by omega : w.heap.size ≠ w.heap.size + 1) (.slice (some ⟨b3, 0, none⟩) 1 1) (.string y))
      refine hK _ _ ⟨_, fun _ h => h, HX1.out, ?_⟩
      clear hK K
      try simp only [Act.put, List.setIfInBounds_toArray, List.set_cons_zero, List.set_cons_succ]
      refine wpG_seg [] [7] 0 (by kernel_rfl) (by intro c a d v w h; cases d <;> exact h) (by kernel_rfl) HX1.out ?_
      try simp only [maskRows]
      refine wpQuiet_nil ?_
      refine List.forall_mem_singleton.2 ?_
      refine segt_run rfl (by rfl) (fun K hK => ?_)
      go_simp
      replace HX1 := HX2
      clear HX2 HRES HO HB0 c0 c1 f0 f1 hlt
      refine hK _ _ ⟨_, fun _ h => h, HX1.out, ?_⟩
      clear hK K
      try simp only [Act.put, List.setIfInBounds_toArray, List.set_cons_zero, List.set_cons_succ]
      refine wpG_end [] (by kernel_rfl) (by intro c a d v w h; cases d <;> exact h) (by kernel_rfl) HX1.out ?_
      try simp only [maskRows]
      refine wpQuiet_nil ?_
      go_wp2_with fail
      refine bodyPost_ret (v := .agg #[.slice (some ⟨b3, 0, none⟩) 1 1, .string y]) ?_ rfl ⟨_, by rw [HS.out]; rfl, by rw [HS.out]; exact HF.out.2.1, HF.out.2.2⟩
      rw [results_cell (p := 2) (ty := 26) (by kernel_rfl)]
      have l2 := HF.out.1
      simp [asAddr, Result.andThen, l2]
end Go.Proofs.Ytnknfmjpkphbpaa
/- The program's chapter 5, walked: loads by or (exclusively). -/
namespace Go.Proofs.Ytnknfmjpkphbpaa
open Go.ChangeShapes Go.WideShapes Go.ChangeAt Go.RowKit Go.BigFrame
set_option linter.unusedVariables false

/-- the first k by or (exclusively), the others as they were -/
def mixL : Nat → List UInt8 → List UInt8 → List UInt8
  | 0, a, _ => a
  | k + 1, x :: a, y :: b => (x ^^^ y) :: mixL k a b
  | _ + 1, a, _ => a
def row4 : List UInt8 → Array Value
  | [p, q, r, s] => #[.int .u8 p.toNat, .int .u8 q.toNat, .int .u8 r.toNat, .int .u8 s.toNat]
  | _ => #[]
structure Row4 (w : World) (b : Nat) (x y z u : Value) : Prop where
  c0 : w.cell? ⟨b, 0, none⟩ = some x
  c1 : w.cell? ⟨b, 1, none⟩ = some y
  c2 : w.cell? ⟨b, 2, none⟩ = some z
  c3 : w.cell? ⟨b, 3, none⟩ = some u
  f0 : w.frozen? ⟨b, 0, none⟩ = false
  f1 : w.frozen? ⟨b, 1, none⟩ = false
  f2 : w.frozen? ⟨b, 2, none⟩ = false
  f3 : w.frozen? ⟨b, 3, none⟩ = false
theorem row4_of {w : World} {b : Nat} {x y z u : Value} {t : TypeId} (h : w.heap[b]? = some (.cells #[x, y, z, u] t (0, 0))) : Row4 w b x y z u :=
  ⟨by rw [cell_of_row _ _ 0 _ _ _ h]; rfl, by rw [cell_of_row _ _ 1 _ _ _ h]; rfl, by rw [cell_of_row _ _ 2 _ _ _ h]; rfl, by rw [cell_of_row _ _ 3 _ _ _ h]; rfl,
   by simp [World.frozen?, h], by simp [World.frozen?, h], by simp [World.frozen?, h], by simp [World.frozen?, h]⟩
theorem arr4_load {W w' : World} {b : Nat} {x y z u : Value} (h : W.heap[b]? = some (.cells #[x, y, z, u] 73 (0, 0))) (hb : Below W.heap.size W w') :
    (loadVar 73 ⟨b, 0, none⟩).run Try.prog w' = .ok (.agg #[x, y, z, u]) w' :=
  run_loadVar_row (P := Try.prog) w' b 73 73 #[x, y, z, u] (0, 0) _ ((hb.block _ (Array.getElem?_eq_some_iff.1 h).1).trans h) Try.underlying73 rfl (by kernel_rfl)
theorem set4 {w : World} {b : Nat} {x y z u : Value} {t : TypeId} (p q r s : Value) (h : w.heap[b]? = some (.cells #[x, y, z, u] t (0, 0))) :
    ((((w.setCell ⟨b, 0, none⟩ p).setCell ⟨b, 1, none⟩ q).setCell ⟨b, 2, none⟩ r).setCell ⟨b, 3, none⟩ s).heap[b]? = some (.cells #[p, q, r, s] t (0, 0)) := set_cellsR _ (set_cellsR _ (set_cellsR _ (set_cellsR _ h)))
theorem below4 {w W : World} {n b : Nat} (hb : Below n w W) (h : n ≤ b) (p q r s : Value) : Below n w ((((W.setCell ⟨b, 0, none⟩ p).setCell ⟨b, 1, none⟩ q).setCell ⟨b, 2, none⟩ r).setCell ⟨b, 3, none⟩ s) :=
  (((hb.setCell (p := ⟨b, 0, none⟩) h p).setCell (p := ⟨b, 1, none⟩) h q).setCell (p := ⟨b, 2, none⟩) h r).setCell (p := ⟨b, 3, none⟩) h s
/-- what is known in the loop -/
structure OrK (w W : World) (A B : List UInt8) : Prop where
  below : Below w.heap.size w W
  bx : W.heap[w.heap.size]? = some (.cells (row4 A) 73 (0, 0))
  by' : W.heap[w.heap.size + 1]? = some (.cells (row4 B) 73 (0, 0))
  res : W.heap[w.heap.size + 2]? = some (.cells #[.int .u8 0, .int .u8 0, .int .u8 0, .int .u8 0] 73 (0, 0))
theorem ork_new (w : World) (p q r s p2 q2 r2 s2 : UInt8) : OrK w (((w.alloc (.cells #[.int .u8 p.toNat, .int .u8 q.toNat, .int .u8 r.toNat, .int .u8 s.toNat] 73)).alloc (.cells #[.int .u8 p2.toNat, .int .u8 q2.toNat, .int .u8 r2.toNat, .int .u8 s2.toNat] 73)).alloc (.cells #[.int .u8 0, .int .u8 0, .int .u8 0, .int .u8 0] 73)) [p, q, r, s] [p2, q2, r2, s2] := by
  have hb1 := (Below.refl w.heap.size w).alloc (Nat.le_refl _) (.cells #[.int .u8 p.toNat, .int .u8 q.toNat, .int .u8 r.toNat, .int .u8 s.toNat] 73)
  have hb2 := hb1.alloc hb1.size (.cells #[.int .u8 p2.toNat, .int .u8 q2.toNat, .int .u8 r2.toNat, .int .u8 s2.toNat] 73)
  have hb3 := hb2.alloc hb2.size (.cells #[.int .u8 0, .int .u8 0, .int .u8 0, .int .u8 0] 73)
  refine ⟨hb3, ?_, ?_, ?_⟩
  · exact (Below.heap_alloc _ _ w.heap.size (by simp; omega)).trans ((Below.heap_alloc _ _ w.heap.size (by simp)).trans (heap_alloc_new w _))
  · refine (Below.heap_alloc _ _ (w.heap.size + 1) (by simp)).trans ?_
    have := heap_alloc_new (w.alloc (.cells #[.int .u8 p.toNat, .int .u8 q.toNat, .int .u8 r.toNat, .int .u8 s.toNat] 73)) (.cells #[.int .u8 p2.toNat, .int .u8 q2.toNat, .int .u8 r2.toNat, .int .u8 s2.toNat] 73)
    rw [show (w.alloc (.cells #[.int .u8 p.toNat, .int .u8 q.toNat, .int .u8 r.toNat, .int .u8 s.toNat] 73)).heap.size = w.heap.size + 1 by simp] at this
    exact this
  · have := heap_alloc_new ((w.alloc (.cells #[.int .u8 p.toNat, .int .u8 q.toNat, .int .u8 r.toNat, .int .u8 s.toNat] 73)).alloc (.cells #[.int .u8 p2.toNat, .int .u8 q2.toNat, .int .u8 r2.toNat, .int .u8 s2.toNat] 73)) (.cells #[.int .u8 0, .int .u8 0, .int .u8 0, .int .u8 0] 73)
    simpa using this
theorem OrK.drew {w W : World} {A B : List UInt8} (h : OrK w W A B) : OrK w W.drew A B := ⟨h.below.drew, h.bx, h.by', h.res⟩
theorem OrK.set {w W : World} {A B A' : List UInt8} {j : Nat} {v : Value} (h : OrK w W A B) (hr : (row4 A).setIfInBounds j v = row4 A') : OrK w (W.setCell ⟨w.heap.size, j, none⟩ v) A' B := by
  refine ⟨h.below.setCell (p := ⟨w.heap.size, j, none⟩) (Nat.le_refl _) v, ?_, ?_, ?_⟩
  · rw [← hr]; exact set_cellsR v h.bx
  · rw [Below.heap_setCell _ _ _ _ (by simp)]; exact h.by'
  · rw [Below.heap_setCell _ _ _ _ (by simp)]; exact h.res
set_option maxRecDepth 100000 in
set_option maxHeartbeats 1000000 in
theorem iorof_any (x y : ByteArray) (hx : x.size = 4) (hy : y.size = 4) (w : World) :
    Calls Try.prog 47 #[arr4 x, arr4 y] w fun e w' => e = .returned (arr4 (xorS x y)) ∧ Below w.heap.size w w' := by
  obtain ⟨p, q, r, s, hd⟩ := four_bytes x hx
  obtain ⟨p2, q2, r2, s2, hd2⟩ := four_bytes y hy
  have hz : arr4 (xorS x y) = .agg (row4 (mixL 4 [p, q, r, s] [p2, q2, r2, s2])) := by
    unfold xorS
    rw [if_pos (by omega), hd, hd2]
    rfl
  have ha : arr4 x = .agg #[.int .u8 p.toNat, .int .u8 q.toNat, .int .u8 r.toNat, .int .u8 s.toNat] := by unfold arr4; rw [hd]; rfl
  have ha2 : arr4 y = .agg #[.int .u8 p2.toNat, .int .u8 q2.toNat, .int .u8 r2.toNat, .int .u8 s2.toNat] := by unfold arr4; rw [hd2]; rfl
  have K0 := Lib.hid (ork_new w p q r s p2 q2 r2 s2)
  rw [ha, ha2]
  have HZ := Lib.hid hz
  clear hd hd2 ha ha2 hz
  have X0 := u8_xor p p2; have X1 := u8_xor q q2; have X2 := u8_xor r r2; have X3 := u8_xor s s2
  go_enter Try.func47, Try.ntmps47
  go_wp2
  generalize (((w.alloc (.cells #[.int .u8 p.toNat, .int .u8 q.toNat, .int .u8 r.toNat, .int .u8 s.toNat] 73)).alloc (.cells #[.int .u8 p2.toNat, .int .u8 q2.toNat, .int .u8 r2.toNat, .int .u8 s2.toNat] 73)).alloc (.cells #[.int .u8 0, .int .u8 0, .int .u8 0, .int .u8 0] 73)) = W at *
  go_loopw [6] (fun i wr => ∃ k : Nat, k ≤ 4 ∧ i = .int .i64 k ∧ OrK w wr (mixL k [p, q, r, s] [p2, q2, r2, s2]) [p2, q2, r2, s2]) (fun i _ => 4 - (intOf i).toNat)
  case atStart => exact ⟨0, Nat.zero_le _, rfl, K0.out⟩
  case round =>
    obtain ⟨k, hk, rfl, K⟩ := hrel
    have HK := Lib.hid K
    rcases (by omega : k = 0 ∨ k = 1 ∨ k = 2 ∨ k = 3 ∨ k = 4) with rfl | rfl | rfl | rfl | rfl
    · obtain ⟨c0, c1, c2, c3, f0, f1, f2, f3⟩ := row4_of K.bx
      obtain ⟨d0, d1, d2, d3, -, -, -, -⟩ := row4_of K.by'
      clear K
      go_wp2
      refine wp_region_plan [0, 3] [false, true, true, false, true, true, true, true] 8 (by kernel_rfl) (by kernel_rfl) (by kernel_rfl) ?_
      simp only [maskRows, movesA, moveOf, List.getElem?_toArray, List.getElem?_cons_zero, List.getElem?_cons_succ, List.drop_succ_cons, List.drop_zero]
      repeat still_step
      refine wpStill_nil ?_
      intro K1 hK1
      go_wp2
      exact ⟨⟨1, by omega, rfl, HK.out.drew.set rfl⟩, by simp [intOf]⟩
    · obtain ⟨c0, c1, c2, c3, f0, f1, f2, f3⟩ := row4_of K.bx
      obtain ⟨d0, d1, d2, d3, -, -, -, -⟩ := row4_of K.by'
      clear K
      go_wp2
      refine wp_region_plan [0, 3] [false, true, true, false, true, true, true, true] 8 (by kernel_rfl) (by kernel_rfl) (by kernel_rfl) ?_
      simp only [maskRows, movesA, moveOf, List.getElem?_toArray, List.getElem?_cons_zero, List.getElem?_cons_succ, List.drop_succ_cons, List.drop_zero]
      repeat still_step
      refine wpStill_nil ?_
      intro K1 hK1
      go_wp2
      exact ⟨⟨2, by omega, rfl, HK.out.drew.set rfl⟩, by simp [intOf]⟩
    · obtain ⟨c0, c1, c2, c3, f0, f1, f2, f3⟩ := row4_of K.bx
      obtain ⟨d0, d1, d2, d3, -, -, -, -⟩ := row4_of K.by'
      clear K
      go_wp2
      refine wp_region_plan [0, 3] [false, true, true, false, true, true, true, true] 8 (by kernel_rfl) (by kernel_rfl) (by kernel_rfl) ?_
      simp only [maskRows, movesA, moveOf, List.getElem?_toArray, List.getElem?_cons_zero, List.getElem?_cons_succ, List.drop_succ_cons, List.drop_zero]
      repeat still_step
      refine wpStill_nil ?_
      intro K1 hK1
      go_wp2
      exact ⟨⟨3, by omega, rfl, HK.out.drew.set rfl⟩, by simp [intOf]⟩
    · obtain ⟨c0, c1, c2, c3, f0, f1, f2, f3⟩ := row4_of K.bx
      obtain ⟨d0, d1, d2, d3, -, -, -, -⟩ := row4_of K.by'
      clear K
      go_wp2
      refine wp_region_plan [0, 3] [false, true, true, false, true, true, true, true] 8 (by kernel_rfl) (by kernel_rfl) (by kernel_rfl) ?_
      simp only [maskRows, movesA, moveOf, List.getElem?_toArray, List.getElem?_cons_zero, List.getElem?_cons_succ, List.drop_succ_cons, List.drop_zero]
      repeat still_step
      refine wpStill_nil ?_
      intro K1 hK1
      go_wp2
      exact ⟨⟨4, by omega, rfl, HK.out.drew.set rfl⟩, by simp [intOf]⟩
    · obtain ⟨d0, d1, d2, d3, -, -, -, -⟩ := row4_of K.bx
      obtain ⟨c0, c1, c2, c3, f0, f1, f2, f3⟩ := row4_of K.res
      have hl := (Array.getElem?_eq_some_iff.1 K.res).1
      have hfin := set4 (.int .u8 (p ^^^ p2).toNat) (.int .u8 (q ^^^ q2).toNat) (.int .u8 (r ^^^ r2).toNat) (.int .u8 (s ^^^ s2).toNat) K.res
      have HF := Lib.hid (And.intro (arr4_load hfin (Below.refl _ _)) (below4 K.below (by omega : w.heap.size ≤ w.heap.size + 2) (.int .u8 (p ^^^ p2).toNat) (.int .u8 (q ^^^ q2).toNat) (.int .u8 (r ^^^ r2).toNat) (.int .u8 (s ^^^ s2).toNat)))
      clear K HK hfin
      go_wp2_with fail
      refine bodyPost_ret (v := .agg #[.int .u8 (p ^^^ p2).toNat, .int .u8 (q ^^^ q2).toNat, .int .u8 (r ^^^ r2).toNat, .int .u8 (s ^^^ s2).toNat]) ?_ rfl ⟨by rw [HZ.out]; rfl, HF.out.2⟩
      rw [results_cell (p := 4) (ty := 73) (by kernel_rfl)]
      have l2 := HF.out.1
      simp only [UInt8.toNat_xor] at l2
      simp [asAddr, Result.andThen, l2]
end Go.Proofs.Ytnknfmjpkphbpaa
/- Words of several readings: the model's copy, walked. -/
namespace Go.Proofs.Ytnknfmjpkphbpaa
open Go.ChangeShapes Go.WideShapes Go.ChangeAt Go.RowKit Go.BigFrame
set_option linter.unusedVariables false

set_option maxRecDepth 100000 in
set_option maxHeartbeats 1000000 in
theorem scopy_any (v : Value) (ks : List K2) (y : ByteArray) (w : World) (h : keysAt w v ks) (hs : ks.length ≤ 2000000) :
    Calls Try.prog 65 #[.agg #[v, .string y]] w fun e w' => ∃ v', e = .returned (.agg #[v', .string y]) ∧ w'.ownsRow w.heap.size 41 2 v' ks.length (keyCells ks) ∧ Below w.heap.size w w' := by
  have HP := Lib.hid (cpc_new w v y)
  have e2 : ((w.alloc (.cells #[v, .string y] 26)).alloc (.cells #[.slice none 0 0, .string ⟨#[]⟩] 26)).heap.size = w.heap.size + 2 := by simp
  have HZ := Lib.hid e2
  have hk2 := keysAt_below h (HP.out.below.alloc HP.out.below.size (.cells #[] 41)).drew
  have hown := (World.ownsRow_made (base := w.heap.size + 2) (e := 41) (size := 2) ((w.alloc (.cells #[v, .string y] 26)).alloc (.cells #[.slice none 0 0, .string ⟨#[]⟩] 26)) #[] 0 (by simp) (by unfold maxLen; omega) rfl).drew
  rw [e2] at hown
  obtain ⟨x0, x1, -, -⟩ := row2_of HP.out.row
  have hlt := (Array.getElem?_eq_some_iff.1 HP.out.row).1
  obtain ⟨a, cap, hv, -, -⟩ := h
  subst hv
  clear e2
  go_enter Try.func65, Try.ntmps65
  go_wp2_with fail
  generalize (w.alloc (.cells #[.slice a ks.length cap, .string y] 26)).alloc (.cells #[.slice none 0 0, .string ⟨#[]⟩] 26) = W at *
  go_region_law (first
    | (refine step_append_key rfl (.tmp 3) (.tmp 5) rfl hown _ ks hk2 (by simp [Act.eval, Act.put, HZ.out]) (by simp [Act.eval, Act.put]) (by omega) (by show _ ≤ (W.alloc _).heap.size; simp; omega) ?_
       intro v3 w3 hown3 hgr3 hw3
       obtain ⟨a3, n3, k3, rfl⟩ := own_shape hown3
       have HP3 := Lib.hid ((HP.out.next (own := none) (W' := (W.alloc (.cells #[] 41)).drew) (grown_of_below' ((Below.refl W.heap.size W).alloc (Nat.le_refl _) _).drew none) (fun g e => by cases e)).next hgr3 (fun g e => by cases e; exact Nat.le_refl _))
       have HO3 := Lib.hid hown3
       obtain ⟨c0, c1, f0, f1⟩ := row2_of HP3.out.res
       obtain ⟨x0, x1, -, -⟩ := row2_of HP3.out.row
       clear hown3 hgr3 hw3 hown hk2)
    | fail)
  all_goals
    simp only [Nat.zero_add, List.nil_append] at HO3
    have L2 := Lib.hid (cd_res HP3.out.res (.slice a3 n3 k3) y)
    have HF := Lib.hid (And.intro (own_base (own_set2 HO3.out (by omega : w.heap.size + 1 < w.heap.size + 2) (.slice a3 n3 k3) (.string y)) (by omega : w.heap.size ≤ w.heap.size + 2)) (below2 HP3.out.below (by omega : w.heap.size ≤ w.heap.size + 1) (.slice a3 n3 k3) (.string y)))
    clear HP3 HO3
    go_wp2_with fail
    refine bodyPost_ret (v := .agg #[.slice a3 n3 k3, .string y]) ?_ rfl ⟨_, rfl, HF.out.1, HF.out.2⟩
    rw [results_cell (p := 2) (ty := 26) (by kernel_rfl)]
    have l2 := L2.out
    simp [asAddr, Result.andThen, l2]
end Go.Proofs.Ytnknfmjpkphbpaa
/- Readings in the laws: one made anew. -/
namespace Go.Proofs.Ytnknfmjpkphbpaa
open Go.ChangeShapes Go.WideShapes Go.ChangeAt Go.RowKit Go.BigFrame
set_option linter.unusedVariables false

theorem tokey_exact (n s : Int) (w : World) : Calls Try.prog 74 #[.agg #[.int .i64 n, .int .i64 s]] w fun e w' => e = .returned (.agg #[.int .i64 n, .int .i64 s]) ∧
    w' = ((w.alloc (.cells #[.int .i64 n, .int .i64 s] 55)).alloc (.cells #[.int .i64 n, .int .i64 s] 41)).alloc (.cells #[.int .i64 n, .int .i64 s] 41) := by
  go_enter Try.func74, Try.ntmps74
  go_wp2
  refine bodyPost_ret (v := .agg #[.int .i64 n, .int .i64 s]) ?_ rfl ⟨rfl, rfl⟩
  rw [results_cell (p := 2) (ty := 41) (by kernel_rfl)]
  have hl := run_loadVar_row (P := Try.prog) (((w.alloc (.cells #[.int .i64 n, .int .i64 s] 55)).alloc (.cells #[.int .i64 n, .int .i64 s] 41)).alloc (.cells #[.int .i64 n, .int .i64 s] 41)) (w.heap.size + 1) 41 41 #[.int .i64 n, .int .i64 s] (0, 0) _ (heap_mid w _ _ _) Try.underlying41 rfl (by kernel_rfl)
  simp [asAddr, Result.andThen, hl]
theorem toreading_any (r : R3) (w : World) : Calls Try.prog 38 #[rv r] w fun e w' => e = .returned (rv r) ∧ Below w.heap.size w w' := by
  obtain ⟨⟨n, s⟩, x⟩ := r
  unfold rv
  dsimp only
  go_enter Try.func38, Try.ntmps38
  go_wp2_with fail
  refine (tokey_exact n s _).mono ?_
  rintro e w1 ⟨rfl, rfl⟩
  go_wp2_with fail
  have h0 := heap_mid w (.cells #[.int .i64 n, .int .i64 s, .string x] 57) (.cells #[.int .i64 n, .int .i64 s, .string x] 43) (.cells #[.int .i64 n, .int .i64 s, .string x] 43)
  have h1 := (Below.heap_alloc _ (.cells #[.int .i64 n, .int .i64 s] 55) _ (Array.getElem?_eq_some_iff.1 h0).1).trans h0
  have h2 := (Below.heap_alloc _ (.cells #[.int .i64 n, .int .i64 s] 41) _ (Array.getElem?_eq_some_iff.1 h1).1).trans h1
  have h3 := (Below.heap_alloc _ (.cells #[.int .i64 n, .int .i64 s] 41) _ (Array.getElem?_eq_some_iff.1 h2).1).trans h2
  have hB := (((((((Below.refl w.heap.size w).alloc (Nat.le_refl _) (.cells #[.int .i64 n, .int .i64 s, .string x] 57)).alloc (by simp) (.cells #[.int .i64 n, .int .i64 s, .string x] 43)).alloc (by simp; omega) (.cells #[.int .i64 n, .int .i64 s, .string x] 43)).alloc (by simp; omega) (.cells #[.int .i64 n, .int .i64 s] 55)).alloc (by simp; omega) (.cells #[.int .i64 n, .int .i64 s] 41)).alloc (by simp; omega) (.cells #[.int .i64 n, .int .i64 s] 41))
  refine bodyPost_ret (v := .agg #[.int .i64 n, .int .i64 s, .string x]) ?_ rfl ⟨rfl, hB⟩
  rw [results_cell (p := 2) (ty := 43) (by kernel_rfl)]
  have hl := run_loadVar_row (P := Try.prog) _ (w.heap.size + 1) 43 43 #[.int .i64 n, .int .i64 s, .string x] (0, 0) _ h3 Try.underlying43 rfl (by kernel_rfl)
  simp [asAddr, Result.andThen, hl]
theorem infoR : (Try.prog.info? 43).map (fun i => (i.zero, i.size, i.bytes)) = some (some (.agg #[.int .i64 0, .int .i64 0, .string ⟨#[]⟩]), 3, 32) := by kernel_rfl
theorem set_rd (ks : List R3) (k : Nat) (p q : Int) (y : ByteArray) (u1 u2 u3 : Value) (rest : List Value) (hk : k < ks.length) (hx : ks.getD k r0 = ((p, q), y)) :
    (((rdCells (ks.take k) ++ u1 :: u2 :: u3 :: rest).set (k * 3) (.int .i64 p)).set (k * 3 + 1) (.int .i64 q)).set (k * 3 + 2) (.string y) = rdCells (ks.take (k + 1)) ++ rest := by
  have hl := rdCells_len (ks.take k)
  have hl2 : (rdCells (ks.take k)).length = k * 3 := by rw [hl]; simp; omega
  rw [List.take_succ_eq_append_getElem hk, rdCells_snoc, show ks[k] = ((p, q), y) by rw [← hx]; simp [List.getD, hk]]
  rw [List.set_append_right _ _ (by omega), hl2, Nat.sub_self, List.set_cons_zero, List.set_append_right _ _ (by omega), hl2, show k * 3 + 1 - k * 3 = 1 by omega, List.set_append_right _ _ (by omega), hl2, show k * 3 + 2 - k * 3 = 2 by omega]
  simp
set_option maxRecDepth 100000 in
set_option maxHeartbeats 1000000 in
theorem toreadings_any (v : Value) (ks : List R3) (w : World) (h : rdAt w v ks) (hs : ks.length ≤ 2000000) : Calls Try.prog 40 #[v] w fun e w' => ∃ g, e = .returned (.slice (some ⟨g, 0, none⟩) ks.length ks.length) ∧ w.heap.size ≤ g ∧
    w'.ownsRow w.heap.size 43 3 (.slice (some ⟨g, 0, none⟩) ks.length ks.length) ks.length (rdCells ks) ∧ Below w.heap.size w w' := by
  obtain ⟨a, cap, rfl, hcap, hcells⟩ := h
  obtain ⟨i0, hi, hz0, hz1, hz2⟩ := info_parts infoR
  obtain ⟨W, hmk, hown0, hgr0⟩ := run_make_full (P := Try.prog) w w.heap.size 34 43 i0 _ 3 Try.underlying34 hi hz0 hz1 .i64 .i64 ks.length (by rw [hz2]; omega) (by unfold maxLen; omega) (Nat.le_refl _)
  have hb0 : Below w.heap.size w W := (Below.refl _ _).grown hgr0 (Nat.le_refl _) (by simp)
  have hrest : (madeCells (Value.agg #[.int .i64 0, .int .i64 0, .string ⟨#[]⟩]).cells (ks.length * 3)).toList.length = ks.length * 3 := hown0.1
  generalize (madeCells (Value.agg #[.int .i64 0, .int .i64 0, .string ⟨#[]⟩]).cells (ks.length * 3)).toList = Z at *
  go_enter Try.func40, Try.ntmps40
  go_wp2
  clear hmk hgr0
  go_loopw [4] (fun i wr => ∃ (k : Nat) (rest : List Value), k ≤ ks.length ∧ i = .int .i64 k ∧ wr.ownsRow w.heap.size 43 3 (.slice (some ⟨w.heap.size, 0, none⟩) ks.length ks.length) ks.length (rdCells (ks.take k) ++ rest) ∧ Below w.heap.size w wr)
    (fun i _ => ks.length - (intOf i).toNat)
  case atStart => exact ⟨0, Z, Nat.zero_le _, rfl, by simpa [rdCells] using hown0, hb0⟩
  case round =>
    obtain ⟨k, rest, hk, rfl, hown, hbr⟩ := hrel
    clear hown0 hb0 hrest
    by_cases hlt : k < ks.length
    · obtain ⟨ga, off, rfl, hg, hcs⟩ := hcells.resolve_left (by omega)
      have hc := hcs k hlt
      have z0 : (0 : Int) ≤ (k : Int) := by omega
      have z1 : (k : Int) < (ks.length : Int) := by omega
      have d1 : wr.cell? ⟨ga, off + k * 3, none⟩ = some (.int .i64 (ks.getD k r0).1.1) := by rw [hbr.cell (p := ⟨ga, off + k * 3, none⟩) hg]; exact hc.1
      have d2 : wr.cell? ⟨ga, off + k * 3 + 1, none⟩ = some (.int .i64 (ks.getD k r0).1.2) := by rw [hbr.cell (p := ⟨ga, off + k * 3 + 1, none⟩) hg]; exact hc.2.1
      have d3 : wr.cell? ⟨ga, off + k * 3 + 2, none⟩ = some (.string (ks.getD k r0).2) := by rw [hbr.cell (p := ⟨ga, off + k * 3 + 2, none⟩) hg]; exact hc.2.2
      clear hcs hc hcells
      have hkt : (ks.take k).length = k := by simp; omega
      have hkl := rdCells_len (ks.take k)
      have hrl : rest.length = (ks.length - k) * 3 := by
        have := hown.1
        rw [List.length_append, hkl, hkt] at this
        omega
      obtain ⟨u1, u2, u3, rest2, rfl⟩ : ∃ u1 u2 u3 r, rest = u1 :: u2 :: u3 :: r := by
        match rest, hrl with
        | [], h => simp at h; omega
        | [_], h => simp at h; omega
        | [_, _], h => simp at h; omega
        | a :: b :: c :: r, _ => exact ⟨a, b, c, r, rfl⟩
      generalize hkx : ks.getD k r0 = kx at *
      obtain ⟨⟨p, q⟩, y⟩ := kx
      dsimp only at d1 d2 d3
      have hset := set_rd ks k p q y u1 u2 u3 rest2 hlt hkx
      have HSET := Lib.hid hset
      have HT := Lib.hid (toreading_any ((p, q), y) wr)
      clear hkx hset hrl
      go_wp2_with fail
      refine HT.out.mono ?_
      rintro e w2 ⟨rfl, hb2⟩
      have hown2 := own_below hown hb2
      have hbq := hbr.trans (hb2.mono hbr.size)
      clear hown hbr hb2 HT d1 d2 d3
      have st1 := hown2.stored (k * 3) (.int .i64 p)
      have st2 := st1.1.stored (k * 3 + 1) (.int .i64 q)
      have st3 := st2.1.stored (k * 3 + 2) (.string y)
      rw [HSET.out] at st3
      have hbz := ((hbq.setCell (p := ⟨w.heap.size, k * 3, none⟩) (Nat.le_refl _) (.int .i64 p)).setCell (p := ⟨w.heap.size, k * 3 + 1, none⟩) (Nat.le_refl _) (.int .i64 q)).setCell (p := ⟨w.heap.size, k * 3 + 2, none⟩) (Nat.le_refl _) (.string y)
      have R := Lib.hid (And.intro st3.1 hbz)
      clear st1 st2 st3 hbz hbq HSET
      obtain ⟨s1, s2⟩ := own_cell hown2 (k * 3) (by omega)
      obtain ⟨s3, s4⟩ := own_cell hown2 (k * 3 + 1) (by omega)
      obtain ⟨s5, s6⟩ := own_cell hown2 (k * 3 + 2) (by omega)
      unfold rv
      dsimp only
      go_wp2
      exact ⟨⟨k + 1, rest2, by omega, by go_num, R.out.1, R.out.2⟩, by simp [intOf]; omega⟩
    · obtain rfl : k = ks.length := by omega
      rw [List.take_length] at hown
      have hr0 : rest = [] := by
        have h1 := hown.1
        rw [List.length_append, rdCells_len] at h1
        exact List.eq_nil_of_length_eq_zero (by omega)
      subst hr0
      rw [List.append_nil] at hown
      go_wp2
      go_ret
      exact ⟨w.heap.size, rfl, Nat.le_refl _, hown, hbr⟩
end Go.Proofs.Ytnknfmjpkphbpaa
/- Readings put behind readings. -/
namespace Go.Proofs.Ytnknfmjpkphbpaa
open Go.ChangeShapes Go.WideShapes Go.ChangeAt Go.RowKit Go.BigFrame
set_option linter.unusedVariables false

theorem addr_plus (g off j : Nat) : (⟨g, off, none⟩ : Addr).add j = ⟨g, off + j, none⟩ := by
  unfold Addr.add
  split
  · rename_i h; simp [h]
  · rfl
theorem rdCells_one (rs : List R3) : ∀ u ∈ rdCells rs, u.oneCell' = true := by
  intro u hu
  simp only [rdCells, List.mem_flatMap, List.mem_cons, List.not_mem_nil, or_false] at hu
  obtain ⟨k, _, rfl | rfl | rfl⟩ := hu <;> rfl
theorem rdCells_at {w : World} {g off : Nat} {rs : List R3} (h : ∀ i, i < rs.length → w.cell? ⟨g, off + i * 3, none⟩ = some (.int .i64 (rs.getD i r0).1.1) ∧ w.cell? ⟨g, off + i * 3 + 1, none⟩ = some (.int .i64 (rs.getD i r0).1.2) ∧
      w.cell? ⟨g, off + i * 3 + 2, none⟩ = some (.string (rs.getD i r0).2)) :
    ∀ j u, (rdCells rs)[j]? = some u → w.cell? ((⟨g, off, none⟩ : Addr).add j) = some u := by
  intro j u hu
  have hj : j < rs.length * 3 := by rw [← rdCells_len]; exact (List.getElem?_eq_some_iff.1 hu).1
  have hc := rdCells_get rs (j / 3) (by omega)
  have hw := h (j / 3) (by omega)
  rw [addr_plus]
  rcases (by omega : j = j / 3 * 3 ∨ j = j / 3 * 3 + 1 ∨ j = j / 3 * 3 + 2) with e | e | e
  · rw [← e] at hc
    rw [show off + j / 3 * 3 = off + j by omega] at hw
    rw [hc.1] at hu; cases hu
    exact hw.1
  · rw [← e] at hc
    rw [show off + j / 3 * 3 + 1 = off + j by omega] at hw
    rw [hc.2.1] at hu; cases hu
    exact hw.2.1
  · rw [← e] at hc
    rw [show off + j / 3 * 3 + 2 = off + j by omega] at hw
    rw [hc.2.2] at hu; cases hu
    exact hw.2.2
theorem rd_append_none {w : World} {base n : Nat} {v : Value} {xs : List Value} (h : w.ownsRow base 43 3 v n xs) (ar : Option Addr) (cr : Nat) (ty : TypeId) :
    (Builtin.append_ #[34, 34] ty #[v, .slice ar 0 cr]).run Try.prog w = .ok v w := by
  obtain ⟨i0, hi, hz0, hz1, hz2⟩ := info_parts infoR
  have u := Try.underlying34
  rcases h.2 with ⟨rfl, h0⟩ | ⟨g, cap, cur, rfl, _, _, hn, _⟩
  · cases ar <;> simp [Builtin.append_, run_underlying u, sizeOf, typeInfo, hi, storeCells, go_sem]
  · cases ar <;> simp [Builtin.append_, run_underlying u, sizeOf, typeInfo, hi, storeCells, hn, go_sem]
/-- append of readings to what is owned -/
theorem run_append_rd {w : World} {base n : Nat} {v : Value} {xs : List Value} (hown : w.ownsRow base 43 3 v n xs) (u : Value) (rs : List R3) (hu : rdAt w u rs) (ty : TypeId) (hn : n + rs.length ≤ 4000000) (hbase : base ≤ w.heap.size) :
    ∃ v' w', (Builtin.append_ #[34, 34] ty #[v, u]).run Try.prog w = .ok v' w' ∧ w'.ownsRow base 43 3 v' (n + rs.length) (xs ++ rdCells rs) ∧ w.grownBy w' v.ownBlock := by
  obtain ⟨i0, hi, hz0, hz1, hz2⟩ := info_parts infoR
  obtain ⟨a, cap, rfl, hcap, hcells⟩ := hu
  by_cases h0 : rs.length = 0
  · obtain rfl : rs = [] := List.length_eq_zero_iff.1 h0
    exact ⟨v, w, rd_append_none hown a cap ty, by simpa [rdCells] using hown, World.grownBy.refl _ _⟩
  · obtain ⟨g, off, rfl, hg, hcs⟩ := hcells.resolve_left h0
    obtain ⟨v', w', hr, h2, h3, h4, h5⟩ := run_append_own_at (P := Try.prog) w base 34 ty 43 i0 (.agg #[.int .i64 0, .int .i64 0, .string ⟨#[]⟩]) 3 32 Try.underlying34 hi hz0 hz1 hz2 rfl (by decide) v n xs hown ⟨g, off, none⟩ rs.length cap (rdCells rs) (rdCells_len rs) (rdCells_at hcs) (rdCells_one rs) (by unfold maxLen; omega) (by omega) hbase
    exact ⟨v', w', hr, h2, h3⟩
theorem wpList_append_rd {ops : Array Oper} {rest : List Oper} {o : Oper} {a : Act} {w : World} {Q : Exit → Act → World → Prop} (hgd : o.guard = none) (s x : Operand)
    (ho : o.op = .call { callee := .builtin .append, args := #[s, x], argTypes := #[34, 34] })
    {base n : Nat} {v : Value} {xs : List Value} (hown : w.ownsRow base 43 3 v n xs) (u : Value) (rs : List R3) (hu : rdAt w u rs) (hs : a.eval s = v) (hx : a.eval x = u) (hn : n + rs.length ≤ 4000000) (hbase : base ≤ w.heap.size)
    (h : ∀ v' w', w'.ownsRow base 43 3 v' (n + rs.length) (xs ++ rdCells rs) → w.grownBy w' v.ownBlock → wpList Try.prog ops Q rest (a.put o.dst v') w') : wpList Try.prog ops Q (o :: rest) a w := by
  refine wpList_plain hgd fun K hK => ?_
  obtain ⟨v', w', hr, h2, h3⟩ := run_append_rd hown u rs hu o.type hn hbase
  unfold Oper.wp execOp
  simp only [ho, resolve, invoke, builtin, Sem.run_bind, Sem.run_pure, Result.andThen_ok, List.map_toArray, List.map_cons, List.map_nil, hs, hx, hr]
  exact hK _ _ (h v' w' h2 h3)
/-- the first i of readings; those from i on -/
theorem rdAt_take {w : World} {a : Option Addr} {cap : Nat} {rs : List R3} (h : rdAt w (.slice a rs.length cap) rs) (i c : Nat) (hi : i ≤ rs.length) (hc : i ≤ c) : rdAt w (.slice a i c) (rs.take i) := by
  obtain ⟨a', cap', e, h2, h3⟩ := h
  cases e
  refine ⟨a, c, by simp [Nat.min_eq_left hi], by simp; omega, ?_⟩
  rcases h3 with h3 | ⟨g, off, rfl, hg, hcs⟩
  · exact .inl (by simp; omega)
  · refine .inr ⟨g, off, rfl, hg, fun j hj => ?_⟩
    have hj2 : j < i := by simp at hj; omega
    have := hcs j (by omega)
    simpa [List.getD, List.getElem?_take, hj2] using this
theorem rdAt_drop {w : World} {g off n cap : Nat} {rs : List R3} (h : rdAt w (.slice (some ⟨g, off, none⟩) rs.length cap) rs) (i c : Nat) (hi : i ≤ rs.length) (hn : n = rs.length - i) (hc : n ≤ c) : rdAt w (.slice (some ⟨g, off + i * 3, none⟩) n c) (rs.drop i) := by
  obtain ⟨a', cap', e, h2, h3⟩ := h
  cases e
  refine ⟨some ⟨g, off + i * 3, none⟩, c, by simp [hn], by simp; omega, ?_⟩
  rcases h3 with h3 | ⟨g', off', e, hg, hcs⟩
  · exact .inl (by simp; omega)
  · cases e
    refine .inr ⟨g, off + i * 3, rfl, hg, fun j hj => ?_⟩
    have := hcs (i + j) (by simp at hj; omega)
    rw [show off + (i + j) * 3 = off + i * 3 + j * 3 by omega] at this
    simpa [List.getD, List.getElem?_drop] using this
end Go.Proofs.Ytnknfmjpkphbpaa
/- The model's chapter 4, walked: readings that are right, and rise. -/
namespace Go.Proofs.Ytnknfmjpkphbpaa
open Go.ChangeShapes Go.WideShapes Go.ChangeAt Go.RowKit Go.BigFrame
set_option linter.unusedVariables false

set_option maxRecDepth 100000 in
set_option maxHeartbeats 1000000 in
theorem sreadingsok_any (v : Value) (rs : List R3) (w : World) (h : rdAt w v rs) (hs : rs.length ≤ 2000000) : Calls Try.prog 23 #[v] w fun e w' => e = .returned (.bool (rdsOkR rs)) ∧ Below w.heap.size w w' := by
  obtain ⟨a, cap, rfl, hcap, hcells⟩ := h
  go_enter Try.func23, Try.ntmps23
  go_wp2
  go_loopw [3] (fun i wr => ∃ k : Nat, k ≤ rs.length ∧ i = .int .i64 k ∧ (List.range k).all (rdStep rs) = true ∧ Below w.heap.size w wr) (fun i _ => rs.length - (intOf i).toNat)
  case atStart => exact ⟨0, Nat.zero_le _, rfl, rfl, Below.refl _ _⟩
  case round =>
    obtain ⟨k, hk, rfl, hall, hb⟩ := hrel
    by_cases hlt : k < rs.length
    · obtain ⟨g, off, rfl, hg, hcs⟩ := hcells.resolve_left (by omega)
      have z0 : (0 : Int) ≤ (k : Int) := by omega
      have z1 : (k : Int) < (rs.length : Int) := by omega
      have c1 := hcs k hlt
      have HK := Lib.hid (fun w => sreadingok_any (rs.getD k r0) w)
      have hst : rdStep rs k = (rdOkB (rs.getD k r0) && (decide (k = 0) || aheadB (rs.getD (k - 1) r0).1 (rs.getD k r0).1)) := rfl
      have hsu := rdsR_succ rs k
      have HST := Lib.hid hst; clear hst
      cases hko : rdOkB (rs.getD k r0) with
      | false =>
        rw [hko] at HK HST
        have hf : rdsOkR rs = false := rdStep_false hlt (by rw [HST.out]; rfl)
        have HF := Lib.hid hf
        clear hcs hcells hko hf HST hsu
        generalize rs.getD k r0 = kx at *
        have L1 := fun w' hb => rd_load c1 (w' := w') hg hb
        clear c1
        go_wp2
        refine wp_region_below w (by kernel_rfl) (by kernel_rfl) hb ?_
        repeat (first
          | go_big_quiet_skip
          | (go_big_quiet_want
             first
               | (go_big_quiet_op; go_big_quiet_on)
               | (refine q_load 43 _ _ _ rfl rfl L1 ?_; simp only [Act.put, List.setIfInBounds_toArray, List.set_cons_zero, List.set_cons_succ]; go_big_quiet_on)
               | (go_big_quiet_op; refine ⟨_, fun _ _ => rfl, ?_⟩; go_big_quiet_on)
               | (go_big_quiet_op; apply Exists.intro; refine ⟨fun w' hw' => ?_, ?_⟩
                  · first
                    | (with_reducible refine (HK.out w').mono ?_
                       rintro e w2 ⟨rfl, hb2⟩
                       exact ⟨rfl, hw'.trans (hb2.mono hw'.size)⟩)
                  go_big_quiet_on)))
        refine wpQuiet_nil ?_
        intro w2 hb2
        clear L1 HK hb
        go_wp2
        go_ret
        exact ⟨by rw [HF.out]; rfl, hb2⟩
      | true =>
        rw [hko] at HK HST
        by_cases hk0 : k = 0
        · subst hk0
          have ht : (List.range (0 + 1)).all (rdStep rs) = true := by rw [hsu, HST.out]; rfl
          have HT := Lib.hid ht
          clear hcs hcells hko ht HST hsu hall
          generalize rs.getD 0 r0 = kx at *
          have L1 := fun w' hb => rd_load c1 (w' := w') hg hb
          clear c1
          have y0 : ¬ (0 : Int) < ((0 : Nat) : Int) := by omega
          simp only [Nat.zero_mul, Nat.add_zero] at L1
          go_wp2
          refine wp_region_below w (by kernel_rfl) (by kernel_rfl) hb ?_
          repeat (first
            | go_big_quiet_skip
            | (go_big_quiet_want
               first
                 | (go_big_quiet_op; go_big_quiet_on)
                 | (refine q_load 43 _ _ _ rfl rfl L1 ?_; simp only [Act.put, List.setIfInBounds_toArray, List.set_cons_zero, List.set_cons_succ]; go_big_quiet_on)
                 | (go_big_quiet_op; refine ⟨_, fun _ _ => rfl, ?_⟩; go_big_quiet_on)
                 | (go_big_quiet_op; apply Exists.intro; refine ⟨fun w' hw' => ?_, ?_⟩
                    · first
                      | (with_reducible refine (HK.out w').mono ?_
                         rintro e w2 ⟨rfl, hb2⟩
                         exact ⟨rfl, hw'.trans (hb2.mono hw'.size)⟩)
                    go_big_quiet_on)))
          refine wpQuiet_nil ?_
          intro w2 hb2
          clear L1 HK hb
          go_wp2
          exact ⟨⟨1, by omega, by go_num, HT.out, hb2⟩, by simp [intOf]; omega⟩
        · have ha := hcs (k - 1) (by omega)
          have HA := Lib.hid (fun w => sahead_any (rs.getD (k - 1) r0).1 (rs.getD k r0).1 w)
          have d0 : decide (k = 0) = false := by simpa using hk0
          rw [d0] at HST
          have y0 : (0 : Int) < (k : Int) := by omega
          have yk : 0 < k := by omega
          have y1 : (0 : Int) ≤ (k : Int) - 1 := by omega
          have y2 : (k : Int) - 1 < (rs.length : Int) := by omega
          have ew : IntKind.i64.wrap ((k : Int) - 1) = (k : Int) - 1 := IntWalk.i64_in _ (by omega)
          have et : ((k : Int) - 1).toNat = k - 1 := by omega
          cases hah : aheadB (rs.getD (k - 1) r0).1 (rs.getD k r0).1 with
          | false =>
            rw [hah] at HA HST
            have hf : rdsOkR rs = false := rdStep_false hlt (by rw [HST.out]; rfl)
            have HF := Lib.hid hf
            clear hcs hcells hko hf HST hsu hah
            generalize rs.getD k r0 = kx at *
            generalize rs.getD (k - 1) r0 = ky at *
            have L1 := fun w' hb => rd_load c1 (w' := w') hg hb
            have L2 := fun w' hb => rdk_load c1 (w' := w') hg hb
            have L3 := fun w' hb => rdk_load ha (w' := w') hg hb
            clear c1 ha
            go_wp2
            refine wp_region_below w (by kernel_rfl) (by kernel_rfl) hb ?_
            repeat (first
              | go_big_quiet_skip
              | (go_big_quiet_want
                 first
                   | (go_big_quiet_op; go_big_quiet_on)
                   | (refine q_load 43 _ _ _ rfl rfl L1 ?_; simp only [Act.put, List.setIfInBounds_toArray, List.set_cons_zero, List.set_cons_succ]; go_big_quiet_on)
                   | (refine q_load 41 _ _ _ rfl rfl L2 ?_; simp only [Act.put, List.setIfInBounds_toArray, List.set_cons_zero, List.set_cons_succ]; go_big_quiet_on)
                   | (refine q_load 41 _ _ _ rfl rfl L3 ?_; simp only [Act.put, List.setIfInBounds_toArray, List.set_cons_zero, List.set_cons_succ]; go_big_quiet_on)
                   | (go_big_quiet_op; refine ⟨_, fun _ _ => rfl, ?_⟩; go_big_quiet_on)
                   | (go_big_quiet_op; apply Exists.intro; refine ⟨fun w' hw' => ?_, ?_⟩
                      · first
                        | (with_reducible refine (HK.out w').mono ?_
                           rintro e w2 ⟨rfl, hb2⟩
                           exact ⟨rfl, hw'.trans (hb2.mono hw'.size)⟩)
                        | (with_reducible refine (HA.out w').mono ?_
                           rintro e w2 ⟨rfl, hb2⟩
                           exact ⟨rfl, hw'.trans (hb2.mono hw'.size)⟩)
                      go_big_quiet_on)))
            refine wpQuiet_nil ?_
            intro w2 hb2
            clear L1 L2 L3 HK HA hb
            go_wp2
            go_ret
            exact ⟨by rw [HF.out]; rfl, hb2⟩
          | true =>
            rw [hah] at HA HST
            have ht : (List.range (k + 1)).all (rdStep rs) = true := by rw [hsu, hall, HST.out]; rfl
            have HT := Lib.hid ht
            clear hcs hcells hko ht HST hsu hah hall
            generalize rs.getD k r0 = kx at *
            generalize rs.getD (k - 1) r0 = ky at *
            have L1 := fun w' hb => rd_load c1 (w' := w') hg hb
            have L2 := fun w' hb => rdk_load c1 (w' := w') hg hb
            have L3 := fun w' hb => rdk_load ha (w' := w') hg hb
            clear c1 ha
            go_wp2
            refine wp_region_below w (by kernel_rfl) (by kernel_rfl) hb ?_
            repeat (first
              | go_big_quiet_skip
              | (go_big_quiet_want
                 first
                   | (go_big_quiet_op; go_big_quiet_on)
                   | (refine q_load 43 _ _ _ rfl rfl L1 ?_; simp only [Act.put, List.setIfInBounds_toArray, List.set_cons_zero, List.set_cons_succ]; go_big_quiet_on)
                   | (refine q_load 41 _ _ _ rfl rfl L2 ?_; simp only [Act.put, List.setIfInBounds_toArray, List.set_cons_zero, List.set_cons_succ]; go_big_quiet_on)
                   | (refine q_load 41 _ _ _ rfl rfl L3 ?_; simp only [Act.put, List.setIfInBounds_toArray, List.set_cons_zero, List.set_cons_succ]; go_big_quiet_on)
                   | (go_big_quiet_op; refine ⟨_, fun _ _ => rfl, ?_⟩; go_big_quiet_on)
                   | (go_big_quiet_op; apply Exists.intro; refine ⟨fun w' hw' => ?_, ?_⟩
                      · first
                        | (with_reducible refine (HK.out w').mono ?_
                           rintro e w2 ⟨rfl, hb2⟩
                           exact ⟨rfl, hw'.trans (hb2.mono hw'.size)⟩)
                        | (with_reducible refine (HA.out w').mono ?_
                           rintro e w2 ⟨rfl, hb2⟩
                           exact ⟨rfl, hw'.trans (hb2.mono hw'.size)⟩)
                      go_big_quiet_on)))
            refine wpQuiet_nil ?_
            intro w2 hb2
            clear L1 L2 L3 HK HA hb
            go_wp2
            exact ⟨⟨k + 1, by omega, by go_num, HT.out, hb2⟩, by simp [intOf]; omega⟩
    · obtain rfl : k = rs.length := by omega
      have HF := Lib.hid hall
      go_wp2
      go_ret
      exact ⟨by unfold rdsOkR; rw [HF.out]; rfl, hb⟩
end Go.Proofs.Ytnknfmjpkphbpaa
/- The model's chapter 4, walked: the load of a key. -/
namespace Go.Proofs.Ytnknfmjpkphbpaa
open Go.ChangeShapes Go.WideShapes Go.ChangeAt Go.RowKit Go.BigFrame
set_option linter.unusedVariables false

set_option maxRecDepth 100000 in
set_option maxHeartbeats 2000000 in
theorem sloadof_any (v : Value) (rs : List R3) (x : K2) (w : World) (h : rdAt w v rs) (hs : rs.length ≤ 2000000) : Calls Try.prog 58 #[v, kv x] w fun e w' => e = .returned (loadV (loadO rs x)) ∧ Below w.heap.size w w' := by
  obtain ⟨a, cap, rfl, hcap, hcells⟩ := h
  obtain ⟨n, s⟩ := x
  unfold kv
  dsimp only
  have hW : ∀ w' : World, Below (w.heap.size + 1) (w.alloc (.cells #[.int .i64 n, .int .i64 s] 41)) w' → (loadVar 41 ⟨w.heap.size, 0, none⟩).run Try.prog w' = .ok (kv (n, s)) w' := fun w' hb' =>
    key_load (k := (n, s)) (w := w.alloc (.cells #[.int .i64 n, .int .i64 s] 41)) (g := w.heap.size) (o := 0) ⟨by simp, by simp⟩ (by simp) (by simpa using hb')
  have hB0 : Below w.heap.size w (w.alloc (.cells #[.int .i64 n, .int .i64 s] 41)) := (Below.refl _ _).alloc (Nat.le_refl _) _
  have hsz0 : (w.alloc (.cells #[.int .i64 n, .int .i64 s] 41)).heap.size = w.heap.size + 1 := by simp
  have HW := Lib.hid hW; have HB0 := Lib.hid hB0; have HSZ := Lib.hid hsz0; clear hW hB0 hsz0
  go_enter Try.func58, Try.ntmps58
  go_wp2
  generalize w.alloc (.cells #[.int .i64 n, .int .i64 s] 41) = W at *
  go_loopw [6] (fun i wr => ∃ k : Nat, k ≤ rs.length ∧ i = .int .i64 k ∧ (∀ j, j < k → ((rs.getD j r0).1 == (n, s)) = false) ∧ Below W.heap.size W wr) (fun i _ => rs.length - (intOf i).toNat)
  case atStart => exact ⟨0, Nat.zero_le _, rfl, fun j hj => by omega, Below.refl _ _⟩
  case round =>
    obtain ⟨k, hk, rfl, hall, hb⟩ := hrel
    by_cases hlt : k < rs.length
    · obtain ⟨g, off, rfl, hg, hcs⟩ := hcells.resolve_left (by omega)
      have z0 : (0 : Int) ≤ (k : Int) := by omega
      have z1 : (k : Int) < (rs.length : Int) := by omega
      have c1 := hcs k hlt
      have hgW : g < W.heap.size := by rw [HSZ.out]; omega
      have L1 : ∀ w', Below W.heap.size W w' → (loadVar 41 ⟨g, off + k * 3, none⟩).run Try.prog w' = .ok (kv (rs.getD k r0).1) w' := fun w' hb' =>
        rdk_load c1 (w' := w') hg (HB0.out.trans (hb'.mono (by rw [HSZ.out]; omega)))
      have L2 : ∀ w', Below W.heap.size W w' → (loadVar 41 ⟨w.heap.size, 0, none⟩).run Try.prog w' = .ok (kv (n, s)) w' := fun w' hb' => HW.out w' (by rw [← HSZ.out]; exact hb')
      have C3 := Lib.hid (fun (w' : World) (hb' : Below W.heap.size W w') => rdl_load c1 (w' := w') hg (HB0.out.trans (hb'.mono (by rw [HSZ.out]; omega))))
      clear hcells hcs c1
      generalize hkx : rs.getD k r0 = kx at *
      obtain ⟨⟨p, q⟩, y⟩ := kx
      dsimp only at L1 C3
      cases he : ((p, q) == (n, s)) with
      | true =>
        have hh : loadO rs (n, s) = some y := by
          have := loadO_hit (n, s) rs k hlt hall (by rw [hkx]; exact he)
          rw [this, hkx]
        have HH := Lib.hid hh
        clear hall hkx hh
        go_wp2
        refine wp_region_below W (by kernel_rfl) (by kernel_rfl) hb ?_
        repeat (first
          | go_big_quiet_skip
          | (go_big_quiet_want
             first
               | (go_big_quiet_op; go_big_quiet_on)
               | (refine q_load 41 _ _ _ rfl rfl L1 ?_; simp only [Act.put, List.setIfInBounds_toArray, List.set_cons_zero, List.set_cons_succ]; go_big_quiet_on)
               | (refine q_load 41 _ _ _ rfl rfl L2 ?_; simp only [Act.put, List.setIfInBounds_toArray, List.set_cons_zero, List.set_cons_succ]; go_big_quiet_on)
               | (refine q_bin _ 41 _ _ _ _ _ _ rfl rfl rfl (fun w => key_guard _ _ _ _ _ w) (fun w => key_eql _ _ w) ?_; simp only [Act.put, List.setIfInBounds_toArray, List.set_cons_zero, List.set_cons_succ]; go_big_quiet_on)
               | (go_big_quiet_op; refine ⟨_, fun _ _ => rfl, ?_⟩; go_big_quiet_on)
               | (go_big_quiet_op; go_big_quiet_on)))
        refine wpQuiet_nil ?_
        intro w2 hb2
        rw [he]
        have c3 := C3.out w2 hb2
        clear L1 L2 hb C3
        go_wp2
        go_ret2
        exact ⟨by rw [HH.out]; rfl, HB0.out.trans (hb2.mono (by rw [HSZ.out]; omega))⟩
      | false =>
        have hn : ∀ j, j < k + 1 → ((rs.getD j r0).1 == (n, s)) = false := by
          intro j hj
          rcases (by omega : j < k ∨ j = k) with h1 | rfl
          · exact hall j h1
          · rw [hkx, he]
        have HN := Lib.hid hn
        clear hall hkx hn
        go_wp2
        refine wp_region_below W (by kernel_rfl) (by kernel_rfl) hb ?_
        repeat (first
          | go_big_quiet_skip
          | (go_big_quiet_want
             first
               | (go_big_quiet_op; go_big_quiet_on)
               | (refine q_load 41 _ _ _ rfl rfl L1 ?_; simp only [Act.put, List.setIfInBounds_toArray, List.set_cons_zero, List.set_cons_succ]; go_big_quiet_on)
               | (refine q_load 41 _ _ _ rfl rfl L2 ?_; simp only [Act.put, List.setIfInBounds_toArray, List.set_cons_zero, List.set_cons_succ]; go_big_quiet_on)
               | (refine q_bin _ 41 _ _ _ _ _ _ rfl rfl rfl (fun w => key_guard _ _ _ _ _ w) (fun w => key_eql _ _ w) ?_; simp only [Act.put, List.setIfInBounds_toArray, List.set_cons_zero, List.set_cons_succ]; go_big_quiet_on)
               | (go_big_quiet_op; refine ⟨_, fun _ _ => rfl, ?_⟩; go_big_quiet_on)
               | (go_big_quiet_op; go_big_quiet_on)))
        refine wpQuiet_nil ?_
        intro w2 hb2
        rw [he]
        clear L1 L2 hb C3
        go_wp2
        exact ⟨⟨k + 1, by omega, by go_num, HN.out, hb2⟩, by simp [intOf]; omega⟩
    · obtain rfl : k = rs.length := by omega
      have hh : loadO rs (n, s) = none := loadO_miss (n, s) rs hall
      have HH := Lib.hid hh
      clear hall hh
      go_wp2
      go_ret2
      exact ⟨by rw [HH.out]; rfl, HB0.out.trans (hb.mono (by rw [HSZ.out]; omega))⟩
end Go.Proofs.Ytnknfmjpkphbpaa
/- The model's chapter 4, walked: a reading learned. -/
namespace Go.Proofs.Ytnknfmjpkphbpaa
open Go.ChangeShapes Go.WideShapes Go.ChangeAt Go.RowKit Go.BigFrame
set_option linter.unusedVariables false

def aheadN : List R3 → K2 → Nat
  | [], _ => 0
  | x :: l, k => if aheadB x.1 k then aheadN l k + 1 else 0
def learnV (rs : List R3) (r : R3) : List R3 × Int :=
  if rdsOkR rs = true ∧ rdOkB r = true then
    match loadO rs r.1 with
    | some l => if l = r.2 then (rs, 1) else (rs, 2)
    | none => (rs.take (aheadN rs r.1) ++ r :: rs.drop (aheadN rs r.1), 0)
  else (rs, 3)
/-- what is kept on the way: the reading in its box, the copy, the list -/
structure LKeep (w0 w : World) (b : Nat) (r : R3) (v : Value) (rs : List R3) (u : Value) : Prop where
  box : w.cell? ⟨b, 0, none⟩ = some (.int .i64 r.1.1) ∧ w.cell? ⟨b, 1, none⟩ = some (.int .i64 r.1.2) ∧ w.cell? ⟨b, 2, none⟩ = some (.string r.2)
  lt : b < w.heap.size
  own : w.ownsRow w0.heap.size 43 3 u rs.length (rdCells rs)
  below : Below w0.heap.size w0 w
  list : rdAt w v rs
theorem LKeep.next {w0 w w' : World} {b : Nat} {r : R3} {v : Value} {rs : List R3} {u : Value} (h : LKeep w0 w b r v rs u) (hb : Below w.heap.size w w') : LKeep w0 w' b r v rs u := by
  refine ⟨?_, Nat.lt_of_lt_of_le h.lt hb.size, own_below h.own hb, h.below.trans (hb.mono h.below.size), rdAt_below h.list hb⟩
  rw [hb.cell (p := ⟨b, 0, none⟩) h.lt, hb.cell (p := ⟨b, 1, none⟩) h.lt, hb.cell (p := ⟨b, 2, none⟩) h.lt]
  exact h.box
theorem LKeep.load {w0 w : World} {b : Nat} {r : R3} {v : Value} {rs : List R3} {u : Value} (h : LKeep w0 w b r v rs u) : (loadVar 43 ⟨b, 0, none⟩).run Try.prog w = .ok (rv r) w := rd_load (o := 0) h.box h.lt (Below.refl _ _)
theorem LKeep.loadk {w0 w : World} {b : Nat} {r : R3} {v : Value} {rs : List R3} {u : Value} (h : LKeep w0 w b r v rs u) : (loadVar 41 ⟨b, 0, none⟩).run Try.prog w = .ok (kv r.1) w := rdk_load (o := 0) h.box h.lt (Below.refl _ _)
set_option maxRecDepth 100000 in
set_option maxHeartbeats 2000000 in
theorem slearn_bad (v : Value) (rs : List R3) (r : R3) (w : World) (h : rdAt w v rs) (hs : rs.length ≤ 1900000) (hbad : ¬ (rdsOkR rs = true ∧ rdOkB r = true)) : Calls Try.prog 99 #[v, rv r] w fun e w' => ∃ v', e = .returned (.tuple #[v', .int .i64 3]) ∧
    w'.ownsRow w.heap.size 43 3 v' rs.length (rdCells rs) ∧ Below w.heap.size w w' := by
  have hr : rv r = .agg #[.int .i64 r.1.1, .int .i64 r.1.2, .string r.2] := rfl
  have hown0 := World.ownsRow_made (base := w.heap.size) (e := 43) (size := 3) (w.alloc (.cells #[.int .i64 r.1.1, .int .i64 r.1.2, .string r.2] 43)) #[] 0 (by simp) (by unfold maxLen; omega) rfl
  have hb0 : Below w.heap.size w ((w.alloc (.cells #[.int .i64 r.1.1, .int .i64 r.1.2, .string r.2] 43)).alloc (.cells #[] 43)) := ((Below.refl _ _).alloc (Nat.le_refl _) _).alloc (by simp) _
  have hl0 := rdAt_below h hb0
  rw [show (w.alloc (.cells #[.int .i64 r.1.1, .int .i64 r.1.2, .string r.2] 43)).heap.size = w.heap.size + 1 by simp] at hown0
  have hbx : ((w.alloc (.cells #[.int .i64 r.1.1, .int .i64 r.1.2, .string r.2] 43)).alloc (.cells #[] 43)).heap[w.heap.size]? = some (.cells #[.int .i64 r.1.1, .int .i64 r.1.2, .string r.2] 43) := heap_first _ _ _
  go_enter Try.func99, Try.ntmps99
  rw [hr]
  go_wp2_with (at_builtin; refine wpList_append_rd rfl (.tmp 11) (.tmp 12) rfl hown0 _ rs hl0 rfl rfl (by omega) (by simp; omega) ?_; intro u w1 hown1 hgrow1)
  have hb1 : Below w.heap.size w w1 := hb0.grown hgrow1 (by simp; omega) (fun k e => (hown0.lt k e).1)
  have hx1 : w1.heap[w.heap.size]? = some (.cells #[.int .i64 r.1.1, .int .i64 r.1.2, .string r.2] 43) := by
    rw [hgrow1.block w.heap.size (by simp; omega) (fun e => by simp [Value.ownBlock] at e)]; exact hbx
  have K1 : LKeep w w1 w.heap.size r v rs u := ⟨⟨by rw [cell_of_row _ _ 0 _ _ _ hx1]; rfl, by rw [cell_of_row _ _ 1 _ _ _ hx1]; rfl, by rw [cell_of_row _ _ 2 _ _ _ hx1]; rfl⟩, (Array.getElem?_eq_some_iff.1 hx1).1, by simpa using hown1, hb1, rdAt_below h hb1⟩
  clear hb1 hx1 hown1 hgrow1 hown0 hb0 hl0 hbx
  have HR := Lib.hid (fun w => sreadingok_any r w)
  have HRS := Lib.hid (sreadingsok_any v rs w1 K1.list (by omega))
  cases hk : rdsOkR rs with
  | false =>
    rw [hk] at HRS
    go_wp2_with fail
    refine HRS.out.mono ?_
    rintro e w2 ⟨rfl, hb2⟩
    have K2 := Lib.hid (K1.next hb2)
    clear K1 hb2 HRS
    go_wp2
    go_ret2
    exact ⟨u, rfl, K2.out.own, K2.out.below⟩
  | true =>
    have hk2 : rdOkB r = false := by
      cases hq : rdOkB r with
      | false => rfl
      | true => exact absurd ⟨hk, hq⟩ hbad
    rw [hk] at HRS
    rw [hk2] at HR
    go_wp2_with fail
    refine HRS.out.mono ?_
    rintro e w2 ⟨rfl, hb2⟩
    have K2 := K1.next hb2
    obtain ⟨q0, q1, q2⟩ := K2.box
    rw [hr] at HR
    have K2 := Lib.hid K2
    clear K1 hb2 HRS
    go_wp2_with fail
    refine (HR.out _).mono ?_
    rintro e w3 ⟨rfl, hb3⟩
    have K3 := Lib.hid (K2.out.next hb3)
    clear K2 hb3 HR q0 q1 q2
    go_wp2
    go_ret2
    exact ⟨u, rfl, K3.out.own, K3.out.below⟩
set_option maxRecDepth 100000 in
set_option maxHeartbeats 2000000 in
theorem slearn_got (v : Value) (rs : List R3) (r : R3) (w : World) (h : rdAt w v rs) (hs : rs.length ≤ 1900000) (hk : rdsOkR rs = true) (hk2 : rdOkB r = true) (l : ByteArray) (hl : loadO rs r.1 = some l) : Calls Try.prog 99 #[v, rv r] w fun e w' => ∃ v', e = .returned (.tuple #[v', .int .i64 (if l = r.2 then 1 else 2)]) ∧
    w'.ownsRow w.heap.size 43 3 v' rs.length (rdCells rs) ∧ Below w.heap.size w w' := by
  have hr : rv r = .agg #[.int .i64 r.1.1, .int .i64 r.1.2, .string r.2] := rfl
  have hown0 := World.ownsRow_made (base := w.heap.size) (e := 43) (size := 3) (w.alloc (.cells #[.int .i64 r.1.1, .int .i64 r.1.2, .string r.2] 43)) #[] 0 (by simp) (by unfold maxLen; omega) rfl
  have hb0 : Below w.heap.size w ((w.alloc (.cells #[.int .i64 r.1.1, .int .i64 r.1.2, .string r.2] 43)).alloc (.cells #[] 43)) := ((Below.refl _ _).alloc (Nat.le_refl _) _).alloc (by simp) _
  have hl0 := rdAt_below h hb0
  rw [show (w.alloc (.cells #[.int .i64 r.1.1, .int .i64 r.1.2, .string r.2] 43)).heap.size = w.heap.size + 1 by simp] at hown0
  have hbx : ((w.alloc (.cells #[.int .i64 r.1.1, .int .i64 r.1.2, .string r.2] 43)).alloc (.cells #[] 43)).heap[w.heap.size]? = some (.cells #[.int .i64 r.1.1, .int .i64 r.1.2, .string r.2] 43) := heap_first _ _ _
  go_enter Try.func99, Try.ntmps99
  rw [hr]
  go_wp2_with (at_builtin; refine wpList_append_rd rfl (.tmp 11) (.tmp 12) rfl hown0 _ rs hl0 rfl rfl (by omega) (by simp; omega) ?_; intro u w1 hown1 hgrow1)
  have hb1 : Below w.heap.size w w1 := hb0.grown hgrow1 (by simp; omega) (fun k e => (hown0.lt k e).1)
  have hx1 : w1.heap[w.heap.size]? = some (.cells #[.int .i64 r.1.1, .int .i64 r.1.2, .string r.2] 43) := by
    rw [hgrow1.block w.heap.size (by simp; omega) (fun e => by simp [Value.ownBlock] at e)]; exact hbx
  have K1 : LKeep w w1 w.heap.size r v rs u := ⟨⟨by rw [cell_of_row _ _ 0 _ _ _ hx1]; rfl, by rw [cell_of_row _ _ 1 _ _ _ hx1]; rfl, by rw [cell_of_row _ _ 2 _ _ _ hx1]; rfl⟩, (Array.getElem?_eq_some_iff.1 hx1).1, by simpa using hown1, hb1, rdAt_below h hb1⟩
  clear hb1 hx1 hown1 hgrow1 hown0 hb0 hl0 hbx
  have HR := Lib.hid (fun w => sreadingok_any r w)
  have HRS := Lib.hid (sreadingsok_any v rs w1 K1.list (by omega))
  have HL := Lib.hid (fun w' (hw : rdAt w' v rs) => sloadof_any v rs r.1 w' hw (by omega))
  rw [hk] at HRS
  rw [hk2] at HR
  rw [hl] at HL
  go_wp2_with fail
  refine HRS.out.mono ?_
  rintro e w2 ⟨rfl, hb2⟩
  have K2 := K1.next hb2
  obtain ⟨q0, q1, q2⟩ := K2.box
  rw [hr] at HR
  have K2 := Lib.hid K2
  clear K1 hb2 HRS
  go_wp2_with fail
  refine (HR.out _).mono ?_
  rintro e w3 ⟨rfl, hb3⟩
  have K3 := K2.out.next hb3
  clear K2 hb3 HR q0 q1 q2
  obtain ⟨q0, q1, q2⟩ := K3.box
  have HL3 := Lib.hid (HL.out w3 K3.list)
  have K3 := Lib.hid K3
  clear HL
  go_wp2_with fail
  refine HL3.out.mono ?_
  rintro e w4 ⟨rfl, hb4⟩
  have K4 := K3.out.next hb4
  clear K3 hb4 HL3 q0 q1 q2
  obtain ⟨q0, q1, q2⟩ := K4.box
  have K4 := Lib.hid K4
  have hlv : loadV (some l) = .tuple #[.string l, .bool true] := rfl
  rw [hlv]
  by_cases he : l = r.2
  · have e1 : (l.toList == r.2.toList) = true := by rw [he]; exact beq_self_eq_true _
    have E := Lib.hid he
    clear he hl
    go_wp2
    go_ret2
    exact ⟨u, by first | rfl | (rw [if_pos E.out]; rfl) | (rw [if_pos rfl]; rfl) | simp [E.out] | simp, K4.out.own, K4.out.below⟩
  · have e1 : (l.toList == r.2.toList) = false := beq_eq_false_iff_ne.2 (fun h => he ((bytes_toList_iff _ _).1 h))
    have E := Lib.hid he
    clear he hl
    go_wp2
    go_ret2
    exact ⟨u, by first | rfl | (rw [if_neg E.out]; rfl) | simp [E.out] | simp, K4.out.own, K4.out.below⟩
end Go.Proofs.Ytnknfmjpkphbpaa
/- The program's chapter 4, walked: readings that are right. -/
namespace Go.Proofs.Ytnknfmjpkphbpaa
open Go.ChangeShapes Go.WideShapes Go.ChangeAt Go.RowKit Go.BigFrame
set_option linter.unusedVariables false

theorem cells_newR (w : World) (cs : List Value) (e : TypeId) : ∀ j u, cs[j]? = some u → (w.alloc (.cells cs.toArray e)).cell? ((⟨w.heap.size, 0, none⟩ : Addr).add j) = some u := by
  intro j u h
  rw [addr_plus, Nat.zero_add, cell_of_row _ _ j _ _ _ (heap_alloc_new w _)]
  simpa using h
theorem map_getD_key (rs : List R3) (i : Nat) : (rs.map (·.1)).getD i (0, 0) = (rs.getD i r0).1 := by
  simp only [List.getD, List.getElem?_map]
  cases rs[i]? <;> rfl
theorem rdsOk_split (rs : List R3) : rdsOkR rs = (rs.all rdOkB && keysOkR (rs.map (·.1))) := by
  rw [Bool.eq_iff_iff]
  simp only [rdsOkR, keysOkR, Bool.and_eq_true, List.all_eq_true, List.mem_range, List.length_map, rdStep, stepB, map_getD_key]
  constructor
  · intro h
    refine ⟨fun r hr => ?_, fun i hi => ?_⟩
    · obtain ⟨i, hi, rfl⟩ := List.getElem_of_mem hr
      have := (h i hi).1
      simpa [List.getD, hi] using this
    · have := h i hi
      refine ⟨?_, this.2⟩
      have h1 := this.1
      simp only [rdOkB, Bool.and_eq_true] at h1
      exact h1.1
  · rintro ⟨h1, h2⟩ i hi
    refine ⟨?_, (h2 i hi).2⟩
    have := h1 rs[i] (List.getElem_mem hi)
    simpa [List.getD, hi] using this
theorem rdsOk_all {rs : List R3} (h : ∀ j, j < rs.length → rdOkB (rs.getD j r0) = true) : rdsOkR rs = keysOkR (rs.map (·.1)) := by
  rw [rdsOk_split, show rs.all rdOkB = true from ?_, Bool.true_and]
  rw [List.all_eq_true]
  intro r hr
  obtain ⟨i, hi, rfl⟩ := List.getElem_of_mem hr
  simpa [List.getD, hi] using h i hi
theorem rdsOk_not {rs : List R3} {k : Nat} (hk : k < rs.length) (h : rdOkB (rs.getD k r0) = false) : rdsOkR rs = false := by
  refine rdStep_false hk ?_
  unfold rdStep
  rw [h]; rfl
theorem keys_take_snoc (rs : List R3) (k : Nat) (h : k < rs.length) : (rs.take (k + 1)).map (·.1) = (rs.take k).map (·.1) ++ [(rs.getD k r0).1] := by
  rw [List.take_succ_eq_append_getElem h, List.map_append]
  simp [List.getD, h]
set_option maxRecDepth 100000 in
set_option maxHeartbeats 1000000 in
theorem ireadingsok_any (v : Value) (rs : List R3) (w : World) (h : rdAt w v rs) (hs : rs.length ≤ 2000000) : Calls Try.prog 63 #[v] w fun e w' => e = .returned (.bool (rdsOkR rs)) ∧ Below w.heap.size w w' := by
  obtain ⟨i0, hi, hz0, hz1, hz2⟩ := info_parts infoK
  obtain ⟨a, cap, rfl, hcap, hcells⟩ := h
  go_enter Try.func63, Try.ntmps63
  obtain ⟨W0, hmk, hown0, hgr0⟩ := run_make_own (P := Try.prog) w w.heap.size 24 41 i0 (.agg #[.int .i64 0, .int .i64 0]) 2 Try.underlying24 hi hz0 hz1 .i64 .i64 rs.length (by rw [hz2]; omega) (by unfold maxLen; omega) (Nat.le_refl _)
  have hb0 : Below w.heap.size w W0 := (Below.refl w.heap.size w).grown hgr0 (Nat.le_refl _) (fun k e => by cases e)
  clear hgr0
  go_wp2
  clear hmk
  go_loopw [3, 11] (fun x i wr => ∃ k : Nat, k ≤ rs.length ∧ i = .int .i64 k ∧ wr.ownsRow w.heap.size 41 2 x k (keyCells ((rs.take k).map (·.1))) ∧ (∀ j, j < k → rdOkB (rs.getD j r0) = true) ∧ Below w.heap.size w wr) (fun _ i _ => rs.length - (intOf i).toNat)
  case atStart => exact ⟨0, Nat.zero_le _, rfl, hown0, fun j hj => by omega, hb0⟩
  case round =>
    clear hown0 hb0
    obtain ⟨k, hk, rfl, hown, hall, hb⟩ := hrel
    by_cases hlt : k < rs.length
    · obtain ⟨g, off, rfl, hg, hcs⟩ := hcells.resolve_left (by omega)
      have z0 : (0 : Int) ≤ (k : Int) := by omega
      have z1 : (k : Int) < (rs.length : Int) := by omega
      have c1 := hcs k hlt
      rename_i wr
      have C1 : wr.cell? ⟨g, off + k * 3, none⟩ = some (.int .i64 (rs.getD k r0).1.1) := (hb.cell (p := ⟨g, off + k * 3, none⟩) hg).trans c1.1
      have C2 : wr.cell? ⟨g, off + k * 3 + 1, none⟩ = some (.int .i64 (rs.getD k r0).1.2) := (hb.cell (p := ⟨g, off + k * 3 + 1, none⟩) hg).trans c1.2.1
      have C3 : wr.cell? ⟨g, off + k * 3 + 2, none⟩ = some (.string (rs.getD k r0).2) := (hb.cell (p := ⟨g, off + k * 3 + 2, none⟩) hg).trans c1.2.2
      have HTS := Lib.hid (keys_take_snoc rs k hlt)
      have HNO := Lib.hid (fun (h : rdOkB (rs.getD k r0) = false) => rdsOk_not hlt h)
      have hall2 : rdOkB (rs.getD k r0) = true → ∀ j, j < k + 1 → rdOkB (rs.getD j r0) = true := by
        intro hx j hj
        rcases (by omega : j < k ∨ j = k) with h1 | rfl
        · exact hall j h1
        · exact hx
      have HALL := Lib.hid hall2
      clear hcells hcs c1 hall hall2
      generalize rs.getD k r0 = kx at *
      obtain ⟨⟨p, q⟩, y⟩ := kx
      dsimp only at C1 C2 C3 HTS
      have HK := Lib.hid (fun w => ireadingok_any ((p, q), y) w)
      have hbx : (wr.alloc (.cells #[.int .i64 p, .int .i64 q, .string y] 43)).heap[wr.heap.size]? = some (.cells #[.int .i64 p, .int .i64 q, .string y] 43) := heap_alloc_new wr _
      have HO1 := Lib.hid (hown.alloc (.cells #[.int .i64 p, .int .i64 q, .string y] 43))
      have HB1 := Lib.hid (hb.alloc hb.size (.cells #[.int .i64 p, .int .i64 q, .string y] 43))
      have HBX := Lib.hid hbx
      have hbz := hb.size
      clear hbx hb hown
      go_wp2_with fail
      refine (HK.out _).mono ?_
      unfold rv at *
      rintro e w2 ⟨rfl, hb2⟩
      have hown2 := own_below HO1.out hb2
      have hbw2 := HB1.out.trans (hb2.mono HB1.out.size)
      have hz2' := hbw2.size
      have hx2 : w2.heap[wr.heap.size]? = some (.cells #[.int .i64 p, .int .i64 q, .string y] 43) := (hb2.block _ (by simp)).trans HBX.out
      have D1 : w2.cell? ⟨wr.heap.size, 0, none⟩ = some (.int .i64 p) := by rw [cell_of_row _ _ 0 _ _ _ hx2]; rfl
      have D2 : w2.cell? ⟨wr.heap.size, 1, none⟩ = some (.int .i64 q) := by rw [cell_of_row _ _ 1 _ _ _ hx2]; rfl
      have HOL := Lib.hid (fun b (e : u3.ownBlock = some b) => (hown2.lt b e).1)
      clear HO1 HB1 HBX hb2 hx2 C1 C2 C3 HK
      cases hko : rdOkB ((p, q), y) with
      | false =>
        have HF := Lib.hid (HNO.out hko)
        clear HNO HALL HTS hko
        go_wp2
        go_ret
        exact ⟨by rw [HF.out]; rfl, hbw2⟩
      | true =>
        have HA := Lib.hid (HALL.out hko)
        clear HNO HALL hko
        go_wp2_with (at_builtin; refine wpList_append_own _ rfl (.tmp 18) (.tmp 21) 24 rfl w.heap.size 41 i0 (.agg #[.int .i64 0, .int .i64 0]) 2 16 Try.underlying24 hi hz0 hz1 hz2 rfl (by decide) _ _ _ rfl (hown2.alloc _) ⟨w2.heap.size, 0, none⟩ 1 1 [.int .i64 p, .int .i64 q] rfl rfl (cells_newR _ [.int .i64 p, .int .i64 q] _) (by intro u hu; simp at hu; rcases hu with rfl | rfl <;> rfl) (by unfold maxLen; omega) (by omega) (by simp; omega) ?_; intro v6 w6 hown6 hgrow6 _)
        have hR : w6.ownsRow w.heap.size 41 2 v6 (k + 1) (keyCells ((rs.take (k + 1)).map (·.1))) := by rw [HTS.out, keyCells_snoc]; exact hown6
        have hB6 := (hbw2.alloc hz2' (.cells #[.int .i64 p, .int .i64 q] 41)).grown hgrow6 (by simp; omega) (fun g hg => (hown2.lt g hg).1)
        have HR := Lib.hid (And.intro hR hB6)
        clear hR hB6 hown6 hgrow6 hown2 hbw2 D1 D2
        go_wp2
        go_roundw
        case rel => exact ⟨k + 1, by omega, by go_num, HR.out.1, HA.out, HR.out.2⟩
        case measure => simp [intOf]; omega
    · obtain rfl : k = rs.length := by omega
      rw [List.take_length] at hown
      have hml : rs.length = (rs.map (·.1)).length := by simp
      rw [hml] at hown
      have IK := Lib.hid (fun w' (h : keysAt w' u3 (rs.map (·.1))) => ikeysok_any u3 (rs.map (·.1)) w' h (by simp; omega))
      have HA := Lib.hid (rdsOk_all hall)
      have HKA := Lib.hid (keysAt_own hown)
      clear hown hall hcells hml
      go_wp2_with fail
      refine (IK.out _ HKA.out).mono ?_
      rintro e w2 ⟨rfl, hb2⟩
      have hB2 := hb.trans (hb2.mono hb.size)
      go_wp2
      go_ret
      exact ⟨by rw [HA.out]; rfl, hB2⟩
end Go.Proofs.Ytnknfmjpkphbpaa
/- Contracts of the library at this translation, out of the kit: one application each. -/
namespace Go.Proofs
open Go.Shelf
def Try.laysM316_ren : Go.Shelf.Ren := ⟨fun | 316 => 91 | n => n, fun | 9 => 9 | 3 => 3 | 4 => 4 | 37 => 22 | 0 => 0 | 127 => 114 | 5 => 5 | n => n, fun | n => n⟩
theorem Try.laysM316 : Go.Proofs.LaysM.n316 Try.prog Try.laysM316_ren := {
  mixed := by kernel_rfl
  f316 := Try.func91.trans (congrArg some (by kernel_rfl))
  t0 := Try.underlying0
  a0 := Try.isAgg0
  z0 := Try.sizeOf0
  v0 := Try.zeroValue0
  t3 := Try.underlying3
  a3 := Try.isAgg3
  z3 := Try.sizeOf3
  v3 := Try.zeroValue3
  t4 := Try.underlying4
  a4 := Try.isAgg4
  z4 := Try.sizeOf4
  v4 := Try.zeroValue4
  t9 := Try.underlying9
  a9 := Try.isAgg9
  z9 := Try.sizeOf9
  v9 := Try.zeroValue9
  t37 := Try.underlying22
  a37 := Try.isAgg22
  z37 := Try.sizeOf22
  v37 := Try.zeroValue22
  t127 := Try.underlying114
  a127 := Try.isAgg114
  z127 := Try.sizeOf114
  v127 := Try.zeroValue114
  t5 := Try.underlying5
  a5 := Try.isAgg5
  z5 := Try.sizeOf5
  v5 := Try.zeroValue5
  i0 := by kernel_rfl
  i3 := by kernel_rfl
  i4 := by kernel_rfl
  i5 := by kernel_rfl
  i9 := by kernel_rfl
  i37 := by kernel_rfl
  i127 := by kernel_rfl }
open Go.RowKit in
theorem Try.stringslite_Clone (s : ByteArray) (w : World) (hlim : s.size ≤ 281474976710656) :
    Calls Try.prog 91 #[.string s] w fun e w' => e = .returned (.string s) ∧ Below w.heap.size w w' := Any.stringslite_Clone Try.laysM316 s w hlim
end Go.Proofs
/- A text made anew. -/
namespace Go.Proofs.Ytnknfmjpkphbpaa
open Go.RowKit
set_option linter.unusedVariables false

theorem cloneR_any (s : ByteArray) (w : World) (hs : s.size ≤ 2000000) : Calls Try.prog 67 #[.string s] w fun e w' => e = .returned (.string s) ∧ Below w.heap.size w w' := by
  go_enter Try.func67, Try.ntmps67
  go_wp2_with (go_at_call 91; refine (Try.stringslite_Clone s _ (by omega)).mono ?_; rintro e w' ⟨rfl, hb⟩)
  go_ret
  exact ⟨rfl, hb⟩
end Go.Proofs.Ytnknfmjpkphbpaa
/- The program's chapter 4, walked: the load of a key. -/
namespace Go.Proofs.Ytnknfmjpkphbpaa
open Go.ChangeShapes Go.WideShapes Go.ChangeAt Go.RowKit Go.BigFrame
set_option linter.unusedVariables false

set_option maxRecDepth 100000 in
set_option maxHeartbeats 1000000 in
theorem iloadof_any (v : Value) (rs : List R3) (x : K2) (w : World) (h : rdAt w v rs) (hs : rs.length ≤ 2000000) (hx : ∀ r ∈ rs, r.2.size ≤ 2000000) : Calls Try.prog 29 #[v, kv x] w fun e w' => e = .returned (loadV (loadO rs x)) ∧ Below w.heap.size w w' := by
  obtain ⟨a, cap, rfl, hcap, hcells⟩ := h
  obtain ⟨n, s⟩ := x
  unfold kv
  dsimp only
  have hx0 : (w.alloc (.cells #[.int .i64 n, .int .i64 s] 41)).heap[w.heap.size]? = some (.cells #[.int .i64 n, .int .i64 s] 41) := heap_alloc_new w _
  have hB0 : Below w.heap.size w (w.alloc (.cells #[.int .i64 n, .int .i64 s] 41)) := (Below.refl _ _).alloc (Nat.le_refl _) _
  have hsz0 : (w.alloc (.cells #[.int .i64 n, .int .i64 s] 41)).heap.size = w.heap.size + 1 := by simp
  have HX0 := Lib.hid hx0; have HB0 := Lib.hid hB0; have HSZ := Lib.hid hsz0; clear hx0 hB0 hsz0
  go_enter Try.func29, Try.ntmps29
  go_wp2
  generalize w.alloc (.cells #[.int .i64 n, .int .i64 s] 41) = W at *
  go_loopw [10] (fun i wr => ∃ k : Nat, k ≤ rs.length ∧ i = .int .i64 k ∧ (∀ j, j < k → ((rs.getD j r0).1 == (n, s)) = false) ∧ Below W.heap.size W wr) (fun i _ => rs.length - (intOf i).toNat)
  case atStart => exact ⟨0, Nat.zero_le _, rfl, fun j hj => by omega, Below.refl _ _⟩
  case round =>
    obtain ⟨k, hk, rfl, hall, hb⟩ := hrel
    by_cases hlt : k < rs.length
    · obtain ⟨g, off, rfl, hg, hcs⟩ := hcells.resolve_left (by omega)
      have z0 : (0 : Int) ≤ (k : Int) := by omega
      have z1 : (k : Int) < (rs.length : Int) := by omega
      have c1 := hcs k hlt
      rename_i wr
      have hbw := HB0.out.trans (hb.mono (by rw [HSZ.out]; omega))
      have C1 : wr.cell? ⟨g, off + k * 3, none⟩ = some (.int .i64 (rs.getD k r0).1.1) := (hbw.cell (p := ⟨g, off + k * 3, none⟩) hg).trans c1.1
      have C2 : wr.cell? ⟨g, off + k * 3 + 1, none⟩ = some (.int .i64 (rs.getD k r0).1.2) := (hbw.cell (p := ⟨g, off + k * 3 + 1, none⟩) hg).trans c1.2.1
      have C3 : wr.cell? ⟨g, off + k * 3 + 2, none⟩ = some (.string (rs.getD k r0).2) := (hbw.cell (p := ⟨g, off + k * 3 + 2, none⟩) hg).trans c1.2.2
      have hx2 : wr.heap[w.heap.size]? = some (.cells #[.int .i64 n, .int .i64 s] 41) := (hb.block _ (by rw [HSZ.out]; omega)).trans HX0.out
      have E1 : wr.cell? ⟨w.heap.size, 0, none⟩ = some (.int .i64 n) := by rw [cell_of_row _ _ 0 _ _ _ hx2]; rfl
      have E2 : wr.cell? ⟨w.heap.size, 1, none⟩ = some (.int .i64 s) := by rw [cell_of_row _ _ 1 _ _ _ hx2]; rfl
      have HY := Lib.hid (hx (rs.getD k r0) (by simp [List.getD, hlt]))
      have hwz : w.heap.size < wr.heap.size := by have := hb.size; rw [HSZ.out] at this; omega
      clear hcells hcs c1 hx2
      generalize hkx : rs.getD k r0 = kx at *
      obtain ⟨⟨p, q⟩, y⟩ := kx
      dsimp only at C1 C2 C3 HY
      have HC := Lib.hid (fun w => cloneR_any y w HY.out)
      have HBA := Lib.hid (hbw.alloc hbw.size (.cells #[.int .i64 p, .int .i64 q, .string y] 43))
      have HB1 := Lib.hid (hb.alloc hb.size (.cells #[.int .i64 p, .int .i64 q, .string y] 43))
      have EQ := fun w => key_eql (p, q) (n, s) w
      unfold kv at EQ
      dsimp only at EQ
      cases he : ((p, q) == (n, s)) with
      | true =>
        have hh : loadO rs (n, s) = some y := by
          have := loadO_hit (n, s) rs k hlt hall (by rw [hkx]; exact he)
          rw [this, hkx]
        have HH := Lib.hid hh
        rw [he] at EQ
        clear hall hkx hh he hb hbw HY
        go_wp2_with fail
        refine (HC.out _).mono ?_
        rintro e w2 ⟨rfl, hb2⟩
        have hB2 := HBA.out.trans (hb2.mono HBA.out.size)
        go_wp2
        go_ret2
        exact ⟨by rw [HH.out]; rfl, hB2⟩
      | false =>
        have hn : ∀ j, j < k + 1 → ((rs.getD j r0).1 == (n, s)) = false := by
          intro j hj
          rcases (by omega : j < k ∨ j = k) with h1 | rfl
          · exact hall j h1
          · rw [hkx, he]
        have HN := Lib.hid hn
        rw [he] at EQ
        clear hall hkx hn he hb hbw HY
        go_wp2
        exact ⟨⟨k + 1, by omega, by go_num, HN.out, HB1.out⟩, by simp [intOf]; omega⟩
    · obtain rfl : k = rs.length := by omega
      have hh : loadO rs (n, s) = none := loadO_miss (n, s) rs hall
      have HH := Lib.hid hh
      clear hall hh
      go_wp2
      go_ret2
      exact ⟨by rw [HH.out]; rfl, HB0.out.trans (hb.mono (by rw [HSZ.out]; omega))⟩
end Go.Proofs.Ytnknfmjpkphbpaa
/- The program's chapter 5, walked: which words are right; a word of one reading; a word in memory of its own. -/
namespace Go.Proofs.Ytnknfmjpkphbpaa
open Go.ChangeShapes Go.WideShapes Go.ChangeAt Go.RowKit Go.BigFrame
set_option linter.unusedVariables false

theorem below_of_grown {w w' : World} (h : w.grownBy w' none) : Below w.heap.size w w' := (Below.refl w.heap.size w).grown h (Nat.le_refl _) (fun g e => by cases e)
theorem op_append_key {o : Oper} {a : Act} {w : World} {K : Act → World → Prop} {Q : Exit → Act → World → Prop} (hgd : o.guard = none) (s x : Operand)
    (ho : o.op = .call { callee := .builtin .append, args := #[s, x], argTypes := #[24, 24] })
    {base n : Nat} {v : Value} {xs : List Value} (hown : w.ownsRow base 41 2 v n xs) (u : Value) (ks : List K2) (hu : keysAt w u ks) (hs : a.eval s = v) (hx : a.eval x = u) (hn : n + ks.length ≤ 4000000) (hbase : base ≤ w.heap.size)
    (h : ∀ v' w', w'.ownsRow base 41 2 v' (n + ks.length) (xs ++ keyCells ks) → w.grownBy w' v.ownBlock → (v'.ownBlock = v.ownBlock ∨ v'.ownBlock = some w.heap.size) → K (a.put o.dst v') w') : Oper.wp Try.prog o a w K Q := by
  have := step_append_key (ops := #[]) (Q := Q) (E := True) hgd s x ho hown u ks hu hs hx hn hbase h
  rwa [if_pos (by simp [Region.wanted, hgd])] at this
set_option maxRecDepth 100000 in
set_option maxHeartbeats 1000000 in
theorem icopy_any (v : Value) (ks : List K2) (y : ByteArray) (w : World) (h : keysAt w v ks) (hs : ks.length ≤ 2000000) (hy : y.size ≤ 2000000) :
    Calls Try.prog 64 #[.agg #[v, .string y]] w fun e w' => ∃ v', e = .returned (.agg #[v', .string y]) ∧ w'.ownsRow w.heap.size 41 2 v' ks.length (keyCells ks) ∧ Below w.heap.size w w' := by
  have HP := Lib.hid (cpc_new w v y)
  have HZ := Lib.hid (show ((w.alloc (.cells #[v, .string y] 26)).alloc (.cells #[.slice none 0 0, .string ⟨#[]⟩] 26)).heap.size = w.heap.size + 2 by simp)
  have HB0 := Lib.hid (HP.out.below)
  have HRES := Lib.hid HP.out.res
  have HKS := Lib.hid (fun w' (hb : Below w.heap.size w w') => keysAt_below h hb)
  have HC := Lib.hid (fun w => cloneR_any y w hy)
  obtain ⟨a, cap, hv, -, -⟩ := h
  subst hv
  go_enter Try.func64, Try.ntmps64
  go_wp2_with fail
  generalize (w.alloc (.cells #[.slice a ks.length cap, .string y] 26)).alloc (.cells #[.slice none 0 0, .string ⟨#[]⟩] 26) = W at *
  have L1 : ∀ w' : World, w'.heap[w.heap.size]? = some (.cells #[.slice a ks.length cap, .string y] 26) → (loadVar 24 ⟨w.heap.size, 0, none⟩).run Try.prog w' = .ok (.slice a ks.length cap) w' := fun w' h => cd_loadk h (Below.refl _ _)
  have L2 : ∀ w' : World, w'.heap[w.heap.size]? = some (.cells #[.slice a ks.length cap, .string y] 26) → (loadVar 9 ⟨w.heap.size, 1, none⟩).run Try.prog w' = .ok (.string y) w' := fun w' h => cd_loads h (Below.refl _ _)
  have HX := Lib.hid HP.out.row
  have HSZ := Lib.hid (Nat.le_of_eq HZ.out.symm)
  refine wp_region_G (fun w' => w'.heap[w.heap.size]? = some (.cells #[.slice a ks.length cap, .string y] 26)) (by kernel_rfl) ?_
  replace HX := Lib.hid (show (World.drew _).heap[_]? = _ from HX.out)
  replace HB0 := Lib.hid (HB0.out.drew)
  replace HRES := Lib.hid (show (World.drew _).heap[_]? = _ from HRES.out)
  replace HSZ := Lib.hid (show _ ≤ (World.drew _).heap.size from HSZ.out)
  refine wpG_seg [true, true, false, true, true] [2] 3 (by kernel_rfl) (by intro c a d v w h; cases d <;> exact h) (by kernel_rfl) HX.out ?_
  try simp only [maskRows]
  repeat (first
    | go_big_quiet_skip
    | (go_big_quiet_want
       first
         | (go_big_quiet_op; go_big_quiet_on)
         | (refine q_load 24 _ _ _ rfl rfl L1 ?_; simp only [Act.put, List.setIfInBounds_toArray, List.set_cons_zero, List.set_cons_succ]; go_big_quiet_on)
         | (refine q_load 9 _ _ _ rfl rfl L2 ?_; simp only [Act.put, List.setIfInBounds_toArray, List.set_cons_zero, List.set_cons_succ]; go_big_quiet_on)
         | (go_big_quiet_op; refine ⟨_, fun _ _ => rfl, ?_⟩; go_big_quiet_on)))
  refine wpQuiet_nil ?_
  refine List.forall_mem_singleton.2 ?_
  refine segt_run rfl (by rfl) (fun K hK => ?_)
  refine op_append_key rfl (.const (.slice none 0 0)) (.tmp 4) rfl (World.ownsRow_nil _ (w.heap.size + 2) 41 2) _ ks (HKS.out _ HB0.out) rfl (by simp [Act.eval, Act.put]) (by omega) HSZ.out ?_
  intro v3 w3 ho3 hg3 hj3
  clear hj3
  have hb := below_of_grown hg3
  obtain ⟨a3, n3, k3, rfl⟩ := own_shape ho3
  simp only [Nat.zero_add, List.nil_append] at ho3
  replace HX := Lib.hid ((hb.block _ (Array.getElem?_eq_some_iff.1 HX.out).1).trans HX.out)
  replace HB0 := Lib.hid (HB0.out.trans (hb.mono HB0.out.size))
  replace HRES := Lib.hid ((hb.block _ (Array.getElem?_eq_some_iff.1 HRES.out).1).trans HRES.out)
  replace HSZ := Lib.hid (Nat.le_trans HSZ.out hb.size)
  have HO := Lib.hid ho3
  clear hb hg3 ho3
  refine hK _ _ ⟨_, fun _ h => h, HX.out, ?_⟩
  clear hK K
  try simp only [Act.put, List.setIfInBounds_toArray, List.set_cons_zero, List.set_cons_succ]
  refine wpG_seg [] [5] 2 (by kernel_rfl) (by intro c a d v w h; cases d <;> exact h) (by kernel_rfl) HX.out ?_
  try simp only [maskRows]
  refine wpQuiet_nil ?_
  refine List.forall_mem_singleton.2 ?_
  refine segt_run rfl (by rfl) (fun K hK => ?_)
  go_simp
  refine (HC.out _).mono ?_
  rintro e w4 ⟨rfl, hb⟩
  dsimp only
  replace HX := Lib.hid ((hb.block _ (Array.getElem?_eq_some_iff.1 HX.out).1).trans HX.out)
  replace HB0 := Lib.hid (HB0.out.trans (hb.mono HB0.out.size))
  replace HRES := Lib.hid ((hb.block _ (Array.getElem?_eq_some_iff.1 HRES.out).1).trans HRES.out)
  replace HSZ := Lib.hid (Nat.le_trans HSZ.out hb.size)
  replace HO := Lib.hid (own_below HO.out hb)
  clear hb
  refine hK _ _ ⟨_, fun _ h => h, HX.out, ?_⟩
  clear hK K
  try simp only [Act.put, List.setIfInBounds_toArray, List.set_cons_zero, List.set_cons_succ]
  refine wpG_seg [] [6] 1 (by kernel_rfl) (by intro c a d v w h; cases d <;> exact h) (by kernel_rfl) HX.out ?_
  try simp only [maskRows]
  refine wpQuiet_nil ?_
  refine List.forall_mem_singleton.2 ?_
  refine segt_run rfl (by rfl) (fun K hK => ?_)
  go_simp
  obtain ⟨c0, c1, f0, f1⟩ := row2_of HRES.out
  have hlt := (Array.getElem?_eq_some_iff.1 HRES.out).1
  have HF := Lib.hid (And.intro (cd_res HRES.out (.slice a3 n3 k3) y) (And.intro (own_base (own_set2 HO.out (by omega : w.heap.size + 1 < w.heap.size + 2) (.slice a3 n3 k3) (.string y)) (by omega : w.heap.size ≤ w.heap.size + 2)) (below2 HB0.out (by omega : w.heap.size ≤ w.heap.size + 1) (.slice a3 n3 k3) (.string y))))
  have HX2 := Lib.hid (row_set2 HX.out (by omega : w.heap.size ≠ w.heap.size + 1) (.slice a3 n3 k3) (.string y))
  refine hK _ _ ⟨_, fun _ h => h, HX.out, ?_⟩
  clear hK K
  try simp only [Act.put, List.setIfInBounds_toArray, List.set_cons_zero, List.set_cons_succ]
  refine wpG_seg [] [7] 0 (by kernel_rfl) (by intro c a d v w h; cases d <;> exact h) (by kernel_rfl) HX.out ?_
  try simp only [maskRows]
  refine wpQuiet_nil ?_
  refine List.forall_mem_singleton.2 ?_
  refine segt_run rfl (by rfl) (fun K hK => ?_)
  go_simp
  replace HX := HX2
  clear HX2 HRES HO HB0 c0 c1 f0 f1 hlt
  refine hK _ _ ⟨_, fun _ h => h, HX.out, ?_⟩
  clear hK K
  try simp only [Act.put, List.setIfInBounds_toArray, List.set_cons_zero, List.set_cons_succ]
  refine wpG_end [] (by kernel_rfl) (by intro c a d v w h; cases d <;> exact h) (by kernel_rfl) HX.out ?_
  try simp only [maskRows]
  refine wpQuiet_nil ?_
  go_wp2_with fail
  refine bodyPost_ret (v := .agg #[.slice a3 n3 k3, .string y]) ?_ rfl ⟨_, rfl, HF.out.2.1, HF.out.2.2⟩
  rw [results_cell (p := 2) (ty := 26) (by kernel_rfl)]
  have l2 := HF.out.1
  simp [asAddr, Result.andThen, l2]
end Go.Proofs.Ytnknfmjpkphbpaa
/- Readings in the laws: their size. -/
namespace Go.Proofs.Ytnknfmjpkphbpaa
open Go.ChangeShapes Go.WideShapes Go.ChangeAt Go.RowKit Go.BigFrame
set_option linter.unusedVariables false

theorem szreading_any (r : R3) (left : Int) (w : World) (hl : 0 ≤ left ∧ left ≤ 1000000000) (hx : r.2.size ≤ 9223372036854775807) :
    Calls Try.prog 36 #[rv r, .int .i64 left] w fun e w' => e = .returned (.int .i64 (if left - (r.2.size : Int) < 0 then -1 else left - (r.2.size : Int))) ∧ Below w.heap.size w w' := by
  obtain ⟨⟨n, s⟩, x⟩ := r
  unfold rv
  dsimp only at *
  have hb : Below w.heap.size w (w.alloc (.cells #[.int .i64 n, .int .i64 s, .string x] 57)) := (Below.refl _ _).alloc (Nat.le_refl _) _
  have HB := Lib.hid hb; clear hb
  have ew : IntKind.i64.wrap (left - (x.size : Int)) = left - (x.size : Int) := IntWalk.i64_in _ (by omega)
  have ew2 : wrap64 (left - (x.size : Int)) = left - (x.size : Int) := IntWalk.wrap64_in _ (by omega)
  by_cases hn : left - (x.size : Int) < 0
  · rw [if_pos hn]
    go_enter Try.func36, Try.ntmps36
    go_wp2
    go_ret
    exact ⟨rfl, HB.out⟩
  · rw [if_neg hn]
    go_enter Try.func36, Try.ntmps36
    go_wp2
    go_ret
    exact ⟨rfl, HB.out⟩
set_option maxRecDepth 100000 in
set_option maxHeartbeats 1000000 in
theorem szreadings_any (v : Value) (rs : List R3) (left : Int) (w : World) (h : rdAt w v rs) (hl : 0 ≤ left ∧ left ≤ 1000000000) (hs : rs.length ≤ 9223372036854775807) (hx : ∀ j, j < rs.length → (rs.getD j r0).2.size ≤ 9223372036854775807) :
    Calls Try.prog 39 #[v, .int .i64 left] w fun e w' => ∃ r : Int, e = .returned (.int .i64 r) ∧ (r = -1 ∨ (0 ≤ r ∧ r ≤ left - (rs.length : Int) ∧ ∀ j, j < rs.length → ((rs.getD j r0).2.size : Int) ≤ left)) ∧ Below w.heap.size w w' := by
  obtain ⟨a, cap, rfl, hcap, hcells⟩ := h
  have ew : IntKind.i64.wrap (left - (rs.length : Int)) = left - (rs.length : Int) := IntWalk.i64_in _ (by omega)
  have ew2 : wrap64 (left - (rs.length : Int)) = left - (rs.length : Int) := IntWalk.wrap64_in _ (by omega)
  by_cases hn : left - (rs.length : Int) < 0
  · go_enter Try.func39, Try.ntmps39
    go_wp2
    go_ret
    exact ⟨-1, rfl, .inl rfl, Below.refl _ _⟩
  · go_enter Try.func39, Try.ntmps39
    go_wp2
    clear ew ew2
    go_loopw [1, 5] (fun c i wr => ∃ (k : Nat) (l : Int), k ≤ rs.length ∧ i = .int .i64 k ∧ c = .int .i64 l ∧ 0 ≤ l ∧ l ≤ left - (rs.length : Int) ∧ (∀ j, j < k → ((rs.getD j r0).2.size : Int) ≤ left) ∧ Below w.heap.size w wr) (fun _ i _ => rs.length - (intOf i).toNat)
    case atStart => exact ⟨0, _, Nat.zero_le _, rfl, rfl, by omega, Int.le_refl _, fun j hj => by omega, Below.refl _ _⟩
    case round =>
      obtain ⟨k, l, hk, rfl, rfl, hl0, hl1, hall, hb⟩ := hrel
      by_cases hlt : k < rs.length
      · obtain ⟨g, off, rfl, hg, hcs⟩ := hcells.resolve_left (by omega)
        have z0 : (0 : Int) ≤ (k : Int) := by omega
        have z1 : (k : Int) < (rs.length : Int) := by omega
        have hc := hcs k hlt
        have hxk := hx k hlt
        have d1 : wr.cell? ⟨g, off + k * 3, none⟩ = some (.int .i64 (rs.getD k r0).1.1) := by rw [hb.cell (p := ⟨g, off + k * 3, none⟩) hg]; exact hc.1
        have d2 : wr.cell? ⟨g, off + k * 3 + 1, none⟩ = some (.int .i64 (rs.getD k r0).1.2) := by rw [hb.cell (p := ⟨g, off + k * 3 + 1, none⟩) hg]; exact hc.2.1
        have d3 : wr.cell? ⟨g, off + k * 3 + 2, none⟩ = some (.string (rs.getD k r0).2) := by rw [hb.cell (p := ⟨g, off + k * 3 + 2, none⟩) hg]; exact hc.2.2
        have hn2 : ((rs.getD k r0).2.size : Int) ≤ l → ∀ j, j < k + 1 → ((rs.getD j r0).2.size : Int) ≤ left := by
          intro hh j hj
          rcases (by omega : j < k ∨ j = k) with h1 | rfl
          · exact hall j h1
          · omega
        have HN := Lib.hid hn2
        have HX := Lib.hid hx
        clear hcs hc hcells hall hn2 hx
        have HZ := Lib.hid (szreading_any (rs.getD k r0) l wr ⟨hl0, by omega⟩ hxk)
        generalize rs.getD k r0 = kx at *
        obtain ⟨⟨p, q⟩, y⟩ := kx
        dsimp only at *
        go_wp2_with fail
        refine HZ.out.mono ?_
        try dsimp only
        rintro e w2 ⟨rfl, hb2⟩
        have hB := hb.trans (hb2.mono hb.size)
        clear HZ d1 d2 d3 hb hb2
        by_cases hneg : l - (y.size : Int) < 0
        · rw [if_pos hneg]
          go_wp2
          go_ret
          exact ⟨-1, rfl, .inl rfl, hB⟩
        · rw [if_neg hneg]
          have hN := Lib.hid (HN.out (by omega))
          clear HN
          generalize hl2 : l - (y.size : Int) = l2 at *
          have hl3 : 0 ≤ l2 ∧ l2 ≤ left - (rs.length : Int) := by omega
          go_wp2
          exact ⟨⟨k + 1, l2, by omega, by go_num, rfl, hl3.1, hl3.2, hN.out, hB⟩, by simp [intOf]; omega⟩
      · obtain rfl : k = rs.length := by omega
        have HA := Lib.hid hall
        clear hall hcells hx
        go_wp2
        go_ret
        exact ⟨l, rfl, .inr ⟨hl0, hl1, HA.out⟩, hb⟩
end Go.Proofs.Ytnknfmjpkphbpaa
