/- Texts of this seat, one behind the other (part 2): what the laws of chapter 5 lean on. -/
import Derived.Test.YtnknfmjpkphbpaaDoorPk1
import Derived.OrdersHeld
import Derived.Deep.Quiet
import Derived.KernelRfl
import Derived.Lib.BufferWrite
import Derived.Lib.SlBuf
import Derived.Laws.CopyOwn
import Derived.Stop.BytesEq
import Derived.Laws.BytesArg
import Derived.Lib.ItoaLen
import Derived.Lib.Join
import Derived.Shelf.Strings.Builder1
import Derived.Shelf.Strings.Builder2
import Derived.Shelf.Strings.OnBuilder
import Derived.Shelf.Strconv.Itoa0
import Derived.Shelf.Strconv.Itoa1
import Derived.Shelf.LaysM
import Derived.Shelf.Strconv.Itoa2
import Derived.Shelf.Strconv.Itoa3
import Derived.Test.YtnknfmjpkphbpaaDoorProg
import Derived.Lib.ItoaNum
import Derived.Lib.ItoaMem
import Derived.Lib.AtoiAll
import Derived.Lib.AtoiAllCases
import Derived.Test.YtnknfmjpkphbpaaDoorRows
import Derived.WalkKit
import Derived.ProofKit
import Derived.OpenShut
import Derived.ShutString
import Derived.Below
import Derived.Outline
import Derived.WalkSpells
import Derived.WalkLawsBesides
import Derived.Lib.Hide
import Derived.Lib.AppendIntMem
import Derived.Lib.SmallJoins
import Derived.WalkSmall
import Derived.WideLaws
import Derived.RangeFuncBox
import Derived.Maps.AppendAt
import Derived.Deep.RegionHeld3
import Derived.Deep.AppendLies
import Derived.StillTactics
import Derived.Laws.OwnMore

set_option linter.unusedVariables false
set_option linter.unusedSimpArgs false

/- The model's chapter 3, walked: two lists of keys made one (the walk). -/
namespace Go.Proofs.YtnknfmjpkphbpaaDoor
open Go.ChangeShapes Go.WideShapes Go.ChangeAt Go.RowKit Go.BigFrame
set_option linter.unusedVariables false

set_option maxRecDepth 100000 in
set_option maxHeartbeats 4000000 in
theorem smerge_any (va vb : Value) (A B : List K2) (both : Bool) (w : World) (ha : keysAt w va A) (hb : keysAt w vb B) (hsA : A.length ≤ 2000000) (hsB : B.length ≤ 2000000) :
    Calls Tryd.prog 74 #[va, vb, .bool both] w fun e w' => ∃ v, e = .returned v ∧ w'.ownsRow w.heap.size 32 2 v (mergeV both A B).length (keyCells (mergeV both A B)) ∧ Below w.heap.size w w' := by
  obtain ⟨i0, hi, hz0, hz1, hz2⟩ := info_parts infoK
  have hown0 := World.ownsRow_made (base := w.heap.size) (e := 32) (size := 2) w #[] 0 (Nat.le_refl _) (by unfold maxLen; omega) rfl
  have hb0 := (Below.refl w.heap.size w).alloc (Nat.le_refl _) (.cells #[] 32)
  have KA := Lib.hid (fun w' (h : Below w.heap.size w w') => skeysok_any va A w' (keysAt_below ha h) hsA)
  have KB := Lib.hid (fun w' (h : Below w.heap.size w w') => skeysok_any vb B w' (keysAt_below hb h) hsB)
  generalize hmv : mergeV both A B = M
  go_enter Tryd.func74, Tryd.ntmps74
  go_wp2_with fail
  generalize w.alloc (.cells #[] 32) = W at *
  refine (KA.out _ hb0).mono ?_
  rintro e w1 ⟨rfl, hbx⟩
  have hown1 := own_below hown0 hbx
  have hb1 := hb0.trans (hbx.mono hb0.size)
  clear hbx hown0 hb0 KA
  cases hA : keysOkR A with
  | false =>
    obtain rfl : M = [] := by rw [← hmv]; unfold mergeV; rw [hA]; rfl
    go_wp2
    go_ret
    exact ⟨_, rfl, hown1, hb1⟩
  | true =>
    go_wp2_with fail
    refine (KB.out _ hb1).mono ?_
    rintro e w2 ⟨rfl, hbx⟩
    have hown2 := own_below hown1 hbx
    have hb2 := hb1.trans (hbx.mono hb1.size)
    clear hbx hown1 hb1 KB
    cases hB : keysOkR B with
    | false =>
      obtain rfl : M = [] := by rw [← hmv]; unfold mergeV; rw [hA, hB]; rfl
      go_wp2
      go_ret
      exact ⟨_, rfl, hown2, hb2⟩
    | true =>
      have hML : mergeL both A B = M := by rw [← hmv]; unfold mergeV; rw [hA, hB]; rfl
      have hlen := mergeL_len both A B
      rw [hML] at hlen
      obtain ⟨aa, ca, rfl, hca, hcA⟩ := ha
      obtain ⟨ab, cb, rfl, hcb, hcB⟩ := hb
      clear hA hB hmv
      go_wp2
      go_loopw [7, 8, 9] (fun v i j wr => ∃ (x y : Nat) (out : List K2), x ≤ A.length ∧ y ≤ B.length ∧ i = .int .i64 x ∧ j = .int .i64 y ∧ out ++ mergeL both (A.drop x) (B.drop y) = M ∧
          wr.ownsRow w.heap.size 32 2 v out.length (keyCells out) ∧ Below w.heap.size w wr) (fun _ i j _ => (A.length - (intOf i).toNat) + (B.length - (intOf j).toNat))
      case atStart => exact ⟨0, 0, [], by omega, by omega, rfl, rfl, by simpa using hML, hown2, hb2⟩
      case round =>
        obtain ⟨x, y, out, hx, hy, rfl, rfl, hout, hown, hbr⟩ := hrel
        clear hown2 hb2
        have hol : out.length ≤ M.length := by rw [← hout]; simp
        by_cases hxA : x < A.length
        · by_cases hyB : y < B.length
          ·
            obtain ⟨ga, offa, rfl, hga, hcsA⟩ := hcA.resolve_left (by omega)
            have cA := hcsA x hxA
            have LA : ∀ w', Below wr.heap.size wr w' → (loadVar 32 ⟨ga, offa + x * 2, none⟩).run Tryd.prog w' = .ok (kv (A.getD x (0, 0))) w' := fun w' h => key_load cA hga (hbr.trans (h.mono hbr.size))
            clear hcsA hcA
            obtain ⟨gb, offb, rfl, hgb, hcsB⟩ := hcB.resolve_left (by omega)
            have cB := hcsB y hyB
            have LB : ∀ w', Below wr.heap.size wr w' → (loadVar 32 ⟨gb, offb + y * 2, none⟩).run Tryd.prog w' = .ok (kv (B.getD y (0, 0))) w' := fun w' h => key_load cB hgb (hbr.trans (h.mono hbr.size))
            clear hcsB hcB
            have hdA := drop_at A x hxA
            have hdB := drop_at B y hyB
            have hco := mergeL_cons both (A.getD x (0, 0)) (A.drop (x + 1)) (B.getD y (0, 0)) (B.drop (y + 1))
            rw [← hdA, ← hdB] at hco
            have HAB := Lib.hid (fun w => sahead_any (A.getD x (0, 0)) (B.getD y (0, 0)) w)
            have HBA := Lib.hid (fun w => sahead_any (B.getD y (0, 0)) (A.getD x (0, 0)) w)
            cases hab : aheadB (A.getD x (0, 0)) (B.getD y (0, 0)) with
            | true =>
              rw [hab] at HAB
              rw [if_pos hab] at hco
              have hnx : (out ++ [A.getD x (0, 0)]) ++ mergeL both (A.drop (x + 1)) (B.drop y) = M := by
                rw [← hout, hco]; simp
              clear HBA hco hdA hdB hout hab
              generalize B.getD y (0, 0) = ky at *
              generalize A.getD x (0, 0) = kx at *
              obtain ⟨p, q⟩ := kx
              have HNX := Lib.hid hnx; have CA := Lib.hid cA
              clear hnx cA cB
              have z0 : (0 : Int) ≤ (x : Int) := by omega
              have z1 : (x : Int) < (A.length : Int) := by omega
              have y0 : (0 : Int) ≤ (y : Int) := by omega
              have y1 : (y : Int) < (B.length : Int) := by omega
              have n1 : ¬ (y : Int) = (B.length : Int) := by omega
              have n2 : ¬ y = B.length := by omega
              have n3 : ((y : Int) == (B.length : Int)) = false := beq_eq_false_iff_ne.2 n1
              have m1 : ¬ (x : Int) = (A.length : Int) := by omega
              have m2 : ¬ x = A.length := by omega
              have m3 : ((x : Int) == (A.length : Int)) = false := beq_eq_false_iff_ne.2 m1
              go_wp2
              refine wp_region_below wr (by kernel_rfl) (by kernel_rfl) (Below.refl _ _) ?_
              repeat (first
                | go_big_quiet_skip
                | (go_big_quiet_want
                   first
                     | (go_big_quiet_op; go_big_quiet_on)
                     | (refine q_load 32 _ _ _ rfl rfl LA ?_; simp only [Act.put, List.setIfInBounds_toArray, List.set_cons_zero, List.set_cons_succ]; go_big_quiet_on)
                     | (refine q_load 32 _ _ _ rfl rfl LB ?_; simp only [Act.put, List.setIfInBounds_toArray, List.set_cons_zero, List.set_cons_succ]; go_big_quiet_on)
                     | (go_big_quiet_op; refine ⟨_, fun _ _ => rfl, ?_⟩; go_big_quiet_on)
                     | (go_big_quiet_op; apply Exists.intro; refine ⟨fun w' hw' => ?_, ?_⟩
                        · first
                          | (refine (HAB.out w').mono ?_
                             rintro e w2 ⟨rfl, hb2⟩
                             exact ⟨rfl, hw'.trans (hb2.mono hw'.size)⟩)
                        go_big_quiet_on)))
              refine wpQuiet_nil ?_
              intro w2 hb2
              clear LA LB HAB
              have hown2 := own_below hown hb2
              have hbq := hbr.trans (hb2.mono hbr.size)
              have d1 : w2.cell? ⟨ga, offa + x * 2, none⟩ = some (.int .i64 p) := by rw [hbq.cell (p := ⟨ga, offa + x * 2, none⟩) hga]; exact CA.out.1
              have d2 : w2.cell? ⟨ga, offa + x * 2 + 1, none⟩ = some (.int .i64 q) := by rw [hbq.cell (p := ⟨ga, offa + x * 2 + 1, none⟩) hga]; exact CA.out.2
              have hns := hbq.size
              clear hown hbr hb2
              go_wp2_with (at_builtin; refine wpList_append_own _ rfl (.tmp 64) (.tmp 69) 24 rfl w.heap.size 32 i0 (.agg #[.int .i64 0, .int .i64 0]) 2 16 Tryd.underlying24 hi hz0 hz1 hz2 rfl (by decide) _ _ _ rfl (hown2.alloc _) ⟨w2.heap.size, 0, none⟩ 1 1 [.int .i64 p, .int .i64 q] rfl rfl (cell_two_new _ _ _ _) (by intro u hu; simp at hu; rcases hu with rfl | rfl <;> rfl) (by unfold maxLen; omega) (by omega) (by simp; omega) ?_; intro v' w5 hown' hgrow _)
              have R : w5.ownsRow w.heap.size 32 2 v' (out ++ [(p, q)]).length (keyCells (out ++ [(p, q)])) ∧ Below w.heap.size w w5 := by
                refine ⟨by rw [keyCells_snoc]; simpa using hown', (hbq.alloc hbq.size _).grown hgrow (by simp; omega) (fun g hg => (hown2.lt g hg).1)⟩
              have HR := Lib.hid R
              clear R hown' hgrow hown2 hbq
              go_wp2
              exact ⟨⟨x + 1, y, out ++ [(p, q)], by omega, by omega, by go_num, by go_num, HNX.out, HR.out.1, HR.out.2⟩, by simp [intOf]; omega⟩
            | false =>
              cases hba : aheadB (B.getD y (0, 0)) (A.getD x (0, 0)) with
              | true =>
                rw [hab] at HAB
                rw [hba] at HBA
                rw [if_neg (by rw [hab]; exact Bool.false_ne_true), if_pos hba] at hco
                have hnx : (out ++ [B.getD y (0, 0)]) ++ mergeL both (A.drop x) (B.drop (y + 1)) = M := by
                  rw [← hout, hco]; simp
                clear hco hdA hdB hout hab hba
                generalize A.getD x (0, 0) = kx at *
                generalize B.getD y (0, 0) = ky at *
                obtain ⟨p, q⟩ := ky
                have HNX := Lib.hid hnx; have CB := Lib.hid cB
                clear hnx cA cB
                have z0 : (0 : Int) ≤ (x : Int) := by omega
                have z1 : (x : Int) < (A.length : Int) := by omega
                have y0 : (0 : Int) ≤ (y : Int) := by omega
                have y1 : (y : Int) < (B.length : Int) := by omega
                have n1 : ¬ (y : Int) = (B.length : Int) := by omega
                have n2 : ¬ y = B.length := by omega
                have n3 : ((y : Int) == (B.length : Int)) = false := beq_eq_false_iff_ne.2 n1
                have m1 : ¬ (x : Int) = (A.length : Int) := by omega
                have m2 : ¬ x = A.length := by omega
                have m3 : ((x : Int) == (A.length : Int)) = false := beq_eq_false_iff_ne.2 m1
                go_wp2
                refine wp_region_below wr (by kernel_rfl) (by kernel_rfl) (Below.refl _ _) ?_
                repeat (first
                  | go_big_quiet_skip
                  | (go_big_quiet_want
                     first
                       | (go_big_quiet_op; go_big_quiet_on)
                       | (refine q_load 32 _ _ _ rfl rfl LA ?_; simp only [Act.put, List.setIfInBounds_toArray, List.set_cons_zero, List.set_cons_succ]; go_big_quiet_on)
                       | (refine q_load 32 _ _ _ rfl rfl LB ?_; simp only [Act.put, List.setIfInBounds_toArray, List.set_cons_zero, List.set_cons_succ]; go_big_quiet_on)
                       | (go_big_quiet_op; refine ⟨_, fun _ _ => rfl, ?_⟩; go_big_quiet_on)
                       | (go_big_quiet_op; apply Exists.intro; refine ⟨fun w' hw' => ?_, ?_⟩
                          · first
                            | (refine (HAB.out w').mono ?_
                               rintro e w2 ⟨rfl, hb2⟩
                               exact ⟨rfl, hw'.trans (hb2.mono hw'.size)⟩)
                          go_big_quiet_on)))
                refine wpQuiet_nil ?_
                intro w1' hb1'
                go_wp2
                refine wp_region_below wr (by kernel_rfl) (by kernel_rfl) hb1' ?_
                repeat (first
                  | go_big_quiet_skip
                  | (go_big_quiet_want
                     first
                       | (go_big_quiet_op; go_big_quiet_on)
                       | (refine q_load 32 _ _ _ rfl rfl LA ?_; simp only [Act.put, List.setIfInBounds_toArray, List.set_cons_zero, List.set_cons_succ]; go_big_quiet_on)
                       | (refine q_load 32 _ _ _ rfl rfl LB ?_; simp only [Act.put, List.setIfInBounds_toArray, List.set_cons_zero, List.set_cons_succ]; go_big_quiet_on)
                       | (go_big_quiet_op; refine ⟨_, fun _ _ => rfl, ?_⟩; go_big_quiet_on)
                       | (go_big_quiet_op; apply Exists.intro; refine ⟨fun w' hw' => ?_, ?_⟩
                          · first
                            | (refine (HBA.out w').mono ?_
                               rintro e w2 ⟨rfl, hb2⟩
                               exact ⟨rfl, hw'.trans (hb2.mono hw'.size)⟩)
                          go_big_quiet_on)))
                refine wpQuiet_nil ?_
                intro w2 hb2
                clear LA LB HAB HBA hb1'
                have hown2 := own_below hown hb2
                have hbq := hbr.trans (hb2.mono hbr.size)
                have d1 : w2.cell? ⟨gb, offb + y * 2, none⟩ = some (.int .i64 p) := by rw [hbq.cell (p := ⟨gb, offb + y * 2, none⟩) hgb]; exact CB.out.1
                have d2 : w2.cell? ⟨gb, offb + y * 2 + 1, none⟩ = some (.int .i64 q) := by rw [hbq.cell (p := ⟨gb, offb + y * 2 + 1, none⟩) hgb]; exact CB.out.2
                have hns := hbq.size
                clear hown hbr hb2
                go_wp2_with (at_builtin; refine wpList_append_own _ rfl (.tmp 89) (.tmp 94) 24 rfl w.heap.size 32 i0 (.agg #[.int .i64 0, .int .i64 0]) 2 16 Tryd.underlying24 hi hz0 hz1 hz2 rfl (by decide) _ _ _ rfl (hown2.alloc _) ⟨w2.heap.size, 0, none⟩ 1 1 [.int .i64 p, .int .i64 q] rfl rfl (cell_two_new _ _ _ _) (by intro u hu; simp at hu; rcases hu with rfl | rfl <;> rfl) (by unfold maxLen; omega) (by omega) (by simp; omega) ?_; intro v' w5 hown' hgrow _)
                have R : w5.ownsRow w.heap.size 32 2 v' (out ++ [(p, q)]).length (keyCells (out ++ [(p, q)])) ∧ Below w.heap.size w w5 := by
                  refine ⟨by rw [keyCells_snoc]; simpa using hown', (hbq.alloc hbq.size _).grown hgrow (by simp; omega) (fun g hg => (hown2.lt g hg).1)⟩
                have HR := Lib.hid R
                clear R hown' hgrow hown2 hbq
                go_wp2
                exact ⟨⟨x, y + 1, out ++ [(p, q)], by omega, by omega, by go_num, by go_num, HNX.out, HR.out.1, HR.out.2⟩, by simp [intOf]; omega⟩
              | false =>
                rw [hab] at HAB
                rw [hba] at HBA
                rw [if_neg (by rw [hab]; exact Bool.false_ne_true), if_neg (by rw [hba]; exact Bool.false_ne_true)] at hco
                have hnx : (out ++ (if both then [A.getD x (0, 0)] else [])) ++ mergeL both (A.drop (x + 1)) (B.drop (y + 1)) = M := by
                  rw [← hout, hco]; simp
                clear hco hdA hdB hout hab hba
                generalize A.getD x (0, 0) = kx at *
                generalize B.getD y (0, 0) = ky at *
                obtain ⟨p, q⟩ := kx
                have z0 : (0 : Int) ≤ (x : Int) := by omega
                have z1 : (x : Int) < (A.length : Int) := by omega
                have y0 : (0 : Int) ≤ (y : Int) := by omega
                have y1 : (y : Int) < (B.length : Int) := by omega
                have n1 : ¬ (y : Int) = (B.length : Int) := by omega
                have n2 : ¬ y = B.length := by omega
                have n3 : ((y : Int) == (B.length : Int)) = false := beq_eq_false_iff_ne.2 n1
                have m1 : ¬ (x : Int) = (A.length : Int) := by omega
                have m2 : ¬ x = A.length := by omega
                have m3 : ((x : Int) == (A.length : Int)) = false := beq_eq_false_iff_ne.2 m1
                cases both with
                | true =>
                  have hnx2 : (out ++ [(p, q)]) ++ mergeL true (A.drop (x + 1)) (B.drop (y + 1)) = M := hnx
                  have HNX := Lib.hid hnx2; have CA := Lib.hid cA
                  clear hnx hnx2 cA cB
                  go_wp2
                  refine wp_region_below wr (by kernel_rfl) (by kernel_rfl) (Below.refl _ _) ?_
                  repeat (first
                    | go_big_quiet_skip
                    | (go_big_quiet_want
                       first
                         | (go_big_quiet_op; go_big_quiet_on)
                         | (refine q_load 32 _ _ _ rfl rfl LA ?_; simp only [Act.put, List.setIfInBounds_toArray, List.set_cons_zero, List.set_cons_succ]; go_big_quiet_on)
                         | (refine q_load 32 _ _ _ rfl rfl LB ?_; simp only [Act.put, List.setIfInBounds_toArray, List.set_cons_zero, List.set_cons_succ]; go_big_quiet_on)
                         | (go_big_quiet_op; refine ⟨_, fun _ _ => rfl, ?_⟩; go_big_quiet_on)
                         | (go_big_quiet_op; apply Exists.intro; refine ⟨fun w' hw' => ?_, ?_⟩
                            · first
                              | (refine (HAB.out w').mono ?_
                                 rintro e w2 ⟨rfl, hb2⟩
                                 exact ⟨rfl, hw'.trans (hb2.mono hw'.size)⟩)
                            go_big_quiet_on)))
                  refine wpQuiet_nil ?_
                  intro w1' hb1'
                  go_wp2
                  refine wp_region_below wr (by kernel_rfl) (by kernel_rfl) hb1' ?_
                  repeat (first
                    | go_big_quiet_skip
                    | (go_big_quiet_want
                       first
                         | (go_big_quiet_op; go_big_quiet_on)
                         | (refine q_load 32 _ _ _ rfl rfl LA ?_; simp only [Act.put, List.setIfInBounds_toArray, List.set_cons_zero, List.set_cons_succ]; go_big_quiet_on)
                         | (refine q_load 32 _ _ _ rfl rfl LB ?_; simp only [Act.put, List.setIfInBounds_toArray, List.set_cons_zero, List.set_cons_succ]; go_big_quiet_on)
                         | (go_big_quiet_op; refine ⟨_, fun _ _ => rfl, ?_⟩; go_big_quiet_on)
                         | (go_big_quiet_op; apply Exists.intro; refine ⟨fun w' hw' => ?_, ?_⟩
                            · first
                              | (refine (HBA.out w').mono ?_
                                 rintro e w2 ⟨rfl, hb2⟩
                                 exact ⟨rfl, hw'.trans (hb2.mono hw'.size)⟩)
                            go_big_quiet_on)))
                  refine wpQuiet_nil ?_
                  intro w2 hb2
                  clear LA LB HAB HBA hb1'
                  have hown2 := own_below hown hb2
                  have hbq := hbr.trans (hb2.mono hbr.size)
                  have d1 : w2.cell? ⟨ga, offa + x * 2, none⟩ = some (.int .i64 p) := by rw [hbq.cell (p := ⟨ga, offa + x * 2, none⟩) hga]; exact CA.out.1
                  have d2 : w2.cell? ⟨ga, offa + x * 2 + 1, none⟩ = some (.int .i64 q) := by rw [hbq.cell (p := ⟨ga, offa + x * 2 + 1, none⟩) hga]; exact CA.out.2
                  have hns := hbq.size
                  clear hown hbr hb2
                  go_wp2_with (at_builtin; refine wpList_append_own _ rfl (.tmp 31) (.tmp 36) 24 rfl w.heap.size 32 i0 (.agg #[.int .i64 0, .int .i64 0]) 2 16 Tryd.underlying24 hi hz0 hz1 hz2 rfl (by decide) _ _ _ rfl (hown2.alloc _) ⟨w2.heap.size, 0, none⟩ 1 1 [.int .i64 p, .int .i64 q] rfl rfl (cell_two_new _ _ _ _) (by intro u hu; simp at hu; rcases hu with rfl | rfl <;> rfl) (by unfold maxLen; omega) (by omega) (by simp; omega) ?_; intro v' w5 hown' hgrow _)
                  have R : w5.ownsRow w.heap.size 32 2 v' (out ++ [(p, q)]).length (keyCells (out ++ [(p, q)])) ∧ Below w.heap.size w w5 := by
                    refine ⟨by rw [keyCells_snoc]; simpa using hown', (hbq.alloc hbq.size _).grown hgrow (by simp; omega) (fun g hg => (hown2.lt g hg).1)⟩
                  have HR := Lib.hid R
                  clear R hown' hgrow hown2 hbq
                  go_wp2
                  exact ⟨⟨x + 1, y + 1, out ++ [(p, q)], by omega, by omega, by go_num, by go_num, HNX.out, HR.out.1, HR.out.2⟩, by simp [intOf]; omega⟩
                | false =>
                  have hnx2 : out ++ mergeL false (A.drop (x + 1)) (B.drop (y + 1)) = M := by simpa using hnx
                  have HNX := Lib.hid hnx2
                  clear hnx hnx2 cA cB
                  go_wp2
                  refine wp_region_below wr (by kernel_rfl) (by kernel_rfl) (Below.refl _ _) ?_
                  repeat (first
                    | go_big_quiet_skip
                    | (go_big_quiet_want
                       first
                         | (go_big_quiet_op; go_big_quiet_on)
                         | (refine q_load 32 _ _ _ rfl rfl LA ?_; simp only [Act.put, List.setIfInBounds_toArray, List.set_cons_zero, List.set_cons_succ]; go_big_quiet_on)
                         | (refine q_load 32 _ _ _ rfl rfl LB ?_; simp only [Act.put, List.setIfInBounds_toArray, List.set_cons_zero, List.set_cons_succ]; go_big_quiet_on)
                         | (go_big_quiet_op; refine ⟨_, fun _ _ => rfl, ?_⟩; go_big_quiet_on)
                         | (go_big_quiet_op; apply Exists.intro; refine ⟨fun w' hw' => ?_, ?_⟩
                            · first
                              | (refine (HAB.out w').mono ?_
                                 rintro e w2 ⟨rfl, hb2⟩
                                 exact ⟨rfl, hw'.trans (hb2.mono hw'.size)⟩)
                            go_big_quiet_on)))
                  refine wpQuiet_nil ?_
                  intro w1' hb1'
                  go_wp2
                  refine wp_region_below wr (by kernel_rfl) (by kernel_rfl) hb1' ?_
                  repeat (first
                    | go_big_quiet_skip
                    | (go_big_quiet_want
                       first
                         | (go_big_quiet_op; go_big_quiet_on)
                         | (refine q_load 32 _ _ _ rfl rfl LA ?_; simp only [Act.put, List.setIfInBounds_toArray, List.set_cons_zero, List.set_cons_succ]; go_big_quiet_on)
                         | (refine q_load 32 _ _ _ rfl rfl LB ?_; simp only [Act.put, List.setIfInBounds_toArray, List.set_cons_zero, List.set_cons_succ]; go_big_quiet_on)
                         | (go_big_quiet_op; refine ⟨_, fun _ _ => rfl, ?_⟩; go_big_quiet_on)
                         | (go_big_quiet_op; apply Exists.intro; refine ⟨fun w' hw' => ?_, ?_⟩
                            · first
                              | (refine (HBA.out w').mono ?_
                                 rintro e w2 ⟨rfl, hb2⟩
                                 exact ⟨rfl, hw'.trans (hb2.mono hw'.size)⟩)
                            go_big_quiet_on)))
                  refine wpQuiet_nil ?_
                  intro w2 hb2
                  clear LA LB HAB HBA hb1'
                  have hown2 := own_below hown hb2
                  have hbq := hbr.trans (hb2.mono hbr.size)
                  go_wp2
                  exact ⟨⟨x + 1, y + 1, out, by omega, by omega, by go_num, by go_num, HNX.out, hown2, hbq⟩, by simp [intOf]; omega⟩
          ·
            obtain rfl : y = B.length := by omega
            obtain ⟨ga, offa, rfl, hga, hcsA⟩ := hcA.resolve_left (by omega)
            have cA := hcsA x hxA
            have LA : ∀ w', Below wr.heap.size wr w' → (loadVar 32 ⟨ga, offa + x * 2, none⟩).run Tryd.prog w' = .ok (kv (A.getD x (0, 0))) w' := fun w' h => key_load cA hga (hbr.trans (h.mono hbr.size))
            clear hcsA hcA
            have hdA := drop_at A x hxA
            have hdB : B.drop B.length = [] := List.drop_eq_nil_of_le (Nat.le_refl _)
            have hnx : (out ++ [A.getD x (0, 0)]) ++ mergeL both (A.drop (x + 1)) (B.drop B.length) = M := by
              rw [← hout, hdB, mergeL_nil_r, mergeL_nil_r, hdA]; simp
            generalize A.getD x (0, 0) = kx at *
            obtain ⟨p, q⟩ := kx
            have HNX := Lib.hid hnx; have CA := Lib.hid cA
            clear hdA hdB hnx hout cA
            have z0 : (0 : Int) ≤ (x : Int) := by omega
            have z1 : (x : Int) < (A.length : Int) := by omega
            have z2 : ¬ (B.length : Int) < (B.length : Int) := by omega
            go_wp2
            refine wp_region_below wr (by kernel_rfl) (by kernel_rfl) (Below.refl _ _) ?_
            repeat (first
              | go_big_quiet_skip
              | (go_big_quiet_want
                 first
                   | (go_big_quiet_op; go_big_quiet_on)
                   | (refine q_load 32 _ _ _ rfl rfl LA ?_; simp only [Act.put, List.setIfInBounds_toArray, List.set_cons_zero, List.set_cons_succ]; go_big_quiet_on)
                   | (go_big_quiet_op; refine ⟨_, fun _ _ => rfl, ?_⟩; go_big_quiet_on)
                   | (go_big_quiet_op; go_big_quiet_on)))
            refine wpQuiet_nil ?_
            intro w2 hb2
            clear LA
            have hown2 := own_below hown hb2
            have hbq := hbr.trans (hb2.mono hbr.size)
            have d1 : w2.cell? ⟨ga, offa + x * 2, none⟩ = some (.int .i64 p) := by rw [hbq.cell (p := ⟨ga, offa + x * 2, none⟩) hga]; exact CA.out.1
            have d2 : w2.cell? ⟨ga, offa + x * 2 + 1, none⟩ = some (.int .i64 q) := by rw [hbq.cell (p := ⟨ga, offa + x * 2 + 1, none⟩) hga]; exact CA.out.2
            have hns := hbq.size
            clear hown hbr hb2
            go_wp2_with (at_builtin; refine wpList_append_own _ rfl (.tmp 64) (.tmp 69) 24 rfl w.heap.size 32 i0 (.agg #[.int .i64 0, .int .i64 0]) 2 16 Tryd.underlying24 hi hz0 hz1 hz2 rfl (by decide) _ _ _ rfl (hown2.alloc _) ⟨w2.heap.size, 0, none⟩ 1 1 [.int .i64 p, .int .i64 q] rfl rfl (cell_two_new _ _ _ _) (by intro u hu; simp at hu; rcases hu with rfl | rfl <;> rfl) (by unfold maxLen; omega) (by omega) (by simp; omega) ?_; intro v' w5 hown' hgrow _)
            have R : w5.ownsRow w.heap.size 32 2 v' (out ++ [(p, q)]).length (keyCells (out ++ [(p, q)])) ∧ Below w.heap.size w w5 := by
              refine ⟨by rw [keyCells_snoc]; simpa using hown', (hbq.alloc hbq.size _).grown hgrow (by simp; omega) (fun g hg => (hown2.lt g hg).1)⟩
            have HR := Lib.hid R
            clear R hown' hgrow hown2 hbq
            go_wp2
            exact ⟨⟨x + 1, B.length, out ++ [(p, q)], by omega, by omega, by go_num, by go_num, HNX.out, HR.out.1, HR.out.2⟩, by simp [intOf]; omega⟩
        · by_cases hyB : y < B.length
          ·
            obtain rfl : x = A.length := by omega
            obtain ⟨gb, offb, rfl, hgb, hcsB⟩ := hcB.resolve_left (by omega)
            have cB := hcsB y hyB
            have LB : ∀ w', Below wr.heap.size wr w' → (loadVar 32 ⟨gb, offb + y * 2, none⟩).run Tryd.prog w' = .ok (kv (B.getD y (0, 0))) w' := fun w' h => key_load cB hgb (hbr.trans (h.mono hbr.size))
            clear hcsB hcB
            have hdB := drop_at B y hyB
            have hdA : A.drop A.length = [] := List.drop_eq_nil_of_le (Nat.le_refl _)
            have hnx : (out ++ [B.getD y (0, 0)]) ++ mergeL both (A.drop A.length) (B.drop (y + 1)) = M := by
              rw [← hout, hdA, mergeL_nil_l, mergeL_nil_l, hdB]; simp
            generalize B.getD y (0, 0) = ky at *
            obtain ⟨p, q⟩ := ky
            have HNX := Lib.hid hnx; have CB := Lib.hid cB
            clear hdA hdB hnx hout cB
            have y0 : (0 : Int) ≤ (y : Int) := by omega
            have y1 : (y : Int) < (B.length : Int) := by omega
            have n1 : ¬ (y : Int) = (B.length : Int) := by omega
            have n2 : ¬ y = B.length := by omega
            have n3 : ((y : Int) == (B.length : Int)) = false := beq_eq_false_iff_ne.2 n1
            have z2 : ¬ (A.length : Int) < (A.length : Int) := by omega
            go_wp2
            refine wp_region_below wr (by kernel_rfl) (by kernel_rfl) (Below.refl _ _) ?_
            repeat (first
              | go_big_quiet_skip
              | (go_big_quiet_want
                 first
                   | (go_big_quiet_op; go_big_quiet_on)
                   | (refine q_load 32 _ _ _ rfl rfl LB ?_; simp only [Act.put, List.setIfInBounds_toArray, List.set_cons_zero, List.set_cons_succ]; go_big_quiet_on)
                   | (go_big_quiet_op; refine ⟨_, fun _ _ => rfl, ?_⟩; go_big_quiet_on)
                   | (go_big_quiet_op; go_big_quiet_on)))
            refine wpQuiet_nil ?_
            intro w1' hb1'
            go_wp2
            refine wp_region_below wr (by kernel_rfl) (by kernel_rfl) hb1' ?_
            repeat (first
              | go_big_quiet_skip
              | (go_big_quiet_want
                 first
                   | (go_big_quiet_op; go_big_quiet_on)
                   | (refine q_load 32 _ _ _ rfl rfl LB ?_; simp only [Act.put, List.setIfInBounds_toArray, List.set_cons_zero, List.set_cons_succ]; go_big_quiet_on)
                   | (go_big_quiet_op; refine ⟨_, fun _ _ => rfl, ?_⟩; go_big_quiet_on)
                   | (go_big_quiet_op; go_big_quiet_on)))
            refine wpQuiet_nil ?_
            intro w2 hb2
            clear LB hb1'
            have hown2 := own_below hown hb2
            have hbq := hbr.trans (hb2.mono hbr.size)
            have d1 : w2.cell? ⟨gb, offb + y * 2, none⟩ = some (.int .i64 p) := by rw [hbq.cell (p := ⟨gb, offb + y * 2, none⟩) hgb]; exact CB.out.1
            have d2 : w2.cell? ⟨gb, offb + y * 2 + 1, none⟩ = some (.int .i64 q) := by rw [hbq.cell (p := ⟨gb, offb + y * 2 + 1, none⟩) hgb]; exact CB.out.2
            have hns := hbq.size
            clear hown hbr hb2
            go_wp2_with (at_builtin; refine wpList_append_own _ rfl (.tmp 89) (.tmp 94) 24 rfl w.heap.size 32 i0 (.agg #[.int .i64 0, .int .i64 0]) 2 16 Tryd.underlying24 hi hz0 hz1 hz2 rfl (by decide) _ _ _ rfl (hown2.alloc _) ⟨w2.heap.size, 0, none⟩ 1 1 [.int .i64 p, .int .i64 q] rfl rfl (cell_two_new _ _ _ _) (by intro u hu; simp at hu; rcases hu with rfl | rfl <;> rfl) (by unfold maxLen; omega) (by omega) (by simp; omega) ?_; intro v' w5 hown' hgrow _)
            have R : w5.ownsRow w.heap.size 32 2 v' (out ++ [(p, q)]).length (keyCells (out ++ [(p, q)])) ∧ Below w.heap.size w w5 := by
              refine ⟨by rw [keyCells_snoc]; simpa using hown', (hbq.alloc hbq.size _).grown hgrow (by simp; omega) (fun g hg => (hown2.lt g hg).1)⟩
            have HR := Lib.hid R
            clear R hown' hgrow hown2 hbq
            go_wp2
            exact ⟨⟨A.length, y + 1, out ++ [(p, q)], by omega, by omega, by go_num, by go_num, HNX.out, HR.out.1, HR.out.2⟩, by simp [intOf]; omega⟩
          ·
            obtain rfl : x = A.length := by omega
            obtain rfl : y = B.length := by omega
            have hdA : A.drop A.length = [] := List.drop_eq_nil_of_le (Nat.le_refl _)
            have hdB : B.drop B.length = [] := List.drop_eq_nil_of_le (Nat.le_refl _)
            rw [hdA, hdB, mergeL_nil_r, List.append_nil] at hout
            subst hout
            have z2 : ¬ (A.length : Int) < (A.length : Int) := by omega
            have z3 : ¬ (B.length : Int) < (B.length : Int) := by omega
            go_wp2
            go_ret
            exact ⟨_, rfl, hown, hbr⟩
end Go.Proofs.YtnknfmjpkphbpaaDoor
/- Keys in the laws: one made anew, two held against each other. -/
namespace Go.Proofs.YtnknfmjpkphbpaaDoor
open Go.ChangeShapes Go.WideShapes Go.ChangeAt Go.RowKit Go.BigFrame
set_option linter.unusedVariables false

theorem tokey_any (k : K2) (w : World) : Calls Tryd.prog 56 #[kv k] w fun e w' => e = .returned (kv k) ∧ Below w.heap.size w w' := by
  obtain ⟨n, s⟩ := k
  unfold kv
  dsimp only
  have hB : ∀ o1 o2 o3, Below w.heap.size w (((w.alloc o1).alloc o2).alloc o3) := fun o1 o2 o3 => (((Below.refl _ _).alloc (Nat.le_refl _) _).alloc (by simp) _).alloc (by simp; omega) _
  have HB := Lib.hid hB; clear hB
  go_enter Tryd.func56, Tryd.ntmps56
  go_wp2
  refine bodyPost_ret (v := .agg #[.int .i64 n, .int .i64 s]) ?_ rfl ⟨rfl, HB.out _ _ _⟩
  rw [results_cell (p := 2) (ty := 32) (by kernel_rfl)]
  have hl := run_loadVar_row (P := Tryd.prog) (((w.alloc (.cells #[.int .i64 n, .int .i64 s] 81)).alloc (.cells #[.int .i64 n, .int .i64 s] 32)).alloc (.cells #[.int .i64 n, .int .i64 s] 32)) (w.heap.size + 1) 32 32 #[.int .i64 n, .int .i64 s] (0, 0) _ (heap_mid w _ _ _) Tryd.underlying32 rfl (by kernel_rfl)
  simp [asAddr, Result.andThen, hl]
theorem eqkey_any (p q : K2) (w : World) : Calls Tryd.prog 57 #[kv p, kv q] w fun e w' => e = .returned (.bool (p == q)) ∧ Below w.heap.size w w' := by
  obtain ⟨a, b⟩ := p; obtain ⟨c, d⟩ := q
  have hB : ∀ o o', Below w.heap.size w ((w.alloc o).alloc o') := fun o o' => ((Below.refl _ _).alloc (Nat.le_refl _) _).alloc (by simp) _
  have HB := Lib.hid hB; clear hB
  by_cases h1 : a = c
  · by_cases h2 : b = d
    · have he : ((a, b) == (c, d)) = true := by simp [h1, h2]
      rw [he]
      unfold kv
      dsimp only
      subst h1; subst h2
      go_enter Tryd.func57, Tryd.ntmps57
      go_wp2
      go_ret
      exact ⟨rfl, HB.out _ _⟩
    · have he : ((a, b) == (c, d)) = false := by simp [h1, h2]
      rw [he]
      unfold kv
      dsimp only
      subst h1
      go_enter Tryd.func57, Tryd.ntmps57
      go_wp2
      go_ret
      exact ⟨rfl, HB.out _ _⟩
  · have he : ((a, b) == (c, d)) = false := by simp [h1]
    rw [he]
    unfold kv
    dsimp only
    go_enter Tryd.func57, Tryd.ntmps57
    go_wp2
    go_ret
    exact ⟨rfl, HB.out _ _⟩
end Go.Proofs.YtnknfmjpkphbpaaDoor
/- Keys in the laws: joined by the model. -/
namespace Go.Proofs.YtnknfmjpkphbpaaDoor
open Go.ChangeShapes Go.WideShapes Go.ChangeAt Go.RowKit Go.BigFrame
set_option linter.unusedVariables false

theorem sjoined_any (va vb : Value) (A B : List K2) (w : World) (ha : keysAt w va A) (hb : keysAt w vb B) (hsA : A.length ≤ 2000000) (hsB : B.length ≤ 2000000) :
    Calls Tryd.prog 69 #[va, vb] w fun e w' => ∃ v, e = .returned v ∧ w'.ownsRow w.heap.size 32 2 v (mergeV true A B).length (keyCells (mergeV true A B)) ∧ Below w.heap.size w w' := by
  have H := Lib.hid (smerge_any va vb A B true w ha hb hsA hsB)
  go_enter Tryd.func69, Tryd.ntmps69
  go_wp2_with fail
  refine H.out.mono ?_
  rintro e w1 ⟨v, rfl, ho, hB⟩
  go_wp2
  go_ret
  exact ⟨v, rfl, ho, hB⟩
end Go.Proofs.YtnknfmjpkphbpaaDoor
/- Chapter 3's draws: lists of keys. -/
namespace Go.Proofs.YtnknfmjpkphbpaaDoor
open Go.ChangeShapes Go.WideShapes Go.ChangeAt Go.RowKit
set_option linter.unusedVariables false

def kBd (k : K2) : Prop := -5 ≤ k.1 ∧ k.1 ≤ 100 ∧ -5 ≤ k.2 ∧ k.2 ≤ 100
theorem mergeL_mem (both : Bool) (P : K2 → Prop) : ∀ (a b : List K2), (∀ k ∈ a, P k) → (∀ k ∈ b, P k) → ∀ k ∈ mergeL both a b, P k
  | a, [], ha, _ => by rw [mergeL_nil_r]; exact ha
  | [], b, _, hb => by rw [mergeL_nil_l]; exact hb
  | x :: a, y :: b, ha, hb => by
    have hx := ha x (by simp)
    have hy := hb y (by simp)
    have ha2 : ∀ k ∈ a, P k := fun k hk => ha k (by simp [hk])
    have hb2 : ∀ k ∈ b, P k := fun k hk => hb k (by simp [hk])
    intro k hk
    rw [mergeL_cons] at hk
    split at hk
    · rcases List.mem_cons.1 hk with rfl | h
      · exact hx
      · exact mergeL_mem both P a (y :: b) ha2 hb k h
    · split at hk
      · rcases List.mem_cons.1 hk with rfl | h
        · exact hy
        · exact mergeL_mem both P (x :: a) b ha hb2 k h
      · rcases List.mem_append.1 hk with h | h
        · cases both with
          | true => rw [if_pos rfl] at h; rcases List.mem_singleton.1 h with rfl; exact hx
          | false => simp at h
        · exact mergeL_mem both P a b ha2 hb2 k h
termination_by a b => a.length + b.length
theorem mergeV_len (both : Bool) (a b : List K2) : (mergeV both a b).length ≤ a.length + b.length := by
  unfold mergeV
  split
  · exact mergeL_len both a b
  · simp
theorem mergeV_mem (both : Bool) (P : K2 → Prop) (a b : List K2) (ha : ∀ k ∈ a, P k) (hb : ∀ k ∈ b, P k) : ∀ k ∈ mergeV both a b, P k := by
  unfold mergeV
  split
  · exact mergeL_mem both P a b ha hb
  · simp
theorem keysAt_lit (w : World) (p q : Int) : keysAt (w.alloc (.cells #[.int .i64 p, .int .i64 q] 32)) (.slice (some ⟨w.heap.size, 0, none⟩) 1 1) [(p, q)] := by
  refine ⟨_, 1, rfl, Nat.le_refl _, .inr ⟨w.heap.size, 0, rfl, by simp, fun i hi => ?_⟩⟩
  obtain rfl : i = 0 := by simpa using hi
  simp

def kDr (k : K2) : Prop := 1 ≤ k.1 ∧ k.1 ≤ 5 ∧ 1 ≤ k.2 ∧ k.2 ≤ 2
set_option maxRecDepth 100000 in
set_option maxHeartbeats 1000000 in
theorem keysN_any (m n₀ g len cap : Nat) (a : Option Addr) (zs : List Int) (c : Cu) (w : World) (hs : DrawSt n₀ w g a len cap zs c.i c.h) (hm5 : m ≤ 5) :
    Calls Tryd.prog 58 #[.pointer (some ⟨g, 0, none⟩), .int .i64 (m : Int)] w fun e w' => ∃ (v : Value) (ks : List K2) (c' : Cu), e = .returned v ∧ ks.length ≤ m ∧ (∀ k ∈ ks, kDr k) ∧
      w'.ownsRow w.heap.size 32 2 v ks.length (keyCells ks) ∧ Drew n₀ g a len cap zs c' w w' := by
  have hd0 : Drew n₀ g a len cap zs c w w := ⟨hs, Below.refl _ _, World.grownBy.refl _ _⟩
  have hgl := hs.lt
  have hown0 := World.ownsRow_made (base := w.heap.size) (e := 32) (size := 2) w #[] 0 (Nat.le_refl _) (by unfold maxLen; omega) rfl
  have ew : IntKind.i64.wrap ((m : Int) + 1) = (m : Int) + 1 := IntWalk.i64_in _ (by omega)
  go_enter Tryd.func58, Tryd.ntmps58
  go_wp2_with fail
  have hd1 := hd0.alloc (.cells #[] 32)
  generalize w.alloc (.cells #[] 32) = W at *
  refine (below_any n₀ g len cap a zs c ((m : Int) + 1) _ hd1.st (by omega)).mono ?_
  rintro e w1 ⟨rfl, hd⟩
  have hbd := belowF_bd zs len c ((m : Int) + 1)
  generalize belowF zs len c ((m : Int) + 1) = b at *
  obtain ⟨x, c1⟩ := b
  dsimp only at *
  obtain ⟨n, rfl⟩ : ∃ n : Nat, x = n := ⟨x.toNat, by omega⟩
  have hD1 := hd1.trans hd
  have hown1 := hown0.kept hd.grown (.inr fun e => by have := (hown0.lt g e).1; omega)
  have hn5 : n ≤ m := by omega
  clear hd hd1 hd0 hown0 hs hbd
  go_wp2
  go_loopw [5, 7] (fun v i wr => ∃ (k : Nat) (ks : List K2) (c' : Cu), k ≤ n ∧ i = .int .i64 k ∧ ks.length ≤ k ∧ (∀ k ∈ ks, kDr k) ∧ wr.ownsRow w.heap.size 32 2 v ks.length (keyCells ks) ∧ Drew n₀ g a len cap zs c' w wr) (fun _ i _ => n - (intOf i).toNat)
  case atStart => exact ⟨0, [], c1, Nat.zero_le _, rfl, by simp, by simp, hown1, hD1⟩
  case round =>
    obtain ⟨k, ks, c2, hk, rfl, hkl, hkb, hown, hD⟩ := hrel
    clear hown1 hD1
    by_cases hlt : k < n
    · have z1 : (k : Int) < (n : Int) := by omega
      have hgw := hD.st.lt
      have hwz : w.heap.size ≤ wr.heap.size := hD.grown.size
      go_wp2_with fail
      refine (key_any n₀ g len cap a zs c2 wr hD.st).mono ?_
      rintro e w2 ⟨⟨p, q⟩, c3, rfl, hpq, hd2⟩
      dsimp only at hpq
      have hD2 := hD.trans hd2
      have hown2 := hown.kept hd2.grown (.inr fun e => by have := (hown.lt g e).1; omega)
      have hwz2 : w.heap.size ≤ w2.heap.size := hD2.grown.size
      clear hown hD hd2
      unfold kv
      dsimp only
      go_wp2_with fail
      have hka := keysAt_own (hown2.alloc (.cells #[.int .i64 p, .int .i64 q] 32))
      have hkb2 := keysAt_lit w2 p q
      refine (sjoined_any _ _ ks [(p, q)] _ hka hkb2 (by omega) (by simp)).mono ?_
      rintro e w3 ⟨v3, rfl, ho3, hb3⟩
      have hD3 := (hD2.alloc (.cells #[.int .i64 p, .int .i64 q] 32)).grow hgl (grown_of_below' hb3 none) (fun b e => by cases e)
      have hml := mergeV_len true ks [(p, q)]
      have hmm := mergeV_mem true kDr ks [(p, q)] hkb (by intro z hz; rcases List.mem_singleton.1 hz with rfl; exact hpq)
      have ho4 := own_base (base := w.heap.size) ho3 (by simp; omega)
      generalize mergeV true ks [(p, q)] = ms at *
      have hml2 : ms.length ≤ k + 1 := by simp at hml; omega
      have R := Lib.hid (And.intro hmm (And.intro ho4 hD3))
      clear hmm ho4 hD3 ho3 hb3 hka hkb2 hown2 hD2 hkb
      go_wp2
      exact ⟨⟨k + 1, ms, c3, by omega, by go_num, hml2, R.out.1, R.out.2.1, R.out.2.2⟩, by simp [intOf]; omega⟩
    · obtain rfl : k = n := by omega
      go_wp2
      go_ret
      exact ⟨_, ks, c2, rfl, by omega, hkb, hown, hD⟩
theorem keys_any (n₀ g len cap : Nat) (a : Option Addr) (zs : List Int) (c : Cu) (w : World) (hs : DrawSt n₀ w g a len cap zs c.i c.h) :
    Calls Tryd.prog 58 #[.pointer (some ⟨g, 0, none⟩), .int .i64 5] w fun e w' => ∃ (v : Value) (ks : List K2) (c' : Cu), e = .returned v ∧ ks.length ≤ 5 ∧ (∀ k ∈ ks, kBd k) ∧
      w'.ownsRow w.heap.size 32 2 v ks.length (keyCells ks) ∧ Drew n₀ g a len cap zs c' w w' := by
  refine (keysN_any 5 n₀ g len cap a zs c w hs (Nat.le_refl _)).mono ?_
  rintro e w1 ⟨v, ks, c1, rfl, hl, hb, ho, hd⟩
  exact ⟨v, ks, c1, rfl, hl, fun k hk => by have h := hb k hk; unfold kDr at h; unfold kBd; omega, ho, hd⟩
set_option maxRecDepth 100000 in
set_option maxHeartbeats 1000000 in
theorem anykeys_any (n₀ g len cap : Nat) (a : Option Addr) (zs : List Int) (c : Cu) (w : World) (hs : DrawSt n₀ w g a len cap zs c.i c.h) :
    Calls Tryd.prog 42 #[.pointer (some ⟨g, 0, none⟩)] w fun e w' => ∃ (v : Value) (ks : List K2) (c' : Cu), e = .returned v ∧ ks.length ≤ 6 ∧ (∀ k ∈ ks, kBd k) ∧
      w'.ownsRow w.heap.size 32 2 v ks.length (keyCells ks) ∧ Drew n₀ g a len cap zs c' w w' := by
  have hgl := hs.lt
  obtain ⟨i0, hi, hz0, hz1, hz2⟩ := info_parts infoK
  go_enter Tryd.func42, Tryd.ntmps42
  go_wp2_with fail
  refine (keys_any n₀ g len cap a zs c w hs).mono ?_
  rintro e w1 ⟨v, ks, c1, rfl, hkl, hkb, hown, hD⟩
  clear hs
  go_wp2_with fail
  refine (below_any n₀ g len cap a zs c1 10 w1 hD.st (by omega)).mono ?_
  rintro e w2 ⟨rfl, hd2⟩
  have hbd := belowF_bd zs len c1 10
  generalize belowF zs len c1 10 = b at *
  obtain ⟨x, c2⟩ := b
  dsimp only at *
  have hD2 := hD.trans hd2
  have hown2 := hown.kept hd2.grown (.inr fun e => by have := (hown.lt g e).1; omega)
  clear hown hD hd2
  rcases (by omega : x = 0 ∨ x = 1 ∨ (¬ x = 0 ∧ ¬ x = 1)) with rfl | rfl | ⟨hx0, hx1⟩
  ·
    go_wp2_with fail
    refine (odd_any n₀ g len cap a zs c2 w2 hD2.st).mono ?_
    rintro e w3 ⟨⟨p, q⟩, c3, rfl, hpq, hd3⟩
    dsimp only at hpq
    have hD3 := hD2.trans hd3
    have hown3 := hown2.kept hd3.grown (.inr fun e => by have := (hown2.lt g e).1; omega)
    have hwz3 : w.heap.size ≤ w3.heap.size := hD3.grown.size
    clear hown2 hD2 hd3
    unfold kv
    dsimp only
    go_wp2_with (at_builtin; refine wpList_append_own _ rfl (.tmp 10) (.tmp 13) 24 rfl w.heap.size 32 i0 (.agg #[.int .i64 0, .int .i64 0]) 2 16 Tryd.underlying24 hi hz0 hz1 hz2 rfl (by decide) _ _ _ rfl (hown3.alloc _) ⟨w3.heap.size, 0, none⟩ 1 1 [.int .i64 p, .int .i64 q] rfl rfl (cell_two_new _ _ _ _) (by intro u hu; simp at hu; rcases hu with rfl | rfl <;> rfl) (by unfold maxLen; omega) (by omega) (by simp; omega) ?_; intro v' w5 hown' hgrow _)
    have hkb2 : ∀ z ∈ ks ++ [(p, q)], kBd z := by
      intro z hz
      rcases List.mem_append.1 hz with h | h
      · exact hkb z h
      · rcases List.mem_singleton.1 h with rfl
        unfold kBd; dsimp only; omega
    have R : w5.ownsRow w.heap.size 32 2 v' (ks ++ [(p, q)]).length (keyCells (ks ++ [(p, q)])) ∧ Drew n₀ g a len cap zs c3 w w5 := by
      refine ⟨by rw [keyCells_snoc]; simpa using hown', (hD3.alloc _).grow hgl hgrow (fun b e => (hown3.lt b e).1)⟩
    have HR := Lib.hid R
    clear R hown' hgrow hown3 hD3
    go_wp2
    go_ret
    exact ⟨_, ks ++ [(p, q)], c3, rfl, by simp; omega, hkb2, HR.out.1, HR.out.2⟩
  ·
    go_wp2_with fail
    refine (key_any n₀ g len cap a zs c2 w2 hD2.st).mono ?_
    rintro e w3 ⟨⟨p, q⟩, c3, rfl, hpq, hd3⟩
    dsimp only at hpq
    have hD3 := hD2.trans hd3
    have hown3 := hown2.kept hd3.grown (.inr fun e => by have := (hown2.lt g e).1; omega)
    have hwz3 : w.heap.size ≤ w3.heap.size := hD3.grown.size
    clear hown2 hD2 hd3
    unfold kv
    dsimp only
    go_wp2_with (at_builtin; refine wpList_append_own _ rfl (.tmp 17) (.tmp 20) 24 rfl w.heap.size 32 i0 (.agg #[.int .i64 0, .int .i64 0]) 2 16 Tryd.underlying24 hi hz0 hz1 hz2 rfl (by decide) _ _ _ rfl (hown3.alloc _) ⟨w3.heap.size, 0, none⟩ 1 1 [.int .i64 p, .int .i64 q] rfl rfl (cell_two_new _ _ _ _) (by intro u hu; simp at hu; rcases hu with rfl | rfl <;> rfl) (by unfold maxLen; omega) (by omega) (by simp; omega) ?_; intro v' w5 hown' hgrow _)
    have hkb2 : ∀ z ∈ ks ++ [(p, q)], kBd z := by
      intro z hz
      rcases List.mem_append.1 hz with h | h
      · exact hkb z h
      · rcases List.mem_singleton.1 h with rfl
        unfold kBd; dsimp only; omega
    have R : w5.ownsRow w.heap.size 32 2 v' (ks ++ [(p, q)]).length (keyCells (ks ++ [(p, q)])) ∧ Drew n₀ g a len cap zs c3 w w5 := by
      refine ⟨by rw [keyCells_snoc]; simpa using hown', (hD3.alloc _).grow hgl hgrow (fun b e => (hown3.lt b e).1)⟩
    have HR := Lib.hid R
    clear R hown' hgrow hown3 hD3
    go_wp2
    go_ret
    exact ⟨_, ks ++ [(p, q)], c3, rfl, by simp; omega, hkb2, HR.out.1, HR.out.2⟩
  · have e0 : (x == 0) = false := beq_eq_false_iff_ne.2 hx0
    have e1 : (x == 1) = false := beq_eq_false_iff_ne.2 hx1
    go_wp2
    go_ret
    exact ⟨_, ks, c2, rfl, by omega, hkb, hown2, hD2⟩
end Go.Proofs.YtnknfmjpkphbpaaDoor
/- Words of several readings: a right word drawn, walked. -/
namespace Go.Proofs.YtnknfmjpkphbpaaDoor
open Go.ChangeShapes Go.WideShapes Go.ChangeAt Go.RowKit Go.BigFrame
set_option linter.unusedVariables false

/-- keys drawn, the result's place beside them -/
structure CdL (w W : World) (n₀ g len cap : Nat) (a : Option Addr) (zs : List Int) (c : Cu) (v : Value) (ks : List K2) : Prop where
  own : W.ownsRow (w.heap.size + 1) 32 2 v ks.length (keyCells ks)
  drew : Drew n₀ g a len cap zs c w W
  res : W.heap[w.heap.size]? = some (.cells #[.slice none 0 0, .string ⟨#[]⟩] 26)
  bd : ∀ k ∈ ks, kDr k
  few : ks.length ≤ 4
set_option maxRecDepth 100000 in
set_option maxHeartbeats 1000000 in
theorem l05code_any (n₀ g len cap : Nat) (a : Option Addr) (zs : List Int) (c : Cu) (w : World) (hs : DrawSt n₀ w g a len cap zs c.i c.h) :
    Calls Tryd.prog 40 #[.pointer (some ⟨g, 0, none⟩)] w fun e w' => ∃ (v : Value) (ks : List K2) (y : ByteArray) (c' : Cu), e = .returned (.agg #[v, .string y]) ∧ 1 ≤ ks.length ∧ ks.length ≤ 4 ∧ (∀ k ∈ ks, kDr k) ∧ y.size = 4 ∧
      w'.ownsRow w.heap.size 32 2 v ks.length (keyCells ks) ∧ Drew n₀ g a len cap zs c' w w' := by
  have hd0 : Drew n₀ g a len cap zs c w w := ⟨hs, Below.refl _ _, World.grownBy.refl _ _⟩
  have hgl := hs.lt
  have hd1 := hd0.alloc (.cells #[.slice none 0 0, .string ⟨#[]⟩] 26)
  have hr1 := heap_alloc_new w (.cells #[.slice none 0 0, .string ⟨#[]⟩] 26)
  have hz1 : (w.alloc (.cells #[.slice none 0 0, .string ⟨#[]⟩] 26)).heap.size = w.heap.size + 1 := by simp
  have HD1 := Lib.hid hd1; have HR1 := Lib.hid hr1; have HZ1 := Lib.hid hz1
  clear hd0 hd1 hr1 hz1 hs
  go_enter Tryd.func40, Tryd.ntmps40
  go_wp2_with fail
  generalize w.alloc (.cells #[.slice none 0 0, .string ⟨#[]⟩] 26) = W at *
  refine (keysN_any 4 n₀ g len cap a zs c W HD1.out.st (by omega)).mono ?_
  rintro e w1 ⟨v1, ks1, c1, rfl, hl1, hb1, ho1, hd2⟩
  rw [HZ1.out] at ho1
  obtain ⟨a1, n1, k1, rfl⟩ := own_shape ho1
  have HL := Lib.hid (CdL.mk (w := w) ho1 (HD1.out.trans hd2) ((hd2.grown.block _ (Array.getElem?_eq_some_iff.1 HR1.out).1 (fun e => by cases e; omega)).trans HR1.out) hb1 hl1)
  clear ho1 hd2 hb1 hl1 HD1 HR1 HZ1
  go_wp2_with fail
  go_loopw [3] (fun x wr => ∃ (aa : Option Addr) (cc : Nat) (ks : List K2) (c' : Cu), x = .slice aa ks.length cc ∧ CdL w wr n₀ g len cap a zs c' (.slice aa ks.length cc) ks) (fun x _ => match x with | .slice _ n _ => if n = 0 then 1 else 0 | _ => 0)
  case atStart =>
    have hn : n1 = ks1.length := by
      rcases HL.out.own.2 with ⟨h, h0⟩ | ⟨g', cap', cur, h, _⟩
      · cases h; exact h0.symm
      · cases h; rfl
    subst hn
    exact ⟨a1, k1, ks1, c1, rfl, HL.out⟩
  case round =>
    clear HL
    obtain ⟨aa, cc, ks, c2, rfl, hC⟩ := hrel
    have HC := Lib.hid hC
    clear hC
    by_cases h0 : ks.length = 0
    · have i0 : (ks.length : Int) = 0 := by omega
      rename_i wr
      go_wp2_with fail
      refine (key_any n₀ g len cap a zs c2 wr HC.out.drew.st).mono ?_
      rintro e w3 ⟨⟨p, q⟩, c3, rfl, hpq, hd3⟩
      dsimp only at hpq
      have hD3 := HC.out.drew.trans hd3
      have hR3 := (hd3.grown.block _ (Array.getElem?_eq_some_iff.1 HC.out.res).1 (fun e => by cases e; omega)).trans HC.out.res
      have hlr := (Array.getElem?_eq_some_iff.1 hR3).1
      have HN := Lib.hid (CdL.mk (w := w) (own_one (w := w3) (base := w.heap.size + 1) p q (by omega)) (hD3.alloc _) ((Below.heap_alloc w3 _ _ hlr).trans hR3) (fun k hk => by rcases List.mem_singleton.1 hk with rfl; exact hpq) (by simp))
      clear hd3 hD3 hR3 HC hlr
      unfold kv
      dsimp only
      go_wp2
      exact ⟨⟨_, 1, [(p, q)], c3, rfl, HN.out⟩, by simp [h0]⟩
    · have i0 : ¬ (ks.length : Int) = 0 := by omega
      rename_i wr
      go_wp2_with fail
      refine (l05of_any _ ks wr (keysAt_own HC.out.own) (by have := HC.out.few; omega) (fun k hk => by have := HC.out.bd k hk; unfold kDr at this; omega)).mono ?_
      rintro e w4 ⟨v4, y4, rfl, hy4, ho4, hb4⟩
      obtain ⟨a4, n4, k4, rfl⟩ := own_shape ho4
      have hR4 := (hb4.block _ (Array.getElem?_eq_some_iff.1 HC.out.res).1).trans HC.out.res
      have hlr := (Array.getElem?_eq_some_iff.1 HC.out.res).1
      have hD4 := HC.out.drew.grow hgl (grown_of_below' hb4 none) (fun b e => by cases e)
      obtain ⟨c0, c1, f0, f1⟩ := row2_of hR4
      have hlr4 := (Array.getElem?_eq_some_iff.1 hR4).1
      have L2 := Lib.hid (cd_res hR4 (.slice a4 n4 k4) y4)
      have HF := Lib.hid (And.intro (own_base (own_set2 ho4 hlr (.slice a4 n4 k4) (.string y4)) (by omega : w.heap.size ≤ wr.heap.size)) (hD4.grow hgl (grown2 w4 w.heap.size (.slice a4 n4 k4) (.string y4)) (fun b e => by cases e; exact Nat.le_refl _)))
      have HW := Lib.hid (And.intro HC.out.few HC.out.bd)
      clear ho4 hb4 hR4 hD4 HC hlr
      go_wp2_with fail
      refine bodyPost_ret (v := .agg #[.slice a4 n4 k4, .string y4]) ?_ rfl ⟨_, ks, y4, c2, rfl, by omega, HW.out.1, HW.out.2, hy4, HF.out.1, HF.out.2⟩
      rw [results_cell (p := 2) (ty := 26) (by kernel_rfl)]
      have l2 := L2.out
      simp [asAddr, Result.andThen, l2]
end Go.Proofs.YtnknfmjpkphbpaaDoor
/- A region that draws its order, with loads (guarded ones too) beside calls and memory that is made: those that make memory stand in one forced order; what only reads may come at any time: it is walked in segments: what reads, then one that makes memory, and so on.
   On Derived/OrdersHeld.lean's laws, with a condition on the world that may be sharpened behind each operation that is carried out. -/
namespace Go.Proofs.YtnknfmjpkphbpaaDoor
open Go
section
variable {P : Program} {ops : Array Oper} {Q : Exit → Act → World → Prop} {md : Region.Mode} {S : World → Prop}

/-- whatever order is picked from here on; behind each operation a sharper condition holds -/
def wpG (P : Program) (md : Region.Mode) (ops : Array Oper) (Q : Exit → Act → World → Prop) : Nat → (World → Prop) → Array Bool → Act → World → Prop
  | 0, _, listed, a, w => Region.ready md ops listed = [] ∧ Q .normal a w
  | fuel + 1, S, listed, a, w =>
    (Region.ready md ops listed = [] → Q .normal a w) ∧
    ∀ i ∈ Region.ready md ops listed, wpOp P ops Q i (fun a' w' => ∃ S' : World → Prop, (∀ x, S' x → S x) ∧ S' w' ∧ wpG P md ops Q fuel S' (listed.setIfInBounds i true) a' w') a w

theorem wpAny_of_G : ∀ (fuel : Nat) (S : World → Prop) (listed : Array Bool) (a : Act) (w : World), wpG P md ops Q fuel S listed a w → wpAny P md ops Q fuel listed a w
  | 0, _, _, _, _, h => h
  | fuel + 1, S, _, _, _, h => ⟨h.1, fun i hi => wpOp_mono (fun a' w' ⟨S', _, _, h'⟩ => wpAny_of_G fuel S' _ a' w' h') (h.2 i hi)⟩

theorem YieldsIf.sharper {S' : World → Prop} {o : Oper} {v : Value} {a : Act} (h : ∀ x, S' x → S x) (hy : YieldsIf P ops S o v a) : YieldsIf P ops S' o v a :=
  hy.imp (fun ⟨hw, hv⟩ => ⟨hw, fun w hs => hv w (h w hs)⟩) id

theorem wpG_first {i : Nat} {oi : Oper} {v : Value} (hi : ops[i]? = some oi) (hsel : ∀ (j : Nat) (o : Oper) cs b, ops[j]? = some o → o.op ≠ .select cs b)
    (hQ : ∀ c a w, Q (.panic c) (a.put oi.dst v) w → Q (.panic c) a w) :
    ∀ (fuel : Nat) (S : World → Prop) (listed : Array Bool) (a : Act) (w : World),
      (∀ j oj, ops[j]? = some oj → j ≠ i → listed.getD j true = false → (∀ e ∈ oj.after, Region.binds md e = true → e.on ≠ i) → oi.apart ops oj = true) →
      i ∈ Region.ready md ops listed → YieldsIf P ops S oi v a → S w →
      wpG P md ops Q fuel S (listed.setIfInBounds i true) (a.put oi.dst v) w → wpG P md ops Q (fuel + 1) S listed a w := by
  intro fuel
  induction fuel with
  | zero =>
    intro S listed a w _ hr hy hS H
    refine ⟨fun h => (by rw [h] at hr; cases hr), fun j hj => ?_⟩
    by_cases hji : j = i
    · subst hji; exact hy.wpOp hi hS ⟨S, fun _ h => h, hS, H⟩
    · have := ready_mono hj hji
      rw [H.1] at this
      cases this
  | succ fuel ih =>
    intro S listed a w hfree hr hy hS H
    refine ⟨fun h => (by rw [h] at hr; cases hr), fun j hj => ?_⟩
    by_cases hji : j = i
    · subst hji; exact hy.wpOp hi hS ⟨S, fun _ h => h, hS, H⟩
    · have h1 := H.2 j (ready_mono hj hji)
      obtain ⟨hjun, oj, hoj, hall⟩ := mem_ready.1 hj
      have hnot : ∀ e ∈ oj.after, Region.binds md e = true → e.on ≠ i := fun e he hb heq => by
        have h1 := hall e he hb
        have h0 := (mem_ready.1 hr).1
        rw [heq] at h1
        rcases Nat.lt_or_ge i listed.size with h' | h'
        · simp [h'] at h0 h1; rw [h0] at h1; cases h1
        · simp [Array.getElem?_eq_none h'] at h1
      have h2 := wpOp_putIf hoj (hfree j oj hoj hji hjun hnot) (fun cs b => hsel i oi cs b hi) (fun cs b => hsel j oj cs b hoj) hQ hy h1
      have hfree' : ∀ k ok, ops[k]? = some ok → k ≠ i → (listed.setIfInBounds j true).getD k true = false →
          (∀ e ∈ ok.after, Region.binds md e = true → e.on ≠ i) → oi.apart ops ok = true := fun k ok hk hki hun hno => by
        refine hfree k ok hk hki ?_ hno
        by_cases hjk : j = k
        · subst hjk; exact hjun
        · rw [getD_set_ne true hjk] at hun; exact hun
      refine wpOp_mono (fun a' w' h3 => ?_) h2
      obtain ⟨hy3, S', hs, hs2, h4⟩ := h3
      refine ⟨S', hs, hs2, ih S' (listed.setIfInBounds j true) a' w' hfree' (ready_mono hr (Ne.symm hji)) (YieldsIf.sharper hs hy3) hs2 ?_⟩
      rw [Array.setIfInBounds_comm _ _ hji]
      exact h4

/-- an operation that hands back a value and nothing else -/
def valueOp : Op → Bool
  | .move _ | .assign _ | .pick _ _ _ | .load _ _ | .binOp _ _ _ _ _ | .unOp _ _ _ | .convert _ _ _ | .slice _ _ _ _ _ | .fieldAddr _ _ _ | .field _ _ _ | .indexAddr _ _ _ | .index _ _ _ | .extract _ _ => true
  | _ => false
theorem value_of_run {α : Type} (s : Sem α) (f : α → Value) (w w' : World) (n : Next) (h : ((do pure (Next.value (f (← s)))) : Sem Next).run P w = .ok n w') : ∃ u, n = .value u := by
  rw [Sem.run_bind] at h
  cases hs : s.run P w with
  | ok v w1 =>
    rw [hs] at h
    simp only [Result.andThen, Sem.run_pure, Result.ok.injEq] at h
    exact ⟨_, h.1.symm⟩
  | halt x w1 => rw [hs] at h; simp [Result.andThen] at h
theorem valueOp_spec {o : Oper} (h : valueOp o.op = true) (ρ : Operand → Value) (w w' : World) (n : Next) (hr : (execOp ρ o).run P w = .ok n w') : ∃ u, n = .value u := by
  unfold execOp at hr
  cases ho : o.op <;> rw [ho] at h hr <;> simp only [valueOp] at h <;> try (exact absurd h Bool.false_ne_true)
  all_goals dsimp only at hr
  all_goals first
    | (simp only [Sem.run_pure, Result.ok.injEq] at hr; exact ⟨_, hr.1.symm⟩)
    | exact value_of_run _ (fun v => v) w w' n hr
    | exact value_of_run _ _ w w' n hr
theorem yields_of_quiet {o : Oper} {a : Act} {v : Value} (hv : valueOp o.op = true) (hw : Region.wanted o (yielded ops a.tmps) = true) (h : ∀ w, S w → o.quietAt P a S w v) : YieldsIf P ops S o v a := by
  refine .inl ⟨hw, fun w hs => ?_⟩
  have h1 := h w hs
  unfold Oper.quietAt at h1
  cases hr : (execOp a.eval o).run P w with
  | ok n w' =>
    obtain ⟨u, rfl⟩ := valueOp_spec hv a.eval w w' n hr
    rw [hr] at h1
    simp only [Oper.quietUpon] at h1
    obtain ⟨rfl, rfl⟩ := h1
    rfl
  | halt x w' => rw [hr] at h1; exact absurd h1 (by simp [Oper.quietUpon])

/-- the takes of a segment, in the order of the text -/
def takesB (md : Region.Mode) (l : List Oper) : List Bool → Nat → Array Bool → Bool
  | true :: m, i, listed => (match l[i]? with | some o => valueOp o.op | none => false) && Region.free md l.toArray listed i && (Region.ready md l.toArray listed).contains i && takesB md l m (i + 1) (listed.setIfInBounds i true)
  | false :: m, i, listed => takesB md l m (i + 1) listed
  | [], _, _ => true
def takenL : List Bool → Nat → Array Bool → Array Bool
  | true :: m, i, listed => takenL m (i + 1) (listed.setIfInBounds i true)
  | false :: m, i, listed => takenL m (i + 1) listed
  | [], _, listed => listed
def countT : List Bool → Nat
  | true :: m => countT m + 1
  | false :: m => countT m
  | [] => 0
def segsB (md : Region.Mode) (l : List Oper) : List (List Bool × Nat) → List Bool → Nat → Array Bool → Bool
  | [], fm, fuel, listed => decide (countT fm ≤ fuel) && decide (fm.length ≤ l.length) && takesB md l fm 0 listed && decide (Region.ready md l.toArray (takenL fm 0 listed) = [])
  | (m, i) :: r, fm, fuel, listed => decide (countT m + 1 ≤ fuel) && decide (m.length ≤ l.length) && takesB md l m 0 listed && decide (Region.ready md l.toArray (takenL m 0 listed) = [i]) &&
      segsB md l r fm (fuel - (countT m + 1)) ((takenL m 0 listed).setIfInBounds i true)

/-- the walk, segment by segment -/
def wpSegs (P : Program) (l : List Oper) (Q : Exit → Act → World → Prop) : List (List Bool × Nat) → List Bool → (World → Prop) → Act → World → Prop
  | [], fm, S, a, w => wpQuiet P l.toArray S (fun a' => Q .normal a' w) (maskRows fm l) a
  | (m, i) :: r, fm, S, a, w => wpQuiet P l.toArray S (fun a' => wpOp P l.toArray Q i (fun a'' w'' => ∃ S' : World → Prop, (∀ x, S' x → S x) ∧ S' w'' ∧ wpSegs P l Q r fm S' a'' w'') a' w) (maskRows m l) a

theorem takes_G {l : List Oper} (hs : Region.noSelect l.toArray = true) (hQ : ∀ c a d v w, Q (.panic c) (Act.put a d v) w → Q (.panic c) a w) {S : World → Prop} {w : World} (hS : S w) {R : Act → Prop} :
    ∀ (m : List Bool) (i fuel : Nat) (listed : Array Bool) (a : Act), takesB md l m i listed = true → m.length + i ≤ l.length →
      (∀ a', R a' → wpG P md l.toArray Q fuel S (takenL m i listed) a' w) → wpQuiet P l.toArray S R (maskRows m (l.drop i)) a → wpG P md l.toArray Q (fuel + countT m) S listed a w
  | [], i, fuel, listed, a, _, _, hk, h => hk a (by simpa [maskRows, wpQuiet] using h)
  | false :: m, i, fuel, listed, a, hb, hl, hk, h => by
    have hlt : i < l.length := by simp only [List.length_cons] at hl; omega
    rw [List.drop_eq_getElem_cons hlt] at h
    exact takes_G hs hQ hS m (i + 1) fuel listed a hb (by simp only [List.length_cons] at hl; omega) hk h
  | true :: m, i, fuel, listed, a, hb, hl, hk, h => by
    have hlt : i < l.length := by simp only [List.length_cons] at hl; omega
    rw [List.drop_eq_getElem_cons hlt] at h
    simp only [takesB, Bool.and_eq_true] at hb
    obtain ⟨⟨⟨hv, hf⟩, hr⟩, hb⟩ := hb
    have ho : l.toArray[i]? = some l[i] := by simp [hlt]
    rw [show l[i]? = some l[i] from by simp [hlt]] at hv
    dsimp only at hv
    simp only [maskRows, wpQuiet] at h
    have hin : i ∈ Region.ready md l.toArray listed := by simpa using hr
    show wpG P md l.toArray Q (fuel + countT m + 1) S listed a w
    by_cases hw : Region.wanted l[i] (yielded l.toArray a.tmps) = true
    · rw [if_pos hw] at h
      obtain ⟨v, h1, h2⟩ := h
      exact wpG_first ho (Region.noSelect_spec hs) (fun c a w => hQ c a _ _ w) _ S listed a w (Region.free_spec ho hf) hin (yields_of_quiet hv hw h1) hS
        (takes_G hs hQ hS m (i + 1) fuel _ _ hb (by simp only [List.length_cons] at hl; omega) hk h2)
    · rw [if_neg hw] at h
      exact wpG_first ho (Region.noSelect_spec hs) (fun c a w => hQ c a _ _ w) _ S listed a w (Region.free_spec ho hf) hin (.inr ⟨by simpa using hw, rfl⟩) hS
        (takes_G hs hQ hS m (i + 1) fuel _ _ hb (by simp only [List.length_cons] at hl; omega) hk h)
theorem wpG_done {listed : Array Bool} {a : Act} {w : World} (hr : Region.ready md ops listed = []) (h : Q .normal a w) : ∀ fuel, wpG P md ops Q fuel S listed a w
  | 0 => ⟨hr, h⟩
  | _ + 1 => ⟨fun _ => h, by rw [hr]; simp⟩
theorem segs_G {l : List Oper} (hs : Region.noSelect l.toArray = true) (hQ : ∀ c a d v w, Q (.panic c) (Act.put a d v) w → Q (.panic c) a w) (fm : List Bool) :
    ∀ (r : List (List Bool × Nat)) (fuel : Nat) (S : World → Prop) (listed : Array Bool) (a : Act) (w : World), segsB md l r fm fuel listed = true → S w → wpSegs P l Q r fm S a w → wpG P md l.toArray Q fuel S listed a w
  | [], fuel, S, listed, a, w, hb, hS, h => by
    simp only [segsB, Bool.and_eq_true, decide_eq_true_eq] at hb
    obtain ⟨⟨⟨h1, h2⟩, h3⟩, h4⟩ := hb
    have := takes_G (P := P) (md := md) hs hQ hS (R := fun a' => Q .normal a' w) fm 0 (fuel - countT fm) listed a h3 (by omega) (fun a' hq => wpG_done h4 hq _) (by simpa [wpSegs] using h)
    rwa [Nat.sub_add_cancel h1] at this
  | (m, i) :: r, fuel, S, listed, a, w, hb, hS, h => by
    simp only [segsB, Bool.and_eq_true, decide_eq_true_eq] at hb
    obtain ⟨⟨⟨⟨h1, h2⟩, h3⟩, h4⟩, h5⟩ := hb
    have hk : ∀ a', wpOp P l.toArray Q i (fun a'' w'' => ∃ S' : World → Prop, (∀ x, S' x → S x) ∧ S' w'' ∧ wpSegs P l Q r fm S' a'' w'') a' w → wpG P md l.toArray Q (fuel - (countT m + 1) + 1) S (takenL m 0 listed) a' w := by
      intro a' hq
      refine ⟨fun h0 => (by rw [h4] at h0; cases h0), fun j hj => ?_⟩
      rw [h4] at hj
      obtain rfl := List.mem_singleton.1 hj
      exact wpOp_mono (fun a'' w'' ⟨S', hs', hs2, h'⟩ => ⟨S', hs', hs2, segs_G hs hQ fm r _ S' _ a'' w'' h5 hs2 h'⟩) hq
    have := takes_G (P := P) (md := md) hs hQ hS m 0 (fuel - (countT m + 1) + 1) listed a h3 (by omega) hk (by simpa [wpSegs] using h)
    rwa [show fuel - (countT m + 1) + 1 + countT m = fuel by omega] at this
/-- the region: in segments -/
theorem wp_region_segs {id : Nat} {a : Act} {w : World} {l : List Oper} (segs : List (List Bool × Nat)) (fm : List Bool) (S : World → Prop) (hm : P.follows .mixedOrders = true) (hs : Region.noSelect l.toArray = true)
    (hb : segsB .any l segs fm l.length (Array.replicate l.length false) = true) (hQ : ∀ c a d v w, Q (.panic c) (Act.put a d v) w → Q (.panic c) a w) (hS : S w.drew) (h : wpSegs P l Q segs fm S a w.drew) :
    (Code.region id l.toArray true).wp P Q a w :=
  wp_region_any hm (wpAny_of_G _ _ _ _ _ (by simpa using segs_G hs hQ fm segs l.length S _ a _ hb hS h))
/-- one that is carried out: what must be shown of it -/
theorem seg_run {l : List Oper} {r : List (List Bool × Nat)} {fm : List Bool} {i : Nat} {o : Oper} {a : Act} {w : World} (ho : l.toArray[i]? = some o) (hw : Region.wanted o (yielded l.toArray a.tmps) = true)
    (h : ∀ K : Act → World → Prop, (∀ a' w', (∃ S' : World → Prop, (∀ x, S' x → S x) ∧ S' w' ∧ wpSegs P l Q r fm S' a' w') → K a' w') → o.wp P a w K Q) :
    wpOp P l.toArray Q i (fun a'' w'' => ∃ S' : World → Prop, (∀ x, S' x → S x) ∧ S' w'' ∧ wpSegs P l Q r fm S' a'' w'') a w := by
  unfold wpOp
  simp only [ho, hw, if_true]
  exact .inl (h _ fun _ _ h => h)
theorem seg_skip {l : List Oper} {r : List (List Bool × Nat)} {fm : List Bool} {i : Nat} {o : Oper} {a : Act} {w : World} (ho : l.toArray[i]? = some o) (hw : Region.wanted o (yielded l.toArray a.tmps) = false) (hS : S w)
    (h : wpSegs P l Q r fm S (a.put o.dst undef) w) :
    wpOp P l.toArray Q i (fun a'' w'' => ∃ S' : World → Prop, (∀ x, S' x → S x) ∧ S' w'' ∧ wpSegs P l Q r fm S' a'' w'') a w := by
  unfold wpOp
  simp only [ho, hw, Bool.false_eq_true, if_false]
  exact ⟨S, fun _ h => h, hS, h⟩
end
end Go.Proofs.YtnknfmjpkphbpaaDoor
/- A region that draws its order, in segments, where what makes memory may stand in several orders: a tree of segments. -/
namespace Go.Proofs.YtnknfmjpkphbpaaDoor
open Go
section
variable {P : Program} {Q : Exit → Act → World → Prop} {md : Region.Mode} {S : World → Prop}
def segtB (md : Region.Mode) (l : List Oper) (m : List Bool) (rd : List Nat) (fuel fuel' : Nat) (listed : Array Bool) : Bool :=
  decide (fuel = fuel' + 1 + countT m) && decide (m.length ≤ l.length) && takesB md l m 0 listed && decide (Region.ready md l.toArray (takenL m 0 listed) = rd) && !rd.isEmpty
/-- what reads is taken; then one after another of what is ready is tried -/
theorem wpG_seg {l : List Oper} (m : List Bool) (rd : List Nat) (fuel' : Nat) {fuel : Nat} {listed : Array Bool} {a : Act} {w : World} (hs : Region.noSelect l.toArray = true)
    (hQ : ∀ c a d v w, Q (.panic c) (Act.put a d v) w → Q (.panic c) a w) (hb : segtB md l m rd fuel fuel' listed = true) (hS : S w)
    (h : wpQuiet P l.toArray S (fun a' => ∀ i ∈ rd, wpOp P l.toArray Q i (fun a'' w'' => ∃ S' : World → Prop, (∀ x, S' x → S x) ∧ S' w'' ∧ wpG P md l.toArray Q fuel' S' ((takenL m 0 listed).setIfInBounds i true) a'' w'') a' w) (maskRows m l) a) :
    wpG P md l.toArray Q fuel S listed a w := by
  simp only [segtB, Bool.and_eq_true, decide_eq_true_eq, Bool.not_eq_true'] at hb
  obtain ⟨⟨⟨⟨h1, h2⟩, h3⟩, h4⟩, h5⟩ := hb
  subst h1
  refine takes_G (P := P) (md := md) hs hQ hS (R := fun a' => ∀ i ∈ rd, wpOp P l.toArray Q i (fun a'' w'' => ∃ S' : World → Prop, (∀ x, S' x → S x) ∧ S' w'' ∧ wpG P md l.toArray Q fuel' S' ((takenL m 0 listed).setIfInBounds i true) a'' w'') a' w) m 0 (fuel' + 1) listed a h3 (by omega) (fun a' hq => ?_) (by simpa using h)
  refine ⟨fun h0 => (by rw [h4] at h0; rw [h0] at h5; cases h5), fun j hj => ?_⟩
  rw [h4] at hj
  exact hq j hj
def segeB (md : Region.Mode) (l : List Oper) (m : List Bool) (fuel : Nat) (listed : Array Bool) : Bool :=
  decide (countT m ≤ fuel) && decide (m.length ≤ l.length) && takesB md l m 0 listed && decide (Region.ready md l.toArray (takenL m 0 listed) = [])
theorem wpG_end {l : List Oper} (m : List Bool) {fuel : Nat} {listed : Array Bool} {a : Act} {w : World} (hs : Region.noSelect l.toArray = true)
    (hQ : ∀ c a d v w, Q (.panic c) (Act.put a d v) w → Q (.panic c) a w) (hb : segeB md l m fuel listed = true) (hS : S w)
    (h : wpQuiet P l.toArray S (fun a' => Q .normal a' w) (maskRows m l) a) : wpG P md l.toArray Q fuel S listed a w := by
  simp only [segeB, Bool.and_eq_true, decide_eq_true_eq] at hb
  obtain ⟨⟨⟨h1, h2⟩, h3⟩, h4⟩ := hb
  have := takes_G (P := P) (md := md) hs hQ hS (R := fun a' => Q .normal a' w) m 0 (fuel - countT m) listed a h3 (by omega) (fun a' hq => wpG_done h4 hq _) (by simpa using h)
  rwa [Nat.sub_add_cancel h1] at this
theorem wp_region_G {id : Nat} {a : Act} {w : World} {l : List Oper} (S : World → Prop) (hm : P.follows .mixedOrders = true) (h : wpG P .any l.toArray Q l.length S (Array.replicate l.length false) a w.drew) :
    (Code.region id l.toArray true).wp P Q a w := wp_region_any hm (wpAny_of_G _ _ _ _ _ (by simpa using h))
/-- one that is carried out -/
theorem segt_run {l : List Oper} {fuel : Nat} {listed : Array Bool} {i : Nat} {o : Oper} {a : Act} {w : World} (ho : l.toArray[i]? = some o) (hw : Region.wanted o (yielded l.toArray a.tmps) = true)
    (h : ∀ K : Act → World → Prop, (∀ a' w', (∃ S' : World → Prop, (∀ x, S' x → S x) ∧ S' w' ∧ wpG P md l.toArray Q fuel S' listed a' w') → K a' w') → o.wp P a w K Q) :
    wpOp P l.toArray Q i (fun a'' w'' => ∃ S' : World → Prop, (∀ x, S' x → S x) ∧ S' w'' ∧ wpG P md l.toArray Q fuel S' listed a'' w'') a w := by
  unfold wpOp
  simp only [ho, hw, if_true]
  exact .inl (h _ fun _ _ h => h)
end
end Go.Proofs.YtnknfmjpkphbpaaDoor
/- Two words, put together: what is known on the way. -/
namespace Go.Proofs.YtnknfmjpkphbpaaDoor
open Go.ChangeShapes Go.WideShapes Go.ChangeAt Go.RowKit Go.BigFrame
set_option linter.unusedVariables false

/-- what is known of a world in which two words are put together -/
structure CbC (w W : World) (va : Value) (ya : ByteArray) (vb : Value) (yb : ByteArray) : Prop where
  below : Below w.heap.size w W
  size : w.heap.size + 3 ≤ W.heap.size
  rowa : W.heap[w.heap.size]? = some (.cells #[va, .string ya] 26)
  rowb : W.heap[w.heap.size + 1]? = some (.cells #[vb, .string yb] 26)
  res : W.heap[w.heap.size + 2]? = some (.cells #[.slice none 0 0, .string ⟨#[]⟩] 26)
theorem cbc_new (w : World) (va : Value) (ya : ByteArray) (vb : Value) (yb : ByteArray) : CbC w (((w.alloc (.cells #[va, .string ya] 26)).alloc (.cells #[vb, .string yb] 26)).alloc (.cells #[.slice none 0 0, .string ⟨#[]⟩] 26)) va ya vb yb := by
  have hb1 := (Below.refl w.heap.size w).alloc (Nat.le_refl _) (.cells #[va, .string ya] 26)
  have hb2 := hb1.alloc hb1.size (.cells #[vb, .string yb] 26)
  have e1 : (w.alloc (.cells #[va, .string ya] 26)).heap.size = w.heap.size + 1 := by simp
  have e2 : ((w.alloc (.cells #[va, .string ya] 26)).alloc (.cells #[vb, .string yb] 26)).heap.size = w.heap.size + 2 := by simp
  have r2 := heap_alloc_new (w.alloc (.cells #[va, .string ya] 26)) (.cells #[vb, .string yb] 26)
  rw [e1] at r2
  have r3 := heap_alloc_new ((w.alloc (.cells #[va, .string ya] 26)).alloc (.cells #[vb, .string yb] 26)) (.cells #[.slice none 0 0, .string ⟨#[]⟩] 26)
  rw [e2] at r3
  exact ⟨hb2.alloc hb2.size _, by simp, (Below.heap_alloc _ _ w.heap.size (by simp; omega)).trans ((Below.heap_alloc _ _ w.heap.size (by simp)).trans (heap_alloc_new w _)), (Below.heap_alloc _ _ (w.heap.size + 1) (by simp)).trans r2, r3⟩
theorem CbC.next {w W W' : World} {va : Value} {ya : ByteArray} {vb : Value} {yb : ByteArray} (h : CbC w W va ya vb yb) (hb : Below W.heap.size W W') : CbC w W' va ya vb yb := by
  have hs := h.size
  exact ⟨h.below.trans (hb.mono h.below.size), Nat.le_trans hs hb.size, (hb.block _ (by omega)).trans h.rowa, (hb.block _ (by omega)).trans h.rowb, (hb.block _ (by omega)).trans h.res⟩
theorem row_set2 {W : World} {b b' : Nat} {o : Obj} (h : W.heap[b']? = some o) (hne : b' ≠ b) (p q : Value) : ((W.setCell ⟨b, 0, none⟩ p).setCell ⟨b, 1, none⟩ q).heap[b']? = some o := by
  rw [Below.heap_setCell _ _ _ _ hne, Below.heap_setCell _ _ _ _ hne]; exact h
theorem results_cell_slot {fn : Func} {p u : Tmp} {ty : TypeId} (h : fn.results = #[.cell p ty, .tmp u]) (tmps : Array Value) (P : Program) (w : World) :
    (results fn tmps).run P w = ((asAddr (tmps.getD p undef)).run P w).andThen fun a w₁ => ((loadVar ty a).run P w₁).andThen fun v w₂ => .ok (.tuple #[v, tmps.getD u undef]) w₂ := by
  simp only [results, h]
  simp [Sem.run_bind, Result.andThen]
theorem size_le_alloc (w : World) (o : Obj) : w.heap.size ≤ (w.alloc o).heap.size := by simp
theorem size_set2 (w : World) (b : Nat) (p q : Value) : ((w.setCell ⟨b, 0, none⟩ p).setCell ⟨b, 1, none⟩ q).heap.size = w.heap.size := by simp [World.setCell]
theorem mergeV_ln (both : Bool) (a b : List K2) : (mergeV both a b).length ≤ a.length + b.length := by
  unfold mergeV
  split
  · exact mergeL_len both a b
  · simp
theorem comb_noA {a b : C2} (h : codeOkB a = false) : combM a b = (blankC, false) := by
  unfold combM; rw [if_neg]; rintro ⟨h1, _⟩; rw [h] at h1; cases h1
theorem comb_noB {a b : C2} (h : codeOkB b = false) : combM a b = (blankC, false) := by
  unfold combM; rw [if_neg]; rintro ⟨_, h1, _⟩; rw [h] at h1; cases h1
theorem comb_noX {a b : C2} (h : codeOkB (mixC a b) = false) : combM a b = (blankC, false) := by
  unfold combM; rw [if_neg]; rintro ⟨_, _, h1⟩; rw [h] at h1; cases h1
theorem comb_yes {a b : C2} (h1 : codeOkB a = true) (h2 : codeOkB b = true) (h : codeOkB (mixC a b) = true) : combM a b = (mixC a b, true) := by
  unfold combM; rw [if_pos ⟨h1, h2, h⟩]
end Go.Proofs.YtnknfmjpkphbpaaDoor
/- Words of several readings: a word that need not be right, drawn. -/
namespace Go.Proofs.YtnknfmjpkphbpaaDoor
open Go.ChangeShapes Go.WideShapes Go.ChangeAt Go.RowKit Go.BigFrame
set_option linter.unusedVariables false

def pick5 : List ByteArray := [⟨#[]⟩, ⟨#[97, 98, 99]⟩, ⟨#[97, 98, 99, 100]⟩, ⟨#[97, 98, 99, 100, 101]⟩, ⟨#[0, 0, 0, 0]⟩]
theorem pick5_size (i : Nat) : (pick5[i]?.getD ByteArray.empty).size ≤ 5 := by
  unfold pick5
  rcases (by omega : i = 0 ∨ i = 1 ∨ i = 2 ∨ i = 3 ∨ i = 4 ∨ 5 ≤ i) with rfl | rfl | rfl | rfl | rfl | h
  · decide
  · decide
  · decide
  · decide
  · decide
  · rw [List.getElem?_eq_none (by simpa using h)]; decide
/-- the word in its box, the result's box -/
structure O5 (n₀ g : Nat) (a : Option Addr) (len cap : Nat) (zs : List Int) (c1 : Cu) (w W : World) (b3 : Nat) (v : Value) (ks : List K2) (y : ByteArray) : Prop where
  drew : Drew n₀ g a len cap zs c1 w W
  row : W.heap[b3]? = some (.cells #[v, .string y] 26)
  res : W.heap[w.heap.size]? = some (.cells #[.slice none 0 0, .string ⟨#[]⟩] 26)
  own : W.ownsRow w.heap.size 32 2 v ks.length (keyCells ks)
  ne : v.ownBlock ≠ some b3
  ner : v.ownBlock ≠ some w.heap.size
  lt : w.heap.size < b3
theorem O5.next {n₀ g : Nat} {a : Option Addr} {len cap : Nat} {zs : List Int} {c1 c2 : Cu} {w W W' : World} {b3 : Nat} {v : Value} {ks : List K2} {y : ByteArray} (h : O5 n₀ g a len cap zs c1 w W b3 v ks y) (hgl : g < w.heap.size) (hd : Drew n₀ g a len cap zs c2 W W') : O5 n₀ g a len cap zs c2 w W' b3 v ks y :=
  ⟨h.drew.trans hd, hd.keeps h.row (by have := h.lt; omega), hd.keeps h.res (by omega), h.own.kept hd.grown (.inr fun e => by have := (h.own.lt _ e).1; omega), h.ne, h.ner, h.lt⟩
theorem O5.alloc {n₀ g : Nat} {a : Option Addr} {len cap : Nat} {zs : List Int} {c1 : Cu} {w W : World} {b3 : Nat} {v : Value} {ks : List K2} {y : ByteArray} (h : O5 n₀ g a len cap zs c1 w W b3 v ks y) (o : Obj) : O5 n₀ g a len cap zs c1 w (W.alloc o) b3 v ks y :=
  ⟨h.drew.alloc o, (Below.heap_alloc _ _ _ (Array.getElem?_eq_some_iff.1 h.row).1).trans h.row, (Below.heap_alloc _ _ _ (Array.getElem?_eq_some_iff.1 h.res).1).trans h.res, h.own.alloc o, h.ne, h.ner, h.lt⟩
/-- a step that makes memory alone, or writes into a block of its own -/
theorem O5.grow {n₀ g : Nat} {a : Option Addr} {len cap : Nat} {zs : List Int} {c1 : Cu} {w W W' : World} {b3 : Nat} {v : Value} {ks : List K2} {y : ByteArray} {row : Option Nat} (h : O5 n₀ g a len cap zs c1 w W b3 v ks y) (hgl : g < w.heap.size) (hg : W.grownBy W' row)
    (hr : ∀ b, row = some b → b3 < b ∧ v.ownBlock ≠ some b) : O5 n₀ g a len cap zs c1 w W' b3 v ks y := by
  have hl := h.lt
  refine ⟨h.drew.grow hgl hg (fun b e => by have := (hr b e).1; omega), (hg.block _ (Array.getElem?_eq_some_iff.1 h.row).1 (fun e => by have := (hr b3 e.symm).1; omega)).trans h.row, (hg.block _ (Array.getElem?_eq_some_iff.1 h.res).1 (fun e => by have := (hr _ e.symm).1; omega)).trans h.res, h.own.kept hg ?_, h.ne, h.ner, hl⟩
  cases hrow : row with
  | none =>
    cases hv : v.ownBlock with
    | none => exact .inl rfl
    | some b => exact .inr (by simp)
  | some b => exact .inr (hr b hrow).2
theorem O5.both {n₀ g : Nat} {a : Option Addr} {len cap : Nat} {zs : List Int} {c1 : Cu} {w W : World} {b3 : Nat} {v : Value} {ks : List K2} {y : ByteArray} (h : O5 n₀ g a len cap zs c1 w W b3 v ks y) (hgl : g < w.heap.size) {v' : Value} {ks' : List K2}
    (ho : W.ownsRow w.heap.size 32 2 v' ks'.length (keyCells ks')) (hne : v'.ownBlock ≠ some b3) (hner : v'.ownBlock ≠ some w.heap.size) (y' : ByteArray) : O5 n₀ g a len cap zs c1 w ((W.setCell ⟨b3, 0, none⟩ v').setCell ⟨b3, 1, none⟩ (.string y')) b3 v' ks' y' := by
  have hl := h.lt
  exact ⟨h.drew.grow hgl (grown2 W b3 _ _) (fun j e => by cases e; omega), set2 _ _ h.row, row_set2 h.res (by omega) _ _, ho.kept (grown2 W b3 _ _) (.inr hne), hne, hner, hl⟩
theorem O5.keys {n₀ g : Nat} {a : Option Addr} {len cap : Nat} {zs : List Int} {c1 : Cu} {w W : World} {b3 : Nat} {v : Value} {ks : List K2} {y : ByteArray} (h : O5 n₀ g a len cap zs c1 w W b3 v ks y) (hgl : g < w.heap.size) {v' : Value} {ks' : List K2}
    (ho : W.ownsRow w.heap.size 32 2 v' ks'.length (keyCells ks')) (hne : v'.ownBlock ≠ some b3) (hner : v'.ownBlock ≠ some w.heap.size) : O5 n₀ g a len cap zs c1 w (W.setCell ⟨b3, 0, none⟩ v') b3 v' ks' y := by
  have hl := h.lt
  refine ⟨h.drew.grow hgl (Lib.grownBy_setCell W b3 0 _) (fun j e => by cases e; omega), set_cellsD _ h.row, ?_, ho.kept (Lib.grownBy_setCell W b3 0 _) (.inr hne), hne, hner, hl⟩
  rw [Below.heap_setCell _ _ _ _ (by simp; omega)]; exact h.res
theorem O5.txt {n₀ g : Nat} {a : Option Addr} {len cap : Nat} {zs : List Int} {c1 : Cu} {w W : World} {b3 : Nat} {v : Value} {ks : List K2} {y : ByteArray} (h : O5 n₀ g a len cap zs c1 w W b3 v ks y) (hgl : g < w.heap.size) (y' : ByteArray) : O5 n₀ g a len cap zs c1 w (W.setCell ⟨b3, 1, none⟩ (.string y')) b3 v ks y' := by
  have hl := h.lt
  refine ⟨h.drew.grow hgl (Lib.grownBy_setCell W b3 1 _) (fun j e => by cases e; omega), set_cellsD _ h.row, ?_, h.own.kept (Lib.grownBy_setCell W b3 1 _) (.inr h.ne), h.ne, h.ner, hl⟩
  rw [Below.heap_setCell _ _ _ _ (by simp; omega)]; exact h.res
structure O5End (n₀ g : Nat) (a : Option Addr) (len cap : Nat) (zs : List Int) (c1 : Cu) (w W : World) (b3 : Nat) (v : Value) (ks : List K2) (y : ByteArray) : Prop where
  rx : Row2 W b3 v (.string y)
  ry : Row2 W w.heap.size (.slice none 0 0) (.string ⟨#[]⟩)
  lt : w.heap.size < W.heap.size
  fin : Drew n₀ g a len cap zs c1 w ((W.setCell ⟨w.heap.size, 0, none⟩ v).setCell ⟨w.heap.size, 1, none⟩ (.string y))
  own : ((W.setCell ⟨w.heap.size, 0, none⟩ v).setCell ⟨w.heap.size, 1, none⟩ (.string y)).ownsRow w.heap.size 32 2 v ks.length (keyCells ks)
  load : (loadVar 26 ⟨w.heap.size, 0, none⟩).run Tryd.prog ((W.setCell ⟨w.heap.size, 0, none⟩ v).setCell ⟨w.heap.size, 1, none⟩ (.string y)) = .ok (.agg #[v, .string y]) ((W.setCell ⟨w.heap.size, 0, none⟩ v).setCell ⟨w.heap.size, 1, none⟩ (.string y))
theorem O5.end {n₀ g : Nat} {a : Option Addr} {len cap : Nat} {zs : List Int} {c1 : Cu} {w W : World} {b3 : Nat} {v : Value} {ks : List K2} {y : ByteArray} (h : O5 n₀ g a len cap zs c1 w W b3 v ks y) (hgl : g < w.heap.size) : O5End n₀ g a len cap zs c1 w W b3 v ks y :=
  ⟨row2_of h.row, row2_of h.res, (Array.getElem?_eq_some_iff.1 h.res).1, h.drew.grow hgl (grown2 W _ _ _) (fun j e => by cases e; exact Nat.le_refl _), h.own.kept (grown2 W _ _ _) (.inr h.ner), cd_res h.res v y⟩
def seqK (n : Nat) : List K2 := (List.range n).map fun i : Nat => ((1 + (i : Int), 1) : K2)
theorem seqK_len (n : Nat) : (seqK n).length = n := by simp [seqK]
theorem seqK_succ (n : Nat) : seqK (n + 1) = seqK n ++ [(1 + (n : Int), 1)] := by simp [seqK, List.range_succ]
theorem seqK_mem {n : Nat} {k : K2} (h : k ∈ seqK n) : 1 ≤ k.1 ∧ k.1 ≤ (n : Int) ∧ k.2 = 1 := by
  simp only [seqK, List.mem_map, List.mem_range] at h
  obtain ⟨i, hi, rfl⟩ := h
  dsimp only; omega
theorem kDr_bd {k : K2} (h : kDr k) : kBd k := by unfold kDr at h; unfold kBd; omega
theorem own_ne_at {w w' : World} {e : TypeId} {size n b : Nat} {v : Value} {xs : List Value} (h : w'.ownsRow w.heap.size e size v n xs) (hb : b < w.heap.size) : v.ownBlock ≠ some b :=
  fun e => absurd (h.lt _ e).1 (Nat.not_le.2 hb)
set_option maxRecDepth 100000 in
set_option maxHeartbeats 4000000 in
theorem l05odd_any (n₀ g len cap : Nat) (a : Option Addr) (zs : List Int) (c : Cu) (w : World) (hs : DrawSt n₀ w g a len cap zs c.i c.h) :
    Calls Tryd.prog 20 #[.pointer (some ⟨g, 0, none⟩)] w fun e w' => ∃ (v : Value) (ks : List K2) (y : ByteArray) (c' : Cu), e = .returned (.agg #[v, .string y]) ∧ ks.length ≤ 7 ∧ (∀ k ∈ ks, kBd k) ∧ y.size ≤ 5 ∧
      w'.ownsRow w.heap.size 32 2 v ks.length (keyCells ks) ∧ Drew n₀ g a len cap zs c' w w' := by
  have hd0 : Drew n₀ g a len cap zs c w w := ⟨hs, Below.refl _ _, World.grownBy.refl _ _⟩
  have hgl := hs.lt
  obtain ⟨i0, hi, hz0, hz1, hz2⟩ := info_parts infoK
  go_enter Tryd.func20, Tryd.ntmps20
  go_wp2_with fail
  have hd1 := hd0.alloc (.cells #[.slice none 0 0, .string ⟨#[]⟩] 26)
  refine (l05code_any n₀ g len cap a zs c _ hd1.st).mono ?_
  rintro e w1 ⟨v1, ks, y, c1, rfl, hk1, hk4, hkd, hy, ho, hd⟩
  obtain ⟨a1, m1, k1, rfl⟩ := own_shape ho
  have hres := hd.keeps (heap_alloc_new w (.cells #[.slice none 0 0, .string ⟨#[]⟩] 26)) (by omega)
  have hner : (Value.slice a1 m1 k1).ownBlock ≠ some w.heap.size := own_ne_at ho (by simp)
  have hnew : (Value.slice a1 m1 k1).ownBlock ≠ some w1.heap.size := fun e => absurd (ho.lt _ e).2 (Nat.lt_irrefl _)
  have H1 : Hid (O5 n₀ g a len cap zs c1 w (w1.alloc (.cells #[.slice a1 m1 k1, .string y] 26)) w1.heap.size (.slice a1 m1 k1) ks y) :=
    ⟨(hd1.trans hd).alloc _, heap_alloc_new w1 _, (Below.heap_alloc _ _ _ (Array.getElem?_eq_some_iff.1 hres).1).trans hres, own_base (ho.alloc _) (by simp), hnew, hner, (Array.getElem?_eq_some_iff.1 hres).1⟩
  have HK := Lib.hid (show ∀ k ∈ ks, kBd k from fun k hk => kDr_bd (hkd k hk))
  have HO1K := Lib.hid (fun b (e : (Value.slice a1 m1 k1).ownBlock = some b) => (ho.lt b e).2)
  clear hd1 hd hd0 hres hs ho hner hnew hkd
  go_wp2_with fail
  generalize w1.alloc (.cells #[.slice a1 m1 k1, .string y] 26) = W at *
  generalize w1.heap.size = b3 at *
  refine (below_any n₀ g len cap a zs c1 12 _ H1.out.drew.st (by omega)).mono ?_
  rintro e w2 ⟨rfl, hd2⟩
  have H2 := Lib.hid (H1.out.next hgl hd2)
  generalize (belowF zs len c1 12).2 = c2 at *
  generalize (belowF zs len c1 12).1 = x at *
  clear H1 hd2
  have hlt := H2.out.lt
  have hb3 := (Array.getElem?_eq_some_iff.1 H2.out.row).1
  rcases (by omega : x = 0 ∨ x = 1 ∨ x = 2 ∨ x = 3 ∨ (¬ x = 0 ∧ ¬ x = 1 ∧ ¬ x = 2 ∧ ¬ x = 3)) with rfl | rfl | rfl | rfl | ⟨x0, x1, x2, x3⟩
  · go_wp2_with fail
    refine (anykeys_any n₀ g len cap a zs c2 _ H2.out.drew.st).mono ?_
    rintro e w3 ⟨v3, ks3, c3, rfl, hl3, hb3', ho3, hd3⟩
    obtain ⟨a3, m3, k3, rfl⟩ := own_shape ho3
    have H3 := H2.out.next hgl hd3
    obtain ⟨x0, x1, f0, f1⟩ := row2_of H3.row
    have hlx := (Array.getElem?_eq_some_iff.1 H3.row).1
    have hw2 := H2.out.drew.grown.size
    have H4 := H3.keys hgl (own_base ho3 hw2) (own_ne_at ho3 hb3) (own_ne_at ho3 (by omega))
    have HE := Lib.hid (H4.end hgl)
    have HKB := Lib.hid hb3'
    clear hd3 H2 H3 H4 ho3 hb3'
    obtain ⟨⟨b0, b1, -, -⟩, ⟨e0, e1, g0, g1⟩, hlw, -, -, -⟩ := HE.out
    go_wp2_with fail
    refine bodyPost_ret (v := .agg #[.slice a3 m3 k3, .string y]) ?_ rfl ⟨_, ks3, y, c3, rfl, by omega, HKB.out, by omega, HE.out.own, HE.out.fin⟩
    rw [results_cell (p := 2) (ty := 26) (by kernel_rfl)]
    have hl := HE.out.load
    simp [asAddr, Result.andThen, hl]
  · have H3 := H2.out.alloc (.cells #[.string ⟨#[]⟩, .string ⟨#[97, 98, 99]⟩, .string ⟨#[97, 98, 99, 100]⟩, .string ⟨#[97, 98, 99, 100, 101]⟩, .string ⟨#[0, 0, 0, 0]⟩] 9)
    have hcells : ∀ k, k < 5 → (w2.alloc (.cells #[.string ⟨#[]⟩, .string ⟨#[97, 98, 99]⟩, .string ⟨#[97, 98, 99, 100]⟩, .string ⟨#[97, 98, 99, 100, 101]⟩, .string ⟨#[0, 0, 0, 0]⟩] 9)).cell? ⟨w2.heap.size, k, none⟩ = some (.string (pick5[k]?.getD ByteArray.empty)) := by
      intro k hk
      rw [lit_cell]
      rcases (by omega : k = 0 ∨ k = 1 ∨ k = 2 ∨ k = 3 ∨ k = 4) with rfl | rfl | rfl | rfl | rfl <;> rfl
    have HP := Lib.hid (pick_any n₀ g len cap w2.heap.size 5 a zs c2 pick5 _ H3.drew.st (by omega) (by omega) rfl (by omega) hcells)
    have H3 := Lib.hid H3
    clear hcells H2
    go_wp2_with fail
    refine HP.out.mono ?_
    rintro e w3 ⟨rfl, hd3⟩
    have H4 := Lib.hid (H3.out.next hgl hd3)
    clear HP H3 hd3
    have hps := pick5_size (belowF zs len c2 5).1.toNat
    have e5 : ((5 : Nat) : Int) = 5 := rfl
    try rw [e5] at *
    generalize pick5[(belowF zs len c2 5).1.toNat]?.getD ByteArray.empty = py at *
    generalize (belowF zs len c2 5).2 = c3 at *
    obtain ⟨x0, x1, f0, f1⟩ := row2_of H4.out.row
    have hlx := (Array.getElem?_eq_some_iff.1 H4.out.row).1
    have HE := Lib.hid ((H4.out.txt hgl py).end hgl)
    clear H4
    obtain ⟨⟨b0, b1, -, -⟩, ⟨e0, e1, g0, g1⟩, hlw, -, -, -⟩ := HE.out
    go_wp2_with fail
    refine bodyPost_ret (v := .agg #[.slice a1 m1 k1, .string py]) ?_ rfl ⟨_, ks, py, c3, rfl, by omega, HK.out, hps, HE.out.own, HE.out.fin⟩
    rw [results_cell (p := 2) (ty := 26) (by kernel_rfl)]
    have hl := HE.out.load
    simp [asAddr, Result.andThen, hl]
  · go_wp2_with fail
    refine (l05of_any (.slice none 0 0) [] w2 ⟨none, 0, rfl, by simp, .inl rfl⟩ (by simp) (by simp)).mono ?_
    rintro e w3 ⟨v3, y3, rfl, hy3, ho3, hb3'⟩
    have hw2 := H2.out.drew.grown.size
    obtain ⟨a3, m3, k3, rfl⟩ := own_shape ho3
    have H3 := H2.out.grow hgl (grown_of_below' hb3' none) (fun b e => by cases e)
    obtain ⟨x0, x1, f0, f1⟩ := row2_of H3.row
    have hlx := (Array.getElem?_eq_some_iff.1 H3.row).1
    have HE := Lib.hid ((H3.both hgl (own_base ho3 hw2) (own_ne_at ho3 (hb3)) (own_ne_at ho3 (by omega)) y3).end hgl)
    clear hb3' H2 H3 ho3
    obtain ⟨⟨b0, b1, -, -⟩, ⟨e0, e1, g0, g1⟩, hlw, -, -, -⟩ := HE.out
    go_wp2_with fail
    refine bodyPost_ret (v := .agg #[.slice a3 m3 k3, .string y3]) ?_ rfl ⟨_, [], y3, c2, rfl, by simp, by simp, by omega, HE.out.own, HE.out.fin⟩
    rw [results_cell (p := 2) (ty := 26) (by kernel_rfl)]
    have hl := HE.out.load
    simp [asAddr, Result.andThen, hl]
  · have H3 := H2.out.alloc (.cells #[] 32)
    have hw2 := H2.out.drew.grown.size
    have ho3 := own_base (World.ownsRow_made (base := w2.heap.size) (e := 32) (size := 2) w2 #[] 0 (Nat.le_refl _) (by unfold maxLen; omega) rfl) (Nat.le_refl _)
    have H3 := Lib.hid H3
    have HO3 := Lib.hid ho3
    have hz3 : w2.heap.size < (w2.alloc (.cells #[] 32)).heap.size := by simp
    clear H2 ho3
    go_wp2_with fail
    generalize hW3 : w2.alloc (.cells #[] 32) = W3 at *
    refine (below_any n₀ g len cap a zs c2 3 _ H3.out.drew.st (by omega)).mono ?_
    rintro e w3 ⟨rfl, hd3⟩
    have hbd := belowF_bd zs len c2 3
    have H4 := Lib.hid (H3.out.next hgl hd3)
    have HO4 := Lib.hid (HO3.out.kept hd3.grown (.inr fun e => by have := (HO3.out.lt _ e).1; omega))
    have hz4 := Nat.lt_of_lt_of_le hz3 hd3.grown.size
    generalize (belowF zs len c2 3).2 = c3 at *
    generalize (belowF zs len c2 3).1 = x at *
    obtain ⟨n, rfl⟩ : ∃ n : Nat, x = n := ⟨x.toNat, by omega⟩
    have hn3 : n < 3 := by omega
    have ewn : IntKind.i64.wrap (5 + (n : Int)) = 5 + (n : Int) := IntWalk.i64_in _ (by omega)
    clear H3 HO3 hd3 hbd
    go_wp2
    go_loopw [4, 6] (fun v4 i wr => ∃ k : Nat, k ≤ 5 + n ∧ i = .int .i64 k ∧ O5 n₀ g a len cap zs c3 w wr b3 (.slice a1 m1 k1) ks y ∧ wr.ownsRow w2.heap.size 32 2 v4 (seqK k).length (keyCells (seqK k)) ∧ w2.heap.size < wr.heap.size) (fun _ i _ => 5 + n - (intOf i).toNat)
    case atStart => exact ⟨0, Nat.zero_le _, rfl, H4.out, HO4.out, hz4⟩
    case round =>
      clear H4 HO4 hz4 hz3
      obtain ⟨k, hk, rfl, hO, hw, hzr⟩ := hrel
      rw [seqK_len] at hw
      by_cases hlk : k < 5 + n
      · have i1 : (k : Int) < 5 + (n : Int) := by omega
        have ew1 : IntKind.i64.wrap (1 + (k : Int)) = 1 + (k : Int) := IntWalk.i64_in _ (by omega)
        have HO := Lib.hid hO
        go_wp2_with (at_builtin; refine wpList_append_own _ rfl (.tmp 36) (.tmp 40) 24 rfl w2.heap.size 32 i0 (.agg #[.int .i64 0, .int .i64 0]) 2 16 Tryd.underlying24 hi hz0 hz1 hz2 rfl (by decide) _ _ _ rfl (hw.alloc _) ⟨wr.heap.size, 0, none⟩ 1 1 [.int .i64 (1 + (k : Int)), .int .i64 1] rfl rfl (cell_two_new _ _ _ _) (by intro u hu; simp at hu; rcases hu with rfl | rfl <;> rfl) (by unfold maxLen; omega) (by omega) (by simp; omega) ?_; intro v' w5 hown' hgrow _)
        have hv4 := fun b e => (hw.lt b e).1
        have H5 := Lib.hid ((HO.out.alloc (.cells #[.int .i64 (1 + (k : Int)), .int .i64 1] 32)).grow hgl hgrow (fun b e => ⟨by have := hv4 b e; omega, fun e2 => by have := hv4 b e; have := HO1K.out b e2; omega⟩))
        have HN := Lib.hid (show w5.ownsRow w2.heap.size 32 2 v' (seqK (k + 1)).length (keyCells (seqK (k + 1))) by rw [seqK_succ, keyCells_snoc]; simpa [seqK_len] using hown')
        have hz5 : w2.heap.size < w5.heap.size := by have := hgrow.size; simp at this; omega
        clear hown' hgrow hw HO hO hv4
        go_wp2
        exact ⟨⟨k + 1, by omega, by go_num, H5.out, HN.out, hz5⟩, by simp [intOf]; omega⟩
      · obtain rfl : k = 5 + n := by omega
        have i1 : ¬ ((5 + n : Nat) : Int) < 5 + (n : Int) := by omega
        have H2 := Lib.hid hO
        have hwr := hO.drew.grown.size
        have hbr := (Array.getElem?_eq_some_iff.1 hO.row).1
        clear hO
        go_wp2_with fail
        refine (l05of_any _ (seqK (5 + n)) wr (keysAt_own (by rw [seqK_len]; exact hw)) (by rw [seqK_len]; omega) (fun k hk => by have := seqK_mem hk; omega)).mono ?_
        rintro e w3 ⟨v3, y3, rfl, hy3, ho3, hb3'⟩
        obtain ⟨a3, m3, k3, rfl⟩ := own_shape ho3
        have H3 := H2.out.grow hgl (grown_of_below' hb3' none) (fun b e => by cases e)
        obtain ⟨x0, x1, f0, f1⟩ := row2_of H3.row
        have hlx := (Array.getElem?_eq_some_iff.1 H3.row).1
        have HE := Lib.hid ((H3.both hgl (own_base ho3 hwr) (own_ne_at ho3 (hbr)) (own_ne_at ho3 (by omega)) y3).end hgl)
        clear hb3' H2 H3 ho3
        obtain ⟨⟨b0, b1, -, -⟩, ⟨e0, e1, g0, g1⟩, hlw, -, -, -⟩ := HE.out
        go_wp2_with fail
        refine bodyPost_ret (v := .agg #[.slice a3 m3 k3, .string y3]) ?_ rfl ⟨_, seqK (5 + n), y3, c3, rfl, by rw [seqK_len]; omega, (fun k hk => by have := seqK_mem hk; unfold kBd; omega), by omega, HE.out.own, HE.out.fin⟩
        rw [results_cell (p := 2) (ty := 26) (by kernel_rfl)]
        have hl := HE.out.load
        simp [asAddr, Result.andThen, hl]
  · have j0 : (x == 0) = false := by simp [x0]
    have j1 : (x == 1) = false := by simp [x1]
    have j2 : (x == 2) = false := by simp [x2]
    have j3 : (x == 3) = false := by simp [x3]
    have HE := Lib.hid (H2.out.end hgl)
    clear H2
    obtain ⟨⟨b0, b1, -, -⟩, ⟨e0, e1, g0, g1⟩, hlw, -, -, -⟩ := HE.out
    go_wp2_with fail
    refine bodyPost_ret (v := .agg #[.slice a1 m1 k1, .string y]) ?_ rfl ⟨_, ks, y, c2, rfl, by omega, HK.out, by omega, HE.out.own, HE.out.fin⟩
    rw [results_cell (p := 2) (ty := 26) (by kernel_rfl)]
    have hl := HE.out.load
    simp [asAddr, Result.andThen, hl]
end Go.Proofs.YtnknfmjpkphbpaaDoor
/- Chapter 4's draws: a reading that need not be right. -/
namespace Go.Proofs.YtnknfmjpkphbpaaDoor
open Go.ChangeShapes Go.WideShapes Go.ChangeAt Go.RowKit Go.BigFrame
set_option linter.unusedVariables false

def pick3o : List ByteArray := [⟨#[]⟩, ⟨#[97, 98, 99]⟩, ⟨#[97, 98, 99, 100, 101]⟩]
theorem pick3o_size (i : Nat) : (pick3o[i]?.getD ByteArray.empty).size ≤ 5 := by
  unfold pick3o
  rcases (by omega : i = 0 ∨ i = 1 ∨ i = 2 ∨ 3 ≤ i) with rfl | rfl | rfl | h
  · decide
  · decide
  · decide
  · rw [List.getElem?_eq_none (by simpa using h)]; decide
/-- the reading in its box, the result's box -/
structure O4 (n₀ g : Nat) (a : Option Addr) (len cap : Nat) (zs : List Int) (c1 : Cu) (w W : World) (b4 : Nat) (r : R3) : Prop where
  drew : Drew n₀ g a len cap zs c1 w W
  row : W.heap[b4]? = some (.cells #[.int .i64 r.1.1, .int .i64 r.1.2, .string r.2] 34)
  res : W.heap[w.heap.size]? = some (.cells #[.int .i64 0, .int .i64 0, .string ⟨#[]⟩] 34)
  lt : w.heap.size < b4
theorem O4.next {n₀ g : Nat} {a : Option Addr} {len cap : Nat} {zs : List Int} {c1 c2 : Cu} {w W W' : World} {b4 : Nat} {r : R3} (h : O4 n₀ g a len cap zs c1 w W b4 r) (hgl : g < w.heap.size) (hd : Drew n₀ g a len cap zs c2 W W') : O4 n₀ g a len cap zs c2 w W' b4 r :=
  ⟨h.drew.trans hd, hd.keeps h.row (by have := h.lt; omega), hd.keeps h.res (by omega), h.lt⟩
theorem O4.alloc {n₀ g : Nat} {a : Option Addr} {len cap : Nat} {zs : List Int} {c1 : Cu} {w W : World} {b4 : Nat} {r : R3} (h : O4 n₀ g a len cap zs c1 w W b4 r) (o : Obj) : O4 n₀ g a len cap zs c1 w (W.alloc o) b4 r :=
  ⟨h.drew.alloc o, (Below.heap_alloc _ _ _ (Array.getElem?_eq_some_iff.1 h.row).1).trans h.row, (Below.heap_alloc _ _ _ (Array.getElem?_eq_some_iff.1 h.res).1).trans h.res, h.lt⟩
theorem O4.key {n₀ g : Nat} {a : Option Addr} {len cap : Nat} {zs : List Int} {c1 : Cu} {w W : World} {b4 : Nat} {r : R3} (h : O4 n₀ g a len cap zs c1 w W b4 r) (hgl : g < w.heap.size) (p q : Int) : O4 n₀ g a len cap zs c1 w ((W.setCell ⟨b4, 0, none⟩ (.int .i64 p)).setCell ⟨b4, 1, none⟩ (.int .i64 q)) b4 ((p, q), r.2) := by
  have hl := h.lt
  refine ⟨h.drew.grow hgl (grownT (Lib.grownBy_setCell W b4 0 _) (Lib.grownBy_setCell _ b4 1 _)) (fun j e => by cases e; omega), set_cellsD _ (set_cellsD _ h.row), ?_, hl⟩
  rw [Below.heap_setCell _ _ _ _ (by simp; omega), Below.heap_setCell _ _ _ _ (by simp; omega)]
  exact h.res
theorem O4.txt {n₀ g : Nat} {a : Option Addr} {len cap : Nat} {zs : List Int} {c1 : Cu} {w W : World} {b4 : Nat} {r : R3} (h : O4 n₀ g a len cap zs c1 w W b4 r) (hgl : g < w.heap.size) (y : ByteArray) : O4 n₀ g a len cap zs c1 w (W.setCell ⟨b4, 2, none⟩ (.string y)) b4 (r.1, y) := by
  have hl := h.lt
  refine ⟨h.drew.grow hgl (Lib.grownBy_setCell W b4 2 _) (fun j e => by cases e; omega), set_cellsD _ h.row, ?_, hl⟩
  rw [Below.heap_setCell _ _ _ _ (by simp; omega)]
  exact h.res
structure O4End (n₀ g : Nat) (a : Option Addr) (len cap : Nat) (zs : List Int) (c1 : Cu) (w W : World) (b4 : Nat) (r : R3) : Prop where
  x : Row3 W b4 (.int .i64 r.1.1) (.int .i64 r.1.2) (.string r.2)
  y : Row3 W w.heap.size (.int .i64 0) (.int .i64 0) (.string ⟨#[]⟩)
  fin : Drew n₀ g a len cap zs c1 w (((W.setCell ⟨w.heap.size, 0, none⟩ (.int .i64 r.1.1)).setCell ⟨w.heap.size, 1, none⟩ (.int .i64 r.1.2)).setCell ⟨w.heap.size, 2, none⟩ (.string r.2))
  load : (loadVar 34 ⟨w.heap.size, 0, none⟩).run Tryd.prog (((W.setCell ⟨w.heap.size, 0, none⟩ (.int .i64 r.1.1)).setCell ⟨w.heap.size, 1, none⟩ (.int .i64 r.1.2)).setCell ⟨w.heap.size, 2, none⟩ (.string r.2)) =
    .ok (.agg #[.int .i64 r.1.1, .int .i64 r.1.2, .string r.2]) (((W.setCell ⟨w.heap.size, 0, none⟩ (.int .i64 r.1.1)).setCell ⟨w.heap.size, 1, none⟩ (.int .i64 r.1.2)).setCell ⟨w.heap.size, 2, none⟩ (.string r.2))
theorem O4.end {n₀ g : Nat} {a : Option Addr} {len cap : Nat} {zs : List Int} {c1 : Cu} {w W : World} {b4 : Nat} {r : R3} (h : O4 n₀ g a len cap zs c1 w W b4 r) (hgl : g < w.heap.size) : O4End n₀ g a len cap zs c1 w W b4 r :=
  ⟨row3_of h.row, row3_of h.res, h.drew.grow hgl (grown3 W w.heap.size _ _ _) (fun j e => by cases e; omega),
    run_loadVar_row (P := Tryd.prog) _ w.heap.size 34 34 #[.int .i64 r.1.1, .int .i64 r.1.2, .string r.2] (0, 0) _ (set3 _ _ _ h.res) Tryd.underlying34 rfl (by kernel_rfl)⟩
set_option maxRecDepth 100000 in
set_option maxHeartbeats 2000000 in
theorem l04odd_any (n₀ g len cap : Nat) (a : Option Addr) (zs : List Int) (c : Cu) (w : World) (hs : DrawSt n₀ w g a len cap zs c.i c.h) :
    Calls Tryd.prog 31 #[.pointer (some ⟨g, 0, none⟩)] w fun e w' => ∃ (r : R3) (c' : Cu), e = .returned (rv r) ∧ (-5 ≤ r.1.1 ∧ r.1.1 ≤ 100 ∧ -5 ≤ r.1.2 ∧ r.1.2 ≤ 100) ∧ r.2.size ≤ 5 ∧ Drew n₀ g a len cap zs c' w w' := by
  have hd0 : Drew n₀ g a len cap zs c w w := ⟨hs, Below.refl _ _, World.grownBy.refl _ _⟩
  have hgl := hs.lt
  go_enter Tryd.func31, Tryd.ntmps31
  go_wp2_with fail
  have hd1 := hd0.alloc (.cells #[.int .i64 0, .int .i64 0, .string ⟨#[]⟩] 34)
  refine (l04reading_any n₀ g len cap a zs c _ hd1.st).mono ?_
  rintro e w1 ⟨⟨⟨n, s⟩, y⟩, c1, rfl, hk, hy, hd⟩
  dsimp only at hk hy
  have hres := hd.keeps (heap_alloc_new w (.cells #[.int .i64 0, .int .i64 0, .string ⟨#[]⟩] 34)) (by omega)
  have H1 : Hid (O4 n₀ g a len cap zs c1 w (w1.alloc (.cells #[.int .i64 n, .int .i64 s, .string y] 34)) w1.heap.size ((n, s), y)) :=
    ⟨(hd1.trans hd).alloc _, heap_alloc_new w1 _, (Below.heap_alloc _ _ _ (Array.getElem?_eq_some_iff.1 hres).1).trans hres, (Array.getElem?_eq_some_iff.1 hres).1⟩
  unfold rv
  dsimp only
  clear hd1 hd hd0 hres hs
  go_wp2_with fail
  generalize w1.alloc (.cells #[.int .i64 n, .int .i64 s, .string y] 34) = W at *
  generalize w1.heap.size = b4 at *
  refine (below_any n₀ g len cap a zs c1 6 _ H1.out.drew.st (by omega)).mono ?_
  rintro e w2 ⟨rfl, hd2⟩
  have H2 := Lib.hid (H1.out.next hgl hd2)
  generalize (belowF zs len c1 6).2 = c2 at *
  generalize (belowF zs len c1 6).1 = x at *
  clear H1 hd2
  have hlt := H2.out.lt
  by_cases hx0 : x = 0
  · subst hx0
    go_wp2_with fail
    refine (odd_any n₀ g len cap a zs c2 _ H2.out.drew.st).mono ?_
    rintro e w3 ⟨⟨p, q⟩, c3, rfl, hk3, hd3⟩
    dsimp only at hk3
    have H3 := H2.out.next hgl hd3
    obtain ⟨a0, a1, a2, a3, a4, a5⟩ := row3_of H3.row
    have H4 := Lib.hid ((H3.key hgl p q).end hgl)
    have H3 := Lib.hid H3
    obtain ⟨⟨b0, b1, b2, -, -, -⟩, ⟨e0, e1, e2, e3, e4, e5⟩, -, -⟩ := H4.out
    obtain ⟨d0, d1, d2, d3, d4, d5⟩ := row3_of H3.out.res
    unfold kv
    dsimp only at *
    clear hd3 H2 H3
    go_wp2_with fail
    refine bodyPost_ret (v := .agg #[.int .i64 p, .int .i64 q, .string y]) ?_ rfl ⟨((p, q), y), c3, rfl, hk3, by dsimp only; omega, H4.out.fin⟩
    rw [results_cell (p := 2) (ty := 34) (by kernel_rfl)]
    have hl := H4.out.load
    simp [asAddr, Result.andThen, hl]
  · have f0 : (x == 0) = false := by simpa using hx0
    by_cases hx1 : x = 1
    · subst hx1
      have P3 := Lib.hid (pick_any n₀ g len cap w2.heap.size 3 a zs c2 pick3o (w2.alloc (.cells #[.string ⟨#[]⟩, .string ⟨#[97, 98, 99]⟩, .string ⟨#[97, 98, 99, 100, 101]⟩] 9)) (H2.out.drew.alloc _).st (by omega) (by omega) rfl (by have := H2.out.drew.st.lt; omega) (by
        intro k hk
        rw [lit_cell]
        rcases (by omega : k = 0 ∨ k = 1 ∨ k = 2) with rfl | rfl | rfl <;> rfl))
      have hps := pick3o_size (belowF zs len c2 (3 : Nat)).1.toNat
      generalize pick3o[(belowF zs len c2 (3 : Nat)).1.toNat]?.getD ByteArray.empty = tp at *
      generalize (belowF zs len c2 (3 : Nat)).2 = c3 at *
      go_wp2_with fail
      refine P3.out.mono ?_
      rintro e w3 ⟨rfl, hd3⟩
      have H3 := (H2.out.alloc (.cells #[.string ⟨#[]⟩, .string ⟨#[97, 98, 99]⟩, .string ⟨#[97, 98, 99, 100, 101]⟩] 9)).next hgl hd3
      obtain ⟨a0, a1, a2, a3, a4, a5⟩ := row3_of H3.row
      have H4 := Lib.hid ((H3.txt hgl tp).end hgl)
      have H3 := Lib.hid H3
      obtain ⟨⟨b0, b1, b2, -, -, -⟩, ⟨e0, e1, e2, e3, e4, e5⟩, -, -⟩ := H4.out
      obtain ⟨d0, d1, d2, d3, d4, d5⟩ := row3_of H3.out.res
      dsimp only at *
      clear hd3 H2 H3 P3
      go_wp2_with fail
      refine bodyPost_ret (v := .agg #[.int .i64 n, .int .i64 s, .string tp]) ?_ rfl ⟨((n, s), tp), c3, rfl, by dsimp only; omega, hps, H4.out.fin⟩
      rw [results_cell (p := 2) (ty := 34) (by kernel_rfl)]
      have hl := H4.out.load
      simp [asAddr, Result.andThen, hl]
    · have f1 : (x == 1) = false := by simpa using hx1
      have H4 := Lib.hid (H2.out.end hgl)
      obtain ⟨⟨b0, b1, b2, -, -, -⟩, ⟨e0, e1, e2, e3, e4, e5⟩, -, -⟩ := H4.out
      dsimp only at *
      clear H2
      go_wp2_with fail
      refine bodyPost_ret (v := .agg #[.int .i64 n, .int .i64 s, .string y]) ?_ rfl ⟨((n, s), y), c2, rfl, by dsimp only; omega, by dsimp only; omega, H4.out.fin⟩
      rw [results_cell (p := 2) (ty := 34) (by kernel_rfl)]
      have hl := H4.out.load
      simp [asAddr, Result.andThen, hl]
end Go.Proofs.YtnknfmjpkphbpaaDoor
/- Chapter 4's draw of a reading: what it is, by the code's bytes alone. -/
namespace Go.Proofs.YtnknfmjpkphbpaaDoor
open Go.ChangeShapes Go.WideShapes Go.ChangeAt Go.RowKit Go.BigFrame
set_option linter.unusedVariables false

def KeyRel (zs : List Int) (len : Nat) (c : Cu) (k : K2) (c' : Cu) : Prop := ∃ x c1 y, belowF zs len c 5 = (x, c1) ∧ belowF zs len c1 2 = (y, c') ∧ k = (1 + x, 1 + y)
theorem KeyRel.det {zs : List Int} {len : Nat} {c : Cu} {k k2 : K2} {c' c2' : Cu} (h : KeyRel zs len c k c') (h2 : KeyRel zs len c k2 c2') : k = k2 ∧ c' = c2' := by
  obtain ⟨x, c1, y, e1, e2, rfl⟩ := h
  obtain ⟨x', c1', y', f1, f2, rfl⟩ := h2
  rw [e1] at f1
  obtain ⟨rfl, rfl⟩ := Prod.mk.inj f1
  rw [e2] at f2
  obtain ⟨rfl, rfl⟩ := Prod.mk.inj f2
  exact ⟨rfl, rfl⟩
def ReadRel (zs : List Int) (len : Nat) (c : Cu) (r : R3) (c' : Cu) : Prop := ∃ k c1, KeyRel zs len c k c1 ∧
  ((((belowF zs len c1 6).1 == 0) = false ∧ r = (k, truthV k) ∧ c' = (belowF zs len c1 6).2) ∨
   (((belowF zs len c1 6).1 == 0) = true ∧ r = (k, pick3[(belowF zs len (belowF zs len c1 6).2 (3 : Nat)).1.toNat]?.getD ByteArray.empty) ∧ c' = (belowF zs len (belowF zs len c1 6).2 (3 : Nat)).2))
theorem ReadRel.det {zs : List Int} {len : Nat} {c : Cu} {r r2 : R3} {c' c2' : Cu} (h : ReadRel zs len c r c') (h2 : ReadRel zs len c r2 c2') : r = r2 ∧ c' = c2' := by
  obtain ⟨k, c1, hk, h⟩ := h
  obtain ⟨k2, c12, hk2, h2⟩ := h2
  obtain ⟨rfl, rfl⟩ := hk.det hk2
  rcases h with ⟨a, rfl, rfl⟩ | ⟨a, rfl, rfl⟩ <;> rcases h2 with ⟨b, rfl, rfl⟩ | ⟨b, rfl, rfl⟩
  · exact ⟨rfl, rfl⟩
  · rw [a] at b; cases b
  · rw [a] at b; cases b
  · exact ⟨rfl, rfl⟩
def oddF (zs : List Int) (len : Nat) (c : Cu) : K2 × Cu :=
  let b := belowF zs len c (6 : Nat)
  let d := belowF zs len b.2 (5 : Nat)
  (([0, 1, 20, 21, -1, (5 : Int)][b.1.toNat]?.getD 0, [0, 1, 99, 100, (-5 : Int)][d.1.toNat]?.getD 0), d.2)
theorem oddF_eq (zs : List Int) (len : Nat) (c : Cu) : ∀ x0 c1, belowF zs len c (6 : Nat) = (x0, c1) → ∀ y0 c2, belowF zs len c1 (5 : Nat) = (y0, c2) →
    oddF zs len c = (([0, 1, 20, 21, -1, (5 : Int)][x0.toNat]?.getD 0, [0, 1, 99, 100, (-5 : Int)][y0.toNat]?.getD 0), c2) := by
  intro x0 c1 h1 y0 c2 h2
  unfold oddF
  simp only [h1, h2]
theorem odd_funR (n₀ g len cap : Nat) (a : Option Addr) (zs : List Int) (c : Cu) (w : World) (hs : DrawSt n₀ w g a len cap zs c.i c.h) :
    Calls Tryd.prog 51 #[.pointer (some ⟨g, 0, none⟩)] w fun e w' => e = .returned (kv (oddF zs len c).1) ∧ (-5 ≤ (oddF zs len c).1.1 ∧ (oddF zs len c).1.1 ≤ 100 ∧ -5 ≤ (oddF zs len c).1.2 ∧ (oddF zs len c).1.2 ≤ 100) ∧ Drew n₀ g a len cap zs (oddF zs len c).2 w w' := by
  have hd0 : Drew n₀ g a len cap zs c w w := ⟨hs, Below.refl _ _, World.grownBy.refl _ _⟩
  have hgl := hs.lt
  go_enter Tryd.func51, Tryd.ntmps51
  go_wp2_with fail
  have hd1 := hd0.alloc (.cells #[.int .i64 0, .int .i64 0] 32)
  have hd2 := hd1.alloc (.cells #[.int .i64 0, .int .i64 1, .int .i64 20, .int .i64 21, .int .i64 (-1), .int .i64 5] 3)
  have hq1 := heap_first w (.cells #[.int .i64 0, .int .i64 1, .int .i64 20, .int .i64 21, .int .i64 (-1), .int .i64 5] 3) (.cells #[.int .i64 0, .int .i64 0] 32)
  refine (pickint_any n₀ g len cap (w.heap.size + 1) 6 a zs c [0, 1, 20, 21, -1, 5] _ hd2.st (by omega) (by omega) rfl (by omega) ?_).mono ?_
  · intro k hk
    have := lit_cell (w.alloc (.cells #[.int .i64 0, .int .i64 0] 32)) #[.int .i64 0, .int .i64 1, .int .i64 20, .int .i64 21, .int .i64 (-1), .int .i64 5] 3 k
    rw [show (w.alloc (.cells #[.int .i64 0, .int .i64 0] 32)).heap.size = w.heap.size + 1 by simp] at this
    rw [this]
    rcases (by omega : k = 0 ∨ k = 1 ∨ k = 2 ∨ k = 3 ∨ k = 4 ∨ k = 5) with rfl | rfl | rfl | rfl | rfl | rfl <;> rfl
  · rintro e w1 ⟨rfl, hd⟩
    have hbd := belowF_bd zs len c (6 : Nat)
    generalize hb1e : belowF zs len c (6 : Nat) = b at *
    obtain ⟨x0, c1⟩ := b
    have HB1 := Lib.hid hb1e; clear hb1e
    dsimp only at *
    have hx : -1 ≤ [0, 1, 20, 21, -1, (5 : Int)][x0.toNat]?.getD 0 ∧ [0, 1, 20, 21, -1, (5 : Int)][x0.toNat]?.getD 0 ≤ 21 := by
      rcases (by omega : x0.toNat = 0 ∨ x0.toNat = 1 ∨ x0.toNat = 2 ∨ x0.toNat = 3 ∨ x0.toNat = 4 ∨ x0.toNat = 5) with h | h | h | h | h | h <;> rw [h] <;> simp
    generalize hxe : [0, 1, 20, 21, -1, (5 : Int)][x0.toNat]?.getD 0 = x at *
    have HX := Lib.hid hxe; clear hxe
    have hD := hd2.trans hd
    have hq2 := hd.keeps hq1 (by omega)
    have hgw := hD.st.lt
    clear hd hd1 hd2 hq1 hd0 hs
    go_wp2_with fail
    have hd3 := hD.alloc (.cells #[.int .i64 0, .int .i64 1, .int .i64 99, .int .i64 100, .int .i64 (-5)] 3)
    have hwz : w.heap.size ≤ w1.heap.size := hD.grown.size
    refine (pickint_any n₀ g len cap w1.heap.size 5 a zs c1 [0, 1, 99, 100, -5] _ hd3.st (by omega) (by omega) rfl (by omega) ?_).mono ?_
    · intro k hk
      rw [lit_cell]
      rcases (by omega : k = 0 ∨ k = 1 ∨ k = 2 ∨ k = 3 ∨ k = 4) with rfl | rfl | rfl | rfl | rfl <;> rfl
    · rintro e w2 ⟨rfl, hd⟩
      have hbd2 := belowF_bd zs len c1 (5 : Nat)
      generalize hb2e : belowF zs len c1 (5 : Nat) = b at *
      obtain ⟨y0, c2⟩ := b
      have HB2 := Lib.hid hb2e; clear hb2e
      dsimp only at *
      have hy : -5 ≤ [0, 1, 99, 100, (-5 : Int)][y0.toNat]?.getD 0 ∧ [0, 1, 99, 100, (-5 : Int)][y0.toNat]?.getD 0 ≤ 100 := by
        rcases (by omega : y0.toNat = 0 ∨ y0.toNat = 1 ∨ y0.toNat = 2 ∨ y0.toNat = 3 ∨ y0.toNat = 4) with h | h | h | h | h <;> rw [h] <;> simp
      generalize hye : [0, 1, 99, 100, (-5 : Int)][y0.toNat]?.getD 0 = y at *
      have hfe : oddF zs len c = ((x, y), c2) := by rw [← HX.out, ← hye]; exact oddF_eq zs len c x0 c1 HB1.out y0 c2 HB2.out
      have HFE := Lib.hid hfe; clear hye hfe
      have hq3 : (w1.alloc (.cells #[.int .i64 0, .int .i64 1, .int .i64 99, .int .i64 100, .int .i64 (-5)] 3)).heap[w.heap.size]? = some (.cells #[.int .i64 0, .int .i64 0] 32) := by
        rw [Below.heap_alloc _ _ _ (Array.getElem?_eq_some_iff.1 hq2).1]; exact hq2
      have hb1 := hd.keeps hq3 (by omega)
      have hDD := hd3.trans hd
      have hbk := fun w => build_key x y w
      obtain ⟨s1, s2, s3, s4, s5, s6⟩ := two_set (.int .i64 0) (.int .i64 0) (.int .i64 x) (.int .i64 y) hb1
      have hG := hDD.grow hgl (grown_two w2 w.heap.size (.int .i64 x) (.int .i64 y)) (fun b e => by cases e; omega)
      have HG := Lib.hid hG; have S56 := Lib.hid (And.intro s5 s6)
      have hsz : w.heap.size < w2.heap.size := (Array.getElem?_eq_some_iff.1 hb1).1
      clear hD hd hd3 hDD hG s5 s6 hb1 hq3 hq2
      go_wp2
      refine bodyPost_ret (v := kv (x, y)) ?_ rfl ⟨by rw [HFE.out], by rw [HFE.out]; dsimp only; omega, by rw [HFE.out]; exact HG.out⟩
      rw [results_cell (p := 2) (ty := 32) (by kernel_rfl)]
      have hl := key_load (k := (x, y)) (o := 0) S56.out (by simp [World.setCell]; omega) (Below.refl _ _)
      simp [asAddr, Result.andThen, hl]
theorem key_rel (n₀ g len cap : Nat) (a : Option Addr) (zs : List Int) (c : Cu) (w : World) (hs : DrawSt n₀ w g a len cap zs c.i c.h) :
    Calls Tryd.prog 59 #[.pointer (some ⟨g, 0, none⟩)] w fun e w' => ∃ (k : K2) (c' : Cu), e = .returned (kv k) ∧ (1 ≤ k.1 ∧ k.1 ≤ 5 ∧ 1 ≤ k.2 ∧ k.2 ≤ 2) ∧ KeyRel zs len c k c' ∧ Drew n₀ g a len cap zs c' w w' := by
  have hd0 : Drew n₀ g a len cap zs c w w := ⟨hs, Below.refl _ _, World.grownBy.refl _ _⟩
  have hgl := hs.lt
  go_enter Tryd.func59, Tryd.ntmps59
  go_wp2_with fail
  have hd1 := hd0.alloc (.cells #[.int .i64 0, .int .i64 0] 32)
  refine (below_any n₀ g len cap a zs c 5 _ hd1.st (by omega)).mono ?_
  rintro e w1 ⟨rfl, hd⟩
  have hbd := belowF_bd zs len c 5
  generalize hbq : belowF zs len c 5 = b at *
  obtain ⟨x, c1⟩ := b
  have HQ1 := Lib.hid hbq
  clear hbq
  dsimp only at *
  go_wp2_with fail
  refine (below_any n₀ g len cap a zs c1 2 _ hd.st (by omega)).mono ?_
  rintro e w2 ⟨rfl, hd2⟩
  have hbd2 := belowF_bd zs len c1 2
  generalize hbq : belowF zs len c1 2 = b at *
  obtain ⟨y, c2⟩ := b
  have HQ2 := Lib.hid hbq
  clear hbq
  dsimp only at *
  have hD := hd1.trans (hd.trans hd2)
  have ew : wrap64 (1 + x) = 1 + x := IntWalk.wrap64_in _ (by omega)
  have ew2 : wrap64 (1 + y) = 1 + y := IntWalk.wrap64_in _ (by omega)
  have hbk := fun w => build_key (1 + x) (1 + y) w
  have hb1 := hd2.keeps (hd.keeps (heap_alloc_new w (.cells #[.int .i64 0, .int .i64 0] 32)) (by omega)) (by omega)
  obtain ⟨s1, s2, s3, s4, s5, s6⟩ := two_set (.int .i64 0) (.int .i64 0) (.int .i64 (1 + x)) (.int .i64 (1 + y)) hb1
  have hG := hD.grow hgl (grown_two w2 w.heap.size (.int .i64 (1 + x)) (.int .i64 (1 + y))) (fun b e => by cases e; omega)
  have HG := Lib.hid hG; have S56 := Lib.hid (And.intro s5 s6)
  have hsz : w.heap.size < w2.heap.size := (Array.getElem?_eq_some_iff.1 hb1).1
  clear hD hd hd1 hd2 hG s5 s6 hb1 hd0 hs
  go_wp2
  refine bodyPost_ret (v := kv (1 + x, 1 + y)) ?_ rfl ⟨(1 + x, 1 + y), c2, rfl, by dsimp only; omega, ⟨x, c1, y, HQ1.out, HQ2.out, rfl⟩, HG.out⟩
  rw [results_cell (p := 2) (ty := 32) (by kernel_rfl)]
  have hl := key_load (k := (1 + x, 1 + y)) (o := 0) S56.out (by simp [World.setCell]; omega) (Below.refl _ _)
  simp [asAddr, Result.andThen, hl]
set_option maxRecDepth 100000 in
set_option maxHeartbeats 2000000 in
theorem l04reading_rel (n₀ g len cap : Nat) (a : Option Addr) (zs : List Int) (c : Cu) (w : World) (hs : DrawSt n₀ w g a len cap zs c.i c.h) :
    Calls Tryd.prog 50 #[.pointer (some ⟨g, 0, none⟩)] w fun e w' => ∃ (r : R3) (c' : Cu), e = .returned (rv r) ∧ (1 ≤ r.1.1 ∧ r.1.1 ≤ 5 ∧ 1 ≤ r.1.2 ∧ r.1.2 ≤ 2) ∧ r.2.size = 4 ∧ ReadRel zs len c r c' ∧ Drew n₀ g a len cap zs c' w w' := by
  have hd0 : Drew n₀ g a len cap zs c w w := ⟨hs, Below.refl _ _, World.grownBy.refl _ _⟩
  have hgl := hs.lt
  go_enter Tryd.func50, Tryd.ntmps50
  go_wp2_with fail
  have hd1 := hd0.alloc (.cells #[.int .i64 0, .int .i64 0, .string ⟨#[]⟩] 34)
  refine (key_rel n₀ g len cap a zs c _ hd1.st).mono ?_
  rintro e w1 ⟨⟨n, s⟩, c1, rfl, hk, hkr, hd⟩
  have HKR := Lib.hid hkr
  clear hkr
  dsimp only at hk
  have HD := Lib.hid (hd1.trans hd)
  have HR1 := Lib.hid (hd.keeps (heap_alloc_new w (.cells #[.int .i64 0, .int .i64 0, .string ⟨#[]⟩] 34)) (by omega))
  have hl1 : w.heap.size < w1.heap.size := (Array.getElem?_eq_some_iff.1 HR1.out).1
  have HT := Lib.hid (fun w => truth_any (n, s) w (by dsimp only; omega) (by dsimp only; omega))
  have htr : (truthV (n, s)).size = 4 := truthV_size _ (by dsimp only; omega) (by dsimp only; omega)
  generalize htq : truthV (n, s) = tr at *
  have HTQ := Lib.hid htq
  clear htq
  unfold kv at *
  dsimp only at *
  have hbk := fun w => run_build (P := Tryd.prog) w 34 #[(0, .agg #[.int .i64 n, .int .i64 s]), (1, .string tr)] (#[.int .i64 n, .int .i64 s, .string tr]) (by kernel_rfl)
  clear hd1 hd hd0
  go_wp2_with fail
  go_region_law (first
    | (go_simp
       go_at_call 62
       refine (HT.out _).mono ?_
       rintro e w2 ⟨rfl, hb2⟩
       dsimp only
       first
         | (have h42 := d4_call2 (k := .cells #[.int .i64 n, .int .i64 s] 32) (z := .cells #[.int .i64 0, .int .i64 0, .string ⟨#[]⟩] 34) HD.out hgl HR1.out hb2
            obtain ⟨⟨hD3, hk3, hr3⟩, hz3⟩ := h42
            obtain ⟨z0, z1, z2, f0, f1, f2⟩ := row3_of hz3
            have HZ3 := Lib.hid hz3
            have hl4 : w1.heap.size + 1 < w2.heap.size := (Array.getElem?_eq_some_iff.1 hz3).1
            clear hz3)
         | (have h41 := d4_call1 (k := .cells #[.int .i64 n, .int .i64 s] 32) HD.out hgl HR1.out hb2
            obtain ⟨hD3, hk3, hr3⟩ := h41)
       have y0 : w2.cell? ⟨w1.heap.size, 0, none⟩ = some (.int .i64 n) := by rw [cell_of_row _ _ 0 _ _ _ hk3]; rfl
       have y1 : w2.cell? ⟨w1.heap.size, 1, none⟩ = some (.int .i64 s) := by rw [cell_of_row _ _ 1 _ _ _ hk3]; rfl
       have hl3 : w1.heap.size < w2.heap.size := (Array.getElem?_eq_some_iff.1 hk3).1
       have HD3 := Lib.hid hD3; have HR3 := Lib.hid hr3
       clear hb2 hk3 hD3 hr3))
  all_goals
    clear HD HR1 HT hbk
    first
      | (have hF := d4_b (n := n) (s := s) (tr := tr) HD3.out hgl HR3.out HZ3.out (by omega)
         generalize ((w2.setCell ⟨w1.heap.size + 1, 0, none⟩ (.int .i64 n)).setCell ⟨w1.heap.size + 1, 1, none⟩ (.int .i64 s)).setCell ⟨w1.heap.size + 1, 2, none⟩ (.string tr) = W3 at *
         clear hl3 hl4 HD3 HR3 HZ3 z0 z1 z2 f0 f1 f2 y0 y1
         generalize w1.heap.size + 1 = b4 at *)
      | (have hF := d4_a (n := n) (s := s) (tr := tr) HD3.out HR3.out
         generalize w2.alloc (.cells #[.int .i64 n, .int .i64 s, .string tr] 34) = W3 at *
         generalize w2.heap.size = b4 at *
         clear hl3 HD3 HR3 y0 y1)
    have HF := Lib.hid hF
    clear hF
    go_wp2_with fail
    refine (once_any n₀ g len cap a zs c1 6 _ HF.out.drew.st (by omega)).mono ?_
    rintro e w4 ⟨rfl, hd4⟩
    have HD4 := Lib.hid (HF.out.drew.trans hd4)
    have hg3 : g < b4 := by have := HF.out.lt; omega
    have hrow4 := hd4.keeps HF.out.row (by omega)
    have HRES4 := Lib.hid (hd4.keeps HF.out.res (by omega))
    have HROW4 := Lib.hid hrow4
    have HLT := Lib.hid HF.out.lt
    generalize hc2q : (belowF zs len c1 6).2 = c2 at *
    generalize hboq : ((belowF zs len c1 6).1 == 0) = bo at *
    have HC2 := Lib.hid hc2q
    have HBO := Lib.hid hboq
    clear hc2q hboq
    clear HF hd4
    cases bo with
    | false =>
      obtain ⟨x0, x1, x2, -, -, -⟩ := row3_of HROW4.out
      obtain ⟨r0, r1, r2, f0, f1, f2⟩ := row3_of HRES4.out
      have hfin := set3 (.int .i64 n) (.int .i64 s) (.string tr) HRES4.out
      have hD5 := HD4.out.grow hgl (grown3 w4 w.heap.size (.int .i64 n) (.int .i64 s) (.string tr)) (fun j e => by cases e; omega)
      have L2 := Lib.hid (run_loadVar_row (P := Tryd.prog) _ w.heap.size 34 34 #[.int .i64 n, .int .i64 s, .string tr] (0, 0) _ hfin Tryd.underlying34 rfl (by kernel_rfl))
      have HD5 := Lib.hid hD5
      have hb4 := HLT.out
      clear hfin hD5 hrow4
      go_wp2_with fail
      refine bodyPost_ret (v := .agg #[.int .i64 n, .int .i64 s, .string tr]) ?_ rfl ⟨((n, s), tr), c2, rfl, hk, htr, ⟨(n, s), c1, HKR.out, .inl ⟨HBO.out, by rw [HTQ.out], HC2.out.symm⟩⟩, HD5.out⟩
      rw [results_cell (p := 2) (ty := 34) (by kernel_rfl)]
      simp [asAddr, Result.andThen, L2.out]
    | true =>
      have P3 := Lib.hid (pick_any n₀ g len cap w4.heap.size 3 a zs c2 pick3 (w4.alloc (.cells #[.string ⟨#[97, 98, 99, 100]⟩, .string ⟨#[0, 0, 0, 0]⟩, .string ⟨#[255, 255, 255, 255]⟩] 9)) (HD4.out.alloc _).st (by omega) (by omega) rfl (by have := HD4.out.st.lt; omega) (by
        intro k hk
        rw [lit_cell]
        rcases (by omega : k = 0 ∨ k = 1 ∨ k = 2) with rfl | rfl | rfl <;> rfl))
      have hps := pick3_size (belowF zs len c2 (3 : Nat)).1.toNat (by have := belowF_bd zs len c2 (3 : Nat); omega)
      generalize htpq : pick3[(belowF zs len c2 (3 : Nat)).1.toNat]?.getD ByteArray.empty = tp at *
      generalize hc3q : (belowF zs len c2 (3 : Nat)).2 = c3 at *
      have HTP := Lib.hid htpq
      have HC3 := Lib.hid hc3q
      clear htpq hc3q
      have hb4l := (Array.getElem?_eq_some_iff.1 HROW4.out).1
      clear hrow4
      go_wp2_with fail
      refine P3.out.mono ?_
      rintro e w5 ⟨rfl, hd5⟩
      have hrow5 := hd5.keeps ((Below.heap_alloc w4 _ _ hb4l).trans HROW4.out) (by omega)
      have hres5 := hd5.keeps ((Below.heap_alloc w4 _ _ (Array.getElem?_eq_some_iff.1 HRES4.out).1).trans HRES4.out) (by omega)
      have HD5 := Lib.hid ((HD4.out.alloc _).trans hd5)
      obtain ⟨x0, x1, x2, f0, f1, f2⟩ := row3_of hrow5
      obtain ⟨r0, r1, r2, g0, g1, g2⟩ := row3_of hres5
      have hrow6 := set_cellsD (j := 2) (.string tp) hrow5
      have hne : w.heap.size ≠ b4 := by have := HLT.out; omega
      have hres6 : (w5.setCell ⟨b4, 2, none⟩ (.string tp)).heap[w.heap.size]? = _ := (Below.heap_setCell _ _ _ _ hne).trans hres5
      have hfin := set3 (.int .i64 n) (.int .i64 s) (.string tp) hres6
      have hD7 := HD5.out.grow hgl (grownT (Lib.grownBy_setCell w5 b4 2 (.string tp)) (World.grownBy.refl _ _)) (fun j e => by cases e; have := HLT.out; omega)
      have hD8 := hD7.grow hgl (grown3 (w5.setCell ⟨b4, 2, none⟩ (.string tp)) w.heap.size (.int .i64 n) (.int .i64 s) (.string tp)) (fun j e => by cases e; omega)
      have L2 := Lib.hid (run_loadVar_row (P := Tryd.prog) _ w.heap.size 34 34 #[.int .i64 n, .int .i64 s, .string tp] (0, 0) _ hfin Tryd.underlying34 rfl (by kernel_rfl))
      have HD8 := Lib.hid hD8
      have hb4 := HLT.out
      clear hfin hD8 hD7 hrow6 hres6 hrow5 hres5 hd5 P3 HD4 HD5
      go_wp2_with fail
      refine bodyPost_ret (v := .agg #[.int .i64 n, .int .i64 s, .string tp]) ?_ rfl ⟨((n, s), tp), c3, rfl, hk, hps, ⟨(n, s), c1, HKR.out, .inr ⟨HBO.out, by rw [HC2.out, HTP.out], by rw [HC2.out, HC3.out]⟩⟩, HD8.out⟩
      rw [results_cell (p := 2) (ty := 34) (by kernel_rfl)]
      simp [asAddr, Result.andThen, L2.out]
def OddRel (zs : List Int) (len : Nat) (c : Cu) (r : R3) (c' : Cu) : Prop := ∃ r1 c1, ReadRel zs len c r1 c1 ∧
  (((belowF zs len c1 6).1 = 0 ∧ r = ((oddF zs len (belowF zs len c1 6).2).1, r1.2) ∧ c' = (oddF zs len (belowF zs len c1 6).2).2) ∨
   ((belowF zs len c1 6).1 = 1 ∧ r = (r1.1, pick3o[(belowF zs len (belowF zs len c1 6).2 (3 : Nat)).1.toNat]?.getD ByteArray.empty) ∧ c' = (belowF zs len (belowF zs len c1 6).2 (3 : Nat)).2) ∨
   (¬ (belowF zs len c1 6).1 = 0 ∧ ¬ (belowF zs len c1 6).1 = 1 ∧ r = r1 ∧ c' = (belowF zs len c1 6).2))
theorem OddRel.det {zs : List Int} {len : Nat} {c : Cu} {r r2 : R3} {c' c2' : Cu} (h : OddRel zs len c r c') (h2 : OddRel zs len c r2 c2') : r = r2 := by
  obtain ⟨k, c1, hk, h⟩ := h
  obtain ⟨k2, c12, hk2, h2⟩ := h2
  obtain ⟨rfl, rfl⟩ := hk.det hk2
  rcases h with ⟨a, rfl, rfl⟩ | ⟨a, rfl, rfl⟩ | ⟨a, a2, rfl, rfl⟩ <;> rcases h2 with ⟨b, rfl, rfl⟩ | ⟨b, rfl, rfl⟩ | ⟨b, b2, rfl, rfl⟩ <;> first | rfl | omega
set_option maxRecDepth 100000 in
set_option maxHeartbeats 2000000 in
theorem l04odd_rel (n₀ g len cap : Nat) (a : Option Addr) (zs : List Int) (c : Cu) (w : World) (hs : DrawSt n₀ w g a len cap zs c.i c.h) :
    Calls Tryd.prog 31 #[.pointer (some ⟨g, 0, none⟩)] w fun e w' => ∃ (r : R3) (c' : Cu), e = .returned (rv r) ∧ (-5 ≤ r.1.1 ∧ r.1.1 ≤ 100 ∧ -5 ≤ r.1.2 ∧ r.1.2 ≤ 100) ∧ r.2.size ≤ 5 ∧ OddRel zs len c r c' ∧ Drew n₀ g a len cap zs c' w w' := by
  have hd0 : Drew n₀ g a len cap zs c w w := ⟨hs, Below.refl _ _, World.grownBy.refl _ _⟩
  have hgl := hs.lt
  go_enter Tryd.func31, Tryd.ntmps31
  go_wp2_with fail
  have hd1 := hd0.alloc (.cells #[.int .i64 0, .int .i64 0, .string ⟨#[]⟩] 34)
  refine (l04reading_rel n₀ g len cap a zs c _ hd1.st).mono ?_
  rintro e w1 ⟨⟨⟨n, s⟩, y⟩, c1, rfl, hk, hy, hrr, hd⟩
  have HRR := Lib.hid hrr
  clear hrr
  dsimp only at hk hy
  have hres := hd.keeps (heap_alloc_new w (.cells #[.int .i64 0, .int .i64 0, .string ⟨#[]⟩] 34)) (by omega)
  have H1 : Hid (O4 n₀ g a len cap zs c1 w (w1.alloc (.cells #[.int .i64 n, .int .i64 s, .string y] 34)) w1.heap.size ((n, s), y)) :=
    ⟨(hd1.trans hd).alloc _, heap_alloc_new w1 _, (Below.heap_alloc _ _ _ (Array.getElem?_eq_some_iff.1 hres).1).trans hres, (Array.getElem?_eq_some_iff.1 hres).1⟩
  unfold rv
  dsimp only
  clear hd1 hd hd0 hres hs
  go_wp2_with fail
  generalize w1.alloc (.cells #[.int .i64 n, .int .i64 s, .string y] 34) = W at *
  generalize w1.heap.size = b4 at *
  refine (below_any n₀ g len cap a zs c1 6 _ H1.out.drew.st (by omega)).mono ?_
  rintro e w2 ⟨rfl, hd2⟩
  have H2 := Lib.hid (H1.out.next hgl hd2)
  generalize hc2q : (belowF zs len c1 6).2 = c2 at *
  generalize hxq : (belowF zs len c1 6).1 = x at *
  have HC2 := Lib.hid hc2q
  have HXQ := Lib.hid hxq
  clear hc2q hxq
  clear H1 hd2
  have hlt := H2.out.lt
  by_cases hx0 : x = 0
  · subst hx0
    go_wp2_with fail
    refine (odd_funR n₀ g len cap a zs c2 _ H2.out.drew.st).mono ?_
    rintro e w3 ⟨rfl, hk3, hd3⟩
    generalize hoq : oddF zs len c2 = oq at *
    obtain ⟨⟨p, q⟩, c3⟩ := oq
    have HOQ := Lib.hid hoq
    clear hoq
    dsimp only at hk3 hd3 ⊢
    have H3 := H2.out.next hgl hd3
    obtain ⟨a0, a1, a2, a3, a4, a5⟩ := row3_of H3.row
    have H4 := Lib.hid ((H3.key hgl p q).end hgl)
    have H3 := Lib.hid H3
    obtain ⟨⟨b0, b1, b2, -, -, -⟩, ⟨e0, e1, e2, e3, e4, e5⟩, -, -⟩ := H4.out
    obtain ⟨d0, d1, d2, d3, d4, d5⟩ := row3_of H3.out.res
    unfold kv
    dsimp only at *
    clear hd3 H2 H3
    go_wp2_with fail
    refine bodyPost_ret (v := .agg #[.int .i64 p, .int .i64 q, .string y]) ?_ rfl ⟨((p, q), y), c3, rfl, hk3, by dsimp only; omega, ⟨((n, s), y), c1, HRR.out, .inl ⟨HXQ.out, by rw [HC2.out, HOQ.out], by rw [HC2.out, HOQ.out]⟩⟩, H4.out.fin⟩
    rw [results_cell (p := 2) (ty := 34) (by kernel_rfl)]
    have hl := H4.out.load
    simp [asAddr, Result.andThen, hl]
  · have f0 : (x == 0) = false := by simpa using hx0
    by_cases hx1 : x = 1
    · subst hx1
      have P3 := Lib.hid (pick_any n₀ g len cap w2.heap.size 3 a zs c2 pick3o (w2.alloc (.cells #[.string ⟨#[]⟩, .string ⟨#[97, 98, 99]⟩, .string ⟨#[97, 98, 99, 100, 101]⟩] 9)) (H2.out.drew.alloc _).st (by omega) (by omega) rfl (by have := H2.out.drew.st.lt; omega) (by
        intro k hk
        rw [lit_cell]
        rcases (by omega : k = 0 ∨ k = 1 ∨ k = 2) with rfl | rfl | rfl <;> rfl))
      have hps := pick3o_size (belowF zs len c2 (3 : Nat)).1.toNat
      generalize htpq : pick3o[(belowF zs len c2 (3 : Nat)).1.toNat]?.getD ByteArray.empty = tp at *
      generalize hc3q : (belowF zs len c2 (3 : Nat)).2 = c3 at *
      have HTP := Lib.hid htpq
      have HC3 := Lib.hid hc3q
      clear htpq hc3q
      go_wp2_with fail
      refine P3.out.mono ?_
      rintro e w3 ⟨rfl, hd3⟩
      have H3 := (H2.out.alloc (.cells #[.string ⟨#[]⟩, .string ⟨#[97, 98, 99]⟩, .string ⟨#[97, 98, 99, 100, 101]⟩] 9)).next hgl hd3
      obtain ⟨a0, a1, a2, a3, a4, a5⟩ := row3_of H3.row
      have H4 := Lib.hid ((H3.txt hgl tp).end hgl)
      have H3 := Lib.hid H3
      obtain ⟨⟨b0, b1, b2, -, -, -⟩, ⟨e0, e1, e2, e3, e4, e5⟩, -, -⟩ := H4.out
      obtain ⟨d0, d1, d2, d3, d4, d5⟩ := row3_of H3.out.res
      dsimp only at *
      clear hd3 H2 H3 P3
      go_wp2_with fail
      refine bodyPost_ret (v := .agg #[.int .i64 n, .int .i64 s, .string tp]) ?_ rfl ⟨((n, s), tp), c3, rfl, by dsimp only; omega, hps, ⟨((n, s), y), c1, HRR.out, .inr (.inl ⟨HXQ.out, by rw [HC2.out, HTP.out], by rw [HC2.out, HC3.out]⟩)⟩, H4.out.fin⟩
      rw [results_cell (p := 2) (ty := 34) (by kernel_rfl)]
      have hl := H4.out.load
      simp [asAddr, Result.andThen, hl]
    · have f1 : (x == 1) = false := by simpa using hx1
      have H4 := Lib.hid (H2.out.end hgl)
      obtain ⟨⟨b0, b1, b2, -, -, -⟩, ⟨e0, e1, e2, e3, e4, e5⟩, -, -⟩ := H4.out
      dsimp only at *
      clear H2
      go_wp2_with fail
      refine bodyPost_ret (v := .agg #[.int .i64 n, .int .i64 s, .string y]) ?_ rfl ⟨((n, s), y), c2, rfl, by dsimp only; omega, by dsimp only; omega, ⟨((n, s), y), c1, HRR.out, .inr (.inr ⟨by rw [HXQ.out]; exact hx0, by rw [HXQ.out]; exact hx1, rfl, HC2.out.symm⟩)⟩, H4.out.fin⟩
      rw [results_cell (p := 2) (ty := 34) (by kernel_rfl)]
      have hl := H4.out.load
      simp [asAddr, Result.andThen, hl]
end Go.Proofs.YtnknfmjpkphbpaaDoor
/- The program's chapter 4, walked: the bytes of a load. -/
namespace Go.Proofs.YtnknfmjpkphbpaaDoor
open Go.ChangeShapes Go.WideShapes Go.ChangeAt Go.RowKit Go.BigFrame
set_option linter.unusedVariables false

/-- four bytes as an array's value -/
def arr4 (y : ByteArray) : Value := .agg (Lib.byteCells y.data.toList).toArray
theorem four_bytes (y : ByteArray) (h : y.size = 4) : ∃ a b c d : UInt8, y.data.toList = [a, b, c, d] := by
  have hl : y.data.toList.length = 4 := by simpa using h
  match hm : y.data.toList, hl with
  | [a, b, c, d], _ => exact ⟨a, b, c, d, rfl⟩
theorem set_cellsR {w : World} {B j : Nat} {cs : Array Value} {t : TypeId} (u : Value) (h : w.heap[B]? = some (.cells cs t (0, 0))) : (w.setCell ⟨B, j, none⟩ u).heap[B]? = some (.cells (cs.setIfInBounds j u) t (0, 0)) := by
  obtain ⟨hlt, hk⟩ := Array.getElem?_eq_some_iff.1 h
  show (w.heap.modify B _)[B]? = _
  rw [Array.getElem?_eq_getElem (by rw [Array.size_modify]; exact hlt), Array.getElem_modify_self, hk]
  rfl
set_option maxRecDepth 100000 in
theorem iloadbytes_any (y : ByteArray) (w : World) (hy : y.size = 4) : Calls Tryd.prog 25 #[.string y] w fun e w' => e = .returned (arr4 y) ∧ Below w.heap.size w w' := by
  obtain ⟨a, b, c, d, hd⟩ := four_bytes y hy
  have hsz : (Tryd.prog.info? 5).map (·.size) = some 1 := by kernel_rfl
  have hW : (((w.alloc (.cells #[.int .u8 0, .int .u8 0, .int .u8 0, .int .u8 0] 49)).alloc (.cells #[.int .u8 0, .int .u8 0, .int .u8 0, .int .u8 0] 49))).heap[w.heap.size + 1]? = some (.cells #[.int .u8 0, .int .u8 0, .int .u8 0, .int .u8 0] 49) := by
    have := heap_alloc_new (w.alloc (.cells #[.int .u8 0, .int .u8 0, .int .u8 0, .int .u8 0] 49)) (.cells #[.int .u8 0, .int .u8 0, .int .u8 0, .int .u8 0] 49)
    simpa using this
  have hB : Below w.heap.size w ((w.alloc (.cells #[.int .u8 0, .int .u8 0, .int .u8 0, .int .u8 0] 49)).alloc (.cells #[.int .u8 0, .int .u8 0, .int .u8 0, .int .u8 0] 49)) := ((Below.refl _ _).alloc (Nat.le_refl _) _).alloc (by simp) _
  have hF : ((w.alloc (.cells #[.int .u8 0, .int .u8 0, .int .u8 0, .int .u8 0] 49)).alloc (.cells #[.int .u8 0, .int .u8 0, .int .u8 0, .int .u8 0] 49)).heap[w.heap.size]? = some (.cells #[.int .u8 0, .int .u8 0, .int .u8 0, .int .u8 0] 49) := heap_first _ _ _
  have hr := fun ty => Lib.run_copy_row_string (P := Tryd.prog) ((w.alloc (.cells #[.int .u8 0, .int .u8 0, .int .u8 0, .int .u8 0] 49)).alloc (.cells #[.int .u8 0, .int .u8 0, .int .u8 0, .int .u8 0] 49)) 22 9 ty 5 (w.heap.size + 1) 0 4 4 y #[.int .u8 0, .int .u8 0, .int .u8 0, .int .u8 0] 49 Tryd.underlying22 hsz hW (by omega) (by simp; omega)
  rw [show (List.take 0 (#[Value.int .u8 0, .int .u8 0, .int .u8 0, .int .u8 0] : Array Value).toList ++ Lib.byteCells y.data.toList ++ List.drop (0 + y.size) (#[Value.int .u8 0, .int .u8 0, .int .u8 0, .int .u8 0] : Array Value).toList).toArray = #[.int .u8 a.toNat, .int .u8 b.toNat, .int .u8 c.toNat, .int .u8 d.toNat] by rw [hy, hd]; rfl] at hr
  have hB2 := below_setRow hB (show w.heap.size ≤ w.heap.size + 1 by omega) #[.int .u8 a.toNat, .int .u8 b.toNat, .int .u8 c.toNat, .int .u8 d.toNat]
  have hS := setRow_heap _ (w.heap.size + 1) _ #[.int .u8 a.toNat, .int .u8 b.toNat, .int .u8 c.toNat, .int .u8 d.toNat] 49 (0, 0) hW
  have hF2 : (World.setRow ((w.alloc (.cells #[.int .u8 0, .int .u8 0, .int .u8 0, .int .u8 0] 49)).alloc (.cells #[.int .u8 0, .int .u8 0, .int .u8 0, .int .u8 0] 49)) (w.heap.size + 1) #[.int .u8 a.toNat, .int .u8 b.toNat, .int .u8 c.toNat, .int .u8 d.toNat]).heap[w.heap.size]? = some (.cells #[.int .u8 0, .int .u8 0, .int .u8 0, .int .u8 0] 49) := by
    rw [setRow_other _ _ _ _ (by omega)]; exact hF
  generalize World.setRow ((w.alloc (.cells #[.int .u8 0, .int .u8 0, .int .u8 0, .int .u8 0] 49)).alloc (.cells #[.int .u8 0, .int .u8 0, .int .u8 0, .int .u8 0] 49)) (w.heap.size + 1) #[.int .u8 a.toNat, .int .u8 b.toNat, .int .u8 c.toNat, .int .u8 d.toNat] = W2 at *
  have c0 : W2.cell? ⟨w.heap.size + 1, 0, none⟩ = some (.int .u8 a.toNat) := by rw [cell_of_row _ _ 0 _ _ _ hS]; rfl
  have c1 : W2.cell? ⟨w.heap.size + 1, 1, none⟩ = some (.int .u8 b.toNat) := by rw [cell_of_row _ _ 1 _ _ _ hS]; rfl
  have c2 : W2.cell? ⟨w.heap.size + 1, 2, none⟩ = some (.int .u8 c.toNat) := by rw [cell_of_row _ _ 2 _ _ _ hS]; rfl
  have c3 : W2.cell? ⟨w.heap.size + 1, 3, none⟩ = some (.int .u8 d.toNat) := by rw [cell_of_row _ _ 3 _ _ _ hS]; rfl
  have d0 : W2.cell? ⟨w.heap.size, 0, none⟩ = some (.int .u8 0) := by rw [cell_of_row _ _ 0 _ _ _ hF2]; rfl
  have d1 : W2.cell? ⟨w.heap.size, 1, none⟩ = some (.int .u8 0) := by rw [cell_of_row _ _ 1 _ _ _ hF2]; rfl
  have d2 : W2.cell? ⟨w.heap.size, 2, none⟩ = some (.int .u8 0) := by rw [cell_of_row _ _ 2 _ _ _ hF2]; rfl
  have d3 : W2.cell? ⟨w.heap.size, 3, none⟩ = some (.int .u8 0) := by rw [cell_of_row _ _ 3 _ _ _ hF2]; rfl
  have f0 : W2.frozen? ⟨w.heap.size, 0, none⟩ = false := by simp [World.frozen?, hF2]
  have f1 : W2.frozen? ⟨w.heap.size, 1, none⟩ = false := by simp [World.frozen?, hF2]
  have f2 : W2.frozen? ⟨w.heap.size, 2, none⟩ = false := by simp [World.frozen?, hF2]
  have f3 : W2.frozen? ⟨w.heap.size, 3, none⟩ = false := by simp [World.frozen?, hF2]
  have hfin : ((((W2.setCell ⟨w.heap.size, 0, none⟩ (.int .u8 a.toNat)).setCell ⟨w.heap.size, 1, none⟩ (.int .u8 b.toNat)).setCell ⟨w.heap.size, 2, none⟩ (.int .u8 c.toNat)).setCell ⟨w.heap.size, 3, none⟩ (.int .u8 d.toNat)).heap[w.heap.size]? = some (.cells #[.int .u8 a.toNat, .int .u8 b.toNat, .int .u8 c.toNat, .int .u8 d.toNat] 49) :=
    set_cellsR _ (set_cellsR _ (set_cellsR _ (set_cellsR _ hF2)))
  have hBf := (((hB2.setCell (p := ⟨w.heap.size, 0, none⟩) (Nat.le_refl _) (.int .u8 a.toNat)).setCell (p := ⟨w.heap.size, 1, none⟩) (Nat.le_refl _) (.int .u8 b.toNat)).setCell (p := ⟨w.heap.size, 2, none⟩) (Nat.le_refl _) (.int .u8 c.toNat)).setCell (p := ⟨w.heap.size, 3, none⟩) (Nat.le_refl _) (.int .u8 d.toNat)
  have L2 := run_loadVar_row (P := Tryd.prog) _ w.heap.size 49 49 #[.int .u8 a.toNat, .int .u8 b.toNat, .int .u8 c.toNat, .int .u8 d.toNat] (0, 0) _ hfin Tryd.underlying49 rfl (by kernel_rfl)
  have L2 := Lib.hid L2; have HBF := Lib.hid hBf; clear hfin hBf hB2 hB hF hW hF2 hS hsz
  go_enter Tryd.func25, Tryd.ntmps25
  go_wp2_with (at_builtin; refine Lib.wpList_copy_run _ rfl (.tmp 4) (.tmp 5) 22 9 rfl _ _ rfl rfl (hr _) ?_)
  refine bodyPost_ret (v := .agg #[.int .u8 a.toNat, .int .u8 b.toNat, .int .u8 c.toNat, .int .u8 d.toNat]) ?_ rfl ⟨by unfold arr4; rw [hd]; rfl, HBF.out⟩
  rw [results_cell (p := 2) (ty := 49) (by kernel_rfl)]
  simp [asAddr, Result.andThen, L2.out]
end Go.Proofs.YtnknfmjpkphbpaaDoor
/- Arrays of four bytes: held against each other. -/
namespace Go.Proofs.YtnknfmjpkphbpaaDoor
open Go.ChangeShapes Go.WideShapes Go.ChangeAt Go.RowKit Go.BigFrame
set_option linter.unusedVariables false

theorem arr_sz : ∀ w : World, (sizeOf 5).run Tryd.prog w = .ok 1 w := by
  obtain ⟨i0, h1, h2⟩ : ∃ i, Tryd.prog.info? 5 = some i ∧ i.size = 1 := by
    have h : (Tryd.prog.info? 5).map (·.size) = some 1 := by kernel_rfl
    cases hq : Tryd.prog.info? 5 with
    | none => rw [hq] at h; simp at h
    | some i => rw [hq] at h; exact ⟨i, rfl, by simpa using h⟩
  intro w
  simp [sizeOf, typeInfo, h1, h2]
theorem arr4_cell (y : ByteArray) : arr4 y = .agg (y.data.toList.map Extern.Stop.cell).toArray := rfl
theorem arr_eql (x y : ByteArray) (hx : x.size = 4) (hy : y.size = 4) (w : World) : (binOp .eql 49 (arr4 x) (arr4 y)).run Tryd.prog w = .ok (.bool (x.data.toList == y.data.toList)) w :=
  run_eql_bytes w 49 5 4 Tryd.underlying49 Tryd.underlying5 arr_sz _ _ (by simpa using hx) (by simpa using hy)
theorem arr_guard (op : BinOp) (x y : Operand) (a b : ByteArray) (w : World) : (eqGuard op 49 x y (arr4 a) (arr4 b)).run Tryd.prog w = .ok () w := by
  unfold arr4
  exact run_eqGuard_agg w op 49 x y _ _ (by kernel_rfl)
theorem arr4_lit (y : ByteArray) (h : y.size = 4) : ∃ a b c d : Int, arr4 y = .agg #[.int .u8 a, .int .u8 b, .int .u8 c, .int .u8 d] := by
  obtain ⟨a, b, c, d, hd⟩ := four_bytes y h
  exact ⟨a.toNat, b.toNat, c.toNat, d.toNat, by unfold arr4; rw [hd]; rfl⟩
end Go.Proofs.YtnknfmjpkphbpaaDoor
/- The program's chapter 5, walked: a word of keys and a load; loads by or (exclusively). -/
namespace Go.Proofs.YtnknfmjpkphbpaaDoor
open Go.ChangeShapes Go.WideShapes Go.ChangeAt Go.RowKit Go.BigFrame
set_option linter.unusedVariables false

theorem nums_cell {w : World} {b : Nat} {p q r s : UInt8} {t : TypeId} (h : w.heap[b]? = some (.cells #[.int .u8 p.toNat, .int .u8 q.toNat, .int .u8 r.toNat, .int .u8 s.toNat] t (0, 0))) :
    ∀ i, i < 4 → w.cell? ⟨b, 0 + i, none⟩ = some (.int .u8 ((numsOf [p, q, r, s]).getD i 0)) := by
  intro i hi
  rcases (by omega : i = 0 ∨ i = 1 ∨ i = 2 ∨ i = 3) with rfl | rfl | rfl | rfl <;> (rw [cell_of_row _ _ _ _ _ _ h]; rfl)
set_option maxRecDepth 100000 in
theorem icodeof_any (a : Option Addr) (n c : Nat) (y : ByteArray) (hy : y.size = 4) (w : World) :
    Calls Tryd.prog 30 #[.slice a n c, arr4 y] w fun e w' => e = .returned (.agg #[.slice a n c, .string y]) ∧ Below w.heap.size w w' := by
  obtain ⟨p, q, r, s, hd⟩ := four_bytes y hy
  have ha : arr4 y = .agg #[.int .u8 p.toNat, .int .u8 q.toNat, .int .u8 r.toNat, .int .u8 s.toNat] := by unfold arr4; rw [hd]; rfl
  have hb1 := (Below.refl w.heap.size w).alloc (Nat.le_refl _) (.cells #[.int .u8 p.toNat, .int .u8 q.toNat, .int .u8 r.toNat, .int .u8 s.toNat] 49)
  have hb2 := hb1.alloc hb1.size (.cells #[.slice a n c, .string y] 26)
  have hr3 := heap_alloc_new (w.alloc (.cells #[.int .u8 p.toNat, .int .u8 q.toNat, .int .u8 r.toNat, .int .u8 s.toNat] 49)) (.cells #[.slice a n c, .string y] 26)
  have hr1 := heap_first w (.cells #[.slice none 0 0, .string ⟨#[]⟩] 26) (.cells #[.int .u8 p.toNat, .int .u8 q.toNat, .int .u8 r.toNat, .int .u8 s.toNat] 49)
  have hr2 := heap_alloc_new (w.alloc (.cells #[.int .u8 p.toNat, .int .u8 q.toNat, .int .u8 r.toNat, .int .u8 s.toNat] 49)) (.cells #[.slice none 0 0, .string ⟨#[]⟩] 26)
  have e1 : (w.alloc (.cells #[.int .u8 p.toNat, .int .u8 q.toNat, .int .u8 r.toNat, .int .u8 s.toNat] 49)).heap.size = w.heap.size + 1 := by simp
  rw [e1] at hr2 hr3
  have hconv := run_convert_bytes_arg (P := Tryd.prog) _ 22 5 Tryd.underlying22 Tryd.underlying5 w.heap.size 0 4 4 (numsOf [p, q, r, s]) rfl (nums_cell hr1) 9 Tryd.underlying9
  rw [nums_back, show (⟨[p, q, r, s].toArray⟩ : ByteArray) = y from by rw [← hd]] at hconv
  rw [ha]
  obtain ⟨c0, c1, f0, f1⟩ := row2_of hr2
  have HF := Lib.hid (And.intro (cd_load hr3 (Below.refl _ _)) hb2)
  clear hb1 hb2 hr1 hr2 hr3 e1 ha hd
  go_enter Tryd.func30, Tryd.ntmps30
  go_wp2_with fail
  refine bodyPost_ret (v := .agg #[.slice a n c, .string y]) ?_ rfl ⟨rfl, HF.out.2⟩
  rw [results_cell (p := 4) (ty := 26) (by kernel_rfl)]
  have l2 := HF.out.1
  simp [asAddr, Result.andThen, l2]
set_option maxRecDepth 100000 in
theorem iblank_any (v : Value) (y : ByteArray) (w : World) :
    Calls Tryd.prog 29 #[.agg #[v, .string y]] w fun e w' => e = .returned (.agg #[.slice none 0 0, .string z4]) ∧ Below w.heap.size w w' := by
  have hb1 := (Below.refl w.heap.size w).alloc (Nat.le_refl _) (.cells #[v, .string y] 26)
  have hb2 := hb1.alloc hb1.size (.cells #[.slice none 0 0, .string ⟨#[]⟩] 26)
  have hr2 := heap_alloc_new (w.alloc (.cells #[v, .string y] 26)) (.cells #[.slice none 0 0, .string ⟨#[]⟩] 26)
  have e1 : (w.alloc (.cells #[v, .string y] 26)).heap.size = w.heap.size + 1 := by simp
  rw [e1] at hr2
  have HC := Lib.hid (fun w => icodeof_any none 0 0 z4 rfl w)
  have ha : arr4 z4 = .agg #[.int .u8 0, .int .u8 0, .int .u8 0, .int .u8 0] := rfl
  rw [ha] at HC
  have HB := Lib.hid hb2; have HR := Lib.hid hr2
  clear hb1 hb2 hr2 e1 ha
  go_enter Tryd.func29, Tryd.ntmps29
  go_wp2_with fail
  generalize (w.alloc (.cells #[v, .string y] 26)).alloc (.cells #[.slice none 0 0, .string ⟨#[]⟩] 26) = W at *
  refine (HC.out _).mono ?_
  rintro e w1 ⟨rfl, hb1⟩
  have hr1 := (hb1.block _ (Array.getElem?_eq_some_iff.1 HR.out).1).trans HR.out
  obtain ⟨c0, c1, f0, f1⟩ := row2_of hr1
  have hlt := (Array.getElem?_eq_some_iff.1 hr1).1
  have HF := Lib.hid (And.intro (cd_res hr1 (.slice none 0 0) z4) (below2 (HB.out.trans (hb1.mono HB.out.size)) (by omega : w.heap.size ≤ w.heap.size + 1) (.slice none 0 0) (.string z4)))
  clear HB HR HC hb1 hr1
  go_wp2_with fail
  refine bodyPost_ret (v := .agg #[.slice none 0 0, .string z4]) ?_ rfl ⟨rfl, HF.out.2⟩
  rw [results_cell (p := 2) (ty := 26) (by kernel_rfl)]
  have l2 := HF.out.1
  simp [asAddr, Result.andThen, l2]
end Go.Proofs.YtnknfmjpkphbpaaDoor
/- The program's chapter 3, walked: keys that are right, that stand ahead, that rise; whether a key is there. -/
namespace Go.Proofs.YtnknfmjpkphbpaaDoor
open Go.ChangeShapes Go.WideShapes Go.ChangeAt Go.RowKit Go.BigFrame
set_option linter.unusedVariables false

theorem ikeyok_any (k : K2) (w : World) : Calls Tryd.prog 46 #[kv k] w fun e w' => e = .returned (.bool (keyOkB k)) ∧ Below w.heap.size w w' := by
  obtain ⟨n, s⟩ := k
  unfold keyOkB kv
  dsimp only
  have hb : ∀ o, Below w.heap.size w (w.alloc o) := fun o => (Below.refl _ _).alloc (Nat.le_refl _) _
  by_cases h1 : 1 ≤ n
  · by_cases h2 : n ≤ 20
    · by_cases h3 : 1 ≤ s
      · by_cases h4 : s ≤ 99
        · go_enter Tryd.func46, Tryd.ntmps46
          go_wp2
          go_ret
          exact ⟨by simp [h1, h2, h3, h4], hb _⟩
        · go_enter Tryd.func46, Tryd.ntmps46
          go_wp2
          go_ret
          exact ⟨by simp [h1, h2, h3, h4], hb _⟩
      · go_enter Tryd.func46, Tryd.ntmps46
        go_wp2
        go_ret
        exact ⟨by simp [h1, h2, h3]; omega, hb _⟩
    · go_enter Tryd.func46, Tryd.ntmps46
      go_wp2
      go_ret
      exact ⟨by simp [h1, h2]; omega, hb _⟩
  · go_enter Tryd.func46, Tryd.ntmps46
    go_wp2
    go_ret
    exact ⟨by simp [h1]; omega, hb _⟩
theorem iahead_any (a b : K2) (w : World) : Calls Tryd.prog 47 #[kv a, kv b] w fun e w' => e = .returned (.bool (aheadB a b)) ∧ Below w.heap.size w w' := by
  obtain ⟨n, s⟩ := a
  obtain ⟨m, t⟩ := b
  have hb : ∀ o o', Below w.heap.size w ((w.alloc o).alloc o') := fun o o' => ((Below.refl _ _).alloc (Nat.le_refl _) _).alloc (by simp) _
  by_cases h : n = m
  · have ha : aheadB (n, s) (m, t) = decide (s < t) := by unfold aheadB; rw [if_pos h]
    rw [ha]
    unfold kv
    dsimp only
    subst h
    go_enter Tryd.func47, Tryd.ntmps47
    go_wp2
    go_ret
    exact ⟨rfl, hb _ _⟩
  · have ha : aheadB (n, s) (m, t) = decide (n < m) := by unfold aheadB; rw [if_neg h]
    rw [ha]
    unfold kv
    dsimp only
    go_enter Tryd.func47, Tryd.ntmps47
    go_wp2
    go_ret
    exact ⟨rfl, hb _ _⟩
set_option maxRecDepth 100000 in
theorem ikeysok_any (v : Value) (ks : List K2) (w : World) (h : keysAt w v ks) (hs : ks.length ≤ 2000000) : Calls Tryd.prog 24 #[v] w fun e w' => e = .returned (.bool (keysOkR ks)) ∧ Below w.heap.size w w' := by
  obtain ⟨a, cap, rfl, hcap, hcells⟩ := h
  go_enter Tryd.func24, Tryd.ntmps24
  go_wp2
  go_loopw [7] (fun i wr => ∃ k : Nat, k ≤ ks.length ∧ i = .int .i64 k ∧ (List.range k).all (stepB ks) = true ∧ Below w.heap.size w wr) (fun i _ => ks.length - (intOf i).toNat)
  case atStart => exact ⟨0, Nat.zero_le _, rfl, rfl, Below.refl _ _⟩
  case round =>
    obtain ⟨k, hk, rfl, hall, hb⟩ := hrel
    by_cases hlt : k < ks.length
    · obtain ⟨g, off, rfl, hg, hcs⟩ := hcells.resolve_left (by omega)
      have z0 : (0 : Int) ≤ (k : Int) := by omega
      have z1 : (k : Int) < (ks.length : Int) := by omega
      have c1 := hcs k hlt
      have hst : stepB ks k = (keyOkB (ks.getD k (0, 0)) && (decide (k = 0) || aheadB (ks.getD (k - 1) (0, 0)) (ks.getD k (0, 0)))) := rfl
      have hsu := keysR_succ ks k
      rw [hst, hall] at hsu
      have HF := Lib.hid (fun (h : stepB ks k = false) => stepB_false hlt h)
      rw [hst] at HF
      have c0 : 0 < k → _ := fun h => hcs (k - 1) (by omega)
      rename_i wr
      have C1 : wr.cell? ⟨g, off + k * 2, none⟩ = some (.int .i64 (ks.getD k (0, 0)).1) := (hb.cell (p := ⟨g, off + k * 2, none⟩) hg).trans c1.1
      have C2 : wr.cell? ⟨g, off + k * 2 + 1, none⟩ = some (.int .i64 (ks.getD k (0, 0)).2) := (hb.cell (p := ⟨g, off + k * 2 + 1, none⟩) hg).trans c1.2
      generalize ks.getD k (0, 0) = kx at *
      obtain ⟨p, q⟩ := kx
      dsimp only at C1 C2
      have hb1 : Below w.heap.size w (wr.alloc (.cells #[.int .i64 p, .int .i64 q] 32)) := hb.alloc hb.size _
      have LK : ∀ w', Below (wr.heap.size + 1) (wr.alloc (.cells #[.int .i64 p, .int .i64 q] 32)) w' → (loadVar 32 ⟨wr.heap.size, 0, none⟩).run Tryd.prog w' = .ok (kv (p, q)) w' := fun w' hb' =>
        key_load (k := (p, q)) (w := wr.alloc (.cells #[.int .i64 p, .int .i64 q] 32)) (g := wr.heap.size) (o := 0) ⟨by simp, by simp⟩ (by simp) (by simpa using hb')
      have LK0 := Lib.hid LK; clear LK
      have HSU := Lib.hid hsu; have C0 := Lib.hid c0; clear hsu c0 hst c1 hcells hcs
      have HK := Lib.hid (fun w => ikeyok_any (p, q) w)
      have HB1 := Lib.hid hb1; clear hb1
      go_wp2_with fail
      refine (HK.out _).mono ?_
      rintro e w2 ⟨rfl, hb2⟩
      have hbw2 := HB1.out.trans (hb2.mono HB1.out.size)
      have LK : ∀ w', Below w2.heap.size w2 w' → (loadVar 32 ⟨wr.heap.size, 0, none⟩).run Tryd.prog w' = .ok (kv (p, q)) w' := fun w' hb' => LK0.out w' ((by simpa using hb2 : Below (wr.heap.size + 1) _ w2).trans (hb'.mono (by have := hb2.size; simp at this; omega)))
      clear LK0 C1 C2 HK hb2 HB1
      cases hko : keyOkB (p, q) with
      | false =>
        rw [hko] at HF
        go_wp2
        go_ret
        exact ⟨by rw [HF.out rfl]; rfl, hbw2⟩
      | true =>
        rw [hko] at HF HSU
        by_cases hk0 : k = 0
        · subst hk0
          have y0 : ¬ (0 : Int) < ((0 : Nat) : Int) := by omega
          clear HF C0
          go_wp2
          refine wp_region_below w2 (by kernel_rfl) (by kernel_rfl) (Below.refl _ _) ?_
          repeat (first
            | go_big_quiet_skip
            | (go_big_quiet_want
               first
                 | (go_big_quiet_op; go_big_quiet_on)
                 | (refine q_load 32 _ _ _ rfl rfl LK ?_; simp only [Act.put, List.setIfInBounds_toArray, List.set_cons_zero, List.set_cons_succ]; go_big_quiet_on)
                 | (go_big_quiet_op; refine ⟨_, fun _ _ => rfl, ?_⟩; go_big_quiet_on)
                 | (go_big_quiet_op; go_big_quiet_on)))
          refine wpQuiet_nil ?_
          intro w3 hb3
          have hbw3 := hbw2.trans (hb3.mono hbw2.size)
          clear LK
          go_wp2
          exact ⟨⟨1, by omega, by go_num, by rw [HSU.out]; rfl, hbw3⟩, by simp [intOf]; omega⟩
        · have ha := C0.out (by omega)
          have L2 : ∀ w', Below w2.heap.size w2 w' → (loadVar 32 ⟨g, off + (k - 1) * 2, none⟩).run Tryd.prog w' = .ok (kv (ks.getD (k - 1) (0, 0))) w' := fun w' hb' => key_load ha hg (hbw2.trans (hb'.mono hbw2.size))
          generalize ks.getD (k - 1) (0, 0) = ky at *
          have HA := Lib.hid (fun w => iahead_any ky (p, q) w)
          have d0 : decide (k = 0) = false := by simpa using hk0
          rw [d0] at HF HSU
          have y0 : (0 : Int) < (k : Int) := by omega
          have yk : 0 < k := by omega
          have y1 : (0 : Int) ≤ (k : Int) - 1 := by omega
          have y2 : (k : Int) - 1 < (ks.length : Int) := by omega
          have ew : IntKind.i64.wrap ((k : Int) - 1) = (k : Int) - 1 := IntWalk.i64_in _ (by omega)
          have et : ((k : Int) - 1).toNat = k - 1 := by omega
          clear C0 ha
          cases hah : aheadB ky (p, q) with
          | false =>
            rw [hah] at HA HF
            have HF2 := HF.out rfl
            have HF3 := Lib.hid HF2; clear HF2 HF HSU
            go_wp2
            refine wp_region_below w2 (by kernel_rfl) (by kernel_rfl) (Below.refl _ _) ?_
            repeat (first
              | go_big_quiet_skip
              | (go_big_quiet_want
                 first
                   | (go_big_quiet_op; go_big_quiet_on)
                   | (refine q_load 32 _ _ _ rfl rfl L2 ?_; simp only [Act.put, List.setIfInBounds_toArray, List.set_cons_zero, List.set_cons_succ]; go_big_quiet_on)
                   | (refine q_load 32 _ _ _ rfl rfl LK ?_; simp only [Act.put, List.setIfInBounds_toArray, List.set_cons_zero, List.set_cons_succ]; go_big_quiet_on)
                   | (go_big_quiet_op; refine ⟨_, fun _ _ => rfl, ?_⟩; go_big_quiet_on)
                   | (go_big_quiet_op; apply Exists.intro; refine ⟨fun w' hw' => ?_, ?_⟩
                      · first
                        | (with_reducible refine (HA.out w').mono ?_
                           rintro e w2 ⟨rfl, hb2⟩
                           exact ⟨rfl, hw'.trans (hb2.mono hw'.size)⟩)
                      go_big_quiet_on)))
            refine wpQuiet_nil ?_
            intro w3 hb3
            have hbw3 := hbw2.trans (hb3.mono hbw2.size)
            clear LK L2 HA
            go_wp2
            go_ret
            exact ⟨by rw [HF3.out]; rfl, hbw3⟩
          | true =>
            rw [hah] at HA HSU
            clear HF
            go_wp2
            refine wp_region_below w2 (by kernel_rfl) (by kernel_rfl) (Below.refl _ _) ?_
            repeat (first
              | go_big_quiet_skip
              | (go_big_quiet_want
                 first
                   | (go_big_quiet_op; go_big_quiet_on)
                   | (refine q_load 32 _ _ _ rfl rfl L2 ?_; simp only [Act.put, List.setIfInBounds_toArray, List.set_cons_zero, List.set_cons_succ]; go_big_quiet_on)
                   | (refine q_load 32 _ _ _ rfl rfl LK ?_; simp only [Act.put, List.setIfInBounds_toArray, List.set_cons_zero, List.set_cons_succ]; go_big_quiet_on)
                   | (go_big_quiet_op; refine ⟨_, fun _ _ => rfl, ?_⟩; go_big_quiet_on)
                   | (go_big_quiet_op; apply Exists.intro; refine ⟨fun w' hw' => ?_, ?_⟩
                      · first
                        | (with_reducible refine (HA.out w').mono ?_
                           rintro e w2 ⟨rfl, hb2⟩
                           exact ⟨rfl, hw'.trans (hb2.mono hw'.size)⟩)
                      go_big_quiet_on)))
            refine wpQuiet_nil ?_
            intro w3 hb3
            have hbw3 := hbw2.trans (hb3.mono hbw2.size)
            clear LK L2 HA
            go_wp2
            exact ⟨⟨k + 1, by omega, by go_num, by rw [HSU.out]; rfl, hbw3⟩, by simp [intOf]; omega⟩
    · obtain rfl : k = ks.length := by omega
      have HF := Lib.hid hall
      go_wp2
      go_ret
      exact ⟨by unfold keysOkR; rw [HF.out]; rfl, hb⟩
end Go.Proofs.YtnknfmjpkphbpaaDoor
/- The program's chapter 5, walked: which words are right. -/
namespace Go.Proofs.YtnknfmjpkphbpaaDoor
open Go.ChangeShapes Go.WideShapes Go.ChangeAt Go.RowKit Go.BigFrame
set_option linter.unusedVariables false

def zero4L : List UInt8 := [0, 0, 0, 0]
theorem z4_eq (y : ByteArray) : decide (y = z4) = (y.data.toList == zero4L) := by
  rw [Bool.eq_iff_iff, decide_eq_true_eq, beq_iff_eq]
  constructor
  · rintro rfl; rfl
  · intro h
    have : y = ⟨y.data.toList.toArray⟩ := by simp
    rw [this, h]; rfl
set_option maxRecDepth 100000 in
set_option maxHeartbeats 1000000 in
theorem icodeok_any (v : Value) (ks : List K2) (y : ByteArray) (w : World) (h : keysAt w v ks) (hs : ks.length ≤ 2000000) :
    Calls Tryd.prog 9 #[.agg #[v, .string y]] w fun e w' => e = .returned (.bool (codeOkB (ks, y))) ∧ Below w.heap.size w w' := by
  have hb := (Below.refl w.heap.size w).alloc (Nat.le_refl _) (.cells #[v, .string y] 26)
  have HB := Lib.hid hb
  have HX := Lib.hid (heap_alloc_new w (.cells #[v, .string y] 26))
  have HK := Lib.hid (ikeysok_any v ks (w.alloc (.cells #[v, .string y] 26)) (keysAt_below h hb) hs)
  obtain ⟨a, cap, rfl, -, -⟩ := h
  unfold codeOkB
  dsimp only
  obtain ⟨x0, x1, -, -⟩ := row2_of HX.out
  clear hb
  go_enter Tryd.func9, Tryd.ntmps9
  by_cases h1 : ks.length ≤ 6
  · have i1 : ¬ (6 : Int) < (ks.length : Int) := by omega
    have i2 : (ks.length : Int) ≤ 6 := by omega
    go_wp2_with fail
    generalize w.alloc (.cells #[.slice a ks.length cap, .string y] 26) = W at *
    refine HK.out.mono ?_
    rintro e w1 ⟨rfl, hb1⟩
    have HB1 := Lib.hid (HB.out.trans (hb1.mono HB.out.size))
    clear x0 x1
    obtain ⟨x0, x1⟩ := cd_cells HX.out hb1
    clear hb1 HK HX HB
    cases h2 : keysOkR ks with
    | false =>
      go_wp2
      go_ret
      exact ⟨by simp [h1, h2], HB1.out⟩
    | true =>
      by_cases h3 : y.size = 4
      · have i3 : (y.size : Int) = 4 := by omega
        by_cases h4 : 0 < ks.length
        · have i4 : (0 : Int) < (ks.length : Int) := by omega
          go_wp2
          go_ret
          exact ⟨by simp [h1, h2, h3, h4], HB1.out⟩
        · have i4 : ¬ (0 : Int) < (ks.length : Int) := by omega
          have AE := fun w => arr_eql y z4 h3 rfl w
          have AG := fun op x z w => arr_guard op x z y z4 w
          have HL := Lib.hid (iloadbytes_any y w1 h3)
          obtain ⟨p, q, r, s, hp⟩ := arr4_lit y h3
          rw [hp] at AE AG HL
          rw [show arr4 z4 = .agg #[.int .u8 0, .int .u8 0, .int .u8 0, .int .u8 0] from rfl] at AE AG
          rw [show z4.data.toList = zero4L from rfl, ← z4_eq] at AE
          clear hp
          generalize hbo : decide (y = z4) = bo at *
          go_wp2_with fail
          refine HL.out.mono ?_
          rintro e w2 ⟨rfl, hb2⟩
          have HB2 := Lib.hid (HB1.out.trans (hb2.mono HB1.out.size))
          clear hb2 HL x0 x1 HB1
          go_wp2
          go_ret
          exact ⟨by rw [← hbo]; simp [h1, h2, h3, h4], HB2.out⟩
      · have i3 : ¬ (y.size : Int) = 4 := by omega
        go_wp2
        go_ret
        exact ⟨by simp [h1, h2, h3], HB1.out⟩
  · have i1 : (6 : Int) < (ks.length : Int) := by omega
    have i2 : ¬ (ks.length : Int) ≤ 6 := by omega
    go_wp2
    go_ret
    exact ⟨by simp [h1], HB.out⟩
end Go.Proofs.YtnknfmjpkphbpaaDoor
/- The text of a list of keys, as a list of bytes (no program). -/
namespace Go.Proofs.YtnknfmjpkphbpaaDoor

def ktL (k : K2) : List UInt8 := Lib.itoa k.1 ++ [46] ++ Lib.itoa k.2
def keyTextL (ks : List K2) : List UInt8 := Lib.join (ks.map ktL) [44]
def tB (l : List UInt8) : ByteArray := ⟨l.toArray⟩
theorem tB_size (l : List UInt8) : (tB l).size = l.length := by simp [tB, ByteArray.size]
theorem tB_append (a b : List UInt8) : tB a ++ tB b = tB (a ++ b) := by
  apply ByteArray.ext
  simp [tB]
theorem join_tail_snoc (x sep : List UInt8) (l : List (List UInt8)) : Lib.joinTail sep (l ++ [x]) = Lib.joinTail sep l ++ sep ++ x := by
  simp [Lib.joinTail]
theorem join_snoc (l : List (List UInt8)) (x sep : List UInt8) : Lib.join (l ++ [x]) sep = if l = [] then x else Lib.join l sep ++ sep ++ x := by
  cases l with
  | nil => simp [Lib.join_one]
  | cons a r =>
    rw [if_neg (by simp), List.cons_append, Lib.join_cons, Lib.join_cons, join_tail_snoc]
    simp
theorem keyText_snoc (ks : List K2) (k : K2) : keyTextL (ks ++ [k]) = if ks = [] then ktL k else keyTextL ks ++ [44] ++ ktL k := by
  unfold keyTextL
  rw [List.map_append, List.map_cons, List.map_nil, join_snoc]
  cases ks <;> simp
/-- the numbers of a key lie in int's range -/
def kIn (k : K2) : Prop := (-9223372036854775808 ≤ k.1 ∧ k.1 ≤ 9223372036854775807) ∧ (-9223372036854775808 ≤ k.2 ∧ k.2 ≤ 9223372036854775807)
theorem ktL_len {k : K2} (h : kIn k) : (ktL k).length ≤ 43 := by
  have h1 := Lib.itoa_length_le k.1 h.1.1 h.1.2
  have h2 := Lib.itoa_length_le k.2 h.2.1 h.2.2
  unfold ktL
  simp only [List.length_append, List.length_cons, List.length_nil]
  omega
theorem keyText_len : ∀ (n : Nat) (ks : List K2), ks.length = n → (∀ k ∈ ks, kIn k) → (keyTextL ks).length ≤ 44 * ks.length
  | 0, ks, h, _ => by
    obtain rfl : ks = [] := List.length_eq_zero_iff.1 h
    simp [keyTextL, Lib.join_nil]
  | n + 1, ks, h, hk => by
    obtain ⟨r, k, rfl⟩ : ∃ r k, ks = r ++ [k] := by
      have hne : ks ≠ [] := by intro e; subst e; simp at h
      exact ⟨ks.dropLast, ks.getLast hne, (List.dropLast_concat_getLast hne).symm⟩
    have h1 := keyText_len n r (by simpa using h) (fun x hx => hk x (by simp [hx]))
    have h2 := ktL_len (hk k (by simp))
    rw [keyText_snoc]
    split
    · simp only [List.length_append, List.length_cons, List.length_nil]; omega
    · simp only [List.length_append, List.length_cons, List.length_nil]; omega
end Go.Proofs.YtnknfmjpkphbpaaDoor
/- Contracts of the library at this translation, out of the kit: one application each. -/
namespace Go.Proofs
open Go.Shelf
def Tryd.lays156_ren : Go.Shelf.Ren := ⟨fun | 156 => 33 | 165 => 53 | 166 => 54 | 169 => 55 | 240 => 67 | 241 => 68 | 276 => 72 | 277 => 73 | n => n, fun | 31 => 56 | 9 => 9 | 3 => 3 | 4 => 4 | 0 => 0 | 20 => 20 | 72 => 74 | 76 => 78 | 70 => 72 | 37 => 22 | 75 => 77 | 127 => 90 | 164 => 94 | 5 => 5 | 80 => 51 | n => n, fun | n => n⟩
theorem Tryd.lays156 : Go.Proofs.Lays.n156 Tryd.prog Tryd.lays156_ren := {
  mixed := by kernel_rfl
  f156 := Tryd.func33.trans (congrArg some (by kernel_rfl))
  f165 := Tryd.func53.trans (congrArg some (by kernel_rfl))
  f166 := Tryd.func54.trans (congrArg some (by kernel_rfl))
  f169 := Tryd.func55.trans (congrArg some (by kernel_rfl))
  f240 := Tryd.func67.trans (congrArg some (by kernel_rfl))
  f241 := Tryd.func68.trans (congrArg some (by kernel_rfl))
  f276 := Tryd.func72.trans (congrArg some (by kernel_rfl))
  f277 := Tryd.func73.trans (congrArg some (by kernel_rfl))
  t0 := Tryd.underlying0
  a0 := Tryd.isAgg0
  z0 := Tryd.sizeOf0
  v0 := Tryd.zeroValue0
  t3 := Tryd.underlying3
  a3 := Tryd.isAgg3
  z3 := Tryd.sizeOf3
  v3 := Tryd.zeroValue3
  t4 := Tryd.underlying4
  a4 := Tryd.isAgg4
  z4 := Tryd.sizeOf4
  v4 := Tryd.zeroValue4
  t9 := Tryd.underlying9
  a9 := Tryd.isAgg9
  z9 := Tryd.sizeOf9
  v9 := Tryd.zeroValue9
  t20 := Tryd.underlying20
  a20 := Tryd.isAgg20
  z20 := Tryd.sizeOf20
  v20 := Tryd.zeroValue20
  t31 := Tryd.underlying56
  a31 := Tryd.isAgg56
  z31 := Tryd.sizeOf56
  v31 := Tryd.zeroValue56
  t37 := Tryd.underlying22
  a37 := Tryd.isAgg22
  z37 := Tryd.sizeOf22
  v37 := Tryd.zeroValue22
  t70 := Tryd.underlying72
  a70 := Tryd.isAgg72
  z70 := Tryd.sizeOf72
  v70 := Tryd.zeroValue72
  t72 := Tryd.underlying74
  a72 := Tryd.isAgg74
  z72 := Tryd.sizeOf74
  v72 := Tryd.zeroValue74
  t75 := Tryd.underlying77
  a75 := Tryd.isAgg77
  z75 := Tryd.sizeOf77
  v75 := Tryd.zeroValue77
  t76 := Tryd.underlying78
  a76 := Tryd.isAgg78
  z76 := Tryd.sizeOf78
  v76 := Tryd.zeroValue78
  t127 := Tryd.underlying90
  a127 := Tryd.isAgg90
  z127 := Tryd.sizeOf90
  v127 := Tryd.zeroValue90
  t164 := Tryd.underlying94
  a164 := Tryd.isAgg94
  z164 := Tryd.sizeOf94
  v164 := Tryd.zeroValue94 }
theorem Tryd.Builder_Extra_156 : Builder.Extra Tryd.prog Tryd.lays156_ren := {
  sizeBuilder := by kernel_rfl
  liesBuilder := by kernel_rfl
  t5 := Tryd.underlying5
  a5 := Tryd.isAgg5
  z5 := Tryd.sizeOf5
  v5 := Tryd.zeroValue5
  infoByte := by kernel_rfl
  cellsByte := by kernel_rfl
  sizeByte := by kernel_rfl
  neB5 := by decide }
open Go.RowKit in
theorem Tryd.strings_Join_none (a : Option Addr) (c : Nat) (sep : ByteArray) (w : World) :
    Calls Tryd.prog 33 #[.slice a 0 c, .string sep] w fun e w' => e = .returned (.string ⟨#[]⟩) ∧ w' = w := Any.strings_Join_none Tryd.lays156 Tryd.Builder_Extra_156 a c sep w
open Go.RowKit in
theorem Tryd.strings_Join (bk o c : Nat) (xs : List ByteArray) (sep : ByteArray) (w : World) (hcells : ∀ (j : Nat) x, xs[j]? = some x → w.cell? ⟨bk, o + j, none⟩ = some (.string x)) (hbk : bk < w.heap.size) (hN : xs.length ≤ 140737488355328) (hcap : xs.length ≤ c) (hlen : (Lib.join (xs.map (·.data.toList)) sep.data.toList).length ≤ 140737488355328) :
    Calls Tryd.prog 33 #[.slice (some ⟨bk, o, none⟩) xs.length c, .string sep] w fun e w' => e = .returned (.string ⟨(Lib.join (xs.map (·.data.toList)) sep.data.toList).toArray⟩) ∧ Below w.heap.size w w' := Any.strings_Join Tryd.lays156 Tryd.Builder_Extra_156 bk o c xs sep w hcells hbk hN hcap hlen
def Tryd.laysM171_ren : Go.Shelf.Ren := ⟨fun | 171 => 52 | 243 => 66 | 246 => 71 | 283 => 75 | 284 => 76 | 285 => 77 | 286 => 78 | 129 => 80 | 317 => 79 | 318 => 81 | 319 => 82 | 320 => 83 | 337 => 84 | 338 => 85 | n => n, fun | 3 => 3 | 9 => 9 | 2 => 2 | 4 => 4 | 171 => 98 | 0 => 0 | 53 => 99 | 37 => 22 | 5 => 5 | 173 => 102 | 212 => 106 | 51 => 107 | 20 => 20 | 213 => 108 | 46 => 68 | 232 => 112 | 233 => 113 | n => n, fun | 17 => 1 | 18 => 2 | 19 => 3 | n => n⟩
theorem Tryd.laysM171 : Go.Proofs.LaysM.n171 Tryd.prog Tryd.laysM171_ren := {
  mixed := by kernel_rfl
  f129 := Tryd.func80.trans (congrArg some (by kernel_rfl))
  f171 := Tryd.func52.trans (congrArg some (by kernel_rfl))
  f243 := Tryd.func66.trans (congrArg some (by kernel_rfl))
  f246 := Tryd.func71.trans (congrArg some (by kernel_rfl))
  f283 := Tryd.func75.trans (congrArg some (by kernel_rfl))
  f284 := Tryd.func76.trans (congrArg some (by kernel_rfl))
  f285 := Tryd.func77.trans (congrArg some (by kernel_rfl))
  f286 := Tryd.func78.trans (congrArg some (by kernel_rfl))
  f317 := Tryd.func79.trans (congrArg some (by kernel_rfl))
  f318 := Tryd.func81.trans (congrArg some (by kernel_rfl))
  f319 := Tryd.func82.trans (congrArg some (by kernel_rfl))
  f320 := Tryd.func83.trans (congrArg some (by kernel_rfl))
  f337 := Tryd.func84.trans (congrArg some (by kernel_rfl))
  f338 := Tryd.func85.trans (congrArg some (by kernel_rfl))
  t0 := Tryd.underlying0
  a0 := Tryd.isAgg0
  z0 := Tryd.sizeOf0
  v0 := Tryd.zeroValue0
  t2 := Tryd.underlying2
  a2 := Tryd.isAgg2
  z2 := Tryd.sizeOf2
  v2 := Tryd.zeroValue2
  t3 := Tryd.underlying3
  a3 := Tryd.isAgg3
  z3 := Tryd.sizeOf3
  v3 := Tryd.zeroValue3
  t4 := Tryd.underlying4
  a4 := Tryd.isAgg4
  z4 := Tryd.sizeOf4
  v4 := Tryd.zeroValue4
  t5 := Tryd.underlying5
  a5 := Tryd.isAgg5
  z5 := Tryd.sizeOf5
  v5 := Tryd.zeroValue5
  t9 := Tryd.underlying9
  a9 := Tryd.isAgg9
  z9 := Tryd.sizeOf9
  v9 := Tryd.zeroValue9
  t20 := Tryd.underlying20
  a20 := Tryd.isAgg20
  z20 := Tryd.sizeOf20
  v20 := Tryd.zeroValue20
  t37 := Tryd.underlying22
  a37 := Tryd.isAgg22
  z37 := Tryd.sizeOf22
  v37 := Tryd.zeroValue22
  t46 := Tryd.underlying68
  a46 := Tryd.isAgg68
  z46 := Tryd.sizeOf68
  v46 := Tryd.zeroValue68
  t51 := Tryd.underlying107
  a51 := Tryd.isAgg107
  z51 := Tryd.sizeOf107
  v51 := Tryd.zeroValue107
  t53 := Tryd.underlying99
  a53 := Tryd.isAgg99
  z53 := Tryd.sizeOf99
  v53 := Tryd.zeroValue99
  t171 := Tryd.underlying98
  a171 := Tryd.isAgg98
  z171 := Tryd.sizeOf98
  v171 := Tryd.zeroValue98
  t173 := Tryd.underlying102
  a173 := Tryd.isAgg102
  z173 := Tryd.sizeOf102
  v173 := Tryd.zeroValue102
  t212 := Tryd.underlying106
  a212 := Tryd.isAgg106
  z212 := Tryd.sizeOf106
  v212 := Tryd.zeroValue106
  t213 := Tryd.underlying108
  a213 := Tryd.isAgg108
  z213 := Tryd.sizeOf108
  t232 := Tryd.underlying112
  a232 := Tryd.isAgg112
  z232 := Tryd.sizeOf112
  v232 := Tryd.zeroValue112
  t233 := Tryd.underlying113
  a233 := Tryd.isAgg113
  z233 := Tryd.sizeOf113
  v233 := Tryd.zeroValue113
  g17 := by kernel_rfl
  g18 := by kernel_rfl
  g19 := by kernel_rfl
  i0 := by kernel_rfl
  i2 := by kernel_rfl
  i3 := by kernel_rfl
  i4 := by kernel_rfl
  i5 := by kernel_rfl
  i9 := by kernel_rfl
  i20 := by kernel_rfl
  i37 := by kernel_rfl
  i46 := by kernel_rfl
  i51 := by kernel_rfl
  i53 := by kernel_rfl
  i171 := by kernel_rfl
  i173 := by kernel_rfl
  i212 := by kernel_rfl
  i232 := by kernel_rfl
  i233 := by kernel_rfl
  m17 := by kernel_rfl
  m18 := by kernel_rfl
  m19 := by kernel_rfl }
open Go.RowKit Go.Sort Go.Lib in
theorem Tryd.strconv_Itoa (n : Int) (h0 : -9223372036854775808 ≤ n) (h1 : n ≤ 9223372036854775807) (w : World) (htab : Lib.TabIs Tryd.prog w "internal/strconv.uint64pow10" .u64 Lib.pow10Tab) :
    Calls Tryd.prog 52 #[.int .i64 n] w fun e w' => e = .returned (.string ⟨(Lib.itoa n).toArray⟩) ∧ ∃ k os, w' = grow (w.drewN k) os := Any.strconv_Itoa Tryd.laysM171 n h0 h1 w htab
end Go.Proofs
/- Decimal digits: plain lists and numbers. -/
namespace Go.Proofs.YtnknfmjpkphbpaaDoor
open Go Go.Lib

def isDig (c : UInt8) : Bool := decide (48 ≤ c.toNat) && decide (c.toNat ≤ 57)
def valFrom (acc : Nat) (l : List UInt8) : Nat := l.foldl (fun a c => a * 10 + (c.toNat - 48)) acc

theorem dig_toNat (d : Nat) (h : d < 10) : (UInt8.ofNat (48 + d)).toNat = 48 + d := by
  simp [UInt8.toNat_ofNat']; omega
theorem dig_isDig (d : Nat) (h : d < 10) : isDig (UInt8.ofNat (48 + d)) = true := by
  simp only [isDig, dig_toNat d h]; simp; omega
theorem decDigits_lt (u : Nat) (h : u < 10) : decDigits u = [UInt8.ofNat (48 + u)] := by rw [decDigits]; simp [h]
theorem decDigits_ge (u : Nat) (h : ¬ u < 10) : decDigits u = decDigits (u / 10) ++ [UInt8.ofNat (48 + u % 10)] := by rw [decDigits]; simp [h]
theorem decDigits_all (u : Nat) : ∀ c ∈ decDigits u, isDig c = true := by
  induction u using Nat.strongRecOn with
  | _ u ih =>
    by_cases h : u < 10
    · rw [decDigits_lt u h]; intro c hc; rw [List.mem_singleton] at hc; subst hc; exact dig_isDig u h
    · rw [decDigits_ge u h]; intro c hc
      rcases List.mem_append.1 hc with hc | hc
      · exact ih (u / 10) (by omega) c hc
      · rw [List.mem_singleton] at hc; subst hc; exact dig_isDig _ (by omega)
theorem decDigits_len : ∀ (k u : Nat), 1 ≤ k → u < 10 ^ k → (decDigits u).length ≤ k := by
  intro k
  induction k with
  | zero => intro u h; omega
  | succ k ih =>
    intro u _ hu
    by_cases h : u < 10
    · rw [decDigits_lt u h]; simp
    · rw [decDigits_ge u h]
      have hk : 1 ≤ k := by
        rcases Nat.eq_zero_or_pos k with rfl | h'
        · simp at hu; omega
        · exact h'
      have := ih (u / 10) hk (by rw [Nat.pow_succ] at hu; omega)
      simp; omega
theorem decDigits_ne (u : Nat) : decDigits u ≠ [] := by
  by_cases h : u < 10
  · rw [decDigits_lt u h]; simp
  · rw [decDigits_ge u h]; simp
theorem valFrom_append (acc : Nat) (l r : List UInt8) : valFrom acc (l ++ r) = valFrom (valFrom acc l) r := by simp [valFrom, List.foldl_append]
theorem val_decDigits (u : Nat) : valFrom 0 (decDigits u) = u := by
  induction u using Nat.strongRecOn with
  | _ u ih =>
    by_cases h : u < 10
    · rw [decDigits_lt u h]; simp only [valFrom, List.foldl_cons, List.foldl_nil, dig_toNat u h]; omega
    · rw [decDigits_ge u h, valFrom_append, ih (u / 10) (by omega)]
      simp only [valFrom, List.foldl_cons, List.foldl_nil, dig_toNat (u % 10) (by omega)]; omega
theorem valFrom_lt : ∀ (l : List UInt8) (acc k : Nat), (∀ c ∈ l, isDig c = true) → acc < 10 ^ k → valFrom acc l < 10 ^ (k + l.length)
  | [], acc, k, _, h => by simpa [valFrom] using h
  | c :: r, acc, k, hd, h => by
    have hc := hd c (by simp)
    simp only [isDig, Bool.and_eq_true, decide_eq_true_eq] at hc
    have := valFrom_lt r (acc * 10 + (c.toNat - 48)) (k + 1) (fun c' hc' => hd c' (by simp [hc'])) (by rw [Nat.pow_succ]; omega)
    simp only [valFrom, List.foldl_cons, List.length_cons] at this ⊢
    rwa [show k + (r.length + 1) = k + 1 + r.length by omega]
theorem parse_val : ∀ (l : List UInt8) (acc k : Nat), (∀ c ∈ l, isDig c = true) → acc < 10 ^ k → k + l.length ≤ 18 → parseUint10 acc l = .ok (valFrom acc l)
  | [], acc, k, _, _, _ => rfl
  | c :: r, acc, k, hd, h, hk => by
    have hc := hd c (by simp)
    simp only [isDig, Bool.and_eq_true, decide_eq_true_eq] at hc
    simp only [List.length_cons] at hk
    have hp : 10 ^ k ≤ 10 ^ 17 := Nat.pow_le_pow_right (by omega) (by omega)
    have h17 : (10 : Nat) ^ 17 = 100000000000000000 := rfl
    have := parse_val r (acc * 10 + (c.toNat - 48)) (k + 1) (fun c' hc' => hd c' (by simp [hc'])) (by rw [Nat.pow_succ]; omega) (by omega)
    simp only [parseUint10]
    rw [if_pos hc, if_neg (by omega), if_neg (by omega), this]
    rfl
/-- what Atoi tells, held against its own text -/
def decOf (l : List UInt8) : Int := match atoiAll l with
  | .ok v => if 0 ≤ v ∧ v ≤ 999999999 ∧ itoa v = l then v else -1
  | _ => -1
theorem atoi_digits (l : List UInt8) (h0 : l ≠ []) (hd : ∀ c ∈ l, isDig c = true) (hl : l.length ≤ 9) : atoiAll l = .ok (valFrom 0 l : Nat) := by
  cases l with
  | nil => exact absurd rfl h0
  | cons c r =>
    have hc := hd c (by simp)
    simp only [isDig, Bool.and_eq_true, decide_eq_true_eq] at hc
    rw [atoiAll_plain c r (by omega) (by omega)]
    have hp := parse_val (c :: r) 0 0 hd (by simp) (by omega)
    have hv := valFrom_lt (c :: r) 0 0 hd (by simp)
    have : (10 : Nat) ^ (0 + (c :: r).length) ≤ 10 ^ 9 := Nat.pow_le_pow_right (by omega) (by omega)
    have h9 : (10 : Nat) ^ 9 = 1000000000 := rfl
    simp only [parseMag, List.cons_ne_nil, if_false, hp, signless]
    rw [if_neg (by omega)]
theorem decOf_digits (l : List UInt8) (h0 : l ≠ []) (hd : ∀ c ∈ l, isDig c = true) (hl : l.length ≤ 9) : decOf l = if decDigits (valFrom 0 l) = l then (valFrom 0 l : Int) else -1 := by
  have hv := valFrom_lt l 0 0 hd (by simp)
  have : (10 : Nat) ^ (0 + l.length) ≤ 10 ^ 9 := Nat.pow_le_pow_right (by omega) (by omega)
  have h9 : (10 : Nat) ^ 9 = 1000000000 := rfl
  simp only [decOf, atoi_digits l h0 hd hl, itoa_nonneg]
  by_cases h : decDigits (valFrom 0 l) = l
  · rw [if_pos ⟨by omega, by omega, h⟩, if_pos h]
  · rw [if_neg (fun x => h x.2.2), if_neg h]
theorem decOf_none (l : List UInt8) (h : ∀ v : Nat, v ≤ 999999999 → decDigits v ≠ l) : decOf l = -1 := by
  unfold decOf
  split
  · rename_i v hv
    rw [if_neg]
    rintro ⟨h1, h2, h3⟩
    obtain ⟨u, rfl⟩ : ∃ u : Nat, v = u := ⟨v.toNat, by omega⟩
    rw [itoa_nonneg] at h3
    exact h u (by omega) h3
  · rfl
theorem decOf_bad (l : List UInt8) (h : ∃ c ∈ l, isDig c = false) : decOf l = -1 := decOf_none l fun v _ e => by
  obtain ⟨c, hc, hb⟩ := h
  rw [← e] at hc
  rw [decDigits_all v c hc] at hb; cases hb
theorem decOf_long (l : List UInt8) (h : 9 < l.length) : decOf l = -1 := decOf_none l fun v hv e => by
  have := decDigits_len 9 v (by omega) (by have h9 : (10 : Nat) ^ 9 = 1000000000 := rfl; omega)
  rw [e] at this; omega
theorem decOf_nil : decOf [] = -1 := decOf_none [] fun v _ => decDigits_ne v
theorem decOf_bd (l : List UInt8) : -1 ≤ decOf l ∧ decOf l ≤ 999999999 := by
  unfold decOf
  split
  · split
    · omega
    · omega
  · omega
theorem take_snoc (s : ByteArray) (k : Nat) (h : k < s.size) : s.data.toList.take (k + 1) = s.data.toList.take k ++ [s[k]] := by
  rw [List.take_succ_eq_append_getElem (by simpa using h)]; rfl
end Go.Proofs.YtnknfmjpkphbpaaDoor
/- Decimals, written. The walks of DecText and ReadDec, both. -/
namespace Go.Proofs.YtnknfmjpkphbpaaDoor
open Go.ChangeShapes Go.WideShapes Go.ChangeAt Go.RowKit
set_option linter.unusedVariables false

theorem idec_any (n : Int) (w : World) (h1 : -9223372036854775808 ≤ n) (h2 : n ≤ 9223372036854775807) (hT : Lib.TabIs Tryd.prog w "internal/strconv.uint64pow10" IntKind.u64 Lib.pow10Tab) :
    Calls Tryd.prog 32 #[.int .i64 n] w fun e w' => e = .returned (.string ⟨(Lib.itoa n).toArray⟩) ∧ Below w.heap.size w w' := by
  have H := Lib.hid (Tryd.strconv_Itoa n h1 h2 w hT)
  clear hT
  go_enter Tryd.func32, Tryd.ntmps32
  go_wp2_with fail
  refine H.out.mono ?_
  rintro e w' ⟨rfl, k, os, rfl⟩
  have hb := Lib.below_grow w.heap.size w (Nat.le_refl _) k os
  go_wp2
  go_ret
  exact ⟨rfl, hb⟩

def digS : ByteArray := ⟨#[48, 49, 50, 51, 52, 53, 54, 55, 56, 57]⟩
theorem dig_slice (d : Nat) (h : d < 10) : digS.extract d (d + 1) = ⟨#[UInt8.ofNat (48 + d)]⟩ := by
  have : d = 0 ∨ d = 1 ∨ d = 2 ∨ d = 3 ∨ d = 4 ∨ d = 5 ∨ d = 6 ∨ d = 7 ∨ d = 8 ∨ d = 9 := by omega
  rcases this with rfl | rfl | rfl | rfl | rfl | rfl | rfl | rfl | rfl | rfl <;> decide +kernel
/-- a numeral, of which the digits of u are still to come ahead of o -/
def DecInv (N u : Nat) (o : List UInt8) : Prop := (u = 0 → o = Lib.decDigits N) ∧ (u ≠ 0 → Lib.decDigits u ++ o = Lib.decDigits N)
theorem DecInv.step {N u : Nat} {o : List UInt8} (h : DecInv N u o) (hu : u ≠ 0) : DecInv N (u / 10) (UInt8.ofNat (48 + u % 10) :: o) := by
  have h1 := h.2 hu
  by_cases hs : u < 10
  · refine ⟨fun _ => ?_, fun h0 => by omega⟩
    rw [decDigits_lt u hs] at h1
    rw [← h1, Nat.mod_eq_of_lt hs]; rfl
  · refine ⟨fun h0 => by omega, fun _ => ?_⟩
    rw [decDigits_ge u hs] at h1
    rw [← h1]; simp
def LenInv (u : Nat) (l : List UInt8) : Prop := l.length ≤ 20 ∧ (u ≠ 0 → l.length + (Lib.decDigits u).length ≤ 20)
theorem LenInv.step {u : Nat} {l : List UInt8} (h : LenInv u l) (hu : u ≠ 0) (c : UInt8) : LenInv (u / 10) (c :: l) := by
  have h1 := h.2 hu
  by_cases hs : u < 10
  · rw [decDigits_lt u hs] at h1
    simp only [List.length_cons, List.length_nil] at h1
    exact ⟨by rw [List.length_cons]; omega, fun h0 => by omega⟩
  · rw [decDigits_ge u hs] at h1
    simp only [List.length_append, List.length_cons, List.length_nil] at h1
    exact ⟨by rw [List.length_cons]; omega, fun _ => by rw [List.length_cons]; omega⟩
theorem dec_cat (d : Nat) (h : d < 10) (o : List UInt8) : digS.extract d (d + 1) ++ (⟨o.toArray⟩ : ByteArray) = ⟨(UInt8.ofNat (48 + d) :: o).toArray⟩ := by
  rw [dig_slice d h]; apply ByteArray.ext; simp

set_option maxHeartbeats 400000 in
theorem sdec_pos (N : Nat) (w : World) (h1 : 1 ≤ N) (h2 : (N : Int) ≤ 9223372036854775807) :
    Calls Tryd.prog 45 #[.int .i64 N] w fun e w' => e = .returned (.string ⟨(Lib.decDigits N).toArray⟩) ∧ w' = w := by
  have e0 : ((N : Int) == 0) = false := by rw [beq_eq_false_iff_ne]; omega
  go_enter Tryd.func45, Tryd.ntmps45
  go_wp2
  go_loop [3, 4, 5] (fun o m _ => ∃ (u : Nat) (l : List UInt8), m = .int .i64 u ∧ u ≤ N ∧ o = .string ⟨l.toArray⟩ ∧ l.length ≤ N - u ∧ Hid (DecInv N u l)) (fun _ m _ => (intOf m).toNat)
  case atStart => exact ⟨N, [], rfl, Nat.le_refl _, rfl, by simp, ⟨fun h => by omega, fun _ => by simp⟩⟩
  case round =>
    obtain ⟨u, l, rfl, hu, rfl, hl, hinv⟩ := hrel
    by_cases hz : u = 0
    · subst hz
      have HL := Lib.hid (hinv.out.1 rfl)
      go_wp2
      go_ret
      exact ⟨by rw [← HL.out]; rfl, rfl⟩
    · have hs := hinv.out.step hz
      have HS := Lib.hid hs; clear hs
      go_wp2
      exact ⟨⟨u / 10, UInt8.ofNat (48 + u % 10) :: l, by go_num, by omega, by rw [← dec_cat _ (by omega)]; rfl, by rw [List.length_cons]; omega, HS.out⟩, by simp [intOf]; omega⟩

set_option maxHeartbeats 400000 in
theorem sdec_neg (N : Nat) (w : World) (h1 : 1 ≤ N) (h2 : (N : Int) ≤ 9223372036854775808) :
    Calls Tryd.prog 45 #[.int .i64 (-(N : Int))] w fun e w' => e = .returned (.string ⟨(45 :: Lib.decDigits N).toArray⟩) ∧ w' = w := by
  have e0 : ((-(N : Int)) == 0) = false := by rw [beq_eq_false_iff_ne]; omega
  have en : (-(N : Int)) < 0 := by omega
  go_enter Tryd.func45, Tryd.ntmps45
  go_wp2
  go_loop [3, 4, 5] (fun o m _ => ∃ (u : Nat) (l : List UInt8), m = .int .i64 (-(u : Int)) ∧ u ≤ N ∧ o = .string ⟨l.toArray⟩ ∧ l.length ≤ 20 ∧ Hid (DecInv N u l ∧ LenInv u l)) (fun _ m _ => (-(intOf m)).toNat)
  case atStart => exact ⟨N, [], rfl, Nat.le_refl _, rfl, by simp, ⟨⟨fun h => by omega, fun _ => by simp⟩, ⟨by simp, fun _ => by have := decDigits_len 19 N (by omega) (by have h9 : (10 : Nat) ^ 19 = 10000000000000000000 := rfl; omega); simp; omega⟩⟩⟩
  case round =>
    obtain ⟨u, l, rfl, hu, rfl, hl, hinv⟩ := hrel
    by_cases hz : u = 0
    · subst hz
      have HL := Lib.hid (hinv.out.1.1 rfl)
      go_wp2
      go_ret
      exact ⟨by rw [← HL.out]; show Ending.returned (Value.string _) = _; congr 2, rfl⟩
    · have hs := hinv.out.1.step hz
      have HS := Lib.hid hs; clear hs
      have HL2 := Lib.hid (hinv.out.2.step hz (UInt8.ofNat (48 + u % 10)))
      have e1 : ((-(u : Int)) != 0) = true := by rw [bne_iff_ne]; omega
      have e2 : (-(u : Int)).tmod 10 = -((u : Int) % 10) := by rw [Int.neg_tmod, Int.tmod_eq_emod_of_nonneg (by omega)]
      have e3 : (-(u : Int)).tdiv 10 = -((u : Int) / 10) := by rw [Int.neg_tdiv, Int.tdiv_eq_ediv_of_nonneg (by omega)]
      by_cases hd : u % 10 = 0
      · have e4 : (u : Int) % 10 = 0 := by omega
        go_wp2
        exact ⟨⟨u / 10, UInt8.ofNat (48 + u % 10) :: l, by simp, by omega, by rw [hd]; exact congrArg Value.string (dec_cat 0 (by omega) l), HL2.out.1, HS.out, HL2.out⟩, by simp [intOf]; omega⟩
      · have e4 : 0 < (u : Int) % 10 := by omega
        go_wp2
        exact ⟨⟨u / 10, UInt8.ofNat (48 + u % 10) :: l, by simp, by omega, congrArg Value.string (dec_cat (u % 10) (by omega) l), HL2.out.1, HS.out, HL2.out⟩, by simp [intOf]; omega⟩

theorem sdec_any (n : Int) (w : World) (h1 : -9223372036854775808 ≤ n) (h2 : n ≤ 9223372036854775807) :
    Calls Tryd.prog 45 #[.int .i64 n] w fun e w' => e = .returned (.string ⟨(Lib.itoa n).toArray⟩) ∧ w' = w := by
  by_cases hneg : n < 0
  · obtain ⟨N, rfl⟩ : ∃ N : Nat, n = -(N : Int) := ⟨n.natAbs, by omega⟩
    rw [Lib.itoa_neg N (by omega)]
    exact sdec_neg N w (by omega) (by omega)
  · obtain ⟨N, rfl⟩ : ∃ N : Nat, n = (N : Int) := ⟨n.toNat, by omega⟩
    rw [Lib.itoa_nonneg]
    by_cases h0 : N = 0
    · subst h0
      have hd : Lib.decDigits 0 = [48] := decDigits_lt 0 (by omega)
      rw [hd]
      go_enter Tryd.func45, Tryd.ntmps45
      go_wp2
      go_ret
      exact ⟨rfl, rfl⟩
    · exact sdec_pos N w (by omega) h2

theorem gPow : Tryd.prog.globalNamed "internal/strconv.uint64pow10" = some 1 := by kernel_rfl

theorem tab_below {w w' : World} (h : Lib.TabIs Tryd.prog w "internal/strconv.uint64pow10" IntKind.u64 Lib.pow10Tab) (hb : Below w.heap.size w w') : Lib.TabIs Tryd.prog w' "internal/strconv.uint64pow10" IntKind.u64 Lib.pow10Tab :=
by
  refine var?_below hb gPow ?_ h
  unfold Lib.TabIs World.var? at h
  rw [gPow] at h
  simp only [Option.bind_some] at h
  rcases Nat.lt_or_ge 1 w.heap.size with h' | h'
  · exact h'
  · rw [Array.getElem?_eq_none h'] at h; cases h

end Go.Proofs.YtnknfmjpkphbpaaDoor
/- The model's KeyText, walked. -/
namespace Go.Proofs.YtnknfmjpkphbpaaDoor
open Go.ChangeShapes Go.WideShapes Go.ChangeAt Go.RowKit Go.BigFrame
set_option linter.unusedVariables false

theorem int_load {w : World} {g o : Nat} {n : Int} (hc : w.cell? ⟨g, o, none⟩ = some (.int .i64 n)) : (loadVar 3 ⟨g, o, none⟩).run Tryd.prog w = .ok (.int .i64 n) w := by
  have u3 := Tryd.underlying3
  go_simp
def decB (n : Int) : ByteArray := tB (Lib.itoa n)
theorem decB_size {n : Int} (h : -9223372036854775808 ≤ n ∧ n ≤ 9223372036854775807) : (decB n).size ≤ 21 := by
  unfold decB
  rw [tB_size]
  exact Lib.itoa_length_le n h.1 h.2
theorem take_snoc_key (ks : List K2) (k : Nat) (h : k < ks.length) : ks.take (k + 1) = ks.take k ++ [ks.getD k (0, 0)] := by rw [List.take_add_one]; simp [List.getD, h]
set_option maxRecDepth 100000 in
set_option maxHeartbeats 1000000 in
theorem skeytext_any (v : Value) (ks : List K2) (w : World) (h : keysAt w v ks) (hs : ks.length ≤ 2000000) (hin : ∀ k ∈ ks, kIn k) :
    Calls Tryd.prog 22 #[v] w fun e w' => e = .returned (.string (tB (keyTextL ks))) ∧ Below w.heap.size w w' := by
  obtain ⟨a, cap, rfl, hcap, hcells⟩ := h
  go_enter Tryd.func22, Tryd.ntmps22
  go_wp2
  go_loopw [3, 4] (fun o i wr => ∃ k : Nat, k ≤ ks.length ∧ o = .string (tB (keyTextL (ks.take k))) ∧ i = .int .i64 k ∧ Below w.heap.size w wr) (fun _ i _ => ks.length - (intOf i).toNat)
  case atStart => exact ⟨0, Nat.zero_le _, rfl, rfl, Below.refl _ _⟩
  case round =>
    obtain ⟨k, hk, rfl, rfl, hb⟩ := hrel
    have hlen := keyText_len _ (ks.take k) rfl (fun x hx => hin x (List.mem_of_mem_take hx))
    rw [List.length_take] at hlen
    by_cases hlt : k < ks.length
    · obtain ⟨g, off, rfl, hg, hcs⟩ := hcells.resolve_left (by omega)
      have z0 : (0 : Int) ≤ (k : Int) := by omega
      have z1 : (k : Int) < (ks.length : Int) := by omega
      have c1 := hcs k hlt
      have hts := keyText_snoc (ks.take k) (ks.getD k (0, 0))
      rw [← take_snoc_key ks k hlt] at hts
      have hki : kIn (ks.getD k (0, 0)) := hin _ (by simp [List.getD, hlt])
      clear hcells hcs
      generalize ks.getD k (0, 0) = kx at *
      obtain ⟨p, q⟩ := kx
      have L1 : ∀ w', Below w.heap.size w w' → (loadVar 3 ⟨g, off + k * 2, none⟩).run Tryd.prog w' = .ok (.int .i64 p) w' := fun w' hb' => int_load ((hb'.cell (p := ⟨g, off + k * 2, none⟩) hg).trans c1.1)
      have L2 : ∀ w', Below w.heap.size w w' → (loadVar 3 ⟨g, off + k * 2 + 1, none⟩).run Tryd.prog w' = .ok (.int .i64 q) w' := fun w' hb' => int_load ((hb'.cell (p := ⟨g, off + k * 2 + 1, none⟩) hg).trans c1.2)
      have D1 := Lib.hid (fun w => sdec_any p w hki.1.1 hki.1.2)
      have D2 := Lib.hid (fun w => sdec_any q w hki.2.1 hki.2.2)
      have b1 := decB_size hki.1
      have b2 := decB_size hki.2
      have hA := tB_size (keyTextL (ks.take k))
      have hne : (ks.take k = []) ↔ k = 0 := by
        rw [List.take_eq_nil_iff]
        constructor
        · rintro (h | h)
          · exact h
          · rw [h] at hlt; simp at hlt
        · exact Or.inl
      have hkt : ktL (p, q) = Lib.itoa p ++ [46] ++ Lib.itoa q := rfl
      have hz : ∀ X : ByteArray, X.size ≤ 200000000 → tB (keyTextL (ks.take (k + 1))) = (if k = 0 then ByteArray.empty else tB (keyTextL (ks.take k)) ++ ⟨#[44]⟩) ++ decB p ++ ⟨#[46]⟩ ++ decB q := by
        intro X _
        rw [hts]
        by_cases h0 : k = 0
        · rw [if_pos (hne.2 h0), if_pos h0, hkt]
          simp only [decB, ← tB_append]
          rw [show tB [46] = ⟨#[46]⟩ from rfl]
          simp
        · rw [if_neg (fun h => h0 (hne.1 h)), if_neg h0, hkt]
          simp only [decB, ← tB_append]
          rw [show tB [46] = ⟨#[46]⟩ from rfl, show tB [44] = ⟨#[44]⟩ from rfl]
          simp only [ByteArray.append_assoc]
      have HZ := Lib.hid (hz ByteArray.empty (by simp)); clear hz hts hkt hne
      change Hid (∀ w, Calls _ _ _ w fun e w' => e = .returned (.string (decB p)) ∧ w' = w) at D1
      change Hid (∀ w, Calls _ _ _ w fun e w' => e = .returned (.string (decB q)) ∧ w' = w) at D2
      rw [← hA] at hlen
      clear hA
      by_cases h0 : k = 0
      · rw [if_pos h0] at HZ
        subst h0
        generalize decB p = dp at *
        generalize decB q = dq at *
        clear hlen
        rw [show tB (keyTextL (List.take 0 ks)) = ByteArray.empty from rfl]
        have y0 : ¬ (0 : Int) < ((0 : Nat) : Int) := by omega
        simp only [Nat.zero_mul, Nat.add_zero] at L1 L2
        have u1 : ¬ 9223372036854775807 < dp.size := by omega
        have u2 : ¬ 9223372036854775807 < dp.size + 1 := by omega
        have u3 : ¬ 9223372036854775807 < dp.size + 1 + dq.size := by omega
        go_wp2
        refine wp_region_below w (by kernel_rfl) (by kernel_rfl) hb ?_
        repeat (first
          | go_big_quiet_skip
          | (go_big_quiet_want
             first
               | (go_big_quiet_op; go_big_quiet_on)
               | (refine q_load 3 _ _ _ rfl rfl L1 ?_; simp only [Act.put, List.setIfInBounds_toArray, List.set_cons_zero, List.set_cons_succ]; go_big_quiet_on)
               | (refine q_load 3 _ _ _ rfl rfl L2 ?_; simp only [Act.put, List.setIfInBounds_toArray, List.set_cons_zero, List.set_cons_succ]; go_big_quiet_on)
               | (go_big_quiet_op; refine ⟨_, fun _ _ => rfl, ?_⟩; go_big_quiet_on)
               | (go_big_quiet_op; apply Exists.intro; refine ⟨fun w' hw' => ?_, ?_⟩
                  · first
                    | (with_reducible refine (D1.out w').mono ?_
                       rintro e w2 ⟨rfl, rfl⟩
                       exact ⟨rfl, hw'⟩)
                    | (with_reducible refine (D2.out w').mono ?_
                       rintro e w2 ⟨rfl, rfl⟩
                       exact ⟨rfl, hw'⟩)
                  go_big_quiet_on)))
        refine wpQuiet_nil ?_
        intro w2 hb2
        clear L1 L2 D1 D2
        go_wp2
        exact ⟨⟨1, by omega, by rw [HZ.out]; simp, by go_num, hb2⟩, by simp [intOf]; omega⟩
      · rw [if_neg h0] at HZ
        generalize tB (keyTextL (ks.take k)) = A at *
        generalize decB p = dp at *
        generalize decB q = dq at *
        have y0 : (0 : Int) < (k : Int) := by omega
        have u0 : ¬ 9223372036854775807 < A.size + 1 := by omega
        have u1 : ¬ 9223372036854775807 < A.size + 1 + dp.size := by omega
        have u2 : ¬ 9223372036854775807 < A.size + 1 + dp.size + 1 := by omega
        have u3 : ¬ 9223372036854775807 < A.size + 1 + dp.size + 1 + dq.size := by omega
        go_wp2
        refine wp_region_below w (by kernel_rfl) (by kernel_rfl) hb ?_
        repeat (first
          | go_big_quiet_skip
          | (go_big_quiet_want
             first
               | (go_big_quiet_op; go_big_quiet_on)
               | (refine q_load 3 _ _ _ rfl rfl L1 ?_; simp only [Act.put, List.setIfInBounds_toArray, List.set_cons_zero, List.set_cons_succ]; go_big_quiet_on)
               | (refine q_load 3 _ _ _ rfl rfl L2 ?_; simp only [Act.put, List.setIfInBounds_toArray, List.set_cons_zero, List.set_cons_succ]; go_big_quiet_on)
               | (go_big_quiet_op; refine ⟨_, fun _ _ => rfl, ?_⟩; go_big_quiet_on)
               | (go_big_quiet_op; apply Exists.intro; refine ⟨fun w' hw' => ?_, ?_⟩
                  · first
                    | (with_reducible refine (D1.out w').mono ?_
                       rintro e w2 ⟨rfl, rfl⟩
                       exact ⟨rfl, hw'⟩)
                    | (with_reducible refine (D2.out w').mono ?_
                       rintro e w2 ⟨rfl, rfl⟩
                       exact ⟨rfl, hw'⟩)
                  go_big_quiet_on)))
        refine wpQuiet_nil ?_
        intro w2 hb2
        clear L1 L2 D1 D2
        go_wp2
        exact ⟨⟨k + 1, by omega, by rw [HZ.out], by go_num, hb2⟩, by simp [intOf]; omega⟩
    · obtain rfl : k = ks.length := by omega
      rw [List.take_length]
      clear hlen
      go_wp2
      go_ret
      exact ⟨rfl, hb⟩
end Go.Proofs.YtnknfmjpkphbpaaDoor
/- A box that holds a key. -/
namespace Go.Proofs.YtnknfmjpkphbpaaDoor
open Go.RowKit
set_option linter.unusedVariables false

def KBoxed (W : World) (B : Nat) (k : K2) : Prop := W.heap[B]? = some (.cells #[.int .i64 k.1, .int .i64 k.2] 32 (0, 0))
theorem KBoxed.lt {W : World} {B : Nat} {k : K2} (h : KBoxed W B k) : B < W.heap.size := (Array.getElem?_eq_some_iff.1 h).1
theorem KBoxed.cell0 {W : World} {B : Nat} {k : K2} (h : KBoxed W B k) : W.cell? ⟨B, 0, none⟩ = some (.int .i64 k.1) := by simp [World.cell?, show W.heap[B]? = _ from h]
theorem KBoxed.cell1 {W : World} {B : Nat} {k : K2} (h : KBoxed W B k) : W.cell? ⟨B, 1, none⟩ = some (.int .i64 k.2) := by simp [World.cell?, show W.heap[B]? = _ from h]
theorem KBoxed.new (W : World) (k : K2) : KBoxed (W.alloc (.cells #[.int .i64 k.1, .int .i64 k.2] 32)) W.heap.size k := World.alloc_heap_new W _
theorem KBoxed.kept {W W' : World} {row : Option Nat} {B : Nat} {k : K2} (h : KBoxed W B k) (hg : W.grownBy W' row) (hne : some B ≠ row) : KBoxed W' B k := (hg.block B h.lt hne).trans h
theorem KBoxed.alloc {W : World} {B : Nat} {k : K2} (h : KBoxed W B k) (o : Obj) : KBoxed (W.alloc o) B k := h.kept (World.grownBy_alloc W o none) (by simp)
theorem KBoxed.other {W : World} {B B' : Nat} {k : K2} (h : KBoxed W B k) (hne : B ≠ B') (u : Value) : KBoxed (W.setCell ⟨B', 0, none⟩ u) B k := h.kept (grownBy_setCell' W B' u) (fun e => hne (by cases e; rfl))
theorem KBoxed.load {w : World} {B : Nat} {k : K2} (h : KBoxed w B k) : (loadVar 32 ⟨B, 0, none⟩).run Tryd.prog w = .ok (kv k) w := key_load (o := 0) ⟨h.cell0, h.cell1⟩ h.lt (Below.refl _ _)
theorem set_cells {w : World} {B j : Nat} {cs : Array Value} {t : TypeId} (u : Value) (h : w.heap[B]? = some (.cells cs t (0, 0))) : (w.setCell ⟨B, j, none⟩ u).heap[B]? = some (.cells (cs.setIfInBounds j u) t (0, 0)) := by
  obtain ⟨hlt, hk⟩ := Array.getElem?_eq_some_iff.1 h
  show (w.heap.modify B _)[B]? = _
  rw [Array.getElem?_eq_getElem (by rw [Array.size_modify]; exact hlt), Array.getElem_modify_self, hk]
  rfl
theorem KBoxed.set {w : World} {B : Nat} {k : K2} (k' : K2) (h : KBoxed w B k) : KBoxed ((w.setCell ⟨B, 0, none⟩ (.int .i64 k'.1)).setCell ⟨B, 1, none⟩ (.int .i64 k'.2)) B k' :=
  set_cells _ (set_cells _ h)
end Go.Proofs.YtnknfmjpkphbpaaDoor
/- The program's KeyText, walked. -/
namespace Go.Proofs.YtnknfmjpkphbpaaDoor
open Go.ChangeShapes Go.WideShapes Go.ChangeAt Go.RowKit Go.BigFrame
set_option linter.unusedVariables false

theorem infoS : (Tryd.prog.info? 9).map (fun i => (i.zero, i.size, i.bytes)) = some (some (.string ByteArray.empty), 1, 16) := by kernel_rfl
def ktV (ks : List K2) : List Value := ks.map fun k => .string (tB (ktL k))
theorem ktV_snoc (ks : List K2) (k : K2) : ktV (ks ++ [k]) = ktV ks ++ [.string (tB (ktL k))] := by simp [ktV]
set_option maxRecDepth 100000 in
set_option maxHeartbeats 1000000 in
theorem ikeytext_any (v : Value) (ks : List K2) (w : World) (h : keysAt w v ks) (hs : ks.length ≤ 2000000) (hin : ∀ k ∈ ks, kIn k) (hT : Lib.TabIs Tryd.prog w "internal/strconv.uint64pow10" IntKind.u64 Lib.pow10Tab) :
    Calls Tryd.prog 13 #[v] w fun e w' => e = .returned (.string (tB (keyTextL ks))) ∧ Below w.heap.size w w' := by
  obtain ⟨i0, hi, hz0, hz1, hz2⟩ := info_parts infoS
  obtain ⟨a, cap, rfl, hcap, hcells⟩ := h
  have HT := Lib.hid hT; clear hT
  go_enter Tryd.func13, Tryd.ntmps13
  obtain ⟨W0, hmk, hown0, hgr0⟩ := run_make_own (P := Tryd.prog) w w.heap.size 56 9 i0 (.string ByteArray.empty) 1 Tryd.underlying56 hi hz0 hz1 .i64 .i64 ks.length (by rw [hz2]; omega) (by unfold maxLen; omega) (Nat.le_refl _)
  have hb0 : Below w.heap.size w W0 := (Below.refl w.heap.size w).grown hgr0 (Nat.le_refl _) (fun k e => by cases e)
  clear hgr0
  go_wp2
  clear hmk
  go_loopw [3, 11] (fun x i wr => ∃ k : Nat, k ≤ ks.length ∧ i = .int .i64 k ∧ wr.ownsRow w.heap.size 9 1 x k (ktV (ks.take k)) ∧ Below w.heap.size w wr) (fun _ i _ => ks.length - (intOf i).toNat)
  case atStart => exact ⟨0, Nat.zero_le _, rfl, hown0, hb0⟩
  case round =>
    clear hown0 hb0
    obtain ⟨k, hk, rfl, hown, hb⟩ := hrel
    by_cases hlt : k < ks.length
    · obtain ⟨g, off, rfl, hg, hcs⟩ := hcells.resolve_left (by omega)
      have z0 : (0 : Int) ≤ (k : Int) := by omega
      have z1 : (k : Int) < (ks.length : Int) := by omega
      have c1 := hcs k hlt
      have hts := ktV_snoc (ks.take k) (ks.getD k (0, 0))
      rw [← take_snoc_key ks k hlt] at hts
      have hki : kIn (ks.getD k (0, 0)) := hin _ (by simp [List.getD, hlt])
      clear hcells hcs
      generalize ks.getD k (0, 0) = kx at *
      obtain ⟨p, q⟩ := kx
      rename_i wr
      have C1 : wr.cell? ⟨g, off + k * 2, none⟩ = some (.int .i64 p) := (hb.cell (p := ⟨g, off + k * 2, none⟩) hg).trans c1.1
      have C2 : wr.cell? ⟨g, off + k * 2 + 1, none⟩ = some (.int .i64 q) := (hb.cell (p := ⟨g, off + k * 2 + 1, none⟩) hg).trans c1.2
      have hbx := KBoxed.new wr (p, q)
      dsimp only at hbx
      have hown1 := hown.alloc (.cells #[.int .i64 p, .int .i64 q] 32)
      have hb1 := hb.alloc hb.size (.cells #[.int .i64 p, .int .i64 q] 32)
      have hsz1 : (wr.alloc (.cells #[.int .i64 p, .int .i64 q] 32)).heap.size = wr.heap.size + 1 := by simp
      have HOL := Lib.hid (fun b (e : u3.ownBlock = some b) => (hown.lt b e).2)
      have HB1 := Lib.hid hb1; have HO1 := Lib.hid hown1; have HBX := Lib.hid hbx; have HSZ := Lib.hid hsz1
      have hbz := hb.size
      clear hbx hown1 hb1 hown hsz1 c1
      have D1 := Lib.hid (fun w' (h : Below w.heap.size w w') => idec_any p w' hki.1.1 hki.1.2 (tab_below HT.out h))
      have D2 := Lib.hid (fun w' (h : Below w.heap.size w w') => idec_any q w' hki.2.1 hki.2.2 (tab_below HT.out h))
      change Hid (∀ w' _, Calls _ _ _ w' fun e w'' => e = .returned (.string (decB p)) ∧ Below w'.heap.size w' w'') at D1
      change Hid (∀ w' _, Calls _ _ _ w' fun e w'' => e = .returned (.string (decB q)) ∧ Below w'.heap.size w' w'') at D2
      have hkt : tB (ktL (p, q)) = decB p ++ ⟨#[46]⟩ ++ decB q := by
        unfold ktL decB
        rw [← tB_append, ← tB_append]; rfl
      rw [hkt] at hts
      have b1 := decB_size hki.1
      have b2 := decB_size hki.2
      have HTS := Lib.hid hts; clear hts hkt
      generalize decB p = dp at *
      generalize decB q = dq at *
      have u1 : ¬ 9223372036854775807 < dp.size + 1 := by omega
      have u2 : ¬ 9223372036854775807 < dp.size + 1 + dq.size := by omega
      go_wp2_with fail
      generalize wr.alloc (.cells #[.int .i64 p, .int .i64 q] 32) = W at *
      clear C1 C2
      have L1 : ∀ w', KBoxed w' wr.heap.size (p, q) → (loadVar 3 ⟨wr.heap.size, 0, none⟩).run Tryd.prog w' = .ok (.int .i64 p) w' := fun w' h => int_load h.cell0
      have L2 : ∀ w', KBoxed w' wr.heap.size (p, q) → (loadVar 3 ⟨wr.heap.size, 1, none⟩).run Tryd.prog w' = .ok (.int .i64 q) w' := fun w' h => int_load h.cell1
      refine wp_region_segs [([true, true, true, false, false, true, true], 3), ([false, false, false, false, true], 7), ([false, false, false, false, false, false, false, false, true], 9), ([], 10)] [false, false, false, false, false, false, false, false, false, false, false, true] (fun w' => KBoxed w' wr.heap.size (p, q)) (by kernel_rfl) (by kernel_rfl) (by kernel_rfl) (by intro c a d v w h; cases d <;> exact h) HBX.out ?_
      rw [wpSegs]
      try simp only [maskRows]
      repeat (first
        | go_big_quiet_skip
        | (go_big_quiet_want
           first
             | (go_big_quiet_op; go_big_quiet_on)
             | (refine q_load 3 _ _ _ rfl rfl L1 ?_; simp only [Act.put, List.setIfInBounds_toArray, List.set_cons_zero, List.set_cons_succ]; go_big_quiet_on)
             | (refine q_load 3 _ _ _ rfl rfl L2 ?_; simp only [Act.put, List.setIfInBounds_toArray, List.set_cons_zero, List.set_cons_succ]; go_big_quiet_on)
             | (go_big_quiet_op; refine ⟨_, fun _ _ => rfl, ?_⟩; go_big_quiet_on)))
      refine wpQuiet_nil ?_
      refine seg_run rfl (by rfl) (fun K hK => ?_)
      go_simp
      refine (D1.out _ (HB1.out.trans ((Below.refl _ W).drew.mono HB1.out.size))).mono ?_
      rintro e w3 ⟨rfl, hb3⟩
      have hc3 : Below W.heap.size W w3 := (Below.refl _ W).drew.trans hb3
      clear hb3
      have hx3 := HBX.out.kept (grown_of_below' hc3 none) (by simp)
      refine hK _ _ ⟨_, fun _ h => h, hx3, ?_⟩
      clear hK K
      try simp only [Act.put, List.setIfInBounds_toArray, List.set_cons_zero, List.set_cons_succ]
      rw [wpSegs]
      try simp only [maskRows]
      repeat (first
        | go_big_quiet_skip
        | (go_big_quiet_want
           first
             | (go_big_quiet_op; go_big_quiet_on)
             | (go_big_quiet_op; refine ⟨_, fun _ _ => rfl, ?_⟩; go_big_quiet_on)))
      refine wpQuiet_nil ?_
      refine seg_run rfl (by rfl) (fun K hK => ?_)
      go_simp
      refine (D2.out _ (HB1.out.trans (hc3.mono HB1.out.size))).mono ?_
      rintro e w4 ⟨rfl, hb4⟩
      have hc4 := hc3.trans (hb4.mono hc3.size)
      clear hb4 hc3
      have hx4 := HBX.out.kept (grown_of_below' hc4 none) (by simp)
      refine hK _ _ ⟨_, fun _ h => h, hx4, ?_⟩
      clear hK K
      try simp only [Act.put, List.setIfInBounds_toArray, List.set_cons_zero, List.set_cons_succ]
      rw [wpSegs]
      try simp only [maskRows]
      repeat (first
        | go_big_quiet_skip
        | (go_big_quiet_want
           first
             | (go_big_quiet_op; go_big_quiet_on)
             | (go_big_quiet_op; refine ⟨_, fun _ _ => rfl, ?_⟩; go_big_quiet_on)))
      refine wpQuiet_nil ?_
      refine seg_run rfl (by rfl) (fun K hK => ?_)
      go_simp
      have hc5 := hc4.alloc hc4.size (.cells #[.string (dp ++ ⟨#[46]⟩ ++ dq)] 9)
      have ho5 := (own_below HO1.out hc4).alloc (.cells #[.string (dp ++ ⟨#[46]⟩ ++ dq)] 9)
      have hsz4 := hc4.size
      have hszW := HSZ.out
      refine hK _ _ ⟨_, fun _ h => h, (hx4.alloc _), ?_⟩
      clear hK K
      try simp only [Act.put, List.setIfInBounds_toArray, List.set_cons_zero, List.set_cons_succ]
      rw [wpSegs]
      try simp only [maskRows]
      refine wpQuiet_nil ?_
      refine seg_run (by simp only [List.getElem?_toArray, List.getElem?_cons_succ, List.getElem?_cons_zero]; rfl) (by rfl) (fun K hK => ?_)
      refine wp_append_own _ (.tmp 15) (.tmp 24) 56 rfl w.heap.size 9 i0 (.string ByteArray.empty) 1 16 Tryd.underlying56 hi hz0 hz1 hz2 rfl (by decide) _ _ _ rfl ho5 ⟨w4.heap.size, 0, none⟩ 1 1 [.string (dp ++ ⟨#[46]⟩ ++ dq)] rfl rfl (cell_one_new _ _ _) (by simp [Value.oneCell']) (by unfold maxLen; omega) (by omega) (by simp; omega) ?_
      intro v6 w6 hown6 hgrow6 _
      have hc6 : Below w.heap.size w w6 := (HB1.out.trans (hc5.mono HB1.out.size)).grown hgrow6 (by simp; omega) (fun b e => (ho5.lt b e).1)
      have hR6 : w6.ownsRow w.heap.size 9 1 v6 (k + 1) (ktV (ks.take (k + 1))) := by rw [HTS.out]; exact hown6
      have hx6 : KBoxed w6 wr.heap.size (p, q) := (hx4.alloc _).kept hgrow6 (fun e => by have := HOL.out _ e.symm; omega)
      have HR6 := Lib.hid (And.intro hR6 hc6)
      clear hR6 hc6 hown6 hgrow6 ho5 hc5 hc4 hx4
      refine hK _ _ ⟨_, fun _ h => h, hx6, ?_⟩
      clear hK K
      try simp only [Act.put, List.setIfInBounds_toArray, List.set_cons_zero, List.set_cons_succ]
      rw [wpSegs]
      try simp only [maskRows]
      repeat (first
        | go_big_quiet_skip
        | (go_big_quiet_want
           first
             | (go_big_quiet_op; go_big_quiet_on)
             | (go_big_quiet_op; refine ⟨_, fun _ _ => rfl, ?_⟩; go_big_quiet_on)))
      refine wpQuiet_nil ?_
      clear L1 L2 D1 D2
      go_wp2
      exact ⟨⟨k + 1, by omega, by go_num, HR6.out.1, HR6.out.2⟩, by simp [intOf]; omega⟩
    · obtain rfl : k = ks.length := by omega
      rw [List.take_length] at hown
      have hlen := keyText_len _ ks rfl hin
      have hmap : (ks.map fun k => tB (ktL k)).map (·.data.toList) = ks.map ktL := by
        rw [List.map_map]; apply List.map_congr_left; intro x _; simp [tB]
      rcases hown.2 with ⟨rfl, h0⟩ | ⟨gv, cv, cur, rfl, hgb, hgh, hgn, hgm, hgs, hgt⟩
      · obtain rfl : ks = [] := List.length_eq_zero_iff.1 h0
        go_wp2_with fail
        refine (Tryd.strings_Join_none none 0 _ _).mono ?_
        rintro e w3 ⟨rfl, rfl⟩
        go_wp2
        go_ret
        exact ⟨rfl, hb⟩
      · have hJ := Tryd.strings_Join gv 0 cv (ks.map fun k => tB (ktL k)) ⟨#[44]⟩ _ (fun j x hj => by
            have hlt := (List.getElem?_eq_some_iff.1 hj).1
            rw [List.length_map] at hlt
            rw [Nat.zero_add, hown.cellAt j (by omega)]
            unfold ktV
            simp only [List.getElem?_map] at hj ⊢
            cases hk : ks[j]? with
            | none => rw [hk] at hj; cases hj
            | some y => rw [hk] at hj; cases hj; rfl) (Array.getElem?_eq_some_iff.1 hgh).1 (by simp; omega) (by simpa using hgn) (by rw [hmap]; exact Nat.le_trans hlen (by omega))
        rw [hmap, List.length_map] at hJ
        have HJ := Lib.hid hJ
        clear hJ hgs hgt hgh
        go_wp2_with fail
        refine HJ.out.mono ?_
        rintro e w3 ⟨rfl, hb3⟩
        have hbb := hb.trans (hb3.mono hb.size)
        go_wp2
        go_ret
        exact ⟨rfl, hbb⟩
end Go.Proofs.YtnknfmjpkphbpaaDoor
/- Walks of HexText, both. -/
namespace Go.Proofs.YtnknfmjpkphbpaaDoor
open Go.ChangeShapes Go.WideShapes Go.ChangeAt Go.RowKit
set_option linter.unusedVariables false



def hdig (n : Nat) : Int := (([48, 49, 50, 51, 52, 53, 54, 55, 56, 57, 97, 98, 99, 100, 101, 102] : List UInt8).getD n 0).toNat
def hexL (l : List UInt8) : List Int := l.flatMap fun c => [hdig (c.toNat / 16), hdig (c.toNat % 16)]

theorem idx_hex (z : Int) (h0 : 0 ≤ z) (h : z < 16) (w : World) :
    (Instr.index 9 (.string ⟨#[48, 49, 50, 51, 52, 53, 54, 55, 56, 57, 97, 98, 99, 100, 101, 102]⟩) (.int .u8 z)).run Tryd.prog w = .ok (.int .u8 (hdig z.toNat)) w := by
  have : z = 0 ∨ z = 1 ∨ z = 2 ∨ z = 3 ∨ z = 4 ∨ z = 5 ∨ z = 6 ∨ z = 7 ∨ z = 8 ∨ z = 9 ∨ z = 10 ∨ z = 11 ∨ z = 12 ∨ z = 13 ∨ z = 14 ∨ z = 15 := by omega
  rcases this with rfl | rfl | rfl | rfl | rfl | rfl | rfl | rfl | rfl | rfl | rfl | rfl | rfl | rfl | rfl | rfl <;> (show Sem.run _ _ _ = _; kernel_rfl)

theorem idx_div (c : Nat) (h : c < 256) (w : World) :
    (Instr.index 9 (.string ⟨#[48, 49, 50, 51, 52, 53, 54, 55, 56, 57, 97, 98, 99, 100, 101, 102]⟩) (.int .u8 ((c : Int) / 16))).run Tryd.prog w = .ok (.int .u8 (hdig (c / 16))) w :=
  idx_hex ((c : Int) / 16) (by omega) (by omega) w
theorem idx_mod (c : Nat) (w : World) :
    (Instr.index 9 (.string ⟨#[48, 49, 50, 51, 52, 53, 54, 55, 56, 57, 97, 98, 99, 100, 101, 102]⟩) (.int .u8 ((c : Int) % 16))).run Tryd.prog w = .ok (.int .u8 (hdig (c % 16))) w :=
  idx_hex ((c : Int) % 16) (by omega) (by omega) w
theorem hexL_snoc (l : List UInt8) (c : UInt8) : hexL (l ++ [c]) = hexL l ++ [hdig (c.toNat / 16), hdig (c.toNat % 16)] := by
  simp [hexL, List.flatMap_append]


set_option maxRecDepth 100000 in
theorem ihex_any (s : ByteArray) (w : World) (hs : s.size ≤ 2000000) :
    Calls Tryd.prog 21 #[.string s] w fun e w' => e = .returned (.string (strOfNums (hexL s.data.toList))) ∧ Below w.heap.size w w' := by
  obtain ⟨i0, hi, hz0, hz1, hz2⟩ := info_parts info5
  go_enter Tryd.func21, Tryd.ntmps21
  go_wp2_with (at_make; refine wpList_make_own _ rfl _ _ 22 rfl w.heap.size 5 i0 (.int .u8 0) 1 Tryd.underlying22 hi hz0 hz1 _ _ _ (2 * s.size) rfl rfl (by omega) (by rw [hz2]; omega) (by unfold maxLen; omega) (Nat.le_refl _) ?_; intro w0 hown0 hgrow0)
  have hb0 : Below w.heap.size w w0 := (Below.refl _ _).grown hgrow0 (Nat.le_refl _) (by simp)
  clear hgrow0
  go_loopw [3, 11] (fun v i wr => ∃ k : Nat, k ≤ s.size ∧ i = .int .i64 k ∧ wr.ownsRow w.heap.size 5 1 v (2 * k) ((hexL (s.data.toList.take k)).map (Value.int .u8)) ∧ Below w.heap.size w wr)
     (fun _ i _ => s.size - (intOf i).toNat)
  case atStart => exact ⟨0, Nat.zero_le _, rfl, by simpa [hexL] using hown0, hb0⟩
  case round =>
    obtain ⟨k, hk, rfl, hown, hnx⟩ := hrel
    clear hown0 hb0
    by_cases hlt : k < s.size
    · have h0 : (0 : Int) ≤ (k : Int) := Int.natCast_nonneg _
      have h1 : (k : Int) < (s.size : Int) := by omega
      have hc := s[k].toNat_lt
      have e5 := fun w' => idx_div s[k].toNat (by omega) w'
      have e10 : bits BinOp.and IntKind.u8 (s[k].toNat : Int) 15 = (s[k].toNat : Int) % 16 := u8_and15 _ (by omega) (by omega)
      have e11 := fun w' => idx_mod s[k].toNat w'
      go_wp2
      refine wp_region_plan [0] [false, true, true, true, true, true, true, true, true, true, true] 11 (by kernel_rfl) (by kernel_rfl) (by kernel_rfl) ?_
      simp only [maskRows, movesA, moveOf, List.getElem?_toArray, List.getElem?_cons_zero, List.drop_succ_cons, List.drop_zero]
      repeat still_step
      refine wpStill_nil ?_
      intro K1 hK1
      go_wp2_with (at_builtin; refine wpList_append_own _ rfl (.tmp 14) (.tmp 25) 22 rfl w.heap.size 5 i0 (.int .u8 0) 1 1 Tryd.underlying22 hi hz0 hz1 hz2 rfl (by decide) _ _ _ rfl ((hown.alloc _).drew) ⟨wr.heap.size, 0, none⟩ 2 2 [.int .u8 (hdig (s[k].toNat / 16)), .int .u8 (hdig (s[k].toNat % 16))] rfl rfl ?c1 ?c2 ?c3 ?c4 ?c5 ?_)
      case c1 =>
        intro j u hj
        match j, hj with
        | 0, hj => simp at hj; subst hj; simp [Addr.add]
        | 1, hj => simp at hj; subst hj; simp [Addr.add]
      case c2 => intro u hu; simp at hu; rcases hu with rfl | rfl <;> rfl
      case c3 => unfold maxLen; omega
      case c4 => omega
      case c5 => have := hnx.size; simp; omega
      intro v' w1 hown' hgrow _
      have R : w1.ownsRow w.heap.size 5 1 v' (2 * (k + 1)) ((hexL (s.data.toList.take (k + 1))).map (Value.int .u8)) ∧ Below w.heap.size w w1 := by
        refine ⟨?_, ((hnx.alloc hnx.size _).drew).grown hgrow (by have := hnx.size; simp; omega) (fun g hg => (hown.lt g hg).1)⟩
        rw [take_snoc s k hlt, hexL_snoc, List.map_append]
        exact hown'
      clear hown' hgrow hown e5 e10 e11
      go_wp2
      go_roundw
      case rel => exact ⟨k + 1, by omega, by go_num, R.1, R.2⟩
      case measure => simp [intOf]; omega
    · obtain rfl : k = s.size := by omega
      have hcv := run_string_own (P := Tryd.prog) 22 5 9 Tryd.underlying22 Tryd.underlying5 Tryd.underlying9 hown
      rw [List.take_of_length_le (by simp)] at hcv
      clear hown
      go_wp2
      go_ret
      exact ⟨rfl, hnx⟩

set_option maxRecDepth 100000 in
theorem shex_any (s : ByteArray) (w : World) (hs : s.size ≤ 2000000) :
    Calls Tryd.prog 23 #[.string s] w fun e w' => e = .returned (.string (strOfNums (hexL s.data.toList))) ∧ Below w.heap.size w w' := by
  obtain ⟨i0, hi, hz0, hz1, hz2⟩ := info_parts info5
  go_enter Tryd.func23, Tryd.ntmps23
  go_wp2
  have hown0 := World.ownsRow_made (base := w.heap.size) (e := 5) (size := 1) w #[] 0 (Nat.le_refl _) (by unfold maxLen; omega) rfl
  have hb0 := (Below.refl w.heap.size w).alloc (Nat.le_refl _) (.cells #[] 5)
  go_loopw [3, 4] (fun v i wr => ∃ k : Nat, k ≤ s.size ∧ i = .int .i64 k ∧ wr.ownsRow w.heap.size 5 1 v (2 * k) ((hexL (s.data.toList.take k)).map (Value.int .u8)) ∧ Below w.heap.size w wr)
     (fun _ i _ => s.size - (intOf i).toNat)
  case atStart => exact ⟨0, Nat.zero_le _, rfl, by simpa [hexL] using hown0, hb0⟩
  case round =>
    obtain ⟨k, hk, rfl, hown, hnx⟩ := hrel
    clear hown0 hb0
    by_cases hlt : k < s.size
    · have h0 : (0 : Int) ≤ (k : Int) := Int.natCast_nonneg _
      have h1 : (k : Int) < (s.size : Int) := by omega
      have hc := s[k].toNat_lt
      have e5 := fun w' => idx_div s[k].toNat (by omega) w'
      have ew : IntKind.u8.wrap ((s[k].toNat : Int) / 16) = (s[k].toNat : Int) / 16 := IntWalk.u8_in _ (by omega)
      have ew2 : ((s[k].toNat : Int)).tmod 16 = (s[k].toNat : Int) % 16 := Int.tmod_eq_emod_of_nonneg (by omega)
      have e11 := fun w' => idx_mod s[k].toNat w'
      go_wp2
      refine wp_region_plan [0] [false, true, true, true, true, true, true, true, true, true, true] 11 (by kernel_rfl) (by kernel_rfl) (by kernel_rfl) ?_
      simp only [maskRows, movesA, moveOf, List.getElem?_toArray, List.getElem?_cons_zero, List.drop_succ_cons, List.drop_zero]
      repeat still_step
      refine wpStill_nil ?_
      intro K1 hK1
      go_wp2_with (at_builtin; refine wpList_append_own _ rfl (.tmp 12) (.tmp 23) 22 rfl w.heap.size 5 i0 (.int .u8 0) 1 1 Tryd.underlying22 hi hz0 hz1 hz2 rfl (by decide) _ _ _ rfl ((hown.alloc _).drew) ⟨wr.heap.size, 0, none⟩ 2 2 [.int .u8 (hdig (s[k].toNat / 16)), .int .u8 (hdig (s[k].toNat % 16))] rfl rfl ?c1 ?c2 ?c3 ?c4 ?c5 ?_)
      case c1 =>
        intro j u hj
        match j, hj with
        | 0, hj => simp at hj; subst hj; simp [Addr.add]
        | 1, hj => simp at hj; subst hj; simp [Addr.add]
      case c2 => intro u hu; simp at hu; rcases hu with rfl | rfl <;> rfl
      case c3 => unfold maxLen; omega
      case c4 => omega
      case c5 => have := hnx.size; simp; omega
      intro v' w1 hown' hgrow _
      have R : w1.ownsRow w.heap.size 5 1 v' (2 * (k + 1)) ((hexL (s.data.toList.take (k + 1))).map (Value.int .u8)) ∧ Below w.heap.size w w1 := by
        refine ⟨?_, ((hnx.alloc hnx.size _).drew).grown hgrow (by have := hnx.size; simp; omega) (fun g hg => (hown.lt g hg).1)⟩
        rw [take_snoc s k hlt, hexL_snoc, List.map_append]
        exact hown'
      clear hown' hgrow hown e5 e11 ew ew2
      go_wp2
      go_roundw
      case rel => exact ⟨k + 1, by omega, by go_num, R.1, R.2⟩
      case measure => simp [intOf]; omega
    · obtain rfl : k = s.size := by omega
      have hcv := run_string_own (P := Tryd.prog) 22 5 9 Tryd.underlying22 Tryd.underlying5 Tryd.underlying9 hown
      rw [List.take_of_length_le (by simp)] at hcv
      clear hown
      go_wp2
      go_ret
      exact ⟨rfl, hnx⟩
end Go.Proofs.YtnknfmjpkphbpaaDoor

/- Words written, by the program and by the model. -/
namespace Go.Proofs.YtnknfmjpkphbpaaDoor
open Go.ChangeShapes Go.WideShapes Go.ChangeAt Go.RowKit Go.BigFrame
set_option linter.unusedVariables false

/-- a word's text -/
def cdT (x : C2) : ByteArray := if codeOkB x then tB (keyTextL x.1) ++ ⟨#[58]⟩ ++ strOfNums (hexL x.2.data.toList) else ByteArray.empty
theorem hexL_ln : ∀ l : List UInt8, (hexL l).length = 2 * l.length
  | [] => rfl
  | c :: r => by
    have := hexL_ln r
    simp only [hexL, List.flatMap_cons, List.length_append, List.length_cons, List.length_nil] at *
    omega
theorem kIn_ok {k : K2} (h : keyOkB k = true) : kIn k := by
  unfold keyOkB at h
  simp only [Bool.and_eq_true, decide_eq_true_eq] at h
  unfold kIn
  omega
theorem keys_in {ks : List K2} (h : keysOkR ks = true) : ∀ k ∈ ks, kIn k := fun k hk => kIn_ok (((keysR_iff ks).1 h).1 k hk)
theorem hex_size (y : ByteArray) (hy : y.size = 4) : (strOfNums (hexL y.data.toList)).size = 8 := by
  rw [strOfNums_size, hexL_ln]
  simp [hy]
theorem keys_size {ks : List K2} (h : ∀ k ∈ ks, kIn k) (hl : ks.length ≤ 6) : (tB (keyTextL ks)).size ≤ 264 := by
  rw [tB_size]
  have := keyText_len ks.length ks rfl h
  omega
set_option maxRecDepth 100000 in
set_option maxHeartbeats 1000000 in
theorem icodetext_any (v : Value) (ks : List K2) (y : ByteArray) (w : World) (h : keysAt w v ks) (hs : ks.length ≤ 2000000) (hV : Lib.TabIs Tryd.prog w "internal/strconv.uint64pow10" IntKind.u64 Lib.pow10Tab) :
    Calls Tryd.prog 7 #[.agg #[v, .string y]] w fun e w' => e = .returned (.string (cdT (ks, y))) ∧ Below w.heap.size w w' := by
  have hb := (Below.refl w.heap.size w).alloc (Nat.le_refl _) (.cells #[v, .string y] 26)
  have HB := Lib.hid hb
  have HX := Lib.hid (heap_alloc_new w (.cells #[v, .string y] 26))
  have CX := Lib.hid (icodeok_any v ks y (w.alloc (.cells #[v, .string y] 26)) (keysAt_below h hb) hs)
  have hct : cdT (ks, y) = if codeOkB (ks, y) then tB (keyTextL ks) ++ ⟨#[58]⟩ ++ strOfNums (hexL y.data.toList) else ByteArray.empty := rfl
  have hok := codeOk_iff (ks, y)
  have KT := Lib.hid (fun (hin : ∀ k ∈ ks, kIn k) w' (hb' : Below (w.alloc (.cells #[v, .string y] 26)).heap.size (w.alloc (.cells #[v, .string y] 26)) w') => ikeytext_any v ks w' (keysAt_below h (hb.trans (hb'.mono hb.size))) hs hin (tab_below hV (hb.trans (hb'.mono hb.size))))
  obtain ⟨a, cap, rfl, -, -⟩ := h
  obtain ⟨x0, x1, -, -⟩ := row2_of HX.out
  clear hb
  go_enter Tryd.func7, Tryd.ntmps7
  go_wp2_with fail
  generalize w.alloc (.cells #[.slice a ks.length cap, .string y] 26) = W at *
  refine CX.out.mono ?_
  rintro e w1 ⟨rfl, hb1⟩
  have HB1 := Lib.hid (HB.out.trans (hb1.mono HB.out.size))
  have HBW := Lib.hid hb1
  clear hb1 x0 x1 CX
  cases hco : codeOkB (ks, y) with
  | false =>
    rw [hco] at hct
    have HCT := Lib.hid (show cdT (ks, y) = ByteArray.empty from hct.trans rfl)
    clear hok KT hct
    go_wp2
    go_ret
    exact ⟨by rw [HCT.out]; rfl, HB1.out⟩
  | true =>
    obtain ⟨h6, hko, h4, -⟩ := hok.1 hco
    rw [hco, if_pos rfl] at hct
    have hin := keys_in hko
    have K1 := Lib.hid (fun w' (hb' : Below w1.heap.size w1 w') => KT.out hin w' (HBW.out.trans (hb'.mono HBW.out.size)))
    have K2 := Lib.hid (fun w' (hb' : Below w1.heap.size w1 w') => ihex_any y w' (by omega))
    have hs1 := keys_size hin h6
    have hs2 := hex_size y h4
    generalize tB (keyTextL ks) = A at *
    generalize strOfNums (hexL y.data.toList) = B at *
    have HCT := Lib.hid hct
    have u1 : ¬ 9223372036854775807 < A.size + 1 := by omega
    have u2 : ¬ 9223372036854775807 < A.size + 1 + B.size := by omega
    have HXW := Lib.hid ((HBW.out.block _ (Array.getElem?_eq_some_iff.1 HX.out).1).trans HX.out)
    have L0 : ∀ w', Below w1.heap.size w1 w' → (loadVar 24 ⟨w.heap.size, 0, none⟩).run Tryd.prog w' = .ok (.slice a ks.length cap) w' := fun w' hb' => cd_loadk HXW.out hb'
    have L1 : ∀ w', Below w1.heap.size w1 w' → (loadVar 9 ⟨w.heap.size, 1, none⟩).run Tryd.prog w' = .ok (.string y) w' := fun w' hb' => cd_loads HXW.out hb'
    clear hct hok hin hs2 KT HX HBW
    go_wp2_with fail
    refine wp_region_below w1 (by kernel_rfl) (by kernel_rfl) (Below.refl _ _) ?_
    repeat (first
      | go_big_quiet_skip
      | (go_big_quiet_want
         first
           | (go_big_quiet_op; go_big_quiet_on)
           | (refine q_load 24 _ _ _ rfl rfl L0 ?_; simp only [Act.put, List.setIfInBounds_toArray, List.set_cons_zero, List.set_cons_succ]; go_big_quiet_on)
           | (refine q_load 9 _ _ _ rfl rfl L1 ?_; simp only [Act.put, List.setIfInBounds_toArray, List.set_cons_zero, List.set_cons_succ]; go_big_quiet_on)
           | (go_big_quiet_op; refine ⟨_, fun _ _ => rfl, ?_⟩; go_big_quiet_on)
           | (go_big_quiet_op; apply Exists.intro; refine ⟨fun w' hw' => ?_, ?_⟩
              · first
                | (with_reducible refine (K1.out w' hw').mono ?_
                   rintro e w2 ⟨rfl, hb2⟩
                   exact ⟨rfl, hw'.trans (hb2.mono hw'.size)⟩)
                | (with_reducible refine (K2.out w' hw').mono ?_
                   rintro e w2 ⟨rfl, hb2⟩
                   exact ⟨rfl, hw'.trans (hb2.mono hw'.size)⟩)
              go_big_quiet_on)))
    refine wpQuiet_nil ?_
    intro w9 hb9
    have HB9 := Lib.hid (HB1.out.trans (hb9.mono HB1.out.size))
    clear L0 L1 hb9
    go_wp2
    go_ret
    exact ⟨by rw [HCT.out]; rfl, HB9.out⟩
set_option maxRecDepth 100000 in
set_option maxHeartbeats 1000000 in
theorem scodetext_any (v : Value) (ks : List K2) (y : ByteArray) (w : World) (h : keysAt w v ks) (hs : ks.length ≤ 2000000) :
    Calls Tryd.prog 8 #[.agg #[v, .string y]] w fun e w' => e = .returned (.string (cdT (ks, y))) ∧ Below w.heap.size w w' := by
  have hb := (Below.refl w.heap.size w).alloc (Nat.le_refl _) (.cells #[v, .string y] 26)
  have HB := Lib.hid hb
  have HX := Lib.hid (heap_alloc_new w (.cells #[v, .string y] 26))
  have CX := Lib.hid (scodeok_any v ks y (w.alloc (.cells #[v, .string y] 26)) (keysAt_below h hb) hs)
  have hct : cdT (ks, y) = if codeOkB (ks, y) then tB (keyTextL ks) ++ ⟨#[58]⟩ ++ strOfNums (hexL y.data.toList) else ByteArray.empty := rfl
  have hok := codeOk_iff (ks, y)
  have KT := Lib.hid (fun (hin : ∀ k ∈ ks, kIn k) w' (hb' : Below (w.alloc (.cells #[v, .string y] 26)).heap.size (w.alloc (.cells #[v, .string y] 26)) w') => skeytext_any v ks w' (keysAt_below h (hb.trans (hb'.mono hb.size))) hs hin)
  obtain ⟨a, cap, rfl, -, -⟩ := h
  obtain ⟨x0, x1, -, -⟩ := row2_of HX.out
  clear hb
  go_enter Tryd.func8, Tryd.ntmps8
  go_wp2_with fail
  generalize w.alloc (.cells #[.slice a ks.length cap, .string y] 26) = W at *
  refine CX.out.mono ?_
  rintro e w1 ⟨rfl, hb1⟩
  have HB1 := Lib.hid (HB.out.trans (hb1.mono HB.out.size))
  have HBW := Lib.hid hb1
  clear hb1 x0 x1 CX
  cases hco : codeOkB (ks, y) with
  | false =>
    rw [hco] at hct
    have HCT := Lib.hid (show cdT (ks, y) = ByteArray.empty from hct.trans rfl)
    clear hok KT hct
    go_wp2
    go_ret
    exact ⟨by rw [HCT.out]; rfl, HB1.out⟩
  | true =>
    obtain ⟨h6, hko, h4, -⟩ := hok.1 hco
    rw [hco, if_pos rfl] at hct
    have hin := keys_in hko
    have K1 := Lib.hid (fun w' (hb' : Below w1.heap.size w1 w') => KT.out hin w' (HBW.out.trans (hb'.mono HBW.out.size)))
    have K2 := Lib.hid (fun w' (hb' : Below w1.heap.size w1 w') => shex_any y w' (by omega))
    have hs1 := keys_size hin h6
    have hs2 := hex_size y h4
    generalize tB (keyTextL ks) = A at *
    generalize strOfNums (hexL y.data.toList) = B at *
    have HCT := Lib.hid hct
    have u1 : ¬ 9223372036854775807 < A.size + 1 := by omega
    have u2 : ¬ 9223372036854775807 < A.size + 1 + B.size := by omega
    have HXW := Lib.hid ((HBW.out.block _ (Array.getElem?_eq_some_iff.1 HX.out).1).trans HX.out)
    have L0 : ∀ w', Below w1.heap.size w1 w' → (loadVar 24 ⟨w.heap.size, 0, none⟩).run Tryd.prog w' = .ok (.slice a ks.length cap) w' := fun w' hb' => cd_loadk HXW.out hb'
    have L1 : ∀ w', Below w1.heap.size w1 w' → (loadVar 9 ⟨w.heap.size, 1, none⟩).run Tryd.prog w' = .ok (.string y) w' := fun w' hb' => cd_loads HXW.out hb'
    clear hct hok hin hs2 KT HX HBW
    go_wp2_with fail
    refine wp_region_below w1 (by kernel_rfl) (by kernel_rfl) (Below.refl _ _) ?_
    repeat (first
      | go_big_quiet_skip
      | (go_big_quiet_want
         first
           | (go_big_quiet_op; go_big_quiet_on)
           | (refine q_load 24 _ _ _ rfl rfl L0 ?_; simp only [Act.put, List.setIfInBounds_toArray, List.set_cons_zero, List.set_cons_succ]; go_big_quiet_on)
           | (refine q_load 9 _ _ _ rfl rfl L1 ?_; simp only [Act.put, List.setIfInBounds_toArray, List.set_cons_zero, List.set_cons_succ]; go_big_quiet_on)
           | (go_big_quiet_op; refine ⟨_, fun _ _ => rfl, ?_⟩; go_big_quiet_on)
           | (go_big_quiet_op; apply Exists.intro; refine ⟨fun w' hw' => ?_, ?_⟩
              · first
                | (with_reducible refine (K1.out w' hw').mono ?_
                   rintro e w2 ⟨rfl, hb2⟩
                   exact ⟨rfl, hw'.trans (hb2.mono hw'.size)⟩)
                | (with_reducible refine (K2.out w' hw').mono ?_
                   rintro e w2 ⟨rfl, hb2⟩
                   exact ⟨rfl, hw'.trans (hb2.mono hw'.size)⟩)
              go_big_quiet_on)))
    refine wpQuiet_nil ?_
    intro w9 hb9
    have HB9 := Lib.hid (HB1.out.trans (hb9.mono HB1.out.size))
    clear L0 L1 hb9
    go_wp2
    go_ret
    exact ⟨by rw [HCT.out]; rfl, HB9.out⟩
end Go.Proofs.YtnknfmjpkphbpaaDoor
/- Keys in the laws: a list made anew. -/
namespace Go.Proofs.YtnknfmjpkphbpaaDoor
open Go.ChangeShapes Go.WideShapes Go.ChangeAt Go.RowKit Go.BigFrame
set_option linter.unusedVariables false

theorem szkeys_any (v : Value) (ks : List K2) (left : Int) (w : World) (h : ∃ a cap, v = .slice a ks.length cap) (hl : 0 ≤ left ∧ left ≤ 1000000000) (hs : ks.length ≤ 9223372036854775807) :
    Calls Tryd.prog 37 #[v, .int .i64 left] w fun e w' => e = .returned (.int .i64 (if left - (ks.length : Int) < 0 then -1 else left - (ks.length : Int))) ∧ w' = w := by
  obtain ⟨a, cap, rfl⟩ := h
  by_cases hn : left - (ks.length : Int) < 0
  · rw [if_pos hn]
    have ew : IntKind.i64.wrap (left - (ks.length : Int)) = left - (ks.length : Int) := IntWalk.i64_in _ (by omega)
    go_enter Tryd.func37, Tryd.ntmps37
    go_wp2
    go_ret
    exact ⟨rfl, rfl⟩
  · rw [if_neg hn]
    have ew : IntKind.i64.wrap (left - (ks.length : Int)) = left - (ks.length : Int) := IntWalk.i64_in _ (by omega)
    go_enter Tryd.func37, Tryd.ntmps37
    go_wp2
    go_ret
    exact ⟨rfl, rfl⟩
theorem set_key (ks : List K2) (k : Nat) (p q : Int) (u1 u2 : Value) (rest : List Value) (hk : k < ks.length) (hx : ks.getD k (0, 0) = (p, q)) :
    ((keyCells (ks.take k) ++ u1 :: u2 :: rest).set (k * 2) (.int .i64 p)).set (k * 2 + 1) (.int .i64 q) = keyCells (ks.take (k + 1)) ++ rest := by
  have hl := keyCells_len (ks.take k)
  have hl2 : (keyCells (ks.take k)).length = k * 2 := by rw [hl]; simp; omega
  rw [List.take_succ_eq_append_getElem hk, keyCells_snoc, show ks[k] = (p, q) by rw [← hx]; simp [List.getD, hk]]
  rw [List.set_append_right _ _ (by omega), hl2, Nat.sub_self, List.set_cons_zero, List.set_append_right _ _ (by omega), hl2, show k * 2 + 1 - k * 2 = 1 by omega]
  simp
set_option maxRecDepth 100000 in
set_option maxHeartbeats 1000000 in
theorem tokeys_any (v : Value) (ks : List K2) (w : World) (h : keysAt w v ks) (hs : ks.length ≤ 2000000) : Calls Tryd.prog 38 #[v] w fun e w' => ∃ g, e = .returned (.slice (some ⟨g, 0, none⟩) ks.length ks.length) ∧ w.heap.size ≤ g ∧
    w'.ownsRow w.heap.size 32 2 (.slice (some ⟨g, 0, none⟩) ks.length ks.length) ks.length (keyCells ks) ∧ Below w.heap.size w w' := by
  obtain ⟨a, cap, rfl, hcap, hcells⟩ := h
  obtain ⟨i0, hi, hz0, hz1, hz2⟩ := info_parts infoK
  obtain ⟨W, hmk, hown0, hgr0⟩ := run_make_full (P := Tryd.prog) w w.heap.size 24 32 i0 _ 2 Tryd.underlying24 hi hz0 hz1 .i64 .i64 ks.length (by rw [hz2]; omega) (by unfold maxLen; omega) (Nat.le_refl _)
  have hb0 : Below w.heap.size w W := (Below.refl _ _).grown hgr0 (Nat.le_refl _) (by simp)
  have hrest : (madeCells (Value.agg #[.int .i64 0, .int .i64 0]).cells (ks.length * 2)).toList.length = ks.length * 2 := hown0.1
  generalize (madeCells (Value.agg #[.int .i64 0, .int .i64 0]).cells (ks.length * 2)).toList = Z at *
  go_enter Tryd.func38, Tryd.ntmps38
  go_wp2
  clear hmk hgr0
  go_loopw [4] (fun i wr => ∃ (k : Nat) (rest : List Value), k ≤ ks.length ∧ i = .int .i64 k ∧ wr.ownsRow w.heap.size 32 2 (.slice (some ⟨w.heap.size, 0, none⟩) ks.length ks.length) ks.length (keyCells (ks.take k) ++ rest) ∧ Below w.heap.size w wr)
    (fun i _ => ks.length - (intOf i).toNat)
  case atStart => exact ⟨0, Z, Nat.zero_le _, rfl, by simpa [keyCells] using hown0, hb0⟩
  case round =>
    obtain ⟨k, rest, hk, rfl, hown, hbr⟩ := hrel
    clear hown0 hb0 hrest
    by_cases hlt : k < ks.length
    · obtain ⟨ga, off, rfl, hg, hcs⟩ := hcells.resolve_left (by omega)
      have hc := hcs k hlt
      have z0 : (0 : Int) ≤ (k : Int) := by omega
      have z1 : (k : Int) < (ks.length : Int) := by omega
      have d1 : wr.cell? ⟨ga, off + k * 2, none⟩ = some (.int .i64 (ks.getD k (0, 0)).1) := by rw [hbr.cell (p := ⟨ga, off + k * 2, none⟩) hg]; exact hc.1
      have d2 : wr.cell? ⟨ga, off + k * 2 + 1, none⟩ = some (.int .i64 (ks.getD k (0, 0)).2) := by rw [hbr.cell (p := ⟨ga, off + k * 2 + 1, none⟩) hg]; exact hc.2
      clear hcs hc hcells
      have hkt : (ks.take k).length = k := by simp; omega
      have hkl := keyCells_len (ks.take k)
      have hrl : rest.length = (ks.length - k) * 2 := by
        have := hown.1
        rw [List.length_append, hkl, hkt] at this
        omega
      obtain ⟨u1, u2, rest2, rfl⟩ : ∃ u1 u2 r, rest = u1 :: u2 :: r := by
        match rest, hrl with
        | [], h => simp at h; omega
        | [_], h => simp at h; omega
        | a :: b :: r, _ => exact ⟨a, b, r, rfl⟩
      generalize hkx : ks.getD k (0, 0) = kx at *
      obtain ⟨p, q⟩ := kx
      have hset := set_key ks k p q u1 u2 rest2 hlt hkx
      have HSET := Lib.hid hset
      have HT := Lib.hid (tokey_any (p, q) wr)
      clear hkx hset hrl
      go_wp2_with fail
      refine HT.out.mono ?_
      rintro e w2 ⟨rfl, hb2⟩
      have hown2 := own_below hown hb2
      have hbq := hbr.trans (hb2.mono hbr.size)
      clear hown hbr hb2 HT d1 d2
      have st1 := hown2.stored (k * 2) (.int .i64 p)
      have st2 := st1.1.stored (k * 2 + 1) (.int .i64 q)
      rw [HSET.out] at st2
      have hbz := (hbq.setCell (p := ⟨w.heap.size, k * 2, none⟩) (Nat.le_refl _) (.int .i64 p)).setCell (p := ⟨w.heap.size, k * 2 + 1, none⟩) (Nat.le_refl _) (.int .i64 q)
      have R := Lib.hid (And.intro st2.1 hbz)
      clear st1 st2 hbz hbq HSET
      obtain ⟨s1, s2⟩ := own_cell hown2 (k * 2) (by omega)
      obtain ⟨s3, s4⟩ := own_cell hown2 (k * 2 + 1) (by omega)
      unfold kv
      dsimp only
      go_wp2
      exact ⟨⟨k + 1, rest2, by omega, by go_num, R.out.1, R.out.2⟩, by simp [intOf]; omega⟩
    · obtain rfl : k = ks.length := by omega
      rw [List.take_length] at hown
      have hr0 : rest = [] := by
        have h1 := hown.1
        rw [List.length_append, keyCells_len] at h1
        exact List.eq_nil_of_length_eq_zero (by omega)
      subst hr0
      rw [List.append_nil] at hown
      go_wp2
      go_ret
      exact ⟨w.heap.size, rfl, Nat.le_refl _, hown, hbr⟩
end Go.Proofs.YtnknfmjpkphbpaaDoor
/- Keys in the laws: lists held against each other. -/
namespace Go.Proofs.YtnknfmjpkphbpaaDoor
open Go.ChangeShapes Go.WideShapes Go.ChangeAt Go.RowKit Go.BigFrame
set_option linter.unusedVariables false
set_option maxRecDepth 100000 in
set_option maxHeartbeats 1000000 in
theorem eqkeys_any (va vb : Value) (A B : List K2) (w : World) (ha : keysAt w va A) (hb : keysAt w vb B) (hsA : A.length ≤ 4000000) (hsB : B.length ≤ 4000000) :
    Calls Tryd.prog 39 #[va, vb] w fun e w' => e = .returned (.bool (decide (A = B))) ∧ Below w.heap.size w w' := by
  obtain ⟨aa, ca, rfl, hca, hcA⟩ := ha
  obtain ⟨ab, cb, rfl, hcb, hcB⟩ := hb
  by_cases hl : A.length = B.length
  · have e0 : (A.length : Int) = (B.length : Int) := by omega
    go_enter Tryd.func39, Tryd.ntmps39
    rw [hl] at hca hcA ⊢
    go_wp2
    go_loopw [5] (fun i wr => ∃ k : Nat, k ≤ B.length ∧ i = .int .i64 k ∧ (∀ j, j < k → A.getD j (0, 0) = B.getD j (0, 0)) ∧ Below w.heap.size w wr) (fun i _ => B.length - (intOf i).toNat)
    case atStart => exact ⟨0, Nat.zero_le _, rfl, fun j hj => by omega, Below.refl _ _⟩
    case round =>
      obtain ⟨k, hk, rfl, hall, hbr⟩ := hrel
      by_cases hlt : k < B.length
      · obtain ⟨ga, offa, rfl, hga, hcsA⟩ := hcA.resolve_left (by omega)
        obtain ⟨gb, offb, rfl, hgb, hcsB⟩ := hcB.resolve_left (by omega)
        have cA := hcsA k hlt
        have cB := hcsB k hlt
        have z0 : (0 : Int) ≤ (k : Int) := by omega
        have z1 : (k : Int) < (B.length : Int) := by omega
        clear hcsA hcsB hcA hcB
        have L1 : ∀ w', Below w.heap.size w w' → (loadVar 32 ⟨ga, offa + k * 2, none⟩).run Tryd.prog w' = .ok (kv (A.getD k (0, 0))) w' := fun w' h => key_load cA hga h
        have L2 : ∀ w', Below w.heap.size w w' → (loadVar 32 ⟨gb, offb + k * 2, none⟩).run Tryd.prog w' = .ok (kv (B.getD k (0, 0))) w' := fun w' h => key_load cB hgb h
        have HE := Lib.hid (fun w => eqkey_any (A.getD k (0, 0)) (B.getD k (0, 0)) w)
        clear cA cB
        cases he : (A.getD k (0, 0) == B.getD k (0, 0)) with
        | true =>
          have hn : ∀ j, j < k + 1 → A.getD j (0, 0) = B.getD j (0, 0) := by
            intro j hj
            rcases (by omega : j < k ∨ j = k) with h1 | rfl
            · exact hall j h1
            · exact eq_of_beq he
          have HN := Lib.hid hn
          rw [he] at HE
          clear hall hn
          generalize A.getD k (0, 0) = kx at *
          generalize B.getD k (0, 0) = ky at *
          go_wp2
          refine wp_region_below w (by kernel_rfl) (by kernel_rfl) hbr ?_
          repeat (first
            | go_big_quiet_skip
            | (go_big_quiet_want
               first
                 | (go_big_quiet_op; go_big_quiet_on)
                 | (refine q_load 32 _ _ _ rfl rfl L1 ?_; simp only [Act.put, List.setIfInBounds_toArray, List.set_cons_zero, List.set_cons_succ]; go_big_quiet_on)
                 | (refine q_load 32 _ _ _ rfl rfl L2 ?_; simp only [Act.put, List.setIfInBounds_toArray, List.set_cons_zero, List.set_cons_succ]; go_big_quiet_on)
                 | (go_big_quiet_op; refine ⟨_, fun _ _ => rfl, ?_⟩; go_big_quiet_on)
                 | (go_big_quiet_op; apply Exists.intro; refine ⟨fun w' hw' => ?_, ?_⟩
                    · first
                      | (refine (HE.out w').mono ?_
                         rintro e w2 ⟨rfl, hb2⟩
                         exact ⟨rfl, hw'.trans (hb2.mono hw'.size)⟩)
                    go_big_quiet_on)))
          refine wpQuiet_nil ?_
          intro w2 hb2
          clear L1 L2 HE hbr
          go_wp2
          exact ⟨⟨k + 1, by omega, by go_num, HN.out, hb2⟩, by simp [intOf]; omega⟩
        | false =>
          have hne : decide (A = B) = false := by
            simp only [decide_eq_false_iff_not]
            intro e
            subst e
            simp at he
          have HD := Lib.hid hne
          rw [he] at HE
          clear hall hne
          generalize A.getD k (0, 0) = kx at *
          generalize B.getD k (0, 0) = ky at *
          go_wp2
          refine wp_region_below w (by kernel_rfl) (by kernel_rfl) hbr ?_
          repeat (first
            | go_big_quiet_skip
            | (go_big_quiet_want
               first
                 | (go_big_quiet_op; go_big_quiet_on)
                 | (refine q_load 32 _ _ _ rfl rfl L1 ?_; simp only [Act.put, List.setIfInBounds_toArray, List.set_cons_zero, List.set_cons_succ]; go_big_quiet_on)
                 | (refine q_load 32 _ _ _ rfl rfl L2 ?_; simp only [Act.put, List.setIfInBounds_toArray, List.set_cons_zero, List.set_cons_succ]; go_big_quiet_on)
                 | (go_big_quiet_op; refine ⟨_, fun _ _ => rfl, ?_⟩; go_big_quiet_on)
                 | (go_big_quiet_op; apply Exists.intro; refine ⟨fun w' hw' => ?_, ?_⟩
                    · first
                      | (refine (HE.out w').mono ?_
                         rintro e w2 ⟨rfl, hb2⟩
                         exact ⟨rfl, hw'.trans (hb2.mono hw'.size)⟩)
                    go_big_quiet_on)))
          refine wpQuiet_nil ?_
          intro w2 hb2
          clear L1 L2 HE hbr
          go_wp2
          go_ret
          exact ⟨by rw [HD.out]; rfl, hb2⟩
      · obtain rfl : k = B.length := by omega
        have he : decide (A = B) = true := by
          simp only [decide_eq_true_eq]
          apply List.ext_getElem hl
          intro i h1 h2
          have := hall i h2
          simpa [List.getD, h1, h2] using this
        have HD := Lib.hid he
        clear hall he
        go_wp2
        go_ret
        exact ⟨by rw [HD.out]; rfl, hbr⟩
  · have hne : decide (A = B) = false := by simp only [decide_eq_false_iff_not]; intro e; subst e; exact hl rfl
    have HD := Lib.hid hne
    have e0 : ¬ (A.length : Int) = (B.length : Int) := by omega
    clear hne
    go_enter Tryd.func39, Tryd.ntmps39
    go_wp2
    go_ret
    exact ⟨by rw [HD.out]; rfl, Below.refl _ _⟩
set_option maxRecDepth 100000 in
set_option maxHeartbeats 1000000 in
theorem samekeys_any (va vb : Value) (A B : List K2) (w : World) (ha : keysAt w va A) (hb : keysAt w vb B) (hsA : A.length ≤ 4000000) (hsB : B.length ≤ 4000000) :
    Calls Tryd.prog 34 #[va, vb] w fun e w' => e = .returned (.bool (decide (A = B))) ∧ Below w.heap.size w w' := by
  obtain ⟨aa, ca, rfl, hca, hcA⟩ := ha
  obtain ⟨ab, cb, rfl, hcb, hcB⟩ := hb
  by_cases hl : A.length = B.length
  · have e0 : (A.length : Int) = (B.length : Int) := by omega
    go_enter Tryd.func34, Tryd.ntmps34
    rw [hl] at hca hcA ⊢
    go_wp2
    go_loopw [5] (fun i wr => ∃ k : Nat, k ≤ B.length ∧ i = .int .i64 k ∧ (∀ j, j < k → A.getD j (0, 0) = B.getD j (0, 0)) ∧ Below w.heap.size w wr) (fun i _ => B.length - (intOf i).toNat)
    case atStart => exact ⟨0, Nat.zero_le _, rfl, fun j hj => by omega, Below.refl _ _⟩
    case round =>
      obtain ⟨k, hk, rfl, hall, hbr⟩ := hrel
      by_cases hlt : k < B.length
      · obtain ⟨ga, offa, rfl, hga, hcsA⟩ := hcA.resolve_left (by omega)
        obtain ⟨gb, offb, rfl, hgb, hcsB⟩ := hcB.resolve_left (by omega)
        have cA := hcsA k hlt
        have cB := hcsB k hlt
        have z0 : (0 : Int) ≤ (k : Int) := by omega
        have z1 : (k : Int) < (B.length : Int) := by omega
        clear hcsA hcsB hcA hcB
        have L1 : ∀ w', Below w.heap.size w w' → (loadVar 32 ⟨ga, offa + k * 2, none⟩).run Tryd.prog w' = .ok (kv (A.getD k (0, 0))) w' := fun w' h => key_load cA hga h
        have L2 : ∀ w', Below w.heap.size w w' → (loadVar 32 ⟨gb, offb + k * 2, none⟩).run Tryd.prog w' = .ok (kv (B.getD k (0, 0))) w' := fun w' h => key_load cB hgb h
        have HE := Lib.hid (fun w => eqkey_any (A.getD k (0, 0)) (B.getD k (0, 0)) w)
        clear cA cB
        cases he : (A.getD k (0, 0) == B.getD k (0, 0)) with
        | true =>
          have hn : ∀ j, j < k + 1 → A.getD j (0, 0) = B.getD j (0, 0) := by
            intro j hj
            rcases (by omega : j < k ∨ j = k) with h1 | rfl
            · exact hall j h1
            · exact eq_of_beq he
          have HN := Lib.hid hn
          rw [he] at HE
          clear hall hn
          generalize A.getD k (0, 0) = kx at *
          generalize B.getD k (0, 0) = ky at *
          go_wp2
          refine wp_region_below w (by kernel_rfl) (by kernel_rfl) hbr ?_
          repeat (first
            | go_big_quiet_skip
            | (go_big_quiet_want
               first
                 | (go_big_quiet_op; go_big_quiet_on)
                 | (refine q_load 32 _ _ _ rfl rfl L1 ?_; simp only [Act.put, List.setIfInBounds_toArray, List.set_cons_zero, List.set_cons_succ]; go_big_quiet_on)
                 | (refine q_load 32 _ _ _ rfl rfl L2 ?_; simp only [Act.put, List.setIfInBounds_toArray, List.set_cons_zero, List.set_cons_succ]; go_big_quiet_on)
                 | (refine q_bin _ 32 _ _ _ _ _ _ rfl rfl rfl (fun w => key_guard _ _ _ _ _ w) (fun w => key_eql _ _ w) ?_; simp only [Act.put, List.setIfInBounds_toArray, List.set_cons_zero, List.set_cons_succ]; go_big_quiet_on)
                 | (refine q_bin _ 32 _ _ _ _ _ _ rfl rfl rfl (fun w => key_guard _ _ _ _ _ w) (fun w => key_neq _ _ w) ?_; simp only [Act.put, List.setIfInBounds_toArray, List.set_cons_zero, List.set_cons_succ]; go_big_quiet_on)
                 | (go_big_quiet_op; refine ⟨_, fun _ _ => rfl, ?_⟩; go_big_quiet_on)
                 | (go_big_quiet_op; go_big_quiet_on)))
          refine wpQuiet_nil ?_
          intro w2 hb2
          rw [he]
          clear L1 L2 HE hbr
          go_wp2
          exact ⟨⟨k + 1, by omega, by go_num, HN.out, hb2⟩, by simp [intOf]; omega⟩
        | false =>
          have hne : decide (A = B) = false := by
            simp only [decide_eq_false_iff_not]
            intro e
            subst e
            simp at he
          have HD := Lib.hid hne
          rw [he] at HE
          clear hall hne
          generalize A.getD k (0, 0) = kx at *
          generalize B.getD k (0, 0) = ky at *
          go_wp2
          refine wp_region_below w (by kernel_rfl) (by kernel_rfl) hbr ?_
          repeat (first
            | go_big_quiet_skip
            | (go_big_quiet_want
               first
                 | (go_big_quiet_op; go_big_quiet_on)
                 | (refine q_load 32 _ _ _ rfl rfl L1 ?_; simp only [Act.put, List.setIfInBounds_toArray, List.set_cons_zero, List.set_cons_succ]; go_big_quiet_on)
                 | (refine q_load 32 _ _ _ rfl rfl L2 ?_; simp only [Act.put, List.setIfInBounds_toArray, List.set_cons_zero, List.set_cons_succ]; go_big_quiet_on)
                 | (refine q_bin _ 32 _ _ _ _ _ _ rfl rfl rfl (fun w => key_guard _ _ _ _ _ w) (fun w => key_eql _ _ w) ?_; simp only [Act.put, List.setIfInBounds_toArray, List.set_cons_zero, List.set_cons_succ]; go_big_quiet_on)
                 | (refine q_bin _ 32 _ _ _ _ _ _ rfl rfl rfl (fun w => key_guard _ _ _ _ _ w) (fun w => key_neq _ _ w) ?_; simp only [Act.put, List.setIfInBounds_toArray, List.set_cons_zero, List.set_cons_succ]; go_big_quiet_on)
                 | (go_big_quiet_op; refine ⟨_, fun _ _ => rfl, ?_⟩; go_big_quiet_on)
                 | (go_big_quiet_op; go_big_quiet_on)))
          refine wpQuiet_nil ?_
          intro w2 hb2
          rw [he]
          clear L1 L2 HE hbr
          go_wp2
          go_ret
          exact ⟨by rw [HD.out]; rfl, hb2⟩
      · obtain rfl : k = B.length := by omega
        have he : decide (A = B) = true := by
          simp only [decide_eq_true_eq]
          apply List.ext_getElem hl
          intro i h1 h2
          have := hall i h2
          simpa [List.getD, h1, h2] using this
        have HD := Lib.hid he
        clear hall he
        go_wp2
        go_ret
        exact ⟨by rw [HD.out]; rfl, hbr⟩
  · have hne : decide (A = B) = false := by simp only [decide_eq_false_iff_not]; intro e; subst e; exact hl rfl
    have HD := Lib.hid hne
    have e0 : ¬ (A.length : Int) = (B.length : Int) := by omega
    clear hne
    go_enter Tryd.func34, Tryd.ntmps34
    go_wp2
    go_ret
    exact ⟨by rw [HD.out]; rfl, Below.refl _ _⟩
end Go.Proofs.YtnknfmjpkphbpaaDoor
/- Words of several readings in the laws: made, measured, held against each other. -/
namespace Go.Proofs.YtnknfmjpkphbpaaDoor
open Go.ChangeShapes Go.WideShapes Go.ChangeAt Go.RowKit Go.BigFrame
set_option linter.unusedVariables false

theorem two_boxes (w : World) (va : Value) (ya : ByteArray) (vb : Value) (yb : ByteArray) :
    Below w.heap.size w ((w.alloc (.cells #[va, .string ya] 26)).alloc (.cells #[vb, .string yb] 26)) ∧
    ((w.alloc (.cells #[va, .string ya] 26)).alloc (.cells #[vb, .string yb] 26)).heap[w.heap.size]? = some (.cells #[va, .string ya] 26) ∧
    ((w.alloc (.cells #[va, .string ya] 26)).alloc (.cells #[vb, .string yb] 26)).heap[w.heap.size + 1]? = some (.cells #[vb, .string yb] 26) := by
  have hb1 := (Below.refl w.heap.size w).alloc (Nat.le_refl _) (.cells #[va, .string ya] 26)
  have e1 : (w.alloc (.cells #[va, .string ya] 26)).heap.size = w.heap.size + 1 := by simp
  have r2 := heap_alloc_new (w.alloc (.cells #[va, .string ya] 26)) (.cells #[vb, .string yb] 26)
  rw [e1] at r2
  exact ⟨hb1.alloc hb1.size _, (Below.heap_alloc _ _ w.heap.size (by simp)).trans (heap_alloc_new w _), r2⟩
theorem str_neq (a b : ByteArray) : (a.toList != b.toList) = !(decide (a = b)) := by
  rw [Bool.eq_iff_iff, bne_iff_ne, Bool.not_eq_true', decide_eq_false_iff_not, ne_eq, bytes_toList_iff]
theorem str_eq (a b : ByteArray) : (a.toList == b.toList) = decide (a = b) := by
  rw [Bool.eq_iff_iff, decide_eq_true_eq, beq_iff_eq, bytes_toList_iff]
set_option maxRecDepth 100000 in
set_option maxHeartbeats 1000000 in
theorem eqcode_any (va : Value) (A : List K2) (ya : ByteArray) (vb : Value) (B : List K2) (yb : ByteArray) (w : World) (ha : keysAt w va A) (hb : keysAt w vb B) (hsA : A.length ≤ 4000000) (hsB : B.length ≤ 4000000) :
    Calls Tryd.prog 18 #[.agg #[va, .string ya], .agg #[vb, .string yb]] w fun e w' => e = .returned (.bool (decide (A = B) && decide (ya = yb))) ∧ Below w.heap.size w w' := by
  obtain ⟨t1, t2, t3⟩ := two_boxes w va ya vb yb
  have HB := Lib.hid t1; have HX := Lib.hid t2; have HY := Lib.hid t3
  have EQ := Lib.hid (fun w' (h : Below w.heap.size w w') => eqkeys_any va vb A B w' (keysAt_below ha h) (keysAt_below hb h) hsA hsB)
  obtain ⟨x0, x1, -, -⟩ := row2_of t2
  obtain ⟨y0, y1, -, -⟩ := row2_of t3
  have hne := str_eq ya yb
  clear t1 t2 t3 ha hb
  generalize decide (A = B) = p at *
  generalize decide (ya = yb) = q at *
  go_enter Tryd.func18, Tryd.ntmps18
  go_wp2_with fail
  generalize (w.alloc (.cells #[va, .string ya] 26)).alloc (.cells #[vb, .string yb] 26) = W at *
  refine (EQ.out _ HB.out).mono ?_
  rintro e w1 ⟨rfl, hb1⟩
  have HB1 := Lib.hid (HB.out.trans (hb1.mono HB.out.size))
  obtain ⟨c0, c1⟩ := cd_cells HX.out hb1
  obtain ⟨d0, d1⟩ := cd_cells HY.out hb1
  clear hb1 x0 x1 y0 y1 HB HX HY EQ
  cases p with
  | false =>
    go_wp2
    go_ret
    exact ⟨rfl, HB1.out⟩
  | true =>
    cases q with
    | false =>
      go_wp2
      go_ret
      exact ⟨rfl, HB1.out⟩
    | true =>
      go_wp2
      go_ret
      exact ⟨rfl, HB1.out⟩
set_option maxRecDepth 100000 in
set_option maxHeartbeats 1000000 in
theorem samecode_any (va : Value) (A : List K2) (ya : ByteArray) (vb : Value) (B : List K2) (yb : ByteArray) (w : World) (ha : keysAt w va A) (hb : keysAt w vb B) (hsA : A.length ≤ 4000000) (hsB : B.length ≤ 4000000) :
    Calls Tryd.prog 14 #[.agg #[va, .string ya], .agg #[vb, .string yb]] w fun e w' => e = .returned (.bool (decide (ya = yb) && decide (A = B))) ∧ Below w.heap.size w w' := by
  obtain ⟨t1, t2, t3⟩ := two_boxes w va ya vb yb
  have HB := Lib.hid t1; have HX := Lib.hid t2; have HY := Lib.hid t3
  have EQ := Lib.hid (fun w' (h : Below w.heap.size w w') => samekeys_any va vb A B w' (keysAt_below ha h) (keysAt_below hb h) hsA hsB)
  obtain ⟨x0, x1, -, -⟩ := row2_of t2
  obtain ⟨y0, y1, -, -⟩ := row2_of t3
  have hne := str_eq ya yb
  clear t1 t2 t3 ha hb
  generalize decide (A = B) = p at *
  generalize decide (ya = yb) = q at *
  go_enter Tryd.func14, Tryd.ntmps14
  cases q with
  | false =>
    go_wp2
    go_ret
    exact ⟨by simp, HB.out⟩
  | true =>
    go_wp2_with fail
    generalize (w.alloc (.cells #[va, .string ya] 26)).alloc (.cells #[vb, .string yb] 26) = W at *
    refine (EQ.out _ HB.out).mono ?_
    rintro e w1 ⟨rfl, hb1⟩
    have HB1 := Lib.hid (HB.out.trans (hb1.mono HB.out.size))
    clear hb1 x0 x1 y0 y1 HB HX HY EQ
    go_wp2
    go_ret
    exact ⟨by simp, HB1.out⟩
end Go.Proofs.YtnknfmjpkphbpaaDoor
/- Words of several readings in the laws: made, measured. -/
namespace Go.Proofs.YtnknfmjpkphbpaaDoor
open Go.ChangeShapes Go.WideShapes Go.ChangeAt Go.RowKit Go.BigFrame
set_option linter.unusedVariables false

theorem lcd_cells {W w' : World} {b : Nat} {v : Value} {y : ByteArray} {T : TypeId} (h : W.heap[b]? = some (.cells #[v, .string y] T)) (hb : Below W.heap.size W w') :
    w'.cell? ⟨b, 0, none⟩ = some v ∧ w'.cell? ⟨b, 1, none⟩ = some (.string y) := cd_cells h hb
def szC (left : Int) (n m : Nat) : Int := if left - (n : Int) < 0 then -1 else if left - (n : Int) - (m : Int) < 0 then -1 else left - (n : Int) - (m : Int)
set_option maxRecDepth 100000 in
set_option maxHeartbeats 1000000 in
theorem szcode_any (v : Value) (ks : List K2) (y : ByteArray) (left : Int) (w : World) (h : ∃ a cap, v = .slice a ks.length cap) (hl : 0 ≤ left ∧ left ≤ 1000000000) (hs : ks.length ≤ 9223372036854775807) (hy : y.size ≤ 9223372036854775807) :
    Calls Tryd.prog 16 #[.agg #[v, .string y], .int .i64 left] w fun e w' => e = .returned (.int .i64 (szC left ks.length y.size)) ∧ Below w.heap.size w w' := by
  have hb := (Below.refl w.heap.size w).alloc (Nat.le_refl _) (.cells #[v, .string y] 40)
  have SZ := Lib.hid (fun w' => szkeys_any v ks left w' h hl hs)
  obtain ⟨x0, x1, -, -⟩ := row2_of (heap_alloc_new w (.cells #[v, .string y] 40))
  have HB := Lib.hid hb
  clear hb h
  unfold szC
  go_enter Tryd.func16, Tryd.ntmps16
  go_wp2_with fail
  generalize w.alloc (.cells #[v, .string y] 40) = W at *
  refine (SZ.out _).mono ?_
  rintro e w1 ⟨rfl, rfl⟩
  clear SZ
  by_cases h1 : left - (ks.length : Int) < 0
  · rw [if_pos h1]
    go_wp2
    go_ret
    exact ⟨rfl, HB.out⟩
  · rw [if_neg h1]
    have ew : IntKind.i64.wrap (left - (ks.length : Int) - (y.size : Int)) = left - (ks.length : Int) - (y.size : Int) := IntWalk.i64_in _ (by omega)
    by_cases h2 : left - (ks.length : Int) - (y.size : Int) < 0
    · go_wp2
      go_ret
      exact ⟨rfl, HB.out⟩
    · go_wp2
      go_ret
      exact ⟨rfl, HB.out⟩
theorem three_boxes (w : World) (v : Value) (y : ByteArray) :
    Below w.heap.size w (((w.alloc (.cells #[v, .string y] 40)).alloc (.cells #[.slice none 0 0, .string ⟨#[]⟩] 26)).alloc (.cells #[.slice none 0 0, .string ⟨#[]⟩] 26)) ∧
    (((w.alloc (.cells #[v, .string y] 40)).alloc (.cells #[.slice none 0 0, .string ⟨#[]⟩] 26)).alloc (.cells #[.slice none 0 0, .string ⟨#[]⟩] 26)).heap[w.heap.size]? = some (.cells #[v, .string y] 40) ∧
    (((w.alloc (.cells #[v, .string y] 40)).alloc (.cells #[.slice none 0 0, .string ⟨#[]⟩] 26)).alloc (.cells #[.slice none 0 0, .string ⟨#[]⟩] 26)).heap[w.heap.size + 1]? = some (.cells #[.slice none 0 0, .string ⟨#[]⟩] 26) ∧
    (((w.alloc (.cells #[v, .string y] 40)).alloc (.cells #[.slice none 0 0, .string ⟨#[]⟩] 26)).alloc (.cells #[.slice none 0 0, .string ⟨#[]⟩] 26)).heap[w.heap.size + 2]? = some (.cells #[.slice none 0 0, .string ⟨#[]⟩] 26) ∧
    (((w.alloc (.cells #[v, .string y] 40)).alloc (.cells #[.slice none 0 0, .string ⟨#[]⟩] 26)).alloc (.cells #[.slice none 0 0, .string ⟨#[]⟩] 26)).heap.size = w.heap.size + 3 := by
  have hb1 := (Below.refl w.heap.size w).alloc (Nat.le_refl _) (.cells #[v, .string y] 40)
  have hb2 := hb1.alloc hb1.size (.cells #[.slice none 0 0, .string ⟨#[]⟩] 26)
  have e1 : (w.alloc (.cells #[v, .string y] 40)).heap.size = w.heap.size + 1 := by simp
  have e2 : ((w.alloc (.cells #[v, .string y] 40)).alloc (.cells #[.slice none 0 0, .string ⟨#[]⟩] 26)).heap.size = w.heap.size + 2 := by simp
  have r2 := heap_alloc_new (w.alloc (.cells #[v, .string y] 40)) (.cells #[.slice none 0 0, .string ⟨#[]⟩] 26)
  rw [e1] at r2
  have r3 := heap_alloc_new ((w.alloc (.cells #[v, .string y] 40)).alloc (.cells #[.slice none 0 0, .string ⟨#[]⟩] 26)) (.cells #[.slice none 0 0, .string ⟨#[]⟩] 26)
  rw [e2] at r3
  exact ⟨hb2.alloc hb2.size _, (Below.heap_alloc _ _ w.heap.size (by simp; omega)).trans ((Below.heap_alloc _ _ w.heap.size (by simp)).trans (heap_alloc_new w _)), (Below.heap_alloc _ _ (w.heap.size + 1) (by simp)).trans r2, r3, by simp⟩
set_option maxRecDepth 100000 in
set_option maxHeartbeats 1000000 in
theorem tocode_any (v : Value) (ks : List K2) (y : ByteArray) (w : World) (h : keysAt w v ks) (hs : ks.length ≤ 2000000) :
    Calls Tryd.prog 17 #[.agg #[v, .string y]] w fun e w' => ∃ v', e = .returned (.agg #[v', .string y]) ∧ w'.ownsRow w.heap.size 32 2 v' ks.length (keyCells ks) ∧ Below w.heap.size w w' := by
  obtain ⟨t1, t2, t3, t4, t5⟩ := three_boxes w v y
  have HB := Lib.hid t1; have HX := Lib.hid t2; have HR := Lib.hid t3; have HT := Lib.hid t4; have HS := Lib.hid t5
  have TK := Lib.hid (tokeys_any v ks (((w.alloc (.cells #[v, .string y] 40)).alloc (.cells #[.slice none 0 0, .string ⟨#[]⟩] 26)).alloc (.cells #[.slice none 0 0, .string ⟨#[]⟩] 26)) (keysAt_below h t1) hs)
  obtain ⟨x0, x1, -, -⟩ := row2_of t2
  clear t1 t2 t3 t4 t5 h
  go_enter Tryd.func17, Tryd.ntmps17
  go_wp2_with fail
  generalize ((w.alloc (.cells #[v, .string y] 40)).alloc (.cells #[.slice none 0 0, .string ⟨#[]⟩] 26)).alloc (.cells #[.slice none 0 0, .string ⟨#[]⟩] 26) = W at *
  refine TK.out.mono ?_
  rintro e w1 ⟨g, rfl, hg, ho1, hb1⟩
  have hB1 := HB.out.trans (hb1.mono HB.out.size)
  have hx1 := (hb1.block _ (Array.getElem?_eq_some_iff.1 HX.out).1).trans HX.out
  have hr1 := (hb1.block _ (Array.getElem?_eq_some_iff.1 HR.out).1).trans HR.out
  have ht1 := (hb1.block _ (Array.getElem?_eq_some_iff.1 HT.out).1).trans HT.out
  have hs := HS.out
  rw [hs] at ho1
  obtain ⟨p0, p1, -, -⟩ := row2_of hx1
  obtain ⟨q0, q1, g0, g1⟩ := row2_of ht1
  obtain ⟨c0, c1, f0, f1⟩ := row2_of hr1
  have hltx := (Array.getElem?_eq_some_iff.1 hx1).1
  have hltr := (Array.getElem?_eq_some_iff.1 hr1).1
  have hltt := (Array.getElem?_eq_some_iff.1 ht1).1
  -- the new word's own box, set
  have ht2 := set2 (.slice (some ⟨g, 0, none⟩) ks.length ks.length) (.string y) ht1
  have hr2 : ((w1.setCell ⟨w.heap.size + 2, 0, none⟩ (.slice (some ⟨g, 0, none⟩) ks.length ks.length)).setCell ⟨w.heap.size + 2, 1, none⟩ (.string y)).heap[w.heap.size + 1]? = some (.cells #[.slice none 0 0, .string ⟨#[]⟩] 26) := by
    rw [Below.heap_setCell _ _ _ _ (by simp), Below.heap_setCell _ _ _ _ (by simp)]
    exact hr1
  have ho2 := own_set2 ho1 (by omega : w.heap.size + 2 < w.heap.size + 3) (.slice (some ⟨g, 0, none⟩) ks.length ks.length) (.string y)
  have hB2 := below2 hB1 (by omega : w.heap.size ≤ w.heap.size + 2) (.slice (some ⟨g, 0, none⟩) ks.length ks.length) (.string y)
  have HT2 := Lib.hid ht2; have HR2 := Lib.hid hr2
  have L2 := Lib.hid (cd_res hr2 (.slice (some ⟨g, 0, none⟩) ks.length ks.length) y)
  have HF := Lib.hid (And.intro (own_base (own_set2 ho2 (by omega : w.heap.size + 1 < w.heap.size + 3) (.slice (some ⟨g, 0, none⟩) ks.length ks.length) (.string y)) (by omega : w.heap.size ≤ w.heap.size + 3)) (below2 hB2 (by omega : w.heap.size ≤ w.heap.size + 1) (.slice (some ⟨g, 0, none⟩) ks.length ks.length) (.string y)))
  clear ho1 ho2 hb1 hB1 hB2 hx1 hr1 ht1 ht2 hr2 HB HX HR HT HS TK x0 x1 hs
  go_wp2_with fail
  refine bodyPost_ret (v := .agg #[.slice (some ⟨g, 0, none⟩) ks.length ks.length, .string y]) ?_ rfl ⟨_, rfl, HF.out.1, HF.out.2⟩
  rw [results_cell (p := 2) (ty := 26) (by kernel_rfl)]
  have l2 := L2.out
  simp [asAddr, Result.andThen, l2]
end Go.Proofs.YtnknfmjpkphbpaaDoor
