/- What the laws lean on (own lemmas and walks of the called functions). -/
import Derived.Test.YtbbjpjkclealfaaPf3
set_option linter.unusedVariables false
set_option linter.unusedSimpArgs false
namespace Go.Proofs.Ytbbjpjkclealfaa
open Go.ChangeShapes Go.WideShapes Go.ChangeAt Go.RowKit Go.BigFrame
set_option linter.unusedVariables false

set_option maxHeartbeats 1000000 in
theorem eqreading_any (p q : R3) (w : World) : Calls Try.prog 66 #[rv p, rv q] w fun e w' => e = .returned (.bool (decide (p = q))) ∧ Below w.heap.size w w' := by
  obtain ⟨⟨a, b⟩, s⟩ := p; obtain ⟨⟨c, d⟩, t⟩ := q
  unfold rv
  dsimp only
  have hb : Below w.heap.size w ((w.alloc (.cells #[.int .i64 a, .int .i64 b, .string s] 43)).alloc (.cells #[.int .i64 c, .int .i64 d, .string t] 43)) := ((Below.refl _ _).alloc (Nat.le_refl _) _).alloc (by simp) _
  have f1 := heap_first w (.cells #[.int .i64 c, .int .i64 d, .string t] 43) (.cells #[.int .i64 a, .int .i64 b, .string s] 43)
  have f2 : ((w.alloc (.cells #[.int .i64 a, .int .i64 b, .string s] 43)).alloc (.cells #[.int .i64 c, .int .i64 d, .string t] 43)).heap[w.heap.size + 1]? = some (.cells #[.int .i64 c, .int .i64 d, .string t] 43) := by
    have := heap_alloc_new (w.alloc (.cells #[.int .i64 a, .int .i64 b, .string s] 43)) (.cells #[.int .i64 c, .int .i64 d, .string t] 43)
    simpa using this
  have hz : ((w.alloc (.cells #[.int .i64 a, .int .i64 b, .string s] 43)).alloc (.cells #[.int .i64 c, .int .i64 d, .string t] 43)).heap.size = w.heap.size + 1 + 1 := by simp
  have HE := fun w => eqkey_any (a, b) (c, d) w
  go_enter Try.func66, Try.ntmps66
  go_wp2_with fail
  generalize ((w.alloc (.cells #[.int .i64 a, .int .i64 b, .string s] 43)).alloc (.cells #[.int .i64 c, .int .i64 d, .string t] 43)) = W at *
  have cs : W.cell? ⟨w.heap.size, 2, none⟩ = some (.string s) := by rw [cell_of_row _ _ 2 _ _ _ f1]; rfl
  have ct : W.cell? ⟨w.heap.size + 1, 2, none⟩ = some (.string t) := by rw [cell_of_row _ _ 2 _ _ _ f2]; rfl
  refine (HE _).mono ?_
  rintro e w1 ⟨rfl, hb1⟩
  have cs1 := (hb1.cell (p := ⟨w.heap.size, 2, none⟩) (by rw [hz]; dsimp only; omega)).trans cs
  have ct1 := (hb1.cell (p := ⟨w.heap.size + 1, 2, none⟩) (by rw [hz]; dsimp only; omega)).trans ct
  have hB := hb.trans (hb1.mono hb.size)
  clear f1 f2 cs ct HE hb hb1 hz
  by_cases hk : (a, b) = (c, d)
  · have e1 : ((a, b) == (c, d)) = true := by rw [hk]; exact beq_self_eq_true _
    rw [e1]
    by_cases h3 : s = t
    · have e2 : s.toList = t.toList := by rw [h3]
      have e3 : decide (((a, b), s) = ((c, d), t)) = true := by rw [hk, h3]; simp
      have e4 : (s == t) = true := by rw [Go.beq_toListBytes, e2]; simp
      have E3 := Lib.hid e3
      clear e1 hk h3 e3
      go_wp2
      go_ret
      exact ⟨by rw [E3.out]; rfl, hB⟩
    · have e2 : ¬ s.toList = t.toList := fun h => h3 ((bytes_toList_iff _ _).1 h)
      have e3 : decide (((a, b), s) = ((c, d), t)) = false := by simp [h3]
      have e4 : (s.toList == t.toList) = false := beq_eq_false_iff_ne.2 e2
      have E3 := Lib.hid e3
      clear e1 hk h3 e3
      go_wp2
      go_ret
      exact ⟨by rw [E3.out]; rfl, hB⟩
  · have e1 : ((a, b) == (c, d)) = false := beq_eq_false_iff_ne.2 hk
    have e3 : decide (((a, b), s) = ((c, d), t)) = false := by
      rw [decide_eq_false_iff_not]; intro h; exact hk (Prod.mk.inj h).1
    rw [e1]
    have E3 := Lib.hid e3
    clear e1 e3 hk
    go_wp2
    go_ret
    exact ⟨by rw [E3.out]; rfl, hB⟩
end Go.Proofs.Ytbbjpjkclealfaa
namespace Go.Proofs.Ytbbjpjkclealfaa
open Go.ChangeShapes Go.WideShapes Go.ChangeAt Go.RowKit Go.BigFrame
set_option linter.unusedVariables false

set_option maxRecDepth 100000 in
set_option maxHeartbeats 1000000 in
theorem samereadings_any (va vb : Value) (A B : List R3) (w : World) (ha : rdAt w va A) (hb : rdAt w vb B) (hsA : A.length ≤ 4000000) (hsB : B.length ≤ 4000000) :
    Calls Try.prog 16 #[va, vb] w fun e w' => e = .returned (.bool (decide (A = B))) ∧ Below w.heap.size w w' := by
  obtain ⟨aa, ca, rfl, hca, hcA⟩ := ha
  obtain ⟨ab, cb, rfl, hcb, hcB⟩ := hb
  by_cases hl : A.length = B.length
  · have e0 : (A.length : Int) = (B.length : Int) := by omega
    go_enter Try.func16, Try.ntmps16
    rw [hl] at hca hcA ⊢
    go_wp2
    go_loopw [5] (fun i wr => ∃ k : Nat, k ≤ B.length ∧ i = .int .i64 k ∧ (∀ j, j < k → A.getD j r0 = B.getD j r0) ∧ Below w.heap.size w wr) (fun i _ => B.length - (intOf i).toNat)
    case atStart => exact ⟨0, Nat.zero_le _, rfl, fun j hj => by omega, Below.refl _ _⟩
    case round =>
      obtain ⟨k, hk, rfl, hall, hbr⟩ := hrel
      by_cases hlt : k < B.length
      · obtain ⟨ga, offa, rfl, hga, hcsA⟩ := hcA.resolve_left (by omega)
        obtain ⟨gb, offb, rfl, hgb, hcsB⟩ := hcB.resolve_left (by omega)
        have cA := hcsA k hlt
        have cB := hcsB k hlt
        have z0 : (0 : Int) ≤ (k : Int) := by omega
        have z1 : (k : Int) < (B.length : Int) := by omega
        clear hcsA hcsB hcA hcB
        have L1 : ∀ w', Below w.heap.size w w' → (loadVar 43 ⟨ga, offa + k * 3, none⟩).run Try.prog w' = .ok (rv (A.getD k r0)) w' := fun w' h => rd_load cA hga h
        have L2 : ∀ w', Below w.heap.size w w' → (loadVar 43 ⟨gb, offb + k * 3, none⟩).run Try.prog w' = .ok (rv (B.getD k r0)) w' := fun w' h => rd_load cB hgb h
        have HE := Lib.hid (fun w => eqreading_any (A.getD k r0) (B.getD k r0) w)
        clear cA cB
        cases he : decide (A.getD k r0 = B.getD k r0) with
        | true =>
          have hn : ∀ j, j < k + 1 → A.getD j r0 = B.getD j r0 := by
            intro j hj
            rcases (by omega : j < k ∨ j = k) with h1 | rfl
            · exact hall j h1
            · exact of_decide_eq_true he
          have HN := Lib.hid hn
          rw [he] at HE
          clear hall hn
          generalize A.getD k r0 = kx at *
          generalize B.getD k r0 = ky at *
          go_wp2
          refine wp_region_below w (by kernel_rfl) (by kernel_rfl) hbr ?_
          repeat (first
            | go_big_quiet_skip
            | (go_big_quiet_want
               first
                 | (go_big_quiet_op; go_big_quiet_on)
                 | (refine q_load 43 _ _ _ rfl rfl L1 ?_; simp only [Act.put, List.setIfInBounds_toArray, List.set_cons_zero, List.set_cons_succ]; go_big_quiet_on)
                 | (refine q_load 43 _ _ _ rfl rfl L2 ?_; simp only [Act.put, List.setIfInBounds_toArray, List.set_cons_zero, List.set_cons_succ]; go_big_quiet_on)
                 | (refine q_bin _ 43 _ _ _ _ _ _ rfl rfl rfl (fun w => rd_guard _ _ _ _ _ w) (fun w => rd_eql _ _ w) ?_; simp only [Act.put, List.setIfInBounds_toArray, List.set_cons_zero, List.set_cons_succ]; go_big_quiet_on)
                 | (refine q_bin _ 43 _ _ _ _ _ _ rfl rfl rfl (fun w => rd_guard _ _ _ _ _ w) (fun w => rd_neq _ _ w) ?_; simp only [Act.put, List.setIfInBounds_toArray, List.set_cons_zero, List.set_cons_succ]; go_big_quiet_on)
                 | (go_big_quiet_op; refine ⟨_, fun _ _ => rfl, ?_⟩; go_big_quiet_on)
                 | (go_big_quiet_op; go_big_quiet_on)))
          refine wpQuiet_nil ?_
          intro w2 hb2
          rw [he]
          clear L1 L2 HE hbr
          go_wp2
          exact ⟨⟨k + 1, by omega, by go_num, HN.out, hb2⟩, by simp [intOf]; omega⟩
        | false =>
          have hne : decide (A = B) = false := by
            simp only [decide_eq_false_iff_not]
            intro e
            subst e
            simp at he
          have HD := Lib.hid hne
          rw [he] at HE
          clear hall hne
          generalize A.getD k r0 = kx at *
          generalize B.getD k r0 = ky at *
          go_wp2
          refine wp_region_below w (by kernel_rfl) (by kernel_rfl) hbr ?_
          repeat (first
            | go_big_quiet_skip
            | (go_big_quiet_want
               first
                 | (go_big_quiet_op; go_big_quiet_on)
                 | (refine q_load 43 _ _ _ rfl rfl L1 ?_; simp only [Act.put, List.setIfInBounds_toArray, List.set_cons_zero, List.set_cons_succ]; go_big_quiet_on)
                 | (refine q_load 43 _ _ _ rfl rfl L2 ?_; simp only [Act.put, List.setIfInBounds_toArray, List.set_cons_zero, List.set_cons_succ]; go_big_quiet_on)
                 | (refine q_bin _ 43 _ _ _ _ _ _ rfl rfl rfl (fun w => rd_guard _ _ _ _ _ w) (fun w => rd_eql _ _ w) ?_; simp only [Act.put, List.setIfInBounds_toArray, List.set_cons_zero, List.set_cons_succ]; go_big_quiet_on)
                 | (refine q_bin _ 43 _ _ _ _ _ _ rfl rfl rfl (fun w => rd_guard _ _ _ _ _ w) (fun w => rd_neq _ _ w) ?_; simp only [Act.put, List.setIfInBounds_toArray, List.set_cons_zero, List.set_cons_succ]; go_big_quiet_on)
                 | (go_big_quiet_op; refine ⟨_, fun _ _ => rfl, ?_⟩; go_big_quiet_on)
                 | (go_big_quiet_op; go_big_quiet_on)))
          refine wpQuiet_nil ?_
          intro w2 hb2
          rw [he]
          clear L1 L2 HE hbr
          go_wp2
          go_ret
          exact ⟨by rw [HD.out]; rfl, hb2⟩
      · obtain rfl : k = B.length := by omega
        have he : decide (A = B) = true := by
          simp only [decide_eq_true_eq]
          apply List.ext_getElem hl
          intro i h1 h2
          have := hall i h2
          simpa [List.getD, h1, h2] using this
        have HD := Lib.hid he
        clear hall he
        go_wp2
        go_ret
        exact ⟨by rw [HD.out]; rfl, hbr⟩
  · have hne : decide (A = B) = false := by simp only [decide_eq_false_iff_not]; intro e; subst e; exact hl rfl
    have HD := Lib.hid hne
    have e0 : ¬ (A.length : Int) = (B.length : Int) := by omega
    clear hne
    go_enter Try.func16, Try.ntmps16
    go_wp2
    go_ret
    exact ⟨by rw [HD.out]; rfl, Below.refl _ _⟩
end Go.Proofs.Ytbbjpjkclealfaa
namespace Go.Proofs.Ytbbjpjkclealfaa
open Go.ChangeShapes Go.WideShapes Go.ChangeAt Go.RowKit Go.BigFrame
set_option linter.unusedVariables false

theorem cells_newR (w : World) (cs : List Value) (e : TypeId) : ∀ j u, cs[j]? = some u → (w.alloc (.cells cs.toArray e)).cell? ((⟨w.heap.size, 0, none⟩ : Addr).add j) = some u := by
  intro j u h
  rw [addr_plus, Nat.zero_add, cell_of_row _ _ j _ _ _ (heap_alloc_new w _)]
  simpa using h
theorem map_getD_key (rs : List R3) (i : Nat) : (rs.map (·.1)).getD i (0, 0) = (rs.getD i r0).1 := by
  simp only [List.getD, List.getElem?_map]
  cases rs[i]? <;> rfl
theorem rdsOk_split (rs : List R3) : rdsOkR rs = (rs.all rdOkB && keysOkR (rs.map (·.1))) := by
  rw [Bool.eq_iff_iff]
  simp only [rdsOkR, keysOkR, Bool.and_eq_true, List.all_eq_true, List.mem_range, List.length_map, rdStep, stepB, map_getD_key]
  constructor
  · intro h
    refine ⟨fun r hr => ?_, fun i hi => ?_⟩
    · obtain ⟨i, hi, rfl⟩ := List.getElem_of_mem hr
      have := (h i hi).1
      simpa [List.getD, hi] using this
    · have := h i hi
      refine ⟨?_, this.2⟩
      have h1 := this.1
      simp only [rdOkB, Bool.and_eq_true] at h1
      exact h1.1
  · rintro ⟨h1, h2⟩ i hi
    refine ⟨?_, (h2 i hi).2⟩
    have := h1 rs[i] (List.getElem_mem hi)
    simpa [List.getD, hi] using this
theorem rdsOk_all {rs : List R3} (h : ∀ j, j < rs.length → rdOkB (rs.getD j r0) = true) : rdsOkR rs = keysOkR (rs.map (·.1)) := by
  rw [rdsOk_split, show rs.all rdOkB = true from ?_, Bool.true_and]
  rw [List.all_eq_true]
  intro r hr
  obtain ⟨i, hi, rfl⟩ := List.getElem_of_mem hr
  simpa [List.getD, hi] using h i hi
theorem rdsOk_not {rs : List R3} {k : Nat} (hk : k < rs.length) (h : rdOkB (rs.getD k r0) = false) : rdsOkR rs = false := by
  refine rdStep_false hk ?_
  unfold rdStep
  rw [h]; rfl
theorem keys_take_snoc (rs : List R3) (k : Nat) (h : k < rs.length) : (rs.take (k + 1)).map (·.1) = (rs.take k).map (·.1) ++ [(rs.getD k r0).1] := by
  rw [List.take_succ_eq_append_getElem h, List.map_append]
  simp [List.getD, h]
set_option maxRecDepth 100000 in
set_option maxHeartbeats 1000000 in
theorem ireadingsok_any (v : Value) (rs : List R3) (w : World) (h : rdAt w v rs) (hs : rs.length ≤ 2000000) : Calls Try.prog 18 #[v] w fun e w' => e = .returned (.bool (rdsOkR rs)) ∧ Below w.heap.size w w' := by
  obtain ⟨i0, hi, hz0, hz1, hz2⟩ := info_parts infoK
  obtain ⟨a, cap, rfl, hcap, hcells⟩ := h
  go_enter Try.func18, Try.ntmps18
  obtain ⟨W0, hmk, hown0, hgr0⟩ := run_make_own (P := Try.prog) w w.heap.size 25 41 i0 (.agg #[.int .i64 0, .int .i64 0]) 2 Try.underlying25 hi hz0 hz1 .i64 .i64 rs.length (by rw [hz2]; omega) (by unfold maxLen; omega) (Nat.le_refl _)
  have hb0 : Below w.heap.size w W0 := (Below.refl w.heap.size w).grown hgr0 (Nat.le_refl _) (fun k e => by cases e)
  clear hgr0
  go_wp2
  clear hmk
  go_loopw [3, 11] (fun x i wr => ∃ k : Nat, k ≤ rs.length ∧ i = .int .i64 k ∧ wr.ownsRow w.heap.size 41 2 x k (keyCells ((rs.take k).map (·.1))) ∧ (∀ j, j < k → rdOkB (rs.getD j r0) = true) ∧ Below w.heap.size w wr) (fun _ i _ => rs.length - (intOf i).toNat)
  case atStart => exact ⟨0, Nat.zero_le _, rfl, hown0, fun j hj => by omega, hb0⟩
  case round =>
    clear hown0 hb0
    obtain ⟨k, hk, rfl, hown, hall, hb⟩ := hrel
    by_cases hlt : k < rs.length
    · obtain ⟨g, off, rfl, hg, hcs⟩ := hcells.resolve_left (by omega)
      have z0 : (0 : Int) ≤ (k : Int) := by omega
      have z1 : (k : Int) < (rs.length : Int) := by omega
      have c1 := hcs k hlt
      rename_i wr
      have C1 : wr.cell? ⟨g, off + k * 3, none⟩ = some (.int .i64 (rs.getD k r0).1.1) := (hb.cell (p := ⟨g, off + k * 3, none⟩) hg).trans c1.1
      have C2 : wr.cell? ⟨g, off + k * 3 + 1, none⟩ = some (.int .i64 (rs.getD k r0).1.2) := (hb.cell (p := ⟨g, off + k * 3 + 1, none⟩) hg).trans c1.2.1
      have C3 : wr.cell? ⟨g, off + k * 3 + 2, none⟩ = some (.string (rs.getD k r0).2) := (hb.cell (p := ⟨g, off + k * 3 + 2, none⟩) hg).trans c1.2.2
      have HTS := Lib.hid (keys_take_snoc rs k hlt)
      have HNO := Lib.hid (fun (h : rdOkB (rs.getD k r0) = false) => rdsOk_not hlt h)
      have hall2 : rdOkB (rs.getD k r0) = true → ∀ j, j < k + 1 → rdOkB (rs.getD j r0) = true := by
        intro hx j hj
        rcases (by omega : j < k ∨ j = k) with h1 | rfl
        · exact hall j h1
        · exact hx
      have HALL := Lib.hid hall2
      clear hcells hcs c1 hall hall2
      generalize rs.getD k r0 = kx at *
      obtain ⟨⟨p, q⟩, y⟩ := kx
      dsimp only at C1 C2 C3 HTS
      have HK := Lib.hid (fun w => ireadingok_any ((p, q), y) w)
      have hbx : (wr.alloc (.cells #[.int .i64 p, .int .i64 q, .string y] 43)).heap[wr.heap.size]? = some (.cells #[.int .i64 p, .int .i64 q, .string y] 43) := heap_alloc_new wr _
      have HO1 := Lib.hid (hown.alloc (.cells #[.int .i64 p, .int .i64 q, .string y] 43))
      have HB1 := Lib.hid (hb.alloc hb.size (.cells #[.int .i64 p, .int .i64 q, .string y] 43))
      have HBX := Lib.hid hbx
      have hbz := hb.size
      clear hbx hb hown
      go_wp2_with fail
      refine (HK.out _).mono ?_
      unfold rv at *
      rintro e w2 ⟨rfl, hb2⟩
      have hown2 := own_below HO1.out hb2
      have hbw2 := HB1.out.trans (hb2.mono HB1.out.size)
      have hz2' := hbw2.size
      have hx2 : w2.heap[wr.heap.size]? = some (.cells #[.int .i64 p, .int .i64 q, .string y] 43) := (hb2.block _ (by simp)).trans HBX.out
      have D1 : w2.cell? ⟨wr.heap.size, 0, none⟩ = some (.int .i64 p) := by rw [cell_of_row _ _ 0 _ _ _ hx2]; rfl
      have D2 : w2.cell? ⟨wr.heap.size, 1, none⟩ = some (.int .i64 q) := by rw [cell_of_row _ _ 1 _ _ _ hx2]; rfl
      have HOL := Lib.hid (fun b (e : u3.ownBlock = some b) => (hown2.lt b e).1)
      clear HO1 HB1 HBX hb2 hx2 C1 C2 C3 HK
      cases hko : rdOkB ((p, q), y) with
      | false =>
        have HF := Lib.hid (HNO.out hko)
        clear HNO HALL HTS hko
        go_wp2
        go_ret
        exact ⟨by rw [HF.out]; rfl, hbw2⟩
      | true =>
        have HA := Lib.hid (HALL.out hko)
        clear HNO HALL hko
        go_wp2_with (at_builtin; refine wpList_append_own _ rfl (.tmp 18) (.tmp 21) 25 rfl w.heap.size 41 i0 (.agg #[.int .i64 0, .int .i64 0]) 2 16 Try.underlying25 hi hz0 hz1 hz2 rfl (by decide) _ _ _ rfl (hown2.alloc _) ⟨w2.heap.size, 0, none⟩ 1 1 [.int .i64 p, .int .i64 q] rfl rfl (cells_newR _ [.int .i64 p, .int .i64 q] _) (by intro u hu; simp at hu; rcases hu with rfl | rfl <;> rfl) (by unfold maxLen; omega) (by omega) (by simp; omega) ?_; intro v6 w6 hown6 hgrow6 _)
        have hR : w6.ownsRow w.heap.size 41 2 v6 (k + 1) (keyCells ((rs.take (k + 1)).map (·.1))) := by rw [HTS.out, keyCells_snoc]; exact hown6
        have hB6 := (hbw2.alloc hz2' (.cells #[.int .i64 p, .int .i64 q] 41)).grown hgrow6 (by simp; omega) (fun g hg => (hown2.lt g hg).1)
        have HR := Lib.hid (And.intro hR hB6)
        clear hR hB6 hown6 hgrow6 hown2 hbw2 D1 D2
        go_wp2
        go_roundw
        case rel => exact ⟨k + 1, by omega, by go_num, HR.out.1, HA.out, HR.out.2⟩
        case measure => simp [intOf]; omega
    · obtain rfl : k = rs.length := by omega
      rw [List.take_length] at hown
      have hml : rs.length = (rs.map (·.1)).length := by simp
      rw [hml] at hown
      have IK := Lib.hid (fun w' (h : keysAt w' u3 (rs.map (·.1))) => ikeysok_any u3 (rs.map (·.1)) w' h (by simp; omega))
      have HA := Lib.hid (rdsOk_all hall)
      have HKA := Lib.hid (keysAt_own hown)
      clear hown hall hcells hml
      go_wp2_with fail
      refine (IK.out _ HKA.out).mono ?_
      rintro e w2 ⟨rfl, hb2⟩
      have hB2 := hb.trans (hb2.mono hb.size)
      go_wp2
      go_ret
      exact ⟨by rw [HA.out]; rfl, hB2⟩
end Go.Proofs.Ytbbjpjkclealfaa
namespace Go.Proofs.Ytbbjpjkclealfaa
open Go.ChangeShapes Go.WideShapes Go.ChangeAt Go.RowKit Go.BigFrame
set_option linter.unusedVariables false
set_option linter.unusedSimpArgs false

/-- the words of readings, one each -/
def oneC (r : R3) : C2 := ([r.1], r.2)
theorem solveC_ok (L : List C2) : rdsOkR (solveC L) = true := by
  unfold solveC
  split
  · exact (solve_ok _).1
  · rfl
theorem solveC_span {L : List C2} {r : R3} (h : r ∈ solveC L) : ∃ hw : wOk (oneC r), Span grpW (· ∈ rowsN L L.length) ⟨oneC r, hw⟩ := by
  unfold solveC at h
  split at h
  · rename_i ha
    exact (solve_told ((agB_iff _).1 ha) r).1 h
  · cases h
theorem solveC_keyOk {L : List C2} {r : R3} (h : r ∈ solveC L) : keyOkB r.1 = true ∧ r.2.size = 4 := by
  obtain ⟨hw, -⟩ := solveC_span h
  exact ⟨((keysR_iff _).1 hw.1).1 r.1 (by simp [oneC]), hw.2⟩
theorem solveC_spanB {L : List C2} {r : R3} (h : r ∈ solveC L) : spanB L (oneC r) = true := by
  obtain ⟨hw, hs⟩ := solveC_span h
  exact (spanB_yes hw).2 hs
theorem rank_take (L : List C2) (S : List R3) (h : ∀ r ∈ S, r ∈ solveC L) : ∀ n, n ≤ S.length → L.length + n ≤ 20 → rankM (L ++ (S.take n).map oneC) = rankM L
  | 0, _, _ => by simp
  | n + 1, hn, hl => by
    have h1 := rank_take L S h n (by omega) (by omega)
    have hlt : n < S.length := by omega
    have hln : (S.take n).length = n := by rw [List.length_take]; omega
    rw [List.take_succ_eq_append_getElem hlt, List.map_append, ← List.append_assoc, List.map_singleton]
    rw [rankM_span _ (oneC S[n]) (by rw [List.length_append, List.length_map, hln]; omega) fun hw => ?_]
    · exact h1
    · obtain ⟨hw', hs⟩ := solveC_span (h S[n] (List.getElem_mem hlt))
      refine hs.mono fun x hx => ?_
      have e := rowsN_app L ((S.take n).map oneC) L.length (Nat.le_refl _)
      have hx' : x ∈ rowsN (L ++ (S.take n).map oneC) L.length := by rw [e]; exact hx
      have := rowsN_sub (L ++ (S.take n).map oneC) L.length hx' n
      rw [List.length_append, List.length_map, hln]
      exact this
theorem rank_with (L : List C2) (h : L.length + (solveC L).length ≤ 20) : rankM (L ++ (solveC L).map oneC) = rankM L := by
  have := rank_take L (solveC L) (fun r hr => hr) _ (Nat.le_refl _) h
  rwa [List.take_length] at this
set_option maxRecDepth 100000 in
set_option maxHeartbeats 1000000 in
theorem drawsolve_any (n₀ len cap : Nat) (a : Option Addr) (zs : List Int) (w : World) (hc : CodeAt n₀ w a len zs) (hw : n₀ ≤ w.heap.size) :
    Calls Try.prog 14 #[.slice a len cap] w fun e w' => ∃ (v : Value) (us : List Value) (L : List C2), e = .returned v ∧ L.length ≤ 11 ∧ LsO w w' v us L := by
  go_enter Try.func14, Try.ntmps14
  go_wp2_with fail
  refine (new_any n₀ len cap a zs _ hc hw).mono ?_
  rintro e w1 ⟨g, rfl, hg, hst, hbn, hgrn⟩
  have HB1 := Lib.hid ((Below.refl w.heap.size w).grown hgrn (Nat.le_refl _) (by simp))
  clear hbn hgrn
  go_wp2_with fail
  refine (l07list_any n₀ g len cap a zs _ w1 hst).mono ?_
  rintro e w2 ⟨v, us, L, c2, rfl, hl, hL⟩
  have HL := Lib.hid hL
  clear hL hst
  go_wp2
  go_ret
  exact ⟨_, us, L, rfl, hl, HL.out.end HB1.out hg⟩
/-- all words, and some readings' behind them -/
structure AllI (w wr : World) (v : Value) (L : List C2) (M : List R3) (i : Nat) : Prop where
  below : Below w.heap.size w wr
  own : ∃ us, cdOwn wr w.heap.size v us (L ++ (M.take i).map oneC)
set_option maxRecDepth 100000 in
set_option maxHeartbeats 1000000 in
theorem fnsolve_walk (a0 : Option Addr) (len0 cap0 : Nat) (z0 : List Int) (w : World) (w0 : IsRow .u8 w a0 len0 cap0 z0) :
    Calls Try.prog 4 #[.slice a0 len0 cap0] w fun e w' => e = .returned (.bool true) ∧ Below w.heap.size w w' := by
  by_cases hbig : len0 ≤ 1048576
  · have HC := Lib.hid (codeAt_of w0 hbig)
    clear w0
    go_enter Try.func4, Try.ntmps4
    go_wp2_with fail
    refine (big_any _ _ _ _ hbig).mono ?_
    rintro e w1 ⟨rfl, rfl⟩
    go_wp2_with fail
    refine (drawsolve_any w1.heap.size len0 cap0 a0 z0 w1 HC.out (Nat.le_refl _)).mono ?_
    rintro e w2 ⟨v, us, L, rfl, hl, hL⟩
    have HB2 := Lib.hid hL.below
    have HA2 := Lib.hid (cdAv_any hL.own.to)
    have hk2 : ∀ x ∈ L, x.1.length ≤ 2000000 := fun x hx => by have := (hL.bd x hx).1; omega
    have HK := Lib.hid hk2
    obtain ⟨av, cv, rfl, -, -⟩ := hL.own.to
    clear hL hk2 HC
    go_wp2_with fail
    refine (isolve_any _ L w2 HA2.out (by omega) HK.out).mono ?_
    rintro e w3 ⟨vo, rfl, ho3, hb3⟩
    have hM20 := solveC_len L
    have hMok := solveC_ok L
    have HMK := Lib.hid (fun r hr => solveC_keyOk (L := L) (r := r) hr)
    have HMS := Lib.hid (fun r hr => solveC_spanB (L := L) (r := r) hr)
    have HMR := Lib.hid (rank_with L)
    have hMn : agB (baseG ordW (rowsN L L.length)).2 = false → solveC L = [] := fun h => by unfold solveC; rw [h]; rfl
    have HMN := Lib.hid hMn
    clear hMn
    have SS := Lib.hid (fun wx (hb : Below w2.heap.size w2 wx) => ssolve_any _ L wx (cdAv_below HA2.out hb) (by omega) HK.out)
    generalize solveC L = M at *
    have HB3 := Lib.hid hb3
    have HO3 := Lib.hid ho3
    obtain ⟨ao, co, rfl, -, -⟩ := rdAt_own ho3
    clear ho3 hb3
    go_wp2_with fail
    refine (SS.out _ HB3.out).mono ?_
    rintro e w4 ⟨vs, rfl, ho4, hb4⟩
    have HB4 := Lib.hid (HB3.out.trans (hb4.mono HB3.out.size))
    have HO4 := Lib.hid (own_below HO3.out hb4)
    have HS4 := Lib.hid ho4
    clear ho4 hb4 SS HO3 HB3
    go_wp2_with fail
    refine (samereadings_any _ _ M M w4 (rdAt_own HO4.out) (rdAt_own HS4.out) (by omega) (by omega)).mono ?_
    rintro e w5 ⟨rfl, hb5⟩
    have HB5 := Lib.hid (HB4.out.trans (hb5.mono HB4.out.size))
    have HO5 := Lib.hid (own_below HO4.out hb5)
    clear hb5 HB4 HO4 HS4
    have hdt : decide (M = M) = true := decide_eq_true rfl
    go_wp2_with fail
    refine (ireadingsok_any _ M w5 (rdAt_own HO5.out) (by omega)).mono ?_
    rintro e w6 ⟨rfl, hb6⟩
    rw [hMok]
    have HB6 := Lib.hid (HB5.out.trans (hb6.mono HB5.out.size))
    have HO6 := Lib.hid (own_below HO5.out hb6)
    clear hb6 HB5 HO5 hdt
    go_wp2_with fail
    refine (sagreed_any _ L w6 (cdAv_below HA2.out HB6.out) (by omega) HK.out).mono ?_
    rintro e w7 ⟨rfl, hb7⟩
    have HB7 := Lib.hid (HB6.out.trans (hb7.mono HB6.out.size))
    have HO7 := Lib.hid (own_below HO6.out hb7)
    clear hb7 HB6 HO6
    cases hag : agB (baseG ordW (rowsN L L.length)).2 with
    | false =>
      have hM0 := HMN.out hag
      clear hag
      have hl0 : (M.length : Int) = 0 := by rw [hM0]; rfl
      clear hM0
      go_wp2
      go_ret
      exact ⟨rfl, HB2.out.trans (HB7.out.mono HB2.out.size)⟩
    | true =>
      clear hag HMN
      go_wp2_with fail
      go_loopw [5] (fun i wr => ∃ (k : Nat) (wq : World), k ≤ M.length ∧ i = .int .i64 k ∧ wq = wr ∧ Below w2.heap.size w2 wq ∧ wq.ownsRow w2.heap.size 43 3 (.slice ao M.length co) M.length (rdCells M)) (fun i _ => M.length - (intOf i).toNat)
      case atStart => exact ⟨0, _, Nat.zero_le _, rfl, rfl, HB7.out, HO7.out⟩
      case round =>
        obtain ⟨k, wq, hk, rfl, hwq, hbq, hoq⟩ := hrel
        subst hwq
        have HBQ := Lib.hid hbq
        have HOQ := Lib.hid hoq
        clear hbq hoq HB7 HO7
        rename_i wq _ _
        by_cases hlt : k < M.length
        · have z0 : (0 : Int) ≤ (k : Int) := by omega
          have z1 : (k : Int) < (M.length : Int) := by omega
          have hrm : M.getD k r0 ∈ M := by rw [List.getD, List.getElem?_eq_getElem hlt]; exact List.getElem_mem hlt
          obtain ⟨hko, hy4⟩ := HMK.out _ hrm
          have hsb := HMS.out _ hrm
          obtain ⟨a', c', e1, -, hcs⟩ := rdAt_own HOQ.out
          cases e1
          obtain ⟨go, off, rfl, hgo, hcs⟩ := hcs.resolve_left (by omega)
          obtain ⟨c0, c1, c2⟩ := hcs k hlt
          clear hcs hrm
          generalize M.getD k r0 = r at *
          have IS := Lib.hid (fun wx => isingle_one r.1 r.2 hko hy4 wx)
          have IP := Lib.hid (fun vx wx (hb : Below w2.heap.size w2 wx) (hx : keysAt wx vx [r.1]) => ispanned_any _ L vx (oneC r) wx (cdAv_below HA2.out hb) (by omega) HK.out hx (by show 1 ≤ 2000000; omega))
          rw [hsb] at IP
          obtain ⟨⟨p, q⟩, y⟩ := r
          unfold oneC rv at *
          dsimp only at *
          clear hko hy4 hsb
          go_wp2_with fail
          refine (IS.out _).mono ?_
          rintro e w8 ⟨v8, rfl, ho8, hb8⟩
          have HB8 := Lib.hid (HBQ.out.trans (hb8.mono HBQ.out.size))
          have HO8 := Lib.hid (own_below HOQ.out hb8)
          have HU8 := Lib.hid (keysAt_own ho8)
          obtain ⟨a8, n8, k8, rfl⟩ := own_shape ho8
          clear ho8 hb8 c0 c1 c2
          go_wp2_with fail
          refine (IP.out _ _ HB8.out HU8.out).mono ?_
          rintro e w9 ⟨rfl, hb9⟩
          have HB9 := Lib.hid (HB8.out.trans (hb9.mono HB8.out.size))
          have HO9 := Lib.hid (own_below HO8.out hb9)
          clear hb9 HB8 HO8 HU8 IS IP
          go_wp2_with fail
          exact ⟨⟨k + 1, _, by omega, by go_num, rfl, HB9.out, HO9.out⟩, by simp [intOf]; omega⟩
        · obtain rfl : k = M.length := by omega
          clear HMS hlt
          have HN := Lib.hid (own_lit0 wq)
          have HA := Lib.hid (av_lit (cdAv_below HA2.out HBQ.out) (.cells #[] 27))
          have HB0 := Lib.hid ((Below.refl wq.heap.size wq).alloc (Nat.le_refl _) (.cells #[] 27))
          have HS0 := Lib.hid (show wq.heap.size ≤ (wq.alloc (.cells #[] 27)).heap.size from by simp)
          go_wp2_with (at_builtin; refine wpList_append_cd rfl (.tmp 44) (.tmp 45) rfl HN.out (.slice av L.length cv) L HA.out rfl rfl (by show 0 + L.length ≤ 2000000; omega) HS0.out ?_; intro v9 w9 us9 hown9 hlen9 hgr9 hv9)
          have hI0 : AllI wq w9 v9 L M 0 := ⟨HB0.out.grown hgr9 HS0.out (fun b e => by cases e; exact Nat.le_refl _), us9, by simpa using hown9⟩
          have HI0 := Lib.hid hI0
          clear hI0 hown9 hlen9 hgr9 hv9 HN HA HB0 HS0
          go_wp2_with fail
          go_loopw [6, 7] (fun va i wr => ∃ (k : Nat) (vb : Value) (wz : World), k ≤ M.length ∧ i = .int .i64 k ∧ vb = va ∧ wz = wr ∧ AllI wq wz vb L M k) (fun _ i _ => M.length - (intOf i).toNat)
          case atStart => exact ⟨0, _, _, Nat.zero_le _, rfl, rfl, rfl, HI0.out⟩
          case round =>
            obtain ⟨k, va, wz, hk, rfl, hva, hwz, hJ⟩ := hrel
            subst hva
            subst hwz
            have HJ := Lib.hid hJ
            clear hJ HI0
            by_cases hlt : k < M.length
            · have z0 : (0 : Int) ≤ (k : Int) := by omega
              have z1 : (k : Int) < (M.length : Int) := by omega
              have hrm : M.getD k r0 ∈ M := by rw [List.getD, List.getElem?_eq_getElem hlt]; exact List.getElem_mem hlt
              have htk : M.take (k + 1) = M.take k ++ [M.getD k r0] := by rw [List.take_succ_eq_append_getElem hlt]; simp [List.getD, hlt]
              obtain ⟨hko, hy4⟩ := HMK.out _ hrm
              obtain ⟨a', c', e1, -, hcs⟩ := rdAt_below (rdAt_own HOQ.out) HJ.out.below
              cases e1
              obtain ⟨go, off, rfl, hgo, hcs⟩ := hcs.resolve_left (by omega)
              obtain ⟨c0, c1, c2⟩ := hcs k hlt
              clear hcs hrm
              generalize M.getD k r0 = r at *
              have IS := Lib.hid (fun wx => isingle_one r.1 r.2 hko hy4 wx)
              obtain ⟨us, hown⟩ := HJ.out.own
              have HOW := Lib.hid hown
              have hlen : (L ++ (M.take k).map oneC).length ≤ 40 := by simp; omega
              obtain ⟨⟨p, q⟩, y⟩ := r
              have HTK := Lib.hid (show L ++ (M.take (k + 1)).map oneC = (L ++ (M.take k).map oneC) ++ [([(p, q)], y)] by rw [htk, List.map_append, ← List.append_assoc]; rfl)
              unfold rv at *
              dsimp only at *
              clear hko hy4 htk hown
              generalize L ++ (M.take k).map oneC = A at *
              go_wp2_with fail
              refine (IS.out _).mono ?_
              rintro e w8 ⟨v8, rfl, ho8, hb8⟩
              have hba := (Below.refl w8.heap.size w8).alloc (Nat.le_refl _)
              obtain ⟨a8, n8, k8, rfl⟩ := own_shape ho8
              have HOW8 := Lib.hid ((HOW.out.below hb8).below (hba (.cells #[.slice a8 n8 k8, .string y] 27)))
              have HU8 := Lib.hid ((keysAv_ownO (o := va.ownBlock) ho8 (fun b e => (HOW.out.own.lt b e).2)).below (hba (.cells #[.slice a8 n8 k8, .string y] 27)))
              have HBB := Lib.hid (HJ.out.below.trans ((hb8.trans ((hba (.cells #[.slice a8 n8 k8, .string y] 27)).mono hb8.size)).mono HJ.out.below.size))
              have HE8 := Lib.hid (heap_alloc_new w8 (.cells #[.slice a8 n8 k8, .string y] 27))
              have HVL := Lib.hid (fun b => HOW.out.own.lt b)
              have HS8 := Lib.hid HBB.out.size
              clear hba ho8 hb8 c0 c1 c2 HOW
              go_wp2_with (at_builtin; refine wpList_append_cd1 rfl (.tmp 53) (.tmp 59) rfl HOW8.out w8.heap.size (.slice a8 n8 k8) ([(p, q)], y) HE8.out ⟨_, _, _, rfl⟩ HU8.out rfl rfl (by omega) HS8.out ?_; intro v9 w9 hown9 hgr9 hv9)
              have hN : AllI wq w9 v9 L M (k + 1) := ⟨HBB.out.grown hgr9 HBB.out.size (fun b e => (HVL.out b e).1), _, by rw [HTK.out]; exact hown9⟩
              have HN := Lib.hid hN
              clear hN hown9 hgr9 hv9 HOW8 HU8 HBB HE8 HVL HS8 HTK HJ
              go_wp2_with fail
              exact ⟨⟨k + 1, _, _, by omega, by go_num, rfl, rfl, HN.out⟩, by simp [intOf]; omega⟩
            · obtain rfl : k = M.length := by omega
              obtain ⟨us, hown⟩ := HJ.out.own
              rw [List.take_length] at hown
              have HA := Lib.hid (cdAv_any hown.to)
              have hlen : (L ++ M.map oneC).length = L.length + M.length := by simp
              have hks : ∀ x ∈ L ++ M.map oneC, x.1.length ≤ 2000000 := by
                intro x hx
                rcases List.mem_append.1 hx with hx | hx
                · exact HK.out x hx
                · obtain ⟨r, -, rfl⟩ := List.mem_map.1 hx
                  show 1 ≤ 2000000; omega
              have HKS := Lib.hid hks
              have HBJ := Lib.hid (HBQ.out.trans (HJ.out.below.mono HBQ.out.size))
              have HRK := Lib.hid HMR.out
              have HLEN := Lib.hid hlen
              obtain ⟨aa, ca, rfl, -, -⟩ := hown.to
              clear hown hks hlen HJ HMR HMK hlt
              generalize L ++ M.map oneC = A at *
              have r1 := rankM_le A
              have r2 := rankM_le L
              go_wp2_with fail
              refine (irank_any _ A _ HA.out (by have := HLEN.out; omega) HKS.out).mono ?_
              rintro e wA ⟨rfl, hbA⟩
              have HBA := Lib.hid (HBJ.out.trans (hbA.mono HBJ.out.size))
              clear hbA HA HKS HBJ
              go_wp2_with fail
              refine (irank_any _ L _ (cdAv_below HA2.out HBA.out) (by omega) HK.out).mono ?_
              rintro e wB ⟨rfl, hbB⟩
              have HBB := Lib.hid (HBA.out.trans (hbB.mono HBA.out.size))
              clear hbB HBA
              by_cases he : rankM A = rankM L
              · rw [he]
                clear he
                go_wp2
                go_ret
                exact ⟨rfl, HB2.out.trans (HBB.out.mono HB2.out.size)⟩
              · have i1 : ¬ ((rankM A : Nat) : Int) = ((rankM L : Nat) : Int) := by omega
                have i2 : (20 : Int) < (A.length : Int) := by
                  have h1 := HLEN.out
                  rcases Nat.lt_or_ge 20 (L.length + M.length) with h2 | h2
                  · omega
                  · exact absurd (HRK.out h2) he
                clear he
                generalize rankM A = ra at *
                generalize rankM L = rl at *
                go_wp2
                go_ret
                exact ⟨rfl, HB2.out.trans (HBB.out.mono HB2.out.size)⟩
  · go_enter Try.func4, Try.ntmps4
    go_wp2_with fail
    refine (big_true _ _ _ _ hbig).mono ?_
    rintro e w1 ⟨rfl, rfl⟩
    go_wp2
    go_ret
    exact ⟨rfl, Below.refl _ _⟩
end Go.Proofs.Ytbbjpjkclealfaa
