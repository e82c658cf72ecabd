/- The program's chapter 4, walked: a reading learned. -/
import Derived.Test.YtbkeggklfaepnaaRdLi
namespace Go.Proofs.Ytbkeggklfaepnaa
open Go.ChangeShapes Go.WideShapes Go.ChangeAt Go.RowKit Go.BigFrame Go.Maps
set_option linter.unusedVariables false

set_option maxRecDepth 100000 in
set_option maxHeartbeats 2000000 in
theorem ilearn_same (v : Value) (rs : List R3) (r : R3) (w : World) (h : rdAt w v rs) (hs : rs.length ≤ 1900000) (hx : ∀ q ∈ rs, q.2.size ≤ 2000000) (hok : rdsOkR rs = true) (hkr : rdOkB r = true) (l : ByteArray) (hl : loadO rs r.1 = some l) (hne : l = r.2) : Calls Try.prog 11 #[v, rv r] w fun e w' => ∃ v', e = .returned (.tuple #[v', .int .i64 1]) ∧ w'.ownsRow w.heap.size 28 3 v' rs.length (rdCells rs) ∧ Below w.heap.size w w' := by
  have HC := Lib.hid (fun w' (hb : Below w.heap.size w w') => icopyrds_any v rs w' (rdAt_below h hb) (by omega) hx)
  have HR := Lib.hid (fun w' => ireadingok_any r w')
  have HS := Lib.hid (fun w' (hb : Below w.heap.size w w') => ireadingsok_any v rs w' (rdAt_below h hb) (by omega))
  have HL := Lib.hid (fun w' (hb : Below w.heap.size w w') => ilearned_any v rs r w' (rdAt_below h hb) hs hx (by have := (rdOk_key hkr).2; omega))
  have HLO := Lib.hid (fun w' (hb : Below w.heap.size w w') => iloadsof_any v rs w' (rdAt_below h hb) (by omega) (rdsOk_keys hok).1)
  have HLK := Lib.hid (fun (w' : World) (b n : Nat) (h' : w'.ownsMap Try.prog 26 fourE b n (loadsD rs (.map []))) => look_arr h' hok (rdOk_key hkr).1)
  have HLB := Lib.hid (fun w' => iloadbytes_any r.2 w' (rdOk_key hkr).2)
  rw [hkr] at HR
  rw [hok] at HS
  obtain ⟨q, hq, hqk, hql⟩ := loadO_mem rs r.1 l hl
  have hl4 : l.size = 4 := by rw [← hql]; exact (rdOk_key ((rdsOk_keys hok).1 q hq)).2
  have HH4 := Lib.hid hl4
  have HY4 := Lib.hid (rdOk_key hkr).2
  have HEQ := Lib.hid (show (l.data.toList == r.2.data.toList) = true by rw [hne]; simp)
  rw [hl] at HLK
  obtain ⟨a0, a1, a2, a3, ha⟩ := arr4_lit l hl4
  rw [show (some l : Option ByteArray).getD zero4 = l from rfl, show (some l : Option ByteArray).isSome = true from rfl, ha] at HLK
  have HA := Lib.hid ha
  clear hl ha hl4 hq hqk hql q hne
  obtain ⟨⟨n, s⟩, y⟩ := r
  unfold rv kv at *
  dsimp only at *
  have HB0 := Lib.hid ((Below.refl w.heap.size w).alloc (Nat.le_refl _) (.cells #[.int .i64 n, .int .i64 s, .string y] 28))
  have HX0 := Lib.hid (heap_alloc_new w (.cells #[.int .i64 n, .int .i64 s, .string y] 28))
  have HSZ := Lib.hid (show (w.alloc (.cells #[.int .i64 n, .int .i64 s, .string y] 28)).heap.size = w.heap.size + 1 by simp)
  clear h hx hkr hok
  go_enter Try.func11, Try.ntmps11
  go_wp2_with fail
  refine (HR.out _).mono ?_
  rintro e w1 ⟨rfl, hb1⟩
  have HB1 := Lib.hid (HB0.out.trans (hb1.mono HB0.out.size))
  have HX1 := Lib.hid ((hb1.block _ (by rw [HSZ.out]; omega)).trans HX0.out)
  clear hb1
  go_wp2_with fail
  refine (HS.out _ HB1.out).mono ?_
  rintro e w2 ⟨rfl, hb2⟩
  have HB2 := Lib.hid (HB1.out.trans (hb2.mono HB1.out.size))
  have hx2 : w2.heap[w.heap.size]? = some (.cells #[.int .i64 n, .int .i64 s, .string y] 28) := (hb2.block _ (Array.getElem?_eq_some_iff.1 HX1.out).1).trans HX1.out
  have d0 : w2.cell? ⟨w.heap.size, 0, none⟩ = some (.int .i64 n) := by rw [cell_of_row _ _ 0 _ _ _ hx2]; rfl
  have d1 : w2.cell? ⟨w.heap.size, 1, none⟩ = some (.int .i64 s) := by rw [cell_of_row _ _ 1 _ _ _ hx2]; rfl
  have hl2 : w.heap.size < w2.heap.size := (Array.getElem?_eq_some_iff.1 hx2).1
  have HX2 := Lib.hid hx2
  clear hb2 HB1 HX1 HB0 HX0 HR HS hx2
  go_wp2_with fail
  go_region_law (first
    | (go_simp
       go_at_call 35
       refine (HLO.out _ (by first | exact HB2.out.drew | exact HB2.out.drew.alloc HB2.out.drew.size _)).mono ?_
       rintro e w3 ⟨rfl, hown3, hb3⟩
       dsimp only
       simp only [World.size_alloc, World.size_drew] at hown3
       have hbw3 : Below w.heap.size w w3 := by first | exact HB2.out.drew.trans (hb3.mono HB2.out.drew.size) | exact (HB2.out.drew.alloc HB2.out.drew.size _).trans (hb3.mono (HB2.out.drew.alloc HB2.out.drew.size _).size)
       have hx3 : w3.heap[w.heap.size]? = some (.cells #[.int .i64 n, .int .i64 s, .string y] 28) := by
         first
           | exact (hb3.block _ hl2).trans HX2.out
           | exact (hb3.block _ (Nat.lt_of_lt_of_le hl2 (by simp))).trans ((Below.heap_alloc _ _ _ hl2).trans HX2.out)
       have c0 : w3.cell? ⟨w.heap.size, 0, none⟩ = some (.int .i64 n) := by rw [cell_of_row _ _ 0 _ _ _ hx3]; rfl
       have c1 : w3.cell? ⟨w.heap.size, 1, none⟩ = some (.int .i64 s) := by rw [cell_of_row _ _ 1 _ _ _ hx3]; rfl
       have lk1 := HLK.out _ _ _ hown3
       have lk2 := HLK.out _ _ _ (hown3.alloc (.cells #[.int .u8 0, .int .u8 0, .int .u8 0, .int .u8 0] 60))
       have hl3 : w.heap.size < w3.heap.size := (Array.getElem?_eq_some_iff.1 hx3).1
       try (have hz3 := zero_aft hb3
            obtain ⟨z0, z1, z2, z3, f0, f1, f2, f3, hzr⟩ := hz3
            have HZ3 := Lib.hid hzr
            have hl4 : w2.heap.size < w3.heap.size := (Array.getElem?_eq_some_iff.1 hzr).1
            clear hzr)
       have HB3 := Lib.hid hbw3; have HX3 := Lib.hid hx3
       clear hbw3 hx3 hown3 hb3))
  all_goals
    clear lk1 lk2 c0 c1 d0 d1 HX2 HB2 HLO HLK
    first
      | (have hF := li_b HB3.out HX3.out hl2 HZ3.out a0 a1 a2 a3
         generalize (((w3.setCell ⟨w2.heap.size, 0, none⟩ (.int .u8 a0)).setCell ⟨w2.heap.size, 1, none⟩ (.int .u8 a1)).setCell ⟨w2.heap.size, 2, none⟩ (.int .u8 a2)).setCell ⟨w2.heap.size, 3, none⟩ (.int .u8 a3) = W3 at *
         clear hl3 hl4 HB3 HX3 HZ3 z0 z1 z2 z3 f0 f1 f2 f3 hl2
         generalize w2.heap.size = b6 at *)
      | (have hF := li_a HB3.out HX3.out a0 a1 a2 a3
         generalize w3.alloc (.cells #[.int .u8 a0, .int .u8 a1, .int .u8 a2, .int .u8 a3] 60) = W3 at *
         generalize w3.heap.size = b6 at *
         clear hl3 HB3 HX3 hl2)
    have q0 : W3.cell? ⟨w.heap.size, 0, none⟩ = some (.int .i64 n) := by rw [cell_of_row _ _ 0 _ _ _ hF.rowB]; rfl
    have q1 : W3.cell? ⟨w.heap.size, 1, none⟩ = some (.int .i64 s) := by rw [cell_of_row _ _ 1 _ _ _ hF.rowB]; rfl
    have q2 : W3.cell? ⟨w.heap.size, 2, none⟩ = some (.string y) := by rw [cell_of_row _ _ 2 _ _ _ hF.rowB]; rfl
    have HF := Lib.hid hF
    clear hF
    have L6 : ∀ w', Below W3.heap.size W3 w' → (loadVar 60 ⟨b6, 0, none⟩).run Try.prog w' = .ok (arr4 l) w' := fun w' hb' => by
      have hr := (hb'.block _ (Array.getElem?_eq_some_iff.1 HF.out.row6).1).trans HF.out.row6
      rw [HA.out]
      exact run_loadVar_row (P := Try.prog) w' b6 60 60 #[.int .u8 a0, .int .u8 a1, .int .u8 a2, .int .u8 a3] (0, 0) _ hr Try.underlying60 rfl (by kernel_rfl)
    have L7 : ∀ w', Below W3.heap.size W3 w' → (loadVar 9 ⟨w.heap.size, 2, none⟩).run Try.prog w' = .ok (.string y) w' := fun w' hb' => by
      have hr := (hb'.block _ (Array.getElem?_eq_some_iff.1 HF.out.rowB).1).trans HF.out.rowB
      have hc : w'.cell? ⟨w.heap.size, 2, none⟩ = some (.string y) := by rw [cell_of_row _ _ 2 _ _ _ hr]; rfl
      have us := Try.underlying9
      clear L6 q0 q1 q2
      go_simp
    clear q0 q1 q2
    go_wp2
    refine wp_region_below W3 (by kernel_rfl) (by kernel_rfl) (Below.refl _ _) ?_
    repeat (first
      | go_big_quiet_skip
      | (go_big_quiet_want
         first
           | (go_big_quiet_op; go_big_quiet_on)
           | (refine q_load 60 _ _ _ rfl rfl L6 ?_; simp only [Act.put, List.setIfInBounds_toArray, List.set_cons_zero, List.set_cons_succ]; go_big_quiet_on)
           | (refine q_load 9 _ _ _ rfl rfl L7 ?_; simp only [Act.put, List.setIfInBounds_toArray, List.set_cons_zero, List.set_cons_succ]; go_big_quiet_on)
           | (refine q_bin _ 60 _ _ _ _ _ _ rfl rfl rfl (fun w => arr_guard _ _ _ _ _ w) (fun w => arr_eql _ _ HH4.out HY4.out w) ?_; simp only [Act.put, List.setIfInBounds_toArray, List.set_cons_zero, List.set_cons_succ]; go_big_quiet_on)
           | (go_big_quiet_op; refine ⟨_, fun _ _ => rfl, ?_⟩; go_big_quiet_on)
           | (go_big_quiet_op; apply Exists.intro; refine ⟨fun w' hw' => ?_, ?_⟩
              · first
                | (with_reducible refine (HLB.out w').mono ?_
                   rintro e w2 ⟨rfl, hb2⟩
                   exact ⟨rfl, hw'.trans (hb2.mono hw'.size)⟩)
              go_big_quiet_on)))
    refine wpQuiet_nil ?_
    intro w5 hb5
    have HB5 := Lib.hid (HF.out.below.trans (hb5.mono HF.out.below.size))
    rw [HEQ.out]
    clear L6 L7 hb5
    go_wp2_with fail
    refine (HC.out _ HB5.out).mono ?_
    rintro e w4 ⟨v4, rfl, hown4, hb4⟩
    have HE := Lib.hid (And.intro (own_base hown4 HB5.out.size) (HB5.out.trans (hb4.mono HB5.out.size)))
    clear hown4 hb4
    go_wp2
    go_ret2
    exact ⟨_, rfl, HE.out.1, HE.out.2⟩
set_option maxRecDepth 100000 in
set_option maxHeartbeats 2000000 in
theorem ilearn_other (v : Value) (rs : List R3) (r : R3) (w : World) (h : rdAt w v rs) (hs : rs.length ≤ 1900000) (hx : ∀ q ∈ rs, q.2.size ≤ 2000000) (hok : rdsOkR rs = true) (hkr : rdOkB r = true) (l : ByteArray) (hl : loadO rs r.1 = some l) (hne : l ≠ r.2) : Calls Try.prog 11 #[v, rv r] w fun e w' => ∃ v', e = .returned (.tuple #[v', .int .i64 2]) ∧ w'.ownsRow w.heap.size 28 3 v' rs.length (rdCells rs) ∧ Below w.heap.size w w' := by
  have HC := Lib.hid (fun w' (hb : Below w.heap.size w w') => icopyrds_any v rs w' (rdAt_below h hb) (by omega) hx)
  have HR := Lib.hid (fun w' => ireadingok_any r w')
  have HS := Lib.hid (fun w' (hb : Below w.heap.size w w') => ireadingsok_any v rs w' (rdAt_below h hb) (by omega))
  have HL := Lib.hid (fun w' (hb : Below w.heap.size w w') => ilearned_any v rs r w' (rdAt_below h hb) hs hx (by have := (rdOk_key hkr).2; omega))
  have HLO := Lib.hid (fun w' (hb : Below w.heap.size w w') => iloadsof_any v rs w' (rdAt_below h hb) (by omega) (rdsOk_keys hok).1)
  have HLK := Lib.hid (fun (w' : World) (b n : Nat) (h' : w'.ownsMap Try.prog 26 fourE b n (loadsD rs (.map []))) => look_arr h' hok (rdOk_key hkr).1)
  have HLB := Lib.hid (fun w' => iloadbytes_any r.2 w' (rdOk_key hkr).2)
  rw [hkr] at HR
  rw [hok] at HS
  obtain ⟨q, hq, hqk, hql⟩ := loadO_mem rs r.1 l hl
  have hl4 : l.size = 4 := by rw [← hql]; exact (rdOk_key ((rdsOk_keys hok).1 q hq)).2
  have HH4 := Lib.hid hl4
  have HY4 := Lib.hid (rdOk_key hkr).2
  have HEQ := Lib.hid (show (l.data.toList == r.2.data.toList) = false from beq_eq_false_iff_ne.2 (fun h => hne (by cases l; cases r; rename_i a b; cases b; simp at h ⊢; exact h)))
  rw [hl] at HLK
  obtain ⟨a0, a1, a2, a3, ha⟩ := arr4_lit l hl4
  rw [show (some l : Option ByteArray).getD zero4 = l from rfl, show (some l : Option ByteArray).isSome = true from rfl, ha] at HLK
  have HA := Lib.hid ha
  clear hl ha hl4 hq hqk hql q hne
  obtain ⟨⟨n, s⟩, y⟩ := r
  unfold rv kv at *
  dsimp only at *
  have HB0 := Lib.hid ((Below.refl w.heap.size w).alloc (Nat.le_refl _) (.cells #[.int .i64 n, .int .i64 s, .string y] 28))
  have HX0 := Lib.hid (heap_alloc_new w (.cells #[.int .i64 n, .int .i64 s, .string y] 28))
  have HSZ := Lib.hid (show (w.alloc (.cells #[.int .i64 n, .int .i64 s, .string y] 28)).heap.size = w.heap.size + 1 by simp)
  clear h hx hkr hok
  go_enter Try.func11, Try.ntmps11
  go_wp2_with fail
  refine (HR.out _).mono ?_
  rintro e w1 ⟨rfl, hb1⟩
  have HB1 := Lib.hid (HB0.out.trans (hb1.mono HB0.out.size))
  have HX1 := Lib.hid ((hb1.block _ (by rw [HSZ.out]; omega)).trans HX0.out)
  clear hb1
  go_wp2_with fail
  refine (HS.out _ HB1.out).mono ?_
  rintro e w2 ⟨rfl, hb2⟩
  have HB2 := Lib.hid (HB1.out.trans (hb2.mono HB1.out.size))
  have hx2 : w2.heap[w.heap.size]? = some (.cells #[.int .i64 n, .int .i64 s, .string y] 28) := (hb2.block _ (Array.getElem?_eq_some_iff.1 HX1.out).1).trans HX1.out
  have d0 : w2.cell? ⟨w.heap.size, 0, none⟩ = some (.int .i64 n) := by rw [cell_of_row _ _ 0 _ _ _ hx2]; rfl
  have d1 : w2.cell? ⟨w.heap.size, 1, none⟩ = some (.int .i64 s) := by rw [cell_of_row _ _ 1 _ _ _ hx2]; rfl
  have hl2 : w.heap.size < w2.heap.size := (Array.getElem?_eq_some_iff.1 hx2).1
  have HX2 := Lib.hid hx2
  clear hb2 HB1 HX1 HB0 HX0 HR HS hx2
  go_wp2_with fail
  go_region_law (first
    | (go_simp
       go_at_call 35
       refine (HLO.out _ (by first | exact HB2.out.drew | exact HB2.out.drew.alloc HB2.out.drew.size _)).mono ?_
       rintro e w3 ⟨rfl, hown3, hb3⟩
       dsimp only
       simp only [World.size_alloc, World.size_drew] at hown3
       have hbw3 : Below w.heap.size w w3 := by first | exact HB2.out.drew.trans (hb3.mono HB2.out.drew.size) | exact (HB2.out.drew.alloc HB2.out.drew.size _).trans (hb3.mono (HB2.out.drew.alloc HB2.out.drew.size _).size)
       have hx3 : w3.heap[w.heap.size]? = some (.cells #[.int .i64 n, .int .i64 s, .string y] 28) := by
         first
           | exact (hb3.block _ hl2).trans HX2.out
           | exact (hb3.block _ (Nat.lt_of_lt_of_le hl2 (by simp))).trans ((Below.heap_alloc _ _ _ hl2).trans HX2.out)
       have c0 : w3.cell? ⟨w.heap.size, 0, none⟩ = some (.int .i64 n) := by rw [cell_of_row _ _ 0 _ _ _ hx3]; rfl
       have c1 : w3.cell? ⟨w.heap.size, 1, none⟩ = some (.int .i64 s) := by rw [cell_of_row _ _ 1 _ _ _ hx3]; rfl
       have lk1 := HLK.out _ _ _ hown3
       have lk2 := HLK.out _ _ _ (hown3.alloc (.cells #[.int .u8 0, .int .u8 0, .int .u8 0, .int .u8 0] 60))
       have hl3 : w.heap.size < w3.heap.size := (Array.getElem?_eq_some_iff.1 hx3).1
       try (have hz3 := zero_aft hb3
            obtain ⟨z0, z1, z2, z3, f0, f1, f2, f3, hzr⟩ := hz3
            have HZ3 := Lib.hid hzr
            have hl4 : w2.heap.size < w3.heap.size := (Array.getElem?_eq_some_iff.1 hzr).1
            clear hzr)
       have HB3 := Lib.hid hbw3; have HX3 := Lib.hid hx3
       clear hbw3 hx3 hown3 hb3))
  all_goals
    clear lk1 lk2 c0 c1 d0 d1 HX2 HB2 HLO HLK
    first
      | (have hF := li_b HB3.out HX3.out hl2 HZ3.out a0 a1 a2 a3
         generalize (((w3.setCell ⟨w2.heap.size, 0, none⟩ (.int .u8 a0)).setCell ⟨w2.heap.size, 1, none⟩ (.int .u8 a1)).setCell ⟨w2.heap.size, 2, none⟩ (.int .u8 a2)).setCell ⟨w2.heap.size, 3, none⟩ (.int .u8 a3) = W3 at *
         clear hl3 hl4 HB3 HX3 HZ3 z0 z1 z2 z3 f0 f1 f2 f3 hl2
         generalize w2.heap.size = b6 at *)
      | (have hF := li_a HB3.out HX3.out a0 a1 a2 a3
         generalize w3.alloc (.cells #[.int .u8 a0, .int .u8 a1, .int .u8 a2, .int .u8 a3] 60) = W3 at *
         generalize w3.heap.size = b6 at *
         clear hl3 HB3 HX3 hl2)
    have q0 : W3.cell? ⟨w.heap.size, 0, none⟩ = some (.int .i64 n) := by rw [cell_of_row _ _ 0 _ _ _ hF.rowB]; rfl
    have q1 : W3.cell? ⟨w.heap.size, 1, none⟩ = some (.int .i64 s) := by rw [cell_of_row _ _ 1 _ _ _ hF.rowB]; rfl
    have q2 : W3.cell? ⟨w.heap.size, 2, none⟩ = some (.string y) := by rw [cell_of_row _ _ 2 _ _ _ hF.rowB]; rfl
    have HF := Lib.hid hF
    clear hF
    have L6 : ∀ w', Below W3.heap.size W3 w' → (loadVar 60 ⟨b6, 0, none⟩).run Try.prog w' = .ok (arr4 l) w' := fun w' hb' => by
      have hr := (hb'.block _ (Array.getElem?_eq_some_iff.1 HF.out.row6).1).trans HF.out.row6
      rw [HA.out]
      exact run_loadVar_row (P := Try.prog) w' b6 60 60 #[.int .u8 a0, .int .u8 a1, .int .u8 a2, .int .u8 a3] (0, 0) _ hr Try.underlying60 rfl (by kernel_rfl)
    have L7 : ∀ w', Below W3.heap.size W3 w' → (loadVar 9 ⟨w.heap.size, 2, none⟩).run Try.prog w' = .ok (.string y) w' := fun w' hb' => by
      have hr := (hb'.block _ (Array.getElem?_eq_some_iff.1 HF.out.rowB).1).trans HF.out.rowB
      have hc : w'.cell? ⟨w.heap.size, 2, none⟩ = some (.string y) := by rw [cell_of_row _ _ 2 _ _ _ hr]; rfl
      have us := Try.underlying9
      clear L6 q0 q1 q2
      go_simp
    clear q0 q1 q2
    go_wp2
    refine wp_region_below W3 (by kernel_rfl) (by kernel_rfl) (Below.refl _ _) ?_
    repeat (first
      | go_big_quiet_skip
      | (go_big_quiet_want
         first
           | (go_big_quiet_op; go_big_quiet_on)
           | (refine q_load 60 _ _ _ rfl rfl L6 ?_; simp only [Act.put, List.setIfInBounds_toArray, List.set_cons_zero, List.set_cons_succ]; go_big_quiet_on)
           | (refine q_load 9 _ _ _ rfl rfl L7 ?_; simp only [Act.put, List.setIfInBounds_toArray, List.set_cons_zero, List.set_cons_succ]; go_big_quiet_on)
           | (refine q_bin _ 60 _ _ _ _ _ _ rfl rfl rfl (fun w => arr_guard _ _ _ _ _ w) (fun w => arr_eql _ _ HH4.out HY4.out w) ?_; simp only [Act.put, List.setIfInBounds_toArray, List.set_cons_zero, List.set_cons_succ]; go_big_quiet_on)
           | (go_big_quiet_op; refine ⟨_, fun _ _ => rfl, ?_⟩; go_big_quiet_on)
           | (go_big_quiet_op; apply Exists.intro; refine ⟨fun w' hw' => ?_, ?_⟩
              · first
                | (with_reducible refine (HLB.out w').mono ?_
                   rintro e w2 ⟨rfl, hb2⟩
                   exact ⟨rfl, hw'.trans (hb2.mono hw'.size)⟩)
              go_big_quiet_on)))
    refine wpQuiet_nil ?_
    intro w5 hb5
    have HB5 := Lib.hid (HF.out.below.trans (hb5.mono HF.out.below.size))
    rw [HEQ.out]
    clear L6 L7 hb5
    go_wp2_with fail
    refine (HC.out _ HB5.out).mono ?_
    rintro e w4 ⟨v4, rfl, hown4, hb4⟩
    have HE := Lib.hid (And.intro (own_base hown4 HB5.out.size) (HB5.out.trans (hb4.mono HB5.out.size)))
    clear hown4 hb4
    go_wp2
    go_ret2
    exact ⟨_, rfl, HE.out.1, HE.out.2⟩
end Go.Proofs.Ytbkeggklfaepnaa
