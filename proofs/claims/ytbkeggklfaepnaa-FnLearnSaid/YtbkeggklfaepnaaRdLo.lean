/- The model's chapter 4, walked: a reading learned by no list; what is learned, in one. -/
import Derived.Test.YtbkeggklfaepnaaRdLn
namespace Go.Proofs.Ytbkeggklfaepnaa
open Go.ChangeShapes Go.WideShapes Go.ChangeAt Go.RowKit Go.BigFrame
set_option linter.unusedVariables false

set_option maxRecDepth 100000 in
set_option maxHeartbeats 2000000 in
theorem slearn_none (v : Value) (rs : List R3) (r : R3) (w : World) (h : rdAt w v rs) (hs : rs.length ≤ 1900000) (hk : rdsOkR rs = true) (hk2 : rdOkB r = true) (hl : loadO rs r.1 = none) (hne : rs.length = 0) : Calls Try.prog 12 #[v, rv r] w fun e w' => ∃ v', e = .returned (.tuple #[v', .int .i64 0]) ∧
    w'.ownsRow w.heap.size 28 3 v' (rs.length + 1) (rdCells (rs.take (aheadN rs r.1) ++ r :: rs.drop (aheadN rs r.1))) ∧ Below w.heap.size w w' := by
  have hr : rv r = .agg #[.int .i64 r.1.1, .int .i64 r.1.2, .string r.2] := rfl
  have hown0 := World.ownsRow_made (base := w.heap.size) (e := 28) (size := 3) (w.alloc (.cells #[.int .i64 r.1.1, .int .i64 r.1.2, .string r.2] 28)) #[] 0 (by simp) (by unfold maxLen; omega) rfl
  have hb0 : Below w.heap.size w ((w.alloc (.cells #[.int .i64 r.1.1, .int .i64 r.1.2, .string r.2] 28)).alloc (.cells #[] 28)) := ((Below.refl _ _).alloc (Nat.le_refl _) _).alloc (by simp) _
  have hl0 := rdAt_below h hb0
  rw [show (w.alloc (.cells #[.int .i64 r.1.1, .int .i64 r.1.2, .string r.2] 28)).heap.size = w.heap.size + 1 by simp] at hown0
  have hbx : ((w.alloc (.cells #[.int .i64 r.1.1, .int .i64 r.1.2, .string r.2] 28)).alloc (.cells #[] 28)).heap[w.heap.size]? = some (.cells #[.int .i64 r.1.1, .int .i64 r.1.2, .string r.2] 28) := heap_first _ _ _
  go_enter Try.func12, Try.ntmps12
  rw [hr]
  go_wp2_with (at_builtin; refine wpList_append_rd rfl (.tmp 11) (.tmp 12) rfl hown0 _ rs hl0 rfl rfl (by omega) (by simp; omega) ?_; intro u w1 hown1 hgrow1)
  have hb1 : Below w.heap.size w w1 := hb0.grown hgrow1 (by simp; omega) (fun k e => (hown0.lt k e).1)
  have hx1 : w1.heap[w.heap.size]? = some (.cells #[.int .i64 r.1.1, .int .i64 r.1.2, .string r.2] 28) := by
    rw [hgrow1.block w.heap.size (by simp; omega) (fun e => by simp [Value.ownBlock] at e)]; exact hbx
  have K1 : LKeep w w1 w.heap.size r v rs u := ⟨⟨by rw [cell_of_row _ _ 0 _ _ _ hx1]; rfl, by rw [cell_of_row _ _ 1 _ _ _ hx1]; rfl, by rw [cell_of_row _ _ 2 _ _ _ hx1]; rfl⟩, (Array.getElem?_eq_some_iff.1 hx1).1, by simpa using hown1, hb1, rdAt_below h hb1⟩
  have HX1 := Lib.hid hx1
  clear hb1 hx1 hown1 hgrow1 hown0 hb0 hl0 hbx
  have HR := Lib.hid (fun w => sreadingok_any r w)
  have HRS := Lib.hid (sreadingsok_any v rs w1 K1.list (by omega))
  have HL := Lib.hid (fun w' (hw : rdAt w' v rs) => sloadof_any v rs r.1 w' hw (by omega))
  rw [hk] at HRS
  rw [hk2] at HR
  rw [hl] at HL
  go_wp2_with fail
  refine HRS.out.mono ?_
  rintro e w2 ⟨rfl, hb2⟩
  have K2 := K1.next hb2
  have HX2 := Lib.hid ((hb2.block _ (Array.getElem?_eq_some_iff.1 HX1.out).1).trans HX1.out)
  obtain ⟨q0, q1, q2⟩ := K2.box
  rw [hr] at HR
  have K2 := Lib.hid K2
  clear K1 hb2 HRS HX1
  go_wp2_with fail
  refine (HR.out _).mono ?_
  rintro e w3 ⟨rfl, hb3⟩
  have K3 := K2.out.next hb3
  have HX3 := Lib.hid ((hb3.block _ (Array.getElem?_eq_some_iff.1 HX2.out).1).trans HX2.out)
  clear K2 hb3 HR HX2 q0 q1 q2
  obtain ⟨q0, q1, q2⟩ := K3.box
  have HL3 := Lib.hid (HL.out w3 K3.list)
  have K3 := Lib.hid K3
  clear HL
  go_wp2_with fail
  refine HL3.out.mono ?_
  rintro e w4 ⟨rfl, hb4⟩
  have HX4 := Lib.hid ((hb4.block _ (Array.getElem?_eq_some_iff.1 HX3.out).1).trans HX3.out)
  have K4 := K3.out.next hb4
  clear K3 hb4 HL3 q0 q1 q2 HX3
  rw [show loadV (none : Option ByteArray) = .tuple #[.string ⟨#[]⟩, .bool false] from rfl]
  clear hl hk hk2
  obtain ⟨a, cap, rfl, hcap, hcells⟩ := h
  obtain rfl := List.length_eq_zero_iff.1 hne
  obtain ⟨a1, c1, hs1⟩ := slice_nil_run a cap
  obtain ⟨a2, c2', hs2⟩ := slice_nil_from a cap
  clear hne hcells hcap
  rw [List.length_nil] at *
  have LK : ∀ w', Below w4.heap.size w4 w' → (loadVar 26 ⟨w.heap.size, 0, none⟩).run Try.prog w' = .ok (kv r.1) w' := fun w' hb => (K4.next hb).loadk
  have HB4 := Lib.hid K4.below
  have K4 := Lib.hid K4
  go_wp2
  go_loopw [9] (fun i wr => ∃ k : Nat, k ≤ ([] : List R3).length ∧ i = .int .i64 k ∧ (∀ j, j < k → aheadB (([] : List R3).getD j r0).1 r.1 = true) ∧ Below w4.heap.size w4 wr) (fun i _ => ([] : List R3).length - (intOf i).toNat)
  case atStart => exact ⟨0, Nat.zero_le _, rfl, fun j hj => by omega, Below.refl _ _⟩
  case round =>
    obtain ⟨k, hkl, rfl, hall, hb⟩ := hrel
    obtain rfl : k = 0 := by simpa using hkl
    have HN := Lib.hid (show aheadN ([] : List R3) r.1 = 0 from rfl)
    clear hall
    go_wp2
    refine wp_region_below w4 (by kernel_rfl) (by kernel_rfl) hb ?_
    repeat (first
      | go_big_quiet_skip
      | (go_big_quiet_want
         first
           | (go_big_quiet_op; go_big_quiet_on)
           | (go_big_quiet_op; refine ⟨_, fun _ _ => rfl, ?_⟩; go_big_quiet_on)
           | (go_big_quiet_op; go_big_quiet_on)))
    refine wpQuiet_nil ?_
    intro w5 hb5
    clear LK hb HB4
    have K5 := K4.out.next hb5
    have hx5 : w5.heap[w.heap.size]? = some (.cells #[.int .i64 r.1.1, .int .i64 r.1.2, .string r.2] 28) := (hb5.block _ (Array.getElem?_eq_some_iff.1 HX4.out).1).trans HX4.out
    have q0 : w5.cell? ⟨w.heap.size, 0, none⟩ = some (.int .i64 r.1.1) := by rw [cell_of_row _ _ 0 _ _ _ hx5]; rfl
    have q1 : w5.cell? ⟨w.heap.size, 1, none⟩ = some (.int .i64 r.1.2) := by rw [cell_of_row _ _ 1 _ _ _ hx5]; rfl
    have q2 : w5.cell? ⟨w.heap.size, 2, none⟩ = some (.string r.2) := by rw [cell_of_row _ _ 2 _ _ _ hx5]; rfl
    have hlx := (Array.getElem?_eq_some_iff.1 hx5).1
    have LIT1 := Lib.hid (lit1 K5.below hx5)
    have LIT2 := Lib.hid (lit2 K5.below hx5)
    have LIT3 := Lib.hid (lit3 K5.below hx5)
    have ROW2 := Lib.hid (row2 w5 r)
    have ROW3 := Lib.hid (row3 w5 r)
    have HTL := Lib.hid (show (([] : List R3).take 0).length = 0 from rfl)
    clear K4 K5 hb5 hx5 HX4
    go_wp2_with fail
    go_region_law (first
      | (refine step_append_rd rfl (.tmp 53) (.tmp 56) rfl LIT1.out.own _ (([] : List R3).take 0) (rdAt_nil _ a1 c1) rfl rfl (by have := HTL.out; omega) LIT1.out.below.size ?_
         intro v6 w6 hown6 hgr6 hw6
         have HF6 := Lib.hid (s12_aft LIT1.out hown6 hgr6)
         have c0 : w6.cell? ⟨w.heap.size, 0, none⟩ = some (.int .i64 r.1.1) := by rw [cell_of_row _ _ 0 _ _ _ HF6.out.box]; rfl
         have c1 : w6.cell? ⟨w.heap.size, 1, none⟩ = some (.int .i64 r.1.2) := by rw [cell_of_row _ _ 1 _ _ _ HF6.out.box]; rfl
         have c2 : w6.cell? ⟨w.heap.size, 2, none⟩ = some (.string r.2) := by rw [cell_of_row _ _ 2 _ _ _ HF6.out.box]; rfl
         clear hown6 hgr6 hw6)
      | (refine step_append_rd rfl (.tmp 53) (.tmp 56) rfl LIT2.out.own _ (([] : List R3).take 0) (rdAt_nil _ a1 c1) rfl rfl (by have := HTL.out; omega) LIT2.out.below.size ?_
         intro v6 w6 hown6 hgr6 hw6
         have HF6 := Lib.hid (s12_aft LIT2.out hown6 hgr6)
         have hu6 := rd_row ((hgr6.block (w5.heap.size + 1) (by show _ < ((w5.alloc _).alloc _).heap.size; simp) (by simp [Value.ownBlock])).trans ROW2.out)
         have c0 : w6.cell? ⟨w.heap.size, 0, none⟩ = some (.int .i64 r.1.1) := by rw [cell_of_row _ _ 0 _ _ _ HF6.out.box]; rfl
         have c1 : w6.cell? ⟨w.heap.size, 1, none⟩ = some (.int .i64 r.1.2) := by rw [cell_of_row _ _ 1 _ _ _ HF6.out.box]; rfl
         have c2 : w6.cell? ⟨w.heap.size, 2, none⟩ = some (.string r.2) := by rw [cell_of_row _ _ 2 _ _ _ HF6.out.box]; rfl
         clear hown6 hgr6 hw6)
      | (refine step_append_rd rfl (.tmp 53) (.tmp 56) rfl LIT3.out.own _ (([] : List R3).take 0) (rdAt_nil _ a1 c1) rfl rfl (by have := HTL.out; omega) LIT3.out.below.size ?_
         intro v6 w6 hown6 hgr6 hw6
         have HF6 := Lib.hid (s12_aft LIT3.out hown6 hgr6)
         have hu6 := rd_row ((hgr6.block w5.heap.size (by show _ < ((w5.alloc _).alloc _).heap.size; simp; omega) (by simp [Value.ownBlock])).trans ROW3.out)
         have c0 : w6.cell? ⟨w.heap.size, 0, none⟩ = some (.int .i64 r.1.1) := by rw [cell_of_row _ _ 0 _ _ _ HF6.out.box]; rfl
         have c1 : w6.cell? ⟨w.heap.size, 1, none⟩ = some (.int .i64 r.1.2) := by rw [cell_of_row _ _ 1 _ _ _ HF6.out.box]; rfl
         have c2 : w6.cell? ⟨w.heap.size, 2, none⟩ = some (.string r.2) := by rw [cell_of_row _ _ 2 _ _ _ HF6.out.box]; rfl
         clear hown6 hgr6 hw6)
      | (refine step_append_rd rfl (.tmp 57) (.tmp 59) rfl (HF6.out.own.alloc _) _ [r] (rd_newR w6 r) rfl rfl (by have := HTL.out; simp only [List.length_singleton]; omega) (by have := HF6.out.below.size; simp; omega) ?_
         intro v7 w7 hown7 hgr7 hw7
         have HE := Lib.hid (s12_fin hown7 ((HF6.out.below.alloc HF6.out.below.size _).grown hgr7 (Nat.le_trans HF6.out.below.size (by simp)) (fun j e => (HF6.out.own.lt j e).1)))
         clear hown7 hgr7 hw7 HF6)
      | (refine step_append_rd rfl (.tmp 57) (.tmp 59) rfl HF6.out.own _ [r] hu6 rfl rfl (by have := HTL.out; simp only [List.length_singleton]; omega) HF6.out.below.size ?_
         intro v7 w7 hown7 hgr7 hw7
         have HE := Lib.hid (s12_fin hown7 (HF6.out.below.grown hgr7 HF6.out.below.size (fun j e => (HF6.out.own.lt j e).1)))
         clear hown7 hgr7 hw7 HF6 hu6))
    all_goals
      clear LIT1 LIT2 LIT3 ROW2 ROW3 q0 q1 q2 hlx
      have h7 := HE.out.1
      rw [HTL.out] at h7
      have HB7 := Lib.hid HE.out.2
      clear HE
      go_wp2_with (at_builtin; refine wpList_append_rd rfl (.tmp 61) (.tmp 64) rfl h7 _ (([] : List R3).drop 0) (rdAt_nil _ a2 c2') rfl rfl (by first | (simp; done) | (simp; omega)) HB7.out.size ?_; intro v8 w8 hown8 hgr8)
      have HE8 := Lib.hid (s13_fin HN.out hkl hown8 (HB7.out.grown hgr8 HB7.out.size (fun j e => (h7.lt j e).1)))
      clear hown8 hgr8 h7 HB7 hs1 hs2
      go_wp2
      go_ret2
      exact ⟨_, rfl, HE8.out.1, HE8.out.2⟩
end Go.Proofs.Ytbkeggklfaepnaa
