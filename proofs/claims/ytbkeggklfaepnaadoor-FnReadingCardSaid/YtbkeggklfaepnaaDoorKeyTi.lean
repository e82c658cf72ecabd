/- The program's KeyText, walked. -/
import Derived.Test.YtbkeggklfaepnaaDoorKeyTs
import Derived.Test.YtbkeggklfaepnaaDoorSegs
import Derived.Test.YtbkeggklfaepnaaDoorKBox
import Derived.Maps.AppendAt
namespace Go.Proofs.YtbkeggklfaepnaaDoor
open Go.ChangeShapes Go.WideShapes Go.ChangeAt Go.RowKit Go.BigFrame
set_option linter.unusedVariables false

theorem infoS : (Tryd.prog.info? 9).map (fun i => (i.zero, i.size, i.bytes)) = some (some (.string ByteArray.empty), 1, 16) := by kernel_rfl
def ktV (ks : List K2) : List Value := ks.map fun k => .string (tB (ktL k))
theorem ktV_snoc (ks : List K2) (k : K2) : ktV (ks ++ [k]) = ktV ks ++ [.string (tB (ktL k))] := by simp [ktV]
set_option maxRecDepth 100000 in
set_option maxHeartbeats 1000000 in
theorem ikeytext_any (v : Value) (ks : List K2) (w : World) (h : keysAt w v ks) (hs : ks.length ≤ 2000000) (hin : ∀ k ∈ ks, kIn k) (hT : Lib.TabIs Tryd.prog w "internal/strconv.uint64pow10" IntKind.u64 Lib.pow10Tab) :
    Calls Tryd.prog 20 #[v] w fun e w' => e = .returned (.string (tB (keyTextL ks))) ∧ Below w.heap.size w w' := by
  obtain ⟨i0, hi, hz0, hz1, hz2⟩ := info_parts infoS
  obtain ⟨a, cap, rfl, hcap, hcells⟩ := h
  have HT := Lib.hid hT; clear hT
  go_enter Tryd.func20, Tryd.ntmps20
  obtain ⟨W0, hmk, hown0, hgr0⟩ := run_make_own (P := Tryd.prog) w w.heap.size 65 9 i0 (.string ByteArray.empty) 1 Tryd.underlying65 hi hz0 hz1 .i64 .i64 ks.length (by rw [hz2]; omega) (by unfold maxLen; omega) (Nat.le_refl _)
  have hb0 : Below w.heap.size w W0 := (Below.refl w.heap.size w).grown hgr0 (Nat.le_refl _) (fun k e => by cases e)
  clear hgr0
  go_wp2
  clear hmk
  go_loopw [3, 11] (fun x i wr => ∃ k : Nat, k ≤ ks.length ∧ i = .int .i64 k ∧ wr.ownsRow w.heap.size 9 1 x k (ktV (ks.take k)) ∧ Below w.heap.size w wr) (fun _ i _ => ks.length - (intOf i).toNat)
  case atStart => exact ⟨0, Nat.zero_le _, rfl, hown0, hb0⟩
  case round =>
    clear hown0 hb0
    obtain ⟨k, hk, rfl, hown, hb⟩ := hrel
    by_cases hlt : k < ks.length
    · obtain ⟨g, off, rfl, hg, hcs⟩ := hcells.resolve_left (by omega)
      have z0 : (0 : Int) ≤ (k : Int) := by omega
      have z1 : (k : Int) < (ks.length : Int) := by omega
      have c1 := hcs k hlt
      have hts := ktV_snoc (ks.take k) (ks.getD k (0, 0))
      rw [← take_snoc_key ks k hlt] at hts
      have hki : kIn (ks.getD k (0, 0)) := hin _ (by simp [List.getD, hlt])
      clear hcells hcs
      generalize ks.getD k (0, 0) = kx at *
      obtain ⟨p, q⟩ := kx
      rename_i wr
      have C1 : wr.cell? ⟨g, off + k * 2, none⟩ = some (.int .i64 p) := (hb.cell (p := ⟨g, off + k * 2, none⟩) hg).trans c1.1
      have C2 : wr.cell? ⟨g, off + k * 2 + 1, none⟩ = some (.int .i64 q) := (hb.cell (p := ⟨g, off + k * 2 + 1, none⟩) hg).trans c1.2
      have hbx := KBoxed.new wr (p, q)
      dsimp only at hbx
      have hown1 := hown.alloc (.cells #[.int .i64 p, .int .i64 q] 25)
      have hb1 := hb.alloc hb.size (.cells #[.int .i64 p, .int .i64 q] 25)
      have hsz1 : (wr.alloc (.cells #[.int .i64 p, .int .i64 q] 25)).heap.size = wr.heap.size + 1 := by simp
      have HOL := Lib.hid (fun b (e : u3.ownBlock = some b) => (hown.lt b e).2)
      have HB1 := Lib.hid hb1; have HO1 := Lib.hid hown1; have HBX := Lib.hid hbx; have HSZ := Lib.hid hsz1
      have hbz := hb.size
      clear hbx hown1 hb1 hown hsz1 c1
      have D1 := Lib.hid (fun w' (h : Below w.heap.size w w') => idec_any p w' hki.1.1 hki.1.2 (tab_below HT.out h))
      have D2 := Lib.hid (fun w' (h : Below w.heap.size w w') => idec_any q w' hki.2.1 hki.2.2 (tab_below HT.out h))
      change Hid (∀ w' _, Calls _ _ _ w' fun e w'' => e = .returned (.string (decB p)) ∧ Below w'.heap.size w' w'') at D1
      change Hid (∀ w' _, Calls _ _ _ w' fun e w'' => e = .returned (.string (decB q)) ∧ Below w'.heap.size w' w'') at D2
      have hkt : tB (ktL (p, q)) = decB p ++ ⟨#[46]⟩ ++ decB q := by
        unfold ktL decB
        rw [← tB_append, ← tB_append]; rfl
      rw [hkt] at hts
      have b1 := decB_size hki.1
      have b2 := decB_size hki.2
      have HTS := Lib.hid hts; clear hts hkt
      generalize decB p = dp at *
      generalize decB q = dq at *
      have u1 : ¬ 9223372036854775807 < dp.size + 1 := by omega
      have u2 : ¬ 9223372036854775807 < dp.size + 1 + dq.size := by omega
      go_wp2_with fail
      generalize wr.alloc (.cells #[.int .i64 p, .int .i64 q] 25) = W at *
      clear C1 C2
      have L1 : ∀ w', KBoxed w' wr.heap.size (p, q) → (loadVar 3 ⟨wr.heap.size, 0, none⟩).run Tryd.prog w' = .ok (.int .i64 p) w' := fun w' h => int_load h.cell0
      have L2 : ∀ w', KBoxed w' wr.heap.size (p, q) → (loadVar 3 ⟨wr.heap.size, 1, none⟩).run Tryd.prog w' = .ok (.int .i64 q) w' := fun w' h => int_load h.cell1
      refine wp_region_segs [([true, true, true, false, false, true, true], 3), ([false, false, false, false, true], 7), ([false, false, false, false, false, false, false, false, true], 9), ([], 10)] [false, false, false, false, false, false, false, false, false, false, false, true] (fun w' => KBoxed w' wr.heap.size (p, q)) (by kernel_rfl) (by kernel_rfl) (by kernel_rfl) (by intro c a d v w h; cases d <;> exact h) HBX.out ?_
      rw [wpSegs]
      try simp only [maskRows]
      repeat (first
        | go_big_quiet_skip
        | (go_big_quiet_want
           first
             | (go_big_quiet_op; go_big_quiet_on)
             | (refine q_load 3 _ _ _ rfl rfl L1 ?_; simp only [Act.put, List.setIfInBounds_toArray, List.set_cons_zero, List.set_cons_succ]; go_big_quiet_on)
             | (refine q_load 3 _ _ _ rfl rfl L2 ?_; simp only [Act.put, List.setIfInBounds_toArray, List.set_cons_zero, List.set_cons_succ]; go_big_quiet_on)
             | (go_big_quiet_op; refine ⟨_, fun _ _ => rfl, ?_⟩; go_big_quiet_on)))
      refine wpQuiet_nil ?_
      refine seg_run rfl (by rfl) (fun K hK => ?_)
      go_simp
      refine (D1.out _ (HB1.out.trans ((Below.refl _ W).drew.mono HB1.out.size))).mono ?_
      rintro e w3 ⟨rfl, hb3⟩
      have hc3 : Below W.heap.size W w3 := (Below.refl _ W).drew.trans hb3
      clear hb3
      have hx3 := HBX.out.kept (grown_of_below' hc3 none) (by simp)
      refine hK _ _ ⟨_, fun _ h => h, hx3, ?_⟩
      clear hK K
      try simp only [Act.put, List.setIfInBounds_toArray, List.set_cons_zero, List.set_cons_succ]
      rw [wpSegs]
      try simp only [maskRows]
      repeat (first
        | go_big_quiet_skip
        | (go_big_quiet_want
           first
             | (go_big_quiet_op; go_big_quiet_on)
             | (go_big_quiet_op; refine ⟨_, fun _ _ => rfl, ?_⟩; go_big_quiet_on)))
      refine wpQuiet_nil ?_
      refine seg_run rfl (by rfl) (fun K hK => ?_)
      go_simp
      refine (D2.out _ (HB1.out.trans (hc3.mono HB1.out.size))).mono ?_
      rintro e w4 ⟨rfl, hb4⟩
      have hc4 := hc3.trans (hb4.mono hc3.size)
      clear hb4 hc3
      have hx4 := HBX.out.kept (grown_of_below' hc4 none) (by simp)
      refine hK _ _ ⟨_, fun _ h => h, hx4, ?_⟩
      clear hK K
      try simp only [Act.put, List.setIfInBounds_toArray, List.set_cons_zero, List.set_cons_succ]
      rw [wpSegs]
      try simp only [maskRows]
      repeat (first
        | go_big_quiet_skip
        | (go_big_quiet_want
           first
             | (go_big_quiet_op; go_big_quiet_on)
             | (go_big_quiet_op; refine ⟨_, fun _ _ => rfl, ?_⟩; go_big_quiet_on)))
      refine wpQuiet_nil ?_
      refine seg_run rfl (by rfl) (fun K hK => ?_)
      go_simp
      have hc5 := hc4.alloc hc4.size (.cells #[.string (dp ++ ⟨#[46]⟩ ++ dq)] 9)
      have ho5 := (own_below HO1.out hc4).alloc (.cells #[.string (dp ++ ⟨#[46]⟩ ++ dq)] 9)
      have hsz4 := hc4.size
      have hszW := HSZ.out
      refine hK _ _ ⟨_, fun _ h => h, (hx4.alloc _), ?_⟩
      clear hK K
      try simp only [Act.put, List.setIfInBounds_toArray, List.set_cons_zero, List.set_cons_succ]
      rw [wpSegs]
      try simp only [maskRows]
      refine wpQuiet_nil ?_
      refine seg_run (by simp only [List.getElem?_toArray, List.getElem?_cons_succ, List.getElem?_cons_zero]; rfl) (by rfl) (fun K hK => ?_)
      refine wp_append_own _ (.tmp 15) (.tmp 24) 65 rfl w.heap.size 9 i0 (.string ByteArray.empty) 1 16 Tryd.underlying65 hi hz0 hz1 hz2 rfl (by decide) _ _ _ rfl ho5 ⟨w4.heap.size, 0, none⟩ 1 1 [.string (dp ++ ⟨#[46]⟩ ++ dq)] rfl rfl (cell_one_new _ _ _) (by simp [Value.oneCell']) (by unfold maxLen; omega) (by omega) (by simp; omega) ?_
      intro v6 w6 hown6 hgrow6 _
      have hc6 : Below w.heap.size w w6 := (HB1.out.trans (hc5.mono HB1.out.size)).grown hgrow6 (by simp; omega) (fun b e => (ho5.lt b e).1)
      have hR6 : w6.ownsRow w.heap.size 9 1 v6 (k + 1) (ktV (ks.take (k + 1))) := by rw [HTS.out]; exact hown6
      have hx6 : KBoxed w6 wr.heap.size (p, q) := (hx4.alloc _).kept hgrow6 (fun e => by have := HOL.out _ e.symm; omega)
      have HR6 := Lib.hid (And.intro hR6 hc6)
      clear hR6 hc6 hown6 hgrow6 ho5 hc5 hc4 hx4
      refine hK _ _ ⟨_, fun _ h => h, hx6, ?_⟩
      clear hK K
      try simp only [Act.put, List.setIfInBounds_toArray, List.set_cons_zero, List.set_cons_succ]
      rw [wpSegs]
      try simp only [maskRows]
      repeat (first
        | go_big_quiet_skip
        | (go_big_quiet_want
           first
             | (go_big_quiet_op; go_big_quiet_on)
             | (go_big_quiet_op; refine ⟨_, fun _ _ => rfl, ?_⟩; go_big_quiet_on)))
      refine wpQuiet_nil ?_
      clear L1 L2 D1 D2
      go_wp2
      exact ⟨⟨k + 1, by omega, by go_num, HR6.out.1, HR6.out.2⟩, by simp [intOf]; omega⟩
    · obtain rfl : k = ks.length := by omega
      rw [List.take_length] at hown
      have hlen := keyText_len _ ks rfl hin
      have hmap : (ks.map fun k => tB (ktL k)).map (·.data.toList) = ks.map ktL := by
        rw [List.map_map]; apply List.map_congr_left; intro x _; simp [tB]
      rcases hown.2 with ⟨rfl, h0⟩ | ⟨gv, cv, cur, rfl, hgb, hgh, hgn, hgm, hgs, hgt⟩
      · obtain rfl : ks = [] := List.length_eq_zero_iff.1 h0
        go_wp2_with fail
        refine (Tryd.strings_Join_none none 0 _ _).mono ?_
        rintro e w3 ⟨rfl, rfl⟩
        go_wp2
        go_ret
        exact ⟨rfl, hb⟩
      · have hJ := Tryd.strings_Join gv 0 cv (ks.map fun k => tB (ktL k)) ⟨#[44]⟩ _ (fun j x hj => by
            have hlt := (List.getElem?_eq_some_iff.1 hj).1
            rw [List.length_map] at hlt
            rw [Nat.zero_add, hown.cellAt j (by omega)]
            unfold ktV
            simp only [List.getElem?_map] at hj ⊢
            cases hk : ks[j]? with
            | none => rw [hk] at hj; cases hj
            | some y => rw [hk] at hj; cases hj; rfl) (Array.getElem?_eq_some_iff.1 hgh).1 (by simp; omega) (by simpa using hgn) (by rw [hmap]; exact Nat.le_trans hlen (by omega))
        rw [hmap, List.length_map] at hJ
        have HJ := Lib.hid hJ
        clear hJ hgs hgt hgh
        go_wp2_with fail
        refine HJ.out.mono ?_
        rintro e w3 ⟨rfl, hb3⟩
        have hbb := hb.trans (hb3.mono hb.size)
        go_wp2
        go_ret
        exact ⟨rfl, hbb⟩
end Go.Proofs.YtbkeggklfaepnaaDoor
