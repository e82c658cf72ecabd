/- What the laws lean on (own lemmas and walks of the called functions). -/
import Derived.Test.YtpfnpinoamjcjaaPa1
set_option linter.unusedVariables false
set_option linter.unusedSimpArgs false
namespace Go.Proofs.Ytpfnpinoamjcjaa
open Go.ChangeShapes Go.WideShapes Go.ChangeAt Go.RowKit Go.BigFrame
set_option linter.unusedVariables false
set_option linter.unusedSimpArgs false

theorem take_to {ks : List K2} {l : K2} {k : Nat} (hk : k ≤ ks.length) (h1 : ∀ j, j < k → aheadB (ks.getD j (0, 0)) l = true) (h2 : k = ks.length ∨ aheadB (ks.getD k (0, 0)) l = false) : (ks.takeWhile fun x => aheadB x l).length = k := by
  have e : ks = ks.take k ++ ks.drop k := (List.take_append_drop k ks).symm
  have e2 : (ks.takeWhile fun x => aheadB x l) = ks.take k := by
    conv => lhs; rw [e]
    rw [List.takeWhile_append_of_pos]
    · cases hd : ks.drop k with
      | nil => simp
      | cons y r =>
        have hi : k < ks.length := by
          rcases Nat.lt_or_ge k ks.length with h | h
          · exact h
          · rw [List.drop_eq_nil_of_le h] at hd; cases hd
        have hy : y = ks[k] := by
          rw [List.drop_eq_getElem_cons hi] at hd
          exact (List.cons.inj hd).1.symm
        have h3 := h2.resolve_left (by omega)
        have h4 : ks.getD k (0, 0) = ks[k] := by simp [List.getD, hi]
        rw [h4, ← hy] at h3
        simp [h3]
    · intro x hx
      obtain ⟨j, hj, rfl⟩ := List.getElem_of_mem hx
      rw [List.length_take] at hj
      have h3 := h1 j (by omega)
      have h4 : ks.getD j (0, 0) = ks[j] := by simp [List.getD, show j < ks.length by omega]
      rw [h4] at h3
      rw [List.getElem_take]
      exact h3
  rw [e2, List.length_take]
  omega
set_option maxRecDepth 100000 in
set_option maxHeartbeats 4000000 in
theorem slinkup_any (v : Value) (ks : List K2) (x y : Int) (w : World) (h : keysAt w v ks) (hs : ks.length ≤ 1500000) :
    Calls Try.prog 17 #[v, .int .i64 x, .int .i64 y] w fun e w' => ∃ v', e = .returned v' ∧ LlD w w' v' (upM ks x y) := by
  have HLK := Lib.hid (fun wx (hb : Below w.heap.size w wx) => slinksok_any v ks wx (keysAt_below h hb) (by omega))
  have HAT := Lib.hid (fun wx (hb : Below w.heap.size w wx) => slinkat_any v ks x y wx (keysAt_below h hb) (by omega))
  have HK := Lib.hid (fun wx (hb : Below w.heap.size w wx) => keysAt_below h hb)
  have HUM := Lib.hid (show upM ks x y = if lnsB ks = true ∧ atL ks x y < 0 then (if lnsB (insK ks (lnOf x y) (ks.takeWhile fun k => aheadB k (lnOf x y)).length) = true then insK ks (lnOf x y) (ks.takeWhile fun k => aheadB k (lnOf x y)).length else ks) else ks from rfl)
  have HOF := Lib.hid (fun w => slnof_any x y w)
  generalize atL ks x y = z at *
  generalize upM ks x y = M at *
  have HLX := Lib.hid (fun vx wx (hx : keysAt wx vx (insK ks (lnOf x y) (ks.takeWhile fun k => aheadB k (lnOf x y)).length)) => slinksok_any vx _ wx hx (by rw [ins_len _ _ _ (List.takeWhile_prefix _).length_le]; omega))
  have hkv := h
  obtain ⟨a, cap, rfl, hcap, hcells⟩ := h
  have HV0 := Lib.hid (LlD.litAt (Below.refl w.heap.size w))
  have HKX := Lib.hid (HK.out _ HV0.out.below)
  clear hkv
  go_enter Try.func17, Try.ntmps17
  go_upto_region 2 with (at_builtin; refine wpList_append_lnD rfl (.tmp 11) (.tmp 12) rfl HV0.out _ ks HKX.out rfl rfl (by simp; omega) ?_; intro v7 w7 hV7 hg7 hv7; have HS7 := Lib.hid (show LlD w w7 v7 ks from hV7); clear hV7 hg7 hv7)
  clear HKX HV0
  cases hl : lnsB ks with
  | false =>
    have HM := Lib.hid (show M = ks by rw [HUM.out, hl]; simp)
    rw [hl] at HLK
    clear hl HUM HLX HAT
    go_wp2_with fail
    refine (HLK.out _ HS7.out.below).mono ?_
    rintro e w2 ⟨rfl, hb2⟩
    have HS2 := Lib.hid (HS7.out.next hb2)
    clear hb2 HLK HS7
    go_wp2
    go_ret
    exact ⟨_, rfl, by rw [HM.out]; exact HS2.out⟩
  | true =>
    rw [hl] at HLK
    by_cases hz : 0 ≤ z
    · have HM := Lib.hid (show M = ks by rw [HUM.out, if_neg (by omega)])
      clear hl HUM HLX
      go_wp2_with fail
      refine (HLK.out _ HS7.out.below).mono ?_
      rintro e w2 ⟨rfl, hb2⟩
      have HS2 := Lib.hid (HS7.out.next hb2)
      clear hb2 HLK HS7
      go_wp2_with fail
      refine (HAT.out _ HS2.out.below).mono ?_
      rintro e w3 ⟨rfl, hb3⟩
      have HS3 := Lib.hid (HS2.out.next hb3)
      clear hb3 HAT HS2
      go_wp2
      go_ret
      exact ⟨_, rfl, by rw [HM.out]; exact HS3.out⟩
    · replace HUM := Lib.hid (show M = if lnsB (insK ks (lnOf x y) (ks.takeWhile fun k => aheadB k (lnOf x y)).length) = true then insK ks (lnOf x y) (ks.takeWhile fun k => aheadB k (lnOf x y)).length else ks by rw [HUM.out, if_pos ⟨hl, by omega⟩])
      clear hl
      go_wp2_with fail
      refine (HLK.out _ HS7.out.below).mono ?_
      rintro e w2 ⟨rfl, hb2⟩
      have HS2 := Lib.hid (HS7.out.next hb2)
      clear hb2 HLK HS7
      go_wp2_with fail
      refine (HAT.out _ HS2.out.below).mono ?_
      rintro e w3 ⟨rfl, hb3⟩
      have HS3 := Lib.hid (HS2.out.next hb3)
      clear hb3 HAT HS2
      go_wp2_with fail
      refine (HOF.out _).mono ?_
      rintro e w4 ⟨rfl, hb4⟩
      have HS4 := Lib.hid (HS3.out.next hb4)
      clear hb4 HOF HS3
      generalize lnOf x y = l at *
      obtain ⟨p, q⟩ := l
      unfold kv
      dsimp only at *
      have HS5 := Lib.hid (HS4.out.alloc (.cells #[.int .i64 p, .int .i64 q] 49))
      have HR5 := Lib.hid (heap_alloc_new w4 (.cells #[.int .i64 p, .int .i64 q] 49))
      obtain ⟨a7, c7, rfl⟩ := HS4.out.shape
      go_upto_region 6 with (fail)
      generalize w4.alloc (.cells #[.int .i64 p, .int .i64 q] 49) = w5 at *
      generalize w4.heap.size = B8 at *
      have hr5 := (Array.getElem?_eq_some_iff.1 HR5.out).1
      have LK5 : ∀ wx, Below w5.heap.size w5 wx → (loadVar 49 ⟨B8, 0, none⟩).run Try.prog wx = .ok (kv (p, q)) wx := fun wx h => link_load (k := (p, q)) (o := 0) ⟨by rw [cell_of_row _ _ _ _ _ _ HR5.out]; rfl, by rw [cell_of_row _ _ _ _ _ _ HR5.out]; rfl⟩ hr5 h
      have HA13 := Lib.hid (fun k w => sahead13_any (ks.getD k (0, 0)) (p, q) w)
      clear HS4
      go_wp2
      go_loopw [9] (fun i wr => ∃ k : Nat, k ≤ ks.length ∧ i = .int .i64 k ∧ (∀ j, j < k → aheadB (ks.getD j (0, 0)) (p, q) = true) ∧ Below w5.heap.size w5 wr) (fun i _ => ks.length - (intOf i).toNat)
      case atStart => exact ⟨0, Nat.zero_le _, rfl, fun j hj => by omega, Below.refl _ _⟩
      case round =>
        obtain ⟨k, hk, rfl, hall, hb⟩ := hrel
        have HALL := Lib.hid hall
        clear hall
        by_cases hlt : k < ks.length
        · obtain ⟨g, off, rfl, hg, hcs⟩ := hcells.resolve_left (by omega)
          have z0 : (0 : Int) ≤ (k : Int) := by omega
          have z1 : (k : Int) < (ks.length : Int) := by omega
          have dk : decide ((k : Int) < (ks.length : Int)) = true := decide_eq_true z1
          have dk2 : decide (k < ks.length) = true := decide_eq_true hlt
          have c1 := hcs k hlt
          have LE : ∀ wx, Below w5.heap.size w5 wx → (loadVar 49 ⟨g, off + k * 2, none⟩).run Try.prog wx = .ok (kv (ks.getD k (0, 0))) wx := fun wx h => link_load c1 hg (HS5.out.below.trans (h.mono HS5.out.below.size))
          have HA := Lib.hid (HA13.out k)
          clear hcs hcells c1 HA13
          cases hah : aheadB (ks.getD k (0, 0)) (p, q) with
          | true =>
            have HN := Lib.hid (show ∀ j, j < k + 1 → aheadB (ks.getD j (0, 0)) (p, q) = true from fun j hj => by
              rcases (by omega : j < k ∨ j = k) with h1 | rfl
              · exact HALL.out j h1
              · exact hah)
            rw [hah] at HA
            clear hah HALL
            generalize ks.getD k (0, 0) = kx at *
            go_wp2
            refine wp_region_below w5 (by kernel_rfl) (by kernel_rfl) hb ?_
            repeat (first
              | go_big_quiet_skip
              | (go_big_quiet_want
                 first
                   | (refine q_load 49 _ _ _ rfl rfl LE ?_; simp only [Act.put, List.setIfInBounds_toArray, List.set_cons_zero, List.set_cons_succ]; go_big_quiet_on)
                   | (refine q_load 49 _ _ _ rfl rfl LK5 ?_; simp only [Act.put, List.setIfInBounds_toArray, List.set_cons_zero, List.set_cons_succ]; go_big_quiet_on)
                   | (go_big_quiet_op; go_big_quiet_on)
                   | (go_big_quiet_op; refine ⟨_, fun _ _ => rfl, ?_⟩; go_big_quiet_on)
                   | (go_big_quiet_op; apply Exists.intro; refine ⟨fun w' hw' => ?_, ?_⟩
                      · first
                        | (with_reducible refine (HA.out w').mono ?_
                           rintro e w2 ⟨rfl, hb2⟩
                           exact ⟨rfl, hw'.trans (hb2.mono hw'.size)⟩)
                      go_big_quiet_on)
                   | (go_big_quiet_op; refine ⟨_, fun _ _ _ => rfl, ?_⟩; go_big_quiet_on)))
            refine wpQuiet_nil ?_
            intro w6 hb6
            clear LE LK5 HA hb
            go_wp2
            exact ⟨⟨k + 1, by omega, by go_num, HN.out, hb6⟩, by simp [intOf]; omega⟩
          | false =>
            have HT := Lib.hid (take_to hk HALL.out (.inr hah))
            rw [hah] at HA
            clear hah HALL
            generalize ks.getD k (0, 0) = kx at *
            have HBr := Lib.hid hb
            clear hb
            go_upto_region 6 with (fail)
            refine wp_region_below w5 (by kernel_rfl) (by kernel_rfl) HBr.out ?_
            repeat (first
              | go_big_quiet_skip
              | (go_big_quiet_want
                 first
                   | (refine q_load 49 _ _ _ rfl rfl LE ?_; simp only [Act.put, List.setIfInBounds_toArray, List.set_cons_zero, List.set_cons_succ]; go_big_quiet_on)
                   | (refine q_load 49 _ _ _ rfl rfl LK5 ?_; simp only [Act.put, List.setIfInBounds_toArray, List.set_cons_zero, List.set_cons_succ]; go_big_quiet_on)
                   | (go_big_quiet_op; go_big_quiet_on)
                   | (go_big_quiet_op; refine ⟨_, fun _ _ => rfl, ?_⟩; go_big_quiet_on)
                   | (go_big_quiet_op; apply Exists.intro; refine ⟨fun w' hw' => ?_, ?_⟩
                      · first
                        | (with_reducible refine (HA.out w').mono ?_
                           rintro e w2 ⟨rfl, hb2⟩
                           exact ⟨rfl, hw'.trans (hb2.mono hw'.size)⟩)
                      go_big_quiet_on)
                   | (go_big_quiet_op; refine ⟨_, fun _ _ _ => rfl, ?_⟩; go_big_quiet_on)))
            refine wpQuiet_nil ?_
            intro w6 hb6
            clear LE HA HBr
            rw [HT.out] at HUM HLX
            have HIN := Lib.hid (show [] ++ ks.take k ++ [(p, q)] ++ ks.drop k = insK ks (p, q) k by simp [insK])
            have HW := Lib.hid (HS5.out.below.trans (hb6.mono HS5.out.below.size))
            have HS8 := Lib.hid (HS5.out.next hb6)
            have LK : ∀ wx, Below w6.heap.size w6 wx → (loadVar 49 ⟨B8, 0, none⟩).run Try.prog wx = .ok (kv (p, q)) wx := fun wx h => LK5 wx (hb6.trans (h.mono hb6.size))
            have hkw := HK.out _ HW.out
            obtain ⟨a1, c1, hs1, hk1⟩ := slice_hi_ln hkw k hk (by omega)
            obtain ⟨a2, c2, hs2, hk2⟩ := slice_lo_ln hkw k hk (by omega)
            have HK1 := Lib.hid (fun wx (hb : Below w6.heap.size w6 wx) => keysAt_below hk1 hb)
            have HK2 := Lib.hid (fun wx (hb : Below w6.heap.size w6 wx) => keysAt_below hk2 hb)
            have HS1 := hs1
            have HS2 := hs2
            have HB := Lib.hid (Below.refl w6.heap.size w6)
            unfold kv at LK
            dsimp only at LK
            clear hkw hk1 hk2 hs1 hs2 HK LK5 hb6 HS5 HR5 HT
            go_upto_region 8 with (fail)
            refine wp_region_G (fun wx => Below w6.heap.size w6 wx) (by kernel_rfl) ?_
            replace HB := Lib.hid (HB.out.drew)
            generalize (w6).drew = wD0 at *
            refine wpG_seg [false, true, true, true, false, true, false, false, true, true, true] [0, 6] 5 (by kernel_rfl) (by intro c a d v w h; cases d <;> exact h) (by kernel_rfl) HB.out ?_
            try simp only [maskRows]
            repeat (first
              | go_big_quiet_skip
              | (go_big_quiet_want
                 first
                   | (go_big_quiet_op; go_big_quiet_on)
                   | (refine q_load 49 _ _ _ rfl rfl LK ?_; simp only [Act.put, List.setIfInBounds_toArray, List.set_cons_zero, List.set_cons_succ]; go_big_quiet_on)
                   | (refine q_slice_hi 24 49 Try.underlying24 _ _ _ _ _ rfl rfl rfl HS1 ?_; simp only [Act.put, List.setIfInBounds_toArray, List.set_cons_zero, List.set_cons_succ]; go_big_quiet_on)
                   | (refine q_slice_lo 24 49 Try.underlying24 _ _ _ _ _ rfl rfl rfl HS2 ?_; simp only [Act.put, List.setIfInBounds_toArray, List.set_cons_zero, List.set_cons_succ]; go_big_quiet_on)
                   | (go_big_quiet_op; refine ⟨_, fun _ _ => rfl, ?_⟩; go_big_quiet_on)
                   | (go_big_quiet_op; refine ⟨_, fun _ _ _ => rfl, ?_⟩; go_big_quiet_on)
                   | (go_big_quiet_op; refine ⟨_, fun _ _ _ _ => rfl, ?_⟩; go_big_quiet_on)))
            refine wpQuiet_nil ?_
            refine List.forall_mem_cons.2 ⟨?_, List.forall_mem_singleton.2 ?_⟩
            · refine segt_run rfl (by rfl) (fun K hK => ?_)
              go_simp
              have HV := Lib.hid (LlD.litAt (w := wD0) HB.out)
              replace HB := Lib.hid HV.out.below
              generalize World.alloc wD0 (.cells #[] 49) = w1_ at *
              generalize wD0.heap.size = B0 at *
              refine hK _ _ ⟨_, fun _ h => h, HB.out, ?_⟩
              clear hK K
              try simp only [Act.put, List.setIfInBounds_toArray, List.set_cons_zero, List.set_cons_succ]
              refine wpG_seg [] [4, 6] 4 (by kernel_rfl) (by intro c a d v w h; cases d <;> exact h) (by kernel_rfl) HB.out ?_
              try simp only [maskRows]
              refine wpQuiet_nil ?_
              refine List.forall_mem_cons.2 ⟨?_, List.forall_mem_singleton.2 ?_⟩
              · refine segt_run rfl (by rfl) (fun K hK => ?_)
                refine wp_append_lnD _ _ rfl HV.out _ (ks.take k) (HK1.out _ HB.out) rfl rfl (by simp; omega) ?_
                intro v2_ w2_ hV hg hv
                clear HV
                have HV := Lib.hid hV
                replace HB := Lib.hid HV.out.below
                clear hV hg hv
                go_simp
                refine hK _ _ ⟨_, fun _ h => h, HB.out, ?_⟩
                clear hK K
                try simp only [Act.put, List.setIfInBounds_toArray, List.set_cons_zero, List.set_cons_succ]
                refine wpG_seg [] [6] 3 (by kernel_rfl) (by intro c a d v w h; cases d <;> exact h) (by kernel_rfl) HB.out ?_
                try simp only [maskRows]
                refine wpQuiet_nil ?_
                refine List.forall_mem_singleton.2 ?_
                refine segt_run rfl (by rfl) (fun K hK => ?_)
                go_simp
                have HNE := Lib.hid (show ∀ b, v2_.ownBlock = some b → b ≠ w2_.heap.size from fun b e => Nat.ne_of_lt (HV.out.own.lt b e).2)
                replace HV := Lib.hid (HV.out.alloc (.cells #[.int .i64 p, .int .i64 q] 49))
                have HR := Lib.hid (heap_alloc_new w2_ (.cells #[.int .i64 p, .int .i64 q] 49))
                replace HB := Lib.hid (HB.out.alloc HB.out.size (.cells #[.int .i64 p, .int .i64 q] 49))
                generalize World.alloc w2_ (.cells #[.int .i64 p, .int .i64 q] 49) = w3_ at *
                generalize w2_.heap.size = B6 at *
                refine hK _ _ ⟨_, fun _ h => h, HB.out, ?_⟩
                clear hK K
                try simp only [Act.put, List.setIfInBounds_toArray, List.set_cons_zero, List.set_cons_succ]
                refine wpG_seg [] [7] 2 (by kernel_rfl) (by intro c a d v w h; cases d <;> exact h) (by kernel_rfl) HB.out ?_
                try simp only [maskRows]
                refine wpQuiet_nil ?_
                refine List.forall_mem_singleton.2 ?_
                refine segt_run rfl (by rfl) (fun K hK => ?_)
                refine wp_append_lnD _ _ rfl HV.out _ [(p, q)] (keysAt_row HR.out) rfl rfl (by simp; omega) ?_
                intro v4_ w4_ hV hg hv
                clear HV
                have HV := Lib.hid hV
                replace HB := Lib.hid HV.out.below
                clear hV hg hv
                go_simp
                refine hK _ _ ⟨_, fun _ h => h, HB.out, ?_⟩
                clear hK K
                try simp only [Act.put, List.setIfInBounds_toArray, List.set_cons_zero, List.set_cons_succ]
                refine wpG_seg [] [11] 1 (by kernel_rfl) (by intro c a d v w h; cases d <;> exact h) (by kernel_rfl) HB.out ?_
                try simp only [maskRows]
                refine wpQuiet_nil ?_
                refine List.forall_mem_singleton.2 ?_
                refine segt_run rfl (by rfl) (fun K hK => ?_)
                refine wp_append_lnD _ _ rfl HV.out _ (ks.drop k) (HK2.out _ HB.out) rfl rfl (by simp; omega) ?_
                intro v5_ w5_ hV hg hv
                clear HV
                have HV := Lib.hid hV
                replace HB := Lib.hid HV.out.below
                clear hV hg hv
                go_simp
                refine hK _ _ ⟨_, fun _ h => h, HB.out, ?_⟩
                clear hK K
                try simp only [Act.put, List.setIfInBounds_toArray, List.set_cons_zero, List.set_cons_succ]
                refine wpG_end [false, false, false, false, false, false, false, false, false, false, false, false, true] (by kernel_rfl) (by intro c a d v w h; cases d <;> exact h) (by kernel_rfl) HB.out ?_
                try simp only [maskRows]
                repeat (first
                  | go_big_quiet_skip
                  | (go_big_quiet_want
                     first
                       | (go_big_quiet_op; go_big_quiet_on)
                       | (refine q_load 49 _ _ _ rfl rfl LK ?_; simp only [Act.put, List.setIfInBounds_toArray, List.set_cons_zero, List.set_cons_succ]; go_big_quiet_on)
                       | (refine q_slice_hi 24 49 Try.underlying24 _ _ _ _ _ rfl rfl rfl HS1 ?_; simp only [Act.put, List.setIfInBounds_toArray, List.set_cons_zero, List.set_cons_succ]; go_big_quiet_on)
                       | (refine q_slice_lo 24 49 Try.underlying24 _ _ _ _ _ rfl rfl rfl HS2 ?_; simp only [Act.put, List.setIfInBounds_toArray, List.set_cons_zero, List.set_cons_succ]; go_big_quiet_on)
                       | (go_big_quiet_op; refine ⟨_, fun _ _ => rfl, ?_⟩; go_big_quiet_on)
                       | (go_big_quiet_op; refine ⟨_, fun _ _ _ => rfl, ?_⟩; go_big_quiet_on)
                       | (go_big_quiet_op; refine ⟨_, fun _ _ _ _ => rfl, ?_⟩; go_big_quiet_on)))
                refine wpQuiet_nil ?_
                have HV9 := Lib.hid (HV.out.base HW.out)
                rw [HIN.out] at HV9
                have HSM9 := Lib.hid (HS8.out.next HB.out)
                go_wp2_with fail
                refine (HLX.out _ _ HV9.out.at).mono ?_
                rintro e wz ⟨rfl, hbz⟩
                replace HV9 := Lib.hid (HV9.out.next hbz)
                replace HSM9 := Lib.hid (HSM9.out.next hbz)
                clear hbz HV HB HK1 HK2
                cases hli : lnsB (insK ks (p, q) k) with
                | true =>
                  rw [hli] at HUM
                  go_wp2
                  go_ret
                  exact ⟨_, rfl, by rw [HUM.out]; exact HV9.out⟩
                | false =>
                  rw [hli] at HUM
                  go_wp2
                  go_ret
                  exact ⟨_, rfl, by rw [HUM.out]; exact HSM9.out⟩
              · refine segt_run rfl (by rfl) (fun K hK => ?_)
                go_simp
                have HNE := Lib.hid (show ∀ b, (Value.slice (some ⟨B0, 0, none⟩) 0 0).ownBlock = some b → b ≠ w1_.heap.size from fun b e => Nat.ne_of_lt (HV.out.own.lt b e).2)
                replace HV := Lib.hid (HV.out.alloc (.cells #[.int .i64 p, .int .i64 q] 49))
                have HR := Lib.hid (heap_alloc_new w1_ (.cells #[.int .i64 p, .int .i64 q] 49))
                replace HB := Lib.hid (HB.out.alloc HB.out.size (.cells #[.int .i64 p, .int .i64 q] 49))
                generalize World.alloc w1_ (.cells #[.int .i64 p, .int .i64 q] 49) = w2_ at *
                generalize w1_.heap.size = B6 at *
                refine hK _ _ ⟨_, fun _ h => h, HB.out, ?_⟩
                clear hK K
                try simp only [Act.put, List.setIfInBounds_toArray, List.set_cons_zero, List.set_cons_succ]
                refine wpG_seg [] [4] 3 (by kernel_rfl) (by intro c a d v w h; cases d <;> exact h) (by kernel_rfl) HB.out ?_
                try simp only [maskRows]
                refine wpQuiet_nil ?_
                refine List.forall_mem_singleton.2 ?_
                refine segt_run rfl (by rfl) (fun K hK => ?_)
                refine wp_append_lnD _ _ rfl HV.out _ (ks.take k) (HK1.out _ HB.out) rfl rfl (by simp; omega) ?_
                intro v3_ w3_ hV hg hv
                have HNE2 := Lib.hid (show ∀ b, v3_.ownBlock = some b → b ≠ B6 from fun b e => by
                  rcases hv with h | h
                  · exact HNE.out b (h.symm.trans e)
                  · have h1 := Option.some.inj (h.symm.trans e); have h2 := (Array.getElem?_eq_some_iff.1 HR.out).1; omega)
                replace HR := Lib.hid ((hg.block _ (Array.getElem?_eq_some_iff.1 HR.out).1 (fun e => HNE.out _ e.symm rfl)).trans HR.out)
                clear HNE
                have HNE := HNE2
                clear HNE2
                clear HV
                have HV := Lib.hid hV
                replace HB := Lib.hid HV.out.below
                clear hV hg hv
                go_simp
                refine hK _ _ ⟨_, fun _ h => h, HB.out, ?_⟩
                clear hK K
                try simp only [Act.put, List.setIfInBounds_toArray, List.set_cons_zero, List.set_cons_succ]
                refine wpG_seg [] [7] 2 (by kernel_rfl) (by intro c a d v w h; cases d <;> exact h) (by kernel_rfl) HB.out ?_
                try simp only [maskRows]
                refine wpQuiet_nil ?_
                refine List.forall_mem_singleton.2 ?_
                refine segt_run rfl (by rfl) (fun K hK => ?_)
                refine wp_append_lnD _ _ rfl HV.out _ [(p, q)] (keysAt_row HR.out) rfl rfl (by simp; omega) ?_
                intro v4_ w4_ hV hg hv
                clear HV
                have HV := Lib.hid hV
                replace HB := Lib.hid HV.out.below
                clear hV hg hv
                go_simp
                refine hK _ _ ⟨_, fun _ h => h, HB.out, ?_⟩
                clear hK K
                try simp only [Act.put, List.setIfInBounds_toArray, List.set_cons_zero, List.set_cons_succ]
                refine wpG_seg [] [11] 1 (by kernel_rfl) (by intro c a d v w h; cases d <;> exact h) (by kernel_rfl) HB.out ?_
                try simp only [maskRows]
                refine wpQuiet_nil ?_
                refine List.forall_mem_singleton.2 ?_
                refine segt_run rfl (by rfl) (fun K hK => ?_)
                refine wp_append_lnD _ _ rfl HV.out _ (ks.drop k) (HK2.out _ HB.out) rfl rfl (by simp; omega) ?_
                intro v5_ w5_ hV hg hv
                clear HV
                have HV := Lib.hid hV
                replace HB := Lib.hid HV.out.below
                clear hV hg hv
                go_simp
                refine hK _ _ ⟨_, fun _ h => h, HB.out, ?_⟩
                clear hK K
                try simp only [Act.put, List.setIfInBounds_toArray, List.set_cons_zero, List.set_cons_succ]
                refine wpG_end [false, false, false, false, false, false, false, false, false, false, false, false, true] (by kernel_rfl) (by intro c a d v w h; cases d <;> exact h) (by kernel_rfl) HB.out ?_
                try simp only [maskRows]
                repeat (first
                  | go_big_quiet_skip
                  | (go_big_quiet_want
                     first
                       | (go_big_quiet_op; go_big_quiet_on)
                       | (refine q_load 49 _ _ _ rfl rfl LK ?_; simp only [Act.put, List.setIfInBounds_toArray, List.set_cons_zero, List.set_cons_succ]; go_big_quiet_on)
                       | (refine q_slice_hi 24 49 Try.underlying24 _ _ _ _ _ rfl rfl rfl HS1 ?_; simp only [Act.put, List.setIfInBounds_toArray, List.set_cons_zero, List.set_cons_succ]; go_big_quiet_on)
                       | (refine q_slice_lo 24 49 Try.underlying24 _ _ _ _ _ rfl rfl rfl HS2 ?_; simp only [Act.put, List.setIfInBounds_toArray, List.set_cons_zero, List.set_cons_succ]; go_big_quiet_on)
                       | (go_big_quiet_op; refine ⟨_, fun _ _ => rfl, ?_⟩; go_big_quiet_on)
                       | (go_big_quiet_op; refine ⟨_, fun _ _ _ => rfl, ?_⟩; go_big_quiet_on)
                       | (go_big_quiet_op; refine ⟨_, fun _ _ _ _ => rfl, ?_⟩; go_big_quiet_on)))
                refine wpQuiet_nil ?_
                have HV9 := Lib.hid (HV.out.base HW.out)
                rw [HIN.out] at HV9
                have HSM9 := Lib.hid (HS8.out.next HB.out)
                go_wp2_with fail
                refine (HLX.out _ _ HV9.out.at).mono ?_
                rintro e wz ⟨rfl, hbz⟩
                replace HV9 := Lib.hid (HV9.out.next hbz)
                replace HSM9 := Lib.hid (HSM9.out.next hbz)
                clear hbz HV HB HK1 HK2
                cases hli : lnsB (insK ks (p, q) k) with
                | true =>
                  rw [hli] at HUM
                  go_wp2
                  go_ret
                  exact ⟨_, rfl, by rw [HUM.out]; exact HV9.out⟩
                | false =>
                  rw [hli] at HUM
                  go_wp2
                  go_ret
                  exact ⟨_, rfl, by rw [HUM.out]; exact HSM9.out⟩
            · refine segt_run rfl (by rfl) (fun K hK => ?_)
              go_simp
              have HR := Lib.hid (heap_alloc_new wD0 (.cells #[.int .i64 p, .int .i64 q] 49))
              replace HB := Lib.hid (HB.out.alloc HB.out.size (.cells #[.int .i64 p, .int .i64 q] 49))
              generalize World.alloc wD0 (.cells #[.int .i64 p, .int .i64 q] 49) = w1_ at *
              generalize wD0.heap.size = B6 at *
              refine hK _ _ ⟨_, fun _ h => h, HB.out, ?_⟩
              clear hK K
              try simp only [Act.put, List.setIfInBounds_toArray, List.set_cons_zero, List.set_cons_succ]
              refine wpG_seg [] [0] 4 (by kernel_rfl) (by intro c a d v w h; cases d <;> exact h) (by kernel_rfl) HB.out ?_
              try simp only [maskRows]
              refine wpQuiet_nil ?_
              refine List.forall_mem_singleton.2 ?_
              refine segt_run rfl (by rfl) (fun K hK => ?_)
              go_simp
              have HNE := Lib.hid (show ∀ b, (Value.slice (some ⟨w1_.heap.size, 0, none⟩) 0 0).ownBlock = some b → b ≠ B6 from fun b e e2 => by have h1 : w1_.heap.size = b := Option.some.inj e; have h2 := (Array.getElem?_eq_some_iff.1 HR.out).1; omega)
              replace HR := Lib.hid ((Below.heap_alloc w1_ (.cells #[] 49) _ (Array.getElem?_eq_some_iff.1 HR.out).1).trans HR.out)
              have HV := Lib.hid (LlD.litAt (w := w1_) HB.out)
              replace HB := Lib.hid HV.out.below
              generalize World.alloc w1_ (.cells #[] 49) = w2_ at *
              generalize w1_.heap.size = B0 at *
              refine hK _ _ ⟨_, fun _ h => h, HB.out, ?_⟩
              clear hK K
              try simp only [Act.put, List.setIfInBounds_toArray, List.set_cons_zero, List.set_cons_succ]
              refine wpG_seg [] [4] 3 (by kernel_rfl) (by intro c a d v w h; cases d <;> exact h) (by kernel_rfl) HB.out ?_
              try simp only [maskRows]
              refine wpQuiet_nil ?_
              refine List.forall_mem_singleton.2 ?_
              refine segt_run rfl (by rfl) (fun K hK => ?_)
              refine wp_append_lnD _ _ rfl HV.out _ (ks.take k) (HK1.out _ HB.out) rfl rfl (by simp; omega) ?_
              intro v3_ w3_ hV hg hv
              have HNE2 := Lib.hid (show ∀ b, v3_.ownBlock = some b → b ≠ B6 from fun b e => by
                rcases hv with h | h
                · exact HNE.out b (h.symm.trans e)
                · have h1 := Option.some.inj (h.symm.trans e); have h2 := (Array.getElem?_eq_some_iff.1 HR.out).1; omega)
              replace HR := Lib.hid ((hg.block _ (Array.getElem?_eq_some_iff.1 HR.out).1 (fun e => HNE.out _ e.symm rfl)).trans HR.out)
              clear HNE
              have HNE := HNE2
              clear HNE2
              clear HV
              have HV := Lib.hid hV
              replace HB := Lib.hid HV.out.below
              clear hV hg hv
              go_simp
              refine hK _ _ ⟨_, fun _ h => h, HB.out, ?_⟩
              clear hK K
              try simp only [Act.put, List.setIfInBounds_toArray, List.set_cons_zero, List.set_cons_succ]
              refine wpG_seg [] [7] 2 (by kernel_rfl) (by intro c a d v w h; cases d <;> exact h) (by kernel_rfl) HB.out ?_
              try simp only [maskRows]
              refine wpQuiet_nil ?_
              refine List.forall_mem_singleton.2 ?_
              refine segt_run rfl (by rfl) (fun K hK => ?_)
              refine wp_append_lnD _ _ rfl HV.out _ [(p, q)] (keysAt_row HR.out) rfl rfl (by simp; omega) ?_
              intro v4_ w4_ hV hg hv
              clear HV
              have HV := Lib.hid hV
              replace HB := Lib.hid HV.out.below
              clear hV hg hv
              go_simp
              refine hK _ _ ⟨_, fun _ h => h, HB.out, ?_⟩
              clear hK K
              try simp only [Act.put, List.setIfInBounds_toArray, List.set_cons_zero, List.set_cons_succ]
              refine wpG_seg [] [11] 1 (by kernel_rfl) (by intro c a d v w h; cases d <;> exact h) (by kernel_rfl) HB.out ?_
              try simp only [maskRows]
              refine wpQuiet_nil ?_
              refine List.forall_mem_singleton.2 ?_
              refine segt_run rfl (by rfl) (fun K hK => ?_)
              refine wp_append_lnD _ _ rfl HV.out _ (ks.drop k) (HK2.out _ HB.out) rfl rfl (by simp; omega) ?_
              intro v5_ w5_ hV hg hv
              clear HV
              have HV := Lib.hid hV
              replace HB := Lib.hid HV.out.below
              clear hV hg hv
              go_simp
              refine hK _ _ ⟨_, fun _ h => h, HB.out, ?_⟩
              clear hK K
              try simp only [Act.put, List.setIfInBounds_toArray, List.set_cons_zero, List.set_cons_succ]
              refine wpG_end [false, false, false, false, false, false, false, false, false, false, false, false, true] (by kernel_rfl) (by intro c a d v w h; cases d <;> exact h) (by kernel_rfl) HB.out ?_
              try simp only [maskRows]
              repeat (first
                | go_big_quiet_skip
                | (go_big_quiet_want
                   first
                     | (go_big_quiet_op; go_big_quiet_on)
                     | (refine q_load 49 _ _ _ rfl rfl LK ?_; simp only [Act.put, List.setIfInBounds_toArray, List.set_cons_zero, List.set_cons_succ]; go_big_quiet_on)
                     | (refine q_slice_hi 24 49 Try.underlying24 _ _ _ _ _ rfl rfl rfl HS1 ?_; simp only [Act.put, List.setIfInBounds_toArray, List.set_cons_zero, List.set_cons_succ]; go_big_quiet_on)
                     | (refine q_slice_lo 24 49 Try.underlying24 _ _ _ _ _ rfl rfl rfl HS2 ?_; simp only [Act.put, List.setIfInBounds_toArray, List.set_cons_zero, List.set_cons_succ]; go_big_quiet_on)
                     | (go_big_quiet_op; refine ⟨_, fun _ _ => rfl, ?_⟩; go_big_quiet_on)
                     | (go_big_quiet_op; refine ⟨_, fun _ _ _ => rfl, ?_⟩; go_big_quiet_on)
                     | (go_big_quiet_op; refine ⟨_, fun _ _ _ _ => rfl, ?_⟩; go_big_quiet_on)))
              refine wpQuiet_nil ?_
              have HV9 := Lib.hid (HV.out.base HW.out)
              rw [HIN.out] at HV9
              have HSM9 := Lib.hid (HS8.out.next HB.out)
              go_wp2_with fail
              refine (HLX.out _ _ HV9.out.at).mono ?_
              rintro e wz ⟨rfl, hbz⟩
              replace HV9 := Lib.hid (HV9.out.next hbz)
              replace HSM9 := Lib.hid (HSM9.out.next hbz)
              clear hbz HV HB HK1 HK2
              cases hli : lnsB (insK ks (p, q) k) with
              | true =>
                rw [hli] at HUM
                go_wp2
                go_ret
                exact ⟨_, rfl, by rw [HUM.out]; exact HV9.out⟩
              | false =>
                rw [hli] at HUM
                go_wp2
                go_ret
                exact ⟨_, rfl, by rw [HUM.out]; exact HSM9.out⟩
        · obtain rfl : k = ks.length := by omega
          have HT := Lib.hid (take_to (Nat.le_refl _) HALL.out (.inl rfl))
          have dk : decide ((ks.length : Int) < (ks.length : Int)) = false := decide_eq_false (by omega)
          have HBr := Lib.hid hb
          clear HALL HA13 hcells hb
          go_upto_region 6 with (fail)
          refine wp_region_below w5 (by kernel_rfl) (by kernel_rfl) HBr.out ?_
          repeat (first
            | go_big_quiet_skip
            | (go_big_quiet_want
               first
                 | (refine q_load 49 _ _ _ rfl rfl LK5 ?_; simp only [Act.put, List.setIfInBounds_toArray, List.set_cons_zero, List.set_cons_succ]; go_big_quiet_on)
                 | (go_big_quiet_op; go_big_quiet_on)
                 | (go_big_quiet_op; refine ⟨_, fun _ _ => rfl, ?_⟩; go_big_quiet_on)
                 | (go_big_quiet_op; go_big_quiet_on)))
          refine wpQuiet_nil ?_
          intro w6 hb6
          clear HBr
          rw [HT.out] at HUM HLX
          have HIN := Lib.hid (show [] ++ ks.take ks.length ++ [(p, q)] ++ ks.drop ks.length = insK ks (p, q) ks.length by simp [insK])
          have HW := Lib.hid (HS5.out.below.trans (hb6.mono HS5.out.below.size))
          have HS8 := Lib.hid (HS5.out.next hb6)
          have LK : ∀ wx, Below w6.heap.size w6 wx → (loadVar 49 ⟨B8, 0, none⟩).run Try.prog wx = .ok (kv (p, q)) wx := fun wx h => LK5 wx (hb6.trans (h.mono hb6.size))
          have hkw := HK.out _ HW.out
          obtain ⟨a1, c1, hs1, hk1⟩ := slice_hi_ln hkw ks.length (Nat.le_refl _) (by omega)
          obtain ⟨a2, c2, hs2, hk2⟩ := slice_lo_ln hkw ks.length (Nat.le_refl _) (by omega)
          simp only [Nat.sub_self] at hs2 hk2
          have HK1 := Lib.hid (fun wx (hb : Below w6.heap.size w6 wx) => keysAt_below hk1 hb)
          have HK2 := Lib.hid (fun wx (hb : Below w6.heap.size w6 wx) => keysAt_below hk2 hb)
          have HS1 := hs1
          have HS2 := hs2
          have HB := Lib.hid (Below.refl w6.heap.size w6)
          unfold kv at LK
          dsimp only at LK
          clear hkw hk1 hk2 hs1 hs2 HK LK5 hb6 HS5 HR5 HT
          go_upto_region 8 with (fail)
          refine wp_region_G (fun wx => Below w6.heap.size w6 wx) (by kernel_rfl) ?_
          replace HB := Lib.hid (HB.out.drew)
          generalize (w6).drew = wD0 at *
          refine wpG_seg [false, true, true, true, false, true, false, false, true, true, true] [0, 6] 5 (by kernel_rfl) (by intro c a d v w h; cases d <;> exact h) (by kernel_rfl) HB.out ?_
          try simp only [maskRows]
          repeat (first
            | go_big_quiet_skip
            | (go_big_quiet_want
               first
                 | (go_big_quiet_op; go_big_quiet_on)
                 | (refine q_load 49 _ _ _ rfl rfl LK ?_; simp only [Act.put, List.setIfInBounds_toArray, List.set_cons_zero, List.set_cons_succ]; go_big_quiet_on)
                 | (refine q_slice_hi 24 49 Try.underlying24 _ _ _ _ _ rfl rfl rfl HS1 ?_; simp only [Act.put, List.setIfInBounds_toArray, List.set_cons_zero, List.set_cons_succ]; go_big_quiet_on)
                 | (refine q_slice_lo 24 49 Try.underlying24 _ _ _ _ _ rfl rfl rfl HS2 ?_; simp only [Act.put, List.setIfInBounds_toArray, List.set_cons_zero, List.set_cons_succ]; go_big_quiet_on)
                 | (go_big_quiet_op; refine ⟨_, fun _ _ => rfl, ?_⟩; go_big_quiet_on)
                 | (go_big_quiet_op; refine ⟨_, fun _ _ _ => rfl, ?_⟩; go_big_quiet_on)
                 | (go_big_quiet_op; refine ⟨_, fun _ _ _ _ => rfl, ?_⟩; go_big_quiet_on)))
          refine wpQuiet_nil ?_
          refine List.forall_mem_cons.2 ⟨?_, List.forall_mem_singleton.2 ?_⟩
          · refine segt_run rfl (by rfl) (fun K hK => ?_)
            go_simp
            have HV := Lib.hid (LlD.litAt (w := wD0) HB.out)
            replace HB := Lib.hid HV.out.below
            generalize World.alloc wD0 (.cells #[] 49) = w1_ at *
            generalize wD0.heap.size = B0 at *
            refine hK _ _ ⟨_, fun _ h => h, HB.out, ?_⟩
            clear hK K
            try simp only [Act.put, List.setIfInBounds_toArray, List.set_cons_zero, List.set_cons_succ]
            refine wpG_seg [] [4, 6] 4 (by kernel_rfl) (by intro c a d v w h; cases d <;> exact h) (by kernel_rfl) HB.out ?_
            try simp only [maskRows]
            refine wpQuiet_nil ?_
            refine List.forall_mem_cons.2 ⟨?_, List.forall_mem_singleton.2 ?_⟩
            · refine segt_run rfl (by rfl) (fun K hK => ?_)
              refine wp_append_lnD _ _ rfl HV.out _ (ks.take ks.length) (HK1.out _ HB.out) rfl rfl (by simp; omega) ?_
              intro v2_ w2_ hV hg hv
              clear HV
              have HV := Lib.hid hV
              replace HB := Lib.hid HV.out.below
              clear hV hg hv
              go_simp
              refine hK _ _ ⟨_, fun _ h => h, HB.out, ?_⟩
              clear hK K
              try simp only [Act.put, List.setIfInBounds_toArray, List.set_cons_zero, List.set_cons_succ]
              refine wpG_seg [] [6] 3 (by kernel_rfl) (by intro c a d v w h; cases d <;> exact h) (by kernel_rfl) HB.out ?_
              try simp only [maskRows]
              refine wpQuiet_nil ?_
              refine List.forall_mem_singleton.2 ?_
              refine segt_run rfl (by rfl) (fun K hK => ?_)
              go_simp
              have HNE := Lib.hid (show ∀ b, v2_.ownBlock = some b → b ≠ w2_.heap.size from fun b e => Nat.ne_of_lt (HV.out.own.lt b e).2)
              replace HV := Lib.hid (HV.out.alloc (.cells #[.int .i64 p, .int .i64 q] 49))
              have HR := Lib.hid (heap_alloc_new w2_ (.cells #[.int .i64 p, .int .i64 q] 49))
              replace HB := Lib.hid (HB.out.alloc HB.out.size (.cells #[.int .i64 p, .int .i64 q] 49))
              generalize World.alloc w2_ (.cells #[.int .i64 p, .int .i64 q] 49) = w3_ at *
              generalize w2_.heap.size = B6 at *
              refine hK _ _ ⟨_, fun _ h => h, HB.out, ?_⟩
              clear hK K
              try simp only [Act.put, List.setIfInBounds_toArray, List.set_cons_zero, List.set_cons_succ]
              refine wpG_seg [] [7] 2 (by kernel_rfl) (by intro c a d v w h; cases d <;> exact h) (by kernel_rfl) HB.out ?_
              try simp only [maskRows]
              refine wpQuiet_nil ?_
              refine List.forall_mem_singleton.2 ?_
              refine segt_run rfl (by rfl) (fun K hK => ?_)
              refine wp_append_lnD _ _ rfl HV.out _ [(p, q)] (keysAt_row HR.out) rfl rfl (by simp; omega) ?_
              intro v4_ w4_ hV hg hv
              clear HV
              have HV := Lib.hid hV
              replace HB := Lib.hid HV.out.below
              clear hV hg hv
              go_simp
              refine hK _ _ ⟨_, fun _ h => h, HB.out, ?_⟩
              clear hK K
              try simp only [Act.put, List.setIfInBounds_toArray, List.set_cons_zero, List.set_cons_succ]
              refine wpG_seg [] [11] 1 (by kernel_rfl) (by intro c a d v w h; cases d <;> exact h) (by kernel_rfl) HB.out ?_
              try simp only [maskRows]
              refine wpQuiet_nil ?_
              refine List.forall_mem_singleton.2 ?_
              refine segt_run rfl (by rfl) (fun K hK => ?_)
              refine wp_append_lnD _ _ rfl HV.out _ (ks.drop ks.length) (HK2.out _ HB.out) rfl rfl (by simp; omega) ?_
              intro v5_ w5_ hV hg hv
              clear HV
              have HV := Lib.hid hV
              replace HB := Lib.hid HV.out.below
              clear hV hg hv
              go_simp
              refine hK _ _ ⟨_, fun _ h => h, HB.out, ?_⟩
              clear hK K
              try simp only [Act.put, List.setIfInBounds_toArray, List.set_cons_zero, List.set_cons_succ]
              refine wpG_end [false, false, false, false, false, false, false, false, false, false, false, false, true] (by kernel_rfl) (by intro c a d v w h; cases d <;> exact h) (by kernel_rfl) HB.out ?_
              try simp only [maskRows]
              repeat (first
                | go_big_quiet_skip
                | (go_big_quiet_want
                   first
                     | (go_big_quiet_op; go_big_quiet_on)
                     | (refine q_load 49 _ _ _ rfl rfl LK ?_; simp only [Act.put, List.setIfInBounds_toArray, List.set_cons_zero, List.set_cons_succ]; go_big_quiet_on)
                     | (refine q_slice_hi 24 49 Try.underlying24 _ _ _ _ _ rfl rfl rfl HS1 ?_; simp only [Act.put, List.setIfInBounds_toArray, List.set_cons_zero, List.set_cons_succ]; go_big_quiet_on)
                     | (refine q_slice_lo 24 49 Try.underlying24 _ _ _ _ _ rfl rfl rfl HS2 ?_; simp only [Act.put, List.setIfInBounds_toArray, List.set_cons_zero, List.set_cons_succ]; go_big_quiet_on)
                     | (go_big_quiet_op; refine ⟨_, fun _ _ => rfl, ?_⟩; go_big_quiet_on)
                     | (go_big_quiet_op; refine ⟨_, fun _ _ _ => rfl, ?_⟩; go_big_quiet_on)
                     | (go_big_quiet_op; refine ⟨_, fun _ _ _ _ => rfl, ?_⟩; go_big_quiet_on)))
              refine wpQuiet_nil ?_
              have HV9 := Lib.hid (HV.out.base HW.out)
              rw [HIN.out] at HV9
              have HSM9 := Lib.hid (HS8.out.next HB.out)
              go_wp2_with fail
              refine (HLX.out _ _ HV9.out.at).mono ?_
              rintro e wz ⟨rfl, hbz⟩
              replace HV9 := Lib.hid (HV9.out.next hbz)
              replace HSM9 := Lib.hid (HSM9.out.next hbz)
              clear hbz HV HB HK1 HK2
              cases hli : lnsB (insK ks (p, q) ks.length) with
              | true =>
                rw [hli] at HUM
                go_wp2
                go_ret
                exact ⟨_, rfl, by rw [HUM.out]; exact HV9.out⟩
              | false =>
                rw [hli] at HUM
                go_wp2
                go_ret
                exact ⟨_, rfl, by rw [HUM.out]; exact HSM9.out⟩
            · refine segt_run rfl (by rfl) (fun K hK => ?_)
              go_simp
              have HNE := Lib.hid (show ∀ b, (Value.slice (some ⟨B0, 0, none⟩) 0 0).ownBlock = some b → b ≠ w1_.heap.size from fun b e => Nat.ne_of_lt (HV.out.own.lt b e).2)
              replace HV := Lib.hid (HV.out.alloc (.cells #[.int .i64 p, .int .i64 q] 49))
              have HR := Lib.hid (heap_alloc_new w1_ (.cells #[.int .i64 p, .int .i64 q] 49))
              replace HB := Lib.hid (HB.out.alloc HB.out.size (.cells #[.int .i64 p, .int .i64 q] 49))
              generalize World.alloc w1_ (.cells #[.int .i64 p, .int .i64 q] 49) = w2_ at *
              generalize w1_.heap.size = B6 at *
              refine hK _ _ ⟨_, fun _ h => h, HB.out, ?_⟩
              clear hK K
              try simp only [Act.put, List.setIfInBounds_toArray, List.set_cons_zero, List.set_cons_succ]
              refine wpG_seg [] [4] 3 (by kernel_rfl) (by intro c a d v w h; cases d <;> exact h) (by kernel_rfl) HB.out ?_
              try simp only [maskRows]
              refine wpQuiet_nil ?_
              refine List.forall_mem_singleton.2 ?_
              refine segt_run rfl (by rfl) (fun K hK => ?_)
              refine wp_append_lnD _ _ rfl HV.out _ (ks.take ks.length) (HK1.out _ HB.out) rfl rfl (by simp; omega) ?_
              intro v3_ w3_ hV hg hv
              have HNE2 := Lib.hid (show ∀ b, v3_.ownBlock = some b → b ≠ B6 from fun b e => by
                rcases hv with h | h
                · exact HNE.out b (h.symm.trans e)
                · have h1 := Option.some.inj (h.symm.trans e); have h2 := (Array.getElem?_eq_some_iff.1 HR.out).1; omega)
              replace HR := Lib.hid ((hg.block _ (Array.getElem?_eq_some_iff.1 HR.out).1 (fun e => HNE.out _ e.symm rfl)).trans HR.out)
              clear HNE
              have HNE := HNE2
              clear HNE2
              clear HV
              have HV := Lib.hid hV
              replace HB := Lib.hid HV.out.below
              clear hV hg hv
              go_simp
              refine hK _ _ ⟨_, fun _ h => h, HB.out, ?_⟩
              clear hK K
              try simp only [Act.put, List.setIfInBounds_toArray, List.set_cons_zero, List.set_cons_succ]
              refine wpG_seg [] [7] 2 (by kernel_rfl) (by intro c a d v w h; cases d <;> exact h) (by kernel_rfl) HB.out ?_
              try simp only [maskRows]
              refine wpQuiet_nil ?_
              refine List.forall_mem_singleton.2 ?_
              refine segt_run rfl (by rfl) (fun K hK => ?_)
              refine wp_append_lnD _ _ rfl HV.out _ [(p, q)] (keysAt_row HR.out) rfl rfl (by simp; omega) ?_
              intro v4_ w4_ hV hg hv
              clear HV
              have HV := Lib.hid hV
              replace HB := Lib.hid HV.out.below
              clear hV hg hv
              go_simp
              refine hK _ _ ⟨_, fun _ h => h, HB.out, ?_⟩
              clear hK K
              try simp only [Act.put, List.setIfInBounds_toArray, List.set_cons_zero, List.set_cons_succ]
              refine wpG_seg [] [11] 1 (by kernel_rfl) (by intro c a d v w h; cases d <;> exact h) (by kernel_rfl) HB.out ?_
              try simp only [maskRows]
              refine wpQuiet_nil ?_
              refine List.forall_mem_singleton.2 ?_
              refine segt_run rfl (by rfl) (fun K hK => ?_)
              refine wp_append_lnD _ _ rfl HV.out _ (ks.drop ks.length) (HK2.out _ HB.out) rfl rfl (by simp; omega) ?_
              intro v5_ w5_ hV hg hv
              clear HV
              have HV := Lib.hid hV
              replace HB := Lib.hid HV.out.below
              clear hV hg hv
              go_simp
              refine hK _ _ ⟨_, fun _ h => h, HB.out, ?_⟩
              clear hK K
              try simp only [Act.put, List.setIfInBounds_toArray, List.set_cons_zero, List.set_cons_succ]
              refine wpG_end [false, false, false, false, false, false, false, false, false, false, false, false, true] (by kernel_rfl) (by intro c a d v w h; cases d <;> exact h) (by kernel_rfl) HB.out ?_
              try simp only [maskRows]
              repeat (first
                | go_big_quiet_skip
                | (go_big_quiet_want
                   first
                     | (go_big_quiet_op; go_big_quiet_on)
                     | (refine q_load 49 _ _ _ rfl rfl LK ?_; simp only [Act.put, List.setIfInBounds_toArray, List.set_cons_zero, List.set_cons_succ]; go_big_quiet_on)
                     | (refine q_slice_hi 24 49 Try.underlying24 _ _ _ _ _ rfl rfl rfl HS1 ?_; simp only [Act.put, List.setIfInBounds_toArray, List.set_cons_zero, List.set_cons_succ]; go_big_quiet_on)
                     | (refine q_slice_lo 24 49 Try.underlying24 _ _ _ _ _ rfl rfl rfl HS2 ?_; simp only [Act.put, List.setIfInBounds_toArray, List.set_cons_zero, List.set_cons_succ]; go_big_quiet_on)
                     | (go_big_quiet_op; refine ⟨_, fun _ _ => rfl, ?_⟩; go_big_quiet_on)
                     | (go_big_quiet_op; refine ⟨_, fun _ _ _ => rfl, ?_⟩; go_big_quiet_on)
                     | (go_big_quiet_op; refine ⟨_, fun _ _ _ _ => rfl, ?_⟩; go_big_quiet_on)))
              refine wpQuiet_nil ?_
              have HV9 := Lib.hid (HV.out.base HW.out)
              rw [HIN.out] at HV9
              have HSM9 := Lib.hid (HS8.out.next HB.out)
              go_wp2_with fail
              refine (HLX.out _ _ HV9.out.at).mono ?_
              rintro e wz ⟨rfl, hbz⟩
              replace HV9 := Lib.hid (HV9.out.next hbz)
              replace HSM9 := Lib.hid (HSM9.out.next hbz)
              clear hbz HV HB HK1 HK2
              cases hli : lnsB (insK ks (p, q) ks.length) with
              | true =>
                rw [hli] at HUM
                go_wp2
                go_ret
                exact ⟨_, rfl, by rw [HUM.out]; exact HV9.out⟩
              | false =>
                rw [hli] at HUM
                go_wp2
                go_ret
                exact ⟨_, rfl, by rw [HUM.out]; exact HSM9.out⟩
          · refine segt_run rfl (by rfl) (fun K hK => ?_)
            go_simp
            have HR := Lib.hid (heap_alloc_new wD0 (.cells #[.int .i64 p, .int .i64 q] 49))
            replace HB := Lib.hid (HB.out.alloc HB.out.size (.cells #[.int .i64 p, .int .i64 q] 49))
            generalize World.alloc wD0 (.cells #[.int .i64 p, .int .i64 q] 49) = w1_ at *
            generalize wD0.heap.size = B6 at *
            refine hK _ _ ⟨_, fun _ h => h, HB.out, ?_⟩
            clear hK K
            try simp only [Act.put, List.setIfInBounds_toArray, List.set_cons_zero, List.set_cons_succ]
            refine wpG_seg [] [0] 4 (by kernel_rfl) (by intro c a d v w h; cases d <;> exact h) (by kernel_rfl) HB.out ?_
            try simp only [maskRows]
            refine wpQuiet_nil ?_
            refine List.forall_mem_singleton.2 ?_
            refine segt_run rfl (by rfl) (fun K hK => ?_)
            go_simp
            have HNE := Lib.hid (show ∀ b, (Value.slice (some ⟨w1_.heap.size, 0, none⟩) 0 0).ownBlock = some b → b ≠ B6 from fun b e e2 => by have h1 : w1_.heap.size = b := Option.some.inj e; have h2 := (Array.getElem?_eq_some_iff.1 HR.out).1; omega)
            replace HR := Lib.hid ((Below.heap_alloc w1_ (.cells #[] 49) _ (Array.getElem?_eq_some_iff.1 HR.out).1).trans HR.out)
            have HV := Lib.hid (LlD.litAt (w := w1_) HB.out)
            replace HB := Lib.hid HV.out.below
            generalize World.alloc w1_ (.cells #[] 49) = w2_ at *
            generalize w1_.heap.size = B0 at *
            refine hK _ _ ⟨_, fun _ h => h, HB.out, ?_⟩
            clear hK K
            try simp only [Act.put, List.setIfInBounds_toArray, List.set_cons_zero, List.set_cons_succ]
            refine wpG_seg [] [4] 3 (by kernel_rfl) (by intro c a d v w h; cases d <;> exact h) (by kernel_rfl) HB.out ?_
            try simp only [maskRows]
            refine wpQuiet_nil ?_
            refine List.forall_mem_singleton.2 ?_
            refine segt_run rfl (by rfl) (fun K hK => ?_)
            refine wp_append_lnD _ _ rfl HV.out _ (ks.take ks.length) (HK1.out _ HB.out) rfl rfl (by simp; omega) ?_
            intro v3_ w3_ hV hg hv
            have HNE2 := Lib.hid (show ∀ b, v3_.ownBlock = some b → b ≠ B6 from fun b e => by
              rcases hv with h | h
              · exact HNE.out b (h.symm.trans e)
              · have h1 := Option.some.inj (h.symm.trans e); have h2 := (Array.getElem?_eq_some_iff.1 HR.out).1; omega)
            replace HR := Lib.hid ((hg.block _ (Array.getElem?_eq_some_iff.1 HR.out).1 (fun e => HNE.out _ e.symm rfl)).trans HR.out)
            clear HNE
            have HNE := HNE2
            clear HNE2
            clear HV
            have HV := Lib.hid hV
            replace HB := Lib.hid HV.out.below
            clear hV hg hv
            go_simp
            refine hK _ _ ⟨_, fun _ h => h, HB.out, ?_⟩
            clear hK K
            try simp only [Act.put, List.setIfInBounds_toArray, List.set_cons_zero, List.set_cons_succ]
            refine wpG_seg [] [7] 2 (by kernel_rfl) (by intro c a d v w h; cases d <;> exact h) (by kernel_rfl) HB.out ?_
            try simp only [maskRows]
            refine wpQuiet_nil ?_
            refine List.forall_mem_singleton.2 ?_
            refine segt_run rfl (by rfl) (fun K hK => ?_)
            refine wp_append_lnD _ _ rfl HV.out _ [(p, q)] (keysAt_row HR.out) rfl rfl (by simp; omega) ?_
            intro v4_ w4_ hV hg hv
            clear HV
            have HV := Lib.hid hV
            replace HB := Lib.hid HV.out.below
            clear hV hg hv
            go_simp
            refine hK _ _ ⟨_, fun _ h => h, HB.out, ?_⟩
            clear hK K
            try simp only [Act.put, List.setIfInBounds_toArray, List.set_cons_zero, List.set_cons_succ]
            refine wpG_seg [] [11] 1 (by kernel_rfl) (by intro c a d v w h; cases d <;> exact h) (by kernel_rfl) HB.out ?_
            try simp only [maskRows]
            refine wpQuiet_nil ?_
            refine List.forall_mem_singleton.2 ?_
            refine segt_run rfl (by rfl) (fun K hK => ?_)
            refine wp_append_lnD _ _ rfl HV.out _ (ks.drop ks.length) (HK2.out _ HB.out) rfl rfl (by simp; omega) ?_
            intro v5_ w5_ hV hg hv
            clear HV
            have HV := Lib.hid hV
            replace HB := Lib.hid HV.out.below
            clear hV hg hv
            go_simp
            refine hK _ _ ⟨_, fun _ h => h, HB.out, ?_⟩
            clear hK K
            try simp only [Act.put, List.setIfInBounds_toArray, List.set_cons_zero, List.set_cons_succ]
            refine wpG_end [false, false, false, false, false, false, false, false, false, false, false, false, true] (by kernel_rfl) (by intro c a d v w h; cases d <;> exact h) (by kernel_rfl) HB.out ?_
            try simp only [maskRows]
            repeat (first
              | go_big_quiet_skip
              | (go_big_quiet_want
                 first
                   | (go_big_quiet_op; go_big_quiet_on)
                   | (refine q_load 49 _ _ _ rfl rfl LK ?_; simp only [Act.put, List.setIfInBounds_toArray, List.set_cons_zero, List.set_cons_succ]; go_big_quiet_on)
                   | (refine q_slice_hi 24 49 Try.underlying24 _ _ _ _ _ rfl rfl rfl HS1 ?_; simp only [Act.put, List.setIfInBounds_toArray, List.set_cons_zero, List.set_cons_succ]; go_big_quiet_on)
                   | (refine q_slice_lo 24 49 Try.underlying24 _ _ _ _ _ rfl rfl rfl HS2 ?_; simp only [Act.put, List.setIfInBounds_toArray, List.set_cons_zero, List.set_cons_succ]; go_big_quiet_on)
                   | (go_big_quiet_op; refine ⟨_, fun _ _ => rfl, ?_⟩; go_big_quiet_on)
                   | (go_big_quiet_op; refine ⟨_, fun _ _ _ => rfl, ?_⟩; go_big_quiet_on)
                   | (go_big_quiet_op; refine ⟨_, fun _ _ _ _ => rfl, ?_⟩; go_big_quiet_on)))
            refine wpQuiet_nil ?_
            have HV9 := Lib.hid (HV.out.base HW.out)
            rw [HIN.out] at HV9
            have HSM9 := Lib.hid (HS8.out.next HB.out)
            go_wp2_with fail
            refine (HLX.out _ _ HV9.out.at).mono ?_
            rintro e wz ⟨rfl, hbz⟩
            replace HV9 := Lib.hid (HV9.out.next hbz)
            replace HSM9 := Lib.hid (HSM9.out.next hbz)
            clear hbz HV HB HK1 HK2
            cases hli : lnsB (insK ks (p, q) ks.length) with
            | true =>
              rw [hli] at HUM
              go_wp2
              go_ret
              exact ⟨_, rfl, by rw [HUM.out]; exact HV9.out⟩
            | false =>
              rw [hli] at HUM
              go_wp2
              go_ret
              exact ⟨_, rfl, by rw [HUM.out]; exact HSM9.out⟩
end Go.Proofs.Ytpfnpinoamjcjaa
namespace Go.Proofs.Ytpfnpinoamjcjaa
open Go.ChangeShapes Go.WideShapes Go.ChangeAt Go.RowKit Go.BigFrame
set_option linter.unusedVariables false
set_option linter.unusedSimpArgs false

theorem infoInt : (Try.prog.info? 3).map (fun i => (i.zero, i.size, i.bytes)) = some (some (.int .i64 0), 1, 8) := by kernel_rfl
end Go.Proofs.Ytpfnpinoamjcjaa
namespace Go.Proofs.Ytpfnpinoamjcjaa
open Go.ChangeShapes Go.WideShapes Go.ChangeAt Go.RowKit Go.BigFrame
set_option linter.unusedVariables false

theorem addr_plus (g off j : Nat) : (⟨g, off, none⟩ : Addr).add j = ⟨g, off + j, none⟩ := by
  unfold Addr.add
  split
  · rename_i h; simp [h]
  · rfl
end Go.Proofs.Ytpfnpinoamjcjaa
namespace Go.Proofs.Ytpfnpinoamjcjaa
open Go.ChangeShapes Go.WideShapes Go.ChangeAt Go.RowKit Go.BigFrame
set_option linter.unusedVariables false

theorem intsV_one (xs : List Int) : ∀ u ∈ intsV xs, u.oneCell' = true := by
  intro u hu
  simp only [intsV, List.mem_map] at hu
  obtain ⟨k, _, rfl⟩ := hu
  rfl
theorem intsV_at {w : World} {g off : Nat} {xs : List Int} (h : ∀ i, i < xs.length → w.cell? ⟨g, off + i, none⟩ = some (.int .i64 (xs[i]?.getD 0))) :
    ∀ j u, (intsV xs)[j]? = some u → w.cell? ((⟨g, off, none⟩ : Addr).add j) = some u := by
  intro j u hu
  have hj : j < xs.length := by rw [← intsV_len]; exact (List.getElem?_eq_some_iff.1 hu).1
  rw [addr_plus]
  rw [intsV_get xs j hj] at hu
  cases hu
  exact h j hj
theorem in_append_none {w : World} {base n : Nat} {v : Value} {xs : List Value} (h : w.ownsRow base 3 1 v n xs) (ar : Option Addr) (cr : Nat) (ty : TypeId) :
    (Builtin.append_ #[33, 33] ty #[v, .slice ar 0 cr]).run Try.prog w = .ok v w := by
  obtain ⟨i0, hi, hz0, hz1, hz2⟩ := info_parts infoInt
  have u := Try.underlying33
  rcases h.2 with ⟨rfl, h0⟩ | ⟨g, cap, cur, rfl, _, _, hn, _⟩
  · cases ar <;> simp [Builtin.append_, run_underlying u, sizeOf, typeInfo, hi, storeCells, go_sem]
  · cases ar <;> simp [Builtin.append_, run_underlying u, sizeOf, typeInfo, hi, storeCells, hn, go_sem]
/-- append of numbers to what is owned -/
theorem run_append_in {w : World} {base n : Nat} {v : Value} {xs : List Value} (hown : w.ownsRow base 3 1 v n xs) (u : Value) (rs : List Int) (hu : inAt w u rs) (ty : TypeId) (hn : n + rs.length ≤ 4000000) (hbase : base ≤ w.heap.size) :
    ∃ v' w', (Builtin.append_ #[33, 33] ty #[v, u]).run Try.prog w = .ok v' w' ∧ w'.ownsRow base 3 1 v' (n + rs.length) (xs ++ intsV rs) ∧ w.grownBy w' v.ownBlock := by
  obtain ⟨i0, hi, hz0, hz1, hz2⟩ := info_parts infoInt
  obtain ⟨a, cap, rfl, hcap, hcells⟩ := hu
  by_cases h0 : rs.length = 0
  · obtain rfl : rs = [] := List.length_eq_zero_iff.1 h0
    exact ⟨v, w, in_append_none hown a cap ty, by simpa [intsV] using hown, World.grownBy.refl _ _⟩
  · obtain ⟨g, off, rfl, hg, hcs⟩ := hcells.resolve_left h0
    obtain ⟨v', w', hr, h2, h3, h4, h5⟩ := run_append_own_at (P := Try.prog) w base 33 ty 3 i0 (.int .i64 0) 1 8 Try.underlying33 hi hz0 hz1 hz2 rfl (by decide) v n xs hown ⟨g, off, none⟩ rs.length cap (intsV rs) (by rw [intsV_len]; omega) (intsV_at hcs) (intsV_one rs) (by unfold maxLen; omega) (by omega) hbase
    exact ⟨v', w', hr, h2, h3⟩
end Go.Proofs.Ytpfnpinoamjcjaa
namespace Go.Proofs.Ytpfnpinoamjcjaa
open Go.ChangeShapes Go.WideShapes Go.ChangeAt Go.RowKit Go.BigFrame
set_option linter.unusedVariables false
set_option linter.unusedSimpArgs false

theorem wpList_append_in1 {ops : Array Oper} {rest : List Oper} {o : Oper} {a : Act} {w : World} {Q : Exit → Act → World → Prop} (hgd : o.guard = none) (s x : Operand)
    (ho : o.op = .call { callee := .builtin .append, args := #[s, x], argTypes := #[33, 33] })
    {base : Nat} {v : Value} {xs : List Int} (hown : w.ownsRow base 3 1 v xs.length (intsV xs)) (g : Nat) (z : Int) (hu : w.heap[g]? = some (.cells #[.int .i64 z] 3 (0, 0))) (hs : a.eval s = v) (hx : a.eval x = .slice (some ⟨g, 0, none⟩) 1 1) (hn : xs.length ≤ 1000000) (hbase : base ≤ w.heap.size)
    (h : ∀ v' w', w'.ownsRow base 3 1 v' (xs ++ [z]).length (intsV (xs ++ [z])) → w.grownBy w' v.ownBlock → wpList Try.prog ops Q rest (a.put o.dst v') w') : wpList Try.prog ops Q (o :: rest) a w := by
  refine wpList_plain hgd fun K hK => ?_
  have hz : inAt w (.slice (some ⟨g, 0, none⟩) 1 1) [z] := ⟨_, 1, rfl, by simp, .inr ⟨g, 0, rfl, (Array.getElem?_eq_some_iff.1 hu).1, fun i hi => by
    obtain rfl : i = 0 := by simpa using hi
    rw [cell_of_row _ _ _ _ _ _ hu]; rfl⟩⟩
  obtain ⟨v', w', hr, h2, h3⟩ := run_append_in hown _ [z] hz o.type (by simp; omega) hbase
  unfold Oper.wp execOp
  simp only [ho, resolve, invoke, builtin, Sem.run_bind, Sem.run_pure, Result.andThen_ok, List.map_toArray, List.map_cons, List.map_nil, hs, hx, hr]
  refine hK _ _ (h v' w' ?_ h3)
  rw [List.length_append, intsV_app]
  exact h2
/-- numbers of one's own, while they are put together -/
def IlD (w0 wr : World) (v : Value) (xs : List Int) : Prop := wr.ownsRow w0.heap.size 3 1 v xs.length (intsV xs) ∧ Below w0.heap.size w0 wr
theorem IlD.own {w0 wr : World} {v : Value} {xs : List Int} (h : IlD w0 wr v xs) : wr.ownsRow w0.heap.size 3 1 v xs.length (intsV xs) := h.1
theorem IlD.below {w0 wr : World} {v : Value} {xs : List Int} (h : IlD w0 wr v xs) : Below w0.heap.size w0 wr := h.2
theorem IlD.at {w0 wr : World} {v : Value} {xs : List Int} (h : IlD w0 wr v xs) : inAt wr v xs := inAt_own h.1 rfl
theorem IlD.next {w0 wr w1 : World} {v : Value} {xs : List Int} (h : IlD w0 wr v xs) (hb : Below wr.heap.size wr w1) : IlD w0 w1 v xs := ⟨own_below h.1 hb, h.2.trans (hb.mono h.2.size)⟩
theorem IlD.alloc {w0 wr : World} {v : Value} {xs : List Int} (h : IlD w0 wr v xs) (o : Obj) : IlD w0 (wr.alloc o) v xs := h.next ((Below.refl _ _).alloc (Nat.le_refl _) _)
theorem IlD.push {w0 wr w1 : World} {v v' : Value} {xs ys : List Int} (h : IlD w0 wr v xs) (ho : w1.ownsRow w0.heap.size 3 1 v' ys.length (intsV ys)) (hg : wr.grownBy w1 v.ownBlock) : IlD w0 w1 v' ys :=
  ⟨ho, h.2.grown hg h.2.size (fun g hg => (h.1.lt g hg).1)⟩
theorem IlD.nil (w : World) : IlD w w (.slice none 0 0) [] := ⟨World.ownsRow_nil _ _ _ _, Below.refl _ _⟩
theorem IlD.lit (w : World) : IlD w (w.alloc (.cells #[] 3)) (.slice (some ⟨w.heap.size, 0, none⟩) 0 0) [] :=
  ⟨World.ownsRow_lit (base := w.heap.size) (e := 3) (size := 1) w #[] 0 (Nat.le_refl _) (by unfold maxLen; omega) rfl, (Below.refl w.heap.size w).alloc (Nat.le_refl _) _⟩
theorem IlD.shape {w0 wr : World} {v : Value} {xs : List Int} (h : IlD w0 wr v xs) : ∃ a c, v = .slice a xs.length c := by
  rcases ownsRow_shape0 h.1 with ⟨rfl, h0⟩ | ⟨g, c, rfl⟩
  · exact ⟨none, 0, by rw [h0]⟩
  · exact ⟨_, c, rfl⟩
theorem IlD.shape2 {w0 wr : World} {v : Value} {xs : List Int} (h : IlD w0 wr v xs) (n : Nat) (hn : n = xs.length) : ∃ a c, v = .slice a n c := by subst hn; exact h.shape

/-- one into rising numbers, as the model does it -/
def putStep (id : Int) (s : List Int × Bool) (x : Int) : List Int × Bool :=
  (if x = id then (if s.2 = false ∧ id ≤ x then s.1 ++ [id] else s.1) else (if s.2 = false ∧ id ≤ x then s.1 ++ [id] else s.1) ++ [x], if s.2 = false ∧ id ≤ x then true else s.2)
def putS (xs : List Int) (id : Int) : List Int × Bool := xs.foldl (putStep id) ([], false)
def putF (xs : List Int) (id : Int) : List Int := if (putS xs id).2 = true then (putS xs id).1 else (putS xs id).1 ++ [id]
theorem putS_succ (xs : List Int) (id : Int) (k : Nat) (hk : k < xs.length) : putS (xs.take (k + 1)) id = putStep id (putS (xs.take k) id) (xs[k]?.getD 0) := by
  unfold putS
  rw [List.take_add_one, List.foldl_append]
  simp [hk]
theorem putStep_len (id : Int) (s : List Int × Bool) (x : Int) : (putStep id s x).1.length + (!(putStep id s x).2).toNat ≤ s.1.length + (!s.2).toNat + 1 := by
  obtain ⟨o, d⟩ := s
  unfold putStep
  dsimp only
  cases d <;> by_cases h1 : id ≤ x <;> by_cases h2 : x = id <;> simp [h1, h2] <;> omega
theorem putS_len (id : Int) : ∀ (xs : List Int) (s : List Int × Bool), (xs.foldl (putStep id) s).1.length + (!(xs.foldl (putStep id) s).2).toNat ≤ s.1.length + (!s.2).toNat + xs.length
  | [], s => Nat.le_refl _
  | x :: r, s => by
    have h1 := putS_len id r (putStep id s x)
    have h2 := putStep_len id s x
    simp only [List.foldl_cons, List.length_cons]
    omega
theorem putS_le (xs : List Int) (id : Int) : (putS xs id).1.length + (!(putS xs id).2).toNat ≤ xs.length + 1 := by
  have := putS_len id xs ([], false)
  unfold putS
  simpa [Nat.add_comm] using this
/-- rising numbers -/
def IRis (l : List Int) : Prop := l.Pairwise (· < ·)
theorem iris_append {a b : List Int} : IRis (a ++ b) ↔ IRis a ∧ IRis b ∧ ∀ x ∈ a, ∀ y ∈ b, x < y := List.pairwise_append
/-- what stands at each place of the way: all that are ahead of those to come -/
theorem putS_ok (id : Int) : ∀ (xs pre : List Int) (d : Bool), IRis pre → IRis xs → (∀ p ∈ pre, ∀ x ∈ xs, p < x) → (d = true → id ∈ pre ∧ ∀ x ∈ xs, id < x) → (d = false → ∀ p ∈ pre, p < id) →
    IRis (xs.foldl (putStep id) (pre, d)).1 ∧ ((xs.foldl (putStep id) (pre, d)).2 = false → ∀ p ∈ (xs.foldl (putStep id) (pre, d)).1, p < id) ∧ ((xs.foldl (putStep id) (pre, d)).2 = true → id ∈ (xs.foldl (putStep id) (pre, d)).1) ∧
    (∀ y, y ≠ id → (y ∈ (xs.foldl (putStep id) (pre, d)).1 ↔ y ∈ pre ∨ y ∈ xs))
  | [], pre, d, hp, _, _, h3, h4 => ⟨hp, fun h => h4 h, fun h => (h3 h).1, fun y hy => by simp⟩
  | x :: r, pre, d, hp, hx, h2, h3, h4 => by
    obtain ⟨hx1, hx2⟩ := List.pairwise_cons.1 hx
    have hpx : ∀ p ∈ pre, p < x := fun p h => h2 p h x (by simp)
    have hpr : ∀ p ∈ pre, ∀ y ∈ r, p < y := fun p h y hy => h2 p h y (by simp [hy])
    simp only [List.foldl_cons]
    cases d with
    | true =>
      obtain ⟨h5, h6⟩ := h3 rfl
      have hxi : ¬ x = id := by have := h6 x (by simp); omega
      have e : putStep id (pre, true) x = (pre ++ [x], true) := by simp [putStep, hxi]
      rw [e]
      obtain ⟨a1, a2, a3, a4⟩ := putS_ok id r (pre ++ [x]) true (iris_append.2 ⟨hp, by simp [IRis], fun p h y hy => by rw [List.mem_singleton.1 hy]; exact hpx p h⟩) hx2 (fun p h y hy => by
        rcases List.mem_append.1 h with h | h
        · exact hpr p h y hy
        · rw [List.mem_singleton.1 h]; exact hx1 y hy) (fun _ => ⟨List.mem_append.2 (.inl h5), fun y hy => h6 y (by simp [hy])⟩) (fun h => by cases h)
      refine ⟨a1, a2, a3, fun y hy => ?_⟩
      rw [a4 y hy, List.mem_append, List.mem_singleton, List.mem_cons, or_assoc]
    | false =>
      have h5 := h4 rfl
      by_cases h6 : id ≤ x
      · by_cases h7 : x = id
        · have e : putStep id (pre, false) x = (pre ++ [id], true) := by simp [putStep, h6, h7]
          rw [e]
          obtain ⟨a1, a2, a3, a4⟩ := putS_ok id r (pre ++ [id]) true (iris_append.2 ⟨hp, by simp [IRis], fun p h y hy => by rw [List.mem_singleton.1 hy]; exact h5 p h⟩) hx2 (fun p h y hy => by
            rcases List.mem_append.1 h with h | h
            · exact hpr p h y hy
            · rw [List.mem_singleton.1 h, ← h7]; exact hx1 y hy) (fun _ => ⟨by simp, fun y hy => by rw [← h7]; exact hx1 y hy⟩) (fun h => by cases h)
          refine ⟨a1, a2, a3, fun y hy => ?_⟩
          rw [a4 y hy, List.mem_append, List.mem_singleton, List.mem_cons, h7]
          constructor
          · rintro ((h | h) | h)
            · exact .inl h
            · exact absurd h hy
            · exact .inr (.inr h)
          · rintro (h | h | h)
            · exact .inl (.inl h)
            · exact absurd h hy
            · exact .inr h
        · have e : putStep id (pre, false) x = (pre ++ [id] ++ [x], true) := by simp [putStep, h6, h7]
          rw [e]
          have hix : id < x := by omega
          obtain ⟨a1, a2, a3, a4⟩ := putS_ok id r (pre ++ [id] ++ [x]) true (iris_append.2 ⟨iris_append.2 ⟨hp, by simp [IRis], fun p h y hy => by rw [List.mem_singleton.1 hy]; exact h5 p h⟩, by simp [IRis], fun p h y hy => by
              rw [List.mem_singleton.1 hy]
              rcases List.mem_append.1 h with h | h
              · exact hpx p h
              · rw [List.mem_singleton.1 h]; exact hix⟩) hx2 (fun p h y hy => by
            rcases List.mem_append.1 h with h | h
            · rcases List.mem_append.1 h with h | h
              · exact hpr p h y hy
              · rw [List.mem_singleton.1 h]; have := hx1 y hy; omega
            · rw [List.mem_singleton.1 h]; exact hx1 y hy) (fun _ => ⟨by simp, fun y hy => by have := hx1 y hy; omega⟩) (fun h => by cases h)
          refine ⟨a1, a2, a3, fun y hy => ?_⟩
          rw [a4 y hy, List.mem_append, List.mem_append, List.mem_singleton, List.mem_singleton, List.mem_cons]
          constructor
          · rintro (((h | h) | h) | h)
            · exact .inl h
            · exact absurd h hy
            · exact .inr (.inl h)
            · exact .inr (.inr h)
          · rintro (h | h | h)
            · exact .inl (.inl (.inl h))
            · exact .inl (.inr h)
            · exact .inr h
      · have hxi : ¬ x = id := by omega
        have e : putStep id (pre, false) x = (pre ++ [x], false) := by simp [putStep, h6, hxi]
        rw [e]
        obtain ⟨a1, a2, a3, a4⟩ := putS_ok id r (pre ++ [x]) false (iris_append.2 ⟨hp, by simp [IRis], fun p h y hy => by rw [List.mem_singleton.1 hy]; exact hpx p h⟩) hx2 (fun p h y hy => by
          rcases List.mem_append.1 h with h | h
          · exact hpr p h y hy
          · rw [List.mem_singleton.1 h]; exact hx1 y hy) (fun h => by cases h) (fun _ p h => by
          rcases List.mem_append.1 h with h | h
          · exact h5 p h
          · rw [List.mem_singleton.1 h]; omega)
        refine ⟨a1, a2, a3, fun y hy => ?_⟩
        rw [a4 y hy, List.mem_append, List.mem_singleton, List.mem_cons, or_assoc]
theorem putF_ok {xs : List Int} (h : IRis xs) (id : Int) : IRis (putF xs id) ∧ ∀ y, y ∈ putF xs id ↔ y = id ∨ y ∈ xs := by
  obtain ⟨a1, a2, a3, a4⟩ := putS_ok id xs [] false (by simp [IRis]) h (by simp) (by simp) (by simp)
  unfold putF putS
  split
  · rename_i hd
    refine ⟨a1, fun y => ?_⟩
    by_cases hy : y = id
    · subst hy; simp [a3 hd]
    · rw [a4 y hy]; simp [hy]
  · rename_i hd
    have hd2 : (xs.foldl (putStep id) ([], false)).2 = false := by simpa using hd
    refine ⟨iris_append.2 ⟨a1, by simp [IRis], fun p hp y hy => by rw [List.mem_singleton.1 hy]; exact a2 hd2 p hp⟩, fun y => ?_⟩
    rw [List.mem_append, List.mem_singleton]
    by_cases hy : y = id
    · subst hy; simp
    · rw [a4 y hy]; simp [hy]
theorem iris_ext : ∀ (a b : List Int), IRis a → IRis b → (∀ k, k ∈ a ↔ k ∈ b) → a = b
  | [], [], _, _, _ => rfl
  | [], y :: b, _, _, h => by have := (h y).2 (by simp); simp at this
  | x :: a, [], _, _, h => by have := (h x).1 (by simp); simp at this
  | x :: a, y :: b, ha, hb, h => by
    have ha' := List.pairwise_cons.1 ha
    have hb' := List.pairwise_cons.1 hb
    have hxy : x = y := by
      rcases List.mem_cons.1 ((h x).1 (by simp)) with h1 | h1
      · exact h1
      · rcases List.mem_cons.1 ((h y).2 (by simp)) with h2 | h2
        · exact h2.symm
        · have e1 := hb'.1 x h1
          have e2 := ha'.1 y h2
          omega
    subst hxy
    congr 1
    refine iris_ext a b ha'.2 hb'.2 fun k => ⟨fun hk => ?_, fun hk => ?_⟩
    · rcases List.mem_cons.1 ((h k).1 (by simp [hk])) with h1 | h1
      · subst h1
        have := ha'.1 k hk
        omega
      · exact h1
    · rcases List.mem_cons.1 ((h k).2 (by simp [hk])) with h1 | h1
      · subst h1
        have := hb'.1 k hk
        omega
      · exact h1
/-- one behind all of them comes last -/
theorem putF_last {xs : List Int} (h : IRis xs) (id : Int) (hl : ∀ x ∈ xs, x < id) : putF xs id = xs ++ [id] := by
  obtain ⟨h1, h2⟩ := putF_ok h id
  refine iris_ext _ _ h1 (iris_append.2 ⟨h, by simp [IRis], fun p hp y hy => by rw [List.mem_singleton.1 hy]; exact hl p hp⟩) fun k => ?_
  rw [h2, List.mem_append, List.mem_singleton]
  exact Or.comm
end Go.Proofs.Ytpfnpinoamjcjaa
namespace Go.Proofs.Ytpfnpinoamjcjaa
open Go.ChangeShapes Go.WideShapes Go.ChangeAt Go.RowKit Go.BigFrame
set_option linter.unusedVariables false
set_option linter.unusedSimpArgs false

set_option maxRecDepth 100000 in
theorem iother_any (k : K2) (id : Int) (w : World) : Calls Try.prog 68 #[kv k, .int .i64 id] w fun e w' => e = .returned (.tuple #[.int .i64 ((nrF id k).getD 0), .bool (nrF id k).isSome]) ∧ Below w.heap.size w w' := by
  obtain ⟨p, q⟩ := k
  have HB := Lib.hid ((Below.refl w.heap.size w).alloc (Nat.le_refl _) (.cells #[.int .i64 p, .int .i64 q] 49))
  unfold kv nrF
  dsimp only
  by_cases h1 : p = id
  · rw [if_pos h1]
    subst h1
    go_enter Try.func68, Try.ntmps68
    go_wp2
    go_ret2
    exact ⟨rfl, HB.out⟩
  · rw [if_neg h1]
    have h1' : ¬ id = p := fun e => h1 e.symm
    by_cases h2 : q = id
    · rw [if_pos h2]
      subst h2
      go_enter Try.func68, Try.ntmps68
      go_wp2
      go_ret2
      exact ⟨rfl, HB.out⟩
    · rw [if_neg h2]
      have h2' : ¬ id = q := fun e => h2 e.symm
      go_enter Try.func68, Try.ntmps68
      go_wp2
      go_ret2
      exact ⟨rfl, HB.out⟩
theorem nr_succ (ks : List K2) (id : Int) (k : Nat) (hk : k < ks.length) : (ks.take (k + 1)).filterMap (nrF id) = (ks.take k).filterMap (nrF id) ++ (nrF id (ks.getD k (0, 0))).toList := by
  rw [List.take_add_one, List.filterMap_append]
  congr 1
  have e1 : ks[k]?.toList = [ks[k]] := by simp [hk]
  have e2 : ks.getD k (0, 0) = ks[k] := by simp [List.getD, hk]
  rw [e1, e2, List.filterMap_cons]
  cases nrF id ks[k] <;> rfl
theorem nr_len (ks : List K2) (id : Int) (k : Nat) : ((ks.take k).filterMap (nrF id)).length ≤ k := by
  have h1 := List.length_filterMap_le (nrF id) (ks.take k)
  rw [List.length_take] at h1
  omega
set_option maxRecDepth 100000 in
set_option maxHeartbeats 2000000 in
theorem inear1_any (bx : Nat) (v : Value) (ks : List K2) (id : Int) (w : World) (h : keysAt w v ks) (hr : w.heap[bx]? = some (.cells #[v] 24 (0, 0))) (hs : ks.length ≤ 100000) :
    Calls Try.prog 67 #[.int .i64 id, .pointer (some ⟨bx, 0, none⟩)] w fun e w' => ∃ v', e = .returned v' ∧ IlD w w' v' (ks.filterMap (nrF id)) := by
  obtain ⟨a, cap, rfl, hcap, hcells⟩ := h
  have c0 : w.cell? ⟨bx, 0, none⟩ = some (.slice a ks.length cap) := by rw [cell_of_row _ _ _ _ _ _ hr]; rfl
  have hL0 := IlD.nil w
  go_enter Try.func67, Try.ntmps67
  go_wp2
  go_loopw [4, 11] (fun ov i wr => ∃ (k : Nat) (v0 : Value), v0 = ov ∧ k ≤ ks.length ∧ i = .int .i64 k ∧ IlD w wr ov ((ks.take k).filterMap (nrF id))) (fun _ i _ => ks.length - (intOf i).toNat)
  case atStart => exact ⟨0, _, rfl, Nat.zero_le _, rfl, hL0⟩
  case round =>
    obtain ⟨k, ov, rfl, hk, rfl, hL⟩ := hrel
    clear hL0
    by_cases hlt : k < ks.length
    · obtain ⟨g, off, rfl, hg, hcs⟩ := hcells.resolve_left (by omega)
      have hc := hcs k hlt
      have HSU := Lib.hid (nr_succ ks id k hlt)
      have HLN := Lib.hid (nr_len ks id k)
      have D1 : wr.cell? ⟨g, off + k * 2, none⟩ = some (.int .i64 (ks.getD k (0, 0)).1) := by rw [hL.below.cell (p := ⟨g, off + k * 2, none⟩) hg]; exact hc.1
      have D2 : wr.cell? ⟨g, off + k * 2 + 1, none⟩ = some (.int .i64 (ks.getD k (0, 0)).2) := by rw [hL.below.cell (p := ⟨g, off + k * 2 + 1, none⟩) hg]; exact hc.2
      clear hcs hcells hc
      generalize ks.getD k (0, 0) = x at *
      generalize (ks.take k).filterMap (nrF id) = o at *
      have HO := Lib.hid (fun wx => iother_any x id wx)
      obtain ⟨p, q⟩ := x
      dsimp only at *
      have z0 : (0 : Int) ≤ (k : Int) := by omega
      have z1 : (k : Int) < (ks.length : Int) := by omega
      have HL1 := Lib.hid (hL.alloc (.cells #[.int .i64 p, .int .i64 q] 49))
      have hol : o.length ≤ 100000 := by have := HLN.out; omega
      obtain ⟨oa0, oc0, rfl⟩ := hL.shape
      clear hL HLN
      cases hn : nrF id (p, q) with
      | none =>
        rw [hn] at HO HSU
        have HS2 := Lib.hid (show (ks.take (k + 1)).filterMap (nrF id) = o by rw [HSU.out]; simp)
        clear hn HSU
        go_wp2_with fail
        refine (HO.out _).mono ?_
        rintro e w2 ⟨rfl, hb2⟩
        have HL2 := Lib.hid (HL1.out.next hb2)
        clear hb2 HL1 HO D1 D2
        go_wp2
        exact ⟨⟨k + 1, _, rfl, by omega, by go_num, by rw [HS2.out]; exact HL2.out⟩, by simp [intOf]; omega⟩
      | some y =>
        rw [hn] at HO HSU
        have HS2 := Lib.hid (show (ks.take (k + 1)).filterMap (nrF id) = o ++ [y] by rw [HSU.out]; rfl)
        clear hn HSU
        go_wp2_with fail
        refine (HO.out _).mono ?_
        rintro e w2 ⟨rfl, hb2⟩
        simp only [Option.getD_some, Option.isSome_some]
        have HL2 := Lib.hid (HL1.out.next hb2)
        clear hb2 HL1 HO D1 D2
        have HA3 := Lib.hid (HL2.out.alloc (.cells #[.int .i64 y] 3))
        go_wp2_with (at_builtin; refine wpList_append_in1 rfl (.tmp 22) (.tmp 24) rfl HA3.out.own (w2.heap.size) y (heap_alloc_new _ _) rfl rfl (by omega) HA3.out.below.size ?_; intro v3 w3 ho3 hg3; have HL3 := Lib.hid (HA3.out.push ho3 hg3); clear HA3 ho3 hg3)
        exact ⟨⟨k + 1, _, rfl, by omega, by go_num, by rw [HS2.out]; exact HL3.out⟩, by simp [intOf]; omega⟩
    · obtain rfl : k = ks.length := by omega
      rw [List.take_length] at hL
      clear hcells
      go_wp2
      go_ret
      exact ⟨_, rfl, hL⟩
theorem IlD.base {w0 w00 wr : World} {v : Value} {xs : List Int} (h : IlD w0 wr v xs) (hb : Below w00.heap.size w00 w0) : IlD w00 wr v xs := ⟨own_base h.1 hb.size, hb.trans (h.2.mono hb.size)⟩
theorem inearby_any (a : Option Addr) (n cap : Nat) (w : World) : Calls Try.prog 55 #[.slice a n cap] w fun e w' => e = .returned (.func (.func 67) #[] #[.pointer (some ⟨w.heap.size, 0, none⟩)]) ∧ w' = w.alloc (.cells #[.slice a n cap] 24) := by
  go_enter Try.func55, Try.ntmps55
  go_wp2
  go_ret
  exact ⟨rfl, rfl⟩
set_option maxRecDepth 100000 in
set_option maxHeartbeats 1000000 in
theorem inear_any (v : Value) (ks : List K2) (id : Int) (w : World) (h : keysAt w v ks) (hs : ks.length ≤ 2000000) :
    Calls Try.prog 24 #[v, .int .i64 id] w fun e w' => ∃ v', e = .returned v' ∧ IlD w w' v' (nearM ks id) := by
  have HLK := Lib.hid (ilinksok_any v ks w h hs)
  have HK := Lib.hid (fun wx (hb : Below w.heap.size w wx) => keysAt_below h hb)
  unfold nearM
  cases hl : lnsB ks with
  | false =>
    rw [if_neg (by simp)]
    rw [hl] at HLK
    obtain ⟨a, cap, rfl, -, -⟩ := h
    clear hl
    go_enter Try.func24, Try.ntmps24
    go_wp2_with fail
    refine HLK.out.mono ?_
    rintro e w1 ⟨rfl, hb1⟩
    have HB1 := Lib.hid hb1
    clear hb1 HLK HK
    go_wp2
    go_ret
    exact ⟨_, rfl, World.ownsRow_nil _ _ _ _, HB1.out⟩
  | true =>
    rw [if_pos rfl]
    rw [hl] at HLK
    have hlen := ((lns_iff ks).1 hl).1
    have HN := Lib.hid (fun bx wx (hr : wx.heap[bx]? = some (.cells #[v] 24 (0, 0))) (hk : keysAt wx v ks) => inear1_any bx v ks id wx hk hr (by omega))
    obtain ⟨a, cap, rfl, -, -⟩ := h
    clear hl
    go_enter Try.func24, Try.ntmps24
    go_wp2_with fail
    refine HLK.out.mono ?_
    rintro e w1 ⟨rfl, hb1⟩
    have HB1 := Lib.hid hb1
    clear hb1 HLK
    go_wp2_with fail
    refine (inearby_any _ _ _ _).mono ?_
    rintro e w2 ⟨rfl, rfl⟩
    have hb2 := (Below.refl w1.heap.size w1).alloc (Nat.le_refl _) (.cells #[.slice a ks.length cap] 24)
    have HB2 := Lib.hid (HB1.out.trans (hb2.mono HB1.out.size))
    have HR := Lib.hid (heap_alloc_new w1 (.cells #[.slice a ks.length cap] 24))
    generalize w1.alloc (.cells #[.slice a ks.length cap] 24) = w3 at *
    go_wp2_with fail
    refine (HN.out _ _ HR.out (HK.out _ HB2.out)).mono ?_
    rintro e w4 ⟨v4, rfl, hL4⟩
    have HL4 := Lib.hid (hL4.base HB2.out)
    clear hL4 HN HK HR HB1 hb2
    go_wp2
    go_ret
    exact ⟨_, rfl, HL4.out⟩
end Go.Proofs.Ytpfnpinoamjcjaa
namespace Go.Proofs.Ytpfnpinoamjcjaa
open Go.ChangeShapes Go.WideShapes Go.ChangeAt Go.RowKit Go.BigFrame
set_option linter.unusedVariables false
set_option linter.unusedSimpArgs false

set_option maxRecDepth 100000 in
set_option maxHeartbeats 2000000 in
theorem sput_any (v : Value) (xs : List Int) (id : Int) (w : World) (h : inAt w v xs) (hs : xs.length ≤ 100000) :
    Calls Try.prog 56 #[v, .int .i64 id] w fun e w' => ∃ v', e = .returned v' ∧ IlD w w' v' (putF xs id) := by
  obtain ⟨a, cap, rfl, hcap, hcells⟩ := h
  have hL0 := IlD.lit w
  go_enter Try.func56, Try.ntmps56
  go_wp2
  go_loopw [5, 6, 7] (fun ov dv i wr => ∃ (k : Nat) (v0 : Value), v0 = ov ∧ k ≤ xs.length ∧ i = .int .i64 k ∧ dv = .bool (putS (xs.take k) id).2 ∧ IlD w wr ov (putS (xs.take k) id).1) (fun _ _ i _ => xs.length - (intOf i).toNat)
  case atStart => exact ⟨0, _, rfl, Nat.zero_le _, rfl, rfl, hL0⟩
  case round =>
    obtain ⟨k, ov, rfl, hk, rfl, rfl, hL⟩ := hrel
    clear hL0
    have HLE := Lib.hid (putS_le (xs.take k) id)
    have HTK := Lib.hid (show (xs.take k).length ≤ 100000 by rw [List.length_take]; omega)
    by_cases hlt : k < xs.length
    · obtain ⟨g, off, rfl, hg, hcs⟩ := hcells.resolve_left (by omega)
      have hc := hcs k hlt
      have HSU := Lib.hid (putS_succ xs id k hlt)
      have HD := Lib.hid (show ∀ w', Below w.heap.size w w' → w'.cell? ⟨g, off + k, none⟩ = some (.int .i64 (xs[k]?.getD 0)) from fun w' hb => by rw [hb.cell (p := ⟨g, off + k, none⟩) hg]; exact hc)
      have D1 := HD.out _ hL.below
      clear hcs hcells hc
      generalize xs[k]?.getD 0 = x at *
      generalize putS (xs.take k) id = s1 at *
      obtain ⟨o, d⟩ := s1
      dsimp only at *
      have hol : o.length ≤ 100001 := by have := HLE.out; have := HTK.out; omega
      have z0 : (0 : Int) ≤ (k : Int) := by omega
      have z1 : (k : Int) < (xs.length : Int) := by omega
      have HL0 := Lib.hid hL
      clear HLE HTK hL
      cases d with
      | false =>
        by_cases h1 : id ≤ x
        · by_cases h2 : x = id
          · subst h2
            have HS2 := Lib.hid (show putS (xs.take (k + 1)) _ = (o ++ [x], true) by rw [HSU.out]; simp [putStep])
            clear HSU
            obtain ⟨oa0, oc0, rfl⟩ := HL0.out.shape
            have HA1 := Lib.hid (HL0.out.alloc (.cells #[.int .i64 x] 3))
            go_wp2_with (at_builtin; refine wpList_append_in1 rfl (.tmp 25) (.tmp 27) rfl HA1.out.own (wr.heap.size) x (heap_alloc_new _ _) rfl rfl (by first | omega | (simp; omega)) HA1.out.below.size ?_; intro v1 w1 ho1 hg1; have HL1 := Lib.hid (HA1.out.push ho1 hg1); clear HA1 ho1 hg1; obtain ⟨oa1, oc1, rfl⟩ := HL1.out.shape2 (o.length + 1) (by simp); have D2 := HD.out _ HL1.out.below)
            go_wp2
            exact ⟨⟨k + 1, _, rfl, by omega, by go_num, by rw [HS2.out], by rw [HS2.out]; exact HL1.out⟩, by simp [intOf]; omega⟩
          · have HS2 := Lib.hid (show putS (xs.take (k + 1)) _ = (o ++ [id] ++ [x], true) by rw [HSU.out]; simp [putStep, h1, h2])
            clear HSU
            obtain ⟨oa0, oc0, rfl⟩ := HL0.out.shape
            have HA1 := Lib.hid (HL0.out.alloc (.cells #[.int .i64 id] 3))
            go_wp2_with (first | (at_builtin; refine wpList_append_in1 rfl (.tmp 25) (.tmp 27) rfl HA1.out.own (wr.heap.size) id (heap_alloc_new _ _) rfl rfl (by first | omega | (simp; omega)) HA1.out.below.size ?_; intro v1 w1 ho1 hg1; have HL1 := Lib.hid (HA1.out.push ho1 hg1); clear HA1 ho1 hg1; obtain ⟨oa1, oc1, rfl⟩ := HL1.out.shape2 (o.length + 1) (by simp); have D2 := HD.out _ HL1.out.below; have HA2 := Lib.hid (HL1.out.alloc (.cells #[.int .i64 x] 3))) | (at_builtin; refine wpList_append_in1 rfl (.tmp 35) (.tmp 40) rfl HA2.out.own (w1.heap.size) x (heap_alloc_new _ _) rfl rfl (by simp; omega) HA2.out.below.size ?_; intro v2 w2 ho2 hg2; have HL2 := Lib.hid (HA2.out.push ho2 hg2); clear HA2 ho2 hg2; obtain ⟨oa2, oc2, rfl⟩ := HL2.out.shape2 (o.length + 1 + 1) (by simp)))
            go_wp2
            exact ⟨⟨k + 1, _, rfl, by omega, by go_num, by rw [HS2.out], by rw [HS2.out]; exact HL2.out⟩, by simp [intOf]; omega⟩
        · have h2 : ¬ x = id := by omega
          have HS2 := Lib.hid (show putS (xs.take (k + 1)) _ = (o ++ [x], false) by rw [HSU.out]; simp [putStep, h1, h2])
          clear HSU
          obtain ⟨oa0, oc0, rfl⟩ := HL0.out.shape
          have HA1 := Lib.hid (HL0.out.alloc (.cells #[.int .i64 x] 3))
          go_wp2_with (at_builtin; refine wpList_append_in1 rfl (.tmp 35) (.tmp 40) rfl HA1.out.own (wr.heap.size) x (heap_alloc_new _ _) rfl rfl (by first | omega | (simp; omega)) HA1.out.below.size ?_; intro v1 w1 ho1 hg1; have HL1 := Lib.hid (HA1.out.push ho1 hg1); clear HA1 ho1 hg1; obtain ⟨oa1, oc1, rfl⟩ := HL1.out.shape2 (o.length + 1) (by simp))
          go_wp2
          exact ⟨⟨k + 1, _, rfl, by omega, by go_num, by rw [HS2.out], by rw [HS2.out]; exact HL1.out⟩, by simp [intOf]; omega⟩
      | true =>
        by_cases h2 : x = id
        · subst h2
          have HS2 := Lib.hid (show putS (xs.take (k + 1)) _ = (o, true) by rw [HSU.out]; simp [putStep])
          clear HSU
          obtain ⟨oa0, oc0, rfl⟩ := HL0.out.shape
          go_wp2
          exact ⟨⟨k + 1, _, rfl, by omega, by go_num, by rw [HS2.out], by rw [HS2.out]; exact HL0.out⟩, by simp [intOf]; omega⟩
        · have HS2 := Lib.hid (show putS (xs.take (k + 1)) _ = (o ++ [x], true) by rw [HSU.out]; simp [putStep, h2])
          clear HSU
          obtain ⟨oa0, oc0, rfl⟩ := HL0.out.shape
          have HA1 := Lib.hid (HL0.out.alloc (.cells #[.int .i64 x] 3))
          go_wp2_with (at_builtin; refine wpList_append_in1 rfl (.tmp 35) (.tmp 40) rfl HA1.out.own (wr.heap.size) x (heap_alloc_new _ _) rfl rfl (by first | omega | (simp; omega)) HA1.out.below.size ?_; intro v1 w1 ho1 hg1; have HL1 := Lib.hid (HA1.out.push ho1 hg1); clear HA1 ho1 hg1; obtain ⟨oa1, oc1, rfl⟩ := HL1.out.shape2 (o.length + 1) (by simp))
          go_wp2
          exact ⟨⟨k + 1, _, rfl, by omega, by go_num, by rw [HS2.out], by rw [HS2.out]; exact HL1.out⟩, by simp [intOf]; omega⟩
    · obtain rfl : k = xs.length := by omega
      have HPF := Lib.hid (show putF xs id = if (putS xs id).2 = true then (putS xs id).1 else (putS xs id).1 ++ [id] from rfl)
      rw [List.take_length] at hL HLE HTK ⊢
      generalize putS xs id = s1 at *
      obtain ⟨o, d⟩ := s1
      dsimp only at *
      have hol : o.length ≤ 100001 := by have := HLE.out; omega
      have HL0 := Lib.hid hL
      clear HLE HTK hL hcells
      cases d with
      | true =>
        obtain ⟨oa0, oc0, rfl⟩ := HL0.out.shape
        go_wp2
        go_ret
        exact ⟨_, rfl, by rw [HPF.out]; exact HL0.out⟩
      | false =>
        obtain ⟨oa0, oc0, rfl⟩ := HL0.out.shape
        have HA1 := Lib.hid (HL0.out.alloc (.cells #[.int .i64 id] 3))
        go_wp2_with (at_builtin; refine wpList_append_in1 rfl (.tmp 44) (.tmp 46) rfl HA1.out.own (wr.heap.size) id (heap_alloc_new _ _) rfl rfl (by first | omega | (simp; omega)) HA1.out.below.size ?_; intro v1 w1 ho1 hg1; have HL1 := Lib.hid (HA1.out.push ho1 hg1); clear HA1 ho1 hg1; obtain ⟨oa1, oc1, rfl⟩ := HL1.out.shape2 (o.length + 1) (by simp))
        clear HL0
        go_wp2
        go_ret
        exact ⟨_, rfl, by rw [HPF.out]; exact HL1.out⟩
end Go.Proofs.Ytpfnpinoamjcjaa
namespace Go.Proofs.Ytpfnpinoamjcjaa
open Go.ChangeShapes Go.WideShapes Go.ChangeAt Go.RowKit Go.BigFrame
set_option linter.unusedVariables false
set_option linter.unusedSimpArgs false

theorem nrF_lt {id x y : Int} {a b : K2} (ha : lnB a = true) (hb : lnB b = true) (h : aheadB a b = true) (hx : nrF id a = some x) (hy : nrF id b = some y) : x < y := by
  rw [lnB_iff] at ha hb
  rw [ahead_iff] at h
  unfold nrF at hx hy
  split at hx
  · cases hx
    split at hy
    · cases hy; omega
    · split at hy
      · cases hy; omega
      · cases hy
  · split at hx
    · cases hx
      split at hy
      · cases hy; omega
      · split at hy
        · cases hy; omega
        · cases hy
    · cases hx
theorem nr_rising {ks : List K2} (h : lnsB ks = true) (id : Int) : IRis (ks.filterMap (nrF id)) := by
  obtain ⟨-, h2, h3⟩ := (lns_iff ks).1 h
  unfold IRis
  rw [List.pairwise_filterMap]
  unfold Rising at h3
  exact List.Pairwise.imp_of_mem (fun {a b} ma mb hab x hx y hy => nrF_lt (h2 a ma) (h2 b mb) hab hx hy) h3
theorem nr_put {ks : List K2} (h : lnsB ks = true) (id : Int) {k : Nat} (hk : k < ks.length) {y : Int} (hy : nrF id (ks.getD k (0, 0)) = some y) : putF ((ks.take k).filterMap (nrF id)) y = (ks.take (k + 1)).filterMap (nrF id) := by
  have hr := nr_rising h id
  have e : ks.filterMap (nrF id) = (ks.take (k + 1)).filterMap (nrF id) ++ (ks.drop (k + 1)).filterMap (nrF id) := by rw [← List.filterMap_append, List.take_append_drop]
  rw [e] at hr
  have hr1 := (iris_append.1 hr).1
  rw [nr_succ ks id k hk, hy] at hr1 ⊢
  obtain ⟨h1, -, h3⟩ := iris_append.1 hr1
  exact putF_last h1 y fun x hx => h3 x hx y (by simp)
set_option maxRecDepth 100000 in
set_option maxHeartbeats 2000000 in
theorem snear_any (v : Value) (ks : List K2) (id : Int) (w : World) (h : keysAt w v ks) (hs : ks.length ≤ 2000000) :
    Calls Try.prog 26 #[v, .int .i64 id] w fun e w' => ∃ v', e = .returned v' ∧ IlD w w' v' (nearM ks id) := by
  have HLK := Lib.hid (fun wx (hb : Below w.heap.size w wx) => slinksok_any v ks wx (keysAt_below h hb) hs)
  obtain ⟨a, cap, rfl, hcap, hcells⟩ := h
  have hL0 := IlD.lit w
  unfold nearM
  cases hl : lnsB ks with
  | false =>
    rw [if_neg (by simp)]
    rw [hl] at HLK
    clear hl
    by_cases hz : ks.length = 0
    · rw [hz]
      clear hcells HLK
      go_enter Try.func26, Try.ntmps26
      go_wp2
      go_loopw [5, 6] (fun ov i wr => ∃ v0 : Value, v0 = ov ∧ i = .int .i64 0 ∧ IlD w wr ov []) (fun _ i _ => 0)
      case atStart => exact ⟨_, rfl, rfl, hL0⟩
      case round =>
        obtain ⟨ov, rfl, rfl, hL⟩ := hrel
        go_wp2
        go_ret
        exact ⟨_, rfl, hL⟩
    · have z1 : (0 : Int) < (ks.length : Int) := by omega
      clear hcells
      go_enter Try.func26, Try.ntmps26
      go_wp2
      go_loopw [5, 6] (fun ov i wr => ∃ v0 : Value, v0 = ov ∧ i = .int .i64 0 ∧ IlD w wr ov []) (fun _ i _ => 0)
      case atStart => exact ⟨_, rfl, rfl, hL0⟩
      case round =>
        obtain ⟨ov, rfl, rfl, hL⟩ := hrel
        clear hL0
        have HL := Lib.hid hL
        clear hL
        go_wp2_with fail
        refine (HLK.out _ HL.out.below).mono ?_
        rintro e w1 ⟨rfl, hb1⟩
        have HL1 := Lib.hid (HL.out.next hb1)
        clear hb1 HLK HL
        go_wp2
        go_ret
        exact ⟨_, rfl, HL1.out⟩
  | true =>
    rw [if_pos rfl]
    rw [hl] at HLK
    have hlen := ((lns_iff ks).1 hl).1
    have HALL := Lib.hid ((lns_iff ks).1 hl).2.1
    have HPUT := Lib.hid (fun (k : Nat) (y : Int) (hk : k < ks.length) (hy : nrF id (ks.getD k (0, 0)) = some y) => nr_put hl id hk hy)
    clear hl
    go_enter Try.func26, Try.ntmps26
    go_wp2
    go_loopw [5, 6] (fun ov i wr => ∃ (k : Nat) (v0 : Value), v0 = ov ∧ k ≤ ks.length ∧ i = .int .i64 k ∧ IlD w wr ov ((ks.take k).filterMap (nrF id))) (fun _ i _ => ks.length - (intOf i).toNat)
    case atStart => exact ⟨0, _, rfl, Nat.zero_le _, rfl, hL0⟩
    case round =>
      obtain ⟨k, ov, rfl, hk, rfl, hL⟩ := hrel
      clear hL0
      by_cases hlt : k < ks.length
      · obtain ⟨g, off, rfl, hg, hcs⟩ := hcells.resolve_left (by omega)
        have hc := hcs k hlt
        have HSU := Lib.hid (nr_succ ks id k hlt)
        have HP := Lib.hid (fun y hy => HPUT.out k y hlt hy)
        have hlb := HALL.out (ks.getD k (0, 0)) (by simp [List.getD, hlt])
        have HD1 := Lib.hid (show ∀ w', Below w.heap.size w w' → w'.cell? ⟨g, off + k * 2, none⟩ = some (.int .i64 (ks.getD k (0, 0)).1) from fun w' hb => by rw [hb.cell (p := ⟨g, off + k * 2, none⟩) hg]; exact hc.1)
        have HD2 := Lib.hid (show ∀ w', Below w.heap.size w w' → w'.cell? ⟨g, off + k * 2 + 1, none⟩ = some (.int .i64 (ks.getD k (0, 0)).2) from fun w' hb => by rw [hb.cell (p := ⟨g, off + k * 2 + 1, none⟩) hg]; exact hc.2)
        have HLN := Lib.hid (nr_len ks id k)
        clear hcs hcells hc HPUT HALL
        generalize ks.getD k (0, 0) = x at *
        generalize (ks.take k).filterMap (nrF id) = o at *
        obtain ⟨p, q⟩ := x
        dsimp only at *
        have z0 : (0 : Int) ≤ (k : Int) := by omega
        have z1 : (k : Int) < (ks.length : Int) := by omega
        have hol : o.length ≤ 100 := by have := HLN.out; omega
        have hpq := ((lnB_iff _).1 hlb).2.1
        dsimp only at hpq
        clear HLN hlb
        have HL := Lib.hid hL
        obtain ⟨oa0, oc0, rfl⟩ := hL.shape
        clear hL
        by_cases h1 : p = id
        · subst h1
          have HS2 := Lib.hid (show putF o q = (ks.take (k + 1)).filterMap (nrF p) from HP.out q (by simp [nrF]))
          have h2 : ¬ q = p := by omega
          clear HSU HP
          go_wp2_with fail
          refine (HLK.out _ HL.out.below).mono ?_
          rintro e w1 ⟨rfl, hb1⟩
          have HL1 := Lib.hid (HL.out.next hb1)
          have D1 := HD1.out _ HL1.out.below
          have D2 := HD2.out _ HL1.out.below
          clear hb1 HLK HL
          go_wp2_with fail
          refine (sput_any _ o q _ HL1.out.at (by omega)).mono ?_
          rintro e w2 ⟨v2, rfl, hL2⟩
          have HL2 := Lib.hid (hL2.base HL1.out.below)
          have D3 := HD1.out _ HL2.out.below
          have D4 := HD2.out _ HL2.out.below
          clear D1 D2 hL2 HL1
          go_wp2
          exact ⟨⟨k + 1, _, rfl, by omega, by go_num, by rw [← HS2.out]; exact HL2.out⟩, by simp [intOf]; omega⟩
        · by_cases h2 : q = id
          · subst h2
            have HS2 := Lib.hid (show putF o p = (ks.take (k + 1)).filterMap (nrF q) from HP.out p (by simp [nrF, h1]))
            clear HSU HP
            go_wp2_with fail
            refine (HLK.out _ HL.out.below).mono ?_
            rintro e w1 ⟨rfl, hb1⟩
            have HL1 := Lib.hid (HL.out.next hb1)
            have D1 := HD1.out _ HL1.out.below
            have D2 := HD2.out _ HL1.out.below
            clear hb1 HLK HL
            go_wp2_with fail
            refine (sput_any _ o p _ HL1.out.at (by omega)).mono ?_
            rintro e w2 ⟨v2, rfl, hL2⟩
            have HL2 := Lib.hid (hL2.base HL1.out.below)
            clear D1 D2 hL2 HL1
            go_wp2
            exact ⟨⟨k + 1, _, rfl, by omega, by go_num, by rw [← HS2.out]; exact HL2.out⟩, by simp [intOf]; omega⟩
          · have HS2 := Lib.hid (show (ks.take (k + 1)).filterMap (nrF id) = o by rw [HSU.out]; simp [nrF, h1, h2])
            clear HSU HP
            go_wp2_with fail
            refine (HLK.out _ HL.out.below).mono ?_
            rintro e w1 ⟨rfl, hb1⟩
            have HL1 := Lib.hid (HL.out.next hb1)
            have D1 := HD1.out _ HL1.out.below
            have D2 := HD2.out _ HL1.out.below
            clear hb1 HLK HL
            go_wp2
            exact ⟨⟨k + 1, _, rfl, by omega, by go_num, by rw [HS2.out]; exact HL1.out⟩, by simp [intOf]; omega⟩
      · obtain rfl : k = ks.length := by omega
        rw [List.take_length] at hL
        clear hcells
        go_wp2
        go_ret
        exact ⟨_, rfl, hL⟩
end Go.Proofs.Ytpfnpinoamjcjaa
namespace Go.Proofs.Ytpfnpinoamjcjaa
open Go.RowKit Go.ChangeShapes Go.WideShapes Go.ChangeAt
set_option linter.unusedVariables false
set_option maxRecDepth 100000 in
set_option maxHeartbeats 1000000 in
theorem eqints_self (va vb : Value) (A : List Int) (w : World) (ha : inAt w va A) (hb : inAt w vb A) (hn : A.length ≤ 4000000) :
    Calls Try.prog 36 #[va, vb] w fun e w' => e = .returned (.bool true) ∧ Below w.heap.size w w' := by
  obtain ⟨a1, c1, rfl, hc1, h1⟩ := ha
  obtain ⟨a2, c2, rfl, hc2, h2⟩ := hb
  generalize hN : A.length = n at *
  rcases Nat.eq_zero_or_pos n with rfl | hp
  · clear h1 h2
    go_enter Try.func36, Try.ntmps36
    go_wp2
    go_loopw [5] (fun i wr => i = .int .i64 0 ∧ wr = w) (fun _ _ => 0)
    case atStart => exact ⟨rfl, rfl⟩
    case round =>
      obtain ⟨rfl, rfl⟩ := hrel
      go_wp2
      go_ret
      exact ⟨rfl, Below.refl _ _⟩
  · obtain ⟨g1, o1, rfl, l1, h1⟩ := h1.resolve_left (by omega)
    obtain ⟨g2, o2, rfl, l2, h2⟩ := h2.resolve_left (by omega)
    go_enter Try.func36, Try.ntmps36
    go_wp2
    go_loopw [5] (fun i wr => ∃ (k : Nat), k ≤ n ∧ i = .int .i64 k ∧ Below w.heap.size w wr)
      (fun i _ => n - (intOf i).toNat)
    case atStart => exact ⟨0, Nat.zero_le _, rfl, Below.refl _ _⟩
    case round =>
      obtain ⟨k, hk, rfl, hbr⟩ := hrel
      by_cases hlt : k < n
      · have z0 : (0 : Int) ≤ (k : Int) := by omega
        have z1 : (k : Int) < (n : Int) := by omega
        have d1 := (hbr.cell (p := ⟨g1, o1 + k, none⟩) l1).trans (h1 k hlt)
        have d2 := (hbr.cell (p := ⟨g2, o2 + k, none⟩) l2).trans (h2 k hlt)
        have R := Lib.hid hbr
        clear h1 h2 hbr
        generalize A[k]?.getD 0 = x at *
        go_wp2
        go_region
        go_wp2
        exact ⟨⟨k + 1, by omega, by go_num, R.out.drew⟩, by simp [intOf] <;> omega⟩
      · obtain rfl : k = n := by omega
        clear h1 h2
        go_wp2
        go_ret
        exact ⟨rfl, hbr⟩
end Go.Proofs.Ytpfnpinoamjcjaa
namespace Go.Proofs.Ytpfnpinoamjcjaa
open Go.RowKit Go.ChangeShapes Go.WideShapes Go.ChangeAt
set_option linter.unusedVariables false
set_option maxRecDepth 100000 in
set_option maxHeartbeats 1000000 in
theorem markints_any (base : Nat) (v : Value) (n : Nat) (xs : List Value) (m : Int) (w : World) (h : w.ownsRow base 3 1 v n xs) (hm : 0 ≤ m ∧ m ≤ 1000000000) (hn : n ≤ 4000000) :
    Calls Try.prog 37 #[v, .int .i64 m] w fun e w' => e = .returned (.int .i64 (m + (n : Int))) ∧ w'.ownsRow base 3 1 v n (intsV (mkI n m)) ∧ w.grownBy w' v.ownBlock := by
  rcases ownsRow_shape0 h with ⟨rfl, rfl⟩ | ⟨g, cap, rfl⟩
  · have e0 : m + ((0 : Nat) : Int) = m := by omega
    rw [e0]
    have ho : w.ownsRow base 3 1 (.slice none 0 0) 0 (intsV (mkI 0 m)) := ⟨by simp [mkI, intsV], .inl ⟨rfl, rfl⟩⟩
    go_enter Try.func37, Try.ntmps37
    go_wp2
    go_loopw [1, 5] (fun c i wr => c = .int .i64 m ∧ i = .int .i64 0 ∧ wr = w) (fun _ _ _ => 0)
    case atStart => exact ⟨rfl, rfl, rfl⟩
    case round =>
      obtain ⟨rfl, rfl, rfl⟩ := hrel
      go_wp2
      go_ret
      exact ⟨rfl, ho, World.grownBy.refl _ _⟩
  · have hxl := h.1
    go_enter Try.func37, Try.ntmps37
    go_wp2
    go_loopw [1, 5] (fun c i wr => ∃ (k : Nat) (rest : List Value), k ≤ n ∧ i = .int .i64 k ∧ c = .int .i64 (m + (k : Int)) ∧ wr.ownsRow base 3 1 (.slice (some ⟨g, 0, none⟩) n cap) n (intsV (mkI k m) ++ rest) ∧ w.grownBy wr (some g))
      (fun _ i _ => n - (intOf i).toNat)
    case atStart => exact ⟨0, xs, Nat.zero_le _, rfl, by simp, by simpa [mkI, intsV] using h, World.grownBy.refl _ _⟩
    case round =>
      obtain ⟨k, rest, hk, rfl, rfl, hown, hgr⟩ := hrel
      clear h
      by_cases hlt : k < n
      · have z0 : (0 : Int) ≤ (k : Int) := by omega
        have z1 : (k : Int) < (n : Int) := by omega
        have hl := hown.1
        rw [List.length_append, intsV_len, mkI_len] at hl
        obtain ⟨u, rest2, rfl⟩ : ∃ u r, rest = u :: r := by
          match rest, hl with
          | [], h => simp at h; omega
          | a :: r, _ => exact ⟨a, r, rfl⟩
        have hset : (intsV (mkI k m) ++ u :: rest2).set k (.int .i64 (m + (k : Int))) = intsV (mkI (k + 1) m) ++ rest2 := by
          rw [List.set_append_right _ _ (by rw [intsV_len, mkI_len]; omega), intsV_len, mkI_len, Nat.sub_self, mkI_succ]
          simp [intsV]
        obtain ⟨s1, s2⟩ := own_cell hown k (by omega)
        have st := hown.stored k (.int .i64 (m + (k : Int)))
        rw [hset] at st
        have R := Lib.hid (And.intro st.1 (grown_trans hgr st.2))
        clear st hown hgr hl hset
        go_wp2
        exact ⟨⟨k + 1, rest2, by omega, by go_num, by go_num, R.out.1, R.out.2⟩, by simp [intOf]; omega⟩
      · obtain rfl : k = n := by omega
        have hr0 : rest = [] := by
          have h1 := hown.1
          rw [List.length_append, intsV_len, mkI_len] at h1
          exact List.eq_nil_of_length_eq_zero (by omega)
        subst hr0
        rw [List.append_nil] at hown
        go_wp2
        go_ret
        exact ⟨rfl, hown, hgr⟩
set_option maxRecDepth 100000 in
set_option maxHeartbeats 1000000 in
theorem heldints_any (base : Nat) (v : Value) (n : Nat) (m : Int) (w : World) (h : w.ownsRow base 3 1 v n (intsV (mkI n m))) (hm : 0 ≤ m ∧ m ≤ 1000000000) (hn : n ≤ 4000000) :
    Calls Try.prog 38 #[v, .int .i64 m] w fun e w' => e = .returned (.int .i64 (m + (n : Int))) ∧ w' = w := by
  rcases ownsRow_shape0 h with ⟨rfl, rfl⟩ | ⟨g, cap, rfl⟩
  · have e0 : m + ((0 : Nat) : Int) = m := by omega
    rw [e0]
    go_enter Try.func38, Try.ntmps38
    go_wp2
    go_loopw [1, 5] (fun c i wr => c = .int .i64 m ∧ i = .int .i64 0 ∧ wr = w) (fun _ _ _ => 0)
    case atStart => exact ⟨rfl, rfl, rfl⟩
    case round =>
      obtain ⟨rfl, rfl, rfl⟩ := hrel
      go_wp2
      go_ret
      exact ⟨rfl, rfl⟩
  · have hc := own_int h
    clear h
    go_enter Try.func38, Try.ntmps38
    go_wp2
    go_loopw [1, 5] (fun c i wr => ∃ (k : Nat), k ≤ n ∧ i = .int .i64 k ∧ c = .int .i64 (m + (k : Int)) ∧ wr = w)
      (fun _ i _ => n - (intOf i).toNat)
    case atStart => exact ⟨0, Nat.zero_le _, rfl, by simp, rfl⟩
    case round =>
      obtain ⟨k, hk, rfl, rfl, rfl⟩ := hrel
      by_cases hlt : k < n
      · have z0 : (0 : Int) ≤ (k : Int) := by omega
        have z1 : (k : Int) < (n : Int) := by omega
        have c1 := hc k hlt
        rw [mkI_get n k m hlt] at c1
        clear hc
        go_wp2
        exact ⟨⟨k + 1, by omega, by go_num, by go_num, by trivial⟩, by simp [intOf]; omega⟩
      · obtain rfl : k = n := by omega
        clear hc
        go_wp2
        go_ret
        exact ⟨rfl, rfl⟩
end Go.Proofs.Ytpfnpinoamjcjaa
namespace Go.Proofs.Ytpfnpinoamjcjaa
open Go.ChangeShapes Go.WideShapes Go.ChangeAt Go.RowKit
set_option linter.unusedVariables false
set_option linter.unusedSimpArgs false

set_option maxRecDepth 100000 in
set_option maxHeartbeats 2000000 in
theorem fnexactlinksok_walk (va : Value) (A : List K2) (w : World) (ha : keysAt w va A) (hA63 : A.length ≤ maxLen) :
    Calls Try.prog 7 #[va] w fun e w' => e = .returned (.bool true) ∧ Below w.heap.size w w' := by
  have hsA : ∃ a cap, va = .slice a A.length cap := by obtain ⟨a, cap, h, _⟩ := ha; exact ⟨a, cap, h⟩
  unfold maxLen at hA63
  have S1 := Lib.hid (fun w => szlinks_any va A 1048576 w hsA (by omega) (by omega))
  by_cases hlA : A.length ≤ 1048576
  · rw [if_neg (by omega)] at S1
    have n1 : ¬ 1048576 - (A.length : Int) < 0 := by omega
    have KA := Lib.hid (fun w' (h : Below w.heap.size w w') => tolinks_any va A w' (keysAt_below ha h) (by omega))
    have HI := Lib.hid (fun v w' h => ilinksok_any v A w' h (by omega))
    have HS := Lib.hid (fun v w' h => slinksok_any v A w' h (by omega))
    have HB0 := Below.refl w.heap.size w
    clear hsA ha
    generalize lnsB A = b at *
    go_enter Try.func7, Try.ntmps7
    go_wp2_with fail
    refine (S1.out _).mono ?_
    rintro e w1 ⟨rfl, rfl⟩
    clear S1
    go_wp2_with fail
    refine (KA.out _ HB0).mono ?_
    rintro e w2 ⟨g1, rfl, hg1, ho1, hb2⟩
    have HB2 := HB0.trans (hb2.mono HB0.size)
    go_wp2_with fail
    refine (HS.out _ _ (linksAt_own ho1)).mono ?_
    rintro e w3 ⟨rfl, hb3⟩
    have HB3 := HB2.trans (hb3.mono HB2.size)
    clear hb2 hb3 HB2 ho1
    go_wp2_with fail
    refine (KA.out _ HB3).mono ?_
    rintro e w4 ⟨g2, rfl, hg2, ho2, hb4⟩
    have HB4 := HB3.trans (hb4.mono HB3.size)
    clear hb4 HB3
    go_wp2_with fail
    refine (HI.out _ _ (linksAt_own ho2)).mono ?_
    rintro e w5 ⟨rfl, hb5⟩
    have HB5 := HB4.trans (hb5.mono HB4.size)
    have ho5 := own_below ho2 hb5
    clear hb5 HB4 ho2
    cases b
    all_goals
      go_wp2_with fail
      refine (KA.out _ HB5).mono ?_
      rintro e w9 ⟨g9, rfl, hg9, ho9, hb9⟩
      have hc9 := HB5.trans (hb9.mono HB5.size)
      have ho10 := own_below ho5 hb9
      go_wp2_with fail
      refine (eqlinks_any _ _ A A _ (linksAt_own ho10) (linksAt_own ho9) (by omega) (by omega)).mono ?_
      rintro e w10 ⟨rfl, hb10⟩
      have HF := Lib.hid (hc9.trans (hb10.mono hc9.size))
      rw [show decide (A = A) = true by simp]
      clear hb9 hb10 hc9 ho10 ho9
      go_wp2
      go_ret
      exact ⟨rfl, HF.out⟩
  · rw [if_pos (by omega)] at S1
    clear hsA ha
    go_enter Try.func7, Try.ntmps7
    go_wp2_with fail
    refine (S1.out _).mono ?_
    rintro e w1 ⟨rfl, rfl⟩
    go_wp2
    go_ret
    exact ⟨rfl, Below.refl _ _⟩
set_option maxRecDepth 100000 in
set_option maxHeartbeats 4000000 in
theorem fnexactlinkup_walk (va : Value) (A : List K2) (i0 : Int) (i1 : Int) (w : World) (ha : keysAt w va A) (hA63 : A.length ≤ maxLen) :
    Calls Try.prog 8 #[va, .int .i64 i0, .int .i64 i1] w fun e w' => e = .returned (.bool true) ∧ Below w.heap.size w w' := by
  have hsA : ∃ a cap, va = .slice a A.length cap := by obtain ⟨a, cap, h, _⟩ := ha; exact ⟨a, cap, h⟩
  unfold maxLen at hA63
  have S1 := Lib.hid (fun w => szlinks_any va A 1048576 w hsA (by omega) (by omega))
  by_cases hlA : A.length ≤ 1048576
  · rw [if_neg (by omega)] at S1
    have n1 : ¬ 1048576 - (A.length : Int) < 0 := by omega
    have KA := Lib.hid (fun w' (h : Below w.heap.size w w') => tolinks_any va A w' (keysAt_below ha h) (by omega))
    have HS := Lib.hid (fun v w' (h : keysAt w' v A) => slinkup_any v A i0 i1 w' h (by omega))
    have HI := Lib.hid (fun v w' (h : keysAt w' v A) => ilinkup_any v A i0 i1 w' h (by omega))
    have hMl : (upM A i0 i1).length ≤ 1048577 := by have := up_len A i0 i1; omega
    have HB := Lib.hid (Below.refl w.heap.size w)
    clear hsA ha
    generalize upM A i0 i1 = M at *
    go_enter Try.func8, Try.ntmps8
    go_wp2_with fail
    refine (S1.out _).mono ?_
    rintro e w1 ⟨rfl, rfl⟩
    clear S1
    go_wp2_with fail
    refine (KA.out _ HB.out).mono ?_
    rintro e w2 ⟨g1, rfl, hg1, ho, hb⟩
    have O1 := Lib.hid (own_base ho HB.out.size)
    clear ho
    replace HB := Lib.hid (HB.out.trans (hb.mono HB.out.size))
    clear hb
    go_wp2_with fail
    refine (HS.out _ _ (linksAt_own O1.out)).mono ?_
    rintro e w3 ⟨v0, rfl, ho, hb0⟩
    have O0 := Lib.hid (own_base ho HB.out.size)
    clear ho
    replace HB := Lib.hid (HB.out.trans (hb0.mono HB.out.size))
    replace O1 := Lib.hid (own_below O1.out hb0)
    clear hb0
    clear O1
    go_wp2_with fail
    refine (KA.out _ HB.out).mono ?_
    rintro e w4 ⟨g3, rfl, hg3, ho, hb⟩
    have Z0 := Lib.hid (show ∀ b, v0.ownBlock = some b → b < g3 from fun b e => Nat.lt_of_lt_of_le (O0.out.lt b e).2 hg3)
    have OX := Lib.hid (own_base ho HB.out.size)
    clear ho
    replace HB := Lib.hid (HB.out.trans (hb.mono HB.out.size))
    replace O0 := Lib.hid (own_below O0.out hb)
    clear hb
    go_wp2_with fail
    refine (HI.out _ _ (linksAt_own OX.out)).mono ?_
    rintro e w5 ⟨vg, rfl, ho, hb0⟩
    have ZG := Lib.hid (show ∀ b, vg.ownBlock = some b → g3 < b from fun b e => Nat.lt_of_lt_of_le (OX.out.lt g3 rfl).2 (ho.lt b e).1)
    have OG := Lib.hid (own_base ho HB.out.size)
    clear ho
    replace HB := Lib.hid (HB.out.trans (hb0.mono HB.out.size))
    replace O0 := Lib.hid (own_below O0.out hb0)
    replace OX := Lib.hid (own_below OX.out hb0)
    clear hb0
    go_wp2_with fail
    refine (eqlinks_any _ _ M M _ (linksAt_own OG.out) (linksAt_own O0.out) (by omega) (by omega)).mono ?_
    rintro e w6 ⟨rfl, hb⟩
    rw [show decide (M = M) = true by simp]
    replace HB := Lib.hid (HB.out.trans (hb.mono HB.out.size))
    replace O0 := Lib.hid (own_below O0.out hb)
    replace OX := Lib.hid (own_below OX.out hb)
    replace OG := Lib.hid (own_below OG.out hb)
    clear hb
    go_wp2_with fail
    refine (KA.out _ HB.out).mono ?_
    rintro e w7 ⟨g5, rfl, hg5, ho, hb⟩
    have O5 := Lib.hid (own_base ho HB.out.size)
    clear ho
    replace HB := Lib.hid (HB.out.trans (hb.mono HB.out.size))
    replace O0 := Lib.hid (own_below O0.out hb)
    replace OX := Lib.hid (own_below OX.out hb)
    replace OG := Lib.hid (own_below OG.out hb)
    clear hb
    go_wp2_with fail
    refine (eqlinks_any _ _ A A _ (linksAt_own OX.out) (linksAt_own O5.out) (by omega) (by omega)).mono ?_
    rintro e w8 ⟨rfl, hb⟩
    rw [show decide (A = A) = true by simp]
    replace HB := Lib.hid (HB.out.trans (hb.mono HB.out.size))
    replace O0 := Lib.hid (own_below O0.out hb)
    replace OX := Lib.hid (own_below OX.out hb)
    replace OG := Lib.hid (own_below OG.out hb)
    replace O5 := Lib.hid (own_below O5.out hb)
    clear hb
    clear O5
    go_wp2_with fail
    refine (marklinks_any _ _ _ _ 1 _ OX.out (by omega) (by omega) HB.out.size).mono ?_
    rintro e w9 ⟨rfl, hom, hgr⟩
    replace HB := Lib.hid (HB.out.grown hgr HB.out.size (fun k e => (OX.out.lt k e).1))
    replace O0 := Lib.hid (O0.out.kept hgr (.inr fun e => absurd (Z0.out g3 e) (Nat.lt_irrefl _)))
    replace OG := Lib.hid (OG.out.kept hgr (.inr fun e => absurd (ZG.out g3 e) (Nat.lt_irrefl _)))
    clear hom hgr
    clear OX
    have n4 : ¬ 1 + 2 * (A.length : Int) < 0 := by omega
    go_wp2_with fail
    refine (eqlinks_any _ _ M M _ (linksAt_own OG.out) (linksAt_own O0.out) (by omega) (by omega)).mono ?_
    rintro e w10 ⟨rfl, hb⟩
    rw [show decide (M = M) = true by simp]
    replace HB := Lib.hid (HB.out.trans (hb.mono HB.out.size))
    replace O0 := Lib.hid (own_below O0.out hb)
    replace OG := Lib.hid (own_below OG.out hb)
    clear hb
    go_wp2_with fail
    refine (marklinks_any _ _ _ _ 1 _ OG.out (by omega) (by omega) HB.out.size).mono ?_
    rintro e w11 ⟨rfl, hom, hgr⟩
    replace HB := Lib.hid (HB.out.grown hgr HB.out.size (fun k e => (OG.out.lt k e).1))
    have hk : v0.ownBlock = none ∨ v0.ownBlock ≠ vg.ownBlock := by
      cases hv : v0.ownBlock with
      | none => exact .inl rfl
      | some b => exact .inr fun e => by have := Z0.out b hv; have := ZG.out b e.symm; omega
    replace O0 := Lib.hid (O0.out.kept hgr hk)
    replace OG := Lib.hid hom
    clear hom hgr hk ZG Z0
    have n5 : ¬ 1 + 2 * (M.length : Int) < 0 := by omega
    go_wp2_with fail
    refine (heldlinks_any _ _ 1 _ (linksAt_own (ks := marked M.length 1) (by rw [marked_len]; exact OG.out)) (by omega) (by omega)).mono ?_
    rintro e w12 ⟨rfl, rfl⟩
    go_wp2_with fail
    refine (KA.out _ HB.out).mono ?_
    rintro e w13 ⟨g6, rfl, hg6, ho, hb⟩
    have O6 := Lib.hid (own_base ho HB.out.size)
    clear ho
    replace HB := Lib.hid (HB.out.trans (hb.mono HB.out.size))
    replace O0 := Lib.hid (own_below O0.out hb)
    replace OG := Lib.hid (own_below OG.out hb)
    clear hb
    go_wp2_with fail
    refine (HI.out _ _ (linksAt_own O6.out)).mono ?_
    rintro e w14 ⟨vh, rfl, ho, hb0⟩
    have OH := Lib.hid (own_base ho HB.out.size)
    clear ho
    replace HB := Lib.hid (HB.out.trans (hb0.mono HB.out.size))
    replace O0 := Lib.hid (own_below O0.out hb0)
    replace OG := Lib.hid (own_below OG.out hb0)
    replace O6 := Lib.hid (own_below O6.out hb0)
    clear hb0
    clear O6
    go_wp2_with fail
    refine (eqlinks_any _ _ M M _ (linksAt_own OH.out) (linksAt_own O0.out) (by omega) (by omega)).mono ?_
    rintro e w15 ⟨rfl, hb⟩
    rw [show decide (M = M) = true by simp]
    replace HB := Lib.hid (HB.out.trans (hb.mono HB.out.size))
    replace O0 := Lib.hid (own_below O0.out hb)
    replace OG := Lib.hid (own_below OG.out hb)
    replace OH := Lib.hid (own_below OH.out hb)
    clear hb
    go_wp2_with fail
    refine (heldlinks_any _ _ 1 _ (linksAt_own (ks := marked M.length 1) (by rw [marked_len]; exact OG.out)) (by omega) (by omega)).mono ?_
    rintro e w16 ⟨rfl, rfl⟩
    go_wp2
    go_ret
    exact ⟨rfl, HB.out⟩
  · rw [if_pos (by omega)] at S1
    clear hsA ha
    go_enter Try.func8, Try.ntmps8
    go_wp2_with fail
    refine (S1.out _).mono ?_
    rintro e w1 ⟨rfl, rfl⟩
    go_wp2
    go_ret
    exact ⟨rfl, Below.refl _ _⟩
set_option maxRecDepth 100000 in
set_option maxHeartbeats 4000000 in
theorem fnexactlinkdown_walk (va : Value) (A : List K2) (i0 : Int) (i1 : Int) (w : World) (ha : keysAt w va A) (hA63 : A.length ≤ maxLen) :
    Calls Try.prog 9 #[va, .int .i64 i0, .int .i64 i1] w fun e w' => e = .returned (.bool true) ∧ Below w.heap.size w w' := by
  have hsA : ∃ a cap, va = .slice a A.length cap := by obtain ⟨a, cap, h, _⟩ := ha; exact ⟨a, cap, h⟩
  unfold maxLen at hA63
  have S1 := Lib.hid (fun w => szlinks_any va A 1048576 w hsA (by omega) (by omega))
  by_cases hlA : A.length ≤ 1048576
  · rw [if_neg (by omega)] at S1
    have n1 : ¬ 1048576 - (A.length : Int) < 0 := by omega
    have KA := Lib.hid (fun w' (h : Below w.heap.size w w') => tolinks_any va A w' (keysAt_below ha h) (by omega))
    have HS := Lib.hid (fun v w' (h : keysAt w' v A) => slinkdown_any v A i0 i1 w' h (by omega))
    have HI := Lib.hid (fun v w' (h : keysAt w' v A) => ilinkdown_any v A i0 i1 w' h (by omega))
    have hMl : (downM A i0 i1).length ≤ 1048577 := by have := down_len A i0 i1; omega
    have HB := Lib.hid (Below.refl w.heap.size w)
    clear hsA ha
    generalize downM A i0 i1 = M at *
    go_enter Try.func9, Try.ntmps9
    go_wp2_with fail
    refine (S1.out _).mono ?_
    rintro e w1 ⟨rfl, rfl⟩
    clear S1
    go_wp2_with fail
    refine (KA.out _ HB.out).mono ?_
    rintro e w2 ⟨g1, rfl, hg1, ho, hb⟩
    have O1 := Lib.hid (own_base ho HB.out.size)
    clear ho
    replace HB := Lib.hid (HB.out.trans (hb.mono HB.out.size))
    clear hb
    go_wp2_with fail
    refine (HS.out _ _ (linksAt_own O1.out)).mono ?_
    rintro e w3 ⟨v0, rfl, ho, hb0⟩
    have O0 := Lib.hid (own_base ho HB.out.size)
    clear ho
    replace HB := Lib.hid (HB.out.trans (hb0.mono HB.out.size))
    replace O1 := Lib.hid (own_below O1.out hb0)
    clear hb0
    clear O1
    go_wp2_with fail
    refine (KA.out _ HB.out).mono ?_
    rintro e w4 ⟨g3, rfl, hg3, ho, hb⟩
    have Z0 := Lib.hid (show ∀ b, v0.ownBlock = some b → b < g3 from fun b e => Nat.lt_of_lt_of_le (O0.out.lt b e).2 hg3)
    have OX := Lib.hid (own_base ho HB.out.size)
    clear ho
    replace HB := Lib.hid (HB.out.trans (hb.mono HB.out.size))
    replace O0 := Lib.hid (own_below O0.out hb)
    clear hb
    go_wp2_with fail
    refine (HI.out _ _ (linksAt_own OX.out)).mono ?_
    rintro e w5 ⟨vg, rfl, ho, hb0⟩
    have ZG := Lib.hid (show ∀ b, vg.ownBlock = some b → g3 < b from fun b e => Nat.lt_of_lt_of_le (OX.out.lt g3 rfl).2 (ho.lt b e).1)
    have OG := Lib.hid (own_base ho HB.out.size)
    clear ho
    replace HB := Lib.hid (HB.out.trans (hb0.mono HB.out.size))
    replace O0 := Lib.hid (own_below O0.out hb0)
    replace OX := Lib.hid (own_below OX.out hb0)
    clear hb0
    go_wp2_with fail
    refine (eqlinks_any _ _ M M _ (linksAt_own OG.out) (linksAt_own O0.out) (by omega) (by omega)).mono ?_
    rintro e w6 ⟨rfl, hb⟩
    rw [show decide (M = M) = true by simp]
    replace HB := Lib.hid (HB.out.trans (hb.mono HB.out.size))
    replace O0 := Lib.hid (own_below O0.out hb)
    replace OX := Lib.hid (own_below OX.out hb)
    replace OG := Lib.hid (own_below OG.out hb)
    clear hb
    go_wp2_with fail
    refine (KA.out _ HB.out).mono ?_
    rintro e w7 ⟨g5, rfl, hg5, ho, hb⟩
    have O5 := Lib.hid (own_base ho HB.out.size)
    clear ho
    replace HB := Lib.hid (HB.out.trans (hb.mono HB.out.size))
    replace O0 := Lib.hid (own_below O0.out hb)
    replace OX := Lib.hid (own_below OX.out hb)
    replace OG := Lib.hid (own_below OG.out hb)
    clear hb
    go_wp2_with fail
    refine (eqlinks_any _ _ A A _ (linksAt_own OX.out) (linksAt_own O5.out) (by omega) (by omega)).mono ?_
    rintro e w8 ⟨rfl, hb⟩
    rw [show decide (A = A) = true by simp]
    replace HB := Lib.hid (HB.out.trans (hb.mono HB.out.size))
    replace O0 := Lib.hid (own_below O0.out hb)
    replace OX := Lib.hid (own_below OX.out hb)
    replace OG := Lib.hid (own_below OG.out hb)
    replace O5 := Lib.hid (own_below O5.out hb)
    clear hb
    clear O5
    go_wp2_with fail
    refine (marklinks_any _ _ _ _ 1 _ OX.out (by omega) (by omega) HB.out.size).mono ?_
    rintro e w9 ⟨rfl, hom, hgr⟩
    replace HB := Lib.hid (HB.out.grown hgr HB.out.size (fun k e => (OX.out.lt k e).1))
    replace O0 := Lib.hid (O0.out.kept hgr (.inr fun e => absurd (Z0.out g3 e) (Nat.lt_irrefl _)))
    replace OG := Lib.hid (OG.out.kept hgr (.inr fun e => absurd (ZG.out g3 e) (Nat.lt_irrefl _)))
    clear hom hgr
    clear OX
    have n4 : ¬ 1 + 2 * (A.length : Int) < 0 := by omega
    go_wp2_with fail
    refine (eqlinks_any _ _ M M _ (linksAt_own OG.out) (linksAt_own O0.out) (by omega) (by omega)).mono ?_
    rintro e w10 ⟨rfl, hb⟩
    rw [show decide (M = M) = true by simp]
    replace HB := Lib.hid (HB.out.trans (hb.mono HB.out.size))
    replace O0 := Lib.hid (own_below O0.out hb)
    replace OG := Lib.hid (own_below OG.out hb)
    clear hb
    go_wp2_with fail
    refine (marklinks_any _ _ _ _ 1 _ OG.out (by omega) (by omega) HB.out.size).mono ?_
    rintro e w11 ⟨rfl, hom, hgr⟩
    replace HB := Lib.hid (HB.out.grown hgr HB.out.size (fun k e => (OG.out.lt k e).1))
    have hk : v0.ownBlock = none ∨ v0.ownBlock ≠ vg.ownBlock := by
      cases hv : v0.ownBlock with
      | none => exact .inl rfl
      | some b => exact .inr fun e => by have := Z0.out b hv; have := ZG.out b e.symm; omega
    replace O0 := Lib.hid (O0.out.kept hgr hk)
    replace OG := Lib.hid hom
    clear hom hgr hk ZG Z0
    have n5 : ¬ 1 + 2 * (M.length : Int) < 0 := by omega
    go_wp2_with fail
    refine (heldlinks_any _ _ 1 _ (linksAt_own (ks := marked M.length 1) (by rw [marked_len]; exact OG.out)) (by omega) (by omega)).mono ?_
    rintro e w12 ⟨rfl, rfl⟩
    go_wp2_with fail
    refine (KA.out _ HB.out).mono ?_
    rintro e w13 ⟨g6, rfl, hg6, ho, hb⟩
    have O6 := Lib.hid (own_base ho HB.out.size)
    clear ho
    replace HB := Lib.hid (HB.out.trans (hb.mono HB.out.size))
    replace O0 := Lib.hid (own_below O0.out hb)
    replace OG := Lib.hid (own_below OG.out hb)
    clear hb
    go_wp2_with fail
    refine (HI.out _ _ (linksAt_own O6.out)).mono ?_
    rintro e w14 ⟨vh, rfl, ho, hb0⟩
    have OH := Lib.hid (own_base ho HB.out.size)
    clear ho
    replace HB := Lib.hid (HB.out.trans (hb0.mono HB.out.size))
    replace O0 := Lib.hid (own_below O0.out hb0)
    replace OG := Lib.hid (own_below OG.out hb0)
    replace O6 := Lib.hid (own_below O6.out hb0)
    clear hb0
    clear O6
    go_wp2_with fail
    refine (eqlinks_any _ _ M M _ (linksAt_own OH.out) (linksAt_own O0.out) (by omega) (by omega)).mono ?_
    rintro e w15 ⟨rfl, hb⟩
    rw [show decide (M = M) = true by simp]
    replace HB := Lib.hid (HB.out.trans (hb.mono HB.out.size))
    replace O0 := Lib.hid (own_below O0.out hb)
    replace OG := Lib.hid (own_below OG.out hb)
    replace OH := Lib.hid (own_below OH.out hb)
    clear hb
    go_wp2_with fail
    refine (heldlinks_any _ _ 1 _ (linksAt_own (ks := marked M.length 1) (by rw [marked_len]; exact OG.out)) (by omega) (by omega)).mono ?_
    rintro e w16 ⟨rfl, rfl⟩
    go_wp2
    go_ret
    exact ⟨rfl, HB.out⟩
  · rw [if_pos (by omega)] at S1
    clear hsA ha
    go_enter Try.func9, Try.ntmps9
    go_wp2_with fail
    refine (S1.out _).mono ?_
    rintro e w1 ⟨rfl, rfl⟩
    go_wp2
    go_ret
    exact ⟨rfl, Below.refl _ _⟩
theorem near_len (ks : List K2) (id : Int) : (nearM ks id).length ≤ ks.length := by
  unfold nearM
  split
  · exact List.length_filterMap_le _ _
  · simp
set_option maxRecDepth 100000 in
set_option maxHeartbeats 4000000 in
theorem fnexactnear_walk (va : Value) (A : List K2) (i0 : Int) (w : World) (ha : keysAt w va A) (hA63 : A.length ≤ maxLen) :
    Calls Try.prog 10 #[va, .int .i64 i0] w fun e w' => e = .returned (.bool true) ∧ Below w.heap.size w w' := by
  have hsA : ∃ a cap, va = .slice a A.length cap := by obtain ⟨a, cap, h, _⟩ := ha; exact ⟨a, cap, h⟩
  unfold maxLen at hA63
  have S1 := Lib.hid (fun w => szlinks_any va A 1048576 w hsA (by omega) (by omega))
  by_cases hlA : A.length ≤ 1048576
  · rw [if_neg (by omega)] at S1
    have n1 : ¬ 1048576 - (A.length : Int) < 0 := by omega
    have KA := Lib.hid (fun w' (h : Below w.heap.size w w') => tolinks_any va A w' (keysAt_below ha h) (by omega))
    have HS := Lib.hid (fun v w' (h : keysAt w' v A) => snear_any v A i0 w' h (by omega))
    have HI := Lib.hid (fun v w' (h : keysAt w' v A) => inear_any v A i0 w' h (by omega))
    have hMl : (nearM A i0).length ≤ 1048577 := by have := near_len A i0; omega
    have HB := Lib.hid (Below.refl w.heap.size w)
    clear hsA ha
    generalize nearM A i0 = M at *
    go_enter Try.func10, Try.ntmps10
    go_wp2_with fail
    refine (S1.out _).mono ?_
    rintro e w1 ⟨rfl, rfl⟩
    clear S1
    go_wp2_with fail
    refine (KA.out _ HB.out).mono ?_
    rintro e w2 ⟨g1, rfl, hg1, ho, hb⟩
    have O1 := Lib.hid (own_base ho HB.out.size)
    clear ho
    replace HB := Lib.hid (HB.out.trans (hb.mono HB.out.size))
    clear hb
    go_wp2_with fail
    refine (HS.out _ _ (linksAt_own O1.out)).mono ?_
    rintro e w3 ⟨v0, rfl, ho, hb0⟩
    have O0 := Lib.hid (own_base ho HB.out.size)
    clear ho
    replace HB := Lib.hid (HB.out.trans (hb0.mono HB.out.size))
    replace O1 := Lib.hid (own_below O1.out hb0)
    clear hb0
    clear O1
    go_wp2_with fail
    refine (KA.out _ HB.out).mono ?_
    rintro e w4 ⟨g3, rfl, hg3, ho, hb⟩
    have Z0 := Lib.hid (show ∀ b, v0.ownBlock = some b → b < g3 from fun b e => Nat.lt_of_lt_of_le (O0.out.lt b e).2 hg3)
    have OX := Lib.hid (own_base ho HB.out.size)
    clear ho
    replace HB := Lib.hid (HB.out.trans (hb.mono HB.out.size))
    replace O0 := Lib.hid (own_below O0.out hb)
    clear hb
    go_wp2_with fail
    refine (HI.out _ _ (linksAt_own OX.out)).mono ?_
    rintro e w5 ⟨vg, rfl, ho, hb0⟩
    have ZG := Lib.hid (show ∀ b, vg.ownBlock = some b → g3 < b from fun b e => Nat.lt_of_lt_of_le (OX.out.lt g3 rfl).2 (ho.lt b e).1)
    have OG := Lib.hid (own_base ho HB.out.size)
    clear ho
    replace HB := Lib.hid (HB.out.trans (hb0.mono HB.out.size))
    replace O0 := Lib.hid (own_below O0.out hb0)
    replace OX := Lib.hid (own_below OX.out hb0)
    clear hb0
    go_wp2_with fail
    refine (eqints_self _ _ M _ (inAt_own OG.out rfl) (inAt_own O0.out rfl) (by omega)).mono ?_
    rintro e w6 ⟨rfl, hb⟩
    replace HB := Lib.hid (HB.out.trans (hb.mono HB.out.size))
    replace O0 := Lib.hid (own_below O0.out hb)
    replace OX := Lib.hid (own_below OX.out hb)
    replace OG := Lib.hid (own_below OG.out hb)
    clear hb
    go_wp2_with fail
    refine (KA.out _ HB.out).mono ?_
    rintro e w7 ⟨g5, rfl, hg5, ho, hb⟩
    have O5 := Lib.hid (own_base ho HB.out.size)
    clear ho
    replace HB := Lib.hid (HB.out.trans (hb.mono HB.out.size))
    replace O0 := Lib.hid (own_below O0.out hb)
    replace OX := Lib.hid (own_below OX.out hb)
    replace OG := Lib.hid (own_below OG.out hb)
    clear hb
    go_wp2_with fail
    refine (eqlinks_any _ _ A A _ (linksAt_own OX.out) (linksAt_own O5.out) (by omega) (by omega)).mono ?_
    rintro e w8 ⟨rfl, hb⟩
    rw [show decide (A = A) = true by simp]
    replace HB := Lib.hid (HB.out.trans (hb.mono HB.out.size))
    replace O0 := Lib.hid (own_below O0.out hb)
    replace OX := Lib.hid (own_below OX.out hb)
    replace OG := Lib.hid (own_below OG.out hb)
    replace O5 := Lib.hid (own_below O5.out hb)
    clear hb
    clear O5
    go_wp2_with fail
    refine (marklinks_any _ _ _ _ 1 _ OX.out (by omega) (by omega) HB.out.size).mono ?_
    rintro e w9 ⟨rfl, hom, hgr⟩
    replace HB := Lib.hid (HB.out.grown hgr HB.out.size (fun k e => (OX.out.lt k e).1))
    replace O0 := Lib.hid (O0.out.kept hgr (.inr fun e => absurd (Z0.out g3 e) (Nat.lt_irrefl _)))
    replace OG := Lib.hid (OG.out.kept hgr (.inr fun e => absurd (ZG.out g3 e) (Nat.lt_irrefl _)))
    clear hom hgr
    clear OX
    have n4 : ¬ 1 + 2 * (A.length : Int) < 0 := by omega
    go_wp2_with fail
    refine (eqints_self _ _ M _ (inAt_own OG.out rfl) (inAt_own O0.out rfl) (by omega)).mono ?_
    rintro e w10 ⟨rfl, hb⟩
    replace HB := Lib.hid (HB.out.trans (hb.mono HB.out.size))
    replace O0 := Lib.hid (own_below O0.out hb)
    replace OG := Lib.hid (own_below OG.out hb)
    clear hb
    go_wp2_with fail
    refine (markints_any _ _ _ _ 1 _ OG.out (by omega) (by omega)).mono ?_
    rintro e w11 ⟨rfl, hom, hgr⟩
    replace HB := Lib.hid (HB.out.grown hgr HB.out.size (fun k e => (OG.out.lt k e).1))
    have hk : v0.ownBlock = none ∨ v0.ownBlock ≠ vg.ownBlock := by
      cases hv : v0.ownBlock with
      | none => exact .inl rfl
      | some b => exact .inr fun e => by have := Z0.out b hv; have := ZG.out b e.symm; omega
    replace O0 := Lib.hid (O0.out.kept hgr hk)
    replace OG := Lib.hid hom
    clear hom hgr hk ZG Z0
    have n5 : ¬ 1 + (M.length : Int) < 0 := by omega
    go_wp2_with fail
    refine (heldints_any _ _ _ 1 _ OG.out (by omega) (by omega)).mono ?_
    rintro e w12 ⟨rfl, rfl⟩
    go_wp2_with fail
    refine (KA.out _ HB.out).mono ?_
    rintro e w13 ⟨g6, rfl, hg6, ho, hb⟩
    have O6 := Lib.hid (own_base ho HB.out.size)
    clear ho
    replace HB := Lib.hid (HB.out.trans (hb.mono HB.out.size))
    replace O0 := Lib.hid (own_below O0.out hb)
    replace OG := Lib.hid (own_below OG.out hb)
    clear hb
    go_wp2_with fail
    refine (HI.out _ _ (linksAt_own O6.out)).mono ?_
    rintro e w14 ⟨vh, rfl, ho, hb0⟩
    have OH := Lib.hid (own_base ho HB.out.size)
    clear ho
    replace HB := Lib.hid (HB.out.trans (hb0.mono HB.out.size))
    replace O0 := Lib.hid (own_below O0.out hb0)
    replace OG := Lib.hid (own_below OG.out hb0)
    replace O6 := Lib.hid (own_below O6.out hb0)
    clear hb0
    clear O6
    go_wp2_with fail
    refine (eqints_self _ _ M _ (inAt_own OH.out rfl) (inAt_own O0.out rfl) (by omega)).mono ?_
    rintro e w15 ⟨rfl, hb⟩
    replace HB := Lib.hid (HB.out.trans (hb.mono HB.out.size))
    replace O0 := Lib.hid (own_below O0.out hb)
    replace OG := Lib.hid (own_below OG.out hb)
    replace OH := Lib.hid (own_below OH.out hb)
    clear hb
    go_wp2_with fail
    refine (heldints_any _ _ _ 1 _ OG.out (by omega) (by omega)).mono ?_
    rintro e w16 ⟨rfl, rfl⟩
    go_wp2
    go_ret
    exact ⟨rfl, HB.out⟩
  · rw [if_pos (by omega)] at S1
    clear hsA ha
    go_enter Try.func10, Try.ntmps10
    go_wp2_with fail
    refine (S1.out _).mono ?_
    rintro e w1 ⟨rfl, rfl⟩
    go_wp2
    go_ret
    exact ⟨rfl, Below.refl _ _⟩
end Go.Proofs.Ytpfnpinoamjcjaa
namespace Go.Proofs.Ytpfnpinoamjcjaa
open Go.ChangeShapes Go.WideShapes Go.ChangeAt Go.RowKit Go.Deep
set_option linter.unusedVariables false

set_option maxRecDepth 20000 in
theorem open_links {H : Type} {enc : TypeId × Value → H} {W : World} {r : Reach} {b0 : Nat} {v : Value} {d : DataW H} {p : List MemPlace} (hv : Value.okWide Try.prog W r b0 37 v) (h : DataW.Trod enc Try.prog W 0 (fun _ => true) true 37 v d p) : ∃ ks : List K2, keysAt W v ks ∧ ks.length ≤ maxLen := by
  obtain ⟨a, len, cap, rfl⟩ := okWide_slice Try.underlying37 hv
  obtain ⟨fuel, hf⟩ := h
  rcases open_slice_pairs Try.underlying37 Try.underlying68 (by kernel_rfl) rfl rfl (by kernel_rfl) (by kernel_rfl) hf with ⟨hcs, -⟩ | ⟨x, l, c, m, n, V0, V1, D0, D1, P0, P1, hcs, -, hl, hm, hmm, -, hx⟩
  · simp [Value.cells] at hcs
    obtain ⟨rfl, rfl, rfl⟩ := hcs
    exact ⟨[], ⟨none, 0, rfl, by simp, .inl rfl⟩, by simp⟩
  · simp [Value.cells] at hcs
    obtain ⟨rfl, rfl, rfl⟩ := hcs
    have hmc : len ≤ m := by rw [hmm]; simp; omega
    have hev : ∀ i, i < len → ∃ k : K2, W.cell? (x.add (i * 2)) = some (.int .i64 k.1) ∧ W.cell? (x.add (i * 2 + 1)) = some (.int .i64 k.2) := by
      intro i hi
      obtain ⟨h0, h1, t0, t1⟩ := hx i (by omega)
      obtain ⟨z0, e0, -, -⟩ := DataW.trod_int Try.underlying3 t0
      obtain ⟨z1, e1, -, -⟩ := DataW.trod_int Try.underlying3 t1
      have e0 : V0 i = .int .i64 z0 := (List.cons.inj e0).1
      have e1 : V1 i = .int .i64 z1 := (List.cons.inj e1).1
      exact ⟨(z0, z1), by rw [h0, e0], by rw [h1, e1]⟩
    obtain ⟨f, hf2⟩ := choose_lt hev
    refine ⟨(List.range len).map f, ⟨some x, cap, by simp, by simpa using hl, ?_⟩, by simp; omega⟩
    simp only [List.length_map, List.length_range]
    rcases Nat.eq_zero_or_pos len with h0 | h0
    · exact .inl h0
    · obtain ⟨b, off, spot⟩ := x
      have hc := (hf2 0 h0).1
      have hs : spot = none := by simpa [Addr.add] using World.cell?_spot hc
      subst hs
      have hadd : ∀ j, (⟨b, off, none⟩ : Addr).add j = ⟨b, off + j, none⟩ := by
        intro j
        unfold Addr.add
        split
        · rename_i h; simp [h]
        · rfl
      refine .inr ⟨b, off, rfl, World.block_lt_of_cell? W ⟨b, off, none⟩ (by simpa [Addr.add] using hc), fun i hi => ?_⟩
      have e : ((List.range len).map f).getD i (0, 0) = f i := by simp [List.getD, hi]
      have := hf2 i hi
      rw [hadd, hadd] at this
      rw [e]
      exact this
end Go.Proofs.Ytpfnpinoamjcjaa
