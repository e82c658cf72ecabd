/- The program's chapter 4, walked: a reading laid in. -/
import Derived.Test.YtbkeggklfaepnaaRdX
import Derived.Test.YtbkeggklfaepnaaRdAh
namespace Go.Proofs.Ytbkeggklfaepnaa
open Go.ChangeShapes Go.WideShapes Go.ChangeAt Go.RowKit Go.BigFrame
set_option linter.unusedVariables false

structure Ld9 (w w9 : World) (B O : Nat) (p q : Int) (y : ByteArray) (rs : List R3) (v9 : Value) : Prop where
  own : w9.ownsRow w.heap.size 28 3 v9 (rs.length + 1) (rdCells (rs ++ [((p, q), y)]))
  row : w9.heap[O]? = some (.cells #[.int .i64 p, .int .i64 q, .string y] 28)
  below : Below w.heap.size w w9
  ne : v9.ownBlock ≠ some O
theorem ld9 {w w8 w9 : World} {O : Nat} {p q : Int} {y : ByteArray} {rs : List R3} {v8 v9 : Value} (hown9 : w9.ownsRow w.heap.size 28 3 v9 (rs.length + [((p, q), y)].length) (rdCells rs ++ rdCells [((p, q), y)])) (hgr9 : w8.grownBy w9 v8.ownBlock) (hw9 : v9.ownBlock = v8.ownBlock ∨ v9.ownBlock = some w8.heap.size)
    (hx8 : w8.heap[O]? = some (.cells #[.int .i64 p, .int .i64 q, .string y] 28)) (hb8 : Below w.heap.size w w8) (hn8 : v8.ownBlock = some O → False) (hg8 : ∀ g, v8.ownBlock = some g → w.heap.size ≤ g) : Ld9 w w9 w.heap.size O p q y rs v9 := by
  have hlt := (Array.getElem?_eq_some_iff.1 hx8).1
  refine ⟨by rw [rdCells_append]; exact hown9, (hgr9.block O hlt (fun e => hn8 e.symm)).trans hx8, hb8.grown hgr9 hb8.size hg8, ?_⟩
  rcases hw9 with h | h
  · rw [h]; exact fun e => hn8 e
  · rw [h]; intro e; simp at e; omega
theorem rd_new (w : World) (p q : Int) (y : ByteArray) : rdAt (w.alloc (.cells #[.int .i64 p, .int .i64 q, .string y] 28)) (.slice (some ⟨w.heap.size, 0, none⟩) 1 1) [((p, q), y)] := by
  refine ⟨_, 1, rfl, by simp, .inr ⟨w.heap.size, 0, rfl, by simp, fun i hi => ?_⟩⟩
  obtain rfl : i = 0 := by simp at hi; omega
  have h := heap_alloc_new w (.cells #[.int .i64 p, .int .i64 q, .string y] 28)
  exact ⟨by rw [cell_of_row _ _ _ _ _ _ h]; rfl, by rw [cell_of_row _ _ _ _ _ _ h]; rfl, by rw [cell_of_row _ _ _ _ _ _ h]; rfl⟩
set_option maxRecDepth 100000 in
set_option maxHeartbeats 2000000 in
theorem ilearned_any (v : Value) (rs : List R3) (r : R3) (w : World) (h : rdAt w v rs) (hs : rs.length ≤ 1900000) (hx : ∀ q ∈ rs, q.2.size ≤ 2000000) (hr : r.2.size ≤ 2000000) : Calls Try.prog 36 #[v, rv r] w fun e w' => ∃ v', e = .returned v' ∧
    w'.ownsRow w.heap.size 28 3 v' (rs.length + 1) (rdCells (rs.take (aheadN rs r.1) ++ r :: rs.drop (aheadN rs r.1))) ∧ Below w.heap.size w w' := by
  have HCS := Lib.hid (fun w' (hb : Below w.heap.size w w') => icopyrds_any v rs w' (rdAt_below h hb) (by omega) hx)
  have HCR := Lib.hid (fun w' => icopyrd_any r w' hr)
  obtain ⟨a, cap, rfl, hcap, hcells⟩ := h
  obtain ⟨⟨n, s⟩, y⟩ := r
  unfold rv at *
  dsimp only at *
  have hx0 : (w.alloc (.cells #[.int .i64 n, .int .i64 s, .string y] 28)).heap[w.heap.size]? = some (.cells #[.int .i64 n, .int .i64 s, .string y] 28) := heap_alloc_new w _
  have hB0 : Below w.heap.size w (w.alloc (.cells #[.int .i64 n, .int .i64 s, .string y] 28)) := (Below.refl _ _).alloc (Nat.le_refl _) _
  have hsz0 : (w.alloc (.cells #[.int .i64 n, .int .i64 s, .string y] 28)).heap.size = w.heap.size + 1 := by simp
  have HX0 := Lib.hid hx0; have HB0 := Lib.hid hB0; have HSZ := Lib.hid hsz0; clear hx0 hB0 hsz0 hx hr
  go_enter Try.func36, Try.ntmps36
  go_wp2
  generalize w.alloc (.cells #[.int .i64 n, .int .i64 s, .string y] 28) = W at *
  have LK : ∀ w', Below W.heap.size W w' → (loadVar 26 ⟨w.heap.size, 0, none⟩).run Try.prog w' = .ok (kv (n, s)) w' := fun w' hb' =>
    rdk_load (r := ((n, s), y)) (o := 0) ⟨by rw [cell_of_row _ _ 0 _ _ _ HX0.out]; rfl, by rw [cell_of_row _ _ 1 _ _ _ HX0.out]; rfl, by rw [cell_of_row _ _ 2 _ _ _ HX0.out]; rfl⟩ (by rw [HSZ.out]; omega) hb'
  go_loopw [5] (fun i wr => ∃ k : Nat, k ≤ rs.length ∧ i = .int .i64 k ∧ (∀ j, j < k → aheadB (rs.getD j r0).1 (n, s) = true) ∧ Below W.heap.size W wr) (fun i _ => rs.length - (intOf i).toNat)
  case atStart => exact ⟨0, Nat.zero_le _, rfl, fun j hj => by omega, Below.refl _ _⟩
  case round =>
    obtain ⟨k, hkl, rfl, hall, hb⟩ := hrel
    by_cases hlt : k < rs.length
    · obtain ⟨g, off, rfl, hg, hcs⟩ := hcells.resolve_left (by omega)
      have z0 : (0 : Int) ≤ (k : Int) := by omega
      have z1 : (k : Int) < (rs.length : Int) := by omega
      have c1 := hcs k hlt
      have L1 : ∀ w', Below W.heap.size W w' → (loadVar 26 ⟨g, off + k * 3, none⟩).run Try.prog w' = .ok (kv (rs.getD k r0).1) w' := fun w' hb' =>
        rdk_load c1 (w' := w') hg (HB0.out.trans (hb'.mono (by rw [HSZ.out]; omega)))
      have HA := Lib.hid (fun w => iahead_any (rs.getD k r0).1 (n, s) w)
      cases hah : aheadB (rs.getD k r0).1 (n, s) with
      | true =>
        have hn : ∀ j, j < k + 1 → aheadB (rs.getD j r0).1 (n, s) = true := by
          intro j hj
          rcases (by omega : j < k ∨ j = k) with h1 | rfl
          · exact hall j h1
          · exact hah
        have HN := Lib.hid hn
        rw [hah] at HA
        clear hcells hcs c1 hall hn hah
        generalize rs.getD k r0 = kx at *
        go_wp2
        refine wp_region_below W (by kernel_rfl) (by kernel_rfl) hb ?_
        repeat (first
          | go_big_quiet_skip
          | (go_big_quiet_want
             first
               | (go_big_quiet_op; go_big_quiet_on)
               | (refine q_load 26 _ _ _ rfl rfl L1 ?_; simp only [Act.put, List.setIfInBounds_toArray, List.set_cons_zero, List.set_cons_succ]; go_big_quiet_on)
               | (refine q_load 26 _ _ _ rfl rfl LK ?_; simp only [Act.put, List.setIfInBounds_toArray, List.set_cons_zero, List.set_cons_succ]; go_big_quiet_on)
               | (go_big_quiet_op; refine ⟨_, fun _ _ => rfl, ?_⟩; go_big_quiet_on)
               | (go_big_quiet_op; apply Exists.intro; refine ⟨fun w' hw' => ?_, ?_⟩
                  · first
                    | (with_reducible refine (HA.out w').mono ?_
                       rintro e w2 ⟨rfl, hb2⟩
                       exact ⟨rfl, hw'.trans (hb2.mono hw'.size)⟩)
                  go_big_quiet_on)))
        refine wpQuiet_nil ?_
        intro w5 hb5
        clear L1 LK HA hb
        go_wp2
        exact ⟨⟨k + 1, by omega, by go_num, HN.out, hb5⟩, by simp [intOf]; omega⟩
      | false =>
        have HN := Lib.hid (aheadN_at (n, s) rs k (by omega) hall (.inr hah))
        rw [hah] at HA
        clear hcells hcs c1 hall hah
        generalize rs.getD k r0 = kx at *
        go_wp2
        refine wp_region_below W (by kernel_rfl) (by kernel_rfl) hb ?_
        repeat (first
          | go_big_quiet_skip
          | (go_big_quiet_want
             first
               | (go_big_quiet_op; go_big_quiet_on)
               | (refine q_load 26 _ _ _ rfl rfl L1 ?_; simp only [Act.put, List.setIfInBounds_toArray, List.set_cons_zero, List.set_cons_succ]; go_big_quiet_on)
               | (refine q_load 26 _ _ _ rfl rfl LK ?_; simp only [Act.put, List.setIfInBounds_toArray, List.set_cons_zero, List.set_cons_succ]; go_big_quiet_on)
               | (go_big_quiet_op; refine ⟨_, fun _ _ => rfl, ?_⟩; go_big_quiet_on)
               | (go_big_quiet_op; apply Exists.intro; refine ⟨fun w' hw' => ?_, ?_⟩
                  · first
                    | (with_reducible refine (HA.out w').mono ?_
                       rintro e w2 ⟨rfl, hb2⟩
                       exact ⟨rfl, hw'.trans (hb2.mono hw'.size)⟩)
                  go_big_quiet_on)))
        refine wpQuiet_nil ?_
        intro w5 hb5
        clear L1 LK HA hb
        have hbw5 := HB0.out.trans (hb5.mono (by rw [HSZ.out]; omega))
        have hx5 : w5.heap[w.heap.size]? = some (.cells #[.int .i64 n, .int .i64 s, .string y] 28) := (hb5.block _ (by rw [HSZ.out]; omega)).trans HX0.out
        have q0 : w5.cell? ⟨w.heap.size, 0, none⟩ = some (.int .i64 n) := by rw [cell_of_row _ _ 0 _ _ _ hx5]; rfl
        have q1 : w5.cell? ⟨w.heap.size, 1, none⟩ = some (.int .i64 s) := by rw [cell_of_row _ _ 1 _ _ _ hx5]; rfl
        have q2 : w5.cell? ⟨w.heap.size, 2, none⟩ = some (.string y) := by rw [cell_of_row _ _ 2 _ _ _ hx5]; rfl
        have HB5 := Lib.hid hbw5
        clear hx5 hbw5 hb5
        go_wp2_with fail
        refine (HCR.out _).mono ?_
        rintro e w6 ⟨rfl, hb6⟩
        have hbw6 := HB5.out.trans (hb6.mono HB5.out.size)
        have hz6 := hbw6.size
        have HB7 := Lib.hid (hbw6.alloc hz6 (.cells #[.int .i64 n, .int .i64 s, .string y] 28))
        have HX7 := Lib.hid (heap_alloc_new w6 (.cells #[.int .i64 n, .int .i64 s, .string y] 28))
        have HL7 := Lib.hid (show w6.heap.size < (w6.alloc (.cells #[.int .i64 n, .int .i64 s, .string y] 28)).heap.size by simp)
        have hsz7 : (w6.alloc (.cells #[.int .i64 n, .int .i64 s, .string y] 28)).heap.size = w6.heap.size + 1 := by simp
        have HS7 := Lib.hid hsz7
        clear hb6 hbw6 q0 q1 q2 HB5 hsz7
        go_wp2_with fail
        have HU := Lib.hid (rd_new (w6.alloc (.cells #[.int .i64 n, .int .i64 s, .string y] 28)).drew n s y)
        rw [show (w6.alloc (.cells #[.int .i64 n, .int .i64 s, .string y] 28)).drew.heap.size = w6.heap.size + 1 from HS7.out] at HU
        go_region_law (first
          | (refine step_append_rd rfl (.tmp 27) (.tmp 29) rfl hown8 _ [((n, s), y)] hu8 rfl rfl (by simp; omega) hz8.out ?_
             intro v9 w9 hown9 hgr9 hw9
             have HF9 := Lib.hid (ld9 hown9 hgr9 hw9 hx8 hbw8 HN8.out HG8.out)
             clear hown9 hgr9 hx8 hbw8 hown8 hu8 hw9 HN8 HG8 c0 c1 c2)
          | (refine step_append_rd rfl (.tmp 27) (.tmp 29) rfl (hown8.alloc _) _ [((n, s), y)] (rd_new w8 n s y) rfl rfl (by simp; omega) (by have := hz8.out; simp; omega) ?_
             intro v9 w9 hown9 hgr9 hw9
             have hx8' := (Below.heap_alloc w8 (.cells #[.int .i64 n, .int .i64 s, .string y] 28) w6.heap.size (Array.getElem?_eq_some_iff.1 hx8).1).trans hx8
             have hbw8' := hbw8.alloc hbw8.size (.cells #[.int .i64 n, .int .i64 s, .string y] 28)
             have HF9 := Lib.hid (ld9 hown9 hgr9 hw9 hx8' hbw8' HN8.out HG8.out)
             clear hown9 hgr9 hx8 hx8' hbw8 hbw8' hown8 hw9 HN8 HG8 c0 c1 c2)
          | (go_simp
             go_at_call 34
             refine (HCS.out _ (by first | exact HB7.out.drew | exact HB7.out.drew.alloc HB7.out.drew.size _)).mono ?_
             rintro e w8 ⟨v8, rfl, hown8, hb8⟩
             dsimp only
             have hbw8 : Below w.heap.size w w8 := by first | exact HB7.out.drew.trans (hb8.mono HB7.out.drew.size) | exact (HB7.out.drew.alloc HB7.out.drew.size _).trans (hb8.mono (HB7.out.drew.alloc HB7.out.drew.size _).size)
             have hx8 : w8.heap[w6.heap.size]? = some (.cells #[.int .i64 n, .int .i64 s, .string y] 28) := by
               first
                 | exact (hb8.block _ HL7.out).trans HX7.out
                 | exact (hb8.block _ (Nat.lt_of_lt_of_le HL7.out (by simp))).trans ((Below.heap_alloc _ _ _ HL7.out).trans HX7.out)
             have HN8 := Lib.hid (fun (e : v8.ownBlock = some w6.heap.size) => Nat.lt_irrefl _ (Nat.lt_of_lt_of_le HL7.out (by first | exact (hown8.lt _ e).1 | exact Nat.le_trans (by simp) (hown8.lt _ e).1)))
             try have hu8 := rdAt_below HU.out hb8
             have hown8 := own_base hown8 (base := w.heap.size) (by first | exact HB7.out.drew.size | exact (HB7.out.drew.alloc HB7.out.drew.size _).size)
             have HG8 := Lib.hid (fun g (e : v8.ownBlock = some g) => (hown8.lt g e).1)
             have c0 : w8.cell? ⟨w6.heap.size, 0, none⟩ = some (.int .i64 n) := by rw [cell_of_row _ _ 0 _ _ _ hx8]; rfl
             have c1 : w8.cell? ⟨w6.heap.size, 1, none⟩ = some (.int .i64 s) := by rw [cell_of_row _ _ 1 _ _ _ hx8]; rfl
             have c2 : w8.cell? ⟨w6.heap.size, 2, none⟩ = some (.string y) := by rw [cell_of_row _ _ 2 _ _ _ hx8]; rfl
             have hz8 := Lib.hid hbw8.size
             clear hb8))
        all_goals
          clear HCR HCS HX7 HL7 HS7 HU HB7 hz8
          have h9 := HF9.out.own
          rcases ownsRowK_shape h9 with ⟨_, h0⟩ | ⟨g9, cap9, hv9, hnc, hcm, hbg, hgl⟩
          · exact absurd h0 (by omega)
          · have hne9 : g9 ≠ w6.heap.size := fun e => HF9.out.ne (by rw [hv9, e]; rfl)
            have ew : IntKind.i64.wrap ((k : Int) + 1) = (k : Int) + 1 := IntWalk.i64_in _ (by omega)
            subst hv9
            obtain ⟨o1, ho1, hs1⟩ := slice_rd_run g9 (rs.length + 1) cap9 (k + 1) (by omega) hnc
            obtain ⟨o2, ho2, hs2⟩ := slice_rd_run g9 (rs.length + 1) cap9 k (by omega) hnc
            obtain rfl := ho2.resolve_left (by omega)
            have ho1' : k + 1 = rs.length + 1 ∨ (some ⟨g9, o1, none⟩ : Option Addr) = some ⟨g9, (k + 1) * 3, none⟩ := by
              rcases ho1 with h | h
              · exact .inl (by omega)
              · exact .inr (by rw [h])
            simp only [Int.natCast_add, Int.natCast_one] at hs1
            have H9 := Lib.hid h9.drew
            have HX9 := Lib.hid HF9.out.row; have HB9 := Lib.hid HF9.out.below
            clear h9 HF9 ho1
            go_wp2_with fail
            go_region_law (refine step_copy_rd rfl (.tmp 34) (.tmp 37) rfl H9.out k (by omega) (some ⟨g9, o1, none⟩) (cap9 - (k + 1)) (cap9 - k) (rs.length + 1 - (k + 1)) (rs.length + 1 - k) (by simp [Act.eval, Act.put]) (by simp [Act.eval, Act.put]) rfl rfl ho1' ?_; intro w10 hown10 hgr10)
            all_goals
              have hx10 := (hgr10.block w6.heap.size (Array.getElem?_eq_some_iff.1 HX9.out).1 (fun e => hne9 (by cases e; rfl))).trans HX9.out
              have hb10 := HB9.out.drew.grown hgr10 HB9.out.drew.size (fun j e => by cases e; exact hbg)
              have e0 : w10.cell? ⟨w6.heap.size, 0, none⟩ = some (.int .i64 n) := by rw [cell_of_row _ _ 0 _ _ _ hx10]; rfl
              have e1 : w10.cell? ⟨w6.heap.size, 1, none⟩ = some (.int .i64 s) := by rw [cell_of_row _ _ 1 _ _ _ hx10]; rfl
              have e2 : w10.cell? ⟨w6.heap.size, 2, none⟩ = some (.string y) := by rw [cell_of_row _ _ 2 _ _ _ hx10]; rfl
              have hmv := rd_moved rs ((n, s), y) ((n, s), y) k (by omega) _ rfl
              generalize (rs ++ [((n, s), y)]).take (k + 1) ++ ((rs ++ [((n, s), y)]).drop k).take (rs.length + 1 - (k + 1)) = M at *
              have st1 := hown10.stored (k * 3) (.int .i64 n)
              have st2 := st1.1.stored (k * 3 + 1) (.int .i64 s)
              have st3 := st2.1.stored (k * 3 + 2) (.string y)
              dsimp only at hmv
              rw [hmv] at st3
              have hbz := ((hb10.setCell (p := ⟨g9, k * 3, none⟩) hbg (.int .i64 n)).setCell (p := ⟨g9, k * 3 + 1, none⟩) hbg (.int .i64 s)).setCell (p := ⟨g9, k * 3 + 2, none⟩) hbg (.string y)
              have RR := Lib.hid (And.intro st3.1 hbz)
              obtain ⟨s1, s2⟩ := own_cell hown10 (k * 3) (by omega)
              obtain ⟨s3, s4⟩ := own_cell hown10 (k * 3 + 1) (by omega)
              obtain ⟨s5, s6⟩ := own_cell hown10 (k * 3 + 2) (by omega)
              clear hx10 hb10 hmv st1 st2 st3 hbz hown10 hgr10 hs1 hs2 H9 HX9 HB9 hne9
              have z5 : (k : Int) < (rs.length : Int) + 1 := by omega
              go_wp2
              go_ret
              exact ⟨_, rfl, by rw [HN.out]; exact RR.out.1, RR.out.2⟩
    · have z1 : ¬ (k : Int) < (rs.length : Int) := by omega
      have HN := Lib.hid (aheadN_at (n, s) rs k (by omega) hall (.inl (by omega)))
      clear hall hcells
      go_wp2
      refine wp_region_below W (by kernel_rfl) (by kernel_rfl) hb ?_
      repeat (first
        | go_big_quiet_skip
        | (go_big_quiet_want
           first
             | (go_big_quiet_op; go_big_quiet_on)
             | (go_big_quiet_op; refine ⟨_, fun _ _ => rfl, ?_⟩; go_big_quiet_on)
             | (go_big_quiet_op; go_big_quiet_on)))
      refine wpQuiet_nil ?_
      intro w5 hb5
      clear LK hb
      have hbw5 := HB0.out.trans (hb5.mono (by rw [HSZ.out]; omega))
      have hx5 : w5.heap[w.heap.size]? = some (.cells #[.int .i64 n, .int .i64 s, .string y] 28) := (hb5.block _ (by rw [HSZ.out]; omega)).trans HX0.out
      have q0 : w5.cell? ⟨w.heap.size, 0, none⟩ = some (.int .i64 n) := by rw [cell_of_row _ _ 0 _ _ _ hx5]; rfl
      have q1 : w5.cell? ⟨w.heap.size, 1, none⟩ = some (.int .i64 s) := by rw [cell_of_row _ _ 1 _ _ _ hx5]; rfl
      have q2 : w5.cell? ⟨w.heap.size, 2, none⟩ = some (.string y) := by rw [cell_of_row _ _ 2 _ _ _ hx5]; rfl
      have HB5 := Lib.hid hbw5
      clear hx5 hbw5 hb5
      go_wp2_with fail
      refine (HCR.out _).mono ?_
      rintro e w6 ⟨rfl, hb6⟩
      have hbw6 := HB5.out.trans (hb6.mono HB5.out.size)
      have hz6 := hbw6.size
      have HB7 := Lib.hid (hbw6.alloc hz6 (.cells #[.int .i64 n, .int .i64 s, .string y] 28))
      have HX7 := Lib.hid (heap_alloc_new w6 (.cells #[.int .i64 n, .int .i64 s, .string y] 28))
      have HL7 := Lib.hid (show w6.heap.size < (w6.alloc (.cells #[.int .i64 n, .int .i64 s, .string y] 28)).heap.size by simp)
      have hsz7 : (w6.alloc (.cells #[.int .i64 n, .int .i64 s, .string y] 28)).heap.size = w6.heap.size + 1 := by simp
      have HS7 := Lib.hid hsz7
      clear hb6 hbw6 q0 q1 q2 HB5 hsz7
      go_wp2_with fail
      have HU := Lib.hid (rd_new (w6.alloc (.cells #[.int .i64 n, .int .i64 s, .string y] 28)).drew n s y)
      rw [show (w6.alloc (.cells #[.int .i64 n, .int .i64 s, .string y] 28)).drew.heap.size = w6.heap.size + 1 from HS7.out] at HU
      go_region_law (first
        | (refine step_append_rd rfl (.tmp 27) (.tmp 29) rfl hown8 _ [((n, s), y)] hu8 rfl rfl (by simp; omega) hz8.out ?_
           intro v9 w9 hown9 hgr9 hw9
           have HF9 := Lib.hid (ld9 hown9 hgr9 hw9 hx8 hbw8 HN8.out HG8.out)
           clear hown9 hgr9 hx8 hbw8 hown8 hu8 hw9 HN8 HG8 c0 c1 c2)
        | (refine step_append_rd rfl (.tmp 27) (.tmp 29) rfl (hown8.alloc _) _ [((n, s), y)] (rd_new w8 n s y) rfl rfl (by simp; omega) (by have := hz8.out; simp; omega) ?_
           intro v9 w9 hown9 hgr9 hw9
           have hx8' := (Below.heap_alloc w8 (.cells #[.int .i64 n, .int .i64 s, .string y] 28) w6.heap.size (Array.getElem?_eq_some_iff.1 hx8).1).trans hx8
           have hbw8' := hbw8.alloc hbw8.size (.cells #[.int .i64 n, .int .i64 s, .string y] 28)
           have HF9 := Lib.hid (ld9 hown9 hgr9 hw9 hx8' hbw8' HN8.out HG8.out)
           clear hown9 hgr9 hx8 hx8' hbw8 hbw8' hown8 hw9 HN8 HG8 c0 c1 c2)
        | (go_simp
           go_at_call 34
           refine (HCS.out _ (by first | exact HB7.out.drew | exact HB7.out.drew.alloc HB7.out.drew.size _)).mono ?_
           rintro e w8 ⟨v8, rfl, hown8, hb8⟩
           dsimp only
           have hbw8 : Below w.heap.size w w8 := by first | exact HB7.out.drew.trans (hb8.mono HB7.out.drew.size) | exact (HB7.out.drew.alloc HB7.out.drew.size _).trans (hb8.mono (HB7.out.drew.alloc HB7.out.drew.size _).size)
           have hx8 : w8.heap[w6.heap.size]? = some (.cells #[.int .i64 n, .int .i64 s, .string y] 28) := by
             first
               | exact (hb8.block _ HL7.out).trans HX7.out
               | exact (hb8.block _ (Nat.lt_of_lt_of_le HL7.out (by simp))).trans ((Below.heap_alloc _ _ _ HL7.out).trans HX7.out)
           have HN8 := Lib.hid (fun (e : v8.ownBlock = some w6.heap.size) => Nat.lt_irrefl _ (Nat.lt_of_lt_of_le HL7.out (by first | exact (hown8.lt _ e).1 | exact Nat.le_trans (by simp) (hown8.lt _ e).1)))
           try have hu8 := rdAt_below HU.out hb8
           have hown8 := own_base hown8 (base := w.heap.size) (by first | exact HB7.out.drew.size | exact (HB7.out.drew.alloc HB7.out.drew.size _).size)
           have HG8 := Lib.hid (fun g (e : v8.ownBlock = some g) => (hown8.lt g e).1)
           have c0 : w8.cell? ⟨w6.heap.size, 0, none⟩ = some (.int .i64 n) := by rw [cell_of_row _ _ 0 _ _ _ hx8]; rfl
           have c1 : w8.cell? ⟨w6.heap.size, 1, none⟩ = some (.int .i64 s) := by rw [cell_of_row _ _ 1 _ _ _ hx8]; rfl
           have c2 : w8.cell? ⟨w6.heap.size, 2, none⟩ = some (.string y) := by rw [cell_of_row _ _ 2 _ _ _ hx8]; rfl
           have hz8 := Lib.hid hbw8.size
           clear hb8))
      all_goals
        clear HCR HCS HX7 HL7 HS7 HU HB7 hz8
        have h9 := HF9.out.own
        rcases ownsRowK_shape h9 with ⟨_, h0⟩ | ⟨g9, cap9, hv9, hnc, hcm, hbg, hgl⟩
        · exact absurd h0 (by omega)
        · have hne9 : g9 ≠ w6.heap.size := fun e => HF9.out.ne (by rw [hv9, e]; rfl)
          have ew : IntKind.i64.wrap ((k : Int) + 1) = (k : Int) + 1 := IntWalk.i64_in _ (by omega)
          subst hv9
          obtain ⟨o1, ho1, hs1⟩ := slice_rd_run g9 (rs.length + 1) cap9 (k + 1) (by omega) hnc
          obtain ⟨o2, ho2, hs2⟩ := slice_rd_run g9 (rs.length + 1) cap9 k (by omega) hnc
          obtain rfl := ho2.resolve_left (by omega)
          have ho1' : k + 1 = rs.length + 1 ∨ (some ⟨g9, o1, none⟩ : Option Addr) = some ⟨g9, (k + 1) * 3, none⟩ := by
            rcases ho1 with h | h
            · exact .inl (by omega)
            · exact .inr (by rw [h])
          simp only [Int.natCast_add, Int.natCast_one] at hs1
          have H9 := Lib.hid h9.drew
          have HX9 := Lib.hid HF9.out.row; have HB9 := Lib.hid HF9.out.below
          clear h9 HF9 ho1
          go_wp2_with fail
          go_region_law (refine step_copy_rd rfl (.tmp 34) (.tmp 37) rfl H9.out k (by omega) (some ⟨g9, o1, none⟩) (cap9 - (k + 1)) (cap9 - k) (rs.length + 1 - (k + 1)) (rs.length + 1 - k) (by simp [Act.eval, Act.put]) (by simp [Act.eval, Act.put]) rfl rfl ho1' ?_; intro w10 hown10 hgr10)
          all_goals
            have hx10 := (hgr10.block w6.heap.size (Array.getElem?_eq_some_iff.1 HX9.out).1 (fun e => hne9 (by cases e; rfl))).trans HX9.out
            have hb10 := HB9.out.drew.grown hgr10 HB9.out.drew.size (fun j e => by cases e; exact hbg)
            have e0 : w10.cell? ⟨w6.heap.size, 0, none⟩ = some (.int .i64 n) := by rw [cell_of_row _ _ 0 _ _ _ hx10]; rfl
            have e1 : w10.cell? ⟨w6.heap.size, 1, none⟩ = some (.int .i64 s) := by rw [cell_of_row _ _ 1 _ _ _ hx10]; rfl
            have e2 : w10.cell? ⟨w6.heap.size, 2, none⟩ = some (.string y) := by rw [cell_of_row _ _ 2 _ _ _ hx10]; rfl
            have hmv := rd_moved rs ((n, s), y) ((n, s), y) k (by omega) _ rfl
            generalize (rs ++ [((n, s), y)]).take (k + 1) ++ ((rs ++ [((n, s), y)]).drop k).take (rs.length + 1 - (k + 1)) = M at *
            have st1 := hown10.stored (k * 3) (.int .i64 n)
            have st2 := st1.1.stored (k * 3 + 1) (.int .i64 s)
            have st3 := st2.1.stored (k * 3 + 2) (.string y)
            dsimp only at hmv
            rw [hmv] at st3
            have hbz := ((hb10.setCell (p := ⟨g9, k * 3, none⟩) hbg (.int .i64 n)).setCell (p := ⟨g9, k * 3 + 1, none⟩) hbg (.int .i64 s)).setCell (p := ⟨g9, k * 3 + 2, none⟩) hbg (.string y)
            have RR := Lib.hid (And.intro st3.1 hbz)
            obtain ⟨s1, s2⟩ := own_cell hown10 (k * 3) (by omega)
            obtain ⟨s3, s4⟩ := own_cell hown10 (k * 3 + 1) (by omega)
            obtain ⟨s5, s6⟩ := own_cell hown10 (k * 3 + 2) (by omega)
            clear hx10 hb10 hmv st1 st2 st3 hbz hown10 hgr10 hs1 hs2 H9 HX9 HB9 hne9
            have z5 : (k : Int) < (rs.length : Int) + 1 := by omega
            go_wp2
            go_ret
            exact ⟨_, rfl, by rw [HN.out]; exact RR.out.1, RR.out.2⟩
end Go.Proofs.Ytbkeggklfaepnaa
