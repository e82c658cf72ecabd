/- Of two keys one is ahead, or they are one; a list has what it has: the law walked. -/
import Derived.Test.YtbhdgkaeackbkaaLawA0
import Derived.Test.YtbhdgkaeackbkaaDrawF
import Derived.Test.YtbhdgkaeackbkaaKeyO
namespace Go.Proofs.Ytbhdgkaeackbkaa
open Go.ChangeShapes Go.WideShapes Go.ChangeAt Go.RowKit Go.BigFrame
set_option linter.unusedVariables false

theorem ahead_three (j k : K2) : (aheadB j k = true ∧ aheadB k j = false ∧ (j == k) = false) ∨ (aheadB j k = false ∧ aheadB k j = true ∧ (j == k) = false) ∨ (aheadB j k = false ∧ aheadB k j = false ∧ (j == k) = true) := by
  cases h1 : aheadB j k with
  | true =>
    refine .inl ⟨rfl, ahead_asymm h1, ?_⟩
    cases h : (j == k) with
    | false => rfl
    | true => rw [eq_of_beq h, ahead_irrefl] at h1; cases h1
  | false =>
    cases h2 : aheadB k j with
    | true =>
      refine .inr (.inl ⟨rfl, rfl, ?_⟩)
      cases h : (j == k) with
      | false => rfl
      | true => rw [eq_of_beq h, ahead_irrefl] at h2; cases h2
    | false => exact .inr (.inr ⟨rfl, rfl, by rw [ahead_total h1 h2]; simp⟩)
theorem hasKey_cons (ks : List K2) (k : K2) : hasKeyB (k :: ks) k = true := by unfold hasKeyB; simp
set_option maxRecDepth 100000 in
set_option maxHeartbeats 2000000 in
theorem fnahead_walk (a0 : Option Addr) (len0 cap0 : Nat) (z0 : List Int) (w : World) (w0 : IsRow .u8 w a0 len0 cap0 z0) :
    Calls Try.prog 3 #[.slice a0 len0 cap0] w fun e w' => e = .returned (.bool true) ∧ Below w.heap.size w w' := by
  obtain ⟨i0, hi, hz0, hz1, hz2⟩ := info_parts infoK
  by_cases hbig : len0 ≤ 1048576
  · have HC := Lib.hid (codeAt_of w0 hbig)
    clear w0
    go_enter Try.func3, Try.ntmps3
    go_wp2_with fail
    refine (big_any _ _ _ _ hbig).mono ?_
    rintro e w1 ⟨rfl, rfl⟩
    go_wp2_with fail
    refine (drawahead_any w1.heap.size len0 cap0 a0 z0 w1 HC.out (Nat.le_refl _)).mono ?_
    rintro e w2 ⟨j, k, rfl, hb2⟩
    have I1 := Lib.hid (fun w' => iahead_any j k w')
    have I2 := Lib.hid (fun w' => iahead_any k j w')
    have SA := Lib.hid (fun w' => sahead_any j k w')
    have hel : ∀ w', _ := fun w' => key_eql j k w'
    have HB := Lib.hid (((hb2.alloc hb2.size (.cells #[.int .i64 j.1, .int .i64 j.2] 25)).alloc (by simp; have := hb2.size; omega) (.cells #[.int .i64 k.1, .int .i64 k.2] 25)))
    have bJ := Lib.hid ((KBoxed.new w2 j).alloc (.cells #[.int .i64 k.1, .int .i64 k.2] 25))
    have bK0 := KBoxed.new (w2.alloc (.cells #[.int .i64 j.1, .int .i64 j.2] 25)) k
    rw [World.size_alloc] at bK0
    have bK := Lib.hid bK0
    have hsz : ((w2.alloc (.cells #[.int .i64 j.1, .int .i64 j.2] 25)).alloc (.cells #[.int .i64 k.1, .int .i64 k.2] 25)).heap.size = w2.heap.size + 2 := by simp
    have HSZ := Lib.hid hsz
    clear bK0 hsz hb2
    have h3 := ahead_three j k
    generalize aheadB j k = b1 at *
    generalize aheadB k j = b2 at *
    generalize (j == k) = b3 at *
    obtain ⟨p, q⟩ := j
    obtain ⟨p2, q2⟩ := k
    unfold kv at *
    dsimp only at *
    rcases h3 with ⟨rfl, rfl, rfl⟩ | ⟨rfl, rfl, rfl⟩ | ⟨rfl, rfl, rfl⟩
    all_goals
      go_wp2_with fail
      generalize ((w2.alloc (.cells #[.int .i64 p, .int .i64 q] 25)).alloc (.cells #[.int .i64 p2, .int .i64 q2] 25)) = w3 at *
      refine (I1.out _).mono ?_
      rintro e w4 ⟨rfl, hb4⟩
      have cJ4 := bJ.out.kept (grown_of_below' hb4 none) (by simp)
      have cK4 := bK.out.kept (grown_of_below' hb4 none) (by simp)
      have j0 := cJ4.cell0; have j1 := cJ4.cell1; have k0 := cK4.cell0; have k1 := cK4.cell1
      dsimp only at j0 j1 k0 k1
      go_wp2_with fail
      refine (I2.out _).mono ?_
      rintro e w5 ⟨rfl, hb5⟩
      clear j0 j1 k0 k1
      have cJ5 := cJ4.kept (grown_of_below' hb5 none) (by simp)
      have cK5 := cK4.kept (grown_of_below' hb5 none) (by simp)
      have j0 := cJ5.cell0; have j1 := cJ5.cell1; have k0 := cK5.cell0; have k1 := cK5.cell1
      dsimp only at j0 j1 k0 k1
      have hc5 := hb4.trans (hb5.mono hb4.size)
      have HB5 := HB.out.trans (hc5.mono HB.out.size)
      clear cJ4 cK4 hb4 hb5
      go_wp2_with fail
      refine (drawhaskey_any w1.heap.size len0 cap0 a0 z0 w5 (HC.out.below HB5) HB5.size).mono ?_
      rintro e w6 ⟨v, ks, x, rfl, hks, -, hown, hb6⟩
      clear j0 j1 k0 k1
      have cJ6 := (cJ5.kept (grown_of_below' hb6 none) (by simp)).alloc (.cells #[.int .i64 x.1, .int .i64 x.2] 25)
      have cK6 := (cK5.kept (grown_of_below' hb6 none) (by simp)).alloc (.cells #[.int .i64 x.1, .int .i64 x.2] 25)
      have cX6 := KBoxed.new w6 x
      have hown6 := hown.alloc (.cells #[.int .i64 x.1, .int .i64 x.2] 25)
      have HB6 := Lib.hid ((HB5.trans (hb6.mono HB5.size)).alloc (Nat.le_trans HB5.size hb6.size) (.cells #[.int .i64 x.1, .int .i64 x.2] 25))
      have IH := Lib.hid (fun w' (h : keysAt w' v ks) => ihaskey_any v ks x w' h (by omega))
      have SH := Lib.hid (fun w' (h : keysAt w' v ks) => shaskey_any v ks x w' h (by omega))
      have IH2 := Lib.hid (fun u w' (h : keysAt w' u (x :: ks)) => ihaskey_any u (x :: ks) x w' h (by simp only [List.length_cons]; omega))
      rw [hasKey_cons] at IH2
      clear cJ5 cK5 hown hb6 HB5 hc5
      generalize hasKeyB ks x = b4 at *
      obtain ⟨x1, x2⟩ := x
      unfold kv at *
      dsimp only at *
      go_wp2_with fail
      generalize w6.alloc (.cells #[.int .i64 x1, .int .i64 x2] 25) = w7 at *
      refine (IH.out _ (keysAt_own hown6)).mono ?_
      rintro e w8 ⟨rfl, hb8⟩
      have cJ8 := cJ6.kept (grown_of_below' hb8 none) (by simp)
      have cK8 := cK6.kept (grown_of_below' hb8 none) (by simp)
      have cX8 := cX6.kept (grown_of_below' hb8 none) (by simp)
      have hown8 := own_below hown6 hb8
      have HB8 := Lib.hid (HB6.out.trans (hb8.mono HB6.out.size))
      clear cJ6 cK6 cX6 hown6 hb8
      have LJ : ∀ w', Below w8.heap.size w8 w' → (loadVar 25 ⟨w2.heap.size, 0, none⟩).run Try.prog w' = .ok (.agg #[.int .i64 p, .int .i64 q]) w' := fun w' h => key_load (o := 0) (k := (p, q)) ⟨cJ8.cell0, cJ8.cell1⟩ cJ8.lt h
      have LK : ∀ w', Below w8.heap.size w8 w' → (loadVar 25 ⟨w2.heap.size + 1, 0, none⟩).run Try.prog w' = .ok (.agg #[.int .i64 p2, .int .i64 q2]) w' := fun w' h => key_load (o := 0) (k := (p2, q2)) ⟨cK8.cell0, cK8.cell1⟩ cK8.lt h
      have LX : ∀ w', Below w8.heap.size w8 w' → (loadVar 25 ⟨w6.heap.size, 0, none⟩).run Try.prog w' = .ok (.agg #[.int .i64 x1, .int .i64 x2]) w' := fun w' h => key_load (o := 0) (k := (x1, x2)) ⟨cX8.cell0, cX8.cell1⟩ cX8.lt h
      clear cJ8 cK8 cX8
      have DK := Lib.hid (fun w' (h : Below w1.heap.size w1 w') => drawkeyok_fun w1.heap.size len0 cap0 a0 z0 w' (HC.out.below h) h.size)
      generalize (oddF z0 len0 (newC z0 len0)).1 = kk at *
      have IK := Lib.hid (fun w' => ikeyok_any kk w')
      have SK := Lib.hid (fun w' => skeyok_any kk w')
      generalize keyOkB kk = b5 at *
      obtain ⟨kk1, kk2⟩ := kk
      unfold kv at DK IK SK
      dsimp only at DK IK SK
      rcases ownsRowK_shape hown8 with ⟨rfl, hks0⟩ | ⟨gv, cv, rfl, hcv⟩
      · skip
        go_wp2_with fail
        refine wp_region_segs [([true, true, true, true, true, false, true, true], 5), ([], 8), ([false, false, false, false, false, false, false, false, false, true, true, true, true, true, true], 15), ([false, false, false, false, false, false, false, false, false, false, false, false, false, false, false, false, true, true, true, true, false, true, false, true], 20), ([], 22), ([], 24), ([false, false, false, false, false, false, false, false, false, false, false, false, false, false, false, false, false, false, false, false, false, false, false, false, false, true, true, true, false, false, true], 28), ([], 29), ([], 31), ([], 32)] [false, false, false, false, false, false, false, false, false, false, false, false, false, false, false, false, false, false, false, false, false, false, false, false, false, false, false, false, false, false, false, false, false, true, true, true] (fun w' => Below w8.heap.size w8 w') (by kernel_rfl) (by kernel_rfl) (by kernel_rfl) (by intro c a d v w h; cases d <;> exact h) (Below.refl _ w8).drew ?_
        rw [wpSegs]
        try simp only [maskRows]
        repeat (first
          | go_big_quiet_skip
          | (go_big_quiet_want
             first
               | (go_big_quiet_op; go_big_quiet_on)
               | (refine q_load 25 _ _ _ rfl rfl LJ ?_; simp only [Act.put, List.setIfInBounds_toArray, List.set_cons_zero, List.set_cons_succ]; go_big_quiet_on)
               | (refine q_load 25 _ _ _ rfl rfl LK ?_; simp only [Act.put, List.setIfInBounds_toArray, List.set_cons_zero, List.set_cons_succ]; go_big_quiet_on)
               | (refine q_load 25 _ _ _ rfl rfl LX ?_; simp only [Act.put, List.setIfInBounds_toArray, List.set_cons_zero, List.set_cons_succ]; go_big_quiet_on)
               | (go_big_quiet_op; refine ⟨_, fun _ _ => rfl, ?_⟩; go_big_quiet_on)
               | (go_big_quiet_op; go_big_quiet_on)))
        refine wpQuiet_nil ?_
        refine seg_run rfl (by rfl) (fun K hK => ?_)
        go_simp
        refine (I1.out _).mono ?_
        rintro e w9 ⟨rfl, hb9⟩
        have hc9 : Below w8.heap.size w8 w9 := (Below.refl _ w8).drew.trans hb9
        clear hb9
        refine hK _ _ ⟨_, fun _ h => h, hc9, ?_⟩
        clear hK K
        try simp only [Act.put, List.setIfInBounds_toArray, List.set_cons_zero, List.set_cons_succ]
        rw [wpSegs]
        try simp only [maskRows]
        refine wpQuiet_nil ?_
        refine seg_run rfl (by rfl) (fun K hK => ?_)
        go_simp
        refine (SA.out _).mono ?_
        rintro e w10 ⟨rfl, hb10⟩
        have hc10 := hc9.trans (hb10.mono hc9.size)
        clear hb10 hc9
        refine hK _ _ ⟨_, fun _ h => h, hc10, ?_⟩
        clear hK K
        try simp only [Act.put, List.setIfInBounds_toArray, List.set_cons_zero, List.set_cons_succ]
        rw [wpSegs]
        try simp only [maskRows]
        repeat (first
          | go_big_quiet_skip
          | (go_big_quiet_want
             first
               | (go_big_quiet_op; go_big_quiet_on)
               | (refine q_load 25 _ _ _ rfl rfl LJ ?_; simp only [Act.put, List.setIfInBounds_toArray, List.set_cons_zero, List.set_cons_succ]; go_big_quiet_on)
               | (refine q_load 25 _ _ _ rfl rfl LK ?_; simp only [Act.put, List.setIfInBounds_toArray, List.set_cons_zero, List.set_cons_succ]; go_big_quiet_on)
               | (refine q_load 25 _ _ _ rfl rfl LX ?_; simp only [Act.put, List.setIfInBounds_toArray, List.set_cons_zero, List.set_cons_succ]; go_big_quiet_on)
               | (go_big_quiet_op; refine ⟨_, fun _ _ => rfl, ?_⟩; go_big_quiet_on)
               | (go_big_quiet_op; go_big_quiet_on)))
        refine wpQuiet_nil ?_
        refine seg_run rfl (by rfl) (fun K hK => ?_)
        go_simp
        refine (SH.out _ (keysAt_own (own_below hown8 hc10))).mono ?_
        rintro e w11 ⟨rfl, hb11⟩
        have hc11 := hc10.trans (hb11.mono hc10.size)
        clear hb11 hc10
        refine hK _ _ ⟨_, fun _ h => h, hc11, ?_⟩
        clear hK K
        try simp only [Act.put, List.setIfInBounds_toArray, List.set_cons_zero, List.set_cons_succ]
        rw [wpSegs]
        try simp only [maskRows]
        repeat (first
          | go_big_quiet_skip
          | (go_big_quiet_want
             first
               | (go_big_quiet_op; go_big_quiet_on)
               | (refine q_load 25 _ _ _ rfl rfl LJ ?_; simp only [Act.put, List.setIfInBounds_toArray, List.set_cons_zero, List.set_cons_succ]; go_big_quiet_on)
               | (refine q_load 25 _ _ _ rfl rfl LK ?_; simp only [Act.put, List.setIfInBounds_toArray, List.set_cons_zero, List.set_cons_succ]; go_big_quiet_on)
               | (refine q_load 25 _ _ _ rfl rfl LX ?_; simp only [Act.put, List.setIfInBounds_toArray, List.set_cons_zero, List.set_cons_succ]; go_big_quiet_on)
               | (go_big_quiet_op; refine ⟨_, fun _ _ => rfl, ?_⟩; go_big_quiet_on)
               | (go_big_quiet_op; go_big_quiet_on)))
        refine wpQuiet_nil ?_
        refine seg_run rfl (by rfl) (fun K hK => ?_)
        go_simp
        have hc12 := hc11.alloc hc11.size (.cells #[.int .i64 x1, .int .i64 x2] 25)
        have ho12 := own_pair w11 x1 x2
        refine hK _ _ ⟨_, fun _ h => h, hc12, ?_⟩
        clear hK K
        try simp only [Act.put, List.setIfInBounds_toArray, List.set_cons_zero, List.set_cons_succ]
        rw [wpSegs]
        try simp only [maskRows]
        refine wpQuiet_nil ?_
        refine seg_run rfl (by rfl) (fun K hK => ?_)
        obtain rfl : ks = [] := List.length_eq_zero_iff.1 hks0
        refine wp_append_run (.tmp 59) (.tmp 60) 29 rfl _ _ rfl rfl (append_none ho12 none 0 _) ?_
        have hk13 : (w11.alloc (.cells #[.int .i64 x1, .int .i64 x2] 25)).ownsRow w11.heap.size 25 2 (.slice (some ⟨w11.heap.size, 0, none⟩) 1 1) [(x1, x2)].length (keyCells [(x1, x2)]) := ho12
        have hc13 := hc12
        clear hc12 ho12 hc11
        refine hK _ _ ⟨_, fun _ h => h, hc13, ?_⟩
        clear hK K
        try simp only [Act.put, List.setIfInBounds_toArray, List.set_cons_zero, List.set_cons_succ]
        rw [wpSegs]
        try simp only [maskRows]
        refine wpQuiet_nil ?_
        refine seg_run rfl (by rfl) (fun K hK => ?_)
        go_simp
        refine (IH2.out _ _ (keysAt_own hk13)).mono ?_
        rintro e w14 ⟨rfl, hb14⟩
        have hc14 := hc13.trans (hb14.mono hc13.size)
        clear hb14 hc13 hk13
        refine hK _ _ ⟨_, fun _ h => h, hc14, ?_⟩
        clear hK K
        try simp only [Act.put, List.setIfInBounds_toArray, List.set_cons_zero, List.set_cons_succ]
        rw [wpSegs]
        try simp only [maskRows]
        repeat (first
          | go_big_quiet_skip
          | (go_big_quiet_want
             first
               | (go_big_quiet_op; go_big_quiet_on)
               | (go_big_quiet_op; refine ⟨_, fun _ _ => rfl, ?_⟩; go_big_quiet_on)
               | (go_big_quiet_op; go_big_quiet_on)))
        refine wpQuiet_nil ?_
        refine seg_run rfl (by rfl) (fun K hK => ?_)
        go_simp
        refine (DK.out _ (HB8.out.trans (hc14.mono HB8.out.size))).mono ?_
        rintro e w15 ⟨rfl, hb15⟩
        have hc15 := hc14.trans (hb15.mono hc14.size)
        clear hb15 hc14
        refine hK _ _ ⟨_, fun _ h => h, hc15, ?_⟩
        clear hK K
        try simp only [Act.put, List.setIfInBounds_toArray, List.set_cons_zero, List.set_cons_succ]
        rw [wpSegs]
        try simp only [maskRows]
        refine wpQuiet_nil ?_
        refine seg_run rfl (by rfl) (fun K hK => ?_)
        go_simp
        refine (IK.out _).mono ?_
        rintro e w16 ⟨rfl, hb16⟩
        have hc16 := hc15.trans (hb16.mono hc15.size)
        clear hb16 hc15
        refine hK _ _ ⟨_, fun _ h => h, hc16, ?_⟩
        clear hK K
        try simp only [Act.put, List.setIfInBounds_toArray, List.set_cons_zero, List.set_cons_succ]
        rw [wpSegs]
        try simp only [maskRows]
        refine wpQuiet_nil ?_
        refine seg_run rfl (by rfl) (fun K hK => ?_)
        go_simp
        refine (DK.out _ (HB8.out.trans (hc16.mono HB8.out.size))).mono ?_
        rintro e w17 ⟨rfl, hb17⟩
        have hc17 := hc16.trans (hb17.mono hc16.size)
        clear hb17 hc16
        refine hK _ _ ⟨_, fun _ h => h, hc17, ?_⟩
        clear hK K
        try simp only [Act.put, List.setIfInBounds_toArray, List.set_cons_zero, List.set_cons_succ]
        rw [wpSegs]
        try simp only [maskRows]
        refine wpQuiet_nil ?_
        refine seg_run rfl (by rfl) (fun K hK => ?_)
        go_simp
        refine (SK.out _).mono ?_
        rintro e w18 ⟨rfl, hb18⟩
        have HF := Lib.hid (HB8.out.trans ((hc17.trans (hb18.mono hc17.size)).mono HB8.out.size))
        have hc18 := hc17.trans (hb18.mono hc17.size)
        clear hb18 hc17
        refine hK _ _ ⟨_, fun _ h => h, hc18, ?_⟩
        clear hK K
        try simp only [Act.put, List.setIfInBounds_toArray, List.set_cons_zero, List.set_cons_succ]
        rw [wpSegs]
        try simp only [maskRows]
        repeat (first
          | go_big_quiet_skip
          | (go_big_quiet_want
             first
               | (go_big_quiet_op; go_big_quiet_on)
               | (go_big_quiet_op; refine ⟨_, fun _ _ => rfl, ?_⟩; go_big_quiet_on)
               | (go_big_quiet_op; go_big_quiet_on)))
        refine wpQuiet_nil ?_
        clear LJ LK LX
        go_wp2
        go_ret
        exact ⟨rfl, HF.out⟩
      · skip
        go_wp2_with fail
        refine wp_region_segs [([true, true, true, true, true, false, true, true], 5), ([], 8), ([false, false, false, false, false, false, false, false, false, true, true, true, true, true, true], 15), ([false, false, false, false, false, false, false, false, false, false, false, false, false, false, false, false, true, true, true, true, false, true, false, true], 20), ([], 22), ([], 24), ([false, false, false, false, false, false, false, false, false, false, false, false, false, false, false, false, false, false, false, false, false, false, false, false, false, true, true, true, false, false, true], 28), ([], 29), ([], 31), ([], 32)] [false, false, false, false, false, false, false, false, false, false, false, false, false, false, false, false, false, false, false, false, false, false, false, false, false, false, false, false, false, false, false, false, false, true, true, true] (fun w' => Below w8.heap.size w8 w') (by kernel_rfl) (by kernel_rfl) (by kernel_rfl) (by intro c a d v w h; cases d <;> exact h) (Below.refl _ w8).drew ?_
        rw [wpSegs]
        try simp only [maskRows]
        repeat (first
          | go_big_quiet_skip
          | (go_big_quiet_want
             first
               | (go_big_quiet_op; go_big_quiet_on)
               | (refine q_load 25 _ _ _ rfl rfl LJ ?_; simp only [Act.put, List.setIfInBounds_toArray, List.set_cons_zero, List.set_cons_succ]; go_big_quiet_on)
               | (refine q_load 25 _ _ _ rfl rfl LK ?_; simp only [Act.put, List.setIfInBounds_toArray, List.set_cons_zero, List.set_cons_succ]; go_big_quiet_on)
               | (refine q_load 25 _ _ _ rfl rfl LX ?_; simp only [Act.put, List.setIfInBounds_toArray, List.set_cons_zero, List.set_cons_succ]; go_big_quiet_on)
               | (go_big_quiet_op; refine ⟨_, fun _ _ => rfl, ?_⟩; go_big_quiet_on)
               | (go_big_quiet_op; go_big_quiet_on)))
        refine wpQuiet_nil ?_
        refine seg_run rfl (by rfl) (fun K hK => ?_)
        go_simp
        refine (I1.out _).mono ?_
        rintro e w9 ⟨rfl, hb9⟩
        have hc9 : Below w8.heap.size w8 w9 := (Below.refl _ w8).drew.trans hb9
        clear hb9
        refine hK _ _ ⟨_, fun _ h => h, hc9, ?_⟩
        clear hK K
        try simp only [Act.put, List.setIfInBounds_toArray, List.set_cons_zero, List.set_cons_succ]
        rw [wpSegs]
        try simp only [maskRows]
        refine wpQuiet_nil ?_
        refine seg_run rfl (by rfl) (fun K hK => ?_)
        go_simp
        refine (SA.out _).mono ?_
        rintro e w10 ⟨rfl, hb10⟩
        have hc10 := hc9.trans (hb10.mono hc9.size)
        clear hb10 hc9
        refine hK _ _ ⟨_, fun _ h => h, hc10, ?_⟩
        clear hK K
        try simp only [Act.put, List.setIfInBounds_toArray, List.set_cons_zero, List.set_cons_succ]
        rw [wpSegs]
        try simp only [maskRows]
        repeat (first
          | go_big_quiet_skip
          | (go_big_quiet_want
             first
               | (go_big_quiet_op; go_big_quiet_on)
               | (refine q_load 25 _ _ _ rfl rfl LJ ?_; simp only [Act.put, List.setIfInBounds_toArray, List.set_cons_zero, List.set_cons_succ]; go_big_quiet_on)
               | (refine q_load 25 _ _ _ rfl rfl LK ?_; simp only [Act.put, List.setIfInBounds_toArray, List.set_cons_zero, List.set_cons_succ]; go_big_quiet_on)
               | (refine q_load 25 _ _ _ rfl rfl LX ?_; simp only [Act.put, List.setIfInBounds_toArray, List.set_cons_zero, List.set_cons_succ]; go_big_quiet_on)
               | (go_big_quiet_op; refine ⟨_, fun _ _ => rfl, ?_⟩; go_big_quiet_on)
               | (go_big_quiet_op; go_big_quiet_on)))
        refine wpQuiet_nil ?_
        refine seg_run rfl (by rfl) (fun K hK => ?_)
        go_simp
        refine (SH.out _ (keysAt_own (own_below hown8 hc10))).mono ?_
        rintro e w11 ⟨rfl, hb11⟩
        have hc11 := hc10.trans (hb11.mono hc10.size)
        clear hb11 hc10
        refine hK _ _ ⟨_, fun _ h => h, hc11, ?_⟩
        clear hK K
        try simp only [Act.put, List.setIfInBounds_toArray, List.set_cons_zero, List.set_cons_succ]
        rw [wpSegs]
        try simp only [maskRows]
        repeat (first
          | go_big_quiet_skip
          | (go_big_quiet_want
             first
               | (go_big_quiet_op; go_big_quiet_on)
               | (refine q_load 25 _ _ _ rfl rfl LJ ?_; simp only [Act.put, List.setIfInBounds_toArray, List.set_cons_zero, List.set_cons_succ]; go_big_quiet_on)
               | (refine q_load 25 _ _ _ rfl rfl LK ?_; simp only [Act.put, List.setIfInBounds_toArray, List.set_cons_zero, List.set_cons_succ]; go_big_quiet_on)
               | (refine q_load 25 _ _ _ rfl rfl LX ?_; simp only [Act.put, List.setIfInBounds_toArray, List.set_cons_zero, List.set_cons_succ]; go_big_quiet_on)
               | (go_big_quiet_op; refine ⟨_, fun _ _ => rfl, ?_⟩; go_big_quiet_on)
               | (go_big_quiet_op; go_big_quiet_on)))
        refine wpQuiet_nil ?_
        refine seg_run rfl (by rfl) (fun K hK => ?_)
        go_simp
        have hc12 := hc11.alloc hc11.size (.cells #[.int .i64 x1, .int .i64 x2] 25)
        have ho12 := own_pair w11 x1 x2
        refine hK _ _ ⟨_, fun _ h => h, hc12, ?_⟩
        clear hK K
        try simp only [Act.put, List.setIfInBounds_toArray, List.set_cons_zero, List.set_cons_succ]
        rw [wpSegs]
        try simp only [maskRows]
        refine wpQuiet_nil ?_
        refine seg_run rfl (by rfl) (fun K hK => ?_)
        have hsw := hc11.size
        have hown12 := (own_below hown8 hc11).alloc (.cells #[.int .i64 x1, .int .i64 x2] 25)
        refine wp_append_own _ (.tmp 59) (.tmp 60) 29 rfl w11.heap.size 25 i0 (.agg #[.int .i64 0, .int .i64 0]) 2 16 Try.underlying29 hi hz0 hz1 hz2 rfl (by decide) _ _ _ rfl ho12 ⟨gv, 0, none⟩ ks.length cv (keyCells ks) rfl (keyCells_len ks) (own_news hown12) (keyCells_one ks) (by unfold maxLen; omega) (by omega) (by simp) ?_
        intro v13 w13 hown13 hgrow13 _
        have hk13 : w13.ownsRow w11.heap.size 25 2 v13 ((x1, x2) :: ks).length (keyCells ((x1, x2) :: ks)) := by rw [List.length_cons, Nat.add_comm]; exact hown13
        have hc13 := hc12.grown hgrow13 hc12.size (fun b e => by have := (ho12.lt b e).1; omega)
        clear hown13 hgrow13 hown12
        clear hc12 ho12 hc11
        refine hK _ _ ⟨_, fun _ h => h, hc13, ?_⟩
        clear hK K
        try simp only [Act.put, List.setIfInBounds_toArray, List.set_cons_zero, List.set_cons_succ]
        rw [wpSegs]
        try simp only [maskRows]
        refine wpQuiet_nil ?_
        refine seg_run rfl (by rfl) (fun K hK => ?_)
        go_simp
        refine (IH2.out _ _ (keysAt_own hk13)).mono ?_
        rintro e w14 ⟨rfl, hb14⟩
        have hc14 := hc13.trans (hb14.mono hc13.size)
        clear hb14 hc13 hk13
        refine hK _ _ ⟨_, fun _ h => h, hc14, ?_⟩
        clear hK K
        try simp only [Act.put, List.setIfInBounds_toArray, List.set_cons_zero, List.set_cons_succ]
        rw [wpSegs]
        try simp only [maskRows]
        repeat (first
          | go_big_quiet_skip
          | (go_big_quiet_want
             first
               | (go_big_quiet_op; go_big_quiet_on)
               | (go_big_quiet_op; refine ⟨_, fun _ _ => rfl, ?_⟩; go_big_quiet_on)
               | (go_big_quiet_op; go_big_quiet_on)))
        refine wpQuiet_nil ?_
        refine seg_run rfl (by rfl) (fun K hK => ?_)
        go_simp
        refine (DK.out _ (HB8.out.trans (hc14.mono HB8.out.size))).mono ?_
        rintro e w15 ⟨rfl, hb15⟩
        have hc15 := hc14.trans (hb15.mono hc14.size)
        clear hb15 hc14
        refine hK _ _ ⟨_, fun _ h => h, hc15, ?_⟩
        clear hK K
        try simp only [Act.put, List.setIfInBounds_toArray, List.set_cons_zero, List.set_cons_succ]
        rw [wpSegs]
        try simp only [maskRows]
        refine wpQuiet_nil ?_
        refine seg_run rfl (by rfl) (fun K hK => ?_)
        go_simp
        refine (IK.out _).mono ?_
        rintro e w16 ⟨rfl, hb16⟩
        have hc16 := hc15.trans (hb16.mono hc15.size)
        clear hb16 hc15
        refine hK _ _ ⟨_, fun _ h => h, hc16, ?_⟩
        clear hK K
        try simp only [Act.put, List.setIfInBounds_toArray, List.set_cons_zero, List.set_cons_succ]
        rw [wpSegs]
        try simp only [maskRows]
        refine wpQuiet_nil ?_
        refine seg_run rfl (by rfl) (fun K hK => ?_)
        go_simp
        refine (DK.out _ (HB8.out.trans (hc16.mono HB8.out.size))).mono ?_
        rintro e w17 ⟨rfl, hb17⟩
        have hc17 := hc16.trans (hb17.mono hc16.size)
        clear hb17 hc16
        refine hK _ _ ⟨_, fun _ h => h, hc17, ?_⟩
        clear hK K
        try simp only [Act.put, List.setIfInBounds_toArray, List.set_cons_zero, List.set_cons_succ]
        rw [wpSegs]
        try simp only [maskRows]
        refine wpQuiet_nil ?_
        refine seg_run rfl (by rfl) (fun K hK => ?_)
        go_simp
        refine (SK.out _).mono ?_
        rintro e w18 ⟨rfl, hb18⟩
        have HF := Lib.hid (HB8.out.trans ((hc17.trans (hb18.mono hc17.size)).mono HB8.out.size))
        have hc18 := hc17.trans (hb18.mono hc17.size)
        clear hb18 hc17
        refine hK _ _ ⟨_, fun _ h => h, hc18, ?_⟩
        clear hK K
        try simp only [Act.put, List.setIfInBounds_toArray, List.set_cons_zero, List.set_cons_succ]
        rw [wpSegs]
        try simp only [maskRows]
        repeat (first
          | go_big_quiet_skip
          | (go_big_quiet_want
             first
               | (go_big_quiet_op; go_big_quiet_on)
               | (go_big_quiet_op; refine ⟨_, fun _ _ => rfl, ?_⟩; go_big_quiet_on)
               | (go_big_quiet_op; go_big_quiet_on)))
        refine wpQuiet_nil ?_
        clear LJ LK LX
        go_wp2
        go_ret
        exact ⟨rfl, HF.out⟩
  · go_enter Try.func3, Try.ntmps3
    go_wp2_with fail
    refine (big_true _ _ _ _ hbig).mono ?_
    rintro e w1 ⟨rfl, rfl⟩
    go_wp2
    go_ret
    exact ⟨rfl, Below.refl _ _⟩
end Go.Proofs.Ytbhdgkaeackbkaa
