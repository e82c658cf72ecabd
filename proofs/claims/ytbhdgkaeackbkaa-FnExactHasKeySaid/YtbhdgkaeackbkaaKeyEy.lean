/- Chapter 3's exact laws over a list, and over a list and a key: walked. -/
import Derived.Test.YtbhdgkaeackbkaaKeyEx
import Derived.Test.YtbhdgkaeackbkaaSegs
namespace Go.Proofs.Ytbhdgkaeackbkaa
open Go.ChangeShapes Go.WideShapes Go.ChangeAt Go.RowKit Go.BigFrame
set_option linter.unusedVariables false

set_option maxRecDepth 100000 in
set_option maxHeartbeats 1000000 in
theorem exacthaskey_walk (va : Value) (A : List K2) (k : K2) (w : World) (ha : keysAt w va A) (hA63 : A.length ≤ maxLen) :
    Calls Try.prog 9 #[va, kv k] w fun e w' => e = .returned (.bool true) ∧ Below w.heap.size w w' := by
  have hsA : ∃ a cap, va = .slice a A.length cap := by obtain ⟨a, cap, h, _⟩ := ha; exact ⟨a, cap, h⟩
  unfold maxLen at hA63
  have S1 := Lib.hid (fun w => szkeys_any va A 1048576 w hsA (by omega) (by omega))
  have hB0 : ∀ o, Below w.heap.size w (w.alloc o) := fun o => (Below.refl _ w).alloc (Nat.le_refl _) o
  obtain ⟨n, s⟩ := k
  by_cases hlA : A.length ≤ 1048576
  · rw [if_neg (by omega)] at S1
    have n1 : ¬ 1048576 - (A.length : Int) < 0 := by omega
    have KA := Lib.hid (fun w' (h : Below w.heap.size w w') => tokeys_any va A w' (keysAt_below ha h) (by omega))
    have hC : ∀ w', Below (w.heap.size + 1) (w.alloc (.cells #[.int .i64 n, .int .i64 s] 40)) w' → w'.cell? ⟨w.heap.size, 0, none⟩ = some (.int .i64 n) ∧ w'.cell? ⟨w.heap.size, 1, none⟩ = some (.int .i64 s) := fun w' h => ⟨(h.cell (p := ⟨w.heap.size, 0, none⟩) (by simp)).trans (by simp), (h.cell (p := ⟨w.heap.size, 1, none⟩) (by simp)).trans (by simp)⟩
    have HC := Lib.hid hC; clear hC
    have HI := Lib.hid (fun v w' h => ihaskey_any v A (n, s) w' h (by omega))
    have TK := Lib.hid (fun w' => tokey_any (n, s) w')
    have hW1 : ∀ w', Below (w.heap.size + 1) (w.alloc (.cells #[.int .i64 n, .int .i64 s] 40)) w' → (loadVar 40 ⟨w.heap.size, 0, none⟩).run Try.prog w' = .ok (kv (n, s)) w' := fun w' hb' =>
      lkey_load (k := (n, s)) (g := w.heap.size) (o := 0) (w := w.alloc (.cells #[.int .i64 n, .int .i64 s] 40)) (by simp) (by simp) (by simpa using hb')
    have hsz : (w.alloc (.cells #[.int .i64 n, .int .i64 s] 40)).heap.size = w.heap.size + 1 := by simp
    have W1 := Lib.hid hW1; have HB0 := Lib.hid (hB0 (.cells #[.int .i64 n, .int .i64 s] 40)); have HSZ := Lib.hid hsz; clear hW1 hB0 hsz
    unfold kv at *
    dsimp only at *
    clear hsA ha
    go_enter Try.func9, Try.ntmps9
    go_wp2_with fail
    generalize w.alloc (.cells #[.int .i64 n, .int .i64 s] 40) = W at *
    refine (S1.out _).mono ?_
    rintro e w1 ⟨rfl, rfl⟩
    clear S1
    have L1 : ∀ w', Below w1.heap.size w1 w' → (loadVar 40 ⟨w.heap.size, 0, none⟩).run Try.prog w' = .ok (.agg #[.int .i64 n, .int .i64 s]) w' := fun w' h => W1.out w' (by rw [← HSZ.out]; exact h)
    have HB1 := Lib.hid (fun w' (h : Below w1.heap.size w1 w') => HB0.out.trans (h.mono HB0.out.size))
    go_wp2_with fail
    refine wp_region_segs [([true, false, true], 1), ([], 3), ([], 4)] [false, false, false, false, false, true] (fun w' => Below w1.heap.size w1 w') (by kernel_rfl) (by kernel_rfl) (by kernel_rfl) (by intro c a d v w h; cases d <;> exact h) (Below.refl _ w1).drew ?_
    rw [wpSegs]
    try simp only [maskRows]
    repeat (first
      | go_big_quiet_skip
      | (go_big_quiet_want
         first
           | (go_big_quiet_op; go_big_quiet_on)
           | (refine q_load 40 _ _ _ rfl rfl L1 ?_; simp only [Act.put, List.setIfInBounds_toArray, List.set_cons_zero, List.set_cons_succ]; go_big_quiet_on)
           | (go_big_quiet_op; refine ⟨_, fun _ _ => rfl, ?_⟩; go_big_quiet_on)
           | (go_big_quiet_op; go_big_quiet_on)))
    refine wpQuiet_nil ?_
    refine seg_run rfl (by rfl) (fun K hK => ?_)
    go_simp
    refine (KA.out _ (HB1.out _ (Below.refl _ w1).drew)).mono ?_
    rintro e w2 ⟨g1, rfl, hg1, ho1, hb2⟩
    have hc2 : Below w1.heap.size w1 w2 := (Below.refl _ w1).drew.trans hb2
    refine hK _ _ ⟨_, fun _ h => h, hc2, ?_⟩
    clear hK K
    try simp only [Act.put, List.setIfInBounds_toArray, List.set_cons_zero, List.set_cons_succ]
    rw [wpSegs]
    try simp only [maskRows]
    refine wpQuiet_nil ?_
    refine seg_run rfl (by rfl) (fun K hK => ?_)
    go_simp
    refine (TK.out _).mono ?_
    rintro e w3 ⟨rfl, hb3⟩
    have hc3 := hc2.trans (hb3.mono hc2.size)
    have ho3 := own_below ho1 hb3
    clear ho1 hb3 hb2
    refine hK _ _ ⟨_, fun _ h => h, hc3, ?_⟩
    clear hK K
    try simp only [Act.put, List.setIfInBounds_toArray, List.set_cons_zero, List.set_cons_succ]
    rw [wpSegs]
    try simp only [maskRows]
    refine wpQuiet_nil ?_
    refine seg_run rfl (by rfl) (fun K hK => ?_)
    go_simp
    refine (shaskey_any _ A (n, s) _ (keysAt_own ho3) (by omega)).mono ?_
    rintro e w4 ⟨rfl, hb4⟩
    have hc4 := hc3.trans (hb4.mono hc3.size)
    clear ho3 hb4 hc3 hc2
    refine hK _ _ ⟨_, fun _ h => h, hc4, ?_⟩
    clear hK K
    try simp only [Act.put, List.setIfInBounds_toArray, List.set_cons_zero, List.set_cons_succ]
    rw [wpSegs]
    try simp only [maskRows]
    repeat (first
      | go_big_quiet_skip
      | (go_big_quiet_want
         first
           | (go_big_quiet_op; go_big_quiet_on)
           | (go_big_quiet_op; refine ⟨_, fun _ _ => rfl, ?_⟩; go_big_quiet_on)
           | (go_big_quiet_op; go_big_quiet_on)))
    refine wpQuiet_nil ?_
    generalize hasKeyB A (n, s) = b at *
    go_wp2_with fail
    refine (KA.out _ (HB1.out _ hc4)).mono ?_
    rintro e w5 ⟨g5, rfl, hg5, ho5, hb5⟩
    have hc5 := hc4.trans (hb5.mono hc4.size)
    have hcc := HC.out w5 (by rw [← HSZ.out]; exact hc5)
    have cc0 := hcc.1
    have cc1 := hcc.2
    clear hc4 hb5 L1 hcc
    go_wp2_with fail
    refine (TK.out _).mono ?_
    rintro e w6 ⟨rfl, hb6⟩
    clear cc0 cc1
    go_wp2_with fail
    refine (HI.out _ _ (keysAt_own (own_below ho5 hb6))).mono ?_
    rintro e w7 ⟨rfl, hb7⟩
    have hc7 := hb6.trans (hb7.mono hb6.size)
    clear hb6 hb7
    have hc8 := hc5.trans (hc7.mono hc5.size)
    have ho7 := own_below ho5 hc7
    clear ho5 hc7 hc5
    have hbb : ∀ u : Bool, (u != u) = false := fun u => by cases u <;> rfl
    cases b
    all_goals
      go_wp2_with fail
      refine (KA.out _ (HB1.out _ hc8)).mono ?_
      rintro e w9 ⟨g9, rfl, hg9, ho9, hb9⟩
      have hc9 := hc8.trans (hb9.mono hc8.size)
      have ho10 := own_below ho7 hb9
      go_wp2_with fail
      refine (eqkeys_any _ _ A A _ (keysAt_own ho10) (keysAt_own ho9) (by omega) (by omega)).mono ?_
      rintro e w10 ⟨rfl, hb10⟩
      have hc10 := hc9.trans (hb10.mono hc9.size)
      have HF := Lib.hid (HB1.out _ hc10)
      rw [show decide (A = A) = true by simp]
      clear hb9 hb10 hc9 hc10 ho10 ho9
      go_wp2
      go_ret
      exact ⟨rfl, HF.out⟩
  · rw [if_pos (by omega)] at S1
    have HB0 := Lib.hid (hB0 (.cells #[.int .i64 n, .int .i64 s] 40)); clear hB0 hsA ha
    unfold kv
    dsimp only
    go_enter Try.func9, Try.ntmps9
    go_wp2_with fail
    refine (S1.out _).mono ?_
    rintro e w1 ⟨rfl, rfl⟩
    go_wp2
    go_ret
    exact ⟨rfl, HB0.out⟩
set_option maxRecDepth 100000 in
set_option maxHeartbeats 1000000 in
theorem exactkeysok_walk (va : Value) (A : List K2) (w : World) (ha : keysAt w va A) (hA63 : A.length ≤ maxLen) :
    Calls Try.prog 8 #[va] w fun e w' => e = .returned (.bool true) ∧ Below w.heap.size w w' := by
  have hsA : ∃ a cap, va = .slice a A.length cap := by obtain ⟨a, cap, h, _⟩ := ha; exact ⟨a, cap, h⟩
  unfold maxLen at hA63
  have S1 := Lib.hid (fun w => szkeys_any va A 1048576 w hsA (by omega) (by omega))
  by_cases hlA : A.length ≤ 1048576
  · rw [if_neg (by omega)] at S1
    have n1 : ¬ 1048576 - (A.length : Int) < 0 := by omega
    have KA := Lib.hid (fun w' (h : Below w.heap.size w w') => tokeys_any va A w' (keysAt_below ha h) (by omega))
    have HI := Lib.hid (fun v w' h => ikeysok_any v A w' h (by omega))
    have HS := Lib.hid (fun v w' h => skeysok_any v A w' h (by omega))
    have HB0 := Below.refl w.heap.size w
    clear hsA ha
    generalize keysOkR A = b at *
    go_enter Try.func8, Try.ntmps8
    go_wp2_with fail
    refine (S1.out _).mono ?_
    rintro e w1 ⟨rfl, rfl⟩
    clear S1
    go_wp2_with fail
    refine (KA.out _ HB0).mono ?_
    rintro e w2 ⟨g1, rfl, hg1, ho1, hb2⟩
    have HB2 := HB0.trans (hb2.mono HB0.size)
    go_wp2_with fail
    refine (HS.out _ _ (keysAt_own ho1)).mono ?_
    rintro e w3 ⟨rfl, hb3⟩
    have HB3 := HB2.trans (hb3.mono HB2.size)
    clear hb2 hb3 HB2 ho1
    go_wp2_with fail
    refine (KA.out _ HB3).mono ?_
    rintro e w4 ⟨g2, rfl, hg2, ho2, hb4⟩
    have HB4 := HB3.trans (hb4.mono HB3.size)
    clear hb4 HB3
    go_wp2_with fail
    refine (HI.out _ _ (keysAt_own ho2)).mono ?_
    rintro e w5 ⟨rfl, hb5⟩
    have HB5 := HB4.trans (hb5.mono HB4.size)
    have ho5 := own_below ho2 hb5
    clear hb5 HB4 ho2
    cases b
    all_goals
      go_wp2_with fail
      refine (KA.out _ HB5).mono ?_
      rintro e w9 ⟨g9, rfl, hg9, ho9, hb9⟩
      have hc9 := HB5.trans (hb9.mono HB5.size)
      have ho10 := own_below ho5 hb9
      go_wp2_with fail
      refine (eqkeys_any _ _ A A _ (keysAt_own ho10) (keysAt_own ho9) (by omega) (by omega)).mono ?_
      rintro e w10 ⟨rfl, hb10⟩
      have HF := Lib.hid (hc9.trans (hb10.mono hc9.size))
      rw [show decide (A = A) = true by simp]
      clear hb9 hb10 hc9 ho10 ho9
      go_wp2
      go_ret
      exact ⟨rfl, HF.out⟩
  · rw [if_pos (by omega)] at S1
    clear hsA ha
    go_enter Try.func8, Try.ntmps8
    go_wp2_with fail
    refine (S1.out _).mono ?_
    rintro e w1 ⟨rfl, rfl⟩
    go_wp2
    go_ret
    exact ⟨rfl, Below.refl _ _⟩
end Go.Proofs.Ytbhdgkaeackbkaa
