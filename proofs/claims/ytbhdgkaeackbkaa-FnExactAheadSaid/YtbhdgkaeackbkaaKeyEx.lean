/- Chapter 3's exact laws over one key, two keys, one list, a list and a key: walked. -/
import Derived.Test.YtbhdgkaeackbkaaKeyO
import Derived.Test.YtbhdgkaeackbkaaKeyQ
import Derived.Test.YtbhdgkaeackbkaaKeyC
namespace Go.Proofs.Ytbhdgkaeackbkaa
open Go.ChangeShapes Go.WideShapes Go.ChangeAt Go.RowKit Go.BigFrame
set_option linter.unusedVariables false

theorem KBoxedL.of1 (w : World) (o o' : Obj) : ((w.alloc o).alloc o').heap[w.heap.size]? = some o := (Below.heap_alloc _ _ _ (by simp)).trans (heap_alloc_new w o)
theorem lkey_load {w : World} {g o : Nat} {k : K2} (hc : w.cell? ⟨g, o, none⟩ = some (.int .i64 k.1) ∧ w.cell? ⟨g, o + 1, none⟩ = some (.int .i64 k.2)) {w' : World} (hg : g < w.heap.size) (hb : Below w.heap.size w w') :
    (loadVar 40 ⟨g, o, none⟩).run Try.prog w' = .ok (kv k) w' := by
  refine run_loadVar_mid w' g o 40 [.int .i64 k.1, .int .i64 k.2] _ (fun j v hj => ?_) Try.underlying40 rfl (by kernel_rfl)
  have hj2 : j < 2 := by have := (List.getElem?_eq_some_iff.1 hj).1; simpa using this
  rcases (by omega : j = 0 ∨ j = 1) with rfl | rfl
  · rw [hb.cell (p := ⟨g, o + 0, none⟩) hg]
    simpa using hc.1.trans (by simpa using hj)
  · rw [hb.cell (p := ⟨g, o + 1, none⟩) hg]
    simpa using hc.2.trans (by simpa using hj)
theorem exactkeyok_walk (k : K2) (w : World) : Calls Try.prog 6 #[kv k] w fun e w' => e = .returned (.bool true) ∧ Below w.heap.size w w' := by
  have HB := Lib.hid (fun o => (Below.refl w.heap.size w).alloc (Nat.le_refl _) o)
  have HT := Lib.hid (fun w' => tokey_any k w')
  have HS := Lib.hid (fun w' => skeyok_any k w')
  have HI := Lib.hid (fun w' => ikeyok_any k w')
  generalize keyOkB k = b at *
  obtain ⟨n, s⟩ := k
  unfold kv at *
  dsimp only at *
  have HW := Lib.hid (fun w' (h : Below (w.heap.size + 1) (w.alloc (.cells #[.int .i64 n, .int .i64 s] 40)) w') => And.intro (h.cell (p := ⟨w.heap.size, 0, none⟩) (by simp)) (h.cell (p := ⟨w.heap.size, 1, none⟩) (by simp)))
  go_enter Try.func6, Try.ntmps6
  go_wp2_with fail
  have hb0 := HB.out (.cells #[.int .i64 n, .int .i64 s] 40)
  refine (HT.out _).mono ?_
  rintro e w1 ⟨rfl, hb1⟩
  go_wp2_with fail
  refine (HS.out _).mono ?_
  rintro e w2 ⟨rfl, hb2⟩
  have hb12 := hb1.trans (hb2.mono hb1.size)
  have hc := HW.out _ (by simpa using hb12)
  have c0 : w2.cell? ⟨w.heap.size, 0, none⟩ = some (.int .i64 n) := by rw [hc.1]; simp
  have c1 : w2.cell? ⟨w.heap.size, 1, none⟩ = some (.int .i64 s) := by rw [hc.2]; simp
  have HB2 := Lib.hid (hb0.trans (hb12.mono (by simp)))
  clear hb0 hb1 hb2 hb12 hc HW
  go_wp2_with fail
  refine (HT.out _).mono ?_
  rintro e w3 ⟨rfl, hb3⟩
  go_wp2_with fail
  refine (HI.out _).mono ?_
  rintro e w4 ⟨rfl, hb4⟩
  have HB4 := Lib.hid (HB2.out.trans ((hb3.trans (hb4.mono hb3.size)).mono HB2.out.size))
  clear hb3 hb4 c0 c1
  cases b <;>
  · go_wp2
    go_ret
    exact ⟨rfl, HB4.out⟩
set_option maxHeartbeats 1000000 in
theorem exactahead_walk (p q : K2) (w : World) : Calls Try.prog 7 #[kv p, kv q] w fun e w' => e = .returned (.bool true) ∧ Below w.heap.size w w' := by
  have T1 := Lib.hid (fun w' => tokey_any p w')
  have T2 := Lib.hid (fun w' => tokey_any q w')
  have SA := Lib.hid (fun w' => sahead_any p q w')
  have IA := Lib.hid (fun w' => iahead_any p q w')
  generalize aheadB p q = b at *
  obtain ⟨n, s⟩ := p
  obtain ⟨m, t⟩ := q
  have hW1 : ∀ w', Below (w.heap.size + 2) ((w.alloc (.cells #[.int .i64 n, .int .i64 s] 40)).alloc (.cells #[.int .i64 m, .int .i64 t] 40)) w' → (loadVar 40 ⟨w.heap.size, 0, none⟩).run Try.prog w' = .ok (kv (n, s)) w' := fun w' hb' =>
    lkey_load (k := (n, s)) (g := w.heap.size) (o := 0) (w := (w.alloc (.cells #[.int .i64 n, .int .i64 s] 40)).alloc (.cells #[.int .i64 m, .int .i64 t] 40)) (by have h := KBoxedL.of1 w (.cells #[.int .i64 n, .int .i64 s] 40) (.cells #[.int .i64 m, .int .i64 t] 40); simp [World.cell?, h]) (by simp; omega) (by simpa using hb')
  have hW2 : ∀ w', Below (w.heap.size + 2) ((w.alloc (.cells #[.int .i64 n, .int .i64 s] 40)).alloc (.cells #[.int .i64 m, .int .i64 t] 40)) w' → (loadVar 40 ⟨w.heap.size + 1, 0, none⟩).run Try.prog w' = .ok (kv (m, t)) w' := fun w' hb' =>
    lkey_load (k := (m, t)) (g := w.heap.size + 1) (o := 0) (w := (w.alloc (.cells #[.int .i64 n, .int .i64 s] 40)).alloc (.cells #[.int .i64 m, .int .i64 t] 40)) (by have h := heap_alloc_new (w.alloc (.cells #[.int .i64 n, .int .i64 s] 40)) (.cells #[.int .i64 m, .int .i64 t] 40); rw [World.size_alloc] at h; constructor <;> (simp only [World.cell?, h]; rfl)) (by simp) (by simpa using hb')
  have hsz : ((w.alloc (.cells #[.int .i64 n, .int .i64 s] 40)).alloc (.cells #[.int .i64 m, .int .i64 t] 40)).heap.size = w.heap.size + 2 := by simp
  have hB0 : Below w.heap.size w ((w.alloc (.cells #[.int .i64 n, .int .i64 s] 40)).alloc (.cells #[.int .i64 m, .int .i64 t] 40)) := ((Below.refl _ w).alloc (Nat.le_refl _) _).alloc (by simp) _
  have W1 := Lib.hid hW1; have W2 := Lib.hid hW2; have HB0 := Lib.hid hB0; have HSZ := Lib.hid hsz; clear hW1 hW2 hB0 hsz
  unfold kv at *
  dsimp only at *
  go_enter Try.func7, Try.ntmps7
  go_wp2
  generalize (w.alloc (.cells #[.int .i64 n, .int .i64 s] 40)).alloc (.cells #[.int .i64 m, .int .i64 t] 40) = W at *
  have L1 : ∀ w', Below W.heap.size W w' → (loadVar 40 ⟨w.heap.size, 0, none⟩).run Try.prog w' = .ok (.agg #[.int .i64 n, .int .i64 s]) w' := fun w' h => W1.out w' (by rw [← HSZ.out]; exact h)
  have L2 : ∀ w', Below W.heap.size W w' → (loadVar 40 ⟨w.heap.size + 1, 0, none⟩).run Try.prog w' = .ok (.agg #[.int .i64 m, .int .i64 t]) w' := fun w' h => W2.out w' (by rw [← HSZ.out]; exact h)
  refine wp_region_below W (by kernel_rfl) (by kernel_rfl) (Below.refl _ _) ?_
  repeat (first
    | go_big_quiet_skip
    | (go_big_quiet_want
       first
         | (go_big_quiet_op; go_big_quiet_on)
         | (refine q_load 40 _ _ _ rfl rfl L1 ?_; simp only [Act.put, List.setIfInBounds_toArray, List.set_cons_zero, List.set_cons_succ]; go_big_quiet_on)
         | (refine q_load 40 _ _ _ rfl rfl L2 ?_; simp only [Act.put, List.setIfInBounds_toArray, List.set_cons_zero, List.set_cons_succ]; go_big_quiet_on)
         | (go_big_quiet_op; refine ⟨_, fun _ _ => rfl, ?_⟩; go_big_quiet_on)
         | (go_big_quiet_op; apply Exists.intro; refine ⟨fun w' hw' => ?_, ?_⟩
            · first
              | (with_reducible refine (T1.out w').mono ?_
                 rintro e w2 ⟨rfl, hb2⟩
                 exact ⟨rfl, hw'.trans (hb2.mono hw'.size)⟩)
              | (with_reducible refine (T2.out w').mono ?_
                 rintro e w2 ⟨rfl, hb2⟩
                 exact ⟨rfl, hw'.trans (hb2.mono hw'.size)⟩)
              | (with_reducible refine (SA.out w').mono ?_
                 rintro e w2 ⟨rfl, hb2⟩
                 exact ⟨rfl, hw'.trans (hb2.mono hw'.size)⟩)
            go_big_quiet_on)))
  refine wpQuiet_nil ?_
  intro w2 hb2
  go_wp2
  refine wp_region_below W (by kernel_rfl) (by kernel_rfl) (hb2) ?_
  repeat (first
    | go_big_quiet_skip
    | (go_big_quiet_want
       first
         | (go_big_quiet_op; go_big_quiet_on)
         | (refine q_load 40 _ _ _ rfl rfl L1 ?_; simp only [Act.put, List.setIfInBounds_toArray, List.set_cons_zero, List.set_cons_succ]; go_big_quiet_on)
         | (refine q_load 40 _ _ _ rfl rfl L2 ?_; simp only [Act.put, List.setIfInBounds_toArray, List.set_cons_zero, List.set_cons_succ]; go_big_quiet_on)
         | (go_big_quiet_op; refine ⟨_, fun _ _ => rfl, ?_⟩; go_big_quiet_on)
         | (go_big_quiet_op; apply Exists.intro; refine ⟨fun w' hw' => ?_, ?_⟩
            · first
              | (with_reducible refine (T1.out w').mono ?_
                 rintro e w2 ⟨rfl, hb2⟩
                 exact ⟨rfl, hw'.trans (hb2.mono hw'.size)⟩)
              | (with_reducible refine (T2.out w').mono ?_
                 rintro e w2 ⟨rfl, hb2⟩
                 exact ⟨rfl, hw'.trans (hb2.mono hw'.size)⟩)
              | (with_reducible refine (IA.out w').mono ?_
                 rintro e w2 ⟨rfl, hb2⟩
                 exact ⟨rfl, hw'.trans (hb2.mono hw'.size)⟩)
            go_big_quiet_on)))
  refine wpQuiet_nil ?_
  intro w3 hb3
  have HF := Lib.hid (HB0.out.trans (hb3.mono HB0.out.size))
  clear L1 L2 T1 T2 SA IA hb2 hb3
  cases b <;>
  · go_wp2
    go_ret
    exact ⟨rfl, HF.out⟩
end Go.Proofs.Ytbhdgkaeackbkaa
