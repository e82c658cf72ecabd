/- The model's chapter 3, walked: keys that are right, that stand ahead, that rise. -/
import Derived.Test.YtbhdgkaeackbkaaDoorKeyM
import Derived.Test.YtbhdgkaeackbkaaDoorQuiet2
namespace Go.Proofs.YtbhdgkaeackbkaaDoor
open Go.ChangeShapes Go.WideShapes Go.ChangeAt Go.RowKit Go.BigFrame
set_option linter.unusedVariables false

theorem sin_any (x a b : Int) (w : World) : Calls Tryd.prog 50 #[.int .i64 x, .int .i64 a, .int .i64 b] w fun e w' => e = .returned (.bool (decide (a ≤ x) && decide (x ≤ b))) ∧ w' = w := by
  by_cases h1 : a ≤ x <;> by_cases h2 : x ≤ b
  all_goals
    go_enter Tryd.func50, Tryd.ntmps50
    go_wp2
    go_ret
    simp [h1, h2]
theorem skeyok_any (k : K2) (w : World) : Calls Tryd.prog 30 #[kv k] w fun e w' => e = .returned (.bool (keyOkB k)) ∧ Below w.heap.size w w' := by
  obtain ⟨n, s⟩ := k
  unfold keyOkB kv
  dsimp only
  have hb : ∀ o, Below w.heap.size w (w.alloc o) := fun o => (Below.refl _ _).alloc (Nat.le_refl _) _
  generalize hp : (decide (1 ≤ n) && decide (n ≤ 20)) = p
  generalize hq : (decide (1 ≤ s) && decide (s ≤ 99)) = q
  have H1 := fun w => sin_any n 1 20 w
  have H2 := fun w => sin_any s 1 99 w
  rw [hp] at H1; rw [hq] at H2
  clear hp hq
  go_enter Tryd.func30, Tryd.ntmps30
  cases p with
  | false =>
    go_wp2_with (go_at_call 50; refine (H1 _).mono ?_; rintro e w1 ⟨rfl, rfl⟩)
    go_ret
    exact ⟨by simp, hb _⟩
  | true =>
    go_wp2_with fail
    refine (H1 _).mono ?_
    rintro e w1 ⟨rfl, rfl⟩
    go_wp2_with fail
    refine (H2 _).mono ?_
    rintro e w1 ⟨rfl, rfl⟩
    go_wp2
    go_ret
    exact ⟨by simp, hb _⟩
theorem sahead_any (a b : K2) (w : World) : Calls Tryd.prog 31 #[kv a, kv b] w fun e w' => e = .returned (.bool (aheadB a b)) ∧ Below w.heap.size w w' := by
  obtain ⟨n, s⟩ := a
  obtain ⟨m, t⟩ := b
  have hb : ∀ o o', Below w.heap.size w ((w.alloc o).alloc o') := fun o o' => ((Below.refl _ _).alloc (Nat.le_refl _) _).alloc (by simp) _
  by_cases h : n = m
  · have ha : aheadB (n, s) (m, t) = decide (s < t) := by unfold aheadB; rw [if_pos h]
    rw [ha]
    unfold kv
    dsimp only
    subst h
    go_enter Tryd.func31, Tryd.ntmps31
    go_wp2
    go_ret
    exact ⟨rfl, hb _ _⟩
  · have ha : aheadB (n, s) (m, t) = decide (n < m) := by unfold aheadB; rw [if_neg h]
    rw [ha]
    unfold kv
    dsimp only
    go_enter Tryd.func31, Tryd.ntmps31
    go_wp2
    go_ret
    exact ⟨rfl, hb _ _⟩

theorem key_load {w : World} {g o : Nat} {k : K2} (hc : w.cell? ⟨g, o, none⟩ = some (.int .i64 k.1) ∧ w.cell? ⟨g, o + 1, none⟩ = some (.int .i64 k.2)) {w' : World} (hg : g < w.heap.size) (hb : Below w.heap.size w w') :
    (loadVar 43 ⟨g, o, none⟩).run Tryd.prog w' = .ok (kv k) w' := by
  refine run_loadVar_mid w' g o 43 [.int .i64 k.1, .int .i64 k.2] _ (fun j v hj => ?_) Tryd.underlying43 rfl (by kernel_rfl)
  have hj2 : j < 2 := by have := (List.getElem?_eq_some_iff.1 hj).1; simpa using this
  rcases (by omega : j = 0 ∨ j = 1) with rfl | rfl
  · rw [hb.cell (p := ⟨g, o + 0, none⟩) hg]
    simpa using hc.1.trans (by simpa using hj)
  · rw [hb.cell (p := ⟨g, o + 1, none⟩) hg]
    simpa using hc.2.trans (by simpa using hj)
def stepB (ks : List K2) (i : Nat) : Bool := keyOkB (ks.getD i (0, 0)) && (decide (i = 0) || aheadB (ks.getD (i - 1) (0, 0)) (ks.getD i (0, 0)))
def keysOkR (ks : List K2) : Bool := (List.range ks.length).all (stepB ks)
theorem stepB_false {ks : List K2} {k : Nat} (hk : k < ks.length) (h : stepB ks k = false) : keysOkR ks = false := by
  unfold keysOkR
  rw [List.all_eq_false]
  exact ⟨k, List.mem_range.2 hk, by simp [h]⟩
theorem keysR_succ (ks : List K2) (k : Nat) : (List.range (k + 1)).all (stepB ks) = ((List.range k).all (stepB ks) && stepB ks k) := by
  rw [List.range_succ, List.all_append]
  simp
set_option maxRecDepth 100000 in
theorem skeysok_any (v : Value) (ks : List K2) (w : World) (h : keysAt w v ks) (hs : ks.length ≤ 2000000) : Calls Tryd.prog 12 #[v] w fun e w' => e = .returned (.bool (keysOkR ks)) ∧ Below w.heap.size w w' := by
  obtain ⟨a, cap, rfl, hcap, hcells⟩ := h
  go_enter Tryd.func12, Tryd.ntmps12
  go_wp2
  go_loopw [3] (fun i wr => ∃ k : Nat, k ≤ ks.length ∧ i = .int .i64 k ∧ (List.range k).all (stepB ks) = true ∧ Below w.heap.size w wr) (fun i _ => ks.length - (intOf i).toNat)
  case atStart => exact ⟨0, Nat.zero_le _, rfl, rfl, Below.refl _ _⟩
  case round =>
    obtain ⟨k, hk, rfl, hall, hb⟩ := hrel
    by_cases hlt : k < ks.length
    · obtain ⟨g, off, rfl, hg, hcs⟩ := hcells.resolve_left (by omega)
      have z0 : (0 : Int) ≤ (k : Int) := by omega
      have z1 : (k : Int) < (ks.length : Int) := by omega
      have c1 := hcs k hlt
      have HK := Lib.hid (fun w => skeyok_any (ks.getD k (0, 0)) w)
      have hst : stepB ks k = (keyOkB (ks.getD k (0, 0)) && (decide (k = 0) || aheadB (ks.getD (k - 1) (0, 0)) (ks.getD k (0, 0)))) := rfl
      have hsu := keysR_succ ks k
      have HST := Lib.hid hst; clear hst
      cases hko : keyOkB (ks.getD k (0, 0)) with
      | false =>
        rw [hko] at HK HST
        have hf : keysOkR ks = false := stepB_false hlt (by rw [HST.out]; rfl)
        have HF := Lib.hid hf
        clear hcs hcells hko hf HST hsu
        generalize ks.getD k (0, 0) = kx at *
        have L1 := fun w' hb => key_load c1 (w' := w') hg hb
        clear c1
        go_wp2
        refine wp_region_below w (by kernel_rfl) (by kernel_rfl) hb ?_
        repeat (first
          | go_big_quiet_skip
          | (go_big_quiet_want
             first
               | (go_big_quiet_op; go_big_quiet_on)
               | (refine q_load 43 _ _ _ rfl rfl L1 ?_; simp only [Act.put, List.setIfInBounds_toArray, List.set_cons_zero, List.set_cons_succ]; go_big_quiet_on)
               | (go_big_quiet_op; refine ⟨_, fun _ _ => rfl, ?_⟩; go_big_quiet_on)
               | (go_big_quiet_op; apply Exists.intro; refine ⟨fun w' hw' => ?_, ?_⟩
                  · first
                    | (refine (HK.out w').mono ?_
                       rintro e w2 ⟨rfl, hb2⟩
                       exact ⟨rfl, hw'.trans (hb2.mono hw'.size)⟩)
                  go_big_quiet_on)))
        refine wpQuiet_nil ?_
        intro w2 hb2
        clear L1 HK hb
        go_wp2
        go_ret
        exact ⟨by rw [HF.out]; rfl, hb2⟩
      | true =>
        rw [hko] at HK HST
        by_cases hk0 : k = 0
        · subst hk0
          have ht : (List.range (0 + 1)).all (stepB ks) = true := by rw [hsu, HST.out]; rfl
          have HT := Lib.hid ht
          clear hcs hcells hko ht HST hsu hall
          generalize ks.getD 0 (0, 0) = kx at *
          have L1 := fun w' hb => key_load c1 (w' := w') hg hb
          clear c1
          have y0 : ¬ (0 : Int) < ((0 : Nat) : Int) := by omega
          simp only [Nat.zero_mul, Nat.add_zero] at L1
          go_wp2
          refine wp_region_below w (by kernel_rfl) (by kernel_rfl) hb ?_
          repeat (first
            | go_big_quiet_skip
            | (go_big_quiet_want
               first
                 | (go_big_quiet_op; go_big_quiet_on)
                 | (refine q_load 43 _ _ _ rfl rfl L1 ?_; simp only [Act.put, List.setIfInBounds_toArray, List.set_cons_zero, List.set_cons_succ]; go_big_quiet_on)
                 | (go_big_quiet_op; refine ⟨_, fun _ _ => rfl, ?_⟩; go_big_quiet_on)
                 | (go_big_quiet_op; apply Exists.intro; refine ⟨fun w' hw' => ?_, ?_⟩
                    · first
                      | (refine (HK.out w').mono ?_
                         rintro e w2 ⟨rfl, hb2⟩
                         exact ⟨rfl, hw'.trans (hb2.mono hw'.size)⟩)
                    go_big_quiet_on)))
          refine wpQuiet_nil ?_
          intro w2 hb2
          clear L1 HK hb
          go_wp2
          exact ⟨⟨1, by omega, by go_num, HT.out, hb2⟩, by simp [intOf]; omega⟩
        · have ha := hcs (k - 1) (by omega)
          rw [show off + (k - 1) * 2 = off + (k - 1) * 2 from rfl] at ha
          have HA := Lib.hid (fun w => sahead_any (ks.getD (k - 1) (0, 0)) (ks.getD k (0, 0)) w)
          have d0 : decide (k = 0) = false := by simpa using hk0
          rw [d0] at HST
          have y0 : (0 : Int) < (k : Int) := by omega
          have yk : 0 < k := by omega
          have y1 : (0 : Int) ≤ (k : Int) - 1 := by omega
          have y2 : (k : Int) - 1 < (ks.length : Int) := by omega
          have ew : IntKind.i64.wrap ((k : Int) - 1) = (k : Int) - 1 := IntWalk.i64_in _ (by omega)
          have et : ((k : Int) - 1).toNat = k - 1 := by omega
          cases hah : aheadB (ks.getD (k - 1) (0, 0)) (ks.getD k (0, 0)) with
          | false =>
            rw [hah] at HA HST
            have hf : keysOkR ks = false := stepB_false hlt (by rw [HST.out]; rfl)
            have HF := Lib.hid hf
            clear hcs hcells hko hf HST hsu hah
            generalize ks.getD k (0, 0) = kx at *
            generalize ks.getD (k - 1) (0, 0) = ky at *
            have L1 := fun w' hb => key_load c1 (w' := w') hg hb
            have L2 := fun w' hb => key_load ha (w' := w') hg hb
            clear c1 ha
            go_wp2
            refine wp_region_below w (by kernel_rfl) (by kernel_rfl) hb ?_
            repeat (first
              | go_big_quiet_skip
              | (go_big_quiet_want
                 first
                   | (go_big_quiet_op; go_big_quiet_on)
                   | (refine q_load 43 _ _ _ rfl rfl L1 ?_; simp only [Act.put, List.setIfInBounds_toArray, List.set_cons_zero, List.set_cons_succ]; go_big_quiet_on)
                   | (refine q_load 43 _ _ _ rfl rfl L2 ?_; simp only [Act.put, List.setIfInBounds_toArray, List.set_cons_zero, List.set_cons_succ]; go_big_quiet_on)
                   | (go_big_quiet_op; refine ⟨_, fun _ _ => rfl, ?_⟩; go_big_quiet_on)
                   | (go_big_quiet_op; apply Exists.intro; refine ⟨fun w' hw' => ?_, ?_⟩
                      · first
                        | (refine (HK.out w').mono ?_
                           rintro e w2 ⟨rfl, hb2⟩
                           exact ⟨rfl, hw'.trans (hb2.mono hw'.size)⟩)
                        | (refine (HA.out w').mono ?_
                           rintro e w2 ⟨rfl, hb2⟩
                           exact ⟨rfl, hw'.trans (hb2.mono hw'.size)⟩)
                      go_big_quiet_on)))
            refine wpQuiet_nil ?_
            intro w2 hb2
            clear L1 L2 HK HA hb
            go_wp2
            go_ret
            exact ⟨by rw [HF.out]; rfl, hb2⟩
          | true =>
            rw [hah] at HA HST
            have ht : (List.range (k + 1)).all (stepB ks) = true := by rw [hsu, hall, HST.out]; rfl
            have HT := Lib.hid ht
            clear hcs hcells hko ht HST hsu hah hall
            generalize ks.getD k (0, 0) = kx at *
            generalize ks.getD (k - 1) (0, 0) = ky at *
            have L1 := fun w' hb => key_load c1 (w' := w') hg hb
            have L2 := fun w' hb => key_load ha (w' := w') hg hb
            clear c1 ha
            go_wp2
            refine wp_region_below w (by kernel_rfl) (by kernel_rfl) hb ?_
            repeat (first
              | go_big_quiet_skip
              | (go_big_quiet_want
                 first
                   | (go_big_quiet_op; go_big_quiet_on)
                   | (refine q_load 43 _ _ _ rfl rfl L1 ?_; simp only [Act.put, List.setIfInBounds_toArray, List.set_cons_zero, List.set_cons_succ]; go_big_quiet_on)
                   | (refine q_load 43 _ _ _ rfl rfl L2 ?_; simp only [Act.put, List.setIfInBounds_toArray, List.set_cons_zero, List.set_cons_succ]; go_big_quiet_on)
                   | (go_big_quiet_op; refine ⟨_, fun _ _ => rfl, ?_⟩; go_big_quiet_on)
                   | (go_big_quiet_op; apply Exists.intro; refine ⟨fun w' hw' => ?_, ?_⟩
                      · first
                        | (refine (HK.out w').mono ?_
                           rintro e w2 ⟨rfl, hb2⟩
                           exact ⟨rfl, hw'.trans (hb2.mono hw'.size)⟩)
                        | (refine (HA.out w').mono ?_
                           rintro e w2 ⟨rfl, hb2⟩
                           exact ⟨rfl, hw'.trans (hb2.mono hw'.size)⟩)
                      go_big_quiet_on)))
            refine wpQuiet_nil ?_
            intro w2 hb2
            clear L1 L2 HK HA hb
            go_wp2
            exact ⟨⟨k + 1, by omega, by go_num, HT.out, hb2⟩, by simp [intOf]; omega⟩
    · obtain rfl : k = ks.length := by omega
      have HF := Lib.hid hall
      go_wp2
      go_ret
      exact ⟨by unfold keysOkR; rw [HF.out]; rfl, hb⟩
end Go.Proofs.YtbhdgkaeackbkaaDoor
