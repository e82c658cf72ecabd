/- The program's chapter 3, walked: keys that are right, that stand ahead, that rise; whether a key is there. -/
import Derived.Test.YtbkeggklfaepnaaKeyS0
import Derived.Test.YtbkeggklfaepnaaKeySp
import Derived.Test.YtbkeggklfaepnaaQuiet2
namespace Go.Proofs.Ytbkeggklfaepnaa
open Go.ChangeShapes Go.WideShapes Go.ChangeAt Go.RowKit Go.BigFrame
set_option linter.unusedVariables false

theorem ikeyok_any (k : K2) (w : World) : Calls Try.prog 43 #[kv k] w fun e w' => e = .returned (.bool (keyOkB k)) ∧ Below w.heap.size w w' := by
  obtain ⟨n, s⟩ := k
  unfold keyOkB kv
  dsimp only
  have hb : ∀ o, Below w.heap.size w (w.alloc o) := fun o => (Below.refl _ _).alloc (Nat.le_refl _) _
  by_cases h1 : 1 ≤ n
  · by_cases h2 : n ≤ 20
    · by_cases h3 : 1 ≤ s
      · by_cases h4 : s ≤ 99
        · go_enter Try.func43, Try.ntmps43
          go_wp2
          go_ret
          exact ⟨by simp [h1, h2, h3, h4], hb _⟩
        · go_enter Try.func43, Try.ntmps43
          go_wp2
          go_ret
          exact ⟨by simp [h1, h2, h3, h4], hb _⟩
      · go_enter Try.func43, Try.ntmps43
        go_wp2
        go_ret
        exact ⟨by simp [h1, h2, h3]; omega, hb _⟩
    · go_enter Try.func43, Try.ntmps43
      go_wp2
      go_ret
      exact ⟨by simp [h1, h2]; omega, hb _⟩
  · go_enter Try.func43, Try.ntmps43
    go_wp2
    go_ret
    exact ⟨by simp [h1]; omega, hb _⟩
theorem iahead_any (a b : K2) (w : World) : Calls Try.prog 53 #[kv a, kv b] w fun e w' => e = .returned (.bool (aheadB a b)) ∧ Below w.heap.size w w' := by
  obtain ⟨n, s⟩ := a
  obtain ⟨m, t⟩ := b
  have hb : ∀ o o', Below w.heap.size w ((w.alloc o).alloc o') := fun o o' => ((Below.refl _ _).alloc (Nat.le_refl _) _).alloc (by simp) _
  by_cases h : n = m
  · have ha : aheadB (n, s) (m, t) = decide (s < t) := by unfold aheadB; rw [if_pos h]
    rw [ha]
    unfold kv
    dsimp only
    subst h
    go_enter Try.func53, Try.ntmps53
    go_wp2
    go_ret
    exact ⟨rfl, hb _ _⟩
  · have ha : aheadB (n, s) (m, t) = decide (n < m) := by unfold aheadB; rw [if_neg h]
    rw [ha]
    unfold kv
    dsimp only
    go_enter Try.func53, Try.ntmps53
    go_wp2
    go_ret
    exact ⟨rfl, hb _ _⟩
set_option maxRecDepth 100000 in
theorem ikeysok_any (v : Value) (ks : List K2) (w : World) (h : keysAt w v ks) (hs : ks.length ≤ 2000000) : Calls Try.prog 39 #[v] w fun e w' => e = .returned (.bool (keysOkR ks)) ∧ Below w.heap.size w w' := by
  obtain ⟨a, cap, rfl, hcap, hcells⟩ := h
  go_enter Try.func39, Try.ntmps39
  go_wp2
  go_loopw [7] (fun i wr => ∃ k : Nat, k ≤ ks.length ∧ i = .int .i64 k ∧ (List.range k).all (stepB ks) = true ∧ Below w.heap.size w wr) (fun i _ => ks.length - (intOf i).toNat)
  case atStart => exact ⟨0, Nat.zero_le _, rfl, rfl, Below.refl _ _⟩
  case round =>
    obtain ⟨k, hk, rfl, hall, hb⟩ := hrel
    by_cases hlt : k < ks.length
    · obtain ⟨g, off, rfl, hg, hcs⟩ := hcells.resolve_left (by omega)
      have z0 : (0 : Int) ≤ (k : Int) := by omega
      have z1 : (k : Int) < (ks.length : Int) := by omega
      have c1 := hcs k hlt
      have hst : stepB ks k = (keyOkB (ks.getD k (0, 0)) && (decide (k = 0) || aheadB (ks.getD (k - 1) (0, 0)) (ks.getD k (0, 0)))) := rfl
      have hsu := keysR_succ ks k
      rw [hst, hall] at hsu
      have HF := Lib.hid (fun (h : stepB ks k = false) => stepB_false hlt h)
      rw [hst] at HF
      have c0 : 0 < k → _ := fun h => hcs (k - 1) (by omega)
      rename_i wr
      have C1 : wr.cell? ⟨g, off + k * 2, none⟩ = some (.int .i64 (ks.getD k (0, 0)).1) := (hb.cell (p := ⟨g, off + k * 2, none⟩) hg).trans c1.1
      have C2 : wr.cell? ⟨g, off + k * 2 + 1, none⟩ = some (.int .i64 (ks.getD k (0, 0)).2) := (hb.cell (p := ⟨g, off + k * 2 + 1, none⟩) hg).trans c1.2
      generalize ks.getD k (0, 0) = kx at *
      obtain ⟨p, q⟩ := kx
      dsimp only at C1 C2
      have hb1 : Below w.heap.size w (wr.alloc (.cells #[.int .i64 p, .int .i64 q] 26)) := hb.alloc hb.size _
      have LK : ∀ w', Below (wr.heap.size + 1) (wr.alloc (.cells #[.int .i64 p, .int .i64 q] 26)) w' → (loadVar 26 ⟨wr.heap.size, 0, none⟩).run Try.prog w' = .ok (kv (p, q)) w' := fun w' hb' =>
        key_load (k := (p, q)) (w := wr.alloc (.cells #[.int .i64 p, .int .i64 q] 26)) (g := wr.heap.size) (o := 0) ⟨by simp, by simp⟩ (by simp) (by simpa using hb')
      have LK0 := Lib.hid LK; clear LK
      have HSU := Lib.hid hsu; have C0 := Lib.hid c0; clear hsu c0 hst c1 hcells hcs
      have HK := Lib.hid (fun w => ikeyok_any (p, q) w)
      have HB1 := Lib.hid hb1; clear hb1
      go_wp2_with fail
      refine (HK.out _).mono ?_
      rintro e w2 ⟨rfl, hb2⟩
      have hbw2 := HB1.out.trans (hb2.mono HB1.out.size)
      have LK : ∀ w', Below w2.heap.size w2 w' → (loadVar 26 ⟨wr.heap.size, 0, none⟩).run Try.prog w' = .ok (kv (p, q)) w' := fun w' hb' => LK0.out w' ((by simpa using hb2 : Below (wr.heap.size + 1) _ w2).trans (hb'.mono (by have := hb2.size; simp at this; omega)))
      clear LK0 C1 C2 HK hb2 HB1
      cases hko : keyOkB (p, q) with
      | false =>
        rw [hko] at HF
        go_wp2
        go_ret
        exact ⟨by rw [HF.out rfl]; rfl, hbw2⟩
      | true =>
        rw [hko] at HF HSU
        by_cases hk0 : k = 0
        · subst hk0
          have y0 : ¬ (0 : Int) < ((0 : Nat) : Int) := by omega
          clear HF C0
          go_wp2
          refine wp_region_below w2 (by kernel_rfl) (by kernel_rfl) (Below.refl _ _) ?_
          repeat (first
            | go_big_quiet_skip
            | (go_big_quiet_want
               first
                 | (go_big_quiet_op; go_big_quiet_on)
                 | (refine q_load 26 _ _ _ rfl rfl LK ?_; simp only [Act.put, List.setIfInBounds_toArray, List.set_cons_zero, List.set_cons_succ]; go_big_quiet_on)
                 | (go_big_quiet_op; refine ⟨_, fun _ _ => rfl, ?_⟩; go_big_quiet_on)
                 | (go_big_quiet_op; go_big_quiet_on)))
          refine wpQuiet_nil ?_
          intro w3 hb3
          have hbw3 := hbw2.trans (hb3.mono hbw2.size)
          clear LK
          go_wp2
          exact ⟨⟨1, by omega, by go_num, by rw [HSU.out]; rfl, hbw3⟩, by simp [intOf]; omega⟩
        · have ha := C0.out (by omega)
          have L2 : ∀ w', Below w2.heap.size w2 w' → (loadVar 26 ⟨g, off + (k - 1) * 2, none⟩).run Try.prog w' = .ok (kv (ks.getD (k - 1) (0, 0))) w' := fun w' hb' => key_load ha hg (hbw2.trans (hb'.mono hbw2.size))
          generalize ks.getD (k - 1) (0, 0) = ky at *
          have HA := Lib.hid (fun w => iahead_any ky (p, q) w)
          have d0 : decide (k = 0) = false := by simpa using hk0
          rw [d0] at HF HSU
          have y0 : (0 : Int) < (k : Int) := by omega
          have yk : 0 < k := by omega
          have y1 : (0 : Int) ≤ (k : Int) - 1 := by omega
          have y2 : (k : Int) - 1 < (ks.length : Int) := by omega
          have ew : IntKind.i64.wrap ((k : Int) - 1) = (k : Int) - 1 := IntWalk.i64_in _ (by omega)
          have et : ((k : Int) - 1).toNat = k - 1 := by omega
          clear C0 ha
          cases hah : aheadB ky (p, q) with
          | false =>
            rw [hah] at HA HF
            have HF2 := HF.out rfl
            have HF3 := Lib.hid HF2; clear HF2 HF HSU
            go_wp2
            refine wp_region_below w2 (by kernel_rfl) (by kernel_rfl) (Below.refl _ _) ?_
            repeat (first
              | go_big_quiet_skip
              | (go_big_quiet_want
                 first
                   | (go_big_quiet_op; go_big_quiet_on)
                   | (refine q_load 26 _ _ _ rfl rfl L2 ?_; simp only [Act.put, List.setIfInBounds_toArray, List.set_cons_zero, List.set_cons_succ]; go_big_quiet_on)
                   | (refine q_load 26 _ _ _ rfl rfl LK ?_; simp only [Act.put, List.setIfInBounds_toArray, List.set_cons_zero, List.set_cons_succ]; go_big_quiet_on)
                   | (go_big_quiet_op; refine ⟨_, fun _ _ => rfl, ?_⟩; go_big_quiet_on)
                   | (go_big_quiet_op; apply Exists.intro; refine ⟨fun w' hw' => ?_, ?_⟩
                      · first
                        | (with_reducible refine (HA.out w').mono ?_
                           rintro e w2 ⟨rfl, hb2⟩
                           exact ⟨rfl, hw'.trans (hb2.mono hw'.size)⟩)
                      go_big_quiet_on)))
            refine wpQuiet_nil ?_
            intro w3 hb3
            have hbw3 := hbw2.trans (hb3.mono hbw2.size)
            clear LK L2 HA
            go_wp2
            go_ret
            exact ⟨by rw [HF3.out]; rfl, hbw3⟩
          | true =>
            rw [hah] at HA HSU
            clear HF
            go_wp2
            refine wp_region_below w2 (by kernel_rfl) (by kernel_rfl) (Below.refl _ _) ?_
            repeat (first
              | go_big_quiet_skip
              | (go_big_quiet_want
                 first
                   | (go_big_quiet_op; go_big_quiet_on)
                   | (refine q_load 26 _ _ _ rfl rfl L2 ?_; simp only [Act.put, List.setIfInBounds_toArray, List.set_cons_zero, List.set_cons_succ]; go_big_quiet_on)
                   | (refine q_load 26 _ _ _ rfl rfl LK ?_; simp only [Act.put, List.setIfInBounds_toArray, List.set_cons_zero, List.set_cons_succ]; go_big_quiet_on)
                   | (go_big_quiet_op; refine ⟨_, fun _ _ => rfl, ?_⟩; go_big_quiet_on)
                   | (go_big_quiet_op; apply Exists.intro; refine ⟨fun w' hw' => ?_, ?_⟩
                      · first
                        | (with_reducible refine (HA.out w').mono ?_
                           rintro e w2 ⟨rfl, hb2⟩
                           exact ⟨rfl, hw'.trans (hb2.mono hw'.size)⟩)
                      go_big_quiet_on)))
            refine wpQuiet_nil ?_
            intro w3 hb3
            have hbw3 := hbw2.trans (hb3.mono hbw2.size)
            clear LK L2 HA
            go_wp2
            exact ⟨⟨k + 1, by omega, by go_num, by rw [HSU.out]; rfl, hbw3⟩, by simp [intOf]; omega⟩
    · obtain rfl : k = ks.length := by omega
      have HF := Lib.hid hall
      go_wp2
      go_ret
      exact ⟨by unfold keysOkR; rw [HF.out]; rfl, hb⟩
end Go.Proofs.Ytbkeggklfaepnaa
