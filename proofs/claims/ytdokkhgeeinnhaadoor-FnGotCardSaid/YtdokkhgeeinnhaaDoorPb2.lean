/- What the laws lean on (own lemmas and walks of the called functions). -/
import Derived.Test.YtdokkhgeeinnhaaDoorPb1
set_option linter.unusedVariables false
set_option linter.unusedSimpArgs false
namespace Go.Proofs.YtdokkhgeeinnhaaDoor
open Go.ChangeShapes Go.WideShapes Go.ChangeAt Go.RowKit Go.BigFrame
set_option linter.unusedVariables false

theorem ikeyok_any (k : K2) (w : World) : Calls Tryd.prog 71 #[kv k] w fun e w' => e = .returned (.bool (keyOkB k)) ∧ Below w.heap.size w w' := by
  obtain ⟨n, s⟩ := k
  unfold keyOkB kv
  dsimp only
  have hb : ∀ o, Below w.heap.size w (w.alloc o) := fun o => (Below.refl _ _).alloc (Nat.le_refl _) _
  by_cases h1 : 1 ≤ n
  · by_cases h2 : n ≤ 20
    · by_cases h3 : 1 ≤ s
      · by_cases h4 : s ≤ 99
        · go_enter Tryd.func71, Tryd.ntmps71
          go_wp2
          go_ret
          exact ⟨by simp [h1, h2, h3, h4], hb _⟩
        · go_enter Tryd.func71, Tryd.ntmps71
          go_wp2
          go_ret
          exact ⟨by simp [h1, h2, h3, h4], hb _⟩
      · go_enter Tryd.func71, Tryd.ntmps71
        go_wp2
        go_ret
        exact ⟨by simp [h1, h2, h3]; omega, hb _⟩
    · go_enter Tryd.func71, Tryd.ntmps71
      go_wp2
      go_ret
      exact ⟨by simp [h1, h2]; omega, hb _⟩
  · go_enter Tryd.func71, Tryd.ntmps71
    go_wp2
    go_ret
    exact ⟨by simp [h1]; omega, hb _⟩
theorem iahead_any (a b : K2) (w : World) : Calls Tryd.prog 72 #[kv a, kv b] w fun e w' => e = .returned (.bool (aheadB a b)) ∧ Below w.heap.size w w' := by
  obtain ⟨n, s⟩ := a
  obtain ⟨m, t⟩ := b
  have hb : ∀ o o', Below w.heap.size w ((w.alloc o).alloc o') := fun o o' => ((Below.refl _ _).alloc (Nat.le_refl _) _).alloc (by simp) _
  by_cases h : n = m
  · have ha : aheadB (n, s) (m, t) = decide (s < t) := by unfold aheadB; rw [if_pos h]
    rw [ha]
    unfold kv
    dsimp only
    subst h
    go_enter Tryd.func72, Tryd.ntmps72
    go_wp2
    go_ret
    exact ⟨rfl, hb _ _⟩
  · have ha : aheadB (n, s) (m, t) = decide (n < m) := by unfold aheadB; rw [if_neg h]
    rw [ha]
    unfold kv
    dsimp only
    go_enter Tryd.func72, Tryd.ntmps72
    go_wp2
    go_ret
    exact ⟨rfl, hb _ _⟩
set_option maxRecDepth 100000 in
theorem ikeysok_any (v : Value) (ks : List K2) (w : World) (h : keysAt w v ks) (hs : ks.length ≤ 2000000) : Calls Tryd.prog 50 #[v] w fun e w' => e = .returned (.bool (keysOkR ks)) ∧ Below w.heap.size w w' := by
  obtain ⟨a, cap, rfl, hcap, hcells⟩ := h
  go_enter Tryd.func50, Tryd.ntmps50
  go_wp2
  go_loopw [7] (fun i wr => ∃ k : Nat, k ≤ ks.length ∧ i = .int .i64 k ∧ (List.range k).all (stepB ks) = true ∧ Below w.heap.size w wr) (fun i _ => ks.length - (intOf i).toNat)
  case atStart => exact ⟨0, Nat.zero_le _, rfl, rfl, Below.refl _ _⟩
  case round =>
    obtain ⟨k, hk, rfl, hall, hb⟩ := hrel
    by_cases hlt : k < ks.length
    · obtain ⟨g, off, rfl, hg, hcs⟩ := hcells.resolve_left (by omega)
      have z0 : (0 : Int) ≤ (k : Int) := by omega
      have z1 : (k : Int) < (ks.length : Int) := by omega
      have c1 := hcs k hlt
      have hst : stepB ks k = (keyOkB (ks.getD k (0, 0)) && (decide (k = 0) || aheadB (ks.getD (k - 1) (0, 0)) (ks.getD k (0, 0)))) := rfl
      have hsu := keysR_succ ks k
      rw [hst, hall] at hsu
      have HF := Lib.hid (fun (h : stepB ks k = false) => stepB_false hlt h)
      rw [hst] at HF
      have c0 : 0 < k → _ := fun h => hcs (k - 1) (by omega)
      rename_i wr
      have C1 : wr.cell? ⟨g, off + k * 2, none⟩ = some (.int .i64 (ks.getD k (0, 0)).1) := (hb.cell (p := ⟨g, off + k * 2, none⟩) hg).trans c1.1
      have C2 : wr.cell? ⟨g, off + k * 2 + 1, none⟩ = some (.int .i64 (ks.getD k (0, 0)).2) := (hb.cell (p := ⟨g, off + k * 2 + 1, none⟩) hg).trans c1.2
      generalize ks.getD k (0, 0) = kx at *
      obtain ⟨p, q⟩ := kx
      dsimp only at C1 C2
      have hb1 : Below w.heap.size w (wr.alloc (.cells #[.int .i64 p, .int .i64 q] 50)) := hb.alloc hb.size _
      have LK : ∀ w', Below (wr.heap.size + 1) (wr.alloc (.cells #[.int .i64 p, .int .i64 q] 50)) w' → (loadVar 50 ⟨wr.heap.size, 0, none⟩).run Tryd.prog w' = .ok (kv (p, q)) w' := fun w' hb' =>
        key_load (k := (p, q)) (w := wr.alloc (.cells #[.int .i64 p, .int .i64 q] 50)) (g := wr.heap.size) (o := 0) ⟨by simp, by simp⟩ (by simp) (by simpa using hb')
      have LK0 := Lib.hid LK; clear LK
      have HSU := Lib.hid hsu; have C0 := Lib.hid c0; clear hsu c0 hst c1 hcells hcs
      have HK := Lib.hid (fun w => ikeyok_any (p, q) w)
      have HB1 := Lib.hid hb1; clear hb1
      go_wp2_with fail
      refine (HK.out _).mono ?_
      rintro e w2 ⟨rfl, hb2⟩
      have hbw2 := HB1.out.trans (hb2.mono HB1.out.size)
      have LK : ∀ w', Below w2.heap.size w2 w' → (loadVar 50 ⟨wr.heap.size, 0, none⟩).run Tryd.prog w' = .ok (kv (p, q)) w' := fun w' hb' => LK0.out w' ((by simpa using hb2 : Below (wr.heap.size + 1) _ w2).trans (hb'.mono (by have := hb2.size; simp at this; omega)))
      clear LK0 C1 C2 HK hb2 HB1
      cases hko : keyOkB (p, q) with
      | false =>
        rw [hko] at HF
        go_wp2
        go_ret
        exact ⟨by rw [HF.out rfl]; rfl, hbw2⟩
      | true =>
        rw [hko] at HF HSU
        by_cases hk0 : k = 0
        · subst hk0
          have y0 : ¬ (0 : Int) < ((0 : Nat) : Int) := by omega
          clear HF C0
          go_wp2
          refine wp_region_below w2 (by kernel_rfl) (by kernel_rfl) (Below.refl _ _) ?_
          repeat (first
            | go_big_quiet_skip
            | (go_big_quiet_want
               first
                 | (go_big_quiet_op; go_big_quiet_on)
                 | (refine q_load 50 _ _ _ rfl rfl LK ?_; simp only [Act.put, List.setIfInBounds_toArray, List.set_cons_zero, List.set_cons_succ]; go_big_quiet_on)
                 | (go_big_quiet_op; refine ⟨_, fun _ _ => rfl, ?_⟩; go_big_quiet_on)
                 | (go_big_quiet_op; go_big_quiet_on)))
          refine wpQuiet_nil ?_
          intro w3 hb3
          have hbw3 := hbw2.trans (hb3.mono hbw2.size)
          clear LK
          go_wp2
          exact ⟨⟨1, by omega, by go_num, by rw [HSU.out]; rfl, hbw3⟩, by simp [intOf]; omega⟩
        · have ha := C0.out (by omega)
          have L2 : ∀ w', Below w2.heap.size w2 w' → (loadVar 50 ⟨g, off + (k - 1) * 2, none⟩).run Tryd.prog w' = .ok (kv (ks.getD (k - 1) (0, 0))) w' := fun w' hb' => key_load ha hg (hbw2.trans (hb'.mono hbw2.size))
          generalize ks.getD (k - 1) (0, 0) = ky at *
          have HA := Lib.hid (fun w => iahead_any ky (p, q) w)
          have d0 : decide (k = 0) = false := by simpa using hk0
          rw [d0] at HF HSU
          have y0 : (0 : Int) < (k : Int) := by omega
          have yk : 0 < k := by omega
          have y1 : (0 : Int) ≤ (k : Int) - 1 := by omega
          have y2 : (k : Int) - 1 < (ks.length : Int) := by omega
          have ew : IntKind.i64.wrap ((k : Int) - 1) = (k : Int) - 1 := IntWalk.i64_in _ (by omega)
          have et : ((k : Int) - 1).toNat = k - 1 := by omega
          clear C0 ha
          cases hah : aheadB ky (p, q) with
          | false =>
            rw [hah] at HA HF
            have HF2 := HF.out rfl
            have HF3 := Lib.hid HF2; clear HF2 HF HSU
            go_wp2
            refine wp_region_below w2 (by kernel_rfl) (by kernel_rfl) (Below.refl _ _) ?_
            repeat (first
              | go_big_quiet_skip
              | (go_big_quiet_want
                 first
                   | (go_big_quiet_op; go_big_quiet_on)
                   | (refine q_load 50 _ _ _ rfl rfl L2 ?_; simp only [Act.put, List.setIfInBounds_toArray, List.set_cons_zero, List.set_cons_succ]; go_big_quiet_on)
                   | (refine q_load 50 _ _ _ rfl rfl LK ?_; simp only [Act.put, List.setIfInBounds_toArray, List.set_cons_zero, List.set_cons_succ]; go_big_quiet_on)
                   | (go_big_quiet_op; refine ⟨_, fun _ _ => rfl, ?_⟩; go_big_quiet_on)
                   | (go_big_quiet_op; apply Exists.intro; refine ⟨fun w' hw' => ?_, ?_⟩
                      · first
                        | (with_reducible refine (HA.out w').mono ?_
                           rintro e w2 ⟨rfl, hb2⟩
                           exact ⟨rfl, hw'.trans (hb2.mono hw'.size)⟩)
                      go_big_quiet_on)))
            refine wpQuiet_nil ?_
            intro w3 hb3
            have hbw3 := hbw2.trans (hb3.mono hbw2.size)
            clear LK L2 HA
            go_wp2
            go_ret
            exact ⟨by rw [HF3.out]; rfl, hbw3⟩
          | true =>
            rw [hah] at HA HSU
            clear HF
            go_wp2
            refine wp_region_below w2 (by kernel_rfl) (by kernel_rfl) (Below.refl _ _) ?_
            repeat (first
              | go_big_quiet_skip
              | (go_big_quiet_want
                 first
                   | (go_big_quiet_op; go_big_quiet_on)
                   | (refine q_load 50 _ _ _ rfl rfl L2 ?_; simp only [Act.put, List.setIfInBounds_toArray, List.set_cons_zero, List.set_cons_succ]; go_big_quiet_on)
                   | (refine q_load 50 _ _ _ rfl rfl LK ?_; simp only [Act.put, List.setIfInBounds_toArray, List.set_cons_zero, List.set_cons_succ]; go_big_quiet_on)
                   | (go_big_quiet_op; refine ⟨_, fun _ _ => rfl, ?_⟩; go_big_quiet_on)
                   | (go_big_quiet_op; apply Exists.intro; refine ⟨fun w' hw' => ?_, ?_⟩
                      · first
                        | (with_reducible refine (HA.out w').mono ?_
                           rintro e w2 ⟨rfl, hb2⟩
                           exact ⟨rfl, hw'.trans (hb2.mono hw'.size)⟩)
                      go_big_quiet_on)))
            refine wpQuiet_nil ?_
            intro w3 hb3
            have hbw3 := hbw2.trans (hb3.mono hbw2.size)
            clear LK L2 HA
            go_wp2
            exact ⟨⟨k + 1, by omega, by go_num, by rw [HSU.out]; rfl, hbw3⟩, by simp [intOf]; omega⟩
    · obtain rfl : k = ks.length := by omega
      have HF := Lib.hid hall
      go_wp2
      go_ret
      exact ⟨by unfold keysOkR; rw [HF.out]; rfl, hb⟩
end Go.Proofs.YtdokkhgeeinnhaaDoor
namespace Go.Proofs.YtdokkhgeeinnhaaDoor
open Go.ChangeShapes Go.WideShapes Go.ChangeAt Go.RowKit Go.BigFrame
set_option linter.unusedVariables false

def zero4L : List UInt8 := [0, 0, 0, 0]
theorem z4_eq (y : ByteArray) : decide (y = z4) = (y.data.toList == zero4L) := by
  rw [Bool.eq_iff_iff, decide_eq_true_eq, beq_iff_eq]
  constructor
  · rintro rfl; rfl
  · intro h
    have : y = ⟨y.data.toList.toArray⟩ := by simp
    rw [this, h]; rfl
set_option maxRecDepth 100000 in
set_option maxHeartbeats 1000000 in
theorem icodeok_any (v : Value) (ks : List K2) (y : ByteArray) (w : World) (h : keysAt w v ks) (hs : ks.length ≤ 2000000) :
    Calls Tryd.prog 29 #[.agg #[v, .string y]] w fun e w' => e = .returned (.bool (codeOkB (ks, y))) ∧ Below w.heap.size w w' := by
  have hb := (Below.refl w.heap.size w).alloc (Nat.le_refl _) (.cells #[v, .string y] 26)
  have HB := Lib.hid hb
  have HX := Lib.hid (heap_alloc_new w (.cells #[v, .string y] 26))
  have HK := Lib.hid (ikeysok_any v ks (w.alloc (.cells #[v, .string y] 26)) (keysAt_below h hb) hs)
  obtain ⟨a, cap, rfl, -, -⟩ := h
  unfold codeOkB
  dsimp only
  obtain ⟨x0, x1, -, -⟩ := row2_of HX.out
  clear hb
  go_enter Tryd.func29, Tryd.ntmps29
  by_cases h1 : ks.length ≤ 6
  · have i1 : ¬ (6 : Int) < (ks.length : Int) := by omega
    have i2 : (ks.length : Int) ≤ 6 := by omega
    go_wp2_with fail
    generalize w.alloc (.cells #[.slice a ks.length cap, .string y] 26) = W at *
    refine HK.out.mono ?_
    rintro e w1 ⟨rfl, hb1⟩
    have HB1 := Lib.hid (HB.out.trans (hb1.mono HB.out.size))
    clear x0 x1
    obtain ⟨x0, x1⟩ := cd_cells HX.out hb1
    clear hb1 HK HX HB
    cases h2 : keysOkR ks with
    | false =>
      go_wp2
      go_ret
      exact ⟨by simp [h1, h2], HB1.out⟩
    | true =>
      by_cases h3 : y.size = 4
      · have i3 : (y.size : Int) = 4 := by omega
        by_cases h4 : 0 < ks.length
        · have i4 : (0 : Int) < (ks.length : Int) := by omega
          go_wp2
          go_ret
          exact ⟨by simp [h1, h2, h3, h4], HB1.out⟩
        · have i4 : ¬ (0 : Int) < (ks.length : Int) := by omega
          have AE := fun w => arr_eql y z4 h3 rfl w
          have AG := fun op x z w => arr_guard op x z y z4 w
          have HL := Lib.hid (iloadbytes_any y w1 h3)
          obtain ⟨p, q, r, s, hp⟩ := arr4_lit y h3
          rw [hp] at AE AG HL
          rw [show arr4 z4 = .agg #[.int .u8 0, .int .u8 0, .int .u8 0, .int .u8 0] from rfl] at AE AG
          rw [show z4.data.toList = zero4L from rfl, ← z4_eq] at AE
          clear hp
          generalize hbo : decide (y = z4) = bo at *
          go_wp2_with fail
          refine HL.out.mono ?_
          rintro e w2 ⟨rfl, hb2⟩
          have HB2 := Lib.hid (HB1.out.trans (hb2.mono HB1.out.size))
          clear hb2 HL x0 x1 HB1
          go_wp2
          go_ret
          exact ⟨by rw [← hbo]; simp [h1, h2, h3, h4], HB2.out⟩
      · have i3 : ¬ (y.size : Int) = 4 := by omega
        go_wp2
        go_ret
        exact ⟨by simp [h1, h2, h3], HB1.out⟩
  · have i1 : (6 : Int) < (ks.length : Int) := by omega
    have i2 : ¬ (ks.length : Int) ≤ 6 := by omega
    go_wp2
    go_ret
    exact ⟨by simp [h1], HB.out⟩
end Go.Proofs.YtdokkhgeeinnhaaDoor
namespace Go.Proofs.YtdokkhgeeinnhaaDoor
open Go.ChangeShapes Go.WideShapes Go.ChangeAt Go.RowKit Go.BigFrame
set_option linter.unusedVariables false

theorem iframelen_any (n : Nat) (hn : n ≤ 2000000) (w : World) : Calls Tryd.prog 24 #[.int .i64 (n : Int)] w fun e w' => e = .returned (.int .i64 (13 + 2 * (n : Int))) ∧ w' = w := by
  have e1 : IntKind.i64.wrap (2 * (n : Int)) = 2 * (n : Int) := IntWalk.i64_in _ (by omega)
  have e2 : IntKind.i64.wrap (5 + 2 * (n : Int)) = 5 + 2 * (n : Int) := IntWalk.i64_in _ (by omega)
  have e3 : IntKind.i64.wrap (5 + 2 * (n : Int) + 4) = 5 + 2 * (n : Int) + 4 := IntWalk.i64_in _ (by omega)
  have e4 : IntKind.i64.wrap (5 + 2 * (n : Int) + 4 + 4) = 5 + 2 * (n : Int) + 4 + 4 := IntWalk.i64_in _ (by omega)
  have e5 : 13 + 2 * (n : Int) = 5 + 2 * (n : Int) + 4 + 4 := by omega
  have H5 := Lib.hid e5; clear e5
  go_enter Tryd.func24, Tryd.ntmps24
  go_wp2
  go_ret
  exact ⟨by rw [H5.out]; rfl, rfl⟩
set_option maxRecDepth 100000 in
set_option maxHeartbeats 2000000 in
theorem iframeok_any (p q : Int) (v : Value) (ks : List K2) (y : ByteArray) (w : World) (h : keysAt w v ks) (hs : ks.length ≤ 2000000) :
    Calls Tryd.prog 11 #[.agg #[.int .i64 p, .int .i64 q, v, .string y]] w fun e w' => e = .returned (.bool (frOkB ((p, q), (ks, y)))) ∧ Below w.heap.size w w' := by
  have hb := (Below.refl w.heap.size w).alloc (Nat.le_refl _) (.cells #[.int .i64 p, .int .i64 q, v, .string y] 28)
  have HB := Lib.hid hb
  have HX := Lib.hid (heap_alloc_new w (.cells #[.int .i64 p, .int .i64 q, v, .string y] 28))
  have SC := Lib.hid (icodeok_any v ks y (w.alloc (.cells #[.int .i64 p, .int .i64 q, v, .string y] 28)) (keysAt_below h hb) hs)
  obtain ⟨ar, cap, rfl, -, -⟩ := h
  clear hb
  obtain ⟨x0, x1, x2, x3⟩ := fr_cells HX.out (Below.refl _ _)
  by_cases hp : 1 ≤ p ∧ p ≤ 20
  · by_cases hq : 0 ≤ q ∧ q ≤ 20
    · by_cases hk : 0 < ks.length
      · have i1 : (0 : Int) < (ks.length : Int) := by omega
        obtain ⟨a1, a2⟩ := hp
        obtain ⟨b1, b2⟩ := hq
        have LC := fr_loadc HX.out (Below.refl _ _)
        go_enter Tryd.func11, Tryd.ntmps11
        go_wp2_with fail
        refine SC.out.mono ?_
        rintro e w1 ⟨rfl, hb1⟩
        have HB1 := Lib.hid (HB.out.trans (hb1.mono HB.out.size))
        have HV := Lib.hid (show frOkB ((p, q), (ks, y)) = codeOkB (ks, y) by simp [frOkB, a1, a2, b1, b2, hk])
        generalize codeOkB (ks, y) = bo at *
        clear x0 x1 x2 x3 LC HX SC HB hb1
        go_wp2
        go_ret
        exact ⟨by rw [HV.out]; rfl, HB1.out⟩
      · have i1 : ¬ (0 : Int) < (ks.length : Int) := by omega
        have HV := Lib.hid (show frOkB ((p, q), (ks, y)) = false by simp [frOkB, hk])
        obtain ⟨a1, a2⟩ := hp
        obtain ⟨b1, b2⟩ := hq
        go_enter Tryd.func11, Tryd.ntmps11
        go_wp2
        go_ret
        exact ⟨by rw [HV.out]; rfl, HB.out⟩
    · have HV := Lib.hid (show frOkB ((p, q), (ks, y)) = false by
        rw [← Bool.not_eq_true, frOk_iff]; rintro ⟨_, h, _⟩; exact hq h)
      obtain ⟨a1, a2⟩ := hp
      by_cases b1 : 0 ≤ q
      · have b2 : ¬ q ≤ 20 := by omega
        go_enter Tryd.func11, Tryd.ntmps11
        go_wp2
        go_ret
        exact ⟨by rw [HV.out]; rfl, HB.out⟩
      · go_enter Tryd.func11, Tryd.ntmps11
        go_wp2
        go_ret
        exact ⟨by rw [HV.out]; rfl, HB.out⟩
  · have HV := Lib.hid (show frOkB ((p, q), (ks, y)) = false by
      rw [← Bool.not_eq_true, frOk_iff]; rintro ⟨h, _⟩; exact hp h)
    by_cases a1 : 1 ≤ p
    · have a2 : ¬ p ≤ 20 := by omega
      go_enter Tryd.func11, Tryd.ntmps11
      go_wp2
      go_ret
      exact ⟨by rw [HV.out]; rfl, HB.out⟩
    · go_enter Tryd.func11, Tryd.ntmps11
      go_wp2
      go_ret
      exact ⟨by rw [HV.out]; rfl, HB.out⟩
end Go.Proofs.YtdokkhgeeinnhaaDoor
namespace Go.Proofs.YtdokkhgeeinnhaaDoor
open Go.RowKit
set_option linter.unusedVariables false
theorem cells_own {β : Type} (B : Nat) (f : β → Array Value) (t : TypeId) : Own (fun (s : β) W => W.heap[B]? = some (.cells (f s) t (0, 0))) := by
  intro s X Y row h hg hr
  refine (hg.block B (Array.getElem?_eq_some_iff.1 h).1 (fun e => ?_)).trans h
  obtain ⟨o, ho, hc⟩ := hr B e.symm
  rw [h] at ho; cases ho; cases hc
end Go.Proofs.YtdokkhgeeinnhaaDoor
namespace Go.Proofs.YtdokkhgeeinnhaaDoor
open Go.RowKit Go.Shelf
attribute [local go_sem] Oper.semAt_some
set_option linter.unusedVariables false

/-- the slice value v leads to the keys ks, in blocks below n₀ -/
def keysIn0 (n₀ : Nat) (w : World) (v : Value) (ks : List K2) : Prop :=
  ∃ a cap, v = .slice a ks.length cap ∧ ks.length ≤ cap ∧ (ks.length = 0 ∨ ∃ g off, a = some ⟨g, off, none⟩ ∧ g < n₀ ∧ g < w.heap.size ∧
    ∀ i, i < ks.length → w.cell? ⟨g, off + i * 2, none⟩ = some (.int .i64 (ks.getD i (0, 0)).1) ∧ w.cell? ⟨g, off + i * 2 + 1, none⟩ = some (.int .i64 (ks.getD i (0, 0)).2))
theorem keysIn0.below {n₀ : Nat} {w w' : World} {v : Value} {ks : List K2} (h : keysIn0 n₀ w v ks) (hb : Below n₀ w w') : keysIn0 n₀ w' v ks := by
  obtain ⟨a, cap, h1, h2, h3⟩ := h
  refine ⟨a, cap, h1, h2, h3.imp_right ?_⟩
  rintro ⟨g, off, h4, h0, h5, h6⟩
  refine ⟨g, off, h4, h0, Nat.lt_of_lt_of_le h5 hb.size, fun i hi => ?_⟩
  rw [hb.cell (p := ⟨g, off + i * 2, none⟩) h0, hb.cell (p := ⟨g, off + i * 2 + 1, none⟩) h0]
  exact h6 i hi
theorem keysIn0.at {n₀ : Nat} {w : World} {v : Value} {ks : List K2} (h : keysIn0 n₀ w v ks) : keysAt w v ks := by
  obtain ⟨a, cap, h1, h2, h3⟩ := h
  exact ⟨a, cap, h1, h2, h3.imp_right fun ⟨g, off, h4, _, h5, h6⟩ => ⟨g, off, h4, h5, h6⟩⟩
theorem keysIn0_of {w : World} {v : Value} {ks : List K2} (h : keysAt w v ks) : keysIn0 w.heap.size w v ks := by
  obtain ⟨a, cap, h1, h2, h3⟩ := h
  exact ⟨a, cap, h1, h2, h3.imp_right fun ⟨g, off, h4, h5, h6⟩ => ⟨g, off, h4, h5, h5, h6⟩⟩

set_option maxRecDepth 100000 in
set_option maxHeartbeats 1000000 in
/-- the iterator's closure: every key, in order, or as far as the round says -/
theorem kin_in (n l Bn n₀ : Nat) (v : Value) (ks : List K2) (hs : ks.length ≤ 8000000) (hn : 1 ≤ n) (J Jx : List K2 → World → Prop)
    (hJ : ∀ s W W', J s W → W.grownBy W' none → J s W')
    (hY : ∀ pre x W, J pre W → pre.length < ks.length → YieldAt Fence.wide (n - 1) Tryd.prog l #[kv x] W fun e W' =>
      (e = .returned (.bool true) ∧ J (pre ++ [x]) W' ∧ Below n₀ W W') ∨ (e = .returned (.bool false) ∧ Jx (pre ++ [x]) W'))
    (W : World) (hBn : W.cell? ⟨Bn, 0, none⟩ = some v) (hk : keysIn0 n₀ W v ks) (hn₀ : n₀ ≤ W.heap.size) (h0 : J [] W) :
    CallsIn Fence.wide n Tryd.prog 46 #[.func (.yield l) #[] #[], .pointer (some ⟨Bn, 0, none⟩)] W fun e W' => (∃ v, e = .returned v) ∧
      ((∃ ys : List K2, ys = ks ∧ J ys W') ∨ (∃ pre : List K2, pre <+: ks ∧ Jx pre W')) := by
  refine callsIn_of_wp Tryd.func46 rfl trivial ?_ rfl
  simp only [Tryd.ntmps46, List.size_toArray, List.length_cons, List.length_nil, Nat.reduceAdd, Nat.reduceSub, Array.replicate_succ, Array.replicate_zero, List.push_toArray, List.append_toArray, List.nil_append, List.cons_append]
  obtain ⟨a, cap, rfl, hcap, hcells⟩ := id hk
  gi_wp2
  gi_loopw [7] (fun p wr => ∃ (k : Nat), p = .int .i64 k ∧ k ≤ ks.length ∧ keysIn0 n₀ wr (.slice a ks.length cap) ks ∧ n₀ ≤ wr.heap.size ∧ J (ks.take k) wr)
    (fun p wr => ks.length + 1 - (intOf p).toNat)
  case atStart => exact ⟨0, rfl, Nat.zero_le _, hk, hn₀, h0⟩
  case round =>
    obtain ⟨k, rfl, hk1, hkw, hnw, hJs⟩ := hrel
    by_cases hlt : k < ks.length
    · have hkw' := hkw
      obtain ⟨a2, cap2, hv2, _, hcs⟩ := hkw
      cases hv2
      obtain ⟨g, off, rfl, hg0, hg, hcs⟩ := hcs.resolve_left (by omega)
      have c1 := hcs k hlt
      have C1 := c1.1
      have C2 := c1.2
      have hks : ks.take (k + 1) = ks.take k ++ [ks.getD k (0, 0)] := by rw [List.take_add_one]; simp [List.getD, hlt]
      have hlen : (ks.take k).length < ks.length := by simp; omega
      have z0 : (0 : Int) ≤ (k : Int) := by omega
      have z1 : (k : Int) < (ks.length : Int) := by omega
      clear hcs c1 hcells
      generalize ks.getD k (0, 0) = kx at *
      obtain ⟨p, q⟩ := kx
      have HKS := Lib.hid hks; clear hks
      dsimp only at C1 C2
      have hJa : J (ks.take k) ((wr.alloc (.cells #[.int .i64 p, .int .i64 q] 50))) := hJ _ _ _ hJs (World.grownBy_alloc wr _ none)
      have hka : keysIn0 n₀ (wr.alloc (.cells #[.int .i64 p, .int .i64 q] 50)) (.slice (some ⟨g, off, none⟩) ks.length cap) ks := hkw'.below ((Below.refl _ _).alloc hnw _)
      have hsa : n₀ ≤ (wr.alloc (.cells #[.int .i64 p, .int .i64 q] 50)).heap.size := by simp; omega
      obtain ⟨fn, tmps, assign, body, hy, hR⟩ := hY (ks.take k) (p, q) _ hJa hlen
      unfold kv at hy
      dsimp only at hy
      clear hY hJa
      gi_wp2
      refine hR.mono ?_
      rintro e W3 (⟨rfl, hJ3, hk3⟩ | ⟨rfl, hJx3⟩)
      · have hk3' := hka.below hk3
        have hsz3 := Nat.le_trans hsa hk3.size
        rw [← HKS.out] at hJ3
        clear hka hsa hkw' C1 C2
        gi_wp2
        exact ⟨⟨k + 1, by go_num, by omega, hk3', hsz3, hJ3⟩, by simp [intOf]; omega⟩
      · rw [← HKS.out] at hJx3
        clear hka hsa hkw' C1 C2
        gi_wp2
        refine bodyPost_ret (results_none rfl _ _ _) rfl ?_
        exact ⟨⟨_, rfl⟩, .inr ⟨_, List.take_prefix _ _, hJx3⟩⟩
    · obtain rfl : k = ks.length := by omega
      rw [List.take_length] at hJs
      gi_wp2
      go_end0
      exact ⟨⟨_, rfl⟩, .inl ⟨_, rfl, hJs⟩⟩

theorem kin_any (a : Option Addr) (n c : Nat) (w : World) :
    Calls Tryd.prog 25 #[.slice a n c] w fun e w' => e = .returned (.func (.func 46) #[] #[.pointer (some ⟨w.heap.size, 0, none⟩)]) ∧ w' = w.alloc (.cells #[.slice a n c] 24) := by
  go_enter Tryd.func25, Tryd.ntmps25
  go_wp2
  go_ret
  exact ⟨rfl, rfl⟩

theorem kin_stops (n Bn n₀ : Nat) (v : Value) (ks : List K2) (hs : ks.length ≤ 8000000) (hn : 1 ≤ n) (w : World) (hBn : Bn < w.heap.size) (hn₀ : n₀ ≤ w.heap.size) (hc : w.cell? ⟨Bn, 0, none⟩ = some v) (hk : keysIn0 n₀ w v ks) :
    SeqStopsK Fence.wide n Tryd.prog 46 #[.pointer (some ⟨Bn, 0, none⟩)] (fun x : K2 => #[kv x]) (Below n₀) (fun ys => ys = ks) (fun pre => pre <+: ks) ks.length w :=
  fun l J Jx W hW hJ _ hY h0 => kin_in n l Bn n₀ v ks hs hn J Jx (fun s A B h hg => hJ s A B none h hg (fun r e => by cases e)) hY W ((hW.cell (p := ⟨Bn, 0, none⟩) hBn).trans hc) (hk.below (hW.mono hn₀)) (Nat.le_trans hn₀ hW.size) h0
end Go.Proofs.YtdokkhgeeinnhaaDoor
namespace Go.Proofs.YtdokkhgeeinnhaaDoor
open Go.RowKit
set_option linter.unusedVariables false

def KBoxed (W : World) (B : Nat) (k : K2) : Prop := W.heap[B]? = some (.cells #[.int .i64 k.1, .int .i64 k.2] 50 (0, 0))
theorem KBoxed.lt {W : World} {B : Nat} {k : K2} (h : KBoxed W B k) : B < W.heap.size := (Array.getElem?_eq_some_iff.1 h).1
theorem KBoxed.cell0 {W : World} {B : Nat} {k : K2} (h : KBoxed W B k) : W.cell? ⟨B, 0, none⟩ = some (.int .i64 k.1) := by simp [World.cell?, show W.heap[B]? = _ from h]
theorem KBoxed.cell1 {W : World} {B : Nat} {k : K2} (h : KBoxed W B k) : W.cell? ⟨B, 1, none⟩ = some (.int .i64 k.2) := by simp [World.cell?, show W.heap[B]? = _ from h]
theorem KBoxed.new (W : World) (k : K2) : KBoxed (W.alloc (.cells #[.int .i64 k.1, .int .i64 k.2] 50)) W.heap.size k := World.alloc_heap_new W _
theorem KBoxed.kept {W W' : World} {row : Option Nat} {B : Nat} {k : K2} (h : KBoxed W B k) (hg : W.grownBy W' row) (hne : some B ≠ row) : KBoxed W' B k := (hg.block B h.lt hne).trans h
theorem KBoxed.alloc {W : World} {B : Nat} {k : K2} (h : KBoxed W B k) (o : Obj) : KBoxed (W.alloc o) B k := h.kept (World.grownBy_alloc W o none) (by simp)
theorem KBoxed.other {W : World} {B B' : Nat} {k : K2} (h : KBoxed W B k) (hne : B ≠ B') (u : Value) : KBoxed (W.setCell ⟨B', 0, none⟩ u) B k := h.kept (grownBy_setCell' W B' u) (fun e => hne (by cases e; rfl))
theorem KBoxed.load {w : World} {B : Nat} {k : K2} (h : KBoxed w B k) : (loadVar 50 ⟨B, 0, none⟩).run Tryd.prog w = .ok (kv k) w := key_load (o := 0) ⟨h.cell0, h.cell1⟩ h.lt (Below.refl _ _)
theorem set_cells {w : World} {B j : Nat} {cs : Array Value} {t : TypeId} (u : Value) (h : w.heap[B]? = some (.cells cs t (0, 0))) : (w.setCell ⟨B, j, none⟩ u).heap[B]? = some (.cells (cs.setIfInBounds j u) t (0, 0)) := by
  obtain ⟨hlt, hk⟩ := Array.getElem?_eq_some_iff.1 h
  show (w.heap.modify B _)[B]? = _
  rw [Array.getElem?_eq_getElem (by rw [Array.size_modify]; exact hlt), Array.getElem_modify_self, hk]
  rfl
theorem KBoxed.set {w : World} {B : Nat} {k : K2} (k' : K2) (h : KBoxed w B k) : KBoxed ((w.setCell ⟨B, 0, none⟩ (.int .i64 k'.1)).setCell ⟨B, 1, none⟩ (.int .i64 k'.2)) B k' :=
  set_cells _ (set_cells _ h)
end Go.Proofs.YtdokkhgeeinnhaaDoor
namespace Go.Proofs.YtdokkhgeeinnhaaDoor
open Go.RowKit Go.Shelf
set_option linter.unusedVariables false

theorem kboxed_own {β : Type} (B : Nat) (k : K2) : Own (fun (_ : β) W => KBoxed W B k) := by
  intro s X Y row h hg hr
  refine KBoxed.kept h hg (fun e => ?_)
  obtain ⟨o, ho, hc⟩ := hr B e.symm
  rw [show X.heap[B]? = _ from h] at ho; cases ho; cases hc
theorem boxG_own {β : Type} (B : Nat) (t : TypeId) (G : β → Value → Prop) : Own (fun (s : β) W => ∃ v, Boxed W B t v ∧ G s v) := by
  rintro s X Y row ⟨v, h, hG⟩ hg hr
  refine ⟨v, h.kept hg (fun e => ?_), hG⟩
  obtain ⟨o, ho, hc⟩ := hr B e.symm
  rw [show X.heap[B]? = _ from h] at ho; cases ho; cases hc
theorem boxed_uniq {W : World} {B : Nat} {t : TypeId} {v v' : Value} (h : Boxed W B t v) (h' : Boxed W B t v') : v = v' := by
  have := h.cell.symm.trans h'.cell
  exact Option.some.inj this
end Go.Proofs.YtdokkhgeeinnhaaDoor
namespace Go.Proofs.YtdokkhgeeinnhaaDoor
open Go.ChangeShapes Go.WideShapes Go.ChangeAt Go.RowKit
set_option linter.unusedVariables false

theorem numLen_any (x : Int) (w : World) : Calls Tryd.prog 47 #[.int .i64 x] w fun e w' => e = .returned (.bool (decide (1 ≤ x) && decide (x ≤ 4))) ∧ w' = w := by
  by_cases h1 : 1 ≤ x <;> by_cases h2 : x ≤ 4
  all_goals
    go_enter Tryd.func47, Tryd.ntmps47
    go_wp2
    go_ret
    simp [h1, h2]

theorem conv4 {P : Program} (w : World) (src e dst arr : TypeId) (hs : P.underlying src = some (.slice e)) (he : P.underlying e = some (.int .u8)) (hd : P.underlying dst = some .string) (a b c d : Int) :
    (convert src dst (.slice (some ⟨w.heap.size, 0, none⟩) 4 4)).run P (w.alloc (.cells #[.int .u8 a, .int .u8 b, .int .u8 c, .int .u8 d] arr)) = .ok (.string (strOfNums [a, b, c, d])) (w.alloc (.cells #[.int .u8 a, .int .u8 b, .int .u8 c, .int .u8 d] arr)) ∧
    (convert src dst (.slice (some ⟨w.heap.size, 1, none⟩) 3 3)).run P (w.alloc (.cells #[.int .u8 a, .int .u8 b, .int .u8 c, .int .u8 d] arr)) = .ok (.string (strOfNums [b, c, d])) (w.alloc (.cells #[.int .u8 a, .int .u8 b, .int .u8 c, .int .u8 d] arr)) ∧
    (convert src dst (.slice (some ⟨w.heap.size, 2, none⟩) 2 2)).run P (w.alloc (.cells #[.int .u8 a, .int .u8 b, .int .u8 c, .int .u8 d] arr)) = .ok (.string (strOfNums [c, d])) (w.alloc (.cells #[.int .u8 a, .int .u8 b, .int .u8 c, .int .u8 d] arr)) ∧
    (convert src dst (.slice (some ⟨w.heap.size, 3, none⟩) 1 1)).run P (w.alloc (.cells #[.int .u8 a, .int .u8 b, .int .u8 c, .int .u8 d] arr)) = .ok (.string (strOfNums [d])) (w.alloc (.cells #[.int .u8 a, .int .u8 b, .int .u8 c, .int .u8 d] arr)) := by
  refine ⟨run_convert_bytes_arg _ src e hs he w.heap.size 0 4 4 [a, b, c, d] rfl (fun i hi => ?_) dst hd, run_convert_bytes_arg _ src e hs he w.heap.size 1 3 3 [b, c, d] rfl (fun i hi => ?_) dst hd, run_convert_bytes_arg _ src e hs he w.heap.size 2 2 2 [c, d] rfl (fun i hi => ?_) dst hd, run_convert_bytes_arg _ src e hs he w.heap.size 3 1 1 [d] rfl (fun i hi => ?_) dst hd⟩
  · rcases (by omega : i = 0 ∨ i = 1 ∨ i = 2 ∨ i = 3) with rfl | rfl | rfl | rfl <;> simp
  · rcases (by omega : i = 0 ∨ i = 1 ∨ i = 2) with rfl | rfl | rfl <;> simp
  · rcases (by omega : i = 0 ∨ i = 1) with rfl | rfl <;> simp
  · rcases (by omega : i = 0) with rfl; simp
theorem put_list (N : Nat) : putV N 1 = strOfNums [(N : Int) % 256] ∧ putV N 2 = strOfNums [(N : Int) / 256 % 256, (N : Int) % 256] ∧
    putV N 3 = strOfNums [(N : Int) / 65536 % 256, (N : Int) / 256 % 256, (N : Int) % 256] ∧ putV N 4 = strOfNums [(N : Int) / 16777216 % 256, (N : Int) / 65536 % 256, (N : Int) / 256 % 256, (N : Int) % 256] := by
  have hp : ∀ k : Nat, 1 ≤ k → k ≤ 4 → putV N k = strOfNums (numsOf (beL N k)) := by
    intro k h1 h2
    unfold putV
    rw [if_neg (by omega), nums_back]; simp
  have e0 : ∀ m : Nat, (UInt8.ofNat (m % 256)).toNat = m % 256 := by intro m; simp
  have h1 := hp 1 (by decide) (by decide); have h2 := hp 2 (by decide) (by decide); have h3 := hp 3 (by decide) (by decide); have h4 := hp 4 (by decide) (by decide)
  refine ⟨h1.trans ?_, h2.trans ?_, h3.trans ?_, h4.trans ?_⟩ <;>
    · simp only [numsOf, beL, leB, List.reverse_cons, List.reverse_nil, List.nil_append, List.cons_append, List.map_cons, List.map_nil, e0, Nat.div_div_eq_div_mul]
      congr 1

set_option maxRecDepth 100000 in
theorem iput_any (n k : Int) (w : World) (hn : n ≤ 9223372036854775807) :
    Calls Tryd.prog 26 #[.int .i64 n, .int .i64 k] w fun e w' => e = .returned (.string (putV n k)) ∧ Below w.heap.size w w' := by
  by_cases hn0 : n < 0
  · have hv : putV n k = ByteArray.empty := by unfold putV; rw [if_pos (.inl hn0)]
    have HV := Lib.hid hv; clear hv
    go_enter Tryd.func26, Tryd.ntmps26
    go_wp2
    go_ret
    exact ⟨by rw [HV.out]; rfl, Below.refl _ _⟩
  · by_cases hk : k < 1 ∨ 4 < k
    · have hv : putV n k = ByteArray.empty := by unfold putV; rw [if_pos (.inr hk)]
      have HV := Lib.hid hv; clear hv
      have hb : (decide (1 ≤ k) && decide (k ≤ 4)) = false := by simp; omega
      clear hk
      go_enter Tryd.func26, Tryd.ntmps26
      go_wp2_with (go_at_call 47; refine (numLen_any _ _).mono ?_; rintro e w ⟨rfl, rfl⟩)
      go_ret
      exact ⟨by rw [HV.out]; rfl, Below.refl _ _⟩
    · have hb : (decide (1 ≤ k) && decide (k ≤ 4)) = true := by simp; omega
      obtain ⟨N, rfl⟩ : ∃ N : Nat, n = N := ⟨n.toNat, by omega⟩
      obtain ⟨K, rfl⟩ : ∃ K : Nat, k = K := ⟨k.toNat, by omega⟩
      have hK : 1 ≤ K ∧ K ≤ 4 := by omega
      go_enter Tryd.func26, Tryd.ntmps26
      go_wp2_with (go_at_call 47; refine (numLen_any _ _).mono ?_; rintro e w ⟨rfl, rfl⟩)
      go_loopw [14] (fun x wr =>
          (x = .int .i64 0 ∧ wr = w.alloc (.cells #[.int .u8 0, .int .u8 0, .int .u8 0, .int .u8 0] 78)) ∨
          (x = .int .i64 1 ∧ wr = w.alloc (.cells #[.int .u8 0, .int .u8 0, .int .u8 0, .int .u8 ((N : Int) % 256)] 78)) ∨
          (x = .int .i64 2 ∧ wr = w.alloc (.cells #[.int .u8 0, .int .u8 0, .int .u8 ((N : Int) / 256 % 256), .int .u8 ((N : Int) % 256)] 78)) ∨
          (x = .int .i64 3 ∧ wr = w.alloc (.cells #[.int .u8 0, .int .u8 ((N : Int) / 65536 % 256), .int .u8 ((N : Int) / 256 % 256), .int .u8 ((N : Int) % 256)] 78)) ∨
          (x = .int .i64 4 ∧ wr = w.alloc (.cells #[.int .u8 ((N : Int) / 16777216 % 256), .int .u8 ((N : Int) / 65536 % 256), .int .u8 ((N : Int) / 256 % 256), .int .u8 ((N : Int) % 256)] 78)))
        (fun x _ => 4 - (intOf x).toNat)
      case atStart => exact .inl ⟨rfl, rfl⟩
      case round =>
        rcases hrel with ⟨rfl, rfl⟩ | ⟨rfl, rfl⟩ | ⟨rfl, rfl⟩ | ⟨rfl, rfl⟩ | ⟨rfl, rfl⟩
        · go_wp2
          exact ⟨by simp, by simp [intOf]⟩
        · go_wp2
          exact ⟨by simp, by simp [intOf]⟩
        · go_wp2
          exact ⟨by simp, by simp [intOf]⟩
        · go_wp2
          exact ⟨by simp, by simp [intOf]⟩
        · obtain ⟨P1, P2, P3, P4⟩ := put_list N
          obtain ⟨C4, C3, C2, C1⟩ := conv4 (P := Tryd.prog) w 22 5 9 78 Tryd.underlying22 Tryd.underlying5 Tryd.underlying9 ((N : Int) / 16777216 % 256) ((N : Int) / 65536 % 256) ((N : Int) / 256 % 256) ((N : Int) % 256)
          have H1 := Lib.hid P1; have H2 := Lib.hid P2; have H3 := Lib.hid P3; have H4 := Lib.hid P4
          clear P1 P2 P3 P4
          rcases (by omega : K = 1 ∨ K = 2 ∨ K = 3 ∨ K = 4) with rfl | rfl | rfl | rfl
          · clear C4 C3 C2
            go_wp2
            go_ret
            exact ⟨by rw [← H1.out]; rfl, (Below.refl _ _).alloc (Nat.le_refl _) _⟩
          · clear C4 C3 C1
            go_wp2
            go_ret
            exact ⟨by rw [← H2.out]; rfl, (Below.refl _ _).alloc (Nat.le_refl _) _⟩
          · clear C4 C2 C1
            go_wp2
            go_ret
            exact ⟨by rw [← H3.out]; rfl, (Below.refl _ _).alloc (Nat.le_refl _) _⟩
          · clear C3 C2 C1
            go_wp2
            go_ret
            exact ⟨by rw [← H4.out]; rfl, (Below.refl _ _).alloc (Nat.le_refl _) _⟩
end Go.Proofs.YtdokkhgeeinnhaaDoor
namespace Go.Proofs.YtdokkhgeeinnhaaDoor
open Go.ChangeShapes Go.WideShapes Go.ChangeAt Go.RowKit
set_option linter.unusedVariables false

theorem i64_or (v c : Nat) (hv : v < 16777216) (hc : c < 256) : bits .or .i64 ((v : Int) * 256) (c : Int) = (v : Int) * 256 + (c : Int) := by
  have e1 : ((v : Int) * 256) = ((v * 256 : Nat) : Int) := by omega
  have hx : v * 256 ||| c = v * 256 + c := by
    have := Nat.two_pow_add_eq_or_of_lt (i := 8) (b := c) hc v
    rw [show (2 : Nat) ^ 8 = 256 from rfl] at this
    rw [Nat.mul_comm, ← this]
  show IntKind.i64.wrap ((BitVec.ofInt 64 ((v : Int) * 256) ||| BitVec.ofInt 64 (c : Int)).toNat : Nat) = _
  rw [e1, bv_nat, bv_nat, BitVec.toNat_or, BitVec.toNat_ofNat, BitVec.toNat_ofNat, Nat.mod_eq_of_lt (by omega), Nat.mod_eq_of_lt (by omega), hx]
  have := IntWalk.i64_in ((v * 256 + c : Nat) : Int) (by omega)
  rw [this]; omega
set_option maxRecDepth 100000 in
theorem iget_any (s : ByteArray) (p k : Int) (w : World) (hs : s.size ≤ 2000000) :
    Calls Tryd.prog 54 #[.string s, .int .i64 p, .int .i64 k] w fun e w' => e = .returned (.int .i64 (getV s p k)) ∧ w' = w := by
  by_cases hk : k < 1 ∨ 4 < k
  · have hv : getV s p k = -1 := by unfold getV; rw [if_pos (by omega)]
    have HV := Lib.hid hv; clear hv
    have hb : (decide (1 ≤ k) && decide (k ≤ 4)) = false := by simp; omega
    clear hk
    go_enter Tryd.func54, Tryd.ntmps54
    go_wp2_with (go_at_call 47; refine (numLen_any _ _).mono ?_; rintro e w ⟨rfl, rfl⟩)
    go_ret
    exact ⟨by rw [HV.out]; rfl, rfl⟩
  · have hb : (decide (1 ≤ k) && decide (k ≤ 4)) = true := by simp; omega
    obtain ⟨K, rfl⟩ : ∃ K : Nat, k = K := ⟨k.toNat, by omega⟩
    have hK : 1 ≤ K ∧ K ≤ 4 := by omega
    have ew : IntKind.i64.wrap ((s.size : Int) - (K : Int)) = (s.size : Int) - (K : Int) := IntWalk.i64_in _ (by omega)
    by_cases hp : p < 0
    · have hv : getV s p K = -1 := by unfold getV; rw [if_pos (by omega)]
      have HV := Lib.hid hv; clear hv hk
      go_enter Tryd.func54, Tryd.ntmps54
      go_wp2_with (go_at_call 47; refine (numLen_any _ _).mono ?_; rintro e w ⟨rfl, rfl⟩)
      go_ret
      exact ⟨by rw [HV.out]; rfl, rfl⟩
    · by_cases hq : (s.size : Int) - K < p
      · have hv : getV s p K = -1 := by unfold getV; rw [if_pos (by omega)]
        have HV := Lib.hid hv; clear hv hk
        go_enter Tryd.func54, Tryd.ntmps54
        go_wp2_with (go_at_call 47; refine (numLen_any _ _).mono ?_; rintro e w ⟨rfl, rfl⟩)
        go_ret
        exact ⟨by rw [HV.out]; rfl, rfl⟩
      · have hv : getV s p K = (getN ((s.data.toList.drop p.toNat).take K) : Nat) := by unfold getV; rw [if_neg (by omega)]; simp
        obtain ⟨q, rfl⟩ : ∃ q : Nat, p = q := ⟨p.toNat, by omega⟩
        simp only [Int.toNat_natCast] at hv
        have hqs : q + K ≤ s.size := by omega
        have hbd := fun j => getN_lt ((s.data.toList.drop q).take j)
        have hsn : ∀ j, (h : j < K) → getN ((s.data.toList.drop q).take (j + 1)) = getN ((s.data.toList.drop q).take j) * 256 + (s[q + j]'(by omega)).toNat := by
          intro j h
          rw [List.take_succ_eq_append_getElem (by simp; omega), getN_snoc]
          congr 2
          simp
          rfl
        have hle : ∀ j, ((s.data.toList.drop q).take j).length ≤ j := by intro j; simp; omega
        have HV := Lib.hid hv; have HSN := Lib.hid hsn; clear hv hsn hk
        have hb4 : ∀ j, j ≤ 4 → getN ((s.data.toList.drop q).take j) < 256 ^ j := by
          intro j _
          exact Nat.lt_of_lt_of_le (hbd j) (Nat.pow_le_pow_right (by decide) (hle j))
        have HB4 := Lib.hid hb4; clear hb4 hbd hle
        go_enter Tryd.func54, Tryd.ntmps54
        go_wp2_with (go_at_call 47; refine (numLen_any _ _).mono ?_; rintro e w ⟨rfl, rfl⟩)
        go_loopw [7, 25] (fun n i wr => ∃ j : Nat, j ≤ K ∧ i = .int .i64 j ∧ n = .int .i64 (getN ((s.data.toList.drop q).take j) : Nat) ∧ wr = w) (fun _ i _ => K - (intOf i).toNat)
        case atStart => exact ⟨0, Nat.zero_le _, rfl, rfl, rfl⟩
        case round =>
          obtain ⟨j, hj, rfl, rfl, rfl⟩ := hrel
          by_cases hlt : j < K
          · have z1 : (j : Int) < (K : Int) := by omega
            have z2 : (0 : Int) ≤ (q : Int) + (j : Int) := by omega
            have z3 : (q : Int) + (j : Int) < (s.size : Int) := by omega
            have et : ((q : Int) + (j : Int)).toNat = q + j := by omega
            have ew2 : IntKind.i64.wrap ((q : Int) + (j : Int)) = (q : Int) + (j : Int) := IntWalk.i64_in _ (by omega)
            have hsn := HSN.out j hlt
            have hc := (s[q + j]'(by omega)).toNat_lt
            have hb4 : getN ((s.data.toList.drop q).take j) < 256 ^ 3 := Nat.lt_of_lt_of_le (HB4.out j (by omega)) (Nat.pow_le_pow_right (by decide) (by omega))
            have h256 : (256 : Nat) ^ 3 = 16777216 := rfl
            rw [h256] at hb4
            have hql : q + j < s.size := by omega
            have HS := Lib.hid hsn; clear hsn
            generalize getN ((s.data.toList.drop q).take j) = v at *
            have eor := i64_or v (s[q + j]'(by omega)).toNat hb4 hc
            have ew3 : IntKind.i64.wrap ((v : Int) * 256) = (v : Int) * 256 := IntWalk.i64_in _ (by omega)
            have ew4 : wrap64 ((v : Int) * 256) = (v : Int) * 256 := IntWalk.wrap64_in _ (by omega)
            go_wp2
            go_roundw
            case rel => exact ⟨j + 1, by omega, by go_num, by rw [HS.out]; go_num, by first | rfl | trivial⟩
            case measure => simp [intOf]; omega
          · obtain rfl : j = K := by omega
            go_wp2
            go_ret
            exact ⟨by rw [HV.out]; rfl, rfl⟩
end Go.Proofs.YtdokkhgeeinnhaaDoor
namespace Go.Proofs.YtdokkhgeeinnhaaDoor
open Go.ChangeShapes Go.WideShapes Go.ChangeAt Go.RowKit Go.Great
set_option linter.unusedVariables false

/-- what each byte becomes -/
def tabZ : List Int := (List.range 256).map fun i => ((tN 8 i : Nat) : Int)
def tabC : Array Value := (tabZ.map (Value.int .u32)).toArray
def zeroC : Array Value := (List.replicate 256 (Value.int .u32 0)).toArray
theorem info60 : (Tryd.prog.info? 127).map (fun i => (i.zero, i.size)) = some (some (.agg zeroC), 256) := by kernel_rfl
theorem tab_size : tabC.size = 256 := by kernel_rfl
theorem zero_size : zeroC.size = 256 := by kernel_rfl
theorem tab_one : tabC.all (·.oneCell') = true := by kernel_rfl
theorem tab_get (i : Nat) (h : i < 256) : tabC[i]? = some (.int .u32 (tN 8 i : Nat)) := by
  simp [tabC, tabZ, h]
theorem zero60 : ∃ Z : Array Value, Z.size = 256 ∧ ∀ w, (zeroValue 127).run Tryd.prog w = .ok (.agg Z) w := ⟨zeroC, zero_size, (zero_of_info info60).1⟩
theorem size60 : (Tryd.prog.info? 127).map (·.size) = some 256 := (zero_of_info info60).2

theorem tabC_eq : tabC = (tabZ.map (Value.int .u32)).toArray := rfl
attribute [local irreducible] wpList Code.wp tabZ tabC
set_option maxRecDepth 1000000 in
set_option maxHeartbeats 1000000 in
theorem table_any (w : World) : Calls Tryd.prog 86 #[] w fun e w' => e = .returned (.agg tabC) ∧ w' = w.alloc (.cells tabC 127) := by
  obtain ⟨Z, hZs, hz⟩ := zero60
  have HZ := Lib.hid hz; clear hz
  have hT := run_loadVar_new (P := Tryd.prog) w 127 tabC 256 105 Tryd.underlying127 (by rw [tab_size]; exact size60)
  have HT := Lib.hid hT; clear hT
  go_enter Tryd.func86, Tryd.ntmps86
  apply wp_seq_k; intro K0 hK0
  have HK0 := Lib.hid hK0; clear hK0
  go_wp2
  refine HK0.out _ _ ?_
  clear HK0 K0
  apply wp_seq_k; intro K0 hK0
  apply wp_region_lit
  refine wpList_buildFlatArrTo rfl 127 105 256 _ rfl .u32 tabZ (some 1) rfl (by kernel_rfl) (by kernel_rfl) (by kernel_rfl) (by kernel_rfl) ?_
  refine wpList_frame (a' := { tmps := #[.pointer (some { block := w.heap.size, off := 0 }), .agg tabC], defers := [] }) (by rw [tabC_eq]; rfl) ?_
  refine wpList_store_rowTo rfl 127 _ _ rfl rfl w.heap.size tabC rfl rfl 127 Tryd.zeroCells127 (heap_alloc_last w _) (by rw [tab_size]; exact size60) (by rw [Tryd.zeroCells127_size, tab_size]) tab_one ?_
  rw [World.setRow_alloc_new]
  apply wpList_nil
  refine hK0 _ _ ?_
  apply wp_ret
  refine bodyPost_ret (v := .agg tabC) ?_ rfl ⟨rfl, rfl⟩
  rw [results_cell (p := 0) (ty := 127) (by kernel_rfl)]
  simp [asAddr, Result.andThen, HT.out]
end Go.Proofs.YtdokkhgeeinnhaaDoor
namespace Go.Proofs.YtdokkhgeeinnhaaDoor
open Go.ChangeShapes Go.WideShapes Go.ChangeAt Go.RowKit Go.Great
set_option linter.unusedVariables false

theorem xor_parts (v c : Nat) (hc : c < 256) : tN 8 (v ^^^ c) = v / 256 ^^^ tN 8 (v % 256 ^^^ c) := by
  have h1 : (v ^^^ c) % 2 ^ 8 = v % 256 ^^^ c := by
    rw [Nat.xor_mod_two_pow, Nat.mod_eq_of_lt (show c < 2 ^ 8 by omega)]
  have h2 : (v ^^^ c) / 2 ^ 8 = v / 256 := by
    have := Nat.shiftRight_xor_distrib (a := v) (b := c) (i := 8)
    simp only [Nat.shiftRight_eq_div_pow] at this
    rw [this, Nat.div_eq_of_lt (show c < 2 ^ 8 by omega), Nat.xor_zero]
  rw [tN_split 8 (v ^^^ c), h1, h2, Nat.xor_comm]
theorem u8_xorN (n m : Nat) (hn : n < 256) (hm : m < 256) : bits .xor .u8 (n : Int) (m : Int) = ((n ^^^ m : Nat) : Int) := by
  have hx := Nat.xor_lt_two_pow (n := 8) hn hm
  show IntKind.u8.wrap ((BitVec.ofInt 8 (n : Int) ^^^ BitVec.ofInt 8 (m : Int)).toNat : Nat) = _
  rw [bv_nat, bv_nat, BitVec.toNat_xor, BitVec.toNat_ofNat, BitVec.toNat_ofNat, Nat.mod_eq_of_lt (by omega), Nat.mod_eq_of_lt (by omega)]
  generalize n ^^^ m = z at *
  rw [IntKind.wrap_u8]; omega
set_option maxRecDepth 100000 in
theorem icrc_any (s : ByteArray) (w : World) (hs : s.size ≤ 2000000) : Calls Tryd.prog 70 #[.string s] w fun e w' => e = .returned (.int .i64 (crcL s.data.toList)) ∧ Below w.heap.size w w' := by
  obtain ⟨Z, hZs, hz⟩ := zero60
  have HZ := Lib.hid hz; clear hz
  go_enter Tryd.func70, Tryd.ntmps70
  go_wp2_with fail
  refine (table_any _).mono ?_
  rintro e w1 ⟨rfl, rfl⟩
  have hTg := fun i h => tab_get i h
  have hTs := tab_size; have hT1 := tab_one
  generalize tabC = T at *
  have hst := run_storeCells_new (P := Tryd.prog) (w.alloc (.cells T 127)) 127 Tryd.zeroCells127 T (by rw [hTs]; exact size60) (by rw [Tryd.zeroCells127_size, hTs]) hT1
  rw [show (w.alloc (.cells T 127)).heap.size = w.heap.size + 1 from by simp] at hst
  have hW : ((w.alloc (.cells T 127)).alloc (.cells T 127)).heap[(w.alloc (.cells T 127)).heap.size]? = some (.cells T 127) := heap_alloc_last _ _
  rw [show (w.alloc (.cells T 127)).heap.size = w.heap.size + 1 from by simp] at hW
  have hB : Below w.heap.size w ((w.alloc (.cells T 127)).alloc (.cells T 127)) := ((Below.refl _ _).alloc (Nat.le_refl _) _).alloc (by simp) _
  have HST := Lib.hid hst; clear hst
  go_wp2
  rw [HST.out]
  simp only [Result.andThen]
  rw [Oper.upon_skip]
  rename_i K1 h1 K h
  refine h _ _ ?_
  clear h HST
  generalize (w.alloc (.cells T 127)).alloc (.cells T 127) = W2 at *
  generalize w.heap.size + 1 = g at *
  have hcell : ∀ i : Nat, i < 256 → W2.cell? ⟨g, i, none⟩ = some (.int .u32 (tN 8 i : Nat)) := by
    intro i hi
    rw [cell_of_row _ _ i T _ _ hW]
    exact hTg i hi
  clear hW hTg hT1 hTs hZs HZ
  have HC := Lib.hid hcell; clear hcell
  apply wpList_nil
  refine h1 _ _ ?_
  clear h1
  have hlen : s.data.toList.length = s.size := by simp
  have hlt := fun k => crcF_lt (s.data.toList.take k) ones (by decide)
  go_wp2
  go_loopw [4, 9] (fun x i wr => ∃ k : Nat, k ≤ s.size ∧ i = .int .i64 k ∧ x = .int .u32 (crcF ones (s.data.toList.take k) : Nat) ∧ wr = W2) (fun _ i _ => s.size - (intOf i).toNat)
  case atStart => exact ⟨0, Nat.zero_le _, rfl, rfl, rfl⟩
  case round =>
    obtain ⟨k, hk, rfl, rfl, rfl⟩ := hrel
    have hkl := hlt k
    by_cases hlt1 : k < s.size
    · have z0 : (0 : Int) ≤ (k : Int) := by omega
      have z1 : (k : Int) < (s.size : Int) := by omega
      have hc := s[k].toNat_lt
      have hst : crcF ones (s.data.toList.take (k + 1)) = crcF ones (s.data.toList.take k) / 256 ^^^ tN 8 (crcF ones (s.data.toList.take k) % 256 ^^^ s[k].toNat) := by
        rw [← xor_parts _ _ hc, List.take_succ_eq_append_getElem (by simpa using hlt1), crcF_append]; rfl
      have HST := Lib.hid hst; clear hst
      generalize crcF ones (s.data.toList.take k) = v at *
      have hx8 : bits .xor .u8 ((v : Int) % 256) (s[k].toNat : Int) = ((v % 256 ^^^ s[k].toNat : Nat) : Int) := u8_xorN (v % 256) s[k].toNat (by omega) (by omega)
      have hil : v % 256 ^^^ s[k].toNat < 256 := Nat.xor_lt_two_pow (n := 8) (show v % 256 < 2 ^ 8 by omega) (by omega)
      generalize v % 256 ^^^ s[k].toNat = q at *
      have q0 : (0 : Int) ≤ (q : Int) := by omega
      have q1 : (q : Int) < 256 := by omega
      have hcl := HC.out q hil
      have htl := tN_lt 8 q (by omega)
      generalize tN 8 q = y at *
      have hx := u32_xor (v / 256) y (by omega) htl
      rw [show ((v / 256 : Nat) : Int) = (v : Int) / 256 by omega] at hx
      go_wp2
      exact ⟨⟨k + 1, by omega, by go_num, by rw [HST.out], trivial⟩, by simp [intOf]; omega⟩
    · obtain rfl : k = s.size := by omega
      rw [List.take_of_length_le (by omega)] at hkl ⊢
      have hx : wrap64 (bits .xor .u32 IntKind.u32.max (crcF ones s.data.toList : Nat)) = (crcL s.data.toList : Nat) := by
        have h := u32_xor ones (crcF ones s.data.toList) (by decide) hkl
        have hl := crcL_lt s.data.toList
        show wrap64 (bits .xor .u32 (ones : Nat) _) = _
        rw [h, Nat.xor_comm]
        unfold crcL at hl
        exact IntWalk.wrap64_in _ (by omega)
      have HX := Lib.hid hx; clear hx
      go_wp2
      go_ret
      exact ⟨by show Ending.returned (.int .i64 _) = _; rw [HX.out], hB⟩

set_option maxRecDepth 100000 in
theorem sealOf_any (n : Nat) (w : World) (hn : n < 4294967296) : Calls Tryd.prog 69 #[.int .i64 n] w fun e w' => e = .returned (.agg #[.int .u8 ((n : Int) % 256), .int .u8 ((n : Int) / 256 % 256), .int .u8 ((n : Int) / 65536 % 256), .int .u8 ((n : Int) / 16777216)]) ∧ Below w.heap.size w w' := by
  go_enter Tryd.func69, Tryd.ntmps69
  go_wp2
  have hB : ∀ o o', Below w.heap.size w ((w.alloc o).alloc o') := fun o o' => ((Below.refl _ _).alloc (Nat.le_refl _) _).alloc (by simp) _
  have HB := Lib.hid hB; clear hB
  go_loopw [5] (fun x wr =>
      (x = .int .i64 0 ∧ wr = (w.alloc (.cells #[.int .u8 0, .int .u8 0, .int .u8 0, .int .u8 0] 78)).alloc (.cells #[.int .u8 0, .int .u8 0, .int .u8 0, .int .u8 0] 78)) ∨
      (x = .int .i64 1 ∧ wr = (w.alloc (.cells #[.int .u8 0, .int .u8 0, .int .u8 0, .int .u8 0] 78)).alloc (.cells #[.int .u8 ((n : Int) % 256), .int .u8 0, .int .u8 0, .int .u8 0] 78)) ∨
      (x = .int .i64 2 ∧ wr = (w.alloc (.cells #[.int .u8 0, .int .u8 0, .int .u8 0, .int .u8 0] 78)).alloc (.cells #[.int .u8 ((n : Int) % 256), .int .u8 ((n : Int) / 256 % 256), .int .u8 0, .int .u8 0] 78)) ∨
      (x = .int .i64 3 ∧ wr = (w.alloc (.cells #[.int .u8 0, .int .u8 0, .int .u8 0, .int .u8 0] 78)).alloc (.cells #[.int .u8 ((n : Int) % 256), .int .u8 ((n : Int) / 256 % 256), .int .u8 ((n : Int) / 65536 % 256), .int .u8 0] 78)) ∨
      (x = .int .i64 4 ∧ wr = (w.alloc (.cells #[.int .u8 0, .int .u8 0, .int .u8 0, .int .u8 0] 78)).alloc (.cells #[.int .u8 ((n : Int) % 256), .int .u8 ((n : Int) / 256 % 256), .int .u8 ((n : Int) / 65536 % 256), .int .u8 ((n : Int) / 16777216)] 78)))
    (fun x _ => 4 - (intOf x).toNat)
  case atStart => exact .inl ⟨rfl, rfl⟩
  case round =>
    rcases hrel with ⟨rfl, rfl⟩ | ⟨rfl, rfl⟩ | ⟨rfl, rfl⟩ | ⟨rfl, rfl⟩ | ⟨rfl, rfl⟩
    · go_wp2
      exact ⟨by simp, by simp [intOf]⟩
    · go_wp2
      exact ⟨by simp, by simp [intOf]⟩
    · go_wp2
      exact ⟨by simp, by simp [intOf]⟩
    · go_wp2
      exact ⟨by simp, by simp [intOf]⟩
    · go_wp2
      refine bodyPost_ret (v := .agg #[.int .u8 ((n : Int) % 256), .int .u8 ((n : Int) / 256 % 256), .int .u8 ((n : Int) / 65536 % 256), .int .u8 ((n : Int) / 16777216)]) ?_ rfl ⟨rfl, HB.out _ _⟩
      rw [results_cell (p := 2) (ty := 78) (by kernel_rfl)]
      have hh := fun o c => heap_first w o c
      have hl := fun o c h => run_loadVar_row (P := Tryd.prog) ((w.alloc (.cells c 78)).alloc o) w.heap.size 78 78 c (0, 0) _ (hh o (.cells c 78)) Tryd.underlying78 rfl h
      simp [asAddr, Result.andThen]
      exact hl _ _ (by kernel_rfl)
end Go.Proofs.YtdokkhgeeinnhaaDoor
namespace Go.Proofs.YtdokkhgeeinnhaaDoor
open Go.ChangeShapes Go.WideShapes Go.ChangeAt Go.RowKit
set_option linter.unusedVariables false

/-- these numbers stand in block g, from its first cell on -/
def bytesAt (w : World) (g : Nat) (xs : List Int) : Prop := ∀ i, i < xs.length → w.cell? ⟨g, i, none⟩ = some (.int .u8 (xs.getD i 0))
theorem bytesAt_below {B g : Nat} {w w' : World} {xs : List Int} (h : bytesAt w g xs) (hb : Below B w w') (hg : g < B) : bytesAt w' g xs := fun i hi => by
  rw [hb.cell (p := ⟨g, i, none⟩) hg]; exact h i hi
theorem nums_len (l : List UInt8) : (numsOf l).length = l.length := by simp [numsOf]
theorem conv_at {P : Program} {w : World} {g n cap : Nat} {xs : List Int} (src e dst : TypeId) (hs : P.underlying src = some (.slice e)) (he : P.underlying e = some (.int .u8)) (hd : P.underlying dst = some .string)
    (h : bytesAt w g xs) (hn : xs.length = n) : (convert src dst (.slice (some ⟨g, 0, none⟩) n cap)).run P w = .ok (.string (strOfNums xs)) w :=
  run_convert_bytes_arg w src e hs he g 0 n cap xs hn (fun i hi => by rw [Nat.zero_add]; exact h i (by omega)) dst hd
theorem heap_setCells (b : Nat) : ∀ (vs : List Value) (o : Nat) (w : World) (k : Nat), k ≠ b → (w.setCells b o vs).heap[k]? = w.heap[k]?
  | [], _, _, _, _ => rfl
  | v :: r, o, w, k, h => by
    rw [World.setCells, heap_setCells b r (o + 1) _ k h]
    exact Below.heap_setCell w ⟨b, o, none⟩ v k h
theorem parts_setCells (b : Nat) : ∀ (vs : List Value) (o : Nat) (w : World), (w.setCells b o vs).os = w.os ∧ (w.setCells b o vs).tape = w.tape ∧ (w.setCells b o vs).output = w.output ∧ (w.setCells b o vs).heap.size = w.heap.size
  | [], _, _ => ⟨rfl, rfl, rfl, rfl⟩
  | v :: r, o, w => by
    obtain ⟨h1, h2, h3, h4⟩ := parts_setCells b r (o + 1) (w.setCell ⟨b, o, none⟩ v)
    rw [World.setCells]
    exact ⟨h1, h2, h3, h4.trans (by simp [World.setCell])⟩
theorem grown_setCells (w : World) (b o : Nat) (vs : List Value) : w.grownBy (w.setCells b o vs) (some b) := by
  obtain ⟨h1, h2, h3, h4⟩ := parts_setCells b vs o w
  exact ⟨h1, h2, h3, by omega, fun k hk hr => heap_setCells b vs o w k (fun e => hr (by rw [e]))⟩
theorem grown_at {w w1 w2 : World} {row : Option Nat} (h : Below w.heap.size w w1) (k : w1.grownBy w2 row) : w.grownBy w2 row :=
  grown_trans (grown_of_below' h row) k
theorem nums_seal (l : List UInt8) : numsOf (sealL l) = numsOf l ++ [(crcL l : Int) % 256, (crcL l : Int) / 256 % 256, (crcL l : Int) / 65536 % 256, (crcL l : Int) / 16777216] := by
  have hl := crcL_lt l
  unfold sealL
  generalize crcL l = n at *
  have e0 : ∀ m : Nat, (UInt8.ofNat (m % 256)).toNat = m % 256 := by intro m; simp
  rw [leB4]
  simp only [numsOf, List.map_append, List.map_cons, List.map_nil, e0]
  congr 1
  have : ((n / 16777216 % 256 : Nat) : Int) = (n : Int) / 16777216 := by omega
  rw [this]
  rfl

theorem bytes_room {w : World} {g n : Nat} {xs : List Int} (h : bytesAt w g xs) (hn : xs.length = n) (ys : List Int) (hc : ∀ j, j < ys.length → (w.cell? ⟨g, n + j, none⟩).isSome = true) :
    bytesAt (w.setCells g (0 + n * 1) (ys.map (Value.int .u8))) g (xs ++ ys) := by
  intro i hi
  rw [Nat.zero_add, Nat.mul_one]
  by_cases hlt : i < n
  · rw [World.cell?_setCells_out g _ n w ⟨g, i, none⟩ (fun _ _ => .inl hlt), h i (by omega)]
    simp [List.getD, List.getElem?_append_left (show i < xs.length by omega)]
  · have hij : i = n + (i - n) := by omega
    have hjl : i - n < ys.length := by simp at hi; omega
    have := World.cell?_setCells_in g (ys.map (Value.int .u8)) n w (fun j hj => hc j (by simpa using hj)) (i - n) (by simpa using hjl)
    rw [← hij] at this
    rw [this]
    simp [List.getD, List.getElem?_append_right (show xs.length ≤ i by omega), hn, hjl]
theorem bytes_own {w : World} {base n : Nat} {e : TypeId} {v : Value} {xs : List Int} (hown : w.ownsRow base e 1 v n (xs.map (Value.int .u8))) (hn : 0 < n) :
    ∃ g cap, v = .slice (some ⟨g, 0, none⟩) n cap ∧ base ≤ g ∧ g < w.heap.size ∧ bytesAt w g xs := by
  have hx : xs.length = n := by have := hown.1; simpa using this
  rcases ownsRow_shape hown with ⟨_, h0⟩ | ⟨g, cap, rfl, _, _, hb, hs, ho⟩
  · omega
  · refine ⟨g, cap, rfl, hb, hs, fun i hi => ?_⟩
    have := ho.cellAt i (by omega)
    rw [this]
    simp [List.getD, hi]
set_option maxRecDepth 100000 in
theorem withSeal_any (w : World) (g n cap : Nat) (l : List UInt8) (hl : l.length = n) (hn : n ≤ 1500000) (hle : n ≤ cap) (hg : g < w.heap.size) (hc : bytesAt w g (numsOf l))
    (hsp : n + 4 ≤ cap → ∀ j, j < 4 → (w.cell? ⟨g, n + j, none⟩).isSome = true ∧ w.frozen? ⟨g, n + j, none⟩ = false) :
    Calls Tryd.prog 48 #[.slice (some ⟨g, 0, none⟩) n cap] w fun e w' => ∃ g' cap', e = .returned (.slice (some ⟨g', 0, none⟩) (n + 4) cap') ∧ bytesAt w' g' (numsOf (sealL l)) ∧
      w.grownBy w' (if n + 4 ≤ cap then some g else none) ∧ (n + 4 ≤ cap ∧ g' = g ∨ w.heap.size ≤ g') ∧ g' < w'.heap.size := by
  have hconv := conv_at (P := Tryd.prog) (cap := cap) 22 5 9 Tryd.underlying22 Tryd.underlying5 Tryd.underlying9 hc (n := n) (by rw [nums_len]; exact hl)
  rw [nums_back] at hconv
  have hC := Lib.hid (fun w => icrc_any ⟨l.toArray⟩ w (by show l.toArray.size ≤ _; simp; omega))
  obtain ⟨i0, hi, hz0, hz1, hz2⟩ := info_parts info5
  have hse := nums_seal l
  have hcl := crcL_lt l
  have hdl : (ByteArray.mk l.toArray).data.toList = l := rfl
  rw [hdl] at hC
  generalize crcL l = q at *
  have HSE := Lib.hid hse; clear hse
  go_enter Tryd.func48, Tryd.ntmps48
  go_wp2_with fail
  refine (hC.out _).mono ?_
  clear hC
  rintro e w1 ⟨rfl, hb1⟩
  go_wp2_with fail
  refine (sealOf_any q _ hcl).mono ?_
  rintro e w2 ⟨rfl, hb2⟩
  have hb12 : Below w.heap.size w w2 := hb1.trans (hb2.mono hb1.size)
  clear hb1 hb2 hconv
  have hc2 := bytesAt_below hc hb12 hg
  have hsp2 : n + 4 ≤ cap → ∀ j, j < 4 → (w2.cell? ⟨g, n + j, none⟩).isSome = true ∧ w2.frozen? ⟨g, n + j, none⟩ = false := by
    intro h j hj
    rw [hb12.cell (p := ⟨g, n + j, none⟩) hg, hb12.frozen (p := ⟨g, n + j, none⟩) hg]
    exact hsp h j hj
  clear hsp hc
  have hg2 : g < w2.heap.size := Nat.lt_of_lt_of_le hg hb12.size
  have hne : w2.heap.size ≠ g := by omega
  go_wp2_with (at_builtin; refine wpList_append_arg _ rfl (.tmp 8) (.tmp 9) 22 rfl 5 i0 (.int .u8 0) 1 1 Tryd.underlying22 hi hz0 hz1 hz2 rfl (by decide) g 0 n cap ((numsOf l).map (.int .u8)) rfl ?lo ?olds ⟨w2.heap.size, 0, none⟩ 4 4 [.int .u8 ((q : Int) % 256), .int .u8 ((q : Int) / 256 % 256), .int .u8 ((q : Int) / 65536 % 256), .int .u8 ((q : Int) / 16777216)] rfl rfl ?c1 ?c2 ?spare ?maxLen ?bytes ?room ?grow)
  case lo => simp [nums_len, hl]
  case olds =>
    intro j u hj
    have hjl : j < (numsOf l).length := by
      rw [List.getElem?_map] at hj
      rcases Nat.lt_or_ge j (numsOf l).length with h | h
      · exact h
      · rw [List.getElem?_eq_none h] at hj; cases hj
    have hcj := hc2 j hjl
    rw [List.getElem?_map, List.getElem?_eq_getElem hjl] at hj
    have hu : Value.int .u8 ((numsOf l)[j]) = u := by simpa using hj
    rw [Nat.zero_add, Below.cell (p := ⟨g, j, none⟩) ((Below.refl w2.heap.size w2).alloc (Nat.le_refl _) _) hg2, hcj, ← hu]
    simp [List.getD, hjl]
  case c1 =>
    intro j u hj
    have : j < 4 := by
      have := (List.getElem?_eq_some_iff.1 hj).1
      simpa using this
    rcases (by omega : j = 0 ∨ j = 1 ∨ j = 2 ∨ j = 3) with rfl | rfl | rfl | rfl <;> simpa [Addr.add_lit] using hj
  case c2 => intro u hu; simp at hu; rcases hu with rfl | rfl | rfl | rfl <;> rfl
  case spare =>
    intro h j hj
    have := hsp2 h j (by simpa using hj)
    rw [Nat.zero_add, Nat.mul_one, Below.cell (p := ⟨g, n + j, none⟩) ((Below.refl w2.heap.size w2).alloc (Nat.le_refl _) _) hg2, Below.frozen (p := ⟨g, n + j, none⟩) ((Below.refl w2.heap.size w2).alloc (Nat.le_refl _) _) hg2]
    exact this
  case maxLen => unfold maxLen; omega
  case bytes => omega
  case room =>
    intro hroom
    have hB3 := hb12.alloc hb12.size (.cells #[.int .u8 ((q : Int) % 256), .int .u8 ((q : Int) / 256 % 256), .int .u8 ((q : Int) / 65536 % 256), .int .u8 ((q : Int) / 16777216)] 78)
    have hc3 := bytesAt_below hc2 ((Below.refl w2.heap.size w2).alloc (Nat.le_refl _) (.cells #[.int .u8 ((q : Int) % 256), .int .u8 ((q : Int) / 256 % 256), .int .u8 ((q : Int) / 65536 % 256), .int .u8 ((q : Int) / 16777216)] 78)) hg2
    have hc4 := bytes_room hc3 (n := n) (by rw [nums_len, hl]) [(q : Int) % 256, (q : Int) / 256 % 256, (q : Int) / 65536 % 256, (q : Int) / 16777216] (fun j hj => by
      rw [Below.cell (p := ⟨g, n + j, none⟩) ((Below.refl w2.heap.size w2).alloc (Nat.le_refl _) _) hg2]
      exact (hsp2 hroom j (by simpa using hj)).1)
    rw [← HSE.out] at hc4
    have hgr := grown_at hB3 (grown_setCells _ g (0 + n * 1) ([(q : Int) % 256, (q : Int) / 256 % 256, (q : Int) / 65536 % 256, (q : Int) / 16777216].map (Value.int .u8)))
    have R := And.intro hc4 (And.intro hgr hgr.size)
    have HR := Lib.hid R
    clear R hgr hc4 hc3 hB3
    go_wp2
    go_ret
    have R := HR.out
    simp only [List.map_cons, List.map_nil, Nat.zero_add, Nat.mul_one] at R
    exact ⟨g, ⟨_, rfl⟩, R.1, R.2.1, .inl rfl, Nat.lt_of_lt_of_le hg R.2.2⟩
  case grow =>
    intro hgr v' w' hown hgrow
    have hB3 := hb12.alloc hb12.size (.cells #[.int .u8 ((q : Int) % 256), .int .u8 ((q : Int) / 256 % 256), .int .u8 ((q : Int) / 65536 % 256), .int .u8 ((q : Int) / 16777216)] 78)
    have hgw := grown_at hB3 hgrow
    have hown2 : w'.ownsRow (w2.heap.size + 1) 5 1 v' (n + 4) ((numsOf (sealL l)).map (Value.int .u8)) := by
      rw [HSE.out, List.map_append]
      simpa using hown
    obtain ⟨g', cap', rfl, hb', hs', hby⟩ := bytes_own hown2 (by omega)
    have hle' : w.heap.size ≤ g' := by have := hb12.size; omega
    clear hown hown2 hB3
    go_wp2
    go_ret
    exact ⟨g', ⟨_, rfl⟩, hby, hgw, hle', hs'⟩
end Go.Proofs.YtdokkhgeeinnhaaDoor
namespace Go.Proofs.YtdokkhgeeinnhaaDoor
open Go.ChangeShapes Go.WideShapes Go.ChangeAt Go.RowKit
set_option linter.unusedVariables false

theorem row_bytes {W : World} {g cap : Nat} {s : ByteArray} {e : TypeId} (h : W.heap[g]? = some (.cells (bytesRow s cap) e ((bytesRow s cap).size, (bytesRow s cap).size + 1))) (hc : s.size ≤ cap) :
    bytesAt W g (numsOf s.data.toList) ∧ ∀ j, j < cap → (W.cell? ⟨g, j, none⟩).isSome = true ∧ W.frozen? ⟨g, j, none⟩ = false := by
  have hsz : (bytesRow s cap).size = cap := by
    have : s.data.size = s.size := rfl
    simp [bytesRow]; omega
  refine ⟨fun i hi => ?_, fun j hj => ⟨?_, ?_⟩⟩
  · have hi2 : i < s.data.size := by simpa [numsOf] using hi
    rw [cell_of_row _ _ i _ _ _ h, bytesRow_at s cap i hi2]
    simp [List.getD, numsOf, Array.getElem?_eq_getElem hi2]
  · rw [cell_of_row _ _ j _ _ _ h, Array.getElem?_eq_getElem (by omega)]; rfl
  · simp only [World.frozen?, h, hsz]
    simp; omega
theorem sealL_nums_len (l : List UInt8) : (numsOf (sealL l)).length = l.length + 4 := by rw [nums_len, sealL_len]
theorem iseal_any (s : ByteArray) (w : World) (hs : s.size ≤ 1500000) : Calls Tryd.prog 27 #[.string s] w fun e w' => e = .returned (.string (sealS s)) ∧ Below w.heap.size w w' := by
  have hcv := run_bytes_of_string (P := Tryd.prog) w 9 22 5 s Tryd.underlying9 Tryd.underlying22 Tryd.underlying5
  have hcap := grownCap_ge w s.size 0 5
  generalize grownCap w s.size 0 5 = cap at *
  have hlen : s.data.toList.length = s.size := by simp
  go_enter Tryd.func27, Tryd.ntmps27
  go_wp2_with fail
  have hW : ((w.alloc (.cells (bytesRow s cap) 5 ((bytesRow s cap).size, (bytesRow s cap).size + 1))).drew).heap[w.heap.size]? = some (.cells (bytesRow s cap) 5 ((bytesRow s cap).size, (bytesRow s cap).size + 1)) := by
    show (w.heap.push _)[w.heap.size]? = _
    simp
  have hB : Below w.heap.size w ((w.alloc (.cells (bytesRow s cap) 5 ((bytesRow s cap).size, (bytesRow s cap).size + 1))).drew) := ((Below.refl _ _).alloc (Nat.le_refl _) _).drew
  have hsz : ((w.alloc (.cells (bytesRow s cap) 5 ((bytesRow s cap).size, (bytesRow s cap).size + 1))).drew).heap.size = w.heap.size + 1 := by simp
  generalize (w.alloc (.cells (bytesRow s cap) 5 ((bytesRow s cap).size, (bytesRow s cap).size + 1))).drew = W at *
  obtain ⟨hby, hsp⟩ := row_bytes hW hcap
  refine (withSeal_any W w.heap.size s.size cap s.data.toList hlen hs hcap (by omega) hby (fun h j hj => hsp _ (by omega))).mono ?_
  rintro e w1 ⟨g', cap', rfl, hb1, hgr, hg1, hg2⟩
  have hB1 : Below w.heap.size w w1 := hB.grown hgr (by omega) (fun k hk => by
    split at hk
    · cases hk; exact Nat.le_refl _
    · cases hk)
  have hcv2 := conv_at (P := Tryd.prog) (cap := cap') 22 5 9 Tryd.underlying22 Tryd.underlying5 Tryd.underlying9 hb1 (n := s.size + 4) (by rw [sealL_nums_len, hlen])
  rw [nums_back] at hcv2
  clear hgr hg1 hcv hsp hby
  go_wp2
  go_ret
  exact ⟨rfl, hB1⟩

theorem getD_eq {xs ys : List Int} (hl : xs.length = ys.length) (h : ∀ j, j < xs.length → xs.getD j 0 = ys.getD j 0) : xs = ys := by
  apply List.ext_getElem hl
  intro i h1 h2
  have := h i h1
  simpa [List.getD, h1, h2] using this
set_option maxRecDepth 100000 in
theorem equal_any (w : World) (g h n m c d : Nat) (xs ys : List Int) (hx : bytesAt w g xs) (hy : bytesAt w h ys) (hn : xs.length = n) (hm : ys.length = m) (hs : n ≤ 2000000) (ht : m ≤ 2000000) :
    Calls Tryd.prog 75 #[.slice (some ⟨g, 0, none⟩) n c, .slice (some ⟨h, 0, none⟩) m d] w fun e w' => e = .returned (.bool (decide (xs = ys))) ∧ ∃ q, w' = w.drewN q := by
  by_cases hnm : n = m
  · subst hnm
    go_enter Tryd.func75, Tryd.ntmps75
    go_wp2
    go_loopw [13] (fun i wr => ∃ k : Nat, k ≤ n ∧ i = .int .i64 k ∧ (∀ j, j < k → xs.getD j 0 = ys.getD j 0) ∧ ∃ q, wr = w.drewN q) (fun i _ => n - (intOf i).toNat)
    case atStart => exact ⟨0, Nat.zero_le _, rfl, fun j hj => by omega, 0, rfl⟩
    case round =>
      obtain ⟨k, hk, rfl, heq, q, rfl⟩ := hrel
      by_cases hlt : k < n
      · have z0 : (0 : Int) ≤ (k : Int) := by omega
        have z1 : (k : Int) < (n : Int) := by omega
        have c1 : w.cell? ⟨g, k, none⟩ = some (.int .u8 (xs.getD k 0)) := hx k (by omega)
        have c2 : w.cell? ⟨h, k, none⟩ = some (.int .u8 (ys.getD k 0)) := hy k (by omega)
        generalize hxa : xs.getD k 0 = a at *
        generalize hyb : ys.getD k 0 = b at *
        by_cases hab : a = b
        · subst hab
          go_wp2
          go_quiet (fail)
          go_wp2
          refine ⟨⟨k + 1, by omega, by go_num, fun j hj => ?_, q + nq, ?_⟩, by simp [intOf]; omega⟩
          · rcases (by omega : j < k ∨ j = k) with h1 | rfl
            · exact heq j h1
            · rw [hxa, hyb]
          · simp
        · have hne : decide (xs = ys) = false := by
            simp; intro e; subst e; exact hab (hxa.symm.trans hyb)
          go_wp2
          go_quiet (fail)
          go_wp2
          go_ret
          exact ⟨by rw [hne]; rfl, q + nq, by simp⟩
      · obtain rfl : k = n := by omega
        have he : decide (xs = ys) = true := by simp; exact getD_eq (by omega) (fun j hj => heq j (by omega))
        go_wp2
        go_ret
        exact ⟨by rw [he]; rfl, q, rfl⟩
  · have hne : decide (xs = ys) = false := by simp; intro e; subst e; omega
    have z1 : ¬ (n : Int) = (m : Int) := by omega
    go_enter Tryd.func75, Tryd.ntmps75
    go_wp2
    go_ret
    exact ⟨by rw [hne]; rfl, 0, rfl⟩
end Go.Proofs.YtdokkhgeeinnhaaDoor
namespace Go.Proofs.YtdokkhgeeinnhaaDoor
open Go.ChangeShapes Go.WideShapes Go.ChangeAt Go.RowKit
set_option linter.unusedVariables false

theorem nums_inj {a b : List UInt8} (h : numsOf a = numsOf b) : a = b := by
  have h1 := nums_back a
  rw [h, nums_back] at h1
  have := congrArg (fun s : ByteArray => s.data.toList) h1
  simpa using this.symm
theorem bytesAt_take {w : World} {g : Nat} {l : List UInt8} (h : bytesAt w g (numsOf l)) (n : Nat) : bytesAt w g (numsOf (l.take n)) := by
  intro i hi
  have hi1 : i < min n l.length := by simpa [numsOf] using hi
  rw [h i (by simp [numsOf]; omega)]
  simp [List.getD, numsOf, List.getElem?_take, show i < n by omega]
theorem bytesAt_drewN {w : World} {g : Nat} {xs : List Int} (h : bytesAt w g xs) (q : Nat) : bytesAt (w.drewN q) g xs := fun i hi => h i hi
theorem iopen_any (s : ByteArray) (w : World) (hs : s.size ≤ 1500000) : Calls Tryd.prog 55 #[.string s] w fun e w' => e = .returned (openV (openL s.data.toList)) ∧ Below w.heap.size w w' := by
  have hlen : s.data.toList.length = s.size := by simp
  by_cases h4 : 4 ≤ s.size
  · have hcv := run_bytes_of_string (P := Tryd.prog) w 9 22 5 s Tryd.underlying9 Tryd.underlying22 Tryd.underlying5
    have hcap := grownCap_ge w s.size 0 5
    generalize grownCap w s.size 0 5 = cap at *
    have z1 : ¬ (s.size : Int) < 4 := by omega
    have z2 : (0 : Int) ≤ (s.size : Int) - 4 := by omega
    have z3 : (s.size : Int) - 4 ≤ (cap : Int) := by omega
    have ew : IntKind.i64.wrap ((s.size : Int) - 4) = (s.size : Int) - 4 := IntWalk.i64_in _ (by omega)
    have et : ((s.size : Int) - 4).toNat = s.size - 4 := by omega
    go_enter Tryd.func55, Tryd.ntmps55
    go_wp2_with fail
    have hW : ((w.alloc (.cells (bytesRow s cap) 5 ((bytesRow s cap).size, (bytesRow s cap).size + 1))).drew).heap[w.heap.size]? = some (.cells (bytesRow s cap) 5 ((bytesRow s cap).size, (bytesRow s cap).size + 1)) := by
      show (w.heap.push _)[w.heap.size]? = _
      simp
    have hB : Below w.heap.size w ((w.alloc (.cells (bytesRow s cap) 5 ((bytesRow s cap).size, (bytesRow s cap).size + 1))).drew) := ((Below.refl _ _).alloc (Nat.le_refl _) _).drew
    have hsz : ((w.alloc (.cells (bytesRow s cap) 5 ((bytesRow s cap).size, (bytesRow s cap).size + 1))).drew).heap.size = w.heap.size + 1 := by simp
    generalize (w.alloc (.cells (bytesRow s cap) 5 ((bytesRow s cap).size, (bytesRow s cap).size + 1))).drew = W at *
    obtain ⟨hby, hsp⟩ := row_bytes hW hcap
    have hbt := bytesAt_take hby (s.size - 4)
    have hol : openL s.data.toList = if sealL (s.data.toList.take (s.size - 4)) = s.data.toList then some (s.data.toList.take (s.size - 4)) else none := by
      unfold openL
      rw [hlen]
      simp [h4]
    have hll : (s.data.toList.take (s.size - 4)).length = s.size - 4 := by simp
    generalize s.data.toList.take (s.size - 4) = l at *
    have HOL := Lib.hid hol; clear hol
    refine (withSeal_any W w.heap.size (s.size - 4) (s.size - 4) l hll (by omega) (Nat.le_refl _) (by omega) hbt (fun h => by omega)).mono ?_
    rintro e w1 ⟨g', cap', rfl, hb1, hgr, hg1, hg2⟩
    rw [if_neg (by omega)] at hgr
    have hB2 : Below W.heap.size W w1 := (Below.refl _ W).grown hgr (Nat.le_refl _) (fun k hk => by cases hk)
    have hB1 : Below w.heap.size w w1 := hB.trans (hB2.mono (by omega))
    have hby1 := bytesAt_below hby hB2 (by omega)
    have hbt1 := bytesAt_below hbt hB2 (by omega)
    have H6 : s.size - 4 + 4 = s.size := by omega
    rw [H6]
    clear hgr hg1 hcv hsp hby hbt hW
    go_wp2_with fail
    refine (equal_any w1 g' w.heap.size s.size s.size cap' cap _ _ hb1 hby1 (by rw [sealL_nums_len, hll, H6]) (by rw [nums_len, hlen]) (by omega) (by omega)).mono ?_
    rintro e w2 ⟨rfl, q, rfl⟩
    have hB3 := below_drewN' hB1 q
    by_cases hq : sealL l = s.data.toList
    · have hd : decide (numsOf (sealL l) = numsOf s.data.toList) = true := by rw [hq]; simp
      have hcv3 := conv_at (P := Tryd.prog) (cap := s.size - 4) 22 5 9 Tryd.underlying22 Tryd.underlying5 Tryd.underlying9 (bytesAt_drewN hbt1 q) (n := s.size - 4) (by rw [nums_len, hll])
      rw [nums_back] at hcv3
      have ho : openV (openL s.data.toList) = .tuple #[.string ⟨l.toArray⟩, .bool true] := by rw [HOL.out, if_pos hq]; rfl
      have HO := Lib.hid ho; clear ho
      clear hby1 hbt1 hb1 hB2 hB1 hB
      go_wp2
      go_ret2
      exact ⟨HO.out ▸ rfl, hB3⟩
    · have hd : decide (numsOf (sealL l) = numsOf s.data.toList) = false := by simp; exact fun e => hq (nums_inj e)
      have ho : openV (openL s.data.toList) = .tuple #[.string ByteArray.empty, .bool false] := by rw [HOL.out, if_neg hq]; rfl
      have HO := Lib.hid ho; clear ho
      clear hby1 hbt1 hb1 hB2 hB1 hB
      go_wp2
      go_ret2
      exact ⟨HO.out ▸ rfl, hB3⟩
  · have ho : openV (openL s.data.toList) = .tuple #[.string ByteArray.empty, .bool false] := by
      unfold openL
      rw [if_neg (fun h => h4 (by omega))]; rfl
    have HO := Lib.hid ho; clear ho
    have z1 : (s.size : Int) < 4 := by omega
    go_enter Tryd.func55, Tryd.ntmps55
    go_wp2
    go_ret2
    exact ⟨HO.out ▸ rfl, Below.refl _ _⟩
end Go.Proofs.YtdokkhgeeinnhaaDoor
namespace Go.Proofs.YtdokkhgeeinnhaaDoor
open Go.ChangeShapes Go.WideShapes Go.ChangeAt Go.RowKit Go.BigFrame Go.Shelf
attribute [local go_sem] Oper.semAt_some
set_option linter.unusedVariables false

theorem cell0_of {w : World} {b : Nat} {v : Value} {t : TypeId} (h : w.heap[b]? = some (.cells #[v] t (0, 0))) : w.cell? ⟨b, 0, none⟩ = some v := by rw [cell_of_row _ _ 0 _ _ _ h]; rfl
theorem frozen0_of {w : World} {b : Nat} {v : Value} {t : TypeId} (h : w.heap[b]? = some (.cells #[v] t (0, 0))) : w.frozen? ⟨b, 0, none⟩ = false := by simp [World.frozen?, h]
theorem own_five5 {w : World} {base : Nat} (hb : base ≤ w.heap.size) (e : TypeId) (a b c d f : Value) :
    (w.alloc (.cells #[a, b, c, d, f] e)).ownsRow base e 1 (.slice (some ⟨w.heap.size, 0, none⟩) 5 5) 5 [a, b, c, d, f] := own_five hb e a b c d f
theorem own_lt5 {w : World} {base g n c : Nat} {e : TypeId} {xs : List Value} (h : w.ownsRow base e 1 (.slice (some ⟨g, 0, none⟩) n c) n xs) : g < w.heap.size := (h.lt g rfl).2
/-- the first slice put into its box -/
theorem put_first {w W : World} {bK gL n c : Nat} {xs : List Value} {e t : TypeId} {v : Value} {bx : Array Value} {T : TypeId} (hB : Below w.heap.size w W) (hz : w.heap.size ≤ bK) (hx : W.heap[w.heap.size]? = some (.cells bx T (0, 0))) (hn : w.heap.size ≠ bK)
    (hk : W.heap[bK]? = some (.cells #[.slice none 0 0] t (0, 0))) (ho : W.ownsRow w.heap.size e 1 (.slice (some ⟨gL, 0, none⟩) n c) n xs) (hne : bK ≠ gL) :
    Below w.heap.size w (W.setCell ⟨bK, 0, none⟩ v) ∧ (W.setCell ⟨bK, 0, none⟩ v).heap[w.heap.size]? = some (.cells bx T (0, 0)) ∧ Boxed (W.setCell ⟨bK, 0, none⟩ v) bK t v ∧ (W.setCell ⟨bK, 0, none⟩ v).ownsRow w.heap.size e 1 (.slice (some ⟨gL, 0, none⟩) n c) n xs :=
  ⟨hB.setCell (p := ⟨bK, 0, none⟩) hz v, (Below.heap_setCell _ _ _ _ hn).trans hx, set_cells v hk, ho.kept (Lib.grownBy_setCell W bK 0 v) (.inr fun e => hne (Option.some.inj e).symm)⟩
theorem infoI : (Tryd.prog.info? 3).map (fun i => (i.zero, i.size, i.bytes)) = some (some (.int .i64 0), 1, 8) := by kernel_rfl
/-- the numbers that stand ahead of the load, as far as some keys -/
def numL (f : F4) (pre : List K2) : List Int := [1, 13 + 2 * (f.2.1.length : Int), f.1.1, f.1.2, (f.2.1.length : Int)] ++ pre.flatMap fun k => [k.1, k.2]
theorem flat_len : ∀ l : List K2, (l.flatMap fun k => [k.1, k.2]).length = 2 * l.length
  | [] => rfl
  | k :: r => by simp only [List.flatMap_cons, List.length_append, flat_len r, List.length_cons, List.length_nil]; omega
theorem numL_len (f : F4) (pre : List K2) : (numL f pre).length = 5 + 2 * pre.length := by
  simp only [numL, List.length_append, flat_len, List.length_cons, List.length_nil]
theorem numL_snoc (f : F4) (pre : List K2) (k : K2) : numL f (pre ++ [k]) = numL f pre ++ [k.1, k.2] := by simp [numL]
theorem numL_hd {f : F4} (h : frOkB f = true) : numsOf (hdL f f.2.1.length) = numL f f.2.1 := by
  have h1 := hd_nums h f.2.1.length
  obtain ⟨_, _, hc, _⟩ := (frOk_iff f).1 h
  obtain ⟨_, hr, _, _⟩ := (codeOk_iff f.2).1 hc
  have h2 : ∀ l : List K2, (∀ k ∈ l, keyOkB k = true) → numsOf (kL l) = l.flatMap fun k => [k.1, k.2] := by
    intro l
    induction l with
    | nil => intro _; rfl
    | cons k r ih =>
      intro hk
      have h3 := kOk (hk k (by simp))
      show ((b8 k.1).toNat : Int) :: ((b8 k.2).toNat : Int) :: numsOf (kL r) = _
      rw [ih (fun x hx => hk x (by simp [hx])), b8_num (by omega) (by omega), b8_num (by omega) (by omega)]
      rfl
  have h4 := h2 (f.2.1.take f.2.1.length) (fun k hk => ((keysR_iff _).1 hr).1 k (List.mem_of_mem_take hk))
  rw [h4, List.take_length] at h1
  have hinj : ∀ (a b : List Int), a.map (Value.int .u8) = b.map (Value.int .u8) → a = b := by
    intro a
    induction a with
    | nil => intro b hb; cases b with | nil => rfl | cons _ _ => cases hb
    | cons x r ih => intro b hb; cases b with
      | nil => cases hb
      | cons z t =>
        simp only [List.map_cons, List.cons.injEq] at hb
        obtain ⟨e1, e2⟩ := hb
        cases e1
        rw [ih t e2]
  refine hinj _ _ ?_
  rw [h1]
  simp only [numL, List.map_append, List.map_cons, List.map_nil]
theorem numL_bound {f : F4} (h : frOkB f = true) : ∀ z ∈ numL f f.2.1, 0 ≤ z ∧ z ≤ 255 := by
  rw [← numL_hd h]
  intro z hz
  obtain ⟨c, -, rfl⟩ := List.mem_map.1 hz
  have := c.toNat_lt
  omega
theorem put_one {z : Int} (h0 : 0 ≤ z) (h1 : z ≤ 255) : putV z 1 = ⟨#[b8 z]⟩ := by
  unfold putV
  rw [if_neg (by omega)]
  show (⟨(beL z.toNat 1).toArray⟩ : ByteArray) = _
  have : beL z.toNat 1 = [UInt8.ofNat (z.toNat % 256)] := rfl
  rw [this, Nat.mod_eq_of_lt (by omega)]
  rfl
set_option maxRecDepth 100000 in
set_option maxHeartbeats 8000000 in
theorem iputframe_yes (p q : Int) (v : Value) (ks : List K2) (y : ByteArray) (w : World) (h : keysAt w v ks) (hok : frOkB ((p, q), (ks, y)) = true) :
    Calls Tryd.prog 9 #[.agg #[.int .i64 p, .int .i64 q, v, .string y]] w fun e w' => e = .returned (.string (putS ((p, q), (ks, y)))) ∧ Below w.heap.size w w' := by
  refine (callsIn_wide (n := 9)).1 ?_
  obtain ⟨⟨a1, a2⟩, ⟨b1, b2⟩, hc, h0⟩ := (frOk_iff _).1 hok
  obtain ⟨h6, hr, h4, _⟩ := (codeOk_iff _).1 hc
  dsimp only at a1 a2 b1 b2 h0 h6 hr h4
  clear hc hr
  have hx0 := keysIn0_of h
  have hb := (Below.refl w.heap.size w).alloc (Nat.le_refl _) (.cells #[.int .i64 p, .int .i64 q, v, .string y] 28)
  have HB := Lib.hid hb
  have RX := Lib.hid (heap_alloc_new w (.cells #[.int .i64 p, .int .i64 q, v, .string y] 28))
  have SF := Lib.hid (iframeok_any p q v ks y (w.alloc (.cells #[.int .i64 p, .int .i64 q, v, .string y] 28)) (keysAt_below h hb) (by omega))
  rw [hok] at SF
  obtain ⟨ax, cx, rfl, -, -⟩ := h
  clear hb
  have HFL := Lib.hid (fun w => (iframelen_any ks.length (by omega) w).mono fun e w' (h : _ ∧ w' = w) => And.intro h.1 (h.2 ▸ Below.refl w.heap.size w : Below w.heap.size w w'))
  refine callsIn_of_wp_marks Tryd.func9 rfl trivial ?_ rfl
  simp only [Tryd.ntmps9, List.size_toArray, List.length_cons, List.length_nil, Nat.reduceAdd, Nat.reduceSub, Array.replicate_succ, Array.replicate_zero, List.push_toArray, List.append_toArray, List.nil_append, List.cons_append]
  have LF := fr_load RX.out (Below.refl _ _)
  gi_wp2
  generalize w.alloc (.cells #[.int .i64 p, .int .i64 q, .slice ax ks.length cx, .string y] 28) = W at *
  refine ⟨trivial, (callsIn_wide.2 SF.out).mono ?_⟩
  rintro e w1 ⟨rfl, hb1⟩
  clear LF SF
  replace HB := Lib.hid (HB.out.trans (hb1.mono HB.out.size))
  replace RX := Lib.hid ((hb1.block _ (Array.getElem?_eq_some_iff.1 RX.out).1).trans RX.out)
  clear hb1
  obtain ⟨x0, x1, x2, x3⟩ := fr_cells RX.out (Below.refl _ _)
  gi_wp2
  clear x0 x1 x2 x3
  refine wpIn_wide.2 (Code.wp_mono OnlyNormal.imp ?_)
  refine Code.wp_mono (Q := fun e a' w' => e = .normal ∧ ∃ bK gL, a' = { tmps := #[.agg #[.int .i64 p, .int .i64 q, .slice ax ks.length cx, .string y], .pointer (some ⟨w.heap.size, 0, none⟩), .string ⟨#[]⟩, .int .i64 (ks.length : Int), .pointer (some ⟨bK, 0, none⟩), undef, undef, undef, undef, .agg #[.int .i64 p, .int .i64 q, .slice ax ks.length cx, .string y], .bool true, .bool false, .pointer (some ⟨w.heap.size, 2, none⟩), .pointer (some ⟨w.heap.size, 2, none⟩), .slice ax ks.length cx, .int .i64 (ks.length : Int), .int .i64 (ks.length : Int), .int .i64 (13 + 2 * (ks.length : Int)), .pointer (some ⟨w.heap.size, 0, none⟩), .int .i64 p, .pointer (some ⟨w.heap.size, 1, none⟩), .int .i64 q, .int .i64 (ks.length : Int), .slice (some ⟨gL, 0, none⟩) 5 5, undef, undef, undef, undef, undef, undef, undef, undef, undef, undef, undef, undef, undef, undef, undef, undef, undef, undef, undef, undef, undef, undef, undef, undef, undef, undef, undef, undef, undef, undef, undef, undef, undef], defers := [] } ∧ w.heap.size < bK ∧ Boxed w' bK 45 (.slice (some ⟨gL, 0, none⟩) 5 5) ∧ w'.ownsRow w.heap.size 3 1 (.slice (some ⟨gL, 0, none⟩) 5 5) 5 [.int .i64 1, .int .i64 (13 + 2 * (ks.length : Int)), .int .i64 p, .int .i64 q, .int .i64 (ks.length : Int)] ∧ w'.heap[w.heap.size]? = some (.cells #[.int .i64 p, .int .i64 q, .slice ax ks.length cx, .string y] 28 (0, 0)) ∧ Below w.heap.size w w') ?imp ?reg
  case reg =>
    have L0 : ∀ w' : World, w'.heap[w.heap.size]? = some (.cells #[.int .i64 p, .int .i64 q, .slice ax ks.length cx, .string y] 28 (0, 0)) → (loadVar 3 ⟨w.heap.size, 0, none⟩).run Tryd.prog w' = .ok (.int .i64 p) w' := fun w' h => load_one agg_int (fr_cells h (Below.refl _ _)).1
    have L1 : ∀ w' : World, w'.heap[w.heap.size]? = some (.cells #[.int .i64 p, .int .i64 q, .slice ax ks.length cx, .string y] 28 (0, 0)) → (loadVar 3 ⟨w.heap.size, 1, none⟩).run Tryd.prog w' = .ok (.int .i64 q) w' := fun w' h => load_one agg_int (fr_cells h (Below.refl _ _)).2.1
    refine wp_region_G (fun w' => w'.heap[w.heap.size]? = some (.cells #[.int .i64 p, .int .i64 q, .slice ax ks.length cx, .string y] 28 (0, 0))) (by kernel_rfl) ?_
    replace HB := Lib.hid (HB.out.drew)
    replace RX := Lib.hid (show (World.drew _).heap[_]? = _ from RX.out)
    generalize (w1).drew = wD at *
    refine wpG_seg [true, false, true, true, true, true, true] [1, 8] 3 (by kernel_rfl) (fun _ _ _ _ _ h => nomatch h.1) (by kernel_rfl) RX.out ?_
    try simp only [maskRows]
    repeat (first
      | go_big_quiet_skip
      | (go_big_quiet_want
         first
           | (go_big_quiet_op; go_big_quiet_on)
           | (refine q_load 3 _ _ _ rfl rfl L0 ?_; simp only [Act.put, List.setIfInBounds_toArray, List.set_cons_zero, List.set_cons_succ]; go_big_quiet_on)
           | (refine q_load 3 _ _ _ rfl rfl L1 ?_; simp only [Act.put, List.setIfInBounds_toArray, List.set_cons_zero, List.set_cons_succ]; go_big_quiet_on)
           | (go_big_quiet_op; refine ⟨_, fun _ _ => rfl, ?_⟩; go_big_quiet_on)
           | (go_big_quiet_op; refine ⟨_, fun _ _ _ => rfl, ?_⟩; go_big_quiet_on)))
    refine wpQuiet_nil ?_
    refine List.forall_mem_cons.2 ⟨?_, List.forall_mem_singleton.2 ?_⟩
    · refine segt_run rfl (by rfl) (fun K hK => ?_)
      go_simp
      refine (HFL.out _).mono ?_
      rintro e w3 ⟨rfl, hb⟩
      dsimp only
      replace HB := Lib.hid (HB.out.trans (hb.mono HB.out.size))
      replace RX := Lib.hid ((hb.block _ (Array.getElem?_eq_some_iff.1 RX.out).1).trans RX.out)
      clear hb
      refine hK _ _ ⟨_, fun _ h => h, RX.out, ?_⟩
      clear hK K
      try simp only [Act.put, List.setIfInBounds_toArray, List.set_cons_zero, List.set_cons_succ]
      refine wpG_seg [] [7, 8] 2 (by kernel_rfl) (fun _ _ _ _ _ h => nomatch h.1) (by kernel_rfl) RX.out ?_
      try simp only [maskRows]
      refine wpQuiet_nil ?_
      refine List.forall_mem_cons.2 ⟨?_, List.forall_mem_singleton.2 ?_⟩
      · refine segt_run rfl (by rfl) (fun K hK => ?_)
        go_simp
        have OL := Lib.hid (own_five5 (base := w.heap.size) (w := w3) HB.out.size 3 (.int .i64 1) (.int .i64 (13 + 2 * (ks.length : Int))) (.int .i64 p) (.int .i64 q) (.int .i64 (ks.length : Int)))
        replace HB := Lib.hid (HB.out.alloc HB.out.size (.cells #[.int .i64 1, .int .i64 (13 + 2 * (ks.length : Int)), .int .i64 p, .int .i64 q, .int .i64 (ks.length : Int)] 3))
        replace RX := Lib.hid ((Below.heap_alloc _ (.cells #[.int .i64 1, .int .i64 (13 + 2 * (ks.length : Int)), .int .i64 p, .int .i64 q, .int .i64 (ks.length : Int)] 3) _ (Array.getElem?_eq_some_iff.1 RX.out).1).trans RX.out)
        generalize World.alloc (w3) (.cells #[.int .i64 1, .int .i64 (13 + 2 * (ks.length : Int)), .int .i64 p, .int .i64 q, .int .i64 (ks.length : Int)] 3) = w4 at *
        generalize (w3).heap.size = gL at *
        refine hK _ _ ⟨_, fun _ h => h, RX.out, ?_⟩
        clear hK K
        try simp only [Act.put, List.setIfInBounds_toArray, List.set_cons_zero, List.set_cons_succ]
        refine wpG_seg [] [8] 1 (by kernel_rfl) (fun _ _ _ _ _ h => nomatch h.1) (by kernel_rfl) RX.out ?_
        try simp only [maskRows]
        refine wpQuiet_nil ?_
        refine List.forall_mem_singleton.2 ?_
        refine segt_run rfl (by rfl) (fun K hK => ?_)
        go_simp
        have RKn := Lib.hid (heap_alloc_new (w4) (.cells #[.slice none 0 0] 45))
        have HZ := Lib.hid HB.out.size
        have NB := Lib.hid (Nat.ne_of_lt (Array.getElem?_eq_some_iff.1 RX.out).1)
        have NK := Lib.hid (Nat.ne_of_gt (own_lt5 OL.out))
        replace HB := Lib.hid (HB.out.alloc HB.out.size (.cells #[.slice none 0 0] 45))
        replace RX := Lib.hid ((Below.heap_alloc _ (.cells #[.slice none 0 0] 45) _ (Array.getElem?_eq_some_iff.1 RX.out).1).trans RX.out)
        replace OL := Lib.hid (OL.out.alloc (.cells #[.slice none 0 0] 45))
        have RK := RKn
        clear RKn
        generalize World.alloc (w4) (.cells #[.slice none 0 0] 45) = w5 at *
        generalize (w4).heap.size = bK at *
        refine hK _ _ ⟨_, fun _ h => h, RX.out, ?_⟩
        clear hK K
        try simp only [Act.put, List.setIfInBounds_toArray, List.set_cons_zero, List.set_cons_succ]
        refine wpG_seg [] [9] 0 (by kernel_rfl) (fun _ _ _ _ _ h => nomatch h.1) (by kernel_rfl) RX.out ?_
        try simp only [maskRows]
        refine wpQuiet_nil ?_
        refine List.forall_mem_singleton.2 ?_
        have e0 := cell0_of RK.out
        have ef := frozen0_of RK.out
        have el := (Array.getElem?_eq_some_iff.1 RK.out).1
        refine segt_run rfl (by rfl) (fun K hK => ?_)
        go_simp
        have hF := put_first (v := (.slice (some ⟨gL, 0, none⟩) 5 5)) HB.out HZ.out RX.out NB.out RK.out OL.out NK.out
        replace HB := Lib.hid hF.1
        replace RX := Lib.hid hF.2.1
        have BK := Lib.hid hF.2.2.1
        replace OL := Lib.hid hF.2.2.2
        clear hF e0 ef el RK
        refine hK _ _ ⟨_, fun _ h => h, RX.out, ?_⟩
        clear hK K
        try simp only [Act.put, List.setIfInBounds_toArray, List.set_cons_zero, List.set_cons_succ]
        refine wpG_end [] (by kernel_rfl) (fun _ _ _ _ _ h => nomatch h.1) (by kernel_rfl) RX.out ?_
        try simp only [maskRows]
        refine wpQuiet_nil ?_
        exact ⟨trivial, bK, gL, rfl, Nat.lt_of_le_of_ne HZ.out NB.out, BK.out, OL.out, RX.out, HB.out⟩
      · refine segt_run rfl (by rfl) (fun K hK => ?_)
        go_simp
        have RKn := Lib.hid (heap_alloc_new (w3) (.cells #[.slice none 0 0] 45))
        have HZ := Lib.hid HB.out.size
        have NB := Lib.hid (Nat.ne_of_lt (Array.getElem?_eq_some_iff.1 RX.out).1)
        replace HB := Lib.hid (HB.out.alloc HB.out.size (.cells #[.slice none 0 0] 45))
        replace RX := Lib.hid ((Below.heap_alloc _ (.cells #[.slice none 0 0] 45) _ (Array.getElem?_eq_some_iff.1 RX.out).1).trans RX.out)
        have RK := RKn
        clear RKn
        generalize World.alloc (w3) (.cells #[.slice none 0 0] 45) = w4 at *
        generalize (w3).heap.size = bK at *
        refine hK _ _ ⟨_, fun _ h => h, RX.out, ?_⟩
        clear hK K
        try simp only [Act.put, List.setIfInBounds_toArray, List.set_cons_zero, List.set_cons_succ]
        refine wpG_seg [] [7] 1 (by kernel_rfl) (fun _ _ _ _ _ h => nomatch h.1) (by kernel_rfl) RX.out ?_
        try simp only [maskRows]
        refine wpQuiet_nil ?_
        refine List.forall_mem_singleton.2 ?_
        refine segt_run rfl (by rfl) (fun K hK => ?_)
        go_simp
        have OL := Lib.hid (own_five5 (base := w.heap.size) (w := w4) HB.out.size 3 (.int .i64 1) (.int .i64 (13 + 2 * (ks.length : Int))) (.int .i64 p) (.int .i64 q) (.int .i64 (ks.length : Int)))
        have NK := Lib.hid (Nat.ne_of_lt (Array.getElem?_eq_some_iff.1 RK.out).1)
        replace HB := Lib.hid (HB.out.alloc HB.out.size (.cells #[.int .i64 1, .int .i64 (13 + 2 * (ks.length : Int)), .int .i64 p, .int .i64 q, .int .i64 (ks.length : Int)] 3))
        replace RX := Lib.hid ((Below.heap_alloc _ (.cells #[.int .i64 1, .int .i64 (13 + 2 * (ks.length : Int)), .int .i64 p, .int .i64 q, .int .i64 (ks.length : Int)] 3) _ (Array.getElem?_eq_some_iff.1 RX.out).1).trans RX.out)
        replace RK := Lib.hid ((Below.heap_alloc _ (.cells #[.int .i64 1, .int .i64 (13 + 2 * (ks.length : Int)), .int .i64 p, .int .i64 q, .int .i64 (ks.length : Int)] 3) _ (Array.getElem?_eq_some_iff.1 RK.out).1).trans RK.out)
        replace HZ := Lib.hid (HZ.out)
        replace NB := Lib.hid (NB.out)
        generalize World.alloc (w4) (.cells #[.int .i64 1, .int .i64 (13 + 2 * (ks.length : Int)), .int .i64 p, .int .i64 q, .int .i64 (ks.length : Int)] 3) = w5 at *
        generalize (w4).heap.size = gL at *
        refine hK _ _ ⟨_, fun _ h => h, RX.out, ?_⟩
        clear hK K
        try simp only [Act.put, List.setIfInBounds_toArray, List.set_cons_zero, List.set_cons_succ]
        refine wpG_seg [] [9] 0 (by kernel_rfl) (fun _ _ _ _ _ h => nomatch h.1) (by kernel_rfl) RX.out ?_
        try simp only [maskRows]
        refine wpQuiet_nil ?_
        refine List.forall_mem_singleton.2 ?_
        have e0 := cell0_of RK.out
        have ef := frozen0_of RK.out
        have el := (Array.getElem?_eq_some_iff.1 RK.out).1
        refine segt_run rfl (by rfl) (fun K hK => ?_)
        go_simp
        have hF := put_first (v := (.slice (some ⟨gL, 0, none⟩) 5 5)) HB.out HZ.out RX.out NB.out RK.out OL.out NK.out
        replace HB := Lib.hid hF.1
        replace RX := Lib.hid hF.2.1
        have BK := Lib.hid hF.2.2.1
        replace OL := Lib.hid hF.2.2.2
        clear hF e0 ef el RK
        refine hK _ _ ⟨_, fun _ h => h, RX.out, ?_⟩
        clear hK K
        try simp only [Act.put, List.setIfInBounds_toArray, List.set_cons_zero, List.set_cons_succ]
        refine wpG_end [] (by kernel_rfl) (fun _ _ _ _ _ h => nomatch h.1) (by kernel_rfl) RX.out ?_
        try simp only [maskRows]
        refine wpQuiet_nil ?_
        exact ⟨trivial, bK, gL, rfl, Nat.lt_of_le_of_ne HZ.out NB.out, BK.out, OL.out, RX.out, HB.out⟩
    · refine segt_run rfl (by rfl) (fun K hK => ?_)
      go_simp
      have RKn := Lib.hid (heap_alloc_new (wD) (.cells #[.slice none 0 0] 45))
      have HZ := Lib.hid HB.out.size
      have NB := Lib.hid (Nat.ne_of_lt (Array.getElem?_eq_some_iff.1 RX.out).1)
      replace HB := Lib.hid (HB.out.alloc HB.out.size (.cells #[.slice none 0 0] 45))
      replace RX := Lib.hid ((Below.heap_alloc _ (.cells #[.slice none 0 0] 45) _ (Array.getElem?_eq_some_iff.1 RX.out).1).trans RX.out)
      have RK := RKn
      clear RKn
      generalize World.alloc (wD) (.cells #[.slice none 0 0] 45) = w3 at *
      generalize (wD).heap.size = bK at *
      refine hK _ _ ⟨_, fun _ h => h, RX.out, ?_⟩
      clear hK K
      try simp only [Act.put, List.setIfInBounds_toArray, List.set_cons_zero, List.set_cons_succ]
      refine wpG_seg [] [1] 2 (by kernel_rfl) (fun _ _ _ _ _ h => nomatch h.1) (by kernel_rfl) RX.out ?_
      try simp only [maskRows]
      refine wpQuiet_nil ?_
      refine List.forall_mem_singleton.2 ?_
      refine segt_run rfl (by rfl) (fun K hK => ?_)
      go_simp
      refine (HFL.out _).mono ?_
      rintro e w4 ⟨rfl, hb⟩
      dsimp only
      replace HB := Lib.hid (HB.out.trans (hb.mono HB.out.size))
      replace RX := Lib.hid ((hb.block _ (Array.getElem?_eq_some_iff.1 RX.out).1).trans RX.out)
      replace RK := Lib.hid ((hb.block _ (Array.getElem?_eq_some_iff.1 RK.out).1).trans RK.out)
      replace HZ := Lib.hid (HZ.out)
      replace NB := Lib.hid (NB.out)
      clear hb
      refine hK _ _ ⟨_, fun _ h => h, RX.out, ?_⟩
      clear hK K
      try simp only [Act.put, List.setIfInBounds_toArray, List.set_cons_zero, List.set_cons_succ]
      refine wpG_seg [] [7] 1 (by kernel_rfl) (fun _ _ _ _ _ h => nomatch h.1) (by kernel_rfl) RX.out ?_
      try simp only [maskRows]
      refine wpQuiet_nil ?_
      refine List.forall_mem_singleton.2 ?_
      refine segt_run rfl (by rfl) (fun K hK => ?_)
      go_simp
      have OL := Lib.hid (own_five5 (base := w.heap.size) (w := w4) HB.out.size 3 (.int .i64 1) (.int .i64 (13 + 2 * (ks.length : Int))) (.int .i64 p) (.int .i64 q) (.int .i64 (ks.length : Int)))
      have NK := Lib.hid (Nat.ne_of_lt (Array.getElem?_eq_some_iff.1 RK.out).1)
      replace HB := Lib.hid (HB.out.alloc HB.out.size (.cells #[.int .i64 1, .int .i64 (13 + 2 * (ks.length : Int)), .int .i64 p, .int .i64 q, .int .i64 (ks.length : Int)] 3))
      replace RX := Lib.hid ((Below.heap_alloc _ (.cells #[.int .i64 1, .int .i64 (13 + 2 * (ks.length : Int)), .int .i64 p, .int .i64 q, .int .i64 (ks.length : Int)] 3) _ (Array.getElem?_eq_some_iff.1 RX.out).1).trans RX.out)
      replace RK := Lib.hid ((Below.heap_alloc _ (.cells #[.int .i64 1, .int .i64 (13 + 2 * (ks.length : Int)), .int .i64 p, .int .i64 q, .int .i64 (ks.length : Int)] 3) _ (Array.getElem?_eq_some_iff.1 RK.out).1).trans RK.out)
      replace HZ := Lib.hid (HZ.out)
      replace NB := Lib.hid (NB.out)
      generalize World.alloc (w4) (.cells #[.int .i64 1, .int .i64 (13 + 2 * (ks.length : Int)), .int .i64 p, .int .i64 q, .int .i64 (ks.length : Int)] 3) = w5 at *
      generalize (w4).heap.size = gL at *
      refine hK _ _ ⟨_, fun _ h => h, RX.out, ?_⟩
      clear hK K
      try simp only [Act.put, List.setIfInBounds_toArray, List.set_cons_zero, List.set_cons_succ]
      refine wpG_seg [] [9] 0 (by kernel_rfl) (fun _ _ _ _ _ h => nomatch h.1) (by kernel_rfl) RX.out ?_
      try simp only [maskRows]
      refine wpQuiet_nil ?_
      refine List.forall_mem_singleton.2 ?_
      have e0 := cell0_of RK.out
      have ef := frozen0_of RK.out
      have el := (Array.getElem?_eq_some_iff.1 RK.out).1
      refine segt_run rfl (by rfl) (fun K hK => ?_)
      go_simp
      have hF := put_first (v := (.slice (some ⟨gL, 0, none⟩) 5 5)) HB.out HZ.out RX.out NB.out RK.out OL.out NK.out
      replace HB := Lib.hid hF.1
      replace RX := Lib.hid hF.2.1
      have BK := Lib.hid hF.2.2.1
      replace OL := Lib.hid hF.2.2.2
      clear hF e0 ef el RK
      refine hK _ _ ⟨_, fun _ h => h, RX.out, ?_⟩
      clear hK K
      try simp only [Act.put, List.setIfInBounds_toArray, List.set_cons_zero, List.set_cons_succ]
      refine wpG_end [] (by kernel_rfl) (fun _ _ _ _ _ h => nomatch h.1) (by kernel_rfl) RX.out ?_
      try simp only [maskRows]
      refine wpQuiet_nil ?_
      exact ⟨trivial, bK, gL, rfl, Nat.lt_of_le_of_ne HZ.out NB.out, BK.out, OL.out, RX.out, HB.out⟩
  case imp =>
    rintro e a' wF ⟨rfl, bK, gL, rfl, hzK, BK, OL, RX, HB⟩
    simp only [OnlyNormal]
    obtain ⟨i0, hi, hz0, hz1, hz2⟩ := info_parts infoI
    obtain ⟨i5, hi5, hy0, hy1, hy2⟩ := info_parts info5
    have CX := (fr_cells RX (Below.refl _ _)).2.2.1
    gi_wp2
    refine ⟨trivial, (callsIn_wide.2 (kin_any _ _ _ _)).mono ?_⟩
    rintro e w6 ⟨rfl, rfl⟩
    have bS := Boxed.new wF 24 (.slice ax ks.length cx)
    have bK0 := BK.alloc (.cells #[.slice ax ks.length cx] 24)
    have hRX := (Below.heap_alloc wF (.cells #[.slice ax ks.length cx] 24) _ (Array.getElem?_eq_some_iff.1 RX).1).trans RX
    have hO := OL.alloc (.cells #[.slice ax ks.length cx] 24)
    have hB0 := HB.alloc HB.size (.cells #[.slice ax ks.length cx] 24)
    have hnK := BK.lt
    have hsz : (wF.alloc (.cells #[.slice ax ks.length cx] 24)).heap.size = wF.heap.size + 1 := by simp
    have hwF := HB.size
    clear RX BK OL HB CX
    gi_wp2
    generalize wF.alloc (.cells #[.slice ax ks.length cx] 24) = W0 at *
    generalize wF.heap.size = nS at *
    have hO' : W0.ownsRow w.heap.size 3 1 (.slice (some ⟨gL, 0, none⟩) 5 5) (numL ((p, q), (ks, y)) []).length ((numL ((p, q), (ks, y)) []).map (Value.int .i64)) := by simpa [numL] using hO
    have hNL := fun l => numL_len ((p, q), (ks, y)) l
    refine wpIn_rangeFunc_ownH (n := 9) rfl (by omega) (gf := 46) (lb := #[.pointer (some ⟨nS, 0, none⟩)]) rfl trivial (enters_of Tryd.func46 (by kernel_rfl) rfl)
      (kin_stops 8 nS w.heap.size (.slice ax ks.length cx) ks (by omega) (by omega) W0 (by omega) (by omega) bS.cell (hx0.below hB0)) belowK_t (belowK_b (by omega)) (Below.refl _ _) (fun _ => rfl)
      (fun pre W => (∃ v, Boxed W bK 45 v ∧ W.ownsRow w.heap.size 3 1 v (numL ((p, q), (ks, y)) pre).length ((numL ((p, q), (ks, y)) pre).map (Value.int .i64)) ∧ True) ∧ W.heap[w.heap.size]? = some (.cells #[.int .i64 p, .int .i64 q, .slice ax ks.length cx, .string y] 28 (0, 0)) ∧ Below w.heap.size w W)
      (fun _ _ _ => False)
      (OwnFrom.and (Own.from (holdsRow_own w.heap.size bK 45 3 1 (fun pre : List K2 => (numL ((p, q), (ks, y)) pre).length) (fun pre => (numL ((p, q), (ks, y)) pre).map (Value.int .i64)) (fun pre v => True)) _) (OwnFrom.and (Own.from (cells_own w.heap.size (fun _ : List K2 => #[.int .i64 p, .int .i64 q, .slice ax ks.length cx, .string y]) 28) _) (ownFrom_below (Nat.le_refl _) (by omega))))
      (fun _ _ _ _ _ hs _ _ => hs)
      ⟨⟨_, bK0, hO', trivial⟩, hRX, hB0⟩
      (fun x a' W => ∃ Bx, bK < Bx ∧ KBoxed W Bx x ∧ (∃ v, Boxed W bK 45 v ∧ v.ownBlock ≠ some Bx) ∧ a' = { tmps := #[.agg #[.int .i64 p, .int .i64 q, .slice ax ks.length cx, .string y], .pointer (some ⟨w.heap.size, 0, none⟩), .string ⟨#[]⟩, .int .i64 (ks.length : Int), .pointer (some ⟨bK, 0, none⟩), .pointer (some ⟨Bx, 0, none⟩), undef, undef, undef, .agg #[.int .i64 p, .int .i64 q, .slice ax ks.length cx, .string y], .bool true, .bool false, .pointer (some ⟨w.heap.size, 2, none⟩), .pointer (some ⟨w.heap.size, 2, none⟩), .slice ax ks.length cx, .int .i64 (ks.length : Int), .int .i64 (ks.length : Int), .int .i64 (13 + 2 * (ks.length : Int)), .pointer (some ⟨w.heap.size, 0, none⟩), .int .i64 p, .pointer (some ⟨w.heap.size, 1, none⟩), .int .i64 q, .int .i64 (ks.length : Int), .slice (some ⟨gL, 0, none⟩) 5 5, .pointer (some ⟨w.heap.size, 2, none⟩), .pointer (some ⟨w.heap.size, 2, none⟩), .slice ax ks.length cx, .func (.func 46) #[] #[.pointer (some ⟨nS, 0, none⟩)], kv x, undef, undef, undef, undef, undef, undef, undef, undef, undef, undef, undef, undef, undef, undef, undef, undef, undef, undef, undef, undef, undef, undef, undef, undef, undef, undef, undef, undef], defers := [] })
      (fun x a' _ X Y row hs hg hr => by
        obtain ⟨Bx, e1, e2, e3, e4⟩ := hs
        exact ⟨Bx, e1, kboxed_own Bx x () X Y row e2 hg (fun r e => (hr r e).2), boxG_own bK 45 (fun (_ : Unit) v => v.ownBlock ≠ some Bx) () X Y row e3 hg (fun r e => (hr r e).2), e4⟩)
      ?assign ?body ?done ?stop
    case assign =>
      rintro l pre ⟨s, t⟩ W K ⟨⟨v, hv, hrow, -⟩, hRX, hB⟩ hK
      unfold kv at *
      dsimp only at *
      gi_wp2
      exact hK _ _ ((KeepsOthers.alloc _ _).from _) ((Below.refl _ W).alloc hB.size _) ⟨⟨_, hv.alloc _, (hrow.alloc _), trivial⟩, (Below.heap_alloc _ _ _ (Array.getElem?_eq_some_iff.1 hRX).1).trans hRX, hB.alloc hB.size _⟩ ⟨W.heap.size, hv.lt, KBoxed.new W (s, t), ⟨_, hv.alloc _, fun e => by have := (hrow.lt _ e).2; omega⟩, rfl⟩
    case body =>
      rintro l pre ⟨s, t⟩ a' W hl ⟨r, hr⟩ ⟨⟨v, hv, hrw, -⟩, hRX, hB⟩ ⟨Bx, hBx, bX, ⟨v2, hv2, hne⟩, rfl⟩ hlt
      obtain rfl := boxed_uniq hv hv2
      clear hv2
      have hsn := numL_snoc ((p, q), (ks, y)) pre (s, t)
      have hsW := hB.size
      have hlM : (numL ((p, q), (ks, y)) pre).length ≤ 20 := by have := hNL pre; omega
      dsimp only at hsn
      generalize hM : numL ((p, q), (ks, y)) pre = M at *
      have HSN := Lib.hid hsn
      clear hsn
      unfold kv at *
      dsimp only at *
      have cX0 := bX.cell0
      have cX1 := bX.cell1
      have cL := hv.cell
      dsimp only at cX0 cX1
      gi_wp2_with (gi_at_builtin; refine wpListIn_append_own_at _ rfl (.tmp 29) (.tmp 34) 45 rfl w.heap.size 3 i0 (.int .i64 0) 1 8 Tryd.underlying45 hi hz0 hz1 hz2 rfl (by decide) _ _ _ rfl (hrw.alloc _) ⟨W.heap.size, 0, none⟩ 2 2 [.int .i64 s, .int .i64 t] rfl rfl (cell_two_new _ _ _ _) (by intro u hu; simp at hu; rcases hu with rfl | rfl <;> rfl) (by unfold maxLen; omega) (by omega) (by rw [World.size_alloc]; omega) ?_; intro v5 w5 hown5 hgrow5 _ hat5; obtain ⟨g5, cap5, rfl⟩ := ownsRow_succ hown5; obtain ⟨hvx, hvy, hrz, hkz, hbz⟩ := hv.appended (by decide) hrw hsW (Nat.le_of_lt hzK) hown5 hgrow5; have hc5 := hvx.cell; have hf5 := hvx.frozen)
      have hx5 := (Below.heap_alloc W (.cells #[.int .i64 s, .int .i64 t] 3) _ (Array.getElem?_eq_some_iff.1 hRX).1).trans hRX
      have hl5 := (Array.getElem?_eq_some_iff.1 hx5).1
      have hx6 := (hgrow5.block w.heap.size hl5 (fun e => by
        rcases hrw.2 with ⟨h, _⟩ | ⟨g', cap', cur', h, _, hgb, _⟩
        · rw [h] at e; cases e
        · rw [h] at e
          have e2 : g' = w.heap.size := (Option.some.inj e).symm
          subst e2
          rw [hRX] at hgb
          injection hgb with h1
          injection h1 with h2 h3
          revert h3
          decide)).trans hx5
      have HF := Lib.hid ((Below.heap_setCell _ ⟨bK, 0, none⟩ (.slice (some ⟨g5, 0, none⟩) (M.length + 2) cap5) w.heap.size (by simp only []; omega)).trans hx6)
      clear hx5 hl5 hx6
      exact ⟨hkz.from _, hbz, ⟨_, hvy, by rw [HSN.out]; simpa using hrz, trivial⟩, HF.out, hB.trans hbz⟩
    case stop =>
      rintro D c pre W _ _ h _
      exact h.elim
    case done =>
      rintro D ys W hD hys ⟨⟨v, hv, hrow, -⟩, hRX, hB⟩ hK
      subst hys
      have hm := hNL ys
      have hbd := numL_bound hok
      have hse := hd_seal hok
      have hhd := numL_hd hok
      have hln := hd_len ((p, q), (ys, y)) ys.length (Nat.le_refl _)
      dsimp only at hhd hse hbd hln
      clear hNL hok
      generalize numL ((p, q), (ys, y)) ys = M at *
      generalize hdL ((p, q), (ys, y)) ys.length = H at *
      have HSE := Lib.hid hse
      have HM := Lib.hid hm
      have HHD := Lib.hid hhd
      have hlM : M.length ≤ 17 := by omega
      have hlM5 : 5 ≤ M.length := by omega
      clear hse hm hhd
      obtain ⟨gv, cv, rfl, hcv, -, -, hgv⟩ := (ownsRowK_shape hrow).resolve_left (by rintro ⟨-, h⟩; omega)
      have hsW := hB.size
      have HKD := Lib.hid hK
      have HV := Lib.hid hv
      have HO := Lib.hid hrow
      have HRX := Lib.hid hRX
      have HBB := Lib.hid hB
      clear hK hv hrow hRX hB
      simp only [Exit.inBlock, Exit.then]
      rename_i K8 Q8 h8
      refine h8 _ _ ?_
      clear h8 K8
      refine wpIn_wide.2 ?_
      go_wp2_with fail
      refine (HFL.out _).mono ?_
      rintro e W1 ⟨rfl, hb⟩
      have g1 := grown_of_below' hb none
      replace HKD := Lib.hid ((hb.block D (Array.getElem?_eq_some_iff.1 HKD.out).1).trans HKD.out)
      replace HV := Lib.hid (HV.out.kept g1 (by simp))
      replace HO := Lib.hid (own_below HO.out hb)
      replace HRX := Lib.hid ((hb.block _ (Array.getElem?_eq_some_iff.1 HRX.out).1).trans HRX.out)
      replace HBB := Lib.hid (HBB.out.trans (hb.mono hsW))
      have hsW1 := HBB.out.size
      have hgv1 := Nat.lt_of_lt_of_le hgv hb.size
      clear hb g1
      obtain ⟨wM, hrun, hownM, hgrM⟩ := run_make_own (P := Tryd.prog) W1 W1.heap.size 22 5 i5 (.int .u8 0) 1 Tryd.underlying22 hi5 hy0 hy1 .i64 .i64 (13 + 2 * ys.length) (by rw [hy2]; omega) (by unfold maxLen; omega) (Nat.le_refl _)
      rw [show ((13 + 2 * ys.length : Nat) : Int) = 13 + 2 * (ys.length : Int) by omega] at hrun
      have hbM : Below W1.heap.size W1 wM := (Below.refl _ _).grown hgrM (Nat.le_refl _) (fun g e => by cases e)
      have cL := (HV.out.kept hgrM (by simp)).cell
      have HOM := Lib.hid hownM
      have HBM := Lib.hid hbM
      clear hownM hgrM hbM
      go_wp2
      go_loopw [6, 41] (fun t i wr => ∃ j : Nat, j ≤ M.length ∧ i = .int .i64 j ∧ wr.ownsRow W1.heap.size 5 1 t j ((M.take j).map (Value.int .u8)) ∧ Below W1.heap.size W1 wr) (fun _ i _ => M.length - (intOf i).toNat)
      case atStart => exact ⟨0, Nat.zero_le _, rfl, by simpa using HOM.out, HBM.out⟩
      case round =>
        obtain ⟨j, hj, rfl, hown, hnx⟩ := hrel
        clear cL
        have hlr := hnx.size
        by_cases hlt : j < M.length
        · have C1 := (own_cell (own_below HO.out hnx) j (by simpa using hlt)).1
          have hz : (M.map (Value.int .i64)).getD j undef = .int .i64 (M.getD j 0) := by simp [List.getD, hlt]
          rw [hz] at C1
          have htk : (M.take (j + 1)).map (Value.int .u8) = (M.take j).map (Value.int .u8) ++ [.int .u8 (M.getD j 0)] := by rw [List.take_add_one, List.map_append]; congr 1; simp [List.getD, hlt]
          have hzb := hbd (M.getD j 0) (by rw [List.getD_eq_getElem?_getD, List.getElem?_eq_getElem hlt]; exact List.getElem_mem hlt)
          have HTK := Lib.hid htk
          have z0 : (0 : Int) ≤ (j : Int) := by omega
          have z1 : (j : Int) < (M.length : Int) := by omega
          clear hz htk
          generalize M.getD j 0 = z at *
          have SP := Lib.hid (iput_any z 1 wr (by omega))
          rw [put_one hzb.1 hzb.2] at SP
          go_wp2_with fail
          refine SP.out.mono ?_
          rintro e w5 ⟨rfl, hb5⟩
          clear SP C1
          have hnx5 := hnx.trans (hb5.mono hlr)
          have hown5 := own_below hown hb5
          have hl5 := hb5.size
          have hbz : ((b8 z).toNat : Int) = z := b8_num hzb.1 hzb.2
          have HBZ := Lib.hid hbz
          have HNX5 := Lib.hid hnx5
          clear hown hb5 hnx hbz
          go_wp2_with (at_builtin; refine Lib.wpList_append_own_string _ rfl (.tmp 45) (.tmp 47) 22 9 rfl W1.heap.size 5 i5 Tryd.underlying22 Tryd.underlying9 hi5 hy0 hy1 hy2 _ _ _ rfl hown5 ⟨#[b8 z]⟩ rfl (by show j + 1 ≤ maxLen; unfold maxLen; omega) (by show j + 1 ≤ _; omega) (by omega) ?_; intro v' w7 hown' hgrow _)
          have R : w7.ownsRow W1.heap.size 5 1 v' (j + 1) ((M.take (j + 1)).map (Value.int .u8)) ∧ Below W1.heap.size W1 w7 := by
            refine ⟨?_, HNX5.out.grown hgrow HNX5.out.size (fun g hg => (hown5.lt g hg).1)⟩
            rw [HTK.out, ← HBZ.out]
            exact hown'
          clear hown' hgrow hown5
          go_wp2
          go_roundw
          case rel => exact ⟨j + 1, by omega, by go_num, R.1, R.2⟩
          case measure => simp [intOf]; omega
        · obtain rfl : j = M.length := by omega
          rw [List.take_length] at hown
          have hcv := run_string_own (P := Tryd.prog) 22 5 9 Tryd.underlying22 Tryd.underlying5 Tryd.underlying9 hown
          rw [← HHD.out, nums_back] at hcv
          have hsz : (⟨H.toArray⟩ : ByteArray).size = 5 + 2 * ys.length := by show H.toArray.size = _; simp [hln]
          generalize (⟨H.toArray⟩ : ByteArray) = X at *
          have hno : ¬ 9223372036854775807 < X.size + y.size := by omega
          have SS := Lib.hid (iseal_any (X ++ y) wr (by rw [ByteArray.size_append]; omega))
          obtain ⟨x0, x1, x2, x3⟩ := fr_cells ((hnx.block _ (Array.getElem?_eq_some_iff.1 HRX.out).1).trans HRX.out) (Below.refl _ _)
          have HK2 := Lib.hid ((hnx.block D (Array.getElem?_eq_some_iff.1 HKD.out).1).trans HKD.out)
          have HB2 := Lib.hid (HBB.out.trans (hnx.mono HBB.out.size))
          clear hown HKD HV HO HRX HBB HOM HBM
          go_wp2_with fail
          refine SS.out.mono ?_
          rintro e w6 ⟨rfl, hb6⟩
          have HK3 := Lib.hid ((hb6.block D (Array.getElem?_eq_some_iff.1 HK2.out).1).trans HK2.out)
          have HB3 := Lib.hid (HB2.out.trans (hb6.mono HB2.out.size))
          clear hb6 SS x0 x1 x2 x3
          go_wp2
          try rw [Exit.noGoto_ret]
          refine ⟨by simp, .inl ⟨_, _, rfl, run_takeDeferred HK3.out, ?_⟩⟩
          refine ⟨_, results_tmp rfl _ _ _, by rw [← HSE.out]; rfl, HB3.out.trans (belowK_b (w := w) (Nat.le_refl _) w6 D _ _ (by omega) HK3.out rfl rfl)⟩
set_option maxRecDepth 100000 in
set_option maxHeartbeats 2000000 in
theorem iputframe_any (p q : Int) (v : Value) (ks : List K2) (y : ByteArray) (w : World) (h : keysAt w v ks) (hs : ks.length ≤ 2000000) :
    Calls Tryd.prog 9 #[.agg #[.int .i64 p, .int .i64 q, v, .string y]] w fun e w' => e = .returned (.string (putS ((p, q), (ks, y)))) ∧ Below w.heap.size w w' := by
  cases hok : frOkB ((p, q), (ks, y)) with
  | true => exact iputframe_yes p q v ks y w h hok
  | false =>
    have hb := (Below.refl w.heap.size w).alloc (Nat.le_refl _) (.cells #[.int .i64 p, .int .i64 q, v, .string y] 28)
    have HB := Lib.hid hb
    have RX := Lib.hid (heap_alloc_new w (.cells #[.int .i64 p, .int .i64 q, v, .string y] 28))
    have SF := Lib.hid (iframeok_any p q v ks y (w.alloc (.cells #[.int .i64 p, .int .i64 q, v, .string y] 28)) (keysAt_below h hb) hs)
    rw [hok] at SF
    have HV := Lib.hid (show putS ((p, q), (ks, y)) = ByteArray.empty by unfold putS putL; rw [hok]; rfl)
    obtain ⟨ax, cx, rfl, -, -⟩ := h
    clear hb hok
    have LF := fr_load RX.out (Below.refl _ _)
    go_enter Tryd.func9, Tryd.ntmps9
    go_wp2_with fail
    generalize w.alloc (.cells #[.int .i64 p, .int .i64 q, .slice ax ks.length cx, .string y] 28) = W at *
    refine SF.out.mono ?_
    rintro e w1 ⟨rfl, hb1⟩
    have HB1 := Lib.hid (HB.out.trans (hb1.mono HB.out.size))
    clear LF SF hb1
    go_wp2
    go_ret
    exact ⟨by rw [HV.out]; rfl, HB1.out⟩
end Go.Proofs.YtdokkhgeeinnhaaDoor
namespace Go.Proofs.YtdokkhgeeinnhaaDoor
open Go.ChangeShapes Go.WideShapes Go.ChangeAt Go.RowKit Go.BigFrame
set_option linter.unusedVariables false

theorem own_no {W : World} {b n size : Nat} {e : TypeId} {v : Value} {xs : List Value} (h : W.ownsRow (b + 1) e size v n xs) : v.ownBlock ≠ some b := fun e => by have := (h.lt _ e).1; omega
theorem iget_below (s : ByteArray) (k : Nat) (hk : k < s.size) (hs : s.size ≤ 2000000) (w : World) : Calls Tryd.prog 54 #[.string s, .int .i64 (k : Int), .int .i64 1] w fun e w' => e = .returned (.int .i64 (bAt s k)) ∧ Below w.heap.size w w' := by
  rw [← getV_one s k hk]
  exact (iget_any s k 1 w hs).mono fun e w' h => ⟨h.1, h.2 ▸ Below.refl w.heap.size w⟩
set_option maxRecDepth 100000 in
set_option maxHeartbeats 8000000 in
theorem iframein_any (t : ByteArray) (w : World) (h11 : 11 ≤ t.size) (hs : t.size ≤ 1100000) :
    Calls Tryd.prog 56 #[.string t] w fun e w' => ∃ v', e = .returned (.agg #[.int .i64 (inFL t.data.toList).1.1, .int .i64 (inFL t.data.toList).1.2, v', .string (inFL t.data.toList).2.2]) ∧ w'.ownsRow w.heap.size 50 2 v' (inFL t.data.toList).2.1.length (keyCells (inFL t.data.toList).2.1) ∧ Below w.heap.size w w' := by
  have hb0 := (Below.refl w.heap.size w).alloc (Nat.le_refl _) (.cells #[.int .i64 0, .int .i64 0, .slice none 0 0, .string ⟨#[]⟩] 28)
  have hr0 := heap_alloc_new w (.cells #[.int .i64 0, .int .i64 0, .slice none 0 0, .string ⟨#[]⟩] 28)
  have hll : t.data.toList.length = t.size := by simp
  obtain ⟨M, hM⟩ : ∃ M, (t.size - 9) / 2 = M := ⟨_, rfl⟩
  have hkl := keysL_len M (t.data.toList.drop 5)
  have hin : inFL t.data.toList = ((bAt t 2, bAt t 3), (keysL M (t.data.toList.drop 5), ⟨(t.data.toList.drop (t.size - 4)).toArray⟩)) := by unfold inFL; rw [hll, hM]; rfl
  have hyy : (⟨(t.data.toList.drop (t.size - 4)).toArray⟩ : ByteArray) = t.extract (t.size - 4) t.size := by
    apply ByteArray.ext
    apply Array.toList_inj.1
    rw [ByteArray.data_extract, Array.toList_extract, List.extract_eq_take_drop, List.take_of_length_le (by simp)]
  rw [hyy] at hin
  have HKG := Lib.hid (fun k (hk : k < M) => (show (keysL M (t.data.toList.drop 5)).getD k (0, 0) = (bAt t (5 + 2 * k), bAt t (6 + 2 * k)) from by
    have h1 := keysL_get M (t.data.toList.drop 5) k hk
    rw [List.getElem?_drop, List.getElem?_drop, show 5 + (2 * k + 1) = 6 + 2 * k by omega] at h1
    exact h1))
  generalize keysL M (t.data.toList.drop 5) = KS at *
  obtain ⟨m, hm⟩ : ∃ m, t.size = m + 4 := ⟨t.size - 4, by omega⟩
  rw [hm, Nat.add_sub_cancel] at hin
  have hys : (t.extract m (m + 4)).size = 4 := by simp; omega
  obtain ⟨Y, hY⟩ : ∃ Y, t.extract m (m + 4) = Y := ⟨_, rfl⟩
  rw [hY] at hin hys
  have HIN := Lib.hid hin
  have HKL := Lib.hid hkl
  have HMM := Lib.hid hM
  have G2 := Lib.hid (iget_below t 2 (by omega) (by omega))
  have G3 := Lib.hid (iget_below t 3 (by omega) (by omega))
  have GK := Lib.hid (fun k (hk : k < M) => And.intro (iget_below t (5 + 2 * k) (by omega) (by omega)) (iget_below t (6 + 2 * k) (by omega) (by omega)))
  have HLB := Lib.hid (fun w => iloadbytes_any Y w hys)
  have hM2 : 2 * M ≤ m - 5 ∧ m - 5 < 2 * M + 2 := by omega
  have hm7 : 7 ≤ m ∧ m ≤ 1100000 := by omega
  have HB0 := Lib.hid hb0
  have RR0 := Lib.hid hr0
  obtain ⟨i0, hi, hz0, hz1, hz2⟩ := info_parts infoK
  have ew : IntKind.i64.wrap ((m : Int) + 4 - 4) = (m : Int) := by rw [show (m : Int) + 4 - 4 = m by omega]; exact IntWalk.i64_in _ (by omega)
  clear hin hkl hM hyy hb0 hr0 hll h11 hs
  go_enter Tryd.func56, Tryd.ntmps56
  go_wp2_with fail
  have hwz : (w.alloc (.cells #[.int .i64 0, .int .i64 0, .slice none 0 0, .string ⟨#[]⟩] 28)).heap.size = w.heap.size + 1 := by simp
  generalize w.alloc (.cells #[.int .i64 0, .int .i64 0, .slice none 0 0, .string ⟨#[]⟩] 28) = W at *
  go_loopw [4, 5] (fun v i wr => ∃ k : Nat, k ≤ M ∧ i = .int .i64 (5 + 2 * (k : Int)) ∧ wr.ownsRow (w.heap.size + 1) 50 2 v (KS.take k).length (keyCells (KS.take k)) ∧ wr.heap[w.heap.size]? = some (.cells #[.int .i64 0, .int .i64 0, .slice none 0 0, .string ⟨#[]⟩] 28 (0, 0)) ∧ Below w.heap.size w wr) (fun _ i _ => (2 * M + 10 - (intOf i)).toNat)
  case atStart => exact ⟨0, Nat.zero_le _, rfl, World.ownsRow_nil _ _ _ _, RR0.out, HB0.out⟩
  case round =>
    obtain ⟨k, hk, rfl, hown, hrr, hbb⟩ := hrel
    have HO := Lib.hid hown
    have RR := Lib.hid hrr
    have HB := Lib.hid hbb
    clear hown hrr hbb
    have y0 : IntKind.i64.wrap (5 + 2 * (k : Int) + 2) = 5 + 2 * (k : Int) + 2 := IntWalk.i64_in _ (by omega)
    by_cases hlt : k < M
    · have c1 : 5 + 2 * (k : Int) + 2 ≤ (m : Int) := by omega
      have y1 : IntKind.i64.wrap (5 + 2 * (k : Int) + 1) = 5 + 2 * (k : Int) + 1 := IntWalk.i64_in _ (by omega)
      have ga := (GK.out k hlt).1
      have gb := (GK.out k hlt).2
      rw [show ((5 + 2 * k : Nat) : Int) = 5 + 2 * (k : Int) by omega] at ga
      rw [show ((6 + 2 * k : Nat) : Int) = 5 + 2 * (k : Int) + 1 by omega] at gb
      have GA := Lib.hid ga
      have GB := Lib.hid gb
      have htk : keyCells (KS.take (k + 1)) = keyCells (KS.take k) ++ [.int .i64 (bAt t (5 + 2 * k)), .int .i64 (bAt t (6 + 2 * k))] := by
        rw [List.take_add_one, show KS[k]?.toList = [(bAt t (5 + 2 * k), bAt t (6 + 2 * k))] from by rw [← HKG.out k hlt]; have := HKL.out; simp [List.getD, this, hlt], keyCells_snoc]
      have HTK := Lib.hid htk
      have hlk : (KS.take (k + 1)).length = (KS.take k).length + 1 := by have := HKL.out; simp; omega
      have HLK := Lib.hid hlk
      have hlen : (KS.take k).length ≤ 600000 := by have := HKL.out; simp; omega
      clear htk ga gb hlk
      generalize bAt t (5 + 2 * k) = kp at *
      generalize bAt t (6 + 2 * k) = kq at *
      go_wp2_with fail
      refine (GA.out _).mono ?_
      rintro e w3 ⟨rfl, hb⟩
      replace HO := Lib.hid (own_below HO.out hb)
      replace RR := Lib.hid ((hb.block _ (Array.getElem?_eq_some_iff.1 RR.out).1).trans RR.out)
      replace HB := Lib.hid (HB.out.trans (hb.mono HB.out.size))
      clear hb
      go_wp2_with fail
      refine (GB.out _).mono ?_
      rintro e w4 ⟨rfl, hb⟩
      replace HO := Lib.hid (own_below HO.out hb)
      replace RR := Lib.hid ((hb.block _ (Array.getElem?_eq_some_iff.1 RR.out).1).trans RR.out)
      replace HB := Lib.hid (HB.out.trans (hb.mono HB.out.size))
      clear hb GA GB
      have hbs := (Array.getElem?_eq_some_iff.1 RR.out).1
      have hbz := HB.out.size
      have ho := HO.out
      go_wp2_with (at_builtin; refine wpList_append_own _ rfl (.tmp 15) (.tmp 24) 24 rfl (w.heap.size + 1) 50 i0 (.agg #[.int .i64 0, .int .i64 0]) 2 16 Tryd.underlying24 hi hz0 hz1 hz2 rfl (by decide) _ _ _ rfl (ho.alloc _) ⟨w4.heap.size, 0, none⟩ 1 1 [.int .i64 kp, .int .i64 kq] rfl rfl (cell_two_new _ _ _ _) (by intro u hu; simp at hu; rcases hu with rfl | rfl <;> rfl) (by unfold maxLen; omega) (by omega) (by simp; omega) ?_; intro v' w5 hown' hgrow _)
      have hb5 := (Below.refl w4.heap.size w4).alloc (Nat.le_refl _) (.cells #[.int .i64 kp, .int .i64 kq] 50)
      have hr5 := (hb5.block _ (Array.getElem?_eq_some_iff.1 RR.out).1).trans RR.out
      have R : w5.ownsRow (w.heap.size + 1) 50 2 v' (KS.take (k + 1)).length (keyCells (KS.take (k + 1))) ∧ w5.heap[w.heap.size]? = some (.cells #[.int .i64 0, .int .i64 0, .slice none 0 0, .string ⟨#[]⟩] 28 (0, 0)) ∧ Below w.heap.size w w5 := by
        refine ⟨by rw [HLK.out, HTK.out]; exact hown', ?_, ((HB.out.trans (hb5.mono HB.out.size))).grown hgrow (HB.out.trans (hb5.mono HB.out.size)).size (fun g hg => by have := (ho.lt g hg).1; omega)⟩
        exact (hgrow.block _ (Array.getElem?_eq_some_iff.1 hr5).1 (fun e => by have := (ho.lt _ e.symm).1; omega)).trans hr5
      clear hown' hgrow ho hr5 hb5 HO RR HB
      go_wp2
      go_roundw
      case rel => exact ⟨k + 1, by omega, by go_num, R.1, R.2.1, R.2.2⟩
      case measure => simp [intOf]; omega
    · obtain rfl : k = M := by omega
      have hlk : (KS.take k).length = KS.length := by have := HKL.out; simp; omega
      have htk : KS.take k = KS := List.take_of_length_le (by have := HKL.out; omega)
      have ho := HO.out
      rw [htk] at ho
      replace HO := Lib.hid ho
      clear ho hlk htk GK HKG HKL
      obtain ⟨va, vn, vk, rfl⟩ := own_shape HO.out
      have HCO := Lib.hid (fun w => icodeof_any va vn vk Y hys w)
      have c1 : ¬ 5 + 2 * (k : Int) + 2 ≤ (m : Int) := by omega
      have c3 : (0 : Int) ≤ (m : Int) := by omega
      have c4 : (m : Int) ≤ (m : Int) + 4 := by omega
      go_wp2_with fail
      refine wp_region_G (fun _ => True) (by kernel_rfl) ?_
      replace HB := Lib.hid (HB.out.drew)
      replace RR := Lib.hid (show (World.drew _).heap[_]? = _ from RR.out)
      replace HO := Lib.hid (HO.out.drew)
      generalize (wr).drew = wD at *
      refine wpG_seg [true, false, true, false, true, true, true, true] [1] 5 (by kernel_rfl) (by intro c a d v w h; cases d <;> exact h) (by kernel_rfl) trivial ?_
      try simp only [maskRows]
      repeat (first
        | go_big_quiet_skip
        | (go_big_quiet_want
           first
             | (go_big_quiet_op; go_big_quiet_on)
             | (go_big_quiet_op; refine ⟨_, fun _ _ => rfl, ?_⟩; go_big_quiet_on)
             | (go_big_quiet_op; refine ⟨_, fun _ _ _ => rfl, ?_⟩; go_big_quiet_on)))
      refine wpQuiet_nil ?_
      refine List.forall_mem_singleton.2 ?_
      refine segt_run rfl (by rfl) (fun K hK => ?_)
      go_simp
      refine (G2.out _).mono ?_
      rintro e w3 ⟨rfl, hb⟩
      dsimp only
      replace HB := Lib.hid (HB.out.trans (hb.mono HB.out.size))
      replace RR := Lib.hid ((hb.block _ (Array.getElem?_eq_some_iff.1 RR.out).1).trans RR.out)
      replace HO := Lib.hid (own_below HO.out hb)
      clear hb
      refine hK _ _ ⟨_, fun _ h => h, trivial, ?_⟩
      clear hK K
      try simp only [Act.put, List.getElem_toArray, List.getElem_cons_succ, List.getElem_cons_zero, List.setIfInBounds_toArray, List.set_cons_zero, List.set_cons_succ]
      refine wpG_seg [] [3] 4 (by kernel_rfl) (by intro c a d v w h; cases d <;> exact h) (by kernel_rfl) trivial ?_
      try simp only [maskRows]
      refine wpQuiet_nil ?_
      refine List.forall_mem_singleton.2 ?_
      refine segt_run rfl (by rfl) (fun K hK => ?_)
      go_simp
      refine (G3.out _).mono ?_
      rintro e w4 ⟨rfl, hb⟩
      dsimp only
      replace HB := Lib.hid (HB.out.trans (hb.mono HB.out.size))
      replace RR := Lib.hid ((hb.block _ (Array.getElem?_eq_some_iff.1 RR.out).1).trans RR.out)
      replace HO := Lib.hid (own_below HO.out hb)
      clear hb
      refine hK _ _ ⟨_, fun _ h => h, trivial, ?_⟩
      clear hK K
      try simp only [Act.put, List.getElem_toArray, List.getElem_cons_succ, List.getElem_cons_zero, List.setIfInBounds_toArray, List.set_cons_zero, List.set_cons_succ]
      refine wpG_seg [] [8] 3 (by kernel_rfl) (by intro c a d v w h; cases d <;> exact h) (by kernel_rfl) trivial ?_
      try simp only [maskRows]
      refine wpQuiet_nil ?_
      refine List.forall_mem_singleton.2 ?_
      refine segt_run rfl (by rfl) (fun K hK => ?_)
      go_simp
      refine (HLB.out _).mono ?_
      rintro e w5 ⟨rfl, hb⟩
      dsimp only
      replace HB := Lib.hid (HB.out.trans (hb.mono HB.out.size))
      replace RR := Lib.hid ((hb.block _ (Array.getElem?_eq_some_iff.1 RR.out).1).trans RR.out)
      replace HO := Lib.hid (own_below HO.out hb)
      clear hb
      refine hK _ _ ⟨_, fun _ h => h, trivial, ?_⟩
      clear hK K
      try simp only [Act.put, List.getElem_toArray, List.getElem_cons_succ, List.getElem_cons_zero, List.setIfInBounds_toArray, List.set_cons_zero, List.set_cons_succ]
      refine wpG_seg [] [9] 2 (by kernel_rfl) (by intro c a d v w h; cases d <;> exact h) (by kernel_rfl) trivial ?_
      try simp only [maskRows]
      refine wpQuiet_nil ?_
      refine List.forall_mem_singleton.2 ?_
      refine segt_run rfl (by rfl) (fun K hK => ?_)
      go_simp
      refine (HCO.out _).mono ?_
      rintro e w6 ⟨rfl, hb⟩
      dsimp only
      replace HB := Lib.hid (HB.out.trans (hb.mono HB.out.size))
      replace RR := Lib.hid ((hb.block _ (Array.getElem?_eq_some_iff.1 RR.out).1).trans RR.out)
      replace HO := Lib.hid (own_below HO.out hb)
      clear hb
      refine hK _ _ ⟨_, fun _ h => h, trivial, ?_⟩
      clear hK K
      try simp only [Act.put, List.getElem_toArray, List.getElem_cons_succ, List.getElem_cons_zero, List.setIfInBounds_toArray, List.set_cons_zero, List.set_cons_succ]
      refine wpG_seg [] [10] 1 (by kernel_rfl) (by intro c a d v w h; cases d <;> exact h) (by kernel_rfl) trivial ?_
      try simp only [maskRows]
      refine wpQuiet_nil ?_
      refine List.forall_mem_singleton.2 ?_
      refine segt_run rfl (by rfl) (fun K hK => ?_)
      go_simp
      refine hK _ _ ⟨_, fun _ h => h, trivial, ?_⟩
      clear hK K
      try simp only [Act.put, List.getElem_toArray, List.getElem_cons_succ, List.getElem_cons_zero, List.setIfInBounds_toArray, List.set_cons_zero, List.set_cons_succ]
      refine wpG_seg [] [11] 0 (by kernel_rfl) (by intro c a d v w h; cases d <;> exact h) (by kernel_rfl) trivial ?_
      try simp only [maskRows]
      refine wpQuiet_nil ?_
      refine List.forall_mem_singleton.2 ?_
      obtain ⟨c0, c1, c2, c3, f0, f1, f2, f3⟩ := row4_of RR.out
      have hlr := (Array.getElem?_eq_some_iff.1 RR.out).1
      refine segt_run rfl (by rfl) (fun K hK => ?_)
      go_simp
      have HF := Lib.hid (And.intro (fr_load (set4 (.int .i64 (bAt t 2)) (.int .i64 (bAt t 3)) (.slice va vn vk) (.string Y) RR.out) (Below.refl _ _)) (And.intro (own_base (HO.out.kept (grown4f (w6) w.heap.size (.int .i64 (bAt t 2)) (.int .i64 (bAt t 3)) (.slice va vn vk) (.string Y)) (.inr (own_no HO.out))) (by omega : w.heap.size ≤ w.heap.size + 1)) (below4 HB.out (Nat.le_refl _) (.int .i64 (bAt t 2)) (.int .i64 (bAt t 3)) (.slice va vn vk) (.string Y))))
      clear RR HO HB c0 c1 c2 c3 f0 f1 f2 f3 hlr
      refine hK _ _ ⟨_, fun _ h => h, trivial, ?_⟩
      clear hK K
      try simp only [Act.put, List.getElem_toArray, List.getElem_cons_succ, List.getElem_cons_zero, List.setIfInBounds_toArray, List.set_cons_zero, List.set_cons_succ]
      refine wpG_end [] (by kernel_rfl) (by intro c a d v w h; cases d <;> exact h) (by kernel_rfl) trivial ?_
      try simp only [maskRows]
      refine wpQuiet_nil ?_
      go_wp2
      refine bodyPost_ret (v := .agg #[.int .i64 (bAt t 2), .int .i64 (bAt t 3), .slice va vn vk, .string Y]) ?_ rfl ⟨_, by rw [HIN.out], by rw [HIN.out]; exact HF.out.2.1, HF.out.2.2⟩
      rw [results_cell (p := 2) (ty := 28) (by kernel_rfl)]
      have l2 := HF.out.1
      simp [asAddr, Result.andThen, l2]
end Go.Proofs.YtdokkhgeeinnhaaDoor
namespace Go.Proofs.YtdokkhgeeinnhaaDoor
open Go.ChangeShapes Go.WideShapes Go.ChangeAt Go.RowKit Go.BigFrame
set_option linter.unusedVariables false

/-- a frame that is put together: its box, the result's place -/
structure GK (w W : World) (bF : Nat) (p q : Int) (v : Value) (y : ByteArray) : Prop where
  below : Below w.heap.size w W
  row : W.heap[bF]? = some (.cells #[.int .i64 p, .int .i64 q, v, .string y] 28 (0, 0))
  res : W.heap[w.heap.size]? = some (.cells #[.int .i64 0, .int .i64 0, .slice none 0 0, .string ⟨#[]⟩] 28 (0, 0))
  lt : w.heap.size < bF
theorem GK.drew {w W : World} {bF : Nat} {p q : Int} {v : Value} {y : ByteArray} (h : GK w W bF p q v y) : GK w W.drew bF p q v y := ⟨h.below.drew, h.row, h.res, h.lt⟩
theorem GK.grow {w W W' : World} {bF : Nat} {p q : Int} {v : Value} {y : ByteArray} {row : Option Nat} (h : GK w W bF p q v y) (hg : W.grownBy W' row) (hr : ∀ b, row = some b → bF < b) : GK w W' bF p q v y := by
  have hl := h.lt
  exact ⟨h.below.grown hg h.below.size (fun b e => by have := hr b e; omega), (hg.block _ (Array.getElem?_eq_some_iff.1 h.row).1 (fun e => by have := hr _ e.symm; omega)).trans h.row, (hg.block _ (Array.getElem?_eq_some_iff.1 h.res).1 (fun e => by have := hr _ e.symm; omega)).trans h.res, hl⟩
theorem GK.next {w W W' : World} {bF : Nat} {p q : Int} {v : Value} {y : ByteArray} (h : GK w W bF p q v y) (hb : Below W.heap.size W W') : GK w W' bF p q v y := h.grow (grown_of_below' hb none) (fun b e => by cases e)
theorem GK.setv {w W : World} {bF : Nat} {p q : Int} {v : Value} {y : ByteArray} (h : GK w W bF p q v y) (v' : Value) : GK w (W.setCell ⟨bF, 2, none⟩ v') bF p q v' y := by
  have hl := h.lt
  refine ⟨h.below.setCell (p := ⟨bF, 2, none⟩) (by show w.heap.size ≤ bF; omega) v', set_cellsR v' h.row, ?_, hl⟩
  rw [Below.heap_setCell _ _ _ _ (by simp; omega)]; exact h.res
theorem GK.sety {w W : World} {bF : Nat} {p q : Int} {v : Value} {y : ByteArray} (h : GK w W bF p q v y) (y' : ByteArray) : GK w (W.setCell ⟨bF, 3, none⟩ (.string y')) bF p q v y' := by
  have hl := h.lt
  refine ⟨h.below.setCell (p := ⟨bF, 3, none⟩) (by show w.heap.size ≤ bF; omega) _, set_cellsR _ h.row, ?_, hl⟩
  rw [Below.heap_setCell _ _ _ _ (by simp; omega)]; exact h.res
theorem own_setF {W : World} {bF j n : Nat} {v : Value} {xs : List Value} (h : W.ownsRow (bF + 1) 50 2 v n xs) (u : Value) : (W.setCell ⟨bF, j, none⟩ u).ownsRow (bF + 1) 50 2 v n xs :=
  h.kept (Lib.grownBy_setCell W bF j u) (.inr fun e => by have := (h.lt _ e).1; omega)
/-- a zero frame put into its place -/
theorem zend_of {w W : World} {b : Nat} (hB : Below w.heap.size w W) (hr : W.heap[b]? = some (.cells #[.int .i64 0, .int .i64 0, .slice none 0 0, .string ⟨#[]⟩] 28 (0, 0))) (hb : w.heap.size ≤ b := by omega) :
    Row4 W b (.int .i64 0) (.int .i64 0) (.slice none 0 0) (.string ⟨#[]⟩) ∧
    (loadVar 28 ⟨b, 0, none⟩).run Tryd.prog ((((W.setCell ⟨b, 0, none⟩ (.int .i64 0)).setCell ⟨b, 1, none⟩ (.int .i64 0)).setCell ⟨b, 2, none⟩ (.slice none 0 0)).setCell ⟨b, 3, none⟩ (.string ⟨#[]⟩)) = .ok (.agg #[.int .i64 0, .int .i64 0, .slice none 0 0, .string ⟨#[]⟩]) ((((W.setCell ⟨b, 0, none⟩ (.int .i64 0)).setCell ⟨b, 1, none⟩ (.int .i64 0)).setCell ⟨b, 2, none⟩ (.slice none 0 0)).setCell ⟨b, 3, none⟩ (.string ⟨#[]⟩)) ∧
    World.ownsRow ((((W.setCell ⟨b, 0, none⟩ (.int .i64 0)).setCell ⟨b, 1, none⟩ (.int .i64 0)).setCell ⟨b, 2, none⟩ (.slice none 0 0)).setCell ⟨b, 3, none⟩ (.string ⟨#[]⟩)) w.heap.size 50 2 (.slice none 0 0) 0 [] ∧ Below w.heap.size w ((((W.setCell ⟨b, 0, none⟩ (.int .i64 0)).setCell ⟨b, 1, none⟩ (.int .i64 0)).setCell ⟨b, 2, none⟩ (.slice none 0 0)).setCell ⟨b, 3, none⟩ (.string ⟨#[]⟩)) :=
  ⟨row4_of hr, fr_load (set4 _ _ _ _ hr) (Below.refl _ _), World.ownsRow_nil _ _ _ _, below4 hB hb _ _ _ _⟩
set_option maxRecDepth 100000 in
set_option maxHeartbeats 20000000 in
theorem sgetframe_any (s : ByteArray) (w : World) (hs : s.size ≤ 1100000) :
    Calls Tryd.prog 18 #[.string s] w fun e w' => ∃ v', e = .returned (.tuple #[.agg #[.int .i64 (getF s.data.toList).1.1.1, .int .i64 (getF s.data.toList).1.1.2, v', .string (getF s.data.toList).1.2.2], .int .i64 (getF s.data.toList).2]) ∧ w'.ownsRow w.heap.size 50 2 v' (getF s.data.toList).1.2.1.length (keyCells (getF s.data.toList).1.2.1) ∧ Below w.heap.size w w' := by
  have hb0 := (Below.refl w.heap.size w).alloc (Nat.le_refl _) (.cells #[.int .i64 0, .int .i64 0, .slice none 0 0, .string ⟨#[]⟩] 28)
  have hr0 := heap_alloc_new w (.cells #[.int .i64 0, .int .i64 0, .slice none 0 0, .string ⟨#[]⟩] 28)
  have hll : s.data.toList.length = s.size := by simp
  have e1 : ((s.data.toList[1]?.getD 0).toNat : Int) = bAt s 1 := rfl
  have e4 : ((s.data.toList[4]?.getD 0).toNat : Int) = bAt s 4 := rfl
  by_cases h15 : s.size < 15
  · have hv : getF s.data.toList = (fr0, 1) := if_pos (.inl (by omega))
    have i15 : (s.size : Int) < 15 := by omega
    have l0 := Lib.hid (fr_load hr0 (Below.refl _ _))
    have HB := Lib.hid hb0
    rw [hv]
    clear hv hr0 hb0 e1 e4
    go_enter Tryd.func18, Tryd.ntmps18
    go_wp2_with fail
    refine bodyPost_ret (v := .tuple #[.agg #[.int .i64 0, .int .i64 0, .slice none 0 0, .string ⟨#[]⟩], .int .i64 1]) ?_ rfl ⟨.slice none 0 0, rfl, World.ownsRow_nil _ _ _ _, HB.out⟩
    rw [results_cell_tmp (p := 2) (u := 3) (ty := 28) (by kernel_rfl)]
    have l2 := l0.out
    simp [asAddr, Result.andThen, l2]
  · have i15 : ¬ (s.size : Int) < 15 := by omega
    have j1 : (1 : Int) < (s.size : Int) := by omega
    have j1n : 1 < s.size := by omega
    have b1 := bAt_eq s 1 (by omega)
    have w1 : IntKind.i64.wrap (bAt s 1) = bAt s 1 := IntWalk.i64_in _ (by have := bAt_bd s 1; omega)
    by_cases hl1 : bAt s 1 = (s.size : Int)
    · have hc1 : ¬ (s.data.toList.length < 15 ∨ (s.data.toList[1]?.getD 0).toNat ≠ s.data.toList.length) := by omega
      have HB := Lib.hid hb0
      have RR := Lib.hid hr0
      have SO := Lib.hid (sopen_any s (w.alloc (.cells #[.int .i64 0, .int .i64 0, .slice none 0 0, .string ⟨#[]⟩] 28)) (by omega))
      have hs255 : (s.size : Int) ≤ 255 := by have := bAt_bd s 1; omega
      clear hb0 hr0 e1
      cases ho : openL s.data.toList with
      | none =>
        have hv : getF s.data.toList = (fr0, 2) := by unfold getF; rw [if_neg hc1, if_pos ho]
        rw [ho, show openV none = .tuple #[.string ByteArray.empty, .bool false] from rfl] at SO
        rw [hv]
        clear ho hc1 e4 hv
        go_enter Tryd.func18, Tryd.ntmps18
        go_wp2_with fail
        generalize w.alloc (.cells #[.int .i64 0, .int .i64 0, .slice none 0 0, .string ⟨#[]⟩] 28) = W at *
        refine SO.out.mono ?_
        rintro e w1 ⟨rfl, hb1⟩
        replace HB := Lib.hid (HB.out.trans (hb1.mono HB.out.size))
        replace RR := Lib.hid ((hb1.block _ (Array.getElem?_eq_some_iff.1 RR.out).1).trans RR.out)
        clear SO hb1
        have HE := Lib.hid (zend_of (w := w) HB.out RR.out)
        have R4 := HE.out.1
        have hlr := (Array.getElem?_eq_some_iff.1 RR.out).1
        obtain ⟨c0, c1, c2, c3, f0, f1, f2, f3⟩ := R4
        go_wp2_with fail
        refine bodyPost_ret (v := .tuple #[.agg #[.int .i64 0, .int .i64 0, .slice none 0 0, .string ⟨#[]⟩], .int .i64 2]) ?_ rfl ⟨.slice none 0 0, rfl, HE.out.2.2.1, HE.out.2.2.2⟩
        rw [results_cell_tmp (p := 2) (u := 3) (ty := 28) (by kernel_rfl)]
        have l2 := HE.out.2.1
        simp [asAddr, Result.andThen, l2]
      | some d =>
        obtain ⟨N, hN⟩ : ∃ N, (s.data.toList[4]?.getD 0).toNat = N := ⟨_, rfl⟩
        rw [hN] at e4
        have hNb : N ≤ 255 := by have := (s.data.toList[4]?.getD 0).toNat_lt; omega
        have j4n : 4 < s.size := by omega
        have b4 := bAt_eq s 4 j4n
        rw [← e4] at b4
        have j4 : (4 : Int) < (s.size : Int) := by omega
        have w4 : IntKind.i64.wrap (N : Int) = (N : Int) := IntWalk.i64_in _ (by omega)
        have w5 : IntKind.i64.wrap (2 * (N : Int)) = 2 * (N : Int) := IntWalk.i64_in _ (by omega)
        have w6 : IntKind.i64.wrap (13 + 2 * (N : Int)) = 13 + 2 * (N : Int) := IntWalk.i64_in _ (by omega)
        rw [ho, show openV (some d) = .tuple #[.string ⟨d.toArray⟩, .bool true] from rfl] at SO
        generalize (⟨d.toArray⟩ : ByteArray) = X at *
        clear e4
        by_cases h13 : s.size = 13 + 2 * N
        · have hn13 : ¬ s.data.toList.length ≠ 13 + 2 * (s.data.toList[4]?.getD 0).toNat := by rw [hN]; omega
          have hm : mkF s.data.toList = ((bAt s 2, bAt s 3), (keysL N (s.data.toList.drop 5), ⟨((s.data.toList.drop (5 + 2 * N)).take 4).toArray⟩)) := by unfold mkF; rw [hN]; rfl
          have hv : getF s.data.toList = if putL (mkF s.data.toList) ≠ s.data.toList then (fr0, 3) else (mkF s.data.toList, 0) := by unfold getF; rw [if_neg hc1, if_neg (by rw [ho]; simp), if_neg hn13]
          have j13 : ((s.size : Int) != 13 + 2 * (N : Int)) = false := by have : (s.size : Int) = 13 + 2 * (N : Int) := by omega
                                                                          simp [this]
          rw [hv, hm]
          generalize hr : (if putL ((bAt s 2, bAt s 3), (keysL N (s.data.toList.drop 5), (⟨((s.data.toList.drop (5 + 2 * N)).take 4).toArray⟩ : ByteArray))) ≠ s.data.toList then (fr0, (3 : Int)) else (((bAt s 2, bAt s 3), (keysL N (s.data.toList.drop 5), (⟨((s.data.toList.drop (5 + 2 * N)).take 4).toArray⟩ : ByteArray))), 0)) = r
          have HR := Lib.hid hr
          clear hr
          have HSI := Lib.hid h13
          have j2n : 2 < s.size := by omega
          have j3n : 3 < s.size := by omega
          have b2 := bAt_eq s 2 j2n
          have b3 := bAt_eq s 3 j3n
          have j2 : (2 : Int) < (s.size : Int) := by omega
          have j3 : (3 : Int) < (s.size : Int) := by omega
          have B2 := bAt_bd s 2
          have B3 := bAt_bd s 3
          have w2 : IntKind.i64.wrap (bAt s 2) = bAt s 2 := IntWalk.i64_in _ (by omega)
          have w3 : IntKind.i64.wrap (bAt s 3) = bAt s 3 := IntWalk.i64_in _ (by omega)
          clear hc1 hv ho hN hn13 hm h13
          go_enter Tryd.func18, Tryd.ntmps18
          go_wp2_with fail
          generalize w.alloc (.cells #[.int .i64 0, .int .i64 0, .slice none 0 0, .string ⟨#[]⟩] 28) = W at *
          refine SO.out.mono ?_
          rintro e w1 ⟨rfl, hb1⟩
          replace HB := Lib.hid (HB.out.trans (hb1.mono HB.out.size))
          replace RR := Lib.hid ((hb1.block _ (Array.getElem?_eq_some_iff.1 RR.out).1).trans RR.out)
          clear SO hb1
          go_wp2_with fail
          refine Code.wp_mono (Q := fun e a' w' => e = .normal ∧ a' = { tmps := #[.string s, undef, .pointer (some ⟨w.heap.size, 0, none⟩), .int .i64 0, .string X, .bool true, .int .i64 (N : Int), .pointer (some ⟨w1.heap.size, 0, none⟩), undef, .string s, .int .i64 (s.size : Int), .bool false, .bool false, .string s, .int .u8 (s.size : Int), .int .i64 (s.size : Int), .string s, .int .i64 (s.size : Int), .bool false, .bool false, undef, .tuple #[.string X, .bool true], .string s, .tuple #[.string X, .bool true], .string X, .bool true, .bool true, .bool false, undef, .string s, .int .u8 (N : Int), .int .i64 (N : Int), .string s, .int .i64 (s.size : Int), .int .i64 (N : Int), .int .i64 (2 * (N : Int)), .int .i64 (13 + 2 * (N : Int)), .bool false, undef, .string s, .int .u8 (bAt s 2), .int .i64 (bAt s 2), .string s, .int .u8 (bAt s 3), .int .i64 (bAt s 3), .agg #[.int .i64 (bAt s 2), .int .i64 (bAt s 3), .slice none 0 0, .string ⟨#[]⟩], undef, undef, undef, undef, undef, undef, undef, undef, undef, undef, undef, undef, undef, undef, undef, undef, undef, undef, undef, undef, undef, undef, undef, undef, undef, undef, undef, undef, undef, undef, undef, undef, undef, undef, undef, undef, undef, undef, undef, undef, undef], defers := [] } ∧ w' = (w1.alloc (.cells #[.int .i64 (bAt s 2), .int .i64 (bAt s 3), .slice none 0 0, .string ⟨#[]⟩] 28)).drew) ?imp ?reg
          case reg =>
            refine Code.wp_mono OnlyNormal.imp ?_
            go_region_with (fail)
            all_goals first | exact ⟨rfl, rfl, rfl⟩ | exact ⟨trivial, rfl, rfl⟩
          case imp =>
            rintro e a' wF ⟨rfl, rfl, rfl⟩
            obtain ⟨i0, hi, hz0, hz1, hz2⟩ := info_parts infoK
            have hbA : Below w1.heap.size w1 (w1.alloc (.cells #[.int .i64 (bAt s 2), .int .i64 (bAt s 3), .slice none 0 0, .string ⟨#[]⟩] 28)) := (Below.refl _ _).alloc (Nat.le_refl _) _
            have hwz : w.heap.size < w1.heap.size := (Array.getElem?_eq_some_iff.1 RR.out).1
            have hG0 : GK w (w1.alloc (.cells #[.int .i64 (bAt s 2), .int .i64 (bAt s 3), .slice none 0 0, .string ⟨#[]⟩] 28)).drew w1.heap.size (bAt s 2) (bAt s 3) (.slice none 0 0) ⟨#[]⟩ := ⟨(HB.out.trans (hbA.mono HB.out.size)).drew, heap_alloc_new w1 _, (hbA.block _ hwz).trans RR.out, hwz⟩
            have HG0 := Lib.hid hG0
            clear hG0 hbA RR HB
            generalize (w1.alloc (.cells #[.int .i64 (bAt s 2), .int .i64 (bAt s 3), .slice none 0 0, .string ⟨#[]⟩] 28)).drew = W2 at *
            generalize w1.heap.size = bF at *
            go_wp2_with fail
            go_loopw [8] (fun i wr => ∃ (k : Nat) (v : Value), k ≤ N ∧ i = .int .i64 k ∧ GK w wr bF (bAt s 2) (bAt s 3) v ⟨#[]⟩ ∧ wr.ownsRow (bF + 1) 50 2 v ((keysL N (s.data.toList.drop 5)).take k).length (keyCells ((keysL N (s.data.toList.drop 5)).take k))) (fun i _ => N - (intOf i).toNat)
            case atStart => exact ⟨0, _, Nat.zero_le _, rfl, HG0.out, World.ownsRow_nil _ _ _ _⟩
            case round =>
              obtain ⟨k, v, hk, rfl, hg, hown⟩ := hrel
              have HG := Lib.hid hg
              have HO := Lib.hid hown
              clear hg hown
              by_cases hlt : k < N
              · obtain ⟨va, vn, vk, rfl⟩ := own_shape HO.out
                have hsz := HSI.out
                have q5n : 5 + 2 * k < s.size := by omega
                have q6n : 6 + 2 * k < s.size := by omega
                have b5 := bAt_eq s (5 + 2 * k) q5n
                have b6 := bAt_eq s (6 + 2 * k) q6n
                have hkg := keysL_get N (s.data.toList.drop 5) k hlt
                rw [List.getElem?_drop, List.getElem?_drop, show 5 + (2 * k + 1) = 6 + 2 * k by omega] at hkg
                have hkg2 : (keysL N (s.data.toList.drop 5)).getD k (0, 0) = (bAt s (5 + 2 * k), bAt s (6 + 2 * k)) := hkg
                have hkl := keysL_len N (s.data.toList.drop 5)
                have htk : keyCells ((keysL N (s.data.toList.drop 5)).take (k + 1)) = keyCells ((keysL N (s.data.toList.drop 5)).take k) ++ [.int .i64 (bAt s (5 + 2 * k)), .int .i64 (bAt s (6 + 2 * k))] := by
                  rw [List.take_add_one, show (keysL N (s.data.toList.drop 5))[k]?.toList = [(bAt s (5 + 2 * k), bAt s (6 + 2 * k))] from by rw [← hkg2]; simp [List.getD, hkl, hlt], keyCells_snoc]
                have HTK := Lib.hid htk
                clear hkg hkg2 hkl htk hsz
                have B5 := bAt_bd s (5 + 2 * k)
                have B6 := bAt_bd s (6 + 2 * k)
                have q5 : (5 : Int) + 2 * (k : Int) < (s.size : Int) := by omega
                have q6 : (6 : Int) + 2 * (k : Int) < (s.size : Int) := by omega
                have z0 : (0 : Int) ≤ (k : Int) := by omega
                have z1 : (k : Int) < (N : Int) := by omega
                have z5 : (0 : Int) ≤ 5 + 2 * (k : Int) := by omega
                have z6 : (0 : Int) ≤ 6 + 2 * (k : Int) := by omega
                have et5 : ((5 : Int) + 2 * (k : Int)).toNat = 5 + 2 * k := by omega
                have et6 : ((6 : Int) + 2 * (k : Int)).toNat = 6 + 2 * k := by omega
                have y0 : IntKind.i64.wrap (2 * (k : Int)) = 2 * (k : Int) := IntWalk.i64_in _ (by omega)
                have y5 : IntKind.i64.wrap (5 + 2 * (k : Int)) = 5 + 2 * (k : Int) := IntWalk.i64_in _ (by omega)
                have y6 : IntKind.i64.wrap (6 + 2 * (k : Int)) = 6 + 2 * (k : Int) := IntWalk.i64_in _ (by omega)
                have v5 : IntKind.i64.wrap (bAt s (5 + 2 * k)) = bAt s (5 + 2 * k) := IntWalk.i64_in _ (by omega)
                have v6 : IntKind.i64.wrap (bAt s (6 + 2 * k)) = bAt s (6 + 2 * k) := IntWalk.i64_in _ (by omega)
                generalize bAt s (5 + 2 * k) = kp at *
                generalize bAt s (6 + 2 * k) = kq at *
                go_wp2_with fail
                refine wp_region_G (fun _ => True) (by kernel_rfl) ?_
                have HG2 := Lib.hid HG.out.drew
                have HO2 := Lib.hid HO.out.drew
                clear HG HO
                generalize wr.drew = wD at *
                refine wpG_seg [true, true, false, true, true, true, true, true, true, true, true, true, true, true, true] [2, 15] 6 (by kernel_rfl) (by intro c a d v w h; cases d <;> exact h) (by kernel_rfl) trivial ?_
                try simp only [maskRows]
                repeat (first
                  | go_big_quiet_skip
                  | (go_big_quiet_want
                     first
                       | (go_big_quiet_op; go_big_quiet_on)
                       | (go_big_quiet_op; refine ⟨_, fun _ _ => rfl, ?_⟩; go_big_quiet_on)
                       | (go_big_quiet_op; refine ⟨_, fun _ _ _ => rfl, ?_⟩; go_big_quiet_on)))
                refine wpQuiet_nil ?_
                refine List.forall_mem_cons.2 ⟨?_, List.forall_mem_singleton.2 ?_⟩
                · have c2 := (fr_cells HG2.out.row (Below.refl _ _)).2.2.1
                  refine segt_run rfl (by rfl) (fun K hK => ?_)
                  go_simp
                  clear c2
                  refine hK _ _ ⟨_, fun _ h => h, trivial, ?_⟩
                  clear hK K
                  try simp only [Act.put, List.getElem_toArray, List.getElem_cons_succ, List.getElem_cons_zero, List.setIfInBounds_toArray, List.set_cons_zero, List.set_cons_succ]
                  refine wpG_seg [] [15] 5 (by kernel_rfl) (by intro c a d v w h; cases d <;> exact h) (by kernel_rfl) trivial ?_
                  try simp only [maskRows]
                  refine wpQuiet_nil ?_
                  refine List.forall_mem_singleton.2 ?_
                  refine segt_run rfl (by rfl) (fun K hK => ?_)
                  go_simp
                  refine hK _ _ ⟨_, fun _ h => h, trivial, ?_⟩
                  clear hK K
                  try simp only [Act.put, List.getElem_toArray, List.getElem_cons_succ, List.getElem_cons_zero, List.setIfInBounds_toArray, List.set_cons_zero, List.set_cons_succ]
                  refine wpG_seg [] [16] 4 (by kernel_rfl) (by intro c a d v w h; cases d <;> exact h) (by kernel_rfl) trivial ?_
                  try simp only [maskRows]
                  refine wpQuiet_nil ?_
                  refine List.forall_mem_singleton.2 ?_
                  refine segt_run rfl (by rfl) (fun K hK => ?_)
                  go_simp
                  have HSZ := Lib.hid (Nat.le_refl (wD).heap.size)
                  have HLI := Lib.hid (cell_two_new (wD) (.int .i64 kp) (.int .i64 kq) 50)
                  replace HO2 := Lib.hid (HO2.out.alloc (.cells #[.int .i64 kp, .int .i64 kq] 50))
                  replace HG2 := Lib.hid (HG2.out.next ((Below.refl (wD).heap.size (wD)).alloc (Nat.le_refl _) (.cells #[.int .i64 kp, .int .i64 kq] 50)))
                  generalize World.alloc (wD) (.cells #[.int .i64 kp, .int .i64 kq] 50) = w5 at *
                  generalize (wD).heap.size = gL at *
                  clear HSZ
                  refine hK _ _ ⟨_, fun _ h => h, trivial, ?_⟩
                  clear hK K
                  try simp only [Act.put, List.getElem_toArray, List.getElem_cons_succ, List.getElem_cons_zero, List.setIfInBounds_toArray, List.set_cons_zero, List.set_cons_succ]
                  refine wpG_seg [] [17] 3 (by kernel_rfl) (by intro c a d v w h; cases d <;> exact h) (by kernel_rfl) trivial ?_
                  try simp only [maskRows]
                  refine wpQuiet_nil ?_
                  refine List.forall_mem_singleton.2 ?_
                  refine segt_run rfl (by rfl) (fun K hK => ?_)
                  have hbD := (Array.getElem?_eq_some_iff.1 HG2.out.row).1
                  refine wp_append_own _ (.tmp 53) (.tmp 67) 24 rfl (bF + 1) 50 i0 (.agg #[.int .i64 0, .int .i64 0]) 2 16 Tryd.underlying24 hi hz0 hz1 hz2 rfl (by decide) _ _ _ rfl HO2.out ⟨gL, 0, none⟩ 1 1 [.int .i64 kp, .int .i64 kq] rfl rfl HLI.out (by intro u hu; simp at hu; rcases hu with rfl | rfl <;> rfl) (by simp; unfold maxLen; omega) (by simp; omega) (by omega) ?_
                  intro v6 w6 hown6 hgrow6 _
                  replace HG2 := Lib.hid (HG2.out.grow hgrow6 (fun b e => by have := (HO2.out.lt b e).1; omega))
                  have HO3 := Lib.hid hown6
                  clear HO2 hown6 hgrow6 HLI hbD
                  refine hK _ _ ⟨_, fun _ h => h, trivial, ?_⟩
                  clear hK K
                  try simp only [Act.put, List.getElem_toArray, List.getElem_cons_succ, List.getElem_cons_zero, List.setIfInBounds_toArray, List.set_cons_zero, List.set_cons_succ]
                  refine wpG_seg [false, false, false, false, false, false, false, false, false, false, false, false, false, false, false, false, false, false, true, true] [20] 0 (by kernel_rfl) (by intro c a d v w h; cases d <;> exact h) (by kernel_rfl) trivial ?_
                  try simp only [maskRows]
                  repeat (first
                    | go_big_quiet_skip
                    | (go_big_quiet_want
                       first
                         | (go_big_quiet_op; go_big_quiet_on)
                         | (go_big_quiet_op; refine ⟨_, fun _ _ => rfl, ?_⟩; go_big_quiet_on)
                         | (go_big_quiet_op; refine ⟨_, fun _ _ _ => rfl, ?_⟩; go_big_quiet_on)))
                  refine wpQuiet_nil ?_
                  refine List.forall_mem_singleton.2 ?_
                  try simp only [Act.put, List.getElem_toArray, List.getElem_cons_succ, List.getElem_cons_zero, List.setIfInBounds_toArray, List.set_cons_zero, List.set_cons_succ]
                  obtain ⟨c0, c1, c2, c3, f0, f1, f2, f3⟩ := row4_of HG2.out.row
                  have hlt9 := (Array.getElem?_eq_some_iff.1 HG2.out.row).1
                  obtain ⟨va6, vn6, vk6, rfl⟩ := own_shape HO3.out
                  refine segt_run rfl (by rfl) (fun K hK => ?_)
                  go_simp
                  have HG4 := Lib.hid (HG2.out.setv (.slice va6 vn6 vk6))
                  have HO4 := Lib.hid (own_setF (j := 2) HO3.out (.slice va6 vn6 vk6))
                  clear HG2 HO3 c0 c1 c2 c3 f0 f1 f2 f3 hlt9
                  generalize (World.setCell w6 ⟨bF, 2, none⟩ (.slice va6 vn6 vk6)) = w9 at *
                  refine hK _ _ ⟨_, fun _ h => h, trivial, ?_⟩
                  clear hK K
                  try simp only [Act.put, List.getElem_toArray, List.getElem_cons_succ, List.getElem_cons_zero, List.setIfInBounds_toArray, List.set_cons_zero, List.set_cons_succ]
                  refine wpG_end [] (by kernel_rfl) (by intro c a d v w h; cases d <;> exact h) (by kernel_rfl) trivial ?_
                  try simp only [maskRows]
                  refine wpQuiet_nil ?_
                  have hlk : ((keysL N (s.data.toList.drop 5)).take (k + 1)).length = ((keysL N (s.data.toList.drop 5)).take k).length + 1 := by simp [keysL_len]; omega
                  have ho9 : w9.ownsRow (bF + 1) 50 2 (.slice va6 vn6 vk6) ((keysL N (s.data.toList.drop 5)).take (k + 1)).length (keyCells ((keysL N (s.data.toList.drop 5)).take (k + 1))) := by rw [hlk, HTK.out]; exact HO4.out
                  have HO9 := Lib.hid ho9
                  clear ho9 hlk HO4
                  go_wp2
                  exact ⟨⟨k + 1, _, by omega, by go_num, HG4.out, HO9.out⟩, by simp [intOf]; omega⟩
                · refine segt_run rfl (by rfl) (fun K hK => ?_)
                  go_simp
                  refine hK _ _ ⟨_, fun _ h => h, trivial, ?_⟩
                  clear hK K
                  try simp only [Act.put, List.getElem_toArray, List.getElem_cons_succ, List.getElem_cons_zero, List.setIfInBounds_toArray, List.set_cons_zero, List.set_cons_succ]
                  refine wpG_seg [] [2, 16] 5 (by kernel_rfl) (by intro c a d v w h; cases d <;> exact h) (by kernel_rfl) trivial ?_
                  try simp only [maskRows]
                  refine wpQuiet_nil ?_
                  refine List.forall_mem_cons.2 ⟨?_, List.forall_mem_singleton.2 ?_⟩
                  · have c2 := (fr_cells HG2.out.row (Below.refl _ _)).2.2.1
                    refine segt_run rfl (by rfl) (fun K hK => ?_)
                    go_simp
                    clear c2
                    refine hK _ _ ⟨_, fun _ h => h, trivial, ?_⟩
                    clear hK K
                    try simp only [Act.put, List.getElem_toArray, List.getElem_cons_succ, List.getElem_cons_zero, List.setIfInBounds_toArray, List.set_cons_zero, List.set_cons_succ]
                    refine wpG_seg [] [16] 4 (by kernel_rfl) (by intro c a d v w h; cases d <;> exact h) (by kernel_rfl) trivial ?_
                    try simp only [maskRows]
                    refine wpQuiet_nil ?_
                    refine List.forall_mem_singleton.2 ?_
                    refine segt_run rfl (by rfl) (fun K hK => ?_)
                    go_simp
                    have HSZ := Lib.hid (Nat.le_refl (wD).heap.size)
                    have HLI := Lib.hid (cell_two_new (wD) (.int .i64 kp) (.int .i64 kq) 50)
                    replace HO2 := Lib.hid (HO2.out.alloc (.cells #[.int .i64 kp, .int .i64 kq] 50))
                    replace HG2 := Lib.hid (HG2.out.next ((Below.refl (wD).heap.size (wD)).alloc (Nat.le_refl _) (.cells #[.int .i64 kp, .int .i64 kq] 50)))
                    generalize World.alloc (wD) (.cells #[.int .i64 kp, .int .i64 kq] 50) = w5 at *
                    generalize (wD).heap.size = gL at *
                    clear HSZ
                    refine hK _ _ ⟨_, fun _ h => h, trivial, ?_⟩
                    clear hK K
                    try simp only [Act.put, List.getElem_toArray, List.getElem_cons_succ, List.getElem_cons_zero, List.setIfInBounds_toArray, List.set_cons_zero, List.set_cons_succ]
                    refine wpG_seg [] [17] 3 (by kernel_rfl) (by intro c a d v w h; cases d <;> exact h) (by kernel_rfl) trivial ?_
                    try simp only [maskRows]
                    refine wpQuiet_nil ?_
                    refine List.forall_mem_singleton.2 ?_
                    refine segt_run rfl (by rfl) (fun K hK => ?_)
                    have hbD := (Array.getElem?_eq_some_iff.1 HG2.out.row).1
                    refine wp_append_own _ (.tmp 53) (.tmp 67) 24 rfl (bF + 1) 50 i0 (.agg #[.int .i64 0, .int .i64 0]) 2 16 Tryd.underlying24 hi hz0 hz1 hz2 rfl (by decide) _ _ _ rfl HO2.out ⟨gL, 0, none⟩ 1 1 [.int .i64 kp, .int .i64 kq] rfl rfl HLI.out (by intro u hu; simp at hu; rcases hu with rfl | rfl <;> rfl) (by simp; unfold maxLen; omega) (by simp; omega) (by omega) ?_
                    intro v6 w6 hown6 hgrow6 _
                    replace HG2 := Lib.hid (HG2.out.grow hgrow6 (fun b e => by have := (HO2.out.lt b e).1; omega))
                    have HO3 := Lib.hid hown6
                    clear HO2 hown6 hgrow6 HLI hbD
                    refine hK _ _ ⟨_, fun _ h => h, trivial, ?_⟩
                    clear hK K
                    try simp only [Act.put, List.getElem_toArray, List.getElem_cons_succ, List.getElem_cons_zero, List.setIfInBounds_toArray, List.set_cons_zero, List.set_cons_succ]
                    refine wpG_seg [false, false, false, false, false, false, false, false, false, false, false, false, false, false, false, false, false, false, true, true] [20] 0 (by kernel_rfl) (by intro c a d v w h; cases d <;> exact h) (by kernel_rfl) trivial ?_
                    try simp only [maskRows]
                    repeat (first
                      | go_big_quiet_skip
                      | (go_big_quiet_want
                         first
                           | (go_big_quiet_op; go_big_quiet_on)
                           | (go_big_quiet_op; refine ⟨_, fun _ _ => rfl, ?_⟩; go_big_quiet_on)
                           | (go_big_quiet_op; refine ⟨_, fun _ _ _ => rfl, ?_⟩; go_big_quiet_on)))
                    refine wpQuiet_nil ?_
                    refine List.forall_mem_singleton.2 ?_
                    try simp only [Act.put, List.getElem_toArray, List.getElem_cons_succ, List.getElem_cons_zero, List.setIfInBounds_toArray, List.set_cons_zero, List.set_cons_succ]
                    obtain ⟨c0, c1, c2, c3, f0, f1, f2, f3⟩ := row4_of HG2.out.row
                    have hlt9 := (Array.getElem?_eq_some_iff.1 HG2.out.row).1
                    obtain ⟨va6, vn6, vk6, rfl⟩ := own_shape HO3.out
                    refine segt_run rfl (by rfl) (fun K hK => ?_)
                    go_simp
                    have HG4 := Lib.hid (HG2.out.setv (.slice va6 vn6 vk6))
                    have HO4 := Lib.hid (own_setF (j := 2) HO3.out (.slice va6 vn6 vk6))
                    clear HG2 HO3 c0 c1 c2 c3 f0 f1 f2 f3 hlt9
                    generalize (World.setCell w6 ⟨bF, 2, none⟩ (.slice va6 vn6 vk6)) = w9 at *
                    refine hK _ _ ⟨_, fun _ h => h, trivial, ?_⟩
                    clear hK K
                    try simp only [Act.put, List.getElem_toArray, List.getElem_cons_succ, List.getElem_cons_zero, List.setIfInBounds_toArray, List.set_cons_zero, List.set_cons_succ]
                    refine wpG_end [] (by kernel_rfl) (by intro c a d v w h; cases d <;> exact h) (by kernel_rfl) trivial ?_
                    try simp only [maskRows]
                    refine wpQuiet_nil ?_
                    have hlk : ((keysL N (s.data.toList.drop 5)).take (k + 1)).length = ((keysL N (s.data.toList.drop 5)).take k).length + 1 := by simp [keysL_len]; omega
                    have ho9 : w9.ownsRow (bF + 1) 50 2 (.slice va6 vn6 vk6) ((keysL N (s.data.toList.drop 5)).take (k + 1)).length (keyCells ((keysL N (s.data.toList.drop 5)).take (k + 1))) := by rw [hlk, HTK.out]; exact HO4.out
                    have HO9 := Lib.hid ho9
                    clear ho9 hlk HO4
                    go_wp2
                    exact ⟨⟨k + 1, _, by omega, by go_num, HG4.out, HO9.out⟩, by simp [intOf]; omega⟩
                  · refine segt_run rfl (by rfl) (fun K hK => ?_)
                    go_simp
                    have HSZ := Lib.hid (Nat.le_refl (wD).heap.size)
                    have HLI := Lib.hid (cell_two_new (wD) (.int .i64 kp) (.int .i64 kq) 50)
                    replace HO2 := Lib.hid (HO2.out.alloc (.cells #[.int .i64 kp, .int .i64 kq] 50))
                    replace HG2 := Lib.hid (HG2.out.next ((Below.refl (wD).heap.size (wD)).alloc (Nat.le_refl _) (.cells #[.int .i64 kp, .int .i64 kq] 50)))
                    generalize World.alloc (wD) (.cells #[.int .i64 kp, .int .i64 kq] 50) = w4 at *
                    generalize (wD).heap.size = gL at *
                    clear HSZ
                    refine hK _ _ ⟨_, fun _ h => h, trivial, ?_⟩
                    clear hK K
                    try simp only [Act.put, List.getElem_toArray, List.getElem_cons_succ, List.getElem_cons_zero, List.setIfInBounds_toArray, List.set_cons_zero, List.set_cons_succ]
                    refine wpG_seg [] [2] 4 (by kernel_rfl) (by intro c a d v w h; cases d <;> exact h) (by kernel_rfl) trivial ?_
                    try simp only [maskRows]
                    refine wpQuiet_nil ?_
                    refine List.forall_mem_singleton.2 ?_
                    have c2 := (fr_cells HG2.out.row (Below.refl _ _)).2.2.1
                    refine segt_run rfl (by rfl) (fun K hK => ?_)
                    go_simp
                    clear c2
                    refine hK _ _ ⟨_, fun _ h => h, trivial, ?_⟩
                    clear hK K
                    try simp only [Act.put, List.getElem_toArray, List.getElem_cons_succ, List.getElem_cons_zero, List.setIfInBounds_toArray, List.set_cons_zero, List.set_cons_succ]
                    refine wpG_seg [] [17] 3 (by kernel_rfl) (by intro c a d v w h; cases d <;> exact h) (by kernel_rfl) trivial ?_
                    try simp only [maskRows]
                    refine wpQuiet_nil ?_
                    refine List.forall_mem_singleton.2 ?_
                    refine segt_run rfl (by rfl) (fun K hK => ?_)
                    have hbD := (Array.getElem?_eq_some_iff.1 HG2.out.row).1
                    refine wp_append_own _ (.tmp 53) (.tmp 67) 24 rfl (bF + 1) 50 i0 (.agg #[.int .i64 0, .int .i64 0]) 2 16 Tryd.underlying24 hi hz0 hz1 hz2 rfl (by decide) _ _ _ rfl HO2.out ⟨gL, 0, none⟩ 1 1 [.int .i64 kp, .int .i64 kq] rfl rfl HLI.out (by intro u hu; simp at hu; rcases hu with rfl | rfl <;> rfl) (by simp; unfold maxLen; omega) (by simp; omega) (by omega) ?_
                    intro v6 w6 hown6 hgrow6 _
                    replace HG2 := Lib.hid (HG2.out.grow hgrow6 (fun b e => by have := (HO2.out.lt b e).1; omega))
                    have HO3 := Lib.hid hown6
                    clear HO2 hown6 hgrow6 HLI hbD
                    refine hK _ _ ⟨_, fun _ h => h, trivial, ?_⟩
                    clear hK K
                    try simp only [Act.put, List.getElem_toArray, List.getElem_cons_succ, List.getElem_cons_zero, List.setIfInBounds_toArray, List.set_cons_zero, List.set_cons_succ]
                    refine wpG_seg [false, false, false, false, false, false, false, false, false, false, false, false, false, false, false, false, false, false, true, true] [20] 0 (by kernel_rfl) (by intro c a d v w h; cases d <;> exact h) (by kernel_rfl) trivial ?_
                    try simp only [maskRows]
                    repeat (first
                      | go_big_quiet_skip
                      | (go_big_quiet_want
                         first
                           | (go_big_quiet_op; go_big_quiet_on)
                           | (go_big_quiet_op; refine ⟨_, fun _ _ => rfl, ?_⟩; go_big_quiet_on)
                           | (go_big_quiet_op; refine ⟨_, fun _ _ _ => rfl, ?_⟩; go_big_quiet_on)))
                    refine wpQuiet_nil ?_
                    refine List.forall_mem_singleton.2 ?_
                    try simp only [Act.put, List.getElem_toArray, List.getElem_cons_succ, List.getElem_cons_zero, List.setIfInBounds_toArray, List.set_cons_zero, List.set_cons_succ]
                    obtain ⟨c0, c1, c2, c3, f0, f1, f2, f3⟩ := row4_of HG2.out.row
                    have hlt9 := (Array.getElem?_eq_some_iff.1 HG2.out.row).1
                    obtain ⟨va6, vn6, vk6, rfl⟩ := own_shape HO3.out
                    refine segt_run rfl (by rfl) (fun K hK => ?_)
                    go_simp
                    have HG4 := Lib.hid (HG2.out.setv (.slice va6 vn6 vk6))
                    have HO4 := Lib.hid (own_setF (j := 2) HO3.out (.slice va6 vn6 vk6))
                    clear HG2 HO3 c0 c1 c2 c3 f0 f1 f2 f3 hlt9
                    generalize (World.setCell w6 ⟨bF, 2, none⟩ (.slice va6 vn6 vk6)) = w9 at *
                    refine hK _ _ ⟨_, fun _ h => h, trivial, ?_⟩
                    clear hK K
                    try simp only [Act.put, List.getElem_toArray, List.getElem_cons_succ, List.getElem_cons_zero, List.setIfInBounds_toArray, List.set_cons_zero, List.set_cons_succ]
                    refine wpG_end [] (by kernel_rfl) (by intro c a d v w h; cases d <;> exact h) (by kernel_rfl) trivial ?_
                    try simp only [maskRows]
                    refine wpQuiet_nil ?_
                    have hlk : ((keysL N (s.data.toList.drop 5)).take (k + 1)).length = ((keysL N (s.data.toList.drop 5)).take k).length + 1 := by simp [keysL_len]; omega
                    have ho9 : w9.ownsRow (bF + 1) 50 2 (.slice va6 vn6 vk6) ((keysL N (s.data.toList.drop 5)).take (k + 1)).length (keyCells ((keysL N (s.data.toList.drop 5)).take (k + 1))) := by rw [hlk, HTK.out]; exact HO4.out
                    have HO9 := Lib.hid ho9
                    clear ho9 hlk HO4
                    go_wp2
                    exact ⟨⟨k + 1, _, by omega, by go_num, HG4.out, HO9.out⟩, by simp [intOf]; omega⟩
              · obtain rfl : k = N := by omega
                have hkl := keysL_len k (s.data.toList.drop 5)
                have ho := HO.out
                rw [List.take_of_length_le (by omega)] at ho
                have HO5 := Lib.hid ho
                have hsz := HSI.out
                have hyy : (⟨((s.data.toList.drop (5 + 2 * k)).take 4).toArray⟩ : ByteArray) = s.extract (5 + 2 * k) (9 + 2 * k) := by
                  apply ByteArray.ext
                  apply Array.toList_inj.1
                  rw [ByteArray.data_extract, Array.toList_extract, List.extract_eq_take_drop, show 9 + 2 * k - (5 + 2 * k) = 4 by omega]
                clear ho HO
                generalize keysL k (s.data.toList.drop 5) = KS at *
                have hKS : KS.length ≤ 255 := by omega
                clear hkl
                obtain ⟨va, vk, rfl, -, -⟩ := id (keysAt_own HO5.out)
                have HYY := Lib.hid hyy
                clear hyy
                obtain ⟨Y, hY⟩ : ∃ Y, s.extract (5 + 2 * k) (9 + 2 * k) = Y := ⟨_, rfl⟩
                have q5 : (5 : Int) + 2 * (k : Int) ≤ (9 : Int) + 2 * (k : Int) := by omega
                have q9 : (9 : Int) + 2 * (k : Int) ≤ (s.size : Int) := by omega
                have z5 : (0 : Int) ≤ 5 + 2 * (k : Int) := by omega
                have z9 : (0 : Int) ≤ 9 + 2 * (k : Int) := by omega
                have et5 : ((5 : Int) + 2 * (k : Int)).toNat = 5 + 2 * k := by omega
                have et9 : ((9 : Int) + 2 * (k : Int)).toNat = 9 + 2 * k := by omega
                have y5 : IntKind.i64.wrap (5 + 2 * (k : Int)) = 5 + 2 * (k : Int) := IntWalk.i64_in _ (by omega)
                have y9 : IntKind.i64.wrap (9 + 2 * (k : Int)) = 9 + 2 * (k : Int) := IntWalk.i64_in _ (by omega)
                obtain ⟨c0, c1, c2, c3, f0, f1, f2, f3⟩ := row4_of HG.out.row
                have hlt9 := (Array.getElem?_eq_some_iff.1 HG.out.row).1
                have HG4 := Lib.hid (HG.out.sety Y)
                have HO4 := Lib.hid (own_setF (j := 3) HO5.out (.string Y))
                have LF := fr_load HG4.out.row (Below.refl _ _)
                have SP := Lib.hid (sputframe_any (bAt s 2) (bAt s 3) _ KS Y (wr.setCell ⟨bF, 3, none⟩ (.string Y)) (keysAt_own HO4.out) (by omega))
                clear HG HO5
                go_wp2_with fail
                refine SP.out.mono ?_
                rintro e w7 ⟨rfl, hb7⟩
                have HG7 := Lib.hid (HG4.out.next hb7)
                have HO7 := Lib.hid (own_below HO4.out hb7)
                clear hb7 SP LF HG4 HO4 c0 c1 c2 c3 f0 f1 f2 f3 hlt9
                by_cases hq : putL ((bAt s 2, bAt s 3), (KS, Y)) = s.data.toList
                · have hps : putS ((bAt s 2, bAt s 3), (KS, Y)) = s := by unfold putS; rw [hq]
                  have hr2 : r = (((bAt s 2, bAt s 3), (KS, Y)), 0) := by rw [← HR.out, HYY.out, hY, if_neg (by simpa using hq)]
                  rw [hps]
                  subst hr2
                  clear hps hq HR HYY hY
                  have hnr : (Value.slice va KS.length vk).ownBlock ≠ some w.heap.size := fun e => by have := (HO7.out.lt _ e).1; have := HG7.out.lt; omega
                  have HF := Lib.hid (And.intro (fr_load (set4 (.int .i64 (bAt s 2)) (.int .i64 (bAt s 3)) (.slice va KS.length vk) (.string Y) HG7.out.res) (Below.refl _ _)) (And.intro (own_base (HO7.out.kept (grown4f w7 w.heap.size (.int .i64 (bAt s 2)) (.int .i64 (bAt s 3)) (.slice va KS.length vk) (.string Y)) (.inr hnr)) (by have := HG7.out.lt; omega : w.heap.size ≤ bF + 1)) (below4 HG7.out.below (Nat.le_refl _) (.int .i64 (bAt s 2)) (.int .i64 (bAt s 3)) (.slice va KS.length vk) (.string Y))))
                  obtain ⟨e0, e1, e2, e3, -, -, -, -⟩ := row4_of HG7.out.row
                  obtain ⟨d0, d1, d2, d3, g0, g1, g2, g3⟩ := row4_of HG7.out.res
                  have hlr := (Array.getElem?_eq_some_iff.1 HG7.out.res).1
                  clear HO7 HG7 hnr
                  go_wp2_with fail
                  refine bodyPost_ret (v := .tuple #[.agg #[.int .i64 (bAt s 2), .int .i64 (bAt s 3), .slice va KS.length vk, .string Y], .int .i64 0]) ?_ rfl ⟨_, rfl, HF.out.2.1, HF.out.2.2⟩
                  rw [results_cell_tmp (p := 2) (u := 3) (ty := 28) (by kernel_rfl)]
                  have l2 := HF.out.1
                  simp [asAddr, Result.andThen, l2]
                · have hne : putS ((bAt s 2, bAt s 3), (KS, Y)) ≠ s := fun e => hq (by have h := congrArg (fun z : ByteArray => z.data.toList) e; exact h)
                  have hr2 : r = (fr0, 3) := by rw [← HR.out, HYY.out, hY, if_pos hq]
                  subst hr2
                  have hst := strNe hne
                  have HE := Lib.hid (zend_of HG7.out.below HG7.out.res (Nat.le_refl _))
                  have hlr := (Array.getElem?_eq_some_iff.1 HG7.out.res).1
                  obtain ⟨d0, d1, d2, d3, g0, g1, g2, g3⟩ := HE.out.1
                  clear hq hne HR HYY hY HG7 HO7
                  generalize putS ((bAt s 2, bAt s 3), (KS, Y)) = PS at *
                  go_wp2_with fail
                  refine bodyPost_ret (v := .tuple #[.agg #[.int .i64 0, .int .i64 0, .slice none 0 0, .string ⟨#[]⟩], .int .i64 3]) ?_ rfl ⟨.slice none 0 0, rfl, HE.out.2.2.1, HE.out.2.2.2⟩
                  rw [results_cell_tmp (p := 2) (u := 3) (ty := 28) (by kernel_rfl)]
                  have l2 := HE.out.2.1
                  simp [asAddr, Result.andThen, l2]
        · have hv : getF s.data.toList = (fr0, 3) := by unfold getF; rw [if_neg hc1, if_neg (by rw [ho]; simp), hN, if_pos (by omega)]
          have j13 : ¬ (s.size : Int) = 13 + 2 * (N : Int) := by omega
          rw [hv]
          clear hc1 ho hN hv
          go_enter Tryd.func18, Tryd.ntmps18
          go_wp2_with fail
          generalize w.alloc (.cells #[.int .i64 0, .int .i64 0, .slice none 0 0, .string ⟨#[]⟩] 28) = W at *
          refine SO.out.mono ?_
          rintro e w1 ⟨rfl, hb1⟩
          replace HB := Lib.hid (HB.out.trans (hb1.mono HB.out.size))
          replace RR := Lib.hid ((hb1.block _ (Array.getElem?_eq_some_iff.1 RR.out).1).trans RR.out)
          clear SO hb1
          have HE := Lib.hid (zend_of (w := w) HB.out RR.out)
          have R4 := HE.out.1
          have hlr := (Array.getElem?_eq_some_iff.1 RR.out).1
          obtain ⟨c0, c1, c2, c3, f0, f1, f2, f3⟩ := R4
          go_wp2_with fail
          refine bodyPost_ret (v := .tuple #[.agg #[.int .i64 0, .int .i64 0, .slice none 0 0, .string ⟨#[]⟩], .int .i64 3]) ?_ rfl ⟨.slice none 0 0, rfl, HE.out.2.2.1, HE.out.2.2.2⟩
          rw [results_cell_tmp (p := 2) (u := 3) (ty := 28) (by kernel_rfl)]
          have l2 := HE.out.2.1
          simp [asAddr, Result.andThen, l2]
    · have hv : getF s.data.toList = (fr0, 1) := if_pos (.inr (by omega))
      have l0 := Lib.hid (fr_load hr0 (Below.refl _ _))
      have HB := Lib.hid hb0
      rw [hv]
      clear hv hr0 hb0 e1 e4
      go_enter Tryd.func18, Tryd.ntmps18
      go_wp2_with fail
      refine bodyPost_ret (v := .tuple #[.agg #[.int .i64 0, .int .i64 0, .slice none 0 0, .string ⟨#[]⟩], .int .i64 1]) ?_ rfl ⟨.slice none 0 0, rfl, World.ownsRow_nil _ _ _ _, HB.out⟩
      rw [results_cell_tmp (p := 2) (u := 3) (ty := 28) (by kernel_rfl)]
      have l2 := l0.out
      simp [asAddr, Result.andThen, l2]
end Go.Proofs.YtdokkhgeeinnhaaDoor
namespace Go.Proofs.YtdokkhgeeinnhaaDoor
open Go.ChangeShapes Go.WideShapes Go.ChangeAt Go.RowKit Go.BigFrame
set_option linter.unusedVariables false

theorem two_fbox (w : World) (A B : Array Value) (T U : TypeId) :
    Below w.heap.size w ((w.alloc (.cells A T)).alloc (.cells B U)) ∧ ((w.alloc (.cells A T)).alloc (.cells B U)).heap[w.heap.size]? = some (.cells A T) ∧ ((w.alloc (.cells A T)).alloc (.cells B U)).heap[w.heap.size + 1]? = some (.cells B U) := by
  have hb1 := (Below.refl w.heap.size w).alloc (Nat.le_refl _) (.cells A T)
  have r2 := heap_alloc_new (w.alloc (.cells A T)) (.cells B U)
  rw [show (w.alloc (.cells A T)).heap.size = w.heap.size + 1 by simp] at r2
  exact ⟨hb1.alloc hb1.size _, heap_first w _ _, r2⟩
theorem inFL_few {d : List UInt8} (h : d.length ≤ 1500000) : (inFL d).2.1.length ≤ 1000000 := by
  show (keysL _ _).length ≤ _
  rw [keysL_len]
  omega
/-- an error that a refusal is -/
def errV (c : Int) : Value := if c = 0 then .nilIface else .iface 60 (.agg #[.int .i64 c])
set_option maxRecDepth 100000 in
set_option maxHeartbeats 8000000 in
theorem ireadframe_any (s : ByteArray) (w : World) (hs : s.size ≤ 1100000) :
    Calls Tryd.prog 32 #[.string s] w fun e w' => ∃ v', e = .returned (.tuple #[.agg #[.int .i64 (getF s.data.toList).1.1.1, .int .i64 (getF s.data.toList).1.1.2, v', .string (getF s.data.toList).1.2.2], errV (getF s.data.toList).2]) ∧ w'.ownsRow w.heap.size 50 2 v' (getF s.data.toList).1.2.1.length (keyCells (getF s.data.toList).1.2.1) ∧ Below w.heap.size w w' := by
  obtain ⟨t1, t2, t3⟩ := two_fbox w #[.int .i64 0, .int .i64 0, .slice none 0 0, .string ⟨#[]⟩] #[.int .i64 0, .int .i64 0, .slice none 0 0, .string ⟨#[]⟩] 28 28
  have hll : s.data.toList.length = s.size := by simp
  have e1 : ((s.data.toList[1]?.getD 0).toNat : Int) = bAt s 1 := rfl
  have FL := Lib.hid (fun w' => (show Calls Tryd.prog 24 #[.int .i64 1] w' fun e w'' => e = .returned (.int .i64 15) ∧ w'' = w' from iframelen_any 1 (by omega) w'))
  have HB := Lib.hid t1
  have RR := Lib.hid t2
  have RF := Lib.hid t3
  have hsz2 : ((w.alloc (.cells #[.int .i64 0, .int .i64 0, .slice none 0 0, .string ⟨#[]⟩] 28)).alloc (.cells #[.int .i64 0, .int .i64 0, .slice none 0 0, .string ⟨#[]⟩] 28)).heap.size = w.heap.size + 2 := by simp
  clear t1 t2 t3
  generalize hr : getF s.data.toList = r
  obtain ⟨⟨⟨p, q⟩, ⟨KS, Y⟩⟩, c⟩ := r
  dsimp only
  go_enter Tryd.func32, Tryd.ntmps32
  go_wp2_with fail
  refine wp_scope_jumps 0 (fun a' w' => ∃ u0 u1 u3 u4 u5 u6 u8 u9 u10 u11 u12 u13 u14 u15 u16 u17 u18 u19 u20 u21 u22 u23 u24 u25 u26 u27 u28 u29 u30 u31 u32 u33 u34 u35 u36 : Value, a' = { tmps := #[u0, u1, .pointer (some ⟨w.heap.size, 0, none⟩), u3, u4, u5, u6, .int .i64 c, u8, u9, u10, u11, u12, u13, u14, u15, u16, u17, u18, u19, u20, u21, u22, u23, u24, u25, u26, u27, u28, u29, u30, u31, u32, u33, u34, u35, u36], defers := [] } ∧ Below w.heap.size w w' ∧ w'.heap[w.heap.size]? = some (.cells #[.int .i64 0, .int .i64 0, .slice none 0 0, .string ⟨#[]⟩] 28 (0, 0)) ∧ ((p = 0 ∧ q = 0 ∧ KS = [] ∧ Y = ByteArray.empty) ∧ c ≠ 0)) (fun _ _ => 0) rfl ?first ?pass
  case pass =>
    rintro a' W' ⟨u0, u1, u3, u4, u5, u6, u8, u9, u10, u11, u12, u13, u14, u15, u16, u17, u18, u19, u20, u21, u22, u23, u24, u25, u26, u27, u28, u29, u30, u31, u32, u33, u34, u35, u36, rfl, hB, hR, ⟨rfl, rfl, rfl, rfl⟩, hc⟩
    have HE := Lib.hid (zend_of hB hR (Nat.le_refl _))
    have hlr := (Array.getElem?_eq_some_iff.1 hR).1
    obtain ⟨d0, d1, d2, d3, g0, g1, g2, g3⟩ := HE.out.1
    have HEV := Lib.hid (show errV c = .iface 60 (.agg #[.int .i64 c]) from if_neg hc)
    clear hB hR HB RR RF FL hr
    go_wp2_with fail
    simp only [Exit.jump]
    refine bodyPost_ret (v := .tuple #[.agg #[.int .i64 0, .int .i64 0, .slice none 0 0, .string ⟨#[]⟩], .iface 60 (.agg #[.int .i64 c])]) ?_ rfl ⟨.slice none 0 0, by rw [HEV.out]; rfl, HE.out.2.2.1, HE.out.2.2.2⟩
    rw [results_cell_tmp (p := 2) (u := 3) (ty := 28) (by kernel_rfl)]
    have l2 := HE.out.2.1
    simp [asAddr, Result.andThen, l2]
  case first =>
    by_cases h15 : s.size < 15
    · have hv : getF s.data.toList = (fr0, 1) := if_pos (.inl (by omega))
      have i15 : (s.size : Int) < 15 := by omega
      rw [hv] at hr
      cases hr
      clear hv e1
      go_wp2_with fail
      refine (FL.out _).mono ?_
      rintro e w1 ⟨rfl, rfl⟩
      go_wp2
      go_step3
      exact ⟨rfl, _, _, _, _, _, _, _, _, _, _, _, _, _, _, _, _, _, _, _, _, _, _, _, _, _, _, _, _, _, _, _, _, _, _, _, rfl, HB.out, RR.out, ⟨rfl, rfl, rfl, rfl⟩, by decide⟩
    · have i15 : ¬ (s.size : Int) < 15 := by omega
      have i15d : decide ((s.size : Int) < 15) = false := by simp; omega
      have j1 : 1 < s.size := by omega
      have G1 := Lib.hid (fun w' => (show Calls Tryd.prog 54 #[.string s, .int .i64 1, .int .i64 1] w' fun e w'' => e = .returned (.int .i64 (bAt s 1)) ∧ Below w'.heap.size w' w'' from iget_below s 1 j1 (by omega) w'))
      go_wp2_with fail
      generalize (w.alloc (.cells #[.int .i64 0, .int .i64 0, .slice none 0 0, .string ⟨#[]⟩] 28)).alloc (.cells #[.int .i64 0, .int .i64 0, .slice none 0 0, .string ⟨#[]⟩] 28) = W at *
      refine (FL.out _).mono ?_
      rintro e w1 ⟨rfl, rfl⟩
      go_wp2_with fail
      refine (G1.out _).mono ?_
      rintro e w2 ⟨rfl, hb⟩
      replace HB := Lib.hid (HB.out.trans (hb.mono HB.out.size))
      replace RR := Lib.hid ((hb.block _ (Array.getElem?_eq_some_iff.1 RR.out).1).trans RR.out)
      replace RF := Lib.hid ((hb.block _ (Array.getElem?_eq_some_iff.1 RF.out).1).trans RF.out)
      clear hb
      clear FL G1
      by_cases hl1 : bAt s 1 = (s.size : Int)
      · have hc1 : ¬ (s.data.toList.length < 15 ∨ (s.data.toList[1]?.getD 0).toNat ≠ s.data.toList.length) := by omega
        have SO := Lib.hid (iopen_any s w2 (by omega))
        cases ho : openL s.data.toList with
        | none =>
          have hv : getF s.data.toList = (fr0, 2) := by unfold getF; rw [if_neg hc1, if_pos ho]
          rw [ho, show openV none = .tuple #[.string ByteArray.empty, .bool false] from rfl] at SO
          rw [hv] at hr
          cases hr
          clear hv e1 hc1 ho
          go_wp2_with fail
          refine SO.out.mono ?_
          rintro e w3 ⟨rfl, hb⟩
          replace HB := Lib.hid (HB.out.trans (hb.mono HB.out.size))
          replace RR := Lib.hid ((hb.block _ (Array.getElem?_eq_some_iff.1 RR.out).1).trans RR.out)
          replace RF := Lib.hid ((hb.block _ (Array.getElem?_eq_some_iff.1 RF.out).1).trans RF.out)
          clear hb
          go_wp2
          go_step3
          exact ⟨rfl, _, _, _, _, _, _, _, _, _, _, _, _, _, _, _, _, _, _, _, _, _, _, _, _, _, _, _, _, _, _, _, _, _, _, _, rfl, HB.out, RR.out, ⟨rfl, rfl, rfl, rfl⟩, by decide⟩
        | some d =>
          have hgi := get_in hc1 ho
          obtain ⟨h4, hse⟩ : 4 ≤ s.data.toList.length ∧ sealL d = s.data.toList := ⟨by omega, openL_some ho⟩
          have hdl : d.length + 4 = s.size := by rw [← hll, ← hse, sealL_len]
          rw [ho, show openV (some d) = .tuple #[.string ⟨d.toArray⟩, .bool true] from rfl] at SO
          have hxs : (⟨d.toArray⟩ : ByteArray).size = d.length := by show d.toArray.size = _; simp
          have HFI := Lib.hid (fun w' => iframein_any ⟨d.toArray⟩ w' (by omega) (by omega))
          have hxd : (⟨d.toArray⟩ : ByteArray).data.toList = d := by simp
          rw [hxd] at HFI
          have hkl := inFL_few (d := d) (by omega)
          rw [hr] at hgi
          clear hc1 ho h4 hse hxd e1 hr
          generalize (⟨d.toArray⟩ : ByteArray) = X at *
          generalize inFL d = f at *
          obtain ⟨⟨p2, q2⟩, ⟨K2s, Y2⟩⟩ := f
          dsimp only at HFI hkl
          have HGI := Lib.hid hgi
          clear hgi hxs hdl
          go_wp2_with fail
          refine SO.out.mono ?_
          rintro e w3 ⟨rfl, hb⟩
          replace HB := Lib.hid (HB.out.trans (hb.mono HB.out.size))
          replace RR := Lib.hid ((hb.block _ (Array.getElem?_eq_some_iff.1 RR.out).1).trans RR.out)
          replace RF := Lib.hid ((hb.block _ (Array.getElem?_eq_some_iff.1 RF.out).1).trans RF.out)
          clear hb
          go_wp2_with fail
          refine (HFI.out _).mono ?_
          rintro e w4 ⟨vf, rfl, hof, hb⟩
          have hw3 := HB.out.size
          have hfz := (Array.getElem?_eq_some_iff.1 RF.out).1
          replace HB := Lib.hid (HB.out.trans (hb.mono HB.out.size))
          replace RR := Lib.hid ((hb.block _ (Array.getElem?_eq_some_iff.1 RR.out).1).trans RR.out)
          replace RF := Lib.hid ((hb.block _ (Array.getElem?_eq_some_iff.1 RF.out).1).trans RF.out)
          clear hb
          have hkA := keysAt_own hof
          obtain ⟨fa, fc, rfl, -, -⟩ := id hkA
          have hnf : (Value.slice fa K2s.length fc).ownBlock ≠ some (w.heap.size + 1) := fun e => by have := (hof.lt _ e).1; omega
          have hnr : (Value.slice fa K2s.length fc).ownBlock ≠ some w.heap.size := fun e => by have := (hof.lt _ e).1; omega
          obtain ⟨c0, c1, c2, c3, f0, f1, f2, f3⟩ := row4_of RF.out
          have hlf := (Array.getElem?_eq_some_iff.1 RF.out).1
          have RF2 := Lib.hid (set4 (.int .i64 p2) (.int .i64 q2) (.slice fa K2s.length fc) (.string Y2) RF.out)
          have HB2 := Lib.hid (below4 HB.out (by omega : w.heap.size ≤ w.heap.size + 1) (.int .i64 p2) (.int .i64 q2) (.slice fa K2s.length fc) (.string Y2))
          have HO2 := Lib.hid ((own_base hof hw3).kept (grown4f w4 (w.heap.size + 1) (.int .i64 p2) (.int .i64 q2) (.slice fa K2s.length fc) (.string Y2)) (.inr hnf))
          have RR2 := Lib.hid (((grown4f w4 (w.heap.size + 1) (.int .i64 p2) (.int .i64 q2) (.slice fa K2s.length fc) (.string Y2)).block _ (Array.getElem?_eq_some_iff.1 RR.out).1 (fun e => by have e2 := Option.some.inj e; omega)).trans RR.out)
          have LF := fr_load RF2.out (Below.refl _ _)
          have SP := Lib.hid (iputframe_any p2 q2 _ K2s Y2 _ (keysAt_own HO2.out) (by omega))
          clear hof hkA RF RR HB HFI SO
          go_wp2_with fail
          refine SP.out.mono ?_
          rintro e w6 ⟨rfl, hb⟩
          clear LF SP c0 c1 c2 c3 f0 f1 f2 f3 hlf
          have HB := Lib.hid (HB2.out.trans (hb.mono HB2.out.size))
          have RR := Lib.hid ((hb.block _ (Array.getElem?_eq_some_iff.1 RR2.out).1).trans RR2.out)
          have RF := Lib.hid ((hb.block _ (Array.getElem?_eq_some_iff.1 RF2.out).1).trans RF2.out)
          have HO := Lib.hid (own_below HO2.out hb)
          clear hb HB2 RR2 RF2 HO2
          by_cases hq : putL ((p2, q2), (K2s, Y2)) = s.data.toList
          · have hps : putS ((p2, q2), (K2s, Y2)) = s := by unfold putS; rw [hq]
            have hg := HGI.out
            rw [if_pos hq] at hg
            rw [hps]
            clear HGI hps hq
            cases hg
            have HF := Lib.hid (And.intro (fr_load (set4 (.int .i64 p) (.int .i64 q) (.slice fa KS.length fc) (.string Y) RR.out) (Below.refl _ _)) (And.intro (HO.out.kept (grown4f w6 w.heap.size (.int .i64 p) (.int .i64 q) (.slice fa KS.length fc) (.string Y)) (.inr hnr)) (below4 HB.out (Nat.le_refl _) (.int .i64 p) (.int .i64 q) (.slice fa KS.length fc) (.string Y))))
            obtain ⟨e0, e1, e2, e3, -, -, -, -⟩ := row4_of RF.out
            obtain ⟨d0, d1, d2, d3, g0, g1, g2, g3⟩ := row4_of RR.out
            have hlr := (Array.getElem?_eq_some_iff.1 RR.out).1
            clear RR RF HB HO
            go_wp2_with fail
            simp only [Exit.jump]
            refine bodyPost_ret (v := .tuple #[.agg #[.int .i64 p, .int .i64 q, .slice fa KS.length fc, .string Y], .nilIface]) ?_ rfl ⟨_, rfl, HF.out.2.1, HF.out.2.2⟩
            rw [results_cell_tmp (p := 2) (u := 3) (ty := 28) (by kernel_rfl)]
            have l2 := HF.out.1
            simp [asAddr, Result.andThen, l2]
          · have hne : putS ((p2, q2), (K2s, Y2)) ≠ s := fun e => hq (by have h := congrArg (fun z : ByteArray => z.data.toList) e; exact h)
            have hst := strNe hne
            have hg := HGI.out
            rw [if_neg hq] at hg
            clear HGI hq hne
            generalize putS ((p2, q2), (K2s, Y2)) = PS at *
            cases hg
            go_wp2
            go_step3
            exact ⟨rfl, _, _, _, _, _, _, _, _, _, _, _, _, _, _, _, _, _, _, _, _, _, _, _, _, _, _, _, _, _, _, _, _, _, _, _, rfl, HB.out, RR.out, ⟨rfl, rfl, rfl, rfl⟩, by decide⟩
      · have hv : getF s.data.toList = (fr0, 1) := if_pos (.inr (by omega))
        rw [hv] at hr
        cases hr
        have hne : (bAt s 1 != (s.size : Int)) = true := by simp [hl1]
        clear hv e1
        go_wp2_with fail
        go_step3
        exact ⟨rfl, _, _, _, _, _, _, _, _, _, _, _, _, _, _, _, _, _, _, _, _, _, _, _, _, _, _, _, _, _, _, _, _, _, _, _, rfl, HB.out, RR.out, ⟨rfl, rfl, rfl, rfl⟩, by decide⟩
end Go.Proofs.YtdokkhgeeinnhaaDoor
namespace Go.Proofs.YtdokkhgeeinnhaaDoor
open Go.RowKit Go.Extern.Stop Go.Stop Go.Extern
set_option linter.unusedVariables false

theorem as_nil (t : Value) (w : World) : Calls Tryd.prog 33 #[.nilIface, t] w fun e w' => e = .returned (.bool false) ∧ w' = w := by
  go_enter Tryd.func33, Tryd.ntmps33
  go_wp2
  go_ret
  exact ⟨rfl, rfl⟩
theorem val_p (t : Addr) (w : World) : (ReflectliteValue.unpack (.iface 62 (.pointer (some t)))).run Tryd.prog w
    = .ok (.agg #[.pointer (some ⟨1, 62, none⟩), .pointer (some ⟨w.heap.size, 0, none⟩), .int .u64 150]) (w.alloc (.cells #[.pointer (some t)] 62)) := by kernel_rfl
theorem typ_p (a : Addr) (w : World) : (ReflectliteValue.methodAny (ReflectliteValue.valueError "reflectlite.Value.Type" 0) (fun t _ _ _ => ReflectliteType.toType t) #[.agg #[.pointer (some ⟨1, 62, none⟩), .pointer (some a), .int .u64 150]]).run Tryd.prog w
    = .ok (.iface 110 (.agg #[.pointer (some ⟨1, 62, none⟩)])) w := by kernel_rfl
theorem m_kind (h : Value) (w : World) : (Go.method 259 110 (.agg #[h]) "Kind").run Tryd.prog w = .ok (104, h) w := by kernel_rfl
theorem k_p (w : World) : ((ReflectliteType.abiMethod fun t => (fun a : Nat => Value.int IntKind.u8 (a : Int)) <$> Rtype.kind t) #[.pointer (some ⟨1, 62, none⟩)]).run Tryd.prog w = .ok (.int .u8 22) w := by kernel_rfl
theorem k_t (w : World) : ((ReflectliteType.abiMethod fun t => (fun a : Nat => Value.int IntKind.u8 (a : Int)) <$> Rtype.kind t) #[.pointer (some ⟨1, 60, none⟩)]).run Tryd.prog w = .ok (.int .u8 25) w := by kernel_rfl
theorem rlm_own (z : Sem Value) (f : TypeId → Addr → Nat → Nat → Sem Value) (v : Value) :
    ReflectliteValue.method z f #[v] = (do match ← ReflectliteValue.parts v with | none => z | some (t, a, fl) => f t a fl (fl % 32)) := rfl
theorem parts_p (a : Addr) (w : World) : (ReflectliteValue.parts (.agg #[.pointer (some ⟨1, 62, none⟩), .pointer (some a), .int .u64 150])).run Tryd.prog w = .ok (some (62, a, 150)) w := by kernel_rfl
theorem isNil_p (a p : Addr) (W : World) (ha : W.cell? a = some (.pointer (some p))) :
    (ReflectliteValue.method (ReflectliteValue.valueError "reflectlite.Value.IsNil" 0) ReflectliteValue.isNil #[.agg #[.pointer (some ⟨1, 62, none⟩), .pointer (some a), .int .u64 150]]).run Tryd.prog W = .ok (.bool false) W := by
  rw [rlm_own]
  simp only [Sem.run_bind, parts_p, Result.andThen]
  simp [ReflectliteValue.isNil, loadVar, isAgg, underlying, Tryd.underlying62, ha, Result.andThen]
theorem m_elem (h : Value) (w : World) : (Go.method 259 110 (.agg #[h]) "Elem").run Tryd.prog w = .ok (114, .agg #[h]) w := by kernel_rfl
theorem m_impl (h : Value) (w : World) : (Go.method 259 110 (.agg #[h]) "Implements").run Tryd.prog w = .ok (115, .agg #[h]) w := by kernel_rfl
theorem m_assign (h : Value) (w : World) : (Go.method 259 110 (.agg #[h]) "AssignableTo").run Tryd.prog w = .ok (112, .agg #[h]) w := by kernel_rfl
theorem elem_p (w : World) : (ReflectliteType.method ReflectliteType.elem #[.agg #[.pointer (some ⟨1, 62, none⟩)]]).run Tryd.prog w = .ok (.iface 110 (.agg #[.pointer (some ⟨1, 60, none⟩)])) w := by kernel_rfl
theorem impl_t (w : World) : (ReflectliteType.relation "Implements" ReflectliteType.implements_ #[.agg #[.pointer (some ⟨1, 60, none⟩)], .iface 110 (.agg #[.pointer (some ⟨1, 56, none⟩)])]).run Tryd.prog w = .ok (.bool true) w := by kernel_rfl
theorem typeOf_t (v : Value) (w : World) : (ReflectliteType.typeOf #[.iface 60 v]).run Tryd.prog w = .ok (.iface 110 (.agg #[.pointer (some ⟨1, 60, none⟩)])) w := by kernel_rfl
theorem assign_t (w : World) : (ReflectliteType.relation "AssignableTo" ReflectliteType.assignableTo #[.agg #[.pointer (some ⟨1, 60, none⟩)], .iface 110 (.agg #[.pointer (some ⟨1, 60, none⟩)])]).run Tryd.prog w = .ok (.bool true) w := by kernel_rfl
theorem val_t (c : Int) (w : World) : (ReflectliteValue.unpack (.iface 60 (.agg #[.int .i64 c]))).run Tryd.prog w
    = .ok (.agg #[.pointer (some ⟨1, 60, none⟩), .pointer (some ⟨w.heap.size, 0, none⟩), .int .u64 153]) (w.alloc (.cells #[.int .i64 c] 60)) := by kernel_rfl
theorem elemOf_p (w : World) : (Rtype.elem? 62).run Tryd.prog w = .ok (some 60) w := by kernel_rfl
theorem mk_t (p : Addr) (w : World) : (ReflectliteValue.mk 60 p ReflectliteValue.flagAddr).run Tryd.prog w = .ok (.agg #[.pointer (some ⟨1, 60, none⟩), .pointer (some p), .int .u64 409]) w := by kernel_rfl
theorem elemV_p (a p : Addr) (W : World) (ha : W.cell? a = some (.pointer (some p))) :
    (ReflectliteValue.method (ReflectliteValue.valueError "reflectlite.Value.Elem" 0) ReflectliteValue.elem #[.agg #[.pointer (some ⟨1, 62, none⟩), .pointer (some a), .int .u64 150]]).run Tryd.prog W
      = .ok (.agg #[.pointer (some ⟨1, 60, none⟩), .pointer (some p), .int .u64 409]) W := by
  rw [rlm_own]
  simp only [Sem.run_bind, parts_p, Result.andThen]
  simp [ReflectliteValue.elem, loadVar, isAgg, underlying, Tryd.underlying62, ha, Result.andThen, elemOf_p, mk_t]
theorem rls_own (v x : Value) : ReflectliteValue.set #[v, x] = (do
    let (some (dst, a, fl), some (src, b, _)) := (← ReflectliteValue.parts v, ← ReflectliteValue.parts x)
      | unsupported (.noEntry "extern/(internal/reflectlite.Value).Set.zeroValue")
    if fl / ReflectliteValue.flagAddr % 2 == 0 then unsupported (.noEntry "extern/(internal/reflectlite.Value).Set.unaddressable")
    let val ← loadVar src b
    if ← Rtype.directlyAssignable dst src then storeVar dst a val
    else if ← Rtype.implements dst src then
      if (← Rtype.kind src) == 20 then
        match val with
        | .nilIface => unsupported (.noEntry "extern/reflectlite: a nil value of one interface type handed on as a value of another")
        | _ => storeVar dst a val
      else storeVar dst a (.iface src val)
    else panicString ("reflectlite.Set: value of type " ++ (← Rtype.spelt src) ++ " is not assignable to type " ++ (← Rtype.spelt dst))
    pure (.tuple #[])) := rfl
theorem parts_ta (a : Addr) (w : World) : (ReflectliteValue.parts (.agg #[.pointer (some ⟨1, 60, none⟩), .pointer (some a), .int .u64 409])).run Tryd.prog w = .ok (some (60, a, 409)) w := by kernel_rfl
theorem parts_t (a : Addr) (w : World) : (ReflectliteValue.parts (.agg #[.pointer (some ⟨1, 60, none⟩), .pointer (some a), .int .u64 153])).run Tryd.prog w = .ok (some (60, a, 153)) w := by kernel_rfl
theorem direct_t (w : World) : (Rtype.directlyAssignable 60 60).run Tryd.prog w = .ok true w := by kernel_rfl
theorem size_t (w : World) : (sizeOf 60).run Tryd.prog w = .ok 1 w := by kernel_rfl
theorem load_t (b : Nat) (c : Int) (W : World) (hb : W.cell? ⟨b, 0, none⟩ = some (.int .i64 c)) : (loadVar 60 ⟨b, 0, none⟩).run Tryd.prog W = .ok (.agg #[.int .i64 c]) W := by
  refine run_loadVar_mid W b 0 60 [.int .i64 c] _ (fun j u hj => ?_) Tryd.underlying60 rfl (by kernel_rfl)
  have hj2 : j < 1 := by have := (List.getElem?_eq_some_iff.1 hj).1; simpa using this
  obtain rfl : j = 0 := by omega
  simpa using hb.trans (by simpa using hj)
theorem set_t (ta : Addr) (b : Nat) (c : Int) (old : Value) (W : World) (hb : W.cell? ⟨b, 0, none⟩ = some (.int .i64 c)) (ht : W.cell? ta = some old) (hf : W.frozen? ta = false) :
    (ReflectliteValue.set #[.agg #[.pointer (some ⟨1, 60, none⟩), .pointer (some ta), .int .u64 409], .agg #[.pointer (some ⟨1, 60, none⟩), .pointer (some ⟨b, 0, none⟩), .int .u64 153]]).run Tryd.prog W
      = .ok (.tuple #[]) (W.setCell ta (.int .i64 c)) := by
  rw [rls_own]
  simp only [Sem.run_bind, parts_ta, parts_t, Result.andThen]
  simp [ReflectliteValue.flagAddr, load_t b c W hb, Result.andThen, direct_t, storeVar, Value.cells, storeCells, Addr.add, size_t]
  rw [run_store Tryd.prog W ta _ _ (by rfl)]
  simp [ht, hf]
set_option maxHeartbeats 4000000 in
theorem as_hit (c : Int) (t : Addr) (old : Value) (w : World) (hg : w.cell? ⟨0, 0, none⟩ = some (.iface 110 (.agg #[.pointer (some ⟨1, 56, none⟩)]))) (ht0 : w.cell? t = some old) (hf0 : w.frozen? t = false) :
    Calls Tryd.prog 33 #[.iface 60 (.agg #[.int .i64 c]), .iface 62 (.pointer (some t))] w fun ev w' => ev = .returned (.bool true) ∧ w' = ((((w.alloc (.cells #[.pointer (some t)] 62)).alloc (.cells #[.pointer (some ⟨1, 62, none⟩), .pointer (some ⟨w.heap.size, 0, none⟩), .int .u64 150] 89)).alloc (.cells #[.pointer (some ⟨1, 62, none⟩), .pointer (some ⟨w.heap.size, 0, none⟩), .int .u64 150] 89)).alloc (.cells #[.int .i64 c] 60)).setCell t (.int .i64 c) := by
  have h6 := @run_callFunc_extern Tryd.prog 57 _ (fun args => ReflectliteValue.unpack (args.getD 0 (.tuple #[]))) Tryd.func57 (by kernel_rfl) (by kernel_rfl) (by kernel_rfl) (by kernel_rfl)
  have h7 := @run_callFunc_extern Tryd.prog 58 _ (ReflectliteValue.methodAny (ReflectliteValue.valueError "reflectlite.Value.Type" 0) (fun t _ _ _ => ReflectliteType.toType t)) Tryd.func58 (by kernel_rfl) (by kernel_rfl) (by kernel_rfl) (by kernel_rfl)
  have h8 := @run_callFunc_extern Tryd.prog 59 _ (ReflectliteValue.method (ReflectliteValue.valueError "reflectlite.Value.IsNil" 0) ReflectliteValue.isNil) Tryd.func59 (by kernel_rfl) (by kernel_rfl) (by kernel_rfl) (by kernel_rfl)
  have h27 := @run_callFunc_extern Tryd.prog 104 _ (ReflectliteType.abiMethod fun t => do pure (.int .u8 (← Rtype.kind t))) Tryd.func104 (by kernel_rfl) (by kernel_rfl) (by kernel_rfl) (by kernel_rfl)
  have h37 := @run_callFunc_extern Tryd.prog 114 _ (ReflectliteType.method ReflectliteType.elem) Tryd.func114 (by kernel_rfl) (by kernel_rfl) (by kernel_rfl) (by kernel_rfl)
  have h38 := @run_callFunc_extern Tryd.prog 115 _ (ReflectliteType.relation "Implements" ReflectliteType.implements_) Tryd.func115 (by kernel_rfl) (by kernel_rfl) (by kernel_rfl) (by kernel_rfl)
  have h10 := @run_callFunc_extern Tryd.prog 77 _ ReflectliteType.typeOf Tryd.func77 (by kernel_rfl) (by kernel_rfl) (by kernel_rfl) (by kernel_rfl)
  have h35 := @run_callFunc_extern Tryd.prog 112 _ (ReflectliteType.relation "AssignableTo" ReflectliteType.assignableTo) Tryd.func112 (by kernel_rfl) (by kernel_rfl) (by kernel_rfl) (by kernel_rfl)
  have h11 := @run_callFunc_extern Tryd.prog 78 _ (ReflectliteValue.method (ReflectliteValue.valueError "reflectlite.Value.Elem" 0) ReflectliteValue.elem) Tryd.func78 (by kernel_rfl) (by kernel_rfl) (by kernel_rfl) (by kernel_rfl)
  have h12 := @run_callFunc_extern Tryd.prog 79 _ ReflectliteValue.set Tryd.func79 (by kernel_rfl) (by kernel_rfl) (by kernel_rfl) (by kernel_rfl)
  have tO := typeOf_t
  have mA := m_assign
  have a25 := assign_t
  have v25 := val_t
  have f6 := val_p
  have f7 := typ_p
  have mK := m_kind
  have mE := m_elem
  have mI := m_impl
  have k27 := k_p
  have k25 := k_t
  have e27 := elem_p
  have i25 := impl_t
  have n8 := isNil_p ⟨w.heap.size, 0, none⟩ t ((w.alloc (.cells #[.pointer (some t)] 62)).alloc (.cells #[.pointer (some ⟨1, 62, none⟩), .pointer (some ⟨w.heap.size, 0, none⟩), .int .u64 150] 89)) (by simp)
  have hlt : 0 < w.heap.size := by
    rcases Nat.lt_or_ge 0 w.heap.size with h | h
    · exact h
    · simp [World.cell?, Array.getElem?_eq_none h] at hg
  have hg2 : ((w.alloc (.cells #[.pointer (some t)] 62)).alloc (.cells #[.pointer (some ⟨1, 62, none⟩), .pointer (some ⟨w.heap.size, 0, none⟩), .int .u64 150] 89)).cell? ⟨0, 0, none⟩ = some (.iface 110 (.agg #[.pointer (some ⟨1, 56, none⟩)])) := by
    rw [World.cell?_alloc_lt _ _ ⟨0, 0, none⟩ (by simp), World.cell?_alloc_lt _ _ ⟨0, 0, none⟩ hlt]; exact hg
  have htl : t.block < w.heap.size := by
    rcases Nat.lt_or_ge t.block w.heap.size with h | h
    · exact h
    · simp [World.cell?, Array.getElem?_eq_none h] at ht0
  have el := elemV_p ⟨w.heap.size, 0, none⟩ t (((w.alloc (.cells #[.pointer (some t)] 62)).alloc (.cells #[.pointer (some ⟨1, 62, none⟩), .pointer (some ⟨w.heap.size, 0, none⟩), .int .u64 150] 89)).alloc (.cells #[.pointer (some ⟨1, 62, none⟩), .pointer (some ⟨w.heap.size, 0, none⟩), .int .u64 150] 89)) (by rw [World.cell?_alloc_lt _ _ ⟨w.heap.size, 0, none⟩ (by simp; omega)]; simp)
  have st := set_t t (w.heap.size + 1 + 1 + 1) c old ((((w.alloc (.cells #[.pointer (some t)] 62)).alloc (.cells #[.pointer (some ⟨1, 62, none⟩), .pointer (some ⟨w.heap.size, 0, none⟩), .int .u64 150] 89)).alloc (.cells #[.pointer (some ⟨1, 62, none⟩), .pointer (some ⟨w.heap.size, 0, none⟩), .int .u64 150] 89)).alloc (.cells #[.int .i64 c] 60))
    (by rw [World.cell?_alloc_at _ _ _ _ (by simp)]; rfl)
    (by rw [World.cell?_alloc_lt _ _ t (by simp; omega), World.cell?_alloc_lt _ _ t (by simp; omega), World.cell?_alloc_lt _ _ t (by simp; omega), World.cell?_alloc_lt _ _ t htl]; exact ht0)
    (by rw [World.frozen?_alloc_old _ _ t (by simp; omega), World.frozen?_alloc_old _ _ t (by simp; omega), World.frozen?_alloc_old _ _ t (by simp; omega), World.frozen?_alloc_old _ _ t (Nat.ne_of_lt htl)]; exact hf0)
  go_enter Tryd.func33, Tryd.ntmps33
  go_wp2
  refine wp_loop_rounds 1 ?_
  rw [rounds_succ]
  go_wp2
  go_ret
  exact ⟨rfl, rfl⟩
end Go.Proofs.YtdokkhgeeinnhaaDoor
namespace Go.Proofs.YtdokkhgeeinnhaaDoor
open Go.ChangeShapes Go.WideShapes Go.ChangeAt Go.RowKit Go.BigFrame
set_option linter.unusedVariables false

/-- what errors.errorType holds -/
def etOk (w : World) : Prop := w.cell? ⟨0, 0, none⟩ = some (.iface 110 (.agg #[.pointer (some ⟨1, 56, none⟩)]))
theorem etOk.lt {w : World} (h : etOk w) : 0 < w.heap.size := by
  rcases Nat.lt_or_ge 0 w.heap.size with h0 | h0
  · exact h0
  · unfold etOk at h
    simp [World.cell?, Array.getElem?_eq_none h0] at h
theorem etOk.below {w w' : World} (h : etOk w) (hb : Below w.heap.size w w') : etOk w' := (hb.cell (p := ⟨0, 0, none⟩) h.lt).trans h
theorem as_hit_below (c : Int) (b : Nat) (W : World) (hg : etOk W) (hrow : W.heap[b]? = some (.cells #[.int .i64 0] 60 (0, 0))) :
    Calls Tryd.prog 33 #[.iface 60 (.agg #[.int .i64 c]), .iface 62 (.pointer (some ⟨b, 0, none⟩))] W fun ev w' => ev = .returned (.bool true) ∧ w'.heap[b]? = some (.cells #[.int .i64 c] 60 (0, 0)) ∧ W.grownBy w' (some b) := by
  have hc : W.cell? ⟨b, 0, none⟩ = some (.int .i64 0) := by rw [cell_of_row _ _ 0 _ _ _ hrow]; rfl
  have hf : W.frozen? ⟨b, 0, none⟩ = false := by simp [World.frozen?, hrow]
  refine (as_hit c ⟨b, 0, none⟩ _ W hg hc hf).mono ?_
  rintro ev w' ⟨rfl, rfl⟩
  have hb4 := ((((Below.refl W.heap.size W).alloc (Nat.le_refl _) (.cells #[.pointer (some ⟨b, 0, none⟩)] 62)).alloc (by simp) (.cells #[.pointer (some ⟨1, 62, none⟩), .pointer (some ⟨W.heap.size, 0, none⟩), .int .u64 150] 89)).alloc (by simp; omega) (.cells #[.pointer (some ⟨1, 62, none⟩), .pointer (some ⟨W.heap.size, 0, none⟩), .int .u64 150] 89)).alloc (by simp; omega) (.cells #[.int .i64 c] 60)
  exact ⟨rfl, set_cellsR (.int .i64 c) ((hb4.block _ (Array.getElem?_eq_some_iff.1 hrow).1).trans hrow), grown_both (grown_of_below' hb4 _) (Lib.grownBy_setCell _ b 0 _)⟩
theorem get_zero (l : List UInt8) (h : (getF l).2 ≠ 0) : (getF l).1 = fr0 := by
  rcases get_cases l with ⟨h0, _⟩ | ⟨_, h1⟩
  · exact absurd h0 h
  · exact h1
set_option maxRecDepth 100000 in
set_option maxHeartbeats 8000000 in
theorem igetframe_any (s : ByteArray) (w : World) (hg : etOk w) (hs : s.size ≤ 1100000) :
    Calls Tryd.prog 13 #[.string s] w fun e w' => ∃ v', e = .returned (.tuple #[.agg #[.int .i64 (getF s.data.toList).1.1.1, .int .i64 (getF s.data.toList).1.1.2, v', .string (getF s.data.toList).1.2.2], .int .i64 (getF s.data.toList).2]) ∧ w'.ownsRow w.heap.size 50 2 v' (getF s.data.toList).1.2.1.length (keyCells (getF s.data.toList).1.2.1) ∧ Below w.heap.size w w' := by
  have hz := get_zero s.data.toList
  have hb0 := (Below.refl w.heap.size w).alloc (Nat.le_refl _) (.cells #[.int .i64 0, .int .i64 0, .slice none 0 0, .string ⟨#[]⟩] 28)
  have HB := Lib.hid hb0
  have RR := Lib.hid (heap_alloc_new w (.cells #[.int .i64 0, .int .i64 0, .slice none 0 0, .string ⟨#[]⟩] 28))
  have HG := Lib.hid (hg.below hb0)
  have RD := Lib.hid (ireadframe_any s (w.alloc (.cells #[.int .i64 0, .int .i64 0, .slice none 0 0, .string ⟨#[]⟩] 28)) hs)
  clear hb0 hg
  generalize hr : getF s.data.toList = r at *
  obtain ⟨⟨⟨p, q⟩, ⟨KS, Y⟩⟩, c⟩ := r
  dsimp only at *
  clear hr
  go_enter Tryd.func13, Tryd.ntmps13
  go_wp2_with fail
  generalize w.alloc (.cells #[.int .i64 0, .int .i64 0, .slice none 0 0, .string ⟨#[]⟩] 28) = W at *
  refine RD.out.mono ?_
  rintro e w1 ⟨v1, rfl, ho, hb⟩
  have hWs := HB.out.size
  have hkA := keysAt_own ho
  obtain ⟨fa, fc, rfl, -, -⟩ := id hkA
  have hnr : (Value.slice fa KS.length fc).ownBlock ≠ some w.heap.size := fun e => by have := (ho.lt _ e).1; have := (Array.getElem?_eq_some_iff.1 RR.out).1; omega
  have hb2 := (hb.alloc hb.size (.cells #[.int .i64 p, .int .i64 q, .slice fa KS.length fc, .string Y] 28))
  have hb3 := hb2.alloc hb2.size (.cells #[.int .i64 0] 60)
  have HO := Lib.hid ((ho.alloc (.cells #[.int .i64 p, .int .i64 q, .slice fa KS.length fc, .string Y] 28)).alloc (.cells #[.int .i64 0] 60))
  have RF := Lib.hid (heap_first w1 (.cells #[.int .i64 0] 60) (.cells #[.int .i64 p, .int .i64 q, .slice fa KS.length fc, .string Y] 28))
  have hrw := heap_alloc_new (w1.alloc (.cells #[.int .i64 p, .int .i64 q, .slice fa KS.length fc, .string Y] 28)) (.cells #[.int .i64 0] 60)
  rw [show (w1.alloc (.cells #[.int .i64 p, .int .i64 q, .slice fa KS.length fc, .string Y] 28)).heap.size = w1.heap.size + 1 by simp] at hrw
  have RW := Lib.hid hrw
  have hw1 : w.heap.size < w1.heap.size := by have := hb.size; have := (Array.getElem?_eq_some_iff.1 RR.out).1; omega
  replace HB := Lib.hid (HB.out.trans (hb3.mono HB.out.size))
  replace HG := Lib.hid (HG.out.below hb3)
  replace RR := Lib.hid ((hb3.block _ (Array.getElem?_eq_some_iff.1 RR.out).1).trans RR.out)
  clear RD ho hb hb2 hb3 hkA hrw
  by_cases hc : c = 0
  · subst hc
    rw [show errV 0 = .nilIface from rfl]
    go_wp2_with fail
    generalize (w1.alloc (.cells #[.int .i64 p, .int .i64 q, .slice fa KS.length fc, .string Y] 28)).alloc (.cells #[.int .i64 0] 60) = W3 at *
    generalize w1.heap.size = bF at *
    refine (as_nil _ _).mono ?_
    rintro e w4 ⟨rfl, rfl⟩
    have HF := Lib.hid (And.intro (fr_load (set4 (.int .i64 p) (.int .i64 q) (.slice fa KS.length fc) (.string Y) RR.out) (Below.refl _ _)) (And.intro ((own_base HO.out hWs).kept (grown4f _ w.heap.size (.int .i64 p) (.int .i64 q) (.slice fa KS.length fc) (.string Y)) (.inr hnr)) (below4 HB.out (Nat.le_refl _) (.int .i64 p) (.int .i64 q) (.slice fa KS.length fc) (.string Y))))
    obtain ⟨e0, e1, e2, e3, -, -, -, -⟩ := row4_of RF.out
    obtain ⟨d0, d1, d2, d3, g0, g1, g2, g3⟩ := row4_of RR.out
    have hlr := (Array.getElem?_eq_some_iff.1 RR.out).1
    clear RR RF HB HO RW HG
    go_wp2_with fail
    refine bodyPost_ret (v := .tuple #[.agg #[.int .i64 p, .int .i64 q, .slice fa KS.length fc, .string Y], .int .i64 0]) ?_ rfl ⟨_, rfl, HF.out.2.1, HF.out.2.2⟩
    rw [results_cell_tmp (p := 2) (u := 3) (ty := 28) (by kernel_rfl)]
    have l2 := HF.out.1
    simp [asAddr, Result.andThen, l2]
  · have hf := hz hc
    cases hf
    rw [show errV c = .iface 60 (.agg #[.int .i64 c]) from if_neg hc]
    have AH := Lib.hid (as_hit_below c (w1.heap.size + 1) _ HG.out RW.out)
    go_wp2_with fail
    refine AH.out.mono ?_
    rintro e w4 ⟨rfl, hrw, hgr⟩
    have hr4 := (hgr.block _ (Array.getElem?_eq_some_iff.1 RR.out).1 (fun e => by have := Option.some.inj e; omega)).trans RR.out
    have hB4 := HB.out.grown hgr HB.out.size (fun b e => by have := Option.some.inj e; omega)
    have HE := Lib.hid (zend_of hB4 hr4 (Nat.le_refl _))
    have hlr := (Array.getElem?_eq_some_iff.1 hr4).1
    have HD := Lib.hid (fr_load (set4 (.int .i64 0) (.int .i64 0) (.slice none 0 0) (.string ⟨#[]⟩) hr4) (Below.refl _ _).drew)
    have k0 : w4.cell? ⟨w1.heap.size + 1, 0, none⟩ = some (.int .i64 c) := by rw [cell_of_row _ _ 0 _ _ _ hrw]; rfl
    obtain ⟨d0, d1, d2, d3, g0, g1, g2, g3⟩ := HE.out.1
    clear RR RF HB HO RW HG AH hz hgr hr4 hB4 hrw
    go_wp2_with fail
    go_region_with (fail)
    all_goals (try simp only [Act.put, List.getElem_toArray, List.getElem_cons_succ, List.getElem_cons_zero, List.setIfInBounds_toArray, List.set_cons_zero, List.set_cons_succ])
    all_goals go_wp2
    all_goals
      refine bodyPost_ret (v := .tuple #[.agg #[.int .i64 0, .int .i64 0, .slice none 0 0, .string ⟨#[]⟩], .int .i64 c]) ?_ rfl ⟨.slice none 0 0, rfl, HE.out.2.2.1.drew, HE.out.2.2.2.drew⟩
      rw [results_cell_tmp (p := 2) (u := 3) (ty := 28) (by kernel_rfl)]
      have l2 := HD.out
      simp [asAddr, Result.andThen, l2]
end Go.Proofs.YtdokkhgeeinnhaaDoor
namespace Go.Proofs.YtdokkhgeeinnhaaDoor
open Go.ChangeShapes Go.WideShapes Go.ChangeAt Go.RowKit Go.BigFrame
set_option linter.unusedVariables false
set_option maxRecDepth 100000 in
set_option maxHeartbeats 1000000 in
theorem samekeys_any (va vb : Value) (A B : List K2) (w : World) (ha : keysAt w va A) (hb : keysAt w vb B) (hsA : A.length ≤ 4000000) (hsB : B.length ≤ 4000000) :
    Calls Tryd.prog 61 #[va, vb] w fun e w' => e = .returned (.bool (decide (A = B))) ∧ Below w.heap.size w w' := by
  obtain ⟨aa, ca, rfl, hca, hcA⟩ := ha
  obtain ⟨ab, cb, rfl, hcb, hcB⟩ := hb
  by_cases hl : A.length = B.length
  · have e0 : (A.length : Int) = (B.length : Int) := by omega
    go_enter Tryd.func61, Tryd.ntmps61
    rw [hl] at hca hcA ⊢
    go_wp2
    go_loopw [5] (fun i wr => ∃ k : Nat, k ≤ B.length ∧ i = .int .i64 k ∧ (∀ j, j < k → A.getD j (0, 0) = B.getD j (0, 0)) ∧ Below w.heap.size w wr) (fun i _ => B.length - (intOf i).toNat)
    case atStart => exact ⟨0, Nat.zero_le _, rfl, fun j hj => by omega, Below.refl _ _⟩
    case round =>
      obtain ⟨k, hk, rfl, hall, hbr⟩ := hrel
      by_cases hlt : k < B.length
      · obtain ⟨ga, offa, rfl, hga, hcsA⟩ := hcA.resolve_left (by omega)
        obtain ⟨gb, offb, rfl, hgb, hcsB⟩ := hcB.resolve_left (by omega)
        have cA := hcsA k hlt
        have cB := hcsB k hlt
        have z0 : (0 : Int) ≤ (k : Int) := by omega
        have z1 : (k : Int) < (B.length : Int) := by omega
        clear hcsA hcsB hcA hcB
        have L1 : ∀ w', Below w.heap.size w w' → (loadVar 50 ⟨ga, offa + k * 2, none⟩).run Tryd.prog w' = .ok (kv (A.getD k (0, 0))) w' := fun w' h => key_load cA hga h
        have L2 : ∀ w', Below w.heap.size w w' → (loadVar 50 ⟨gb, offb + k * 2, none⟩).run Tryd.prog w' = .ok (kv (B.getD k (0, 0))) w' := fun w' h => key_load cB hgb h
        have HE := Lib.hid (fun w => eqkey_any (A.getD k (0, 0)) (B.getD k (0, 0)) w)
        clear cA cB
        cases he : (A.getD k (0, 0) == B.getD k (0, 0)) with
        | true =>
          have hn : ∀ j, j < k + 1 → A.getD j (0, 0) = B.getD j (0, 0) := by
            intro j hj
            rcases (by omega : j < k ∨ j = k) with h1 | rfl
            · exact hall j h1
            · exact eq_of_beq he
          have HN := Lib.hid hn
          rw [he] at HE
          clear hall hn
          generalize A.getD k (0, 0) = kx at *
          generalize B.getD k (0, 0) = ky at *
          go_wp2
          refine wp_region_below w (by kernel_rfl) (by kernel_rfl) hbr ?_
          repeat (first
            | go_big_quiet_skip
            | (go_big_quiet_want
               first
                 | (go_big_quiet_op; go_big_quiet_on)
                 | (refine q_load 50 _ _ _ rfl rfl L1 ?_; simp only [Act.put, List.setIfInBounds_toArray, List.set_cons_zero, List.set_cons_succ]; go_big_quiet_on)
                 | (refine q_load 50 _ _ _ rfl rfl L2 ?_; simp only [Act.put, List.setIfInBounds_toArray, List.set_cons_zero, List.set_cons_succ]; go_big_quiet_on)
                 | (refine q_bin _ 50 _ _ _ _ _ _ rfl rfl rfl (fun w => key_guard _ _ _ _ _ w) (fun w => key_eql _ _ w) ?_; simp only [Act.put, List.setIfInBounds_toArray, List.set_cons_zero, List.set_cons_succ]; go_big_quiet_on)
                 | (refine q_bin _ 50 _ _ _ _ _ _ rfl rfl rfl (fun w => key_guard _ _ _ _ _ w) (fun w => key_neq _ _ w) ?_; simp only [Act.put, List.setIfInBounds_toArray, List.set_cons_zero, List.set_cons_succ]; go_big_quiet_on)
                 | (go_big_quiet_op; refine ⟨_, fun _ _ => rfl, ?_⟩; go_big_quiet_on)
                 | (go_big_quiet_op; go_big_quiet_on)))
          refine wpQuiet_nil ?_
          intro w2 hb2
          rw [he]
          clear L1 L2 HE hbr
          go_wp2
          exact ⟨⟨k + 1, by omega, by go_num, HN.out, hb2⟩, by simp [intOf]; omega⟩
        | false =>
          have hne : decide (A = B) = false := by
            simp only [decide_eq_false_iff_not]
            intro e
            subst e
            simp at he
          have HD := Lib.hid hne
          rw [he] at HE
          clear hall hne
          generalize A.getD k (0, 0) = kx at *
          generalize B.getD k (0, 0) = ky at *
          go_wp2
          refine wp_region_below w (by kernel_rfl) (by kernel_rfl) hbr ?_
          repeat (first
            | go_big_quiet_skip
            | (go_big_quiet_want
               first
                 | (go_big_quiet_op; go_big_quiet_on)
                 | (refine q_load 50 _ _ _ rfl rfl L1 ?_; simp only [Act.put, List.setIfInBounds_toArray, List.set_cons_zero, List.set_cons_succ]; go_big_quiet_on)
                 | (refine q_load 50 _ _ _ rfl rfl L2 ?_; simp only [Act.put, List.setIfInBounds_toArray, List.set_cons_zero, List.set_cons_succ]; go_big_quiet_on)
                 | (refine q_bin _ 50 _ _ _ _ _ _ rfl rfl rfl (fun w => key_guard _ _ _ _ _ w) (fun w => key_eql _ _ w) ?_; simp only [Act.put, List.setIfInBounds_toArray, List.set_cons_zero, List.set_cons_succ]; go_big_quiet_on)
                 | (refine q_bin _ 50 _ _ _ _ _ _ rfl rfl rfl (fun w => key_guard _ _ _ _ _ w) (fun w => key_neq _ _ w) ?_; simp only [Act.put, List.setIfInBounds_toArray, List.set_cons_zero, List.set_cons_succ]; go_big_quiet_on)
                 | (go_big_quiet_op; refine ⟨_, fun _ _ => rfl, ?_⟩; go_big_quiet_on)
                 | (go_big_quiet_op; go_big_quiet_on)))
          refine wpQuiet_nil ?_
          intro w2 hb2
          rw [he]
          clear L1 L2 HE hbr
          go_wp2
          go_ret
          exact ⟨by rw [HD.out]; rfl, hb2⟩
      · obtain rfl : k = B.length := by omega
        have he : decide (A = B) = true := by
          simp only [decide_eq_true_eq]
          apply List.ext_getElem hl
          intro i h1 h2
          have := hall i h2
          simpa [List.getD, h1, h2] using this
        have HD := Lib.hid he
        clear hall he
        go_wp2
        go_ret
        exact ⟨by rw [HD.out]; rfl, hbr⟩
  · have hne : decide (A = B) = false := by simp only [decide_eq_false_iff_not]; intro e; subst e; exact hl rfl
    have HD := Lib.hid hne
    have e0 : ¬ (A.length : Int) = (B.length : Int) := by omega
    clear hne
    go_enter Tryd.func61, Tryd.ntmps61
    go_wp2
    go_ret
    exact ⟨by rw [HD.out]; rfl, Below.refl _ _⟩
end Go.Proofs.YtdokkhgeeinnhaaDoor
namespace Go.Proofs.YtdokkhgeeinnhaaDoor
open Go.ChangeShapes Go.WideShapes Go.ChangeAt Go.RowKit Go.BigFrame
set_option linter.unusedVariables false

theorem two_boxes (w : World) (va : Value) (ya : ByteArray) (vb : Value) (yb : ByteArray) :
    Below w.heap.size w ((w.alloc (.cells #[va, .string ya] 26)).alloc (.cells #[vb, .string yb] 26)) ∧
    ((w.alloc (.cells #[va, .string ya] 26)).alloc (.cells #[vb, .string yb] 26)).heap[w.heap.size]? = some (.cells #[va, .string ya] 26) ∧
    ((w.alloc (.cells #[va, .string ya] 26)).alloc (.cells #[vb, .string yb] 26)).heap[w.heap.size + 1]? = some (.cells #[vb, .string yb] 26) := by
  have hb1 := (Below.refl w.heap.size w).alloc (Nat.le_refl _) (.cells #[va, .string ya] 26)
  have e1 : (w.alloc (.cells #[va, .string ya] 26)).heap.size = w.heap.size + 1 := by simp
  have r2 := heap_alloc_new (w.alloc (.cells #[va, .string ya] 26)) (.cells #[vb, .string yb] 26)
  rw [e1] at r2
  exact ⟨hb1.alloc hb1.size _, (Below.heap_alloc _ _ w.heap.size (by simp)).trans (heap_alloc_new w _), r2⟩
theorem str_eq (a b : ByteArray) : (a.toList == b.toList) = decide (a = b) := by
  rw [Bool.eq_iff_iff, decide_eq_true_eq, beq_iff_eq, bytes_toList_iff]
set_option maxRecDepth 100000 in
set_option maxHeartbeats 1000000 in
theorem samecode_any (va : Value) (A : List K2) (ya : ByteArray) (vb : Value) (B : List K2) (yb : ByteArray) (w : World) (ha : keysAt w va A) (hb : keysAt w vb B) (hsA : A.length ≤ 4000000) (hsB : B.length ≤ 4000000) :
    Calls Tryd.prog 34 #[.agg #[va, .string ya], .agg #[vb, .string yb]] w fun e w' => e = .returned (.bool (decide (ya = yb) && decide (A = B))) ∧ Below w.heap.size w w' := by
  obtain ⟨t1, t2, t3⟩ := two_boxes w va ya vb yb
  have HB := Lib.hid t1; have HX := Lib.hid t2; have HY := Lib.hid t3
  have EQ := Lib.hid (fun w' (h : Below w.heap.size w w') => samekeys_any va vb A B w' (keysAt_below ha h) (keysAt_below hb h) hsA hsB)
  obtain ⟨x0, x1, -, -⟩ := row2_of t2
  obtain ⟨y0, y1, -, -⟩ := row2_of t3
  have hne := str_eq ya yb
  clear t1 t2 t3 ha hb
  generalize decide (A = B) = p at *
  generalize decide (ya = yb) = q at *
  go_enter Tryd.func34, Tryd.ntmps34
  cases q with
  | false =>
    go_wp2
    go_ret
    exact ⟨by simp, HB.out⟩
  | true =>
    go_wp2_with fail
    generalize (w.alloc (.cells #[va, .string ya] 26)).alloc (.cells #[vb, .string yb] 26) = W at *
    refine (EQ.out _ HB.out).mono ?_
    rintro e w1 ⟨rfl, hb1⟩
    have HB1 := Lib.hid (HB.out.trans (hb1.mono HB.out.size))
    clear hb1 x0 x1 y0 y1 HB HX HY EQ
    go_wp2
    go_ret
    exact ⟨by simp, HB1.out⟩
end Go.Proofs.YtdokkhgeeinnhaaDoor
namespace Go.Proofs.YtdokkhgeeinnhaaDoor
open Go.ChangeShapes Go.WideShapes Go.ChangeAt Go.RowKit Go.BigFrame
set_option linter.unusedVariables false

/-- two frames' boxes -/
theorem two_fboxes (w : World) (A B : Array Value) (T U : TypeId) :
    Below w.heap.size w ((w.alloc (.cells A T)).alloc (.cells B U)) ∧ ((w.alloc (.cells A T)).alloc (.cells B U)).heap[w.heap.size]? = some (.cells A T) ∧ ((w.alloc (.cells A T)).alloc (.cells B U)).heap[w.heap.size + 1]? = some (.cells B U) := by
  have hb1 := (Below.refl w.heap.size w).alloc (Nat.le_refl _) (.cells A T)
  have r2 := heap_alloc_new (w.alloc (.cells A T)) (.cells B U)
  rw [show (w.alloc (.cells A T)).heap.size = w.heap.size + 1 by simp] at r2
  exact ⟨hb1.alloc hb1.size _, heap_first w _ _, r2⟩
end Go.Proofs.YtdokkhgeeinnhaaDoor
namespace Go.Proofs.YtdokkhgeeinnhaaDoor
open Go.ChangeShapes Go.WideShapes Go.ChangeAt Go.RowKit Go.BigFrame
set_option linter.unusedVariables false

set_option maxRecDepth 100000 in
theorem sameframe_any (p q : Int) (va : Value) (A : List K2) (ya : ByteArray) (p2 q2 : Int) (vb : Value) (B : List K2) (yb : ByteArray) (w : World) (ha : keysAt w va A) (hb : keysAt w vb B) (hsA : A.length ≤ 4000000) (hsB : B.length ≤ 4000000) :
    Calls Tryd.prog 14 #[.agg #[.int .i64 p, .int .i64 q, va, .string ya], .agg #[.int .i64 p2, .int .i64 q2, vb, .string yb]] w fun e w' => e = .returned (.bool (decide (p = p2) && (decide (q = q2) && (decide (ya = yb) && decide (A = B))))) ∧ Below w.heap.size w w' := by
  obtain ⟨t1, t2, t3⟩ := two_fboxes w #[.int .i64 p, .int .i64 q, va, .string ya] #[.int .i64 p2, .int .i64 q2, vb, .string yb] 28 28
  have HB := Lib.hid t1
  have EQ := Lib.hid (fun w' (h : Below w.heap.size w w') => samecode_any va A ya vb B yb w' (keysAt_below ha h) (keysAt_below hb h) hsA hsB)
  obtain ⟨x0, x1, x2, x3⟩ := fr_cells t2 (Below.refl _ _)
  obtain ⟨y0, y1, y2, y3⟩ := fr_cells t3 (Below.refl _ _)
  have LA := fr_loadc t2 (Below.refl _ _)
  have LB := fr_loadc t3 (Below.refl _ _)
  obtain ⟨aA, cA, rfl, -, -⟩ := ha
  obtain ⟨aB, cB, rfl, -, -⟩ := hb
  clear t1 t2 t3
  generalize (decide (ya = yb) && decide (A = B)) = bo at *
  by_cases h1 : p = p2
  · by_cases h2 : q = q2
    · have HV := Lib.hid (show (decide (p = p2) && (decide (q = q2) && bo)) = bo by simp [h1, h2])
      rw [HV.out]
      clear HV
      subst h1 h2
      go_enter Tryd.func14, Tryd.ntmps14
      go_wp2_with fail
      refine (EQ.out _ HB.out).mono ?_
      rintro e w1 ⟨rfl, hb1⟩
      have HB1 := Lib.hid (HB.out.trans (hb1.mono HB.out.size))
      clear hb1 EQ x0 x1 x2 x3 y0 y1 y2 y3 LA LB
      go_wp2
      go_ret
      exact ⟨rfl, HB1.out⟩
    · have HV := Lib.hid (show (decide (p = p2) && (decide (q = q2) && bo)) = false by simp [h2])
      rw [HV.out]
      subst h1
      go_enter Tryd.func14, Tryd.ntmps14
      go_wp2
      go_ret
      exact ⟨rfl, HB.out⟩
  · have HV := Lib.hid (show (decide (p = p2) && (decide (q = q2) && bo)) = false by simp [h1])
    rw [HV.out]
    go_enter Tryd.func14, Tryd.ntmps14
    go_wp2
    go_ret
    exact ⟨rfl, HB.out⟩
end Go.Proofs.YtdokkhgeeinnhaaDoor
namespace Go.Proofs.YtdokkhgeeinnhaaDoor
open Go.ChangeShapes Go.WideShapes Go.ChangeAt Go.RowKit Go.BigFrame
set_option linter.unusedVariables false

def kDrs (ks : List K2) : Prop := (∀ k ∈ ks, kDr k) ∧ keysOkR ks = true
theorem mergeV_ok (both : Bool) (a b : List K2) : keysOkR (mergeV both a b) = true := by
  unfold mergeV
  split
  · rename_i h
    simp only [Bool.and_eq_true] at h
    exact merge_ok both a b h.1 h.2
  · rfl
theorem one_ok {k : K2} (h : kDr k) : keysOkR [k] = true := by
  rw [keysR_iff]
  refine ⟨fun x hx => ?_, by simp [Rising]⟩
  rcases List.mem_singleton.1 hx with rfl
  unfold kDr at h
  simp only [keyOkB, Bool.and_eq_true, decide_eq_true_eq]
  omega
set_option maxRecDepth 100000 in
set_option maxHeartbeats 1000000 in
theorem keysNo_any (m n₀ g len cap : Nat) (a : Option Addr) (zs : List Int) (c : Cu) (w : World) (hs : DrawSt n₀ w g a len cap zs c.i c.h) (hm5 : m ≤ 5) :
    Calls Tryd.prog 80 #[.pointer (some ⟨g, 0, none⟩), .int .i64 (m : Int)] w fun e w' => ∃ (v : Value) (ks : List K2) (c' : Cu), e = .returned v ∧ ks.length ≤ m ∧ kDrs ks ∧
      w'.ownsRow w.heap.size 50 2 v ks.length (keyCells ks) ∧ Drew n₀ g a len cap zs c' w w' := by
  have hd0 : Drew n₀ g a len cap zs c w w := ⟨hs, Below.refl _ _, World.grownBy.refl _ _⟩
  have hgl := hs.lt
  have hown0 := World.ownsRow_made (base := w.heap.size) (e := 50) (size := 2) w #[] 0 (Nat.le_refl _) (by unfold maxLen; omega) rfl
  have ew : IntKind.i64.wrap ((m : Int) + 1) = (m : Int) + 1 := IntWalk.i64_in _ (by omega)
  go_enter Tryd.func80, Tryd.ntmps80
  go_wp2_with fail
  have hd1 := hd0.alloc (.cells #[] 50)
  generalize w.alloc (.cells #[] 50) = W at *
  refine (below_any n₀ g len cap a zs c ((m : Int) + 1) _ hd1.st (by omega)).mono ?_
  rintro e w1 ⟨rfl, hd⟩
  have hbd := belowF_bd zs len c ((m : Int) + 1)
  generalize belowF zs len c ((m : Int) + 1) = b at *
  obtain ⟨x, c1⟩ := b
  dsimp only at *
  obtain ⟨n, rfl⟩ : ∃ n : Nat, x = n := ⟨x.toNat, by omega⟩
  have hD1 := hd1.trans hd
  have hown1 := hown0.kept hd.grown (.inr fun e => by have := (hown0.lt g e).1; omega)
  have hn5 : n ≤ m := by omega
  clear hd hd1 hd0 hown0 hs hbd
  go_wp2
  go_loopw [5, 7] (fun v i wr => ∃ (k : Nat) (ks : List K2) (c' : Cu), k ≤ n ∧ i = .int .i64 k ∧ ks.length ≤ k ∧ kDrs ks ∧ wr.ownsRow w.heap.size 50 2 v ks.length (keyCells ks) ∧ Drew n₀ g a len cap zs c' w wr) (fun _ i _ => n - (intOf i).toNat)
  case atStart => exact ⟨0, [], c1, Nat.zero_le _, rfl, by simp, ⟨by simp, rfl⟩, hown1, hD1⟩
  case round =>
    obtain ⟨k, ks, c2, hk, rfl, hkl, hkb, hown, hD⟩ := hrel
    clear hown1 hD1
    by_cases hlt : k < n
    · have z1 : (k : Int) < (n : Int) := by omega
      have hgw := hD.st.lt
      have hwz : w.heap.size ≤ wr.heap.size := hD.grown.size
      go_wp2_with fail
      refine (key_any n₀ g len cap a zs c2 wr hD.st).mono ?_
      rintro e w2 ⟨⟨p, q⟩, c3, rfl, hpq, hd2⟩
      dsimp only at hpq
      have hD2 := hD.trans hd2
      have hown2 := hown.kept hd2.grown (.inr fun e => by have := (hown.lt g e).1; omega)
      have hwz2 : w.heap.size ≤ w2.heap.size := hD2.grown.size
      clear hown hD hd2
      unfold kv
      dsimp only
      go_wp2_with fail
      have hka := keysAt_own (hown2.alloc (.cells #[.int .i64 p, .int .i64 q] 50))
      have hkb2 := keysAt_lit w2 p q
      refine (sjoined_any _ _ ks [(p, q)] _ hka hkb2 (by omega) (by simp)).mono ?_
      rintro e w3 ⟨v3, rfl, ho3, hb3⟩
      have hD3 := (hD2.alloc (.cells #[.int .i64 p, .int .i64 q] 50)).grow hgl (grown_of_below' hb3 none) (fun b e => by cases e)
      have hml := mergeV_len true ks [(p, q)]
      have hmm : kDrs (mergeV true ks [(p, q)]) := ⟨mergeV_mem true kDr ks [(p, q)] hkb.1 (by intro z hz; rcases List.mem_singleton.1 hz with rfl; exact hpq), mergeV_ok true ks [(p, q)]⟩
      have ho4 := own_base (base := w.heap.size) ho3 (by simp; omega)
      generalize mergeV true ks [(p, q)] = ms at *
      have hml2 : ms.length ≤ k + 1 := by simp at hml; omega
      have R := Lib.hid (And.intro hmm (And.intro ho4 hD3))
      clear hmm ho4 hD3 ho3 hb3 hka hkb2 hown2 hD2 hkb
      go_wp2
      exact ⟨⟨k + 1, ms, c3, by omega, by go_num, hml2, R.out.1, R.out.2.1, R.out.2.2⟩, by simp [intOf]; omega⟩
    · obtain rfl : k = n := by omega
      go_wp2
      go_ret
      exact ⟨_, ks, c2, rfl, by omega, hkb, hown, hD⟩
structure CdLo (w W : World) (n₀ g len cap : Nat) (a : Option Addr) (zs : List Int) (c : Cu) (v : Value) (ks : List K2) : Prop where
  own : W.ownsRow (w.heap.size + 1) 50 2 v ks.length (keyCells ks)
  drew : Drew n₀ g a len cap zs c w W
  res : W.heap[w.heap.size]? = some (.cells #[.slice none 0 0, .string ⟨#[]⟩] 26)
  bd : kDrs ks
  few : ks.length ≤ 4
set_option maxRecDepth 100000 in
set_option maxHeartbeats 1000000 in
theorem l05codeok_any (n₀ g len cap : Nat) (a : Option Addr) (zs : List Int) (c : Cu) (w : World) (hs : DrawSt n₀ w g a len cap zs c.i c.h) :
    Calls Tryd.prog 62 #[.pointer (some ⟨g, 0, none⟩)] w fun e w' => ∃ (v : Value) (ks : List K2) (y : ByteArray) (c' : Cu), e = .returned (.agg #[v, .string y]) ∧ 1 ≤ ks.length ∧ ks.length ≤ 4 ∧ kDrs ks ∧ y.size = 4 ∧
      w'.ownsRow w.heap.size 50 2 v ks.length (keyCells ks) ∧ Drew n₀ g a len cap zs c' w w' := by
  have hd0 : Drew n₀ g a len cap zs c w w := ⟨hs, Below.refl _ _, World.grownBy.refl _ _⟩
  have hgl := hs.lt
  have hd1 := hd0.alloc (.cells #[.slice none 0 0, .string ⟨#[]⟩] 26)
  have hr1 := heap_alloc_new w (.cells #[.slice none 0 0, .string ⟨#[]⟩] 26)
  have hz1 : (w.alloc (.cells #[.slice none 0 0, .string ⟨#[]⟩] 26)).heap.size = w.heap.size + 1 := by simp
  have HD1 := Lib.hid hd1; have HR1 := Lib.hid hr1; have HZ1 := Lib.hid hz1
  clear hd0 hd1 hr1 hz1 hs
  go_enter Tryd.func62, Tryd.ntmps62
  go_wp2_with fail
  generalize w.alloc (.cells #[.slice none 0 0, .string ⟨#[]⟩] 26) = W at *
  refine (keysNo_any 4 n₀ g len cap a zs c W HD1.out.st (by omega)).mono ?_
  rintro e w1 ⟨v1, ks1, c1, rfl, hl1, hb1, ho1, hd2⟩
  rw [HZ1.out] at ho1
  obtain ⟨a1, n1, k1, rfl⟩ := own_shape ho1
  have HL := Lib.hid (CdLo.mk (w := w) ho1 (HD1.out.trans hd2) ((hd2.grown.block _ (Array.getElem?_eq_some_iff.1 HR1.out).1 (fun e => by cases e; omega)).trans HR1.out) hb1 hl1)
  clear ho1 hd2 hb1 hl1 HD1 HR1 HZ1
  go_wp2_with fail
  go_loopw [3] (fun x wr => ∃ (aa : Option Addr) (cc : Nat) (ks : List K2) (c' : Cu), x = .slice aa ks.length cc ∧ CdLo w wr n₀ g len cap a zs c' (.slice aa ks.length cc) ks) (fun x _ => match x with | .slice _ n _ => if n = 0 then 1 else 0 | _ => 0)
  case atStart =>
    have hn : n1 = ks1.length := by
      rcases HL.out.own.2 with ⟨h, h0⟩ | ⟨g', cap', cur, h, _⟩
      · cases h; exact h0.symm
      · cases h; rfl
    subst hn
    exact ⟨a1, k1, ks1, c1, rfl, HL.out⟩
  case round =>
    clear HL
    obtain ⟨aa, cc, ks, c2, rfl, hC⟩ := hrel
    have HC := Lib.hid hC
    clear hC
    by_cases h0 : ks.length = 0
    · have i0 : (ks.length : Int) = 0 := by omega
      rename_i wr
      go_wp2_with fail
      refine (key_any n₀ g len cap a zs c2 wr HC.out.drew.st).mono ?_
      rintro e w3 ⟨⟨p, q⟩, c3, rfl, hpq, hd3⟩
      dsimp only at hpq
      have hD3 := HC.out.drew.trans hd3
      have hR3 := (hd3.grown.block _ (Array.getElem?_eq_some_iff.1 HC.out.res).1 (fun e => by cases e; omega)).trans HC.out.res
      have hlr := (Array.getElem?_eq_some_iff.1 hR3).1
      have HN := Lib.hid (CdLo.mk (w := w) (own_one (w := w3) (base := w.heap.size + 1) p q (by omega)) (hD3.alloc _) ((Below.heap_alloc w3 _ _ hlr).trans hR3) ⟨fun k hk => by rcases List.mem_singleton.1 hk with rfl; exact hpq, one_ok hpq⟩ (by simp))
      clear hd3 hD3 hR3 HC hlr
      unfold kv
      dsimp only
      go_wp2
      exact ⟨⟨_, 1, [(p, q)], c3, rfl, HN.out⟩, by simp [h0]⟩
    · have i0 : ¬ (ks.length : Int) = 0 := by omega
      rename_i wr
      go_wp2_with fail
      refine (l05of_any _ ks wr (keysAt_own HC.out.own) (by have := HC.out.few; omega) (fun k hk => by have := HC.out.bd.1 k hk; unfold kDr at this; omega)).mono ?_
      rintro e w4 ⟨v4, y4, rfl, hy4, ho4, hb4⟩
      obtain ⟨a4, n4, k4, rfl⟩ := own_shape ho4
      have hR4 := (hb4.block _ (Array.getElem?_eq_some_iff.1 HC.out.res).1).trans HC.out.res
      have hlr := (Array.getElem?_eq_some_iff.1 HC.out.res).1
      have hD4 := HC.out.drew.grow hgl (grown_of_below' hb4 none) (fun b e => by cases e)
      obtain ⟨c0, c1, f0, f1⟩ := row2_of hR4
      have hlr4 := (Array.getElem?_eq_some_iff.1 hR4).1
      have L2 := Lib.hid (cd_res hR4 (.slice a4 n4 k4) y4)
      have HF := Lib.hid (And.intro (own_base (own_set2 ho4 hlr (.slice a4 n4 k4) (.string y4)) (by omega : w.heap.size ≤ wr.heap.size)) (hD4.grow hgl (grown2 w4 w.heap.size (.slice a4 n4 k4) (.string y4)) (fun b e => by cases e; exact Nat.le_refl _)))
      have HW := Lib.hid (And.intro HC.out.few HC.out.bd)
      clear ho4 hb4 hR4 hD4 HC hlr
      go_wp2_with fail
      refine bodyPost_ret (v := .agg #[.slice a4 n4 k4, .string y4]) ?_ rfl ⟨_, ks, y4, c2, rfl, by omega, HW.out.1, HW.out.2, hy4, HF.out.1, HF.out.2⟩
      rw [results_cell (p := 2) (ty := 26) (by kernel_rfl)]
      have l2 := L2.out
      simp [asAddr, Result.andThen, l2]
set_option maxRecDepth 100000 in
set_option maxHeartbeats 2000000 in
theorem l06makeok_any (n₀ g len cap : Nat) (a : Option Addr) (zs : List Int) (c : Cu) (w : World) (hs : DrawSt n₀ w g a len cap zs c.i c.h) :
    Calls Tryd.prog 35 #[.pointer (some ⟨g, 0, none⟩)] w fun e w' => ∃ (p q : Int) (v : Value) (ks : List K2) (y : ByteArray) (c' : Cu), e = .returned (.agg #[.int .i64 p, .int .i64 q, v, .string y]) ∧ (1 ≤ p ∧ p ≤ 5) ∧ (0 ≤ q ∧ q ≤ 5) ∧ 1 ≤ ks.length ∧ ks.length ≤ 4 ∧ kDrs ks ∧ y.size = 4 ∧
      w'.ownsRow w.heap.size 50 2 v ks.length (keyCells ks) ∧ Drew n₀ g a len cap zs c' w w' := by
  have hd0 : Drew n₀ g a len cap zs c w w := ⟨hs, Below.refl _ _, World.grownBy.refl _ _⟩
  have hgl := hs.lt
  have hd1 := hd0.alloc (.cells #[.int .i64 0, .int .i64 0, .slice none 0 0, .string ⟨#[]⟩] 28)
  have HR := Lib.hid (heap_alloc_new w (.cells #[.int .i64 0, .int .i64 0, .slice none 0 0, .string ⟨#[]⟩] 28))
  have HS := Lib.hid hd1
  have hwz : w.heap.size < (w.alloc (.cells #[.int .i64 0, .int .i64 0, .slice none 0 0, .string ⟨#[]⟩] 28)).heap.size := by simp
  clear hd1 hd0 hs
  go_enter Tryd.func35, Tryd.ntmps35
  go_wp2_with fail
  generalize w.alloc (.cells #[.int .i64 0, .int .i64 0, .slice none 0 0, .string ⟨#[]⟩] 28) = W0 at *
  refine (below_any n₀ g len cap a zs c 5 _ HS.out.st (by omega)).mono ?_
  rintro e w1 ⟨rfl, hd⟩
  have hb1 := belowF_bd zs len c 5
  replace HR := Lib.hid (hd.keeps HR.out (by omega))
  replace HS := Lib.hid (HS.out.trans hd)
  have hs1 := hd.grown.size
  clear hd
  generalize belowF zs len c 5 = b at *
  obtain ⟨x, c2⟩ := b
  dsimp only at *
  have hx := hb1.2 (by omega)
  have hx0 := hb1.1
  clear hb1
  have ew : IntKind.i64.wrap (1 + x) = 1 + x := IntWalk.i64_in _ (by omega)
  go_wp2_with fail
  refine (below_any n₀ g len cap a zs c2 6 _ HS.out.st (by omega)).mono ?_
  rintro e w2 ⟨rfl, hd⟩
  have hb1 := belowF_bd zs len c2 6
  replace HR := Lib.hid (hd.keeps HR.out (by omega))
  replace HS := Lib.hid (HS.out.trans hd)
  have hs2 := hd.grown.size
  clear hd
  generalize belowF zs len c2 6 = b at *
  obtain ⟨z, c3⟩ := b
  dsimp only at *
  have hz := hb1.2 (by omega)
  have hz0 := hb1.1
  clear hb1
  go_wp2_with fail
  refine (l05codeok_any n₀ g len cap a zs c3 _ HS.out.st).mono ?_
  rintro e w3 ⟨v1, ks, y, c4, rfl, hk1, hk4, hkd, hy, ho, hd⟩
  obtain ⟨a1, m1, k1, rfl⟩ := own_shape ho
  replace HR := Lib.hid (hd.keeps HR.out (by omega))
  replace HS := Lib.hid (HS.out.trans hd)
  have hner : (Value.slice a1 m1 k1).ownBlock ≠ some w.heap.size := own_ne_at ho (by omega)
  have HO := Lib.hid (own_base ho (by omega : w.heap.size ≤ w2.heap.size))
  have HKD := Lib.hid hkd
  have HE := Lib.hid (f6end (1 + x) z y HS.out hgl HR.out HO.out hner)
  clear hd ho hkd hner HR HS HO
  obtain ⟨⟨c0, c1', c2', c3', f0, f1, f2, f3⟩, hlw, -, -, -⟩ := HE.out
  go_wp2_with fail
  refine bodyPost_ret (v := .agg #[.int .i64 (1 + x), .int .i64 z, .slice a1 m1 k1, .string y]) ?_ rfl ⟨_, _, _, ks, y, c4, rfl, by omega, by omega, hk1, hk4, HKD.out, hy, HE.out.own, HE.out.fin⟩
  rw [results_cell (p := 2) (ty := 28) (by kernel_rfl)]
  have hl := HE.out.load
  simp [asAddr, Result.andThen, hl]
end Go.Proofs.YtdokkhgeeinnhaaDoor
namespace Go.Proofs.YtdokkhgeeinnhaaDoor
open Go.ChangeShapes Go.WideShapes Go.ChangeAt Go.RowKit
set_option linter.unusedVariables false

theorem CodeAt.drew {n₀ : Nat} {w : World} {a : Option Addr} {len : Nat} {zs : List Int} (h : CodeAt n₀ w a len zs) (k : Nat) : CodeAt n₀ (w.drewN k) a len zs := h
theorem DrawSt.drew {n₀ g : Nat} {a : Option Addr} {len cap : Nat} {zs : List Int} {i : Nat} {h : Int} {w : World} (hs : DrawSt n₀ w g a len cap zs i h) (k : Nat) : DrawSt n₀ (w.drewN k) g a len cap zs i h :=
  ⟨hs.code.drew k, hs.cur, hs.hg, hs.hi⟩
theorem Drew.drew {n₀ g : Nat} {a : Option Addr} {len cap : Nat} {zs : List Int} {c : Cu} {w w1 : World} (h : Drew n₀ g a len cap zs c w w1) (k : Nat) : Drew n₀ g a len cap zs c w (w1.drewN k) :=
  ⟨h.st.drew k, h.below.trans ⟨rfl, rfl, rfl, Nat.le_refl _, fun _ _ => rfl⟩, grownT h.grown ⟨rfl, rfl, rfl, Nat.le_refl _, fun _ _ _ => rfl⟩⟩
theorem Drew.drew1 {n₀ g : Nat} {a : Option Addr} {len cap : Nat} {zs : List Int} {c : Cu} {w w1 : World} (h : Drew n₀ g a len cap zs c w w1) : Drew n₀ g a len cap zs c w w1.drew := h.drew 1

def bentTab : List ByteArray := [⟨#[48]⟩, ⟨#[32]⟩, ⟨#[255]⟩, ⟨#[10]⟩, ⟨#[97]⟩, ⟨#[45]⟩]
def bentTab2 : List ByteArray := [⟨#[48]⟩, ⟨#[65]⟩, ⟨#[0]⟩, ⟨#[57]⟩, ⟨#[102]⟩]
theorem bentTab_size (i : Nat) : (bentTab[i]?.getD ByteArray.empty).size ≤ 1 := by
  unfold bentTab
  rcases (by omega : i = 0 ∨ i = 1 ∨ i = 2 ∨ i = 3 ∨ i = 4 ∨ i = 5 ∨ 6 ≤ i) with rfl | rfl | rfl | rfl | rfl | rfl | h
  · decide
  · decide
  · decide
  · decide
  · decide
  · decide
  · rw [List.getElem?_eq_none (by simpa using h)]; decide
theorem bentTab2_size (i : Nat) : (bentTab2[i]?.getD ByteArray.empty).size ≤ 1 := by
  unfold bentTab2
  rcases (by omega : i = 0 ∨ i = 1 ∨ i = 2 ∨ i = 3 ∨ i = 4 ∨ 5 ≤ i) with rfl | rfl | rfl | rfl | rfl | h
  · decide
  · decide
  · decide
  · decide
  · decide
  · rw [List.getElem?_eq_none (by simpa using h)]; decide

set_option maxRecDepth 100000 in
set_option maxHeartbeats 2000000 in
theorem bent_any (n₀ g len cap : Nat) (a : Option Addr) (zs : List Int) (c : Cu) (s : ByteArray) (w : World) (hs : DrawSt n₀ w g a len cap zs c.i c.h) (hz : s.size ≤ 1000) :
    Calls Tryd.prog 37 #[.pointer (some ⟨g, 0, none⟩), .string s] w fun e w' => ∃ (r : ByteArray) (c' : Cu), e = .returned (.string r) ∧ r.size ≤ 3000 ∧ Drew n₀ g a len cap zs c' w w' := by
  have H1 := Lib.hid (below_any n₀ g len cap a zs c ((s.size : Int) + 1) w hs (by omega)); clear hs
  have hbd := belowF_bd zs len c ((s.size : Int) + 1)
  generalize belowF zs len c ((s.size : Int) + 1) = b at *
  obtain ⟨i, c1⟩ := b
  dsimp only at *
  have H2 := Lib.hid (fun w hs => below_any n₀ g len cap a zs c1 10 w hs (by omega))
  have hbd2 := belowF_bd zs len c1 10
  generalize belowF zs len c1 10 = b at *
  obtain ⟨x, c2⟩ := b
  dsimp only at *
  obtain ⟨i, rfl⟩ : ∃ m : Nat, i = m := ⟨i.toNat, by omega⟩
  have hi1 : i ≤ s.size := by have := hbd.2 (by omega); omega
  clear hbd
  have y0 : (0 : Int) ≤ (i : Int) := by omega
  have y1 : (i : Int) ≤ (s.size : Int) := by omega
  go_enter Tryd.func37, Tryd.ntmps37
  go_wp2_with fail
  refine H1.out.mono ?_
  clear H1
  rintro e w1 ⟨rfl, hd1⟩
  go_wp2_with fail
  refine (H2.out _ hd1.st).mono ?_
  clear H2
  rintro e w2 ⟨rfl, hd2⟩
  have hd := hd1.trans hd2
  clear hd1 hd2
  have hgl := hd.st.lt
  rcases (by omega : x = 0 ∨ x = 1 ∨ x = 2 ∨ (3 ≤ x ∧ x ≤ 9)) with hx | hx | hx | hx
  · subst hx
    go_wp2
    go_ret
    exact ⟨s.extract 0 i, c2, rfl, by rw [ByteArray.size_extract]; omega, hd⟩
  · subst hx
    have P3 := Lib.hid (pick_any n₀ g len cap w2.heap.size 6 a zs c2 bentTab ((w2.alloc (.cells #[.string ⟨#[48]⟩, .string ⟨#[32]⟩, .string ⟨#[255]⟩, .string ⟨#[10]⟩, .string ⟨#[97]⟩, .string ⟨#[45]⟩] 9)).drew) (hd.alloc _).drew1.st (by omega) (by omega) rfl (by omega) (by
      intro k hk
      show (w2.alloc _).cell? _ = _
      rw [lit_cell]
      rcases (by omega : k = 0 ∨ k = 1 ∨ k = 2 ∨ k = 3 ∨ k = 4 ∨ k = 5) with rfl | rfl | rfl | rfl | rfl | rfl <;> rfl))
    have hts := bentTab_size (belowF zs len c2 (6 : Nat)).1.toNat
    generalize bentTab[(belowF zs len c2 (6 : Nat)).1.toNat]?.getD ByteArray.empty = y at *
    have hx1 : (s.extract 0 i).size ≤ 1000 := by rw [ByteArray.size_extract]; omega
    have hx2 : (s.extract i s.size).size ≤ 1000 := by rw [ByteArray.size_extract]; omega
    have hx3 : ¬ 9223372036854775807 < i + y.size := by omega
    have hx4 : ¬ 9223372036854775807 < i + y.size + (s.size - i) := by omega
    go_upto_region 6 with fail
    go_region_held3 (fun _ => True) (exact trivial)
      (first | (go_at_call 39; refine P3.out.mono ?_; rintro e w3 ⟨rfl, hd3⟩))
    all_goals go_wp2
    all_goals go_ret
    have hD := (hd.alloc _).drew1.trans hd3
    exact ⟨_, _, rfl, by simp only [ByteArray.size_append]; omega, hD⟩
  · subst hx
    by_cases hlt : i < s.size
    · have y2 : (i : Int) < (s.size : Int) := by omega
      have y3 : (0 : Int) ≤ (i : Int) + 1 := by omega
      have y4 : (i : Int) + 1 ≤ (s.size : Int) := by omega
      have ew : IntKind.i64.wrap ((i : Int) + 1) = (i : Int) + 1 := IntWalk.i64_in _ (by omega)
      have et : ((i : Int) + 1).toNat = i + 1 := by omega
      have P3 := Lib.hid (pick_any n₀ g len cap w2.heap.size 5 a zs c2 bentTab2 ((w2.alloc (.cells #[.string ⟨#[48]⟩, .string ⟨#[65]⟩, .string ⟨#[0]⟩, .string ⟨#[57]⟩, .string ⟨#[102]⟩] 9)).drew) (hd.alloc _).drew1.st (by omega) (by omega) rfl (by omega) (by
        intro k hk
        show (w2.alloc _).cell? _ = _
        rw [lit_cell]
        rcases (by omega : k = 0 ∨ k = 1 ∨ k = 2 ∨ k = 3 ∨ k = 4) with rfl | rfl | rfl | rfl | rfl <;> rfl))
      have hts := bentTab2_size (belowF zs len c2 (5 : Nat)).1.toNat
      generalize bentTab2[(belowF zs len c2 (5 : Nat)).1.toNat]?.getD ByteArray.empty = y at *
      have hx1 : (s.extract 0 i).size ≤ 1000 := by rw [ByteArray.size_extract]; omega
      have hx2 : (s.extract (i + 1) s.size).size ≤ 1000 := by rw [ByteArray.size_extract]; omega
      have hx3 : ¬ 9223372036854775807 < i + y.size := by omega
      have hx4 : ¬ 9223372036854775807 < i + y.size + (s.size - (i + 1)) := by omega
      go_upto_region 9 with fail
      go_region_held3 (fun _ => True) (exact trivial)
        (first | (go_at_call 39; refine P3.out.mono ?_; rintro e w3 ⟨rfl, hd3⟩))
      all_goals go_wp2
      all_goals go_ret
      have hD := (hd.alloc _).drew1.trans hd3
      exact ⟨_, _, rfl, by simp only [ByteArray.size_append]; omega, hD⟩
    · have y2 : ¬ (i : Int) < (s.size : Int) := by omega
      go_wp2
      go_ret
      exact ⟨s, c2, rfl, by omega, hd⟩
  · have e0 : (x == 0) = false := by simp; omega
    have e1 : (x == 1) = false := by simp; omega
    have e2 : (x == 2) = false := by simp; omega
    go_wp2
    go_ret
    exact ⟨s, c2, rfl, by omega, hd⟩
end Go.Proofs.YtdokkhgeeinnhaaDoor
namespace Go.Proofs.YtdokkhgeeinnhaaDoor
open Go.RowKit
set_option linter.unusedVariables false

def lcgN : Nat → Int → Int
  | 0, h => h
  | m + 1, h => lcgN m (lcg h)
def FN : Nat → Int → Int
  | 0, h => h
  | m + 1, h => FN m (h * 6364136223846793005 + 1442695040888963407)
theorem FN_add : ∀ (m k : Nat) (x : Int), FN (m + k) x = FN k (FN m x)
  | 0, k, x => by simp [FN]
  | m + 1, k, x => by
    rw [Nat.add_right_comm]; exact FN_add m k _
theorem lcgN_add : ∀ (m k : Nat) (x : Int), lcgN (m + k) x = lcgN k (lcgN m x)
  | 0, k, x => by simp [lcgN]
  | m + 1, k, x => by
    rw [Nat.add_right_comm]; exact lcgN_add m k _
theorem FN_pow : ∀ k : Nat, ∃ s o : Int, ∀ x, FN (2 ^ k) x = (1 + 4 * 2 ^ k * s) * x + 2 ^ k * (2 * o + 1)
  | 0 => ⟨1591034055961698251, 721347520444481703, fun x => by simp [FN]; omega⟩
  | k + 1 => by
    obtain ⟨s, o, h⟩ := FN_pow k
    refine ⟨s + 2 * 2 ^ k * s * s, o + 2 * o * 2 ^ k * s + 2 ^ k * s, fun x => ?_⟩
    rw [show 2 ^ (k + 1) = 2 ^ k + 2 ^ k by rw [Nat.pow_succ]; omega, FN_add, h, h, Int.pow_succ]
    generalize (2 : Int) ^ k = p
    grind
theorem FN_reach : ∀ (k : Nat) (x y : Int), ∃ m : Nat, m < 2 ^ k ∧ ∃ d : Int, FN m x = y + 2 ^ k * d
  | 0, x, y => ⟨0, by simp, x - y, by simp [FN]; omega⟩
  | k + 1, x, y => by
    obtain ⟨m, hm, d, hd⟩ := FN_reach k x y
    have h2 : 2 ^ (k + 1) = 2 ^ k + 2 ^ k := by rw [Nat.pow_succ]; omega
    rcases (by omega : d % 2 = 0 ∨ d % 2 = 1) with h | h
    · obtain ⟨d', rfl⟩ : ∃ d', d = 2 * d' := ⟨d / 2, by omega⟩
      exact ⟨m, by omega, d', by rw [hd, Int.pow_succ]; generalize (2 : Int) ^ k = p; grind⟩
    · obtain ⟨d', rfl⟩ : ∃ d', d = 2 * d' + 1 := ⟨d / 2, by omega⟩
      obtain ⟨s, o, hp⟩ := FN_pow k
      refine ⟨m + 2 ^ k, by omega, d' + o + 1 + 2 * s * (y + 2 ^ k * (2 * d' + 1)), ?_⟩
      rw [FN_add, hp, hd, Int.pow_succ]
      generalize (2 : Int) ^ k = p
      grind
theorem FN_mod : ∀ (m : Nat) (x q : Int), ∃ q' : Int, FN m (x + 18446744073709551616 * q) = FN m x + 18446744073709551616 * q'
  | 0, x, q => ⟨q, rfl⟩
  | m + 1, x, q => by
    obtain ⟨q', h⟩ := FN_mod m (x * 6364136223846793005 + 1442695040888963407) (q * 6364136223846793005)
    refine ⟨q', ?_⟩
    show FN m _ = FN m _ + _
    rw [← h]; congr 1; omega
theorem lcg_is (h : Int) : ∃ q : Int, lcg h = h * 6364136223846793005 + 1442695040888963407 + 18446744073709551616 * q := by
  refine ⟨(lcg h - (h * 6364136223846793005 + 1442695040888963407)) / 18446744073709551616, ?_⟩
  unfold lcg wrap64; omega
theorem lcgN_is : ∀ (m : Nat) (h : Int), ∃ q : Int, lcgN m h = FN m h + 18446744073709551616 * q
  | 0, h => ⟨0, by simp [lcgN, FN]⟩
  | m + 1, h => by
    obtain ⟨q, e⟩ := lcg_is h
    obtain ⟨q1, e1⟩ := lcgN_is m (lcg h)
    obtain ⟨q2, e2⟩ := FN_mod m (h * 6364136223846793005 + 1442695040888963407) q
    refine ⟨q1 + q2, ?_⟩
    show lcgN m (lcg h) = FN m _ + _
    rw [e1, e, e2]; omega
theorem lcg_in (h : Int) : -9223372036854775808 ≤ lcg h ∧ lcg h ≤ 9223372036854775807 := by unfold lcg wrap64; omega
theorem lcgN_in : ∀ (m : Nat) (h : Int), -9223372036854775808 ≤ h ∧ h ≤ 9223372036854775807 → -9223372036854775808 ≤ lcgN m h ∧ lcgN m h ≤ 9223372036854775807
  | 0, h, hh => hh
  | m + 1, h, hh => lcgN_in m _ (lcg_in h)
theorem lcg_reach (h y : Int) (hy : -9223372036854775808 ≤ y ∧ y ≤ 9223372036854775807) : ∃ m : Nat, m ≤ 18446744073709551616 ∧ lcgN m h = y := by
  obtain ⟨m, hm, d, hd⟩ := FN_reach 64 (lcg h) y
  obtain ⟨q, hq⟩ := lcgN_is m (lcg h)
  have h1 := lcgN_in m (lcg h) (lcg_in h)
  refine ⟨m + 1, hm, ?_⟩
  show lcgN m (lcg h) = y
  rw [hd] at hq
  have h3 : (2 : Int) ^ 64 = 18446744073709551616 := by decide
  rw [h3] at hq
  omega

/-- the next number makes the text grow -/
def grows (h : Int) : Bool := outb (lcg h) % 5 != 1 && outb (lcg h) % 5 != 2
def grows3 (h : Int) : Bool := grows h && grows (lcg h) && grows (lcg (lcg h))
theorem grows3_8 : grows3 8 = true := by decide +kernel
theorem least {p : Nat → Prop} (m : Nat) (hm : p m) : ∃ n, n ≤ m ∧ p n ∧ ∀ k, p k → n ≤ k := by
  induction m using Nat.strongRecOn with
  | _ m ih =>
    by_cases h : ∃ k, k < m ∧ p k
    · obtain ⟨k, hk, hp⟩ := h
      obtain ⟨n, h1, h2, h3⟩ := ih k hk hp
      exact ⟨n, by omega, h2, h3⟩
    · exact ⟨m, Nat.le_refl _, hm, fun k hk => by
        rcases Nat.lt_or_ge k m with h1 | h1
        · exact absurd ⟨k, h1, hk⟩ h
        · exact h1⟩
theorem wait_ex (h : Int) : ∃ n, n ≤ 18446744073709551616 ∧ grows3 (lcgN n h) = true ∧ ∀ k, grows3 (lcgN k h) = true → n ≤ k := by
  obtain ⟨m, hm, e⟩ := lcg_reach h 8 (by omega)
  obtain ⟨n, h1, h2, h3⟩ := least (p := fun n => grows3 (lcgN n h) = true) m (by rw [e]; exact grows3_8)
  exact ⟨n, by omega, h2, h3⟩
noncomputable def wait (h : Int) : Nat := if grows h then 0 else 1 + Classical.choose (wait_ex h)
theorem wait_le (h : Int) : wait h ≤ 18446744073709551617 := by
  have := (Classical.choose_spec (wait_ex h)).1
  unfold wait; split <;> omega
theorem wait_step (h : Int) (hn : grows h = false) (j : Nat) (h1 : 1 ≤ j) (h2 : j ≤ 3) : wait (lcgN j h) < wait h := by
  have e : wait h = 1 + Classical.choose (wait_ex h) := by unfold wait; simp [hn]
  obtain ⟨-, hg, hl⟩ := Classical.choose_spec (wait_ex h)
  rw [e]
  generalize Classical.choose (wait_ex h) = d at *
  rcases Nat.lt_or_ge d j with hd | hd
  · have h0 : grows (lcgN j h) = true := by
      simp only [grows3, Bool.and_eq_true] at hg
      obtain ⟨⟨g0, g1⟩, g2⟩ := hg
      have hd0 : d ≠ 0 := by rintro rfl; simp [lcgN, hn] at g0
      obtain ⟨i, rfl⟩ : ∃ i, j = d + i := ⟨j - d, by omega⟩
      rw [lcgN_add]
      obtain rfl | rfl : i = 1 ∨ i = 2 := by omega
      · exact g1
      · exact g2
    have : wait (lcgN j h) = 0 := by unfold wait; simp [h0]
    omega
  · have h3 : grows3 (lcgN (d - j) (lcgN j h)) = true := by
      rw [← lcgN_add, show j + (d - j) = d by omega]; exact hg
    have h4 := (Classical.choose_spec (wait_ex (lcgN j h))).2.2 (d - j) h3
    unfold wait; split <;> omega
/-- what a cursor has before it -/
noncomputable def ahead (len : Nat) (c : Cu) : Nat := (len - c.i) * 73786976294838206464 + wait c.h
theorem byteF_more (zs : List Int) (len : Nat) (c : Cu) (h : c.i = len) : byteF zs len c = (outb (lcg c.h), ⟨len, lcg c.h⟩) := by
  unfold byteF; rw [if_neg (by omega)]; simp [h]
theorem below_small (zs : List Int) (len : Nat) (c : Cu) (n : Int) (h0 : 0 < n) (h1 : n ≤ 256) : belowF zs len c n = ((byteF zs len c).1 % n, (byteF zs len c).2) := by
  unfold belowF; rw [if_neg (by omega), if_pos h1]
theorem byteF_at (zs : List Int) (len : Nat) (c : Cu) (hi : c.i ≤ len) : ((byteF zs len c).2.i = c.i ∧ c.i = len ∨ (byteF zs len c).2.i = c.i + 1 ∧ c.i < len) ∧ (byteF zs len c).2.h = lcg c.h := by
  refine ⟨?_, byteF_h _ _ _⟩
  unfold byteF; split <;> simp <;> omega
theorem ahead_one (zs : List Int) (len : Nat) (c : Cu) (hi : c.i ≤ len) (n : Int) (hn : n = 5) (hx : (belowF zs len c n).1 = 1 ∨ (belowF zs len c n).1 = 2) : ahead len (belowF zs len c n).2 < ahead len c := by
  subst hn
  rw [below_small _ _ _ _ (by omega) (by omega)] at hx ⊢
  dsimp only at hx ⊢
  have hw := wait_le (byteF zs len c).2.h
  obtain ⟨ha | ha, hb⟩ := byteF_at zs len c hi
  · rw [byteF_more _ _ _ ha.2] at hx
    have hg : grows c.h = false := by unfold grows; rcases hx with hx | hx <;> simp [hx]
    have := wait_step c.h hg 1 (by omega) (by omega)
    unfold ahead
    rw [hb] at hw ⊢
    simp only [lcgN] at this
    omega
  · unfold ahead; omega
theorem ahead_three (zs : List Int) (len : Nat) (c : Cu) (hi : c.i ≤ len) (n n2 n3 : Int) (hn : n = 5) (h2 : 0 < n2 ∧ n2 ≤ 256) (h3 : 0 < n3 ∧ n3 ≤ 256) (hx : (belowF zs len c n).1 = 1 ∨ (belowF zs len c n).1 = 2) :
    ahead len (belowF zs len (belowF zs len (belowF zs len c n).2 n2).2 n3).2 < ahead len c := by
  subst hn
  rw [below_small _ _ _ n3 h3.1 h3.2, below_small _ _ _ n2 h2.1 h2.2]
  rw [below_small _ _ _ _ (by omega) (by omega)] at hx ⊢
  dsimp only at hx ⊢
  obtain ⟨ha | ha, hb⟩ := byteF_at zs len c hi
  · rw [byteF_more _ _ _ ha.2] at hx
    have hg : grows c.h = false := by unfold grows; rcases hx with hx | hx <;> simp [hx]
    have := wait_step c.h hg 3 (by omega) (by omega)
    have i1 : (byteF zs len c).2.i = len := by omega
    obtain ⟨hc, hd⟩ := byteF_at zs len (byteF zs len c).2 (by omega)
    have i2 : (byteF zs len (byteF zs len c).2).2.i = len := by omega
    obtain ⟨he, hf⟩ := byteF_at zs len (byteF zs len (byteF zs len c).2).2 (by omega)
    unfold ahead
    rw [hf, hd, hb]
    simp only [lcgN] at this
    omega
  · obtain ⟨hc, -⟩ := byteF_at zs len (byteF zs len c).2 (by omega)
    obtain ⟨he, -⟩ := byteF_at zs len (byteF zs len (byteF zs len c).2).2 (by omega)
    have hw := wait_le (byteF zs len (byteF zs len (byteF zs len c).2).2).2.h
    unfold ahead; omega
end Go.Proofs.YtdokkhgeeinnhaaDoor
namespace Go.Proofs.YtdokkhgeeinnhaaDoor
open Go.ChangeShapes Go.WideShapes Go.ChangeAt Go.RowKit
set_option linter.unusedVariables false

def curOf (w : World) (g : Nat) : Cu := match w.heap[g]? with
  | some (.cells cs _ _) => ⟨(intOf (cs.getD 1 undef)).toNat, intOf (cs.getD 2 undef)⟩
  | _ => ⟨0, 0⟩
def lenV : Value → Nat
  | .slice _ n _ => n
  | _ => 0
theorem curOf_is {n₀ g : Nat} {a : Option Addr} {len cap : Nat} {zs : List Int} {c : Cu} {w : World} (h : DrawSt n₀ w g a len cap zs c.i c.h) : curOf w g = c := by
  unfold curOf; rw [h.cur]; simp [intOf]
noncomputable def tmeas (n len g : Nat) (v : Value) (w : World) : Nat := (n - lenV v) * 1237940039285380274899124224 + ahead len (curOf w g)
theorem ahead_lt (len : Nat) (c : Cu) (h : len ≤ 1048576) : ahead len c < 1237940039285380274899124224 := by
  have := wait_le c.h
  have : len - c.i ≤ 1048576 := by omega
  unfold ahead; omega
theorem tmeas_more {n len g L L' : Nat} {v v' : Value} {w w' : World} (hl : len ≤ 1048576) (hv : ∃ va vc, v = .slice va L vc) (hv' : ∃ va vc, v' = .slice va L' vc) (h1 : L < n) (h2 : L < L') : tmeas n len g v' w' < tmeas n len g v w := by
  have := ahead_lt len (curOf w' g) hl
  obtain ⟨_, _, rfl⟩ := hv; obtain ⟨_, _, rfl⟩ := hv'
  unfold tmeas lenV
  simp only
  omega
theorem tmeas_less {n len g L L' : Nat} {v v' : Value} {w w' : World} {c c' : Cu} (hv : ∃ va vc, v = .slice va L vc) (hv' : ∃ va vc, v' = .slice va L' vc) (hc : curOf w g = c) (hc' : curOf w' g = c') (h2 : L ≤ L') (ha : ahead len c' < ahead len c) : tmeas n len g v' w' < tmeas n len g v w := by
  obtain ⟨_, _, rfl⟩ := hv; obtain ⟨_, _, rfl⟩ := hv'
  unfold tmeas lenV
  simp only
  rw [hc, hc']
  omega
theorem len_v {v : Value} {L : Nat} (h : ∃ va vc, v = .slice va L vc) (ty : TypeId) (w : World) : (Builtin.len_ #[22] ty #[v]).run Tryd.prog w = .ok (.int .i64 L) w := by
  obtain ⟨va, vc, rfl⟩ := h
  exact run_len_slice w 22 ty va L vc (by kernel_rfl)

theorem idx_v {v : Value} {gg L cap : Nat} (h : v = .slice (some ⟨gg, 0, none⟩) L cap) (i : Nat) (hi : i < L) (z : Int) (hz : z = i) (w : World) :
    (Instr.indexAt 22 v (.int .i64 z)).run Tryd.prog w = .ok (.pointer (some ⟨gg, i, none⟩)) w := by
  obtain ⟨i0, h1, _, h3, _⟩ := info_parts info5
  have he : Tryd.prog.elem 22 = 5 := by kernel_rfl
  subst h; subst hz
  rw [run_indexAt_slice w 22 _ _ _ _ _ (by kernel_rfl), if_pos ⟨by omega, by omega⟩, he]
  simp [sizeOf, typeInfo, h1, h3, Result.andThen, Addr.add]
  omega

structure TextSt (n₀ g : Nat) (a : Option Addr) (len cap : Nat) (zs : List Int) (c : Cu) (w wr : World) (v : Value) (xs : List Int) : Prop where
  dr : Drew n₀ g a len cap zs c w wr
  own : wr.ownsRow w.heap.size 5 1 v xs.length (xs.map (Value.int .u8))
  hgl : g < w.heap.size
theorem TextSt.draw {n₀ g : Nat} {a : Option Addr} {len cap : Nat} {zs : List Int} {c c2 : Cu} {w wr w1 : World} {v : Value} {xs : List Int} (h : TextSt n₀ g a len cap zs c w wr v xs) (k : Drew n₀ g a len cap zs c2 wr w1) : TextSt n₀ g a len cap zs c2 w w1 v xs :=
  ⟨h.dr.trans k, h.own.kept k.grown (.inr fun e => by have := (h.own.lt g e).1; have := h.hgl; omega), h.hgl⟩
theorem TextSt.app {n₀ g : Nat} {a : Option Addr} {len cap : Nat} {zs : List Int} {c : Cu} {w wr w1 : World} {v v' : Value} {xs : List Int} {o : Obj} {y : Int} (h : TextSt n₀ g a len cap zs c w wr v xs)
    (own' : w1.ownsRow w.heap.size 5 1 v' (xs.length + 1) (xs.map (Value.int .u8) ++ [.int .u8 y])) (hgrow : (wr.alloc o).grownBy w1 v.ownBlock) : TextSt n₀ g a len cap zs c w w1 v' (xs ++ [y]) ∧ ∃ va vc, v' = .slice va (xs ++ [y]).length vc := by
  refine ⟨⟨(h.dr.alloc o).grow h.hgl hgrow (fun b e => (h.own.lt b e).1), by simpa using own', h.hgl⟩, ?_⟩
  rcases ownsRow_shape own' with ⟨_, h0⟩ | ⟨gg, cc, rfl, _⟩
  · omega
  · exact ⟨some ⟨gg, 0, none⟩, cc, by simp⟩

set_option maxRecDepth 100000 in
set_option maxHeartbeats 2000000 in
theorem text_any (n₀ g len cap : Nat) (a : Option Addr) (zs : List Int) (c : Cu) (n : Nat) (w : World) (hs : DrawSt n₀ w g a len cap zs c.i c.h) (hn : n ≤ 200) :
    Calls Tryd.prog 40 #[.pointer (some ⟨g, 0, none⟩), .int .i64 n] w fun e w' => ∃ (s : ByteArray) (c' : Cu), e = .returned (.string s) ∧ s.size = n ∧ Drew n₀ g a len cap zs c' w w' := by
  obtain ⟨i0, hi, hz0, hz1, hz2⟩ := info_parts info5
  have hlen := hs.code.1
  have h00 : TextSt n₀ g a len cap zs c w (w.alloc (.cells #[] 5)) (.slice (some ⟨w.heap.size, 0, none⟩) 0 0) [] :=
    ⟨(⟨hs, Below.refl _ _, World.grownBy.refl _ _⟩ : Drew n₀ g a len cap zs c w w).alloc _, World.ownsRow_made (base := w.heap.size) (e := 5) (size := 1) w #[] 0 (Nat.le_refl _) (by unfold maxLen; omega) rfl, hs.lt⟩
  have HS := Lib.hid hs; clear hs
  go_enter Tryd.func40, Tryd.ntmps40
  go_wp2
  go_loopw [5] (fun v wr => ∃ (xs : List Int) (c' : Cu), (∃ va vc, v = .slice va xs.length vc) ∧ xs.length ≤ n + 20 ∧ TextSt n₀ g a len cap zs c' w wr v xs)
    (fun v wr => tmeas n len g v wr)
  case atStart => exact ⟨[], c, ⟨_, _, rfl⟩, by simp, h00⟩
  case round =>
    obtain ⟨xs, c', hv, hxs, ht⟩ := hrel
    have hlv := len_v hv
    clear h00
    by_cases hlt : xs.length < n
    · have z1 : (xs.length : Int) < (n : Int) := by omega
      have hst := ht.dr.st
      have hcu := curOf_is hst
      have A1 := fun h => ahead_one zs len c' hst.hi 5 rfl h
      have A3 := fun n2 n3 h2 h3 h => ahead_three zs len c' hst.hi 5 n2 n3 rfl h2 h3 h
      have hbd := belowF_bd zs len c' 5
      have HB := Lib.hid (below_any n₀ g len cap a zs c' 5 wr hst (by omega))
      generalize belowF zs len c' 5 = b at *
      obtain ⟨x, c1⟩ := b
      dsimp only at *
      have HA1 := Lib.hid A1; have HA3 := Lib.hid A3; have HCU := Lib.hid hcu
      clear A1 A3 hcu hst
      go_wp2_with fail
      refine HB.out.mono ?_
      clear HB
      rintro e w1 ⟨rfl, hd1⟩
      have ht1 := ht.draw hd1
      clear hd1 ht
      rcases (by omega : x = 0 ∨ x = 1 ∨ x = 2 ∨ (3 ≤ x ∧ x ≤ 4)) with hx | hx | hx | hx
      · subst hx
        have hbd2 := byteF_bd zs len c1
        have HB := Lib.hid (byte_any n₀ g len cap a zs c1 w1 ht1.dr.st)
        generalize byteF zs len c1 = b at *
        obtain ⟨y, c2⟩ := b
        dsimp only at *
        clear HA1 HA3
        go_wp2_with fail
        refine HB.out.mono ?_
        clear HB
        rintro e w2 ⟨rfl, hd2⟩
        have ht2 := ht1.draw hd2
        have eu : y % 256 = y := by omega
        have hns := ht2.dr.grown.size
        clear hd2 ht1
        go_wp2_with (at_builtin; refine wpList_append_own _ rfl (.tmp 28) (.tmp 32) 22 rfl w.heap.size 5 i0 (.int .u8 0) 1 1 Tryd.underlying22 hi hz0 hz1 hz2 rfl (by decide) _ _ _ rfl (ht2.own.alloc _) ⟨w2.heap.size, 0, none⟩ 1 1 [.int .u8 y] rfl rfl (cell_one_new _ _ _) (by intro u hu; simp at hu; subst hu; rfl) (by unfold maxLen; omega) (by omega) (by simp; omega) ?_; intro v' w3 hown' hgrow _)
        obtain ⟨ht3, hv3⟩ := ht2.app hown' hgrow
        clear hown' hgrow ht2
        go_wp2
        go_roundw
        case rel => exact ⟨_, _, hv3, by simp; omega, ht3⟩
        case measure => exact tmeas_more hlen hv hv3 hlt (by simp)
      · subst hx
        have AA := HA3.out 9 4 (by omega) (by omega) (.inl rfl)
        have hbd2 := belowF_bd zs len c1 9
        have HB := Lib.hid (below_any n₀ g len cap a zs c1 9 w1 ht1.dr.st (by omega))
        generalize belowF zs len c1 9 = b at *
        obtain ⟨k, c2⟩ := b
        dsimp only at *
        have hbd3 := belowF_bd zs len c2 4
        have HB2 := Lib.hid (fun w1 h => below_any n₀ g len cap a zs c2 4 w1 h (by omega))
        generalize belowF zs len c2 4 = b at *
        obtain ⟨y, c3⟩ := b
        dsimp only at *
        clear HA1 HA3
        obtain ⟨k, rfl⟩ : ∃ m : Nat, k = m := ⟨k.toNat, by omega⟩
        have HAA := Lib.hid AA; clear AA
        go_wp2_with fail
        refine HB.out.mono ?_
        clear HB
        rintro e w2 ⟨rfl, hd2⟩
        have ht2 := ht1.draw hd2
        clear hd2 ht1
        go_wp2_with fail
        refine (HB2.out _ ht2.dr.st).mono ?_
        clear HB2
        rintro e w3 ⟨rfl, hd3⟩
        have ht3 := ht2.draw hd3
        have eu : (97 + y) % 256 = 97 + y := by omega
        clear hd3 ht2
        go_wp2
        go_loopw [5, 8] (fun v' i wr' => ∃ (ys : List Int) (j : Nat), (∃ va vc, v' = .slice va ys.length vc) ∧ j ≤ k ∧ i = .int .i64 j ∧ ys.length = xs.length + j ∧ TextSt n₀ g a len cap zs c3 w wr' v' ys) (fun _ i _ => k - (intOf i).toNat)
        case atStart => exact ⟨xs, 0, hv, Nat.zero_le _, rfl, rfl, ht3⟩
        case round =>
          obtain ⟨ys, j, hv4, hj, rfl, hys, ht4⟩ := hrel
          clear ht3
          by_cases hjk : j < k
          · have z2 : (j : Int) < (k : Int) := by omega
            have hns := ht4.dr.grown.size
            go_wp2_with (at_builtin; refine wpList_append_own _ rfl (.tmp 47) (.tmp 49) 22 rfl w.heap.size 5 i0 (.int .u8 0) 1 1 Tryd.underlying22 hi hz0 hz1 hz2 rfl (by decide) _ _ _ rfl (ht4.own.alloc _) ⟨wr.heap.size, 0, none⟩ 1 1 [.int .u8 (97 + y)] rfl rfl (cell_one_new _ _ _) (by intro u hu; simp at hu; subst hu; rfl) (by unfold maxLen; omega) (by omega) (by simp; omega) ?_; intro v' w5 hown' hgrow _)
            obtain ⟨ht5, hv5⟩ := ht4.app hown' hgrow
            clear hown' hgrow ht4
            go_wp2
            go_roundw
            case rel => exact ⟨_, j + 1, hv5, by omega, by go_num, by simp; omega, ht5⟩
            case measure => simp [intOf]; omega
          · obtain rfl : j = k := by omega
            go_wp2
            go_roundw
            case rel => exact ⟨_, _, hv4, by omega, ht4⟩
            case measure => exact tmeas_less hv hv4 HCU.out (curOf_is ht4.dr.st) (by omega) HAA.out
      · subst hx
        by_cases h0 : xs.length = 0
        · have AA := HA1.out (.inr rfl)
          have z2 : ¬ (0 : Int) < (xs.length : Int) := by omega
          clear HA1 HA3
          have HAA := Lib.hid AA; have H0 := Lib.hid h0; clear AA h0
          go_wp2
          go_roundw
          case rel => exact ⟨_, _, hv, by omega, ht1⟩
          case measure => exact tmeas_less hv hv HCU.out (curOf_is ht1.dr.st) (Nat.le_refl _) HAA.out
        · have z2 : (0 : Int) < (xs.length : Int) := by omega
          have AA := HA3.out xs.length 20 (by omega) (by omega) (.inr rfl)
          have hbd2 := belowF_bd zs len c1 xs.length
          have HB := Lib.hid (below_any n₀ g len cap a zs c1 xs.length w1 ht1.dr.st (by omega))
          generalize belowF zs len c1 xs.length = b at *
          obtain ⟨f, c2⟩ := b
          dsimp only at *
          have hbd3 := belowF_bd zs len c2 20
          have HB2 := Lib.hid (fun w1 h => below_any n₀ g len cap a zs c2 20 w1 h (by omega))
          generalize belowF zs len c2 20 = b at *
          obtain ⟨k, c3⟩ := b
          dsimp only at *
          clear HA1 HA3
          obtain ⟨f, rfl⟩ : ∃ m : Nat, f = m := ⟨f.toNat, by omega⟩
          obtain ⟨k, rfl⟩ : ∃ m : Nat, k = m := ⟨k.toNat, by omega⟩
          have hf : f < xs.length := by omega
          have hk : k < 20 := by omega
          have HAA := Lib.hid AA; clear AA hbd2 hbd3
          go_wp2_with fail
          refine HB.out.mono ?_
          clear HB
          rintro e w2 ⟨rfl, hd2⟩
          have ht2 := ht1.draw hd2
          clear hd2 ht1
          go_wp2_with fail
          refine (HB2.out _ ht2.dr.st).mono ?_
          clear HB2
          rintro e w3 ⟨rfl, hd3⟩
          have ht3 := ht2.draw hd3
          clear hd3 ht2
          go_wp2
          go_loopw [5, 11] (fun v' i wr' => ∃ (ys : List Int) (j : Nat), (∃ va vc, v' = .slice va ys.length vc) ∧ j ≤ k ∧ i = .int .i64 j ∧ ys.length = xs.length + j ∧ (∀ y ∈ ys, True) ∧ TextSt n₀ g a len cap zs c3 w wr' v' ys) (fun _ i _ => k - (intOf i).toNat)
          case atStart => exact ⟨xs, 0, hv, Nat.zero_le _, rfl, rfl, by simp, ht3⟩
          case round =>
            obtain ⟨ys, j, hv4, hj, rfl, hys, hyb, ht4⟩ := hrel
            clear ht3 hlv
            have hlv4 := len_v hv4
            by_cases hjk : j < k
            · have z3 : (j : Int) < (k : Int) := by omega
              have z4 : (f : Int) + (j : Int) < (ys.length : Int) := by omega
              have ew : IntKind.i64.wrap ((f : Int) + (j : Int)) = (f : Int) + (j : Int) := IntWalk.i64_in _ (by omega)
              have hns := ht4.dr.grown.size
              obtain ⟨gg, cc, hvs⟩ : ∃ gg cc, u5 = .slice (some ⟨gg, 0, none⟩) ys.length cc := by
                rcases ownsRow_shape ht4.own with ⟨_, h⟩ | ⟨gg, cc, h, _⟩
                · omega
                · exact ⟨_, _, h⟩
              have hix := idx_v hvs (f + j) (by omega) ((f : Int) + (j : Int)) (by omega)
              have hcell : wr.cell? ⟨gg, f + j, none⟩ = some (.int .u8 (ys[f + j]'(by omega))) := by
                have := ht4.own
                rw [hvs] at this
                rw [this.cellAt (f + j) (by omega)]; simp [show f + j < ys.length by omega]
              generalize ys[f + j]'(by omega) = y at *
              have HVS := Lib.hid hvs; clear hvs
              go_wp2_with (at_builtin; refine wpList_append_own _ rfl (.tmp 75) (.tmp 82) 22 rfl w.heap.size 5 i0 (.int .u8 0) 1 1 Tryd.underlying22 hi hz0 hz1 hz2 rfl (by decide) _ _ _ rfl (ht4.own.alloc _) ⟨wr.heap.size, 0, none⟩ 1 1 [.int .u8 y] rfl rfl (cell_one_new _ _ _) (by intro u hu; simp at hu; subst hu; rfl) (by unfold maxLen; omega) (by omega) (by simp; omega) ?_; intro v' w5 hown' hgrow _)
              obtain ⟨ht5, hv5⟩ := ht4.app hown' hgrow
              clear hown' hgrow ht4
              go_wp2
              go_roundw
              case rel => exact ⟨_, j + 1, hv5, by omega, by go_num, by simp; omega, by simp, ht5⟩
              case measure => simp [intOf]; omega
            · obtain rfl : j = k := by omega
              go_wp2
              go_roundw
              case rel => exact ⟨_, _, hv4, by omega, ht4⟩
              case measure => exact tmeas_less hv hv4 HCU.out (curOf_is ht4.dr.st) (by omega) HAA.out
      · have e0 : (x == 0) = false := by simp; omega
        have e1 : (x == 1) = false := by simp; omega
        have e2 : (x == 2) = false := by simp; omega
        have hbd2 := belowF_bd zs len c1 26
        have HB := Lib.hid (below_any n₀ g len cap a zs c1 26 w1 ht1.dr.st (by omega))
        generalize belowF zs len c1 26 = b at *
        obtain ⟨y, c2⟩ := b
        dsimp only at *
        clear HA1 HA3
        go_wp2_with fail
        refine HB.out.mono ?_
        clear HB
        rintro e w2 ⟨rfl, hd2⟩
        have ht2 := ht1.draw hd2
        have eu : (97 + y) % 256 = 97 + y := by omega
        have hns := ht2.dr.grown.size
        clear hd2 ht1
        go_wp2_with (at_builtin; refine wpList_append_own _ rfl (.tmp 19) (.tmp 24) 22 rfl w.heap.size 5 i0 (.int .u8 0) 1 1 Tryd.underlying22 hi hz0 hz1 hz2 rfl (by decide) _ _ _ rfl (ht2.own.alloc _) ⟨w2.heap.size, 0, none⟩ 1 1 [.int .u8 (97 + y)] rfl rfl (cell_one_new _ _ _) (by intro u hu; simp at hu; subst hu; rfl) (by unfold maxLen; omega) (by omega) (by simp; omega) ?_; intro v' w3 hown' hgrow _)
        obtain ⟨ht3, hv3⟩ := ht2.app hown' hgrow
        clear hown' hgrow ht2
        go_wp2
        go_roundw
        case rel => exact ⟨_, _, hv3, by simp; omega, ht3⟩
        case measure => exact tmeas_more hlen hv hv3 hlt (by simp)
    · have z1 : ¬ (xs.length : Int) < (n : Int) := by omega
      have hD := ht.dr
      have hns := hD.grown.size
      rcases ownsRow_shape ht.own with ⟨rfl, h0⟩ | ⟨gg, cc, rfl, hnc, hcm, _, _, ho⟩
      · obtain rfl : n = 0 := by omega
        have H0 := Lib.hid h0
        have hcv := run_convert_bytes_nil (P := Tryd.prog) wr 22 5 Tryd.underlying22 Tryd.underlying5 0 0 9 Tryd.underlying9
        clear ht hv hlt h0
        go_wp2
        go_ret
        exact ⟨_, rfl, rfl, _, hD⟩
      · have hnl : n ≤ xs.length := by omega
        have z5 : (n : Int) ≤ (cc : Int) := by omega
        have hcv := run_convert_bytes_arg (P := Tryd.prog) wr 22 5 Tryd.underlying22 Tryd.underlying5 gg 0 n cc (xs.take n) (by simp; omega) (fun i hi => by
          rw [Nat.zero_add, ho.cellAt i (by omega)]
          simp [show i < xs.length by omega, hi]) 9 Tryd.underlying9
        have hsz : (strOfNums (xs.take n)).size = n := by rw [strOfNums_size]; simp; omega
        generalize strOfNums (xs.take n) = s at *
        clear ht hv ho hlt
        go_wp2
        go_ret
        exact ⟨_, rfl, hsz, _, hD⟩
end Go.Proofs.YtdokkhgeeinnhaaDoor
