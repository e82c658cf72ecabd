/- What the laws lean on (own lemmas and walks of the called functions). -/
import Derived.Test.YtbbjpjkclealfaaPe1
set_option linter.unusedVariables false
set_option linter.unusedSimpArgs false
namespace Go.Proofs.Ytbbjpjkclealfaa
open Go.ChangeShapes Go.WideShapes Go.ChangeAt Go.RowKit Go.BigFrame
set_option linter.unusedVariables false

set_option maxRecDepth 100000 in
set_option maxHeartbeats 1000000 in
theorem sreadingsok_any (v : Value) (rs : List R3) (w : World) (h : rdAt w v rs) (hs : rs.length ≤ 2000000) : Calls Try.prog 97 #[v] w fun e w' => e = .returned (.bool (rdsOkR rs)) ∧ Below w.heap.size w w' := by
  obtain ⟨a, cap, rfl, hcap, hcells⟩ := h
  go_enter Try.func97, Try.ntmps97
  go_wp2
  go_loopw [3] (fun i wr => ∃ k : Nat, k ≤ rs.length ∧ i = .int .i64 k ∧ (List.range k).all (rdStep rs) = true ∧ Below w.heap.size w wr) (fun i _ => rs.length - (intOf i).toNat)
  case atStart => exact ⟨0, Nat.zero_le _, rfl, rfl, Below.refl _ _⟩
  case round =>
    obtain ⟨k, hk, rfl, hall, hb⟩ := hrel
    by_cases hlt : k < rs.length
    · obtain ⟨g, off, rfl, hg, hcs⟩ := hcells.resolve_left (by omega)
      have z0 : (0 : Int) ≤ (k : Int) := by omega
      have z1 : (k : Int) < (rs.length : Int) := by omega
      have c1 := hcs k hlt
      have HK := Lib.hid (fun w => sreadingok_any (rs.getD k r0) w)
      have hst : rdStep rs k = (rdOkB (rs.getD k r0) && (decide (k = 0) || aheadB (rs.getD (k - 1) r0).1 (rs.getD k r0).1)) := rfl
      have hsu := rdsR_succ rs k
      have HST := Lib.hid hst; clear hst
      cases hko : rdOkB (rs.getD k r0) with
      | false =>
        rw [hko] at HK HST
        have hf : rdsOkR rs = false := rdStep_false hlt (by rw [HST.out]; rfl)
        have HF := Lib.hid hf
        clear hcs hcells hko hf HST hsu
        generalize rs.getD k r0 = kx at *
        have L1 := fun w' hb => rd_load c1 (w' := w') hg hb
        clear c1
        go_wp2
        refine wp_region_below w (by kernel_rfl) (by kernel_rfl) hb ?_
        repeat (first
          | go_big_quiet_skip
          | (go_big_quiet_want
             first
               | (go_big_quiet_op; go_big_quiet_on)
               | (refine q_load 43 _ _ _ rfl rfl L1 ?_; simp only [Act.put, List.setIfInBounds_toArray, List.set_cons_zero, List.set_cons_succ]; go_big_quiet_on)
               | (go_big_quiet_op; refine ⟨_, fun _ _ => rfl, ?_⟩; go_big_quiet_on)
               | (go_big_quiet_op; apply Exists.intro; refine ⟨fun w' hw' => ?_, ?_⟩
                  · first
                    | (with_reducible refine (HK.out w').mono ?_
                       rintro e w2 ⟨rfl, hb2⟩
                       exact ⟨rfl, hw'.trans (hb2.mono hw'.size)⟩)
                  go_big_quiet_on)))
        refine wpQuiet_nil ?_
        intro w2 hb2
        clear L1 HK hb
        go_wp2
        go_ret
        exact ⟨by rw [HF.out]; rfl, hb2⟩
      | true =>
        rw [hko] at HK HST
        by_cases hk0 : k = 0
        · subst hk0
          have ht : (List.range (0 + 1)).all (rdStep rs) = true := by rw [hsu, HST.out]; rfl
          have HT := Lib.hid ht
          clear hcs hcells hko ht HST hsu hall
          generalize rs.getD 0 r0 = kx at *
          have L1 := fun w' hb => rd_load c1 (w' := w') hg hb
          clear c1
          have y0 : ¬ (0 : Int) < ((0 : Nat) : Int) := by omega
          simp only [Nat.zero_mul, Nat.add_zero] at L1
          go_wp2
          refine wp_region_below w (by kernel_rfl) (by kernel_rfl) hb ?_
          repeat (first
            | go_big_quiet_skip
            | (go_big_quiet_want
               first
                 | (go_big_quiet_op; go_big_quiet_on)
                 | (refine q_load 43 _ _ _ rfl rfl L1 ?_; simp only [Act.put, List.setIfInBounds_toArray, List.set_cons_zero, List.set_cons_succ]; go_big_quiet_on)
                 | (go_big_quiet_op; refine ⟨_, fun _ _ => rfl, ?_⟩; go_big_quiet_on)
                 | (go_big_quiet_op; apply Exists.intro; refine ⟨fun w' hw' => ?_, ?_⟩
                    · first
                      | (with_reducible refine (HK.out w').mono ?_
                         rintro e w2 ⟨rfl, hb2⟩
                         exact ⟨rfl, hw'.trans (hb2.mono hw'.size)⟩)
                    go_big_quiet_on)))
          refine wpQuiet_nil ?_
          intro w2 hb2
          clear L1 HK hb
          go_wp2
          exact ⟨⟨1, by omega, by go_num, HT.out, hb2⟩, by simp [intOf]; omega⟩
        · have ha := hcs (k - 1) (by omega)
          have HA := Lib.hid (fun w => sahead_any (rs.getD (k - 1) r0).1 (rs.getD k r0).1 w)
          have d0 : decide (k = 0) = false := by simpa using hk0
          rw [d0] at HST
          have y0 : (0 : Int) < (k : Int) := by omega
          have yk : 0 < k := by omega
          have y1 : (0 : Int) ≤ (k : Int) - 1 := by omega
          have y2 : (k : Int) - 1 < (rs.length : Int) := by omega
          have ew : IntKind.i64.wrap ((k : Int) - 1) = (k : Int) - 1 := IntWalk.i64_in _ (by omega)
          have et : ((k : Int) - 1).toNat = k - 1 := by omega
          cases hah : aheadB (rs.getD (k - 1) r0).1 (rs.getD k r0).1 with
          | false =>
            rw [hah] at HA HST
            have hf : rdsOkR rs = false := rdStep_false hlt (by rw [HST.out]; rfl)
            have HF := Lib.hid hf
            clear hcs hcells hko hf HST hsu hah
            generalize rs.getD k r0 = kx at *
            generalize rs.getD (k - 1) r0 = ky at *
            have L1 := fun w' hb => rd_load c1 (w' := w') hg hb
            have L2 := fun w' hb => rdk_load c1 (w' := w') hg hb
            have L3 := fun w' hb => rdk_load ha (w' := w') hg hb
            clear c1 ha
            go_wp2
            refine wp_region_below w (by kernel_rfl) (by kernel_rfl) hb ?_
            repeat (first
              | go_big_quiet_skip
              | (go_big_quiet_want
                 first
                   | (go_big_quiet_op; go_big_quiet_on)
                   | (refine q_load 43 _ _ _ rfl rfl L1 ?_; simp only [Act.put, List.setIfInBounds_toArray, List.set_cons_zero, List.set_cons_succ]; go_big_quiet_on)
                   | (refine q_load 41 _ _ _ rfl rfl L2 ?_; simp only [Act.put, List.setIfInBounds_toArray, List.set_cons_zero, List.set_cons_succ]; go_big_quiet_on)
                   | (refine q_load 41 _ _ _ rfl rfl L3 ?_; simp only [Act.put, List.setIfInBounds_toArray, List.set_cons_zero, List.set_cons_succ]; go_big_quiet_on)
                   | (go_big_quiet_op; refine ⟨_, fun _ _ => rfl, ?_⟩; go_big_quiet_on)
                   | (go_big_quiet_op; apply Exists.intro; refine ⟨fun w' hw' => ?_, ?_⟩
                      · first
                        | (with_reducible refine (HK.out w').mono ?_
                           rintro e w2 ⟨rfl, hb2⟩
                           exact ⟨rfl, hw'.trans (hb2.mono hw'.size)⟩)
                        | (with_reducible refine (HA.out w').mono ?_
                           rintro e w2 ⟨rfl, hb2⟩
                           exact ⟨rfl, hw'.trans (hb2.mono hw'.size)⟩)
                      go_big_quiet_on)))
            refine wpQuiet_nil ?_
            intro w2 hb2
            clear L1 L2 L3 HK HA hb
            go_wp2
            go_ret
            exact ⟨by rw [HF.out]; rfl, hb2⟩
          | true =>
            rw [hah] at HA HST
            have ht : (List.range (k + 1)).all (rdStep rs) = true := by rw [hsu, hall, HST.out]; rfl
            have HT := Lib.hid ht
            clear hcs hcells hko ht HST hsu hah hall
            generalize rs.getD k r0 = kx at *
            generalize rs.getD (k - 1) r0 = ky at *
            have L1 := fun w' hb => rd_load c1 (w' := w') hg hb
            have L2 := fun w' hb => rdk_load c1 (w' := w') hg hb
            have L3 := fun w' hb => rdk_load ha (w' := w') hg hb
            clear c1 ha
            go_wp2
            refine wp_region_below w (by kernel_rfl) (by kernel_rfl) hb ?_
            repeat (first
              | go_big_quiet_skip
              | (go_big_quiet_want
                 first
                   | (go_big_quiet_op; go_big_quiet_on)
                   | (refine q_load 43 _ _ _ rfl rfl L1 ?_; simp only [Act.put, List.setIfInBounds_toArray, List.set_cons_zero, List.set_cons_succ]; go_big_quiet_on)
                   | (refine q_load 41 _ _ _ rfl rfl L2 ?_; simp only [Act.put, List.setIfInBounds_toArray, List.set_cons_zero, List.set_cons_succ]; go_big_quiet_on)
                   | (refine q_load 41 _ _ _ rfl rfl L3 ?_; simp only [Act.put, List.setIfInBounds_toArray, List.set_cons_zero, List.set_cons_succ]; go_big_quiet_on)
                   | (go_big_quiet_op; refine ⟨_, fun _ _ => rfl, ?_⟩; go_big_quiet_on)
                   | (go_big_quiet_op; apply Exists.intro; refine ⟨fun w' hw' => ?_, ?_⟩
                      · first
                        | (with_reducible refine (HK.out w').mono ?_
                           rintro e w2 ⟨rfl, hb2⟩
                           exact ⟨rfl, hw'.trans (hb2.mono hw'.size)⟩)
                        | (with_reducible refine (HA.out w').mono ?_
                           rintro e w2 ⟨rfl, hb2⟩
                           exact ⟨rfl, hw'.trans (hb2.mono hw'.size)⟩)
                      go_big_quiet_on)))
            refine wpQuiet_nil ?_
            intro w2 hb2
            clear L1 L2 L3 HK HA hb
            go_wp2
            exact ⟨⟨k + 1, by omega, by go_num, HT.out, hb2⟩, by simp [intOf]; omega⟩
    · obtain rfl : k = rs.length := by omega
      have HF := Lib.hid hall
      go_wp2
      go_ret
      exact ⟨by unfold rdsOkR; rw [HF.out]; rfl, hb⟩
end Go.Proofs.Ytbbjpjkclealfaa
namespace Go.Proofs.Ytbbjpjkclealfaa
open Go.ChangeShapes Go.WideShapes Go.ChangeAt Go.RowKit Go.BigFrame
set_option linter.unusedVariables false

set_option maxRecDepth 100000 in
set_option maxHeartbeats 2000000 in
theorem sloadof_any (v : Value) (rs : List R3) (x : K2) (w : World) (h : rdAt w v rs) (hs : rs.length ≤ 2000000) : Calls Try.prog 99 #[v, kv x] w fun e w' => e = .returned (loadV (loadO rs x)) ∧ Below w.heap.size w w' := by
  obtain ⟨a, cap, rfl, hcap, hcells⟩ := h
  obtain ⟨n, s⟩ := x
  unfold kv
  dsimp only
  have hW : ∀ w' : World, Below (w.heap.size + 1) (w.alloc (.cells #[.int .i64 n, .int .i64 s] 41)) w' → (loadVar 41 ⟨w.heap.size, 0, none⟩).run Try.prog w' = .ok (kv (n, s)) w' := fun w' hb' =>
    key_load (k := (n, s)) (w := w.alloc (.cells #[.int .i64 n, .int .i64 s] 41)) (g := w.heap.size) (o := 0) ⟨by simp, by simp⟩ (by simp) (by simpa using hb')
  have hB0 : Below w.heap.size w (w.alloc (.cells #[.int .i64 n, .int .i64 s] 41)) := (Below.refl _ _).alloc (Nat.le_refl _) _
  have hsz0 : (w.alloc (.cells #[.int .i64 n, .int .i64 s] 41)).heap.size = w.heap.size + 1 := by simp
  have HW := Lib.hid hW; have HB0 := Lib.hid hB0; have HSZ := Lib.hid hsz0; clear hW hB0 hsz0
  go_enter Try.func99, Try.ntmps99
  go_wp2
  generalize w.alloc (.cells #[.int .i64 n, .int .i64 s] 41) = W at *
  go_loopw [6] (fun i wr => ∃ k : Nat, k ≤ rs.length ∧ i = .int .i64 k ∧ (∀ j, j < k → ((rs.getD j r0).1 == (n, s)) = false) ∧ Below W.heap.size W wr) (fun i _ => rs.length - (intOf i).toNat)
  case atStart => exact ⟨0, Nat.zero_le _, rfl, fun j hj => by omega, Below.refl _ _⟩
  case round =>
    obtain ⟨k, hk, rfl, hall, hb⟩ := hrel
    by_cases hlt : k < rs.length
    · obtain ⟨g, off, rfl, hg, hcs⟩ := hcells.resolve_left (by omega)
      have z0 : (0 : Int) ≤ (k : Int) := by omega
      have z1 : (k : Int) < (rs.length : Int) := by omega
      have c1 := hcs k hlt
      have hgW : g < W.heap.size := by rw [HSZ.out]; omega
      have L1 : ∀ w', Below W.heap.size W w' → (loadVar 41 ⟨g, off + k * 3, none⟩).run Try.prog w' = .ok (kv (rs.getD k r0).1) w' := fun w' hb' =>
        rdk_load c1 (w' := w') hg (HB0.out.trans (hb'.mono (by rw [HSZ.out]; omega)))
      have L2 : ∀ w', Below W.heap.size W w' → (loadVar 41 ⟨w.heap.size, 0, none⟩).run Try.prog w' = .ok (kv (n, s)) w' := fun w' hb' => HW.out w' (by rw [← HSZ.out]; exact hb')
      have C3 := Lib.hid (fun (w' : World) (hb' : Below W.heap.size W w') => rdl_load c1 (w' := w') hg (HB0.out.trans (hb'.mono (by rw [HSZ.out]; omega))))
      clear hcells hcs c1
      generalize hkx : rs.getD k r0 = kx at *
      obtain ⟨⟨p, q⟩, y⟩ := kx
      dsimp only at L1 C3
      cases he : ((p, q) == (n, s)) with
      | true =>
        have hh : loadO rs (n, s) = some y := by
          have := loadO_hit (n, s) rs k hlt hall (by rw [hkx]; exact he)
          rw [this, hkx]
        have HH := Lib.hid hh
        clear hall hkx hh
        go_wp2
        refine wp_region_below W (by kernel_rfl) (by kernel_rfl) hb ?_
        repeat (first
          | go_big_quiet_skip
          | (go_big_quiet_want
             first
               | (go_big_quiet_op; go_big_quiet_on)
               | (refine q_load 41 _ _ _ rfl rfl L1 ?_; simp only [Act.put, List.setIfInBounds_toArray, List.set_cons_zero, List.set_cons_succ]; go_big_quiet_on)
               | (refine q_load 41 _ _ _ rfl rfl L2 ?_; simp only [Act.put, List.setIfInBounds_toArray, List.set_cons_zero, List.set_cons_succ]; go_big_quiet_on)
               | (refine q_bin _ 41 _ _ _ _ _ _ rfl rfl rfl (fun w => key_guard _ _ _ _ _ w) (fun w => key_eql _ _ w) ?_; simp only [Act.put, List.setIfInBounds_toArray, List.set_cons_zero, List.set_cons_succ]; go_big_quiet_on)
               | (go_big_quiet_op; refine ⟨_, fun _ _ => rfl, ?_⟩; go_big_quiet_on)
               | (go_big_quiet_op; go_big_quiet_on)))
        refine wpQuiet_nil ?_
        intro w2 hb2
        rw [he]
        have c3 := C3.out w2 hb2
        clear L1 L2 hb C3
        go_wp2
        go_ret2
        exact ⟨by rw [HH.out]; rfl, HB0.out.trans (hb2.mono (by rw [HSZ.out]; omega))⟩
      | false =>
        have hn : ∀ j, j < k + 1 → ((rs.getD j r0).1 == (n, s)) = false := by
          intro j hj
          rcases (by omega : j < k ∨ j = k) with h1 | rfl
          · exact hall j h1
          · rw [hkx, he]
        have HN := Lib.hid hn
        clear hall hkx hn
        go_wp2
        refine wp_region_below W (by kernel_rfl) (by kernel_rfl) hb ?_
        repeat (first
          | go_big_quiet_skip
          | (go_big_quiet_want
             first
               | (go_big_quiet_op; go_big_quiet_on)
               | (refine q_load 41 _ _ _ rfl rfl L1 ?_; simp only [Act.put, List.setIfInBounds_toArray, List.set_cons_zero, List.set_cons_succ]; go_big_quiet_on)
               | (refine q_load 41 _ _ _ rfl rfl L2 ?_; simp only [Act.put, List.setIfInBounds_toArray, List.set_cons_zero, List.set_cons_succ]; go_big_quiet_on)
               | (refine q_bin _ 41 _ _ _ _ _ _ rfl rfl rfl (fun w => key_guard _ _ _ _ _ w) (fun w => key_eql _ _ w) ?_; simp only [Act.put, List.setIfInBounds_toArray, List.set_cons_zero, List.set_cons_succ]; go_big_quiet_on)
               | (go_big_quiet_op; refine ⟨_, fun _ _ => rfl, ?_⟩; go_big_quiet_on)
               | (go_big_quiet_op; go_big_quiet_on)))
        refine wpQuiet_nil ?_
        intro w2 hb2
        rw [he]
        clear L1 L2 hb C3
        go_wp2
        exact ⟨⟨k + 1, by omega, by go_num, HN.out, hb2⟩, by simp [intOf]; omega⟩
    · obtain rfl : k = rs.length := by omega
      have hh : loadO rs (n, s) = none := loadO_miss (n, s) rs hall
      have HH := Lib.hid hh
      clear hall hh
      go_wp2
      go_ret2
      exact ⟨by rw [HH.out]; rfl, HB0.out.trans (hb.mono (by rw [HSZ.out]; omega))⟩
end Go.Proofs.Ytbbjpjkclealfaa
namespace Go.Proofs.Ytbbjpjkclealfaa
open Go.ChangeShapes Go.WideShapes Go.ChangeAt Go.RowKit Go.BigFrame
set_option linter.unusedVariables false

def aheadN : List R3 → K2 → Nat
  | [], _ => 0
  | x :: l, k => if aheadB x.1 k then aheadN l k + 1 else 0
def learnV (rs : List R3) (r : R3) : List R3 × Int :=
  if rdsOkR rs = true ∧ rdOkB r = true then
    match loadO rs r.1 with
    | some l => if l = r.2 then (rs, 1) else (rs, 2)
    | none => (rs.take (aheadN rs r.1) ++ r :: rs.drop (aheadN rs r.1), 0)
  else (rs, 3)
/-- what is kept on the way: the reading in its box, the copy, the list -/
structure LKeep (w0 w : World) (b : Nat) (r : R3) (v : Value) (rs : List R3) (u : Value) : Prop where
  box : w.cell? ⟨b, 0, none⟩ = some (.int .i64 r.1.1) ∧ w.cell? ⟨b, 1, none⟩ = some (.int .i64 r.1.2) ∧ w.cell? ⟨b, 2, none⟩ = some (.string r.2)
  lt : b < w.heap.size
  own : w.ownsRow w0.heap.size 43 3 u rs.length (rdCells rs)
  below : Below w0.heap.size w0 w
  list : rdAt w v rs
theorem LKeep.next {w0 w w' : World} {b : Nat} {r : R3} {v : Value} {rs : List R3} {u : Value} (h : LKeep w0 w b r v rs u) (hb : Below w.heap.size w w') : LKeep w0 w' b r v rs u := by
  refine ⟨?_, Nat.lt_of_lt_of_le h.lt hb.size, own_below h.own hb, h.below.trans (hb.mono h.below.size), rdAt_below h.list hb⟩
  rw [hb.cell (p := ⟨b, 0, none⟩) h.lt, hb.cell (p := ⟨b, 1, none⟩) h.lt, hb.cell (p := ⟨b, 2, none⟩) h.lt]
  exact h.box
theorem LKeep.load {w0 w : World} {b : Nat} {r : R3} {v : Value} {rs : List R3} {u : Value} (h : LKeep w0 w b r v rs u) : (loadVar 43 ⟨b, 0, none⟩).run Try.prog w = .ok (rv r) w := rd_load (o := 0) h.box h.lt (Below.refl _ _)
theorem LKeep.loadk {w0 w : World} {b : Nat} {r : R3} {v : Value} {rs : List R3} {u : Value} (h : LKeep w0 w b r v rs u) : (loadVar 41 ⟨b, 0, none⟩).run Try.prog w = .ok (kv r.1) w := rdk_load (o := 0) h.box h.lt (Below.refl _ _)
set_option maxRecDepth 100000 in
set_option maxHeartbeats 2000000 in
theorem slearn_bad (v : Value) (rs : List R3) (r : R3) (w : World) (h : rdAt w v rs) (hs : rs.length ≤ 1900000) (hbad : ¬ (rdsOkR rs = true ∧ rdOkB r = true)) : Calls Try.prog 59 #[v, rv r] w fun e w' => ∃ v', e = .returned (.tuple #[v', .int .i64 3]) ∧
    w'.ownsRow w.heap.size 43 3 v' rs.length (rdCells rs) ∧ Below w.heap.size w w' := by
  have hr : rv r = .agg #[.int .i64 r.1.1, .int .i64 r.1.2, .string r.2] := rfl
  have hown0 := World.ownsRow_made (base := w.heap.size) (e := 43) (size := 3) (w.alloc (.cells #[.int .i64 r.1.1, .int .i64 r.1.2, .string r.2] 43)) #[] 0 (by simp) (by unfold maxLen; omega) rfl
  have hb0 : Below w.heap.size w ((w.alloc (.cells #[.int .i64 r.1.1, .int .i64 r.1.2, .string r.2] 43)).alloc (.cells #[] 43)) := ((Below.refl _ _).alloc (Nat.le_refl _) _).alloc (by simp) _
  have hl0 := rdAt_below h hb0
  rw [show (w.alloc (.cells #[.int .i64 r.1.1, .int .i64 r.1.2, .string r.2] 43)).heap.size = w.heap.size + 1 by simp] at hown0
  have hbx : ((w.alloc (.cells #[.int .i64 r.1.1, .int .i64 r.1.2, .string r.2] 43)).alloc (.cells #[] 43)).heap[w.heap.size]? = some (.cells #[.int .i64 r.1.1, .int .i64 r.1.2, .string r.2] 43) := heap_first _ _ _
  go_enter Try.func59, Try.ntmps59
  rw [hr]
  go_wp2_with (at_builtin; refine wpList_append_rd rfl (.tmp 11) (.tmp 12) rfl hown0 _ rs hl0 rfl rfl (by omega) (by simp; omega) ?_; intro u w1 hown1 hgrow1)
  have hb1 : Below w.heap.size w w1 := hb0.grown hgrow1 (by simp; omega) (fun k e => (hown0.lt k e).1)
  have hx1 : w1.heap[w.heap.size]? = some (.cells #[.int .i64 r.1.1, .int .i64 r.1.2, .string r.2] 43) := by
    rw [hgrow1.block w.heap.size (by simp; omega) (fun e => by simp [Value.ownBlock] at e)]; exact hbx
  have K1 : LKeep w w1 w.heap.size r v rs u := ⟨⟨by rw [cell_of_row _ _ 0 _ _ _ hx1]; rfl, by rw [cell_of_row _ _ 1 _ _ _ hx1]; rfl, by rw [cell_of_row _ _ 2 _ _ _ hx1]; rfl⟩, (Array.getElem?_eq_some_iff.1 hx1).1, by simpa using hown1, hb1, rdAt_below h hb1⟩
  clear hb1 hx1 hown1 hgrow1 hown0 hb0 hl0 hbx
  have HR := Lib.hid (fun w => sreadingok_any r w)
  have HRS := Lib.hid (sreadingsok_any v rs w1 K1.list (by omega))
  cases hk : rdsOkR rs with
  | false =>
    rw [hk] at HRS
    go_wp2_with fail
    refine HRS.out.mono ?_
    rintro e w2 ⟨rfl, hb2⟩
    have K2 := Lib.hid (K1.next hb2)
    clear K1 hb2 HRS
    go_wp2
    go_ret2
    exact ⟨u, rfl, K2.out.own, K2.out.below⟩
  | true =>
    have hk2 : rdOkB r = false := by
      cases hq : rdOkB r with
      | false => rfl
      | true => exact absurd ⟨hk, hq⟩ hbad
    rw [hk] at HRS
    rw [hk2] at HR
    go_wp2_with fail
    refine HRS.out.mono ?_
    rintro e w2 ⟨rfl, hb2⟩
    have K2 := K1.next hb2
    obtain ⟨q0, q1, q2⟩ := K2.box
    rw [hr] at HR
    have K2 := Lib.hid K2
    clear K1 hb2 HRS
    go_wp2_with fail
    refine (HR.out _).mono ?_
    rintro e w3 ⟨rfl, hb3⟩
    have K3 := Lib.hid (K2.out.next hb3)
    clear K2 hb3 HR q0 q1 q2
    go_wp2
    go_ret2
    exact ⟨u, rfl, K3.out.own, K3.out.below⟩
set_option maxRecDepth 100000 in
set_option maxHeartbeats 2000000 in
theorem slearn_got (v : Value) (rs : List R3) (r : R3) (w : World) (h : rdAt w v rs) (hs : rs.length ≤ 1900000) (hk : rdsOkR rs = true) (hk2 : rdOkB r = true) (l : ByteArray) (hl : loadO rs r.1 = some l) : Calls Try.prog 59 #[v, rv r] w fun e w' => ∃ v', e = .returned (.tuple #[v', .int .i64 (if l = r.2 then 1 else 2)]) ∧
    w'.ownsRow w.heap.size 43 3 v' rs.length (rdCells rs) ∧ Below w.heap.size w w' := by
  have hr : rv r = .agg #[.int .i64 r.1.1, .int .i64 r.1.2, .string r.2] := rfl
  have hown0 := World.ownsRow_made (base := w.heap.size) (e := 43) (size := 3) (w.alloc (.cells #[.int .i64 r.1.1, .int .i64 r.1.2, .string r.2] 43)) #[] 0 (by simp) (by unfold maxLen; omega) rfl
  have hb0 : Below w.heap.size w ((w.alloc (.cells #[.int .i64 r.1.1, .int .i64 r.1.2, .string r.2] 43)).alloc (.cells #[] 43)) := ((Below.refl _ _).alloc (Nat.le_refl _) _).alloc (by simp) _
  have hl0 := rdAt_below h hb0
  rw [show (w.alloc (.cells #[.int .i64 r.1.1, .int .i64 r.1.2, .string r.2] 43)).heap.size = w.heap.size + 1 by simp] at hown0
  have hbx : ((w.alloc (.cells #[.int .i64 r.1.1, .int .i64 r.1.2, .string r.2] 43)).alloc (.cells #[] 43)).heap[w.heap.size]? = some (.cells #[.int .i64 r.1.1, .int .i64 r.1.2, .string r.2] 43) := heap_first _ _ _
  go_enter Try.func59, Try.ntmps59
  rw [hr]
  go_wp2_with (at_builtin; refine wpList_append_rd rfl (.tmp 11) (.tmp 12) rfl hown0 _ rs hl0 rfl rfl (by omega) (by simp; omega) ?_; intro u w1 hown1 hgrow1)
  have hb1 : Below w.heap.size w w1 := hb0.grown hgrow1 (by simp; omega) (fun k e => (hown0.lt k e).1)
  have hx1 : w1.heap[w.heap.size]? = some (.cells #[.int .i64 r.1.1, .int .i64 r.1.2, .string r.2] 43) := by
    rw [hgrow1.block w.heap.size (by simp; omega) (fun e => by simp [Value.ownBlock] at e)]; exact hbx
  have K1 : LKeep w w1 w.heap.size r v rs u := ⟨⟨by rw [cell_of_row _ _ 0 _ _ _ hx1]; rfl, by rw [cell_of_row _ _ 1 _ _ _ hx1]; rfl, by rw [cell_of_row _ _ 2 _ _ _ hx1]; rfl⟩, (Array.getElem?_eq_some_iff.1 hx1).1, by simpa using hown1, hb1, rdAt_below h hb1⟩
  clear hb1 hx1 hown1 hgrow1 hown0 hb0 hl0 hbx
  have HR := Lib.hid (fun w => sreadingok_any r w)
  have HRS := Lib.hid (sreadingsok_any v rs w1 K1.list (by omega))
  have HL := Lib.hid (fun w' (hw : rdAt w' v rs) => sloadof_any v rs r.1 w' hw (by omega))
  rw [hk] at HRS
  rw [hk2] at HR
  rw [hl] at HL
  go_wp2_with fail
  refine HRS.out.mono ?_
  rintro e w2 ⟨rfl, hb2⟩
  have K2 := K1.next hb2
  obtain ⟨q0, q1, q2⟩ := K2.box
  rw [hr] at HR
  have K2 := Lib.hid K2
  clear K1 hb2 HRS
  go_wp2_with fail
  refine (HR.out _).mono ?_
  rintro e w3 ⟨rfl, hb3⟩
  have K3 := K2.out.next hb3
  clear K2 hb3 HR q0 q1 q2
  obtain ⟨q0, q1, q2⟩ := K3.box
  have HL3 := Lib.hid (HL.out w3 K3.list)
  have K3 := Lib.hid K3
  clear HL
  go_wp2_with fail
  refine HL3.out.mono ?_
  rintro e w4 ⟨rfl, hb4⟩
  have K4 := K3.out.next hb4
  clear K3 hb4 HL3 q0 q1 q2
  obtain ⟨q0, q1, q2⟩ := K4.box
  have K4 := Lib.hid K4
  have hlv : loadV (some l) = .tuple #[.string l, .bool true] := rfl
  rw [hlv]
  by_cases he : l = r.2
  · have e1 : (l.toList == r.2.toList) = true := by rw [he]; exact beq_self_eq_true _
    have E := Lib.hid he
    clear he hl
    go_wp2
    go_ret2
    exact ⟨u, by first | rfl | (rw [if_pos E.out]; rfl) | (rw [if_pos rfl]; rfl) | simp [E.out] | simp, K4.out.own, K4.out.below⟩
  · have e1 : (l.toList == r.2.toList) = false := beq_eq_false_iff_ne.2 (fun h => he ((bytes_toList_iff _ _).1 h))
    have E := Lib.hid he
    clear he hl
    go_wp2
    go_ret2
    exact ⟨u, by first | rfl | (rw [if_neg E.out]; rfl) | simp [E.out] | simp, K4.out.own, K4.out.below⟩
end Go.Proofs.Ytbbjpjkclealfaa
namespace Go.Proofs.Ytbbjpjkclealfaa
open Go.ChangeShapes Go.WideShapes Go.ChangeAt Go.RowKit Go.BigFrame
set_option linter.unusedVariables false

theorem rds_iff (rs : List R3) : rdsOkR rs = true ↔ (∀ r ∈ rs, rdOkB r = true) ∧ rs.Pairwise (fun a b => aheadB a.1 b.1 = true) := by
  have key : rdsOkR rs = true ↔ ∀ i, i < rs.length → rdOkB (rs.getD i r0) = true ∧ (i = 0 ∨ aheadB (rs.getD (i - 1) r0).1 (rs.getD i r0).1 = true) := by
    unfold rdsOkR
    rw [List.all_eq_true]
    constructor
    · intro h i hi
      have := h i (List.mem_range.2 hi)
      simpa [rdStep] using this
    · intro h i hi
      have := h i (List.mem_range.1 hi)
      simpa [rdStep] using this
  rw [key]
  constructor
  · intro h
    refine ⟨fun r hr => ?_, List.pairwise_iff_getElem.2 ?_⟩
    · obtain ⟨i, hi, rfl⟩ := List.mem_iff_getElem.1 hr
      have := (h i hi).1
      simpa [List.getD, List.getElem?_eq_getElem hi] using this
    · intro i j hi hj hij
      have H : ∀ d, i + 1 + d < rs.length → aheadB (rs.getD i r0).1 (rs.getD (i + 1 + d) r0).1 = true := by
        intro d
        induction d with
        | zero => intro hd; exact (h (i + 1) hd).2.resolve_left (by omega)
        | succ d ih => intro hd; exact ahead_trans (ih (by omega)) ((h (i + 1 + d + 1) hd).2.resolve_left (by omega))
      have := H (j - (i + 1)) (by omega)
      rw [show i + 1 + (j - (i + 1)) = j by omega] at this
      simpa [List.getD, List.getElem?_eq_getElem hi, List.getElem?_eq_getElem hj] using this
  · rintro ⟨h1, h2⟩ i hi
    refine ⟨by rw [List.getD, List.getElem?_eq_getElem hi]; exact h1 _ (List.getElem_mem hi), ?_⟩
    rcases Nat.eq_zero_or_pos i with h0 | h0
    · exact .inl h0
    · refine .inr ?_
      have := List.pairwise_iff_getElem.1 h2 (i - 1) i (by omega) hi (by omega)
      simpa [List.getD, List.getElem?_eq_getElem hi, List.getElem?_eq_getElem (show i - 1 < rs.length by omega)] using this
theorem loadO_none_mem {rs : List R3} {x : K2} (h : loadO rs x = none) : ∀ r ∈ rs, r.1 ≠ x := by
  induction rs with
  | nil => simp
  | cons r l ih =>
    unfold loadO at h
    by_cases he : r.1 = x
    · rw [if_pos (by simpa using he)] at h; cases h
    · rw [if_neg (by simpa using he)] at h
      intro q hq
      rcases List.mem_cons.1 hq with rfl | hq
      · exact he
      · exact ih h q hq
theorem aheadN_take (x : K2) : ∀ (rs : List R3), ∀ r ∈ rs.take (aheadN rs x), aheadB r.1 x = true
  | [], r, h => by simp at h
  | q :: l, r, h => by
    unfold aheadN at h
    split at h
    · rename_i hq
      rw [List.take_succ_cons] at h
      rcases List.mem_cons.1 h with rfl | h
      · exact hq
      · exact aheadN_take x l r h
    · simp at h
theorem aheadN_drop (x : K2) : ∀ (rs : List R3), rs.Pairwise (fun a b => aheadB a.1 b.1 = true) → ∀ r ∈ rs.drop (aheadN rs x), aheadB r.1 x = false
  | [], _, r, h => by simp at h
  | q :: l, hp, r, h => by
    rw [List.pairwise_cons] at hp
    unfold aheadN at h
    split at h
    · rw [List.drop_succ_cons] at h
      exact aheadN_drop x l hp.2 r h
    · rename_i hq
      rw [List.drop_zero] at h
      rcases List.mem_cons.1 h with rfl | h
      · simpa using hq
      · cases hx : aheadB r.1 x with
        | false => rfl
        | true => exact absurd (ahead_trans (hp.1 r h) hx) hq
theorem learned_pair {rs : List R3} {r : R3} (h1 : rdsOkR rs = true) (h2 : rdOkB r = true) (hl : loadO rs r.1 = none) :
    rdsOkR (rs.take (aheadN rs r.1) ++ r :: rs.drop (aheadN rs r.1)) = true := by
  obtain ⟨ha, hp⟩ := (rds_iff rs).1 h1
  have hne := loadO_none_mem hl
  refine (rds_iff _).2 ⟨?_, ?_⟩
  · intro q hq
    rcases List.mem_append.1 hq with hq | hq
    · exact ha q (List.mem_of_mem_take hq)
    · rcases List.mem_cons.1 hq with rfl | hq
      · exact h2
      · exact ha q (List.mem_of_mem_drop hq)
  · have ht := aheadN_take r.1 rs
    have hd : ∀ q ∈ rs.drop (aheadN rs r.1), aheadB r.1 q.1 = true := by
      intro q hq
      cases hc : aheadB r.1 q.1 with
      | true => rfl
      | false => exact absurd (ahead_total (aheadN_drop r.1 rs hp q hq) hc) (hne q (List.mem_of_mem_drop hq))
    rw [List.pairwise_append]
    refine ⟨hp.sublist (List.take_sublist _ _), List.pairwise_cons.2 ⟨hd, hp.sublist (List.drop_sublist _ _)⟩, ?_⟩
    intro a hat b hb
    rcases List.mem_cons.1 hb with rfl | hb
    · exact ht a hat
    · exact ahead_trans (ht a hat) (hd b hb)
end Go.Proofs.Ytbbjpjkclealfaa
namespace Go.Proofs.Ytbbjpjkclealfaa
set_option linter.unusedVariables false
set_option linter.unusedSimpArgs false

/-- what adds up, each with itself to nothing -/
structure Grp (V : Type) where
  add : V → V → V
  zero : V
  comm : ∀ x y, add x y = add y x
  assoc : ∀ x y z, add (add x y) z = add x (add y z)
  self : ∀ x, add x x = zero
  zl : ∀ x, add zero x = x
namespace Grp
variable {V : Type} (G : Grp V)
theorem zr (x : V) : G.add x G.zero = x := by rw [G.comm, G.zl]
theorem back (x y : V) : G.add x (G.add x y) = y := by rw [← G.assoc, G.self, G.zl]
theorem left (x y z : V) : G.add x (G.add y z) = G.add y (G.add x z) := by rw [← G.assoc, G.comm x y, G.assoc]
end Grp
inductive Span {V : Type} (G : Grp V) (S : V → Prop) : V → Prop
  | zero : Span G S G.zero
  | step {x y : V} : S x → Span G S y → Span G S (G.add x y)
namespace Span
variable {V : Type} {G : Grp V} {S T : V → Prop}
theorem of {x : V} (h : S x) : Span G S x := by have := Span.step (G := G) h .zero; rwa [G.zr] at this
theorem plus {x y : V} (hx : Span G S x) (hy : Span G S y) : Span G S (G.add x y) := by
  induction hx with
  | zero => rwa [G.zl]
  | step h _ ih => rw [G.assoc]; exact .step h ih
theorem le (h : ∀ x, S x → Span G T x) {y : V} (hy : Span G S y) : Span G T y := by
  induction hy with
  | zero => exact .zero
  | step h1 _ ih => exact (h _ h1).plus ih
theorem mono (h : ∀ x, S x → T x) {y : V} (hy : Span G S y) : Span G T y := hy.le fun x hx => .of (h x hx)
theorem cancel {x y : V} (hx : Span G S x) (h : Span G S (G.add x y)) : Span G S y := by have := hx.plus h; rwa [G.back] at this
theorem only {f : V → Bool} (h0 : f G.zero = false) (hf : ∀ x y, f (G.add x y) = (f x != f y)) (h : ∀ x, S x → f x = false) {y : V} (hy : Span G S y) : f y = false := by
  induction hy with
  | zero => exact h0
  | step h1 _ ih => rw [hf, h _ h1, ih]; rfl
theorem none_iff {y : V} : Span G (· ∈ ([] : List V)) y ↔ y = G.zero := by
  constructor
  · intro h
    cases h with
    | zero => rfl
    | step h1 _ => cases h1
  · rintro rfl; exact .zero
theorem cons_iff {b : V} {B : List V} {y : V} : Span G (· ∈ b :: B) y ↔ Span G (· ∈ B) y ∨ Span G (· ∈ B) (G.add b y) := by
  constructor
  · intro h
    induction h with
    | zero => exact .inl .zero
    | @step x z h1 _ ih =>
      rcases List.mem_cons.1 h1 with rfl | h2
      · rcases ih with ih | ih
        · exact .inr (by rwa [G.back])
        · exact .inl ih
      · rcases ih with ih | ih
        · exact .inl (.step h2 ih)
        · exact .inr (by rw [G.left]; exact .step h2 ih)
  · rintro (h | h)
    · exact h.mono fun x hx => List.mem_cons_of_mem _ hx
    · exact Span.cancel (x := b) (.of (List.mem_cons_self ..)) (h.mono fun x hx => List.mem_cons_of_mem _ hx)
end Span
/-- places: each row has a first one, has adds up -/
structure Pla (V K : Type) (G : Grp V) where
  piv : V → K
  has : V → K → Bool
  has0 : ∀ k, has G.zero k = false
  hasA : ∀ x y k, has (G.add x y) k = (has x k != has y k)
section
variable {V K : Type} {G : Grp V} (P : Pla V K G)
/-- each has its own first place, no other one has it -/
def Redu (B : List V) : Prop := (∀ b ∈ B, P.has b (P.piv b) = true) ∧ B.Pairwise fun b c => P.has b (P.piv c) = false ∧ P.has c (P.piv b) = false
theorem Redu.tail {b : V} {B : List V} (h : Redu P (b :: B)) : Redu P B := ⟨fun c hc => h.1 c (List.mem_cons_of_mem _ hc), (List.pairwise_cons.1 h.2).2⟩
/-- the row without the first places of others -/
def lessS (x b : V) : V := if P.has x (P.piv b) = true then G.add x b else x
def lessG (B : List V) (x : V) : V := B.foldl (lessS P) x
theorem lessS_has (x b : V) (k : K) : P.has (lessS P x b) k = (P.has x k != (P.has x (P.piv b) && P.has b k)) := by
  unfold lessS
  split
  · rename_i h; rw [P.hasA, h]; simp
  · rename_i h
    have h1 : P.has x (P.piv b) = false := by simpa using h
    rw [h1]; simp
theorem less_span (B : List V) : ∀ x, Span G (· ∈ B) (G.add x (lessG P B x)) := by
  induction B with
  | nil => intro x; show Span G _ (G.add x x); rw [G.self]; exact .zero
  | cons b B ih =>
    intro x
    have h := (ih (lessS P x b)).mono (T := (· ∈ b :: B)) fun y hy => List.mem_cons_of_mem _ hy
    show Span G _ (G.add x (lessG P B (lessS P x b)))
    unfold lessS at *
    split
    · rename_i hb
      rw [if_pos hb] at h
      have h2 := Span.step (G := G) (S := (· ∈ b :: B)) (List.mem_cons_self ..) h
      rw [G.assoc, G.left b x, G.back] at h2
      exact h2
    · rename_i hb
      rw [if_neg hb] at h
      exact h
theorem less_keep (B : List V) (k : K) (h : ∀ b ∈ B, P.has b k = false) : ∀ x, P.has (lessG P B x) k = P.has x k := by
  induction B with
  | nil => intro x; rfl
  | cons b B ih =>
    intro x
    show P.has (lessG P B (lessS P x b)) k = _
    rw [ih (fun c hc => h c (List.mem_cons_of_mem _ hc)), lessS_has, h b (List.mem_cons_self ..)]
    simp
theorem less_free {B : List V} (hB : Redu P B) : ∀ x, ∀ b ∈ B, P.has (lessG P B x) (P.piv b) = false := by
  induction B with
  | nil => intro x b hb; cases hb
  | cons b B ih =>
    intro x c hc
    show P.has (lessG P B (lessS P x b)) (P.piv c) = false
    rcases List.mem_cons.1 hc with rfl | hc
    · rw [less_keep P B _ (fun d hd => ((List.pairwise_cons.1 hB.2).1 d hd).2), lessS_has, hB.1 c (List.mem_cons_self ..)]
      simp
    · exact ih hB.tail _ c hc
theorem free_zero {B : List V} (hB : Redu P B) : ∀ y, Span G (· ∈ B) y → (∀ b ∈ B, P.has y (P.piv b) = false) → y = G.zero := by
  induction B with
  | nil => intro y hy _; exact Span.none_iff.1 hy
  | cons b B ih =>
    intro y hy hf
    rcases Span.cons_iff.1 hy with h | h
    · exact ih hB.tail y h fun c hc => hf c (List.mem_cons_of_mem _ hc)
    · exfalso
      have h1 : P.has (G.add b y) (P.piv b) = false := h.only (f := fun v => P.has v (P.piv b)) (P.has0 _) (fun u v => P.hasA u v _) fun c hc => ((List.pairwise_cons.1 hB.2).1 c hc).2
      rw [P.hasA, hB.1 b (List.mem_cons_self ..), hf b (List.mem_cons_self ..)] at h1
      cases h1
/-- what is of the span of the rows and of others without their places -/
theorem less_iff {B Z : List V} (hB : Redu P B) (hZ : ∀ z ∈ Z, ∀ b ∈ B, P.has z (P.piv b) = false) (x : V) : Span G (· ∈ B ++ Z) x ↔ Span G (· ∈ Z) (lessG P B x) := by
  have hl := less_span P B x
  have hl2 := hl.mono (T := (· ∈ B ++ Z)) fun y hy => List.mem_append_left _ hy
  have hpart : ∀ y, Span G (· ∈ B ++ Z) y → ∃ b z, Span G (· ∈ B) b ∧ Span G (· ∈ Z) z ∧ y = G.add b z := by
    intro y hy
    induction hy with
    | zero => exact ⟨_, _, .zero, .zero, (G.zl _).symm⟩
    | @step u v h1 _ ih =>
      obtain ⟨b, z, hb, hz, rfl⟩ := ih
      rcases List.mem_append.1 h1 with h | h
      · exact ⟨G.add u b, z, .step h hb, hz, (G.assoc ..).symm⟩
      · exact ⟨b, G.add u z, hb, .step h hz, G.left ..⟩
  constructor
  · intro h
    have h2 : Span G (· ∈ B ++ Z) (lessG P B x) := by
      have := h.plus hl2
      rwa [G.back] at this
    obtain ⟨b, z, hb, hz, e⟩ := hpart _ h2
    have hb0 : b = G.zero := by
      refine free_zero P hB b hb fun c hc => ?_
      have h3 := less_free P hB x c hc
      have h4 : P.has z (P.piv c) = false := hz.only (f := fun v => P.has v (P.piv c)) (P.has0 _) (fun u v => P.hasA u v _) fun d hd => hZ d hd c hc
      rw [e, P.hasA, h4] at h3
      simpa using h3
    rw [e, hb0, G.zl]
    exact hz
  · intro h
    have h2 := hl2.plus (h.mono (T := (· ∈ B ++ Z)) fun y hy => List.mem_append_right _ hy)
    rwa [G.assoc, G.self, G.zr] at h2
/-- a row more, its first place taken from the others -/
def insS (x b : V) : V := if P.has b (P.piv x) = true then G.add b x else b
def insG (B : List V) (x : V) : List V := B.map (insS P x) ++ [x]
theorem insS_has (x b : V) (k : K) : P.has (insS P x b) k = (P.has b k != (P.has b (P.piv x) && P.has x k)) := by
  unfold insS
  split
  · rename_i h; rw [P.hasA, h]; simp
  · rename_i h
    have h1 : P.has b (P.piv x) = false := by simpa using h
    rw [h1]; simp
theorem ins_redu {B : List V} {x : V} (hB : Redu P B) (hx : ∀ b ∈ B, P.has x (P.piv b) = false) (h1 : P.has x (P.piv x) = true) (hp : ∀ b ∈ B, P.piv (insS P x b) = P.piv b) : Redu P (insG P B x) := by
  refine ⟨?_, ?_⟩
  · intro c hc
    rcases List.mem_append.1 hc with h | h
    · obtain ⟨b, hb, rfl⟩ := List.mem_map.1 h
      rw [hp b hb, insS_has, hB.1 b hb, hx b hb]
      simp
    · rw [List.mem_singleton.1 h]; exact h1
  · refine List.pairwise_append.2 ⟨?_, List.pairwise_singleton .., ?_⟩
    · rw [List.pairwise_map]
      refine (List.Pairwise.and_mem.1 hB.2).imp ?_
      rintro b c ⟨hb, hc, h2, h3⟩
      rw [hp b hb, hp c hc, insS_has, insS_has, h2, h3, hx b hb, hx c hc]
      simp
    · intro c hc d hd
      obtain ⟨b, hb, rfl⟩ := List.mem_map.1 hc
      rw [List.mem_singleton.1 hd, hp b hb, insS_has, h1, hx b hb]
      simp
theorem ins_span (B : List V) (x : V) (y : V) : Span G (· ∈ insG P B x) y ↔ Span G (· ∈ x :: B) y := by
  have hx1 : Span G (· ∈ insG P B x) x := .of (List.mem_append_right _ (List.mem_singleton.2 rfl))
  have hx2 : Span G (· ∈ x :: B) x := .of (List.mem_cons_self ..)
  constructor
  · refine Span.le fun c hc => ?_
    rcases List.mem_append.1 hc with h | h
    · obtain ⟨b, hb, rfl⟩ := List.mem_map.1 h
      have h2 : Span G (· ∈ x :: B) b := .of (List.mem_cons_of_mem _ hb)
      unfold insS
      split
      · exact h2.plus hx2
      · exact h2
    · rw [List.mem_singleton.1 h]; exact hx2
  · refine Span.le fun c hc => ?_
    rcases List.mem_cons.1 hc with rfl | h
    · exact hx1
    · have h2 : Span G (· ∈ insG P B x) (insS P x c) := .of (List.mem_append_left _ (List.mem_map.2 ⟨c, h, rfl⟩))
      unfold insS at h2
      split at h2
      · rw [G.comm] at h2; exact hx1.cancel h2
      · exact h2
end
end Go.Proofs.Ytbbjpjkclealfaa
namespace Go.Proofs.Ytbbjpjkclealfaa
set_option linter.unusedVariables false
set_option linter.unusedSimpArgs false

theorem span_no {V : Type} {G : Grp V} {y : V} (h : Span G (fun _ => False) y) : y = G.zero := by
  cases h with
  | zero => rfl
  | step h _ => exact h.elim
/-- places in an order; a row without any, or its first one -/
structure Ord (V K : Type) (G : Grp V) extends Pla V K G where
  lt : K → K → Prop
  tri : ∀ a b, lt a b ∨ a = b ∨ lt b a
  trans : ∀ a b c, lt a b → lt b c → lt a c
  bare : V → Bool
  bare1 : ∀ v, bare v = true → ∀ k, has v k = false
  bare2 : ∀ v, bare v = false → has v (piv v) = true ∧ ∀ k, lt k (piv v) → has v k = false
  uniq : ∀ v q, has v q = true → (∀ k, lt k q → has v k = false) → piv v = q
section
variable {V K : Type} {G : Grp V} (O : Ord V K G)
def Low (B : List V) : Prop := ∀ b ∈ B, ∀ k, O.lt k (O.piv b) → O.has b k = false
theorem bare_of {v : V} (h : ∀ k, O.has v k = false) : O.bare v = true := by
  cases hb : O.bare v with
  | true => rfl
  | false => have := (O.bare2 v hb).1; rw [h] at this; cases this
theorem less_same {B : List V} (hB : Redu O.toPla B) (q : K) : ∀ y, (∀ b ∈ B, O.has y (O.piv b) = true → O.has b q = false) → O.has (lessG O.toPla B y) q = O.has y q := by
  induction B with
  | nil => intro y _; rfl
  | cons b B ih =>
    intro y hy
    show O.has (lessG O.toPla B (lessS O.toPla y b)) q = _
    have hs : O.has (lessS O.toPla y b) q = O.has y q := by
      rw [lessS_has]
      cases h : O.has y (O.piv b) with
      | true => rw [hy b (List.mem_cons_self ..) h]; simp
      | false => simp
    rw [ih hB.tail, hs]
    intro c hc h
    refine hy c (List.mem_cons_of_mem _ hc) ?_
    rw [lessS_has, ((List.pairwise_cons.1 hB.2).1 c hc).1] at h
    simpa using h
theorem span_bare {Z : List V} (hZ : ∀ z ∈ Z, O.bare z = true) {y : V} (hy : Span G (· ∈ Z) y) (k : K) : O.has y k = false :=
  hy.only (f := fun v => O.has v k) (O.has0 _) (fun u v => O.hasA u v _) fun z hz => O.bare1 z (hZ z hz) k
/-- the first place of what is of the span is a row's -/
theorem lead_in {B Z : List V} (hB : Redu O.toPla B) (hL : Low O B) (hZ : ∀ z ∈ Z, O.bare z = true) {y : V} {q : K} (hy : Span G (· ∈ B ++ Z) y) (hq : O.has y q = true) (hm : ∀ k, O.lt k q → O.has y k = false) : ∃ b ∈ B, O.piv b = q := by
  refine Classical.byContradiction fun hn => ?_
  have hne : ∀ b ∈ B, O.piv b ≠ q := fun b hb e => hn ⟨b, hb, e⟩
  have h1 := less_same O hB q y fun b hb h => by
    rcases O.tri (O.piv b) q with h2 | h2 | h2
    · rw [hm _ h2] at h; cases h
    · exact absurd h2 (hne b hb)
    · exact hL b hb q h2
  have h2 := (less_iff O.toPla hB (fun z hz b _ => O.bare1 z (hZ z hz) _) y).1 hy
  rw [span_bare O hZ h2 q, hq] at h1
  cases h1
theorem redu_nodup {B : List V} (hB : Redu O.toPla B) : (B.map O.piv).Nodup := by
  rw [List.Nodup, List.pairwise_map]
  refine (List.Pairwise.and_mem.1 hB.2).imp ?_
  rintro b c ⟨hb, hc, h2, h3⟩ e
  rw [← e, hB.1 b hb] at h2
  cases h2
structure Inv (B Z L : List V) : Prop where
  redu : Redu O.toPla B
  low : Low O B
  bare : ∀ z ∈ Z, O.bare z = true
  span : ∀ y, Span G (· ∈ B ++ Z) y ↔ Span G (· ∈ L) y
def baseS (s : List V × List V) (x : V) : List V × List V :=
  if O.bare (lessG O.toPla s.1 x) = true then (s.1, s.2 ++ [lessG O.toPla s.1 x]) else (insG O.toPla s.1 (lessG O.toPla s.1 x), s.2)
def baseG (L : List V) : List V × List V := L.foldl (baseS O) ([], [])
theorem ins_piv {B : List V} {x : V} (hB : Redu O.toPla B) (hL : Low O B) (hb : O.bare x = false) (hx : ∀ b ∈ B, O.has x (O.piv b) = false) : ∀ b ∈ B, O.piv (insS O.toPla x b) = O.piv b ∧ ∀ k, O.lt k (O.piv b) → O.has (insS O.toPla x b) k = false := by
  intro b hbB
  obtain ⟨h1, h2⟩ := O.bare2 x hb
  have h3 : ∀ k, O.lt k (O.piv b) → O.has (insS O.toPla x b) k = false := by
    intro k hk
    rw [insS_has, hL b hbB k hk]
    cases h4 : O.has b (O.piv x) with
    | false => rfl
    | true =>
      have h5 : O.lt (O.piv b) (O.piv x) := by
        rcases O.tri (O.piv b) (O.piv x) with h | h | h
        · exact h
        · rw [← h, hx b hbB] at h1; cases h1
        · rw [hL b hbB _ h] at h4; cases h4
      rw [h2 k (O.trans _ _ _ hk h5)]
      rfl
  refine ⟨O.uniq _ _ ?_ h3, h3⟩
  rw [insS_has, hB.1 b hbB, hx b hbB]
  simp
theorem inv_step {B Z L : List V} (h : Inv O B Z L) (x : V) : Inv O (baseS O (B, Z) x).1 (baseS O (B, Z) x).2 (L ++ [x]) := by
  have hl := less_span O.toPla B x
  have hf := less_free O.toPla h.redu x
  have hspan : ∀ (M : List V), (∀ y, Span G (· ∈ M) y ↔ Span G (· ∈ lessG O.toPla B x :: (B ++ Z)) y) → ∀ y, Span G (· ∈ M) y ↔ Span G (· ∈ L ++ [x]) y := by
    intro M hM y
    rw [hM]
    have g1 : ∀ v, Span G (· ∈ B ++ Z) v → Span G (· ∈ L ++ [x]) v := fun v hv => ((h.span v).1 hv).mono fun u hu => List.mem_append_left _ hu
    have g2 : Span G (· ∈ L ++ [x]) x := .of (List.mem_append_right _ (List.mem_singleton.2 rfl))
    have g3 : ∀ v, Span G (· ∈ B ++ Z) v → Span G (· ∈ lessG O.toPla B x :: (B ++ Z)) v := fun v hv => hv.mono fun u hu => List.mem_cons_of_mem _ hu
    have hl2 := hl.mono (T := (· ∈ B ++ Z)) fun u hu => List.mem_append_left _ hu
    constructor
    · refine Span.le fun v hv => ?_
      rcases List.mem_cons.1 hv with rfl | hv
      · exact Span.cancel g2 (g1 _ hl2)
      · exact g1 v (.of hv)
    · refine Span.le fun v hv => ?_
      rcases List.mem_append.1 hv with hv | hv
      · exact g3 v ((h.span v).2 (.of hv))
      · rw [List.mem_singleton.1 hv]
        have e := g3 _ hl2
        rw [G.comm] at e
        exact Span.cancel (.of (List.mem_cons_self ..)) e
  unfold baseS
  dsimp only
  cases hb : O.bare (lessG O.toPla B x) with
  | true =>
    rw [if_pos rfl]
    refine ⟨h.redu, h.low, fun z hz => ?_, hspan _ fun y => ?_⟩
    · rcases List.mem_append.1 hz with hz | hz
      · exact h.bare z hz
      · rw [List.mem_singleton.1 hz]; exact hb
    · constructor
      · refine Span.mono fun v hv => ?_
        simp only [List.mem_append, List.mem_cons, List.mem_singleton, List.not_mem_nil, or_false] at hv ⊢
        rcases hv with hv | hv | hv
        · exact .inr (.inl hv)
        · exact .inr (.inr hv)
        · exact .inl hv
      · refine Span.mono fun v hv => ?_
        simp only [List.mem_append, List.mem_cons, List.mem_singleton, List.not_mem_nil, or_false] at hv ⊢
        rcases hv with hv | hv | hv
        · exact .inr (.inr hv)
        · exact .inl hv
        · exact .inr (.inl hv)
  | false =>
    rw [if_neg (by simp)]
    have hp := ins_piv O h.redu h.low hb hf
    refine ⟨ins_redu O.toPla h.redu hf (O.bare2 _ hb).1 fun b hbB => (hp b hbB).1, ?_, h.bare, hspan _ fun y => ?_⟩
    · intro c hc k hk
      rcases List.mem_append.1 hc with hc | hc
      · obtain ⟨b, hbB, rfl⟩ := List.mem_map.1 hc
        rw [(hp b hbB).1] at hk
        exact (hp b hbB).2 k hk
      · rw [List.mem_singleton.1 hc] at hk ⊢
        exact (O.bare2 _ hb).2 k hk
    · have hi := ins_span O.toPla B (lessG O.toPla B x)
      constructor
      · refine Span.le fun v hv => ?_
        rcases List.mem_append.1 hv with hv | hv
        · exact ((hi v).1 (.of hv)).mono fun u hu => by
            rcases List.mem_cons.1 hu with rfl | hu
            · exact List.mem_cons_self ..
            · exact List.mem_cons_of_mem _ (List.mem_append_left _ hu)
        · exact .of (List.mem_cons_of_mem _ (List.mem_append_right _ hv))
      · refine Span.le fun v hv => ?_
        rcases List.mem_cons.1 hv with rfl | hv
        · exact ((hi _).2 (.of (List.mem_cons_self ..))).mono fun u hu => List.mem_append_left _ hu
        · rcases List.mem_append.1 hv with hv | hv
          · exact ((hi _).2 (.of (List.mem_cons_of_mem _ hv))).mono fun u hu => List.mem_append_left _ hu
          · exact .of (List.mem_append_right _ hv)
theorem base_snoc (L : List V) (x : V) : baseG O (L ++ [x]) = baseS O (baseG O L) x := by simp [baseG, List.foldl_append]
theorem base_inv (L : List V) : Inv O (baseG O L).1 (baseG O L).2 L := by
  suffices H : ∀ n (L : List V), L.length = n → Inv O (baseG O L).1 (baseG O L).2 L from H _ L rfl
  intro n
  induction n with
  | zero =>
    intro L hL
    obtain rfl : L = [] := List.length_eq_zero_iff.1 hL
    exact ⟨⟨fun b hb => (by cases hb), List.Pairwise.nil⟩, fun b hb => (by cases hb), fun z hz => (by cases hz), fun y => Iff.rfl⟩
  | succ n ih =>
    intro L hL
    have hne : L ≠ [] := by intro e; rw [e] at hL; cases hL
    rw [← List.dropLast_concat_getLast hne]
    have hi := ih L.dropLast (by simp [hL])
    rw [base_snoc]
    exact inv_step O hi _
theorem rank_more (L : List V) (x : V) : (baseG O (L ++ [x])).1.length = (baseG O L).1.length ∨ (baseG O (L ++ [x])).1.length = (baseG O L).1.length + 1 := by
  rw [base_snoc]
  unfold baseS
  split
  · exact .inl rfl
  · exact .inr (by simp [insG])
theorem rank_le (L : List V) : (baseG O L).1.length ≤ L.length := by
  suffices H : ∀ n (L : List V), L.length = n → (baseG O L).1.length ≤ n from H _ L rfl
  intro n
  induction n with
  | zero => intro L hL; obtain rfl : L = [] := List.length_eq_zero_iff.1 hL; exact Nat.le_refl _
  | succ n ih =>
    intro L hL
    have hne : L ≠ [] := by intro e; rw [e] at hL; cases hL
    have hi := ih L.dropLast (by simp [hL])
    have := rank_more O L.dropLast (L.getLast hne)
    rw [List.dropLast_concat_getLast hne] at this
    omega
/-- all agree: what has no place is nothing -/
theorem agreed_iff (L : List V) : (∀ z ∈ (baseG O L).2, z = G.zero) ↔ ∀ y, Span G (· ∈ L) y → O.bare y = true → y = G.zero := by
  have hI := base_inv O L
  constructor
  · intro hz y hy hb
    have h1 := (less_iff O.toPla hI.redu (fun z hz b _ => O.bare1 z (hI.bare z hz) _) y).1 ((hI.span y).2 hy)
    have h2 : Span G (· ∈ (baseG O L).1) (G.add y (lessG O.toPla (baseG O L).1 y)) := less_span O.toPla _ y
    have h3 := h1.le (T := fun _ => False) fun z hzm => by rw [hz z hzm]; exact .zero
    have h4 : lessG O.toPla (baseG O L).1 y = G.zero := by
      exact span_no h3
    rw [h4, G.zr] at h2
    exact free_zero O.toPla hI.redu y h2 fun b _ => O.bare1 y hb _
  · intro h z hz
    exact h z ((hI.span z).1 (.of (List.mem_append_right _ hz))) (hI.bare z hz)
end
end Go.Proofs.Ytbbjpjkclealfaa
namespace Go.Proofs.Ytbbjpjkclealfaa
open Go
set_option linter.unusedVariables false
set_option linter.unusedSimpArgs false

/-- a word whose keys are right and rise and whose load is four bytes -/
def wOk (x : C2) : Prop := keysOkR x.1 = true ∧ x.2.size = 4
abbrev W2 := { x : C2 // wOk x }
def addC (a b : C2) : C2 := (mergeL false a.1 b.1, xorS a.2 b.2)
theorem addC_ok {a b : C2} (ha : wOk a) (hb : wOk b) : wOk (addC a b) := ⟨merge_ok false a.1 b.1 ha.1 hb.1, by show (xorS a.2 b.2).size = 4; rw [xorS_size a.2 b.2 (by rw [ha.2, hb.2]), ha.2]⟩
theorem merge_iff {a b : List K2} (ha : keysOkR a = true) (hb : keysOkR b = true) (k : K2) : k ∈ mergeL false a b ↔ ((k ∈ a ∨ k ∈ b) ∧ ¬ (k ∈ a ∧ k ∈ b)) := by
  rw [merge_mem ha hb]; simp
theorem merge_assoc {a b c : List K2} (ha : keysOkR a = true) (hb : keysOkR b = true) (hc : keysOkR c = true) : mergeL false (mergeL false a b) c = mergeL false a (mergeL false b c) := by
  have h1 := merge_ok false a b ha hb
  have h2 := merge_ok false b c hb hc
  refine ok_ext (merge_ok false _ _ h1 hc) (merge_ok false _ _ ha h2) fun k => ?_
  rw [merge_iff h1 hc, merge_iff ha h2, merge_iff ha hb, merge_iff hb hc]
  by_cases x : k ∈ a <;> by_cases y : k ∈ b <;> by_cases z : k ∈ c <;> simp [x, y, z]
theorem key_nil : keysOkR [] = true := by decide
def grpW : Grp W2 where
  add a b := ⟨addC a.1 b.1, addC_ok a.2 b.2⟩
  zero := ⟨blankC, key_nil, rfl⟩
  comm := fun a b => Subtype.ext (by
    show addC a.1 b.1 = addC b.1 a.1
    unfold addC
    rw [merge_comm false a.2.1 b.2.1, xorS_comm a.1.2 b.1.2 (by rw [a.2.2, b.2.2])])
  assoc := fun a b c => Subtype.ext (by
    show addC (addC a.1 b.1) c.1 = addC a.1 (addC b.1 c.1)
    unfold addC
    dsimp only
    rw [merge_assoc a.2.1 b.2.1 c.2.1, xorS_assoc a.1.2 b.1.2 c.1.2 (by rw [a.2.2, b.2.2]) (by rw [b.2.2, c.2.2])])
  self := fun a => Subtype.ext (by
    show addC a.1 a.1 = blankC
    unfold addC
    rw [parted_self a.2.1, xorS_self _ a.2.2]; rfl)
  zl := fun a => Subtype.ext (by
    show addC blankC a.1 = a.1
    unfold addC blankC
    dsimp only
    rw [mergeL_nil_l, xorS_z4l _ a.2.2])
def hasW (a : W2) (k : K2) : Bool := decide (k ∈ a.1.1)
theorem hasW_add (x y : W2) (k : K2) : hasW (grpW.add x y) k = (hasW x k != hasW y k) := by
  show decide (k ∈ mergeL false x.1.1 y.1.1) = (decide (k ∈ x.1.1) != decide (k ∈ y.1.1))
  by_cases h1 : k ∈ x.1.1 <;> by_cases h2 : k ∈ y.1.1 <;> simp [merge_iff x.2.1 y.2.1, h1, h2]
def ordW : Ord W2 K2 grpW where
  piv a := a.1.1.headD (0, 0)
  has := hasW
  has0 := fun k => by show decide (k ∈ ([] : List K2)) = false; simp
  hasA := hasW_add
  lt a b := aheadB a b = true
  tri := fun a b => by
    cases h1 : aheadB a b with
    | true => exact .inl rfl
    | false =>
      cases h2 : aheadB b a with
      | true => exact .inr (.inr rfl)
      | false => exact .inr (.inl (ahead_total h1 h2))
  trans := fun a b c h1 h2 => ahead_trans h1 h2
  bare a := a.1.1.isEmpty
  bare1 := fun v h k => by
    unfold hasW
    rw [List.isEmpty_iff.1 h]; simp
  bare2 := fun v h => by
    have hr := ((keysR_iff v.1.1).1 v.2.1).2
    unfold hasW
    cases hv : v.1.1 with
    | nil => rw [hv] at h; cases h
    | cons a l =>
      rw [hv] at hr
      refine ⟨by simp, fun k hk => ?_⟩
      have hk' : aheadB k a = true := hk
      have hn : ¬ k ∈ a :: l := by
        intro hm
        rcases List.mem_cons.1 hm with rfl | hm
        · rw [ahead_irrefl] at hk'; cases hk'
        · have h3 := (List.pairwise_cons.1 hr).1 k hm
          rw [ahead_asymm h3] at hk'; cases hk'
      simpa using hn
  uniq := fun v q h1 h2 => by
    have hr := ((keysR_iff v.1.1).1 v.2.1).2
    unfold hasW at h1 h2
    cases hv : v.1.1 with
    | nil => rw [hv] at h1; simp at h1
    | cons a l =>
      rw [hv] at hr h1 h2
      show a = q
      rcases List.mem_cons.1 (by simpa using h1) with h | h
      · exact h.symm
      · have h3 := (List.pairwise_cons.1 hr).1 q h
        have h4 := h2 a h3
        simp at h4
theorem bareW (v : W2) : ordW.bare v = true ↔ v.1.1 = [] := List.isEmpty_iff
theorem zeroW (v : W2) (h : v.1.1 = []) : v = grpW.zero ↔ v.1.2 = z4 := by
  constructor
  · rintro rfl; rfl
  · intro h2
    refine Subtype.ext ?_
    show v.1 = ([], z4)
    rw [← h, ← h2]
end Go.Proofs.Ytbbjpjkclealfaa
namespace Go.Proofs.Ytbbjpjkclealfaa
open Go
set_option linter.unusedVariables false
set_option linter.unusedSimpArgs false

abbrev L4 := { s : ByteArray // s.size = 4 }
end Go.Proofs.Ytbbjpjkclealfaa
namespace Go.Proofs.Ytbbjpjkclealfaa
open Go
set_option linter.unusedVariables false
set_option linter.unusedSimpArgs false

section
variable {V K : Type} {G : Grp V}
theorem redu_or (P : Pla V K G) : ∀ {B : List V}, Redu P B → ∀ b ∈ B, ∀ c ∈ B, b = c ∨ P.has b (P.piv c) = false
  | [], _, b, hb, _, _ => by cases hb
  | d :: B, h, b, hb, c, hc => by
    rcases List.mem_cons.1 hb with e1 | hb
    · rcases List.mem_cons.1 hc with e2 | hc
      · exact .inl (e1.trans e2.symm)
      · rw [e1]; exact .inr ((List.pairwise_cons.1 h.2).1 c hc).1
    · rcases List.mem_cons.1 hc with e2 | hc
      · rw [e2]; exact .inr ((List.pairwise_cons.1 h.2).1 b hb).2
      · exact redu_or P h.tail b hb c hc
/-- what has one place alone is a row -/
theorem single_in (O : Ord V K G) {B : List V} (hB : Redu O.toPla B) (hL : Low O B) {v : V} {q : K} (hv : Span G (· ∈ B) v) (hq : O.has v q = true) (ho : ∀ k, O.has v k = true → k = q) : v ∈ B := by
  have hirr : ∀ k, O.lt k q → O.has v k = false := by
    intro k hk
    cases h : O.has v k with
    | false => rfl
    | true =>
      have e := ho k h
      subst e
      obtain ⟨c, hc, e⟩ := lead_in O hB hL (Z := []) (fun z hz => (by cases hz)) (by rw [List.append_nil]; exact hv) (O.bare2 v (by cases hb : O.bare v with | false => rfl | true => rw [O.bare1 v hb] at h; cases h)).1 (O.bare2 v (by cases hb : O.bare v with | false => rfl | true => rw [O.bare1 v hb] at h; cases h)).2
      have h2 := O.bare2 v (by cases hb : O.bare v with | false => rfl | true => rw [O.bare1 v hb] at h; cases h)
      have h3 := ho _ h2.1
      rw [h3] at h2
      rw [h2.2 k hk] at h
      cases h
  obtain ⟨b, hb, rfl⟩ := lead_in O hB hL (Z := []) (fun z hz => (by cases hz)) (by rw [List.append_nil]; exact hv) hq hirr
  have h0 : G.add b v = G.zero := by
    refine free_zero O.toPla hB _ ((Span.of hb).plus hv) fun c hc => ?_
    rw [O.hasA]
    rcases redu_or O.toPla hB b hb c hc with rfl | h1
    · rw [hB.1 b hb, hq]; rfl
    · have h2 : O.has v (O.piv c) = false := by
        cases h : O.has v (O.piv c) with
        | false => rfl
        | true => rw [ho _ h, hB.1 b hb] at h1; cases h1
      rw [h1, h2]; rfl
  have : v = b := by
    have h2 := G.back b v
    rw [h0, G.zr] at h2
    exact h2.symm
  rw [this]; exact hb
theorem agreed_span (O : Ord V K G) {L : List V} (h : ∀ z ∈ (baseG O L).2, z = G.zero) (y : V) : Span G (· ∈ (baseG O L).1) y ↔ Span G (· ∈ L) y := by
  rw [← (base_inv O L).span y]
  constructor
  · exact Span.mono fun v hv => List.mem_append_left _ hv
  · refine Span.le fun v hv => ?_
    rcases List.mem_append.1 hv with hv | hv
    · exact .of hv
    · rw [h v hv]; exact .zero
end
/-- what all words together tell of one key alone -/
theorem told_iff {L : List W2} (h : ∀ z ∈ (baseG ordW L).2, z = grpW.zero) (v : W2) (k : K2) (hv : v.1.1 = [k]) : v ∈ (baseG ordW L).1 ↔ Span grpW (· ∈ L) v := by
  constructor
  · intro hm; exact (agreed_span ordW h v).1 (.of hm)
  · intro hs
    refine single_in ordW (base_inv ordW L).redu (base_inv ordW L).low (q := k) ((agreed_span ordW h v).2 hs) ?_ ?_
    · show decide (k ∈ v.1.1) = true
      rw [hv]; simp
    · intro j hj
      have : j ∈ v.1.1 := of_decide_eq_true hj
      rw [hv] at this
      simpa using this
end Go.Proofs.Ytbbjpjkclealfaa
namespace Go.Proofs.Ytbbjpjkclealfaa
open Go
set_option linter.unusedVariables false
set_option linter.unusedSimpArgs false

theorem ok_w {x : C2} (h : codeOkB x = true) : wOk x := ⟨((codeOk_iff x).1 h).2.1, ((codeOk_iff x).1 h).2.2.1⟩
/-- the right words among the first i, twenty at most -/
def rowsN (l : List C2) : Nat → List W2
  | 0 => []
  | i + 1 => if h : codeOkB (l.getD i blankC) = true ∧ (rowsN l i).length < 20 then rowsN l i ++ [⟨l.getD i blankC, ok_w h.1⟩] else rowsN l i
theorem rowsN_yes {l : List C2} {i : Nat} (h : codeOkB (l.getD i blankC) = true) (h2 : (rowsN l i).length < 20) : rowsN l (i + 1) = rowsN l i ++ [⟨l.getD i blankC, ok_w h⟩] := by
  show (if h : _ then _ else _) = _
  rw [dif_pos ⟨h, h2⟩]
theorem rowsN_no {l : List C2} {i : Nat} (h : codeOkB (l.getD i blankC) = false) : rowsN l (i + 1) = rowsN l i := by
  show (if h : _ then _ else _) = _
  rw [dif_neg (by rw [h]; simp)]
theorem rowsN_at {l : List C2} {i : Nat} (h : (rowsN l i).length = 20) : rowsN l (i + 1) = rowsN l i := by
  show (if h : _ then _ else _) = _
  rw [dif_neg (by rw [h]; simp)]
theorem rowsN_full {l : List C2} {i : Nat} (h : (rowsN l i).length = 20) : ∀ j, rowsN l (i + j) = rowsN l i
  | 0 => rfl
  | j + 1 => by
    have ih := rowsN_full h j
    rw [← Nat.add_assoc, rowsN_at (by rw [ih]; exact h), ih]
theorem rowsN_le (l : List C2) : ∀ i, (rowsN l i).length ≤ 20 ∧ (rowsN l i).length ≤ i
  | 0 => ⟨Nat.zero_le _, Nat.le_refl _⟩
  | i + 1 => by
    have ih := rowsN_le l i
    by_cases h : codeOkB (l.getD i blankC) = true ∧ (rowsN l i).length < 20
    · rw [rowsN_yes h.1 h.2, List.length_append, List.length_singleton]
      omega
    · have : rowsN l (i + 1) = rowsN l i := by
        show (if h : _ then _ else _) = _
        rw [dif_neg h]
      rw [this]
      omega
end Go.Proofs.Ytbbjpjkclealfaa
namespace Go.Proofs.Ytbbjpjkclealfaa
open Go
set_option linter.unusedVariables false
set_option linter.unusedSimpArgs false

theorem loadO_no {rs : List R3} {x : K2} (h : ∀ r ∈ rs, r.1 ≠ x) : loadO rs x = none := by
  induction rs with
  | nil => rfl
  | cons r l ih =>
    unfold loadO
    rw [if_neg (by simpa using h r (List.mem_cons_self ..))]
    exact ih fun q hq => h q (List.mem_cons_of_mem _ hq)
def solS (out : List R3) (b : W2) : List R3 := if b.1.1.length = 1 then (learnV out (b.1.1.headD (0, 0), b.1.2)).1 else out
theorem sol_spec : ∀ (B : List W2) (out : List R3), rdsOkR out = true → (B.map ordW.piv).Nodup → (∀ r ∈ out, ∀ b ∈ B, ordW.piv b ≠ r.1) →
    rdsOkR (B.foldl solS out) = true ∧ ∀ r, r ∈ B.foldl solS out ↔ r ∈ out ∨ ∃ b ∈ B, b.1 = ([r.1], r.2)
  | [], out, h, _, _ => ⟨h, fun r => by simp⟩
  | b :: B, out, h, hn, hd => by
    obtain ⟨hn1, hn2⟩ := List.nodup_cons.1 hn
    show rdsOkR (B.foldl solS (solS out b)) = true ∧ ∀ r, r ∈ B.foldl solS (solS out b) ↔ _
    by_cases hl : b.1.1.length = 1
    · obtain ⟨k, hk⟩ : ∃ k, b.1.1 = [k] := List.length_eq_one_iff.1 hl
      have hp : ordW.piv b = k := by show b.1.1.headD (0, 0) = k; rw [hk]; rfl
      have hr : rdOkB (k, b.1.2) = true := by
        have h1 := ((keysR_iff b.1.1).1 b.2.1).1 k (by rw [hk]; simp)
        unfold rdOkB
        rw [h1]
        simpa using b.2.2
      have hlo : loadO out (k, b.1.2).1 = none := loadO_no fun r hr e => hd r hr b (List.mem_cons_self ..) (by rw [hp]; exact e.symm)
      have hs : solS out b = out.take (aheadN out k) ++ (k, b.1.2) :: out.drop (aheadN out k) := by
        unfold solS
        rw [if_pos hl, hk]
        show (learnV out (k, b.1.2)).1 = _
        unfold learnV
        rw [if_pos ⟨h, hr⟩, hlo]
      have hok : rdsOkR (solS out b) = true := by rw [hs]; exact learned_pair h hr hlo
      have hmem : ∀ r, r ∈ solS out b ↔ r ∈ out ∨ r = (k, b.1.2) := by
        intro r
        rw [hs]
        have e : r ∈ out ↔ r ∈ out.take (aheadN out k) ∨ r ∈ out.drop (aheadN out k) := by rw [← List.mem_append, List.take_append_drop]
        rw [e, List.mem_append, List.mem_cons]
        constructor
        · rintro (h | h | h)
          · exact .inl (.inl h)
          · exact .inr h
          · exact .inl (.inr h)
        · rintro ((h | h) | h)
          · exact .inl h
          · exact .inr (.inr h)
          · exact .inr (.inl h)
      obtain ⟨g1, g2⟩ := sol_spec B (solS out b) hok hn2 fun r hr c hc => by
        rcases (hmem r).1 hr with hr | rfl
        · exact hd r hr c (List.mem_cons_of_mem _ hc)
        · intro e
          exact hn1 (List.mem_map.2 ⟨c, hc, by rw [e, hp]⟩)
      refine ⟨g1, fun r => ?_⟩
      rw [g2, hmem]
      constructor
      · rintro ((h | rfl) | ⟨c, hc, e⟩)
        · exact .inl h
        · exact .inr ⟨b, List.mem_cons_self .., Prod.ext hk rfl⟩
        · exact .inr ⟨c, List.mem_cons_of_mem _ hc, e⟩
      · rintro (h | ⟨c, hc, e⟩)
        · exact .inl (.inl h)
        · rcases List.mem_cons.1 hc with rfl | hc
          · have e1 : [k] = [r.1] := by rw [← hk, e]
            have e2 : c.1.2 = r.2 := by rw [e]
            have e3 : k = r.1 := by simpa using e1
            exact .inl (.inr (Prod.ext e3.symm e2.symm))
          · exact .inr ⟨c, hc, e⟩
    · have hs : solS out b = out := by unfold solS; rw [if_neg hl]
      rw [hs]
      obtain ⟨g1, g2⟩ := sol_spec B out h hn2 fun r hr c hc => hd r hr c (List.mem_cons_of_mem _ hc)
      refine ⟨g1, fun r => ?_⟩
      rw [g2]
      constructor
      · rintro (h | ⟨c, hc, e⟩)
        · exact .inl h
        · exact .inr ⟨c, List.mem_cons_of_mem _ hc, e⟩
      · rintro (h | ⟨c, hc, e⟩)
        · exact .inl h
        · rcases List.mem_cons.1 hc with rfl | hc
          · exact absurd (by rw [e]; rfl) hl
          · exact .inr ⟨c, hc, e⟩
/-- rising readings of the same members are the same list -/
theorem rds_ext : ∀ (a b : List R3), a.Pairwise (fun x y => aheadB x.1 y.1 = true) → b.Pairwise (fun x y => aheadB x.1 y.1 = true) → (∀ r, r ∈ a ↔ r ∈ b) → a = b
  | [], [], _, _, _ => rfl
  | [], y :: b, _, _, h => by have := (h y).2 (by simp); simp at this
  | x :: a, [], _, _, h => by have := (h x).1 (by simp); simp at this
  | x :: a, y :: b, ha, hb, h => by
    have ha' := List.pairwise_cons.1 ha
    have hb' := List.pairwise_cons.1 hb
    have hxy : x = y := by
      rcases List.mem_cons.1 ((h x).1 (by simp)) with h1 | h1
      · exact h1
      · rcases List.mem_cons.1 ((h y).2 (by simp)) with h2 | h2
        · exact h2.symm
        · have e1 := hb'.1 x h1
          have e2 := ha'.1 y h2
          rw [ahead_asymm e1] at e2; cases e2
    subst hxy
    congr 1
    refine rds_ext a b ha'.2 hb'.2 fun k => ⟨fun hk => ?_, fun hk => ?_⟩
    · rcases List.mem_cons.1 ((h k).1 (by simp [hk])) with h1 | h1
      · subst h1
        have := ha'.1 k hk
        rw [ahead_irrefl] at this; cases this
      · exact h1
    · rcases List.mem_cons.1 ((h k).2 (by simp [hk])) with h1 | h1
      · subst h1
        have := hb'.1 k hk
        rw [ahead_irrefl] at this; cases this
      · exact h1
/-- all that is told of one key alone, rising -/
def solveM (L : List W2) : List R3 := (baseG ordW L).1.foldl solS []
theorem solve_ok (L : List W2) : rdsOkR (solveM L) = true ∧ ∀ r, r ∈ solveM L ↔ ∃ b ∈ (baseG ordW L).1, b.1 = ([r.1], r.2) := by
  obtain ⟨h1, h2⟩ := sol_spec (baseG ordW L).1 [] rfl (redu_nodup ordW (base_inv ordW L).redu) (fun r hr => by cases hr)
  exact ⟨h1, fun r => by rw [show (r ∈ solveM L) = (r ∈ (baseG ordW L).1.foldl solS []) from rfl, h2]; simp⟩
/-- where all agree: what is told is what the span has of one key -/
theorem solve_told {L : List W2} (ha : ∀ z ∈ (baseG ordW L).2, z = grpW.zero) (r : R3) : r ∈ solveM L ↔ ∃ h : wOk ([r.1], r.2), Span grpW (· ∈ L) ⟨([r.1], r.2), h⟩ := by
  rw [(solve_ok L).2]
  constructor
  · rintro ⟨b, hb, e⟩
    have hw : wOk ([r.1], r.2) := by rw [← e]; exact b.2
    refine ⟨hw, ?_⟩
    have e2 : (⟨([r.1], r.2), hw⟩ : W2) = b := Subtype.ext e.symm
    rw [e2]
    exact (told_iff ha b r.1 (by rw [e])).1 hb
  · rintro ⟨h, hs⟩
    exact ⟨_, (told_iff ha _ r.1 rfl).2 hs, rfl⟩
end Go.Proofs.Ytbbjpjkclealfaa
namespace Go.Proofs.Ytbbjpjkclealfaa
open Go.ChangeShapes Go.WideShapes Go.ChangeAt Go.RowKit
set_option linter.unusedVariables false

set_option maxRecDepth 100000 in
theorem sxor_any (s t : ByteArray) (w : World) (hs : s.size ≤ 2000000) (ht : t.size ≤ 2000000) :
    Calls Try.prog 84 #[.string s, .string t] w fun e w' => e = .returned (.string (xorS s t)) ∧ Below w.heap.size w w' := by
  by_cases hst : s.size = t.size
  · obtain ⟨i0, hi, hz0, hz1, hz2⟩ := info_parts info5
    have hx : xorS s t = ⟨(xorL s.data.toList t.data.toList).toArray⟩ := by unfold xorS; rw [if_pos hst]
    have hxl := xorL_len s t hst
    have htk := xorL_take s t hst
    have e0 : (s.size : Int) = (t.size : Int) := by omega
    generalize xorL s.data.toList t.data.toList = X at *
    have HX := Lib.hid hx; have HTK := Lib.hid htk; clear hx htk
    go_enter Try.func84, Try.ntmps84
    go_wp2
    have hown0 := World.ownsRow_made (base := w.heap.size) (e := 5) (size := 1) w #[] 0 (Nat.le_refl _) (by unfold maxLen; omega) rfl
    have hb0 := (Below.refl w.heap.size w).alloc (Nat.le_refl _) (.cells #[] 5)
    go_loopw [5, 6] (fun v i wr => ∃ k : Nat, k ≤ s.size ∧ i = .int .i64 k ∧ wr.ownsRow w.heap.size 5 1 v k ((numsOf (X.take k)).map (Value.int .u8)) ∧ Below w.heap.size w wr)
      (fun _ i _ => s.size - (intOf i).toNat)
    case atStart => exact ⟨0, Nat.zero_le _, rfl, hown0, hb0⟩
    case round =>
      obtain ⟨k, hk, rfl, hown, hnx⟩ := hrel
      clear hown0 hb0
      by_cases hlt : k < s.size
      · have h0 : (0 : Int) ≤ (k : Int) := Int.natCast_nonneg _
        have h1 : (k : Int) < (s.size : Int) := by omega
        have h2 : (k : Int) < (t.size : Int) := by omega
        have hk2 : k < t.size := by omega
        have hc := s[k].toNat_lt
        have hd := t[k].toNat_lt
        have hxx := u8_xor s[k] t[k]
        have hns := hnx.size
        go_wp2
        refine wp_region_plan [0] [false, true, true, true, true, true, true, true] 8 (by kernel_rfl) (by kernel_rfl) (by kernel_rfl) ?_
        simp only [maskRows, movesA, moveOf, List.getElem?_toArray, List.getElem?_cons_zero, List.drop_succ_cons, List.drop_zero]
        repeat still_step
        refine wpStill_nil ?_
        intro K1 hK1
        go_wp2_with (at_builtin; refine wpList_append_own _ rfl (.tmp 19) (.tmp 27) 22 rfl w.heap.size 5 i0 (.int .u8 0) 1 1 Try.underlying22 hi hz0 hz1 hz2 rfl (by decide) _ _ _ rfl ((hown.alloc _).drew) ⟨wr.heap.size, 0, none⟩ 1 1 [.int .u8 ((s[k] ^^^ t[k]).toNat : Int)] rfl rfl (cell_one_new _ _ _) (by intro u hu; simp at hu; subst hu; rfl) (by unfold maxLen; omega) (by omega) (by simp; omega) ?_; intro v' w1 hown' hgrow _)
        have R : w1.ownsRow w.heap.size 5 1 v' (k + 1) ((numsOf (X.take (k + 1))).map (Value.int .u8)) ∧ Below w.heap.size w w1 := by
          refine ⟨?_, ((hnx.alloc hnx.size _).drew).grown hgrow (by have := hnx.size; simp; omega) (fun g hg => (hown.lt g hg).1)⟩
          rw [HTK.out k hlt]
          simpa [numsOf] using hown'
        clear hown' hgrow hown
        go_wp2
        go_roundw
        case rel => exact ⟨k + 1, by omega, by go_num, R.1, R.2⟩
        case measure => simp [intOf]; omega
      · obtain rfl : k = s.size := by omega
        rw [List.take_of_length_le (by omega)] at hown
        have hcv := run_string_own (P := Try.prog) 22 5 9 Try.underlying22 Try.underlying5 Try.underlying9 hown
        rw [nums_back] at hcv
        clear hown
        go_wp2
        go_ret
        exact ⟨by rw [HX.out]; rfl, hnx⟩
  · have hx : xorS s t = ByteArray.empty := by unfold xorS; rw [if_neg hst]
    have HX := Lib.hid hx; clear hx
    have e1 : ¬ (s.size : Int) = (t.size : Int) := by omega
    go_enter Try.func84, Try.ntmps84
    go_wp2
    go_ret
    exact ⟨by rw [HX.out]; rfl, Below.refl _ _⟩
end Go.Proofs.Ytbbjpjkclealfaa
namespace Go.Proofs.Ytbbjpjkclealfaa
open Go.ChangeShapes Go.WideShapes Go.ChangeAt Go.RowKit
set_option linter.unusedVariables false

/-- the number of some bytes, the highest first -/
def getN (l : List UInt8) : Nat := l.foldl (fun n c => n * 256 + c.toNat) 0
theorem getN_snoc (l : List UInt8) (c : UInt8) : getN (l ++ [c]) = getN l * 256 + c.toNat := by simp [getN, List.foldl_append]
theorem foldl_lt : ∀ (l : List UInt8) (n m : Nat), n < 256 ^ m → l.foldl (fun n c => n * 256 + c.toNat) n < 256 ^ (m + l.length)
  | [], n, m, h => by simpa using h
  | c :: r, n, m, h => by
    have hc := c.toNat_lt
    have := foldl_lt r (n * 256 + c.toNat) (m + 1) (by rw [Nat.pow_succ]; omega)
    simp only [List.foldl_cons, List.length_cons]
    rwa [show m + (r.length + 1) = m + 1 + r.length by omega]
theorem getN_lt (l : List UInt8) : getN l < 256 ^ l.length := by
  have := foldl_lt l 0 0 (by simp)
  rwa [Nat.zero_add] at this
def getV (s : ByteArray) (p k : Int) : Int := if k < 1 ∨ 4 < k ∨ p < 0 ∨ (s.size : Int) - k < p then -1 else (getN ((s.data.toList.drop p.toNat).take k.toNat) : Nat)
end Go.Proofs.Ytbbjpjkclealfaa
namespace Go.Proofs.Ytbbjpjkclealfaa
open Go
set_option linter.unusedVariables false
set_option linter.unusedSimpArgs false

theorem tb_step (n c : Nat) (hc : c < 256) (j : Nat) : (n * 256 + c).testBit j = if j < 8 then c.testBit j else n.testBit (j - 8) := by
  rw [Nat.mul_comm]
  exact Nat.testBit_two_pow_mul_add n (i := 8) hc j
theorem step_xor (n m c d : Nat) (hc : c < 256) (hd : d < 256) : (n * 256 + c) ^^^ (m * 256 + d) = (n ^^^ m) * 256 + (c ^^^ d) := by
  refine Nat.eq_of_testBit_eq fun j => ?_
  have hx : c ^^^ d < 256 := Nat.xor_lt_two_pow (n := 8) hc hd
  rw [Nat.testBit_xor, tb_step n c hc, tb_step m d hd, tb_step _ _ hx]
  split <;> rw [Nat.testBit_xor]
theorem fold_xor : ∀ (l k : List UInt8) (n m : Nat), l.length = k.length → (xorL l k).foldl (fun n c => n * 256 + c.toNat) (n ^^^ m) = l.foldl (fun n c => n * 256 + c.toNat) n ^^^ k.foldl (fun n c => n * 256 + c.toNat) m
  | [], [], n, m, _ => by simp [xorL]
  | [], b :: k, n, m, h => by simp at h
  | a :: l, [], n, m, h => by simp at h
  | a :: l, b :: k, n, m, h => by
    have ih := fold_xor l k (n * 256 + a.toNat) (m * 256 + b.toNat) (by simpa using h)
    rw [step_xor _ _ _ _ a.toNat_lt b.toNat_lt] at ih
    have e : xorL (a :: l) (b :: k) = (a ^^^ b) :: xorL l k := by simp [xorL]
    rw [e, List.foldl_cons, List.foldl_cons, List.foldl_cons, UInt8.toNat_xor]
    exact ih
/-- the number of a load -/
def numL (y : ByteArray) : Nat := getN y.data.toList
theorem numL_xor (a b : ByteArray) (h : a.size = b.size) : numL (xorS a b) = numL a ^^^ numL b := by
  unfold numL getN
  rw [xorS_data a b h]
  have := fold_xor a.data.toList b.data.toList 0 0 (by simpa using h)
  simpa using this
theorem numL_lt (y : ByteArray) (h : y.size = 4) : numL y < 4294967296 := by
  have := getN_lt y.data.toList
  have e : y.data.toList.length = 4 := by simp [h]
  rw [e] at this
  exact this
theorem numL_z4 : numL z4 = 0 := by decide
theorem numL_inj {a b : ByteArray} (ha : a.size = 4) (hb : b.size = 4) (h : numL a = numL b) : a = b := by
  have la : a.data.toList.length = 4 := by simp [ha]
  have lb : b.data.toList.length = 4 := by simp [hb]
  refine ba_ext ?_
  unfold numL getN at h
  revert h
  match a.data.toList, la, b.data.toList, lb with
  | [x, y, z, u], _, [p, q, r, s], _ =>
    intro h
    simp only [List.foldl_cons, List.foldl_nil] at h
    have h1 := x.toNat_lt; have h2 := y.toNat_lt; have h3 := z.toNat_lt; have h4 := u.toNat_lt
    have g1 := p.toNat_lt; have g2 := q.toNat_lt; have g3 := r.toNat_lt; have g4 := s.toNat_lt
    rw [UInt8.toNat_inj.1 (show x.toNat = p.toNat by omega), UInt8.toNat_inj.1 (show y.toNat = q.toNat by omega), UInt8.toNat_inj.1 (show z.toNat = r.toNat by omega), UInt8.toNat_inj.1 (show u.toNat = s.toNat by omega)]
def placeK (k : K2) : Nat := ((k.1 - 1) * 99 + k.2 - 1).toNat
def keyP (p : Nat) : K2 := (((p / 99 : Nat) : Int) + 1, ((p % 99 : Nat) : Int) + 1)
theorem keyOk_iff (k : K2) : keyOkB k = true ↔ (1 ≤ k.1 ∧ k.1 ≤ 20) ∧ 1 ≤ k.2 ∧ k.2 ≤ 99 := by
  unfold keyOkB
  simp
theorem place_lt {k : K2} (h : keyOkB k = true) : placeK k < 1980 := by
  obtain ⟨⟨h1, h2⟩, h3, h4⟩ := (keyOk_iff k).1 h
  unfold placeK; omega
theorem place_key {k : K2} (h : keyOkB k = true) : keyP (placeK k) = k := by
  obtain ⟨⟨h1, h2⟩, h3, h4⟩ := (keyOk_iff k).1 h
  obtain ⟨a, b⟩ := k
  dsimp only at h1 h2 h3 h4
  unfold keyP placeK
  dsimp only
  refine Prod.ext ?_ ?_
  · dsimp only; omega
  · dsimp only; omega
theorem key_place (p : Nat) : placeK (keyP p) = p := by unfold keyP placeK; dsimp only; omega
theorem key_ok {p : Nat} (h : p < 1980) : keyOkB (keyP p) = true := by
  rw [keyOk_iff]; unfold keyP; dsimp only; omega
theorem key_not {p : Nat} (h : ¬ p < 1980) : keyOkB (keyP p) = false := by
  cases h1 : keyOkB (keyP p) with
  | false => rfl
  | true =>
    have := (keyOk_iff _).1 h1
    unfold keyP at this; dsimp only at this; omega
theorem key_lt {a b : K2} (ha : keyOkB a = true) (hb : keyOkB b = true) : aheadB a b = true ↔ placeK a < placeK b := by
  obtain ⟨⟨h1, h2⟩, h3, h4⟩ := (keyOk_iff a).1 ha
  obtain ⟨⟨g1, g2⟩, g3, g4⟩ := (keyOk_iff b).1 hb
  rw [ahead_iff]
  unfold placeK
  omega
/-- a word has a one at a place -/
def hasX (x : C2) (p : Nat) : Bool := if p < 1984 then decide (keyP p ∈ x.1) else (numL x.2).testBit (p - 1984)
def hX (a : W2) (p : Nat) : Bool := hasX a.1 p
theorem hX_add (a b : W2) (p : Nat) : hX (grpW.add a b) p = (hX a p != hX b p) := by
  unfold hX hasX
  by_cases h : p < 1984
  · rw [if_pos h, if_pos h, if_pos h]
    exact hasW_add a b (keyP p)
  · rw [if_neg h, if_neg h, if_neg h]
    show (numL (xorS a.1.2 b.1.2)).testBit _ = _
    rw [numL_xor _ _ (by rw [a.2.2, b.2.2]), Nat.testBit_xor]
theorem hX_zero (p : Nat) : hX grpW.zero p = false := by
  unfold hX hasX
  split
  · show decide (keyP p ∈ ([] : List K2)) = false; simp
  · show (numL z4).testBit _ = false
    rw [numL_z4, Nat.zero_testBit]
theorem hX_end (a : W2) (p : Nat) (h : 2016 ≤ p) : hX a p = false := by
  unfold hX hasX
  rw [if_neg (by omega)]
  exact Nat.testBit_lt_two_pow (Nat.lt_of_lt_of_le (numL_lt _ a.2.2) (Nat.pow_le_pow_right (n := 2) (by decide) (show 32 ≤ p - 1984 by omega)))
theorem hX_key (a : W2) {k : K2} (h : keyOkB k = true) : hX a (placeK k) = decide (k ∈ a.1.1) := by
  unfold hX hasX
  rw [if_pos (by have := place_lt h; omega), place_key h]
theorem hX_none (a : W2) (h : ∀ p, p < 2016 → hX a p = false) : a = grpW.zero := by
  have h1 : a.1.1 = [] := by
    cases hk : a.1.1 with
    | nil => rfl
    | cons k l =>
      have ho := ((keysR_iff a.1.1).1 a.2.1).1 k (by rw [hk]; simp)
      have := h (placeK k) (by have := place_lt ho; omega)
      rw [hX_key a ho, hk] at this
      simp at this
  have h2 : numL a.1.2 = 0 := by
    refine Nat.eq_of_testBit_eq fun j => ?_
    rw [Nat.zero_testBit]
    by_cases hj : j < 32
    · have := h (1984 + j) (by omega)
      unfold hX hasX at this
      rw [if_neg (by omega), show 1984 + j - 1984 = j by omega] at this
      exact this
    · exact Nat.testBit_lt_two_pow (Nat.lt_of_lt_of_le (numL_lt _ a.2.2) (Nat.pow_le_pow_right (n := 2) (by decide) (show 32 ≤ j by omega)))
  exact (zeroW a h1).2 (numL_inj a.2.2 rfl (by rw [h2, numL_z4]))
def pivX (a : W2) : Option Nat := (List.range 2016).find? (hX a)
theorem pivX_some {a : W2} {p : Nat} (h : pivX a = some p) : hX a p = true ∧ p < 2016 ∧ ∀ j, j < p → hX a j = false := by
  obtain ⟨h1, h2, h3⟩ := List.find?_range_eq_some.1 h
  exact ⟨h1, List.mem_range.1 h2, fun j hj => by simpa using h3 j hj⟩
theorem pivX_none {a : W2} (h : pivX a = none) (p : Nat) : hX a p = false := by
  by_cases hp : p < 2016
  · have := List.find?_eq_none.1 h p (List.mem_range.2 hp)
    simpa using this
  · exact hX_end a p (by omega)
def ordX : Ord W2 Nat grpW where
  piv a := (pivX a).getD 0
  has := hX
  has0 := hX_zero
  hasA := hX_add
  lt a b := a < b
  tri := fun a b => by omega
  trans := fun a b c h1 h2 => by omega
  bare a := (pivX a).isNone
  bare1 := fun v h k => pivX_none (Option.isNone_iff_eq_none.1 h) k
  bare2 := fun v h => by
    cases hp : pivX v with
    | none => rw [hp] at h; cases h
    | some p =>
      obtain ⟨h1, -, h3⟩ := pivX_some hp
      exact ⟨h1, fun k hk => h3 k hk⟩
  uniq := fun v q h1 h2 => by
    cases hp : pivX v with
    | none => rw [pivX_none hp] at h1; cases h1
    | some p =>
      obtain ⟨g1, -, g3⟩ := pivX_some hp
      show p = q
      rcases Nat.lt_trichotomy p q with h | h | h
      · rw [h2 p h] at g1; cases g1
      · exact h
      · rw [g3 q h] at h1; cases h1
theorem bareX (v : W2) : ordX.bare v = true ↔ v = grpW.zero := by
  constructor
  · intro h; exact hX_none v fun p _ => ordX.bare1 v h p
  · rintro rfl; exact bare_of ordX fun k => hX_zero k
/-- a word of no key: no place ahead of the load's -/
theorem bareW_iff (v : W2) : ordW.bare v = true ↔ ∀ p, p < 1984 → hX v p = false := by
  rw [bareW]
  constructor
  · intro h p hp
    unfold hX hasX
    rw [if_pos hp, h]; simp
  · intro h
    cases hk : v.1.1 with
    | nil => rfl
    | cons k l =>
      have ho := ((keysR_iff v.1.1).1 v.2.1).1 k (by rw [hk]; simp)
      have := h (placeK k) (by have := place_lt ho; omega)
      rw [hX_key v ho, hk] at this
      simp at this
/-- a place of a key that a word has is a right key's -/
theorem hX_right {v : W2} {p : Nat} (hp : p < 1984) (h : hX v p = true) : p < 1980 ∧ keyP p ∈ v.1.1 := by
  unfold hX hasX at h
  rw [if_pos hp] at h
  have hm : keyP p ∈ v.1.1 := of_decide_eq_true h
  have ho := ((keysR_iff v.1.1).1 v.2.1).1 _ hm
  refine ⟨?_, hm⟩
  by_cases hlt : p < 1980
  · exact hlt
  · rw [key_not hlt] at ho; cases ho
/-- the first place of a word of keys is that of its first key -/
theorem piv_WX {v : W2} {p : Nat} (hp : p < 1984) (h1 : hX v p = true) (h2 : ∀ j, j < p → hX v j = false) : ordW.piv v = keyP p := by
  obtain ⟨h3, h4⟩ := hX_right hp h1
  refine ordW.uniq v (keyP p) ?_ fun k hk => ?_
  · show decide (keyP p ∈ v.1.1) = true
    simpa using h4
  · show decide (k ∈ v.1.1) = false
    have hk' : aheadB k (keyP p) = true := hk
    refine decide_eq_false fun hm => ?_
    have ho := ((keysR_iff v.1.1).1 v.2.1).1 k hm
    have := (key_lt ho (key_ok h3)).1 hk'
    rw [key_place] at this
    have h5 := h2 _ this
    rw [hX_key v ho] at h5
    simp [hm] at h5
end Go.Proofs.Ytbbjpjkclealfaa
namespace Go.Proofs.Ytbbjpjkclealfaa
open Go
set_option linter.unusedVariables false
set_option linter.unusedSimpArgs false

abbrev zW : W2 := grpW.zero
def swapL (R : List W2) (i j : Nat) : List W2 := (R.set i (R.getD j zW)).set j (R.getD i zW)
/-- the rows ahead of i, but d, have had row d added where they have a one -/
def turnL (R : List W2) (d p i : Nat) : List W2 := (List.range R.length).map fun j => if j < i ∧ j ≠ d ∧ hX (R.getD j zW) p = true then grpW.add (R.getD j zW) (R.getD d zW) else R.getD j zW
theorem swap_len (R : List W2) (i j : Nat) : (swapL R i j).length = R.length := by simp [swapL]
theorem turn_len (R : List W2) (d p i : Nat) : (turnL R d p i).length = R.length := by simp [turnL]
theorem turn_get (R : List W2) (d p i j : Nat) (hj : j < R.length) : (turnL R d p i).getD j zW = if j < i ∧ j ≠ d ∧ hX (R.getD j zW) p = true then grpW.add (R.getD j zW) (R.getD d zW) else R.getD j zW := by
  simp [turnL, List.getD, hj]
theorem ext_getD {A B : List W2} (hl : A.length = B.length) (h : ∀ j, j < A.length → A.getD j zW = B.getD j zW) : A = B := by
  refine List.ext_getElem hl fun j h1 h2 => ?_
  have := h j h1
  simpa [List.getD, h1, h2] using this
theorem getD_set (R : List W2) (i j : Nat) (x : W2) (hj : j < R.length) : (R.set i x).getD j zW = if i = j then x else R.getD j zW := by
  simp only [List.getD, List.getElem?_set]
  by_cases h : i = j
  · subst h; simp [hj]
  · simp [h]
theorem swap_get (R : List W2) (i j k : Nat) (hi : i < R.length) (hj : j < R.length) (hk : k < R.length) : (swapL R i j).getD k zW = if k = j then R.getD i zW else if k = i then R.getD j zW else R.getD k zW := by
  unfold swapL
  rw [getD_set _ _ _ _ (by simpa using hk), getD_set _ _ _ _ hk]
  by_cases h1 : k = j
  · simp [h1]
  · rw [if_neg (fun e => h1 e.symm), if_neg h1]
    by_cases h2 : k = i
    · rw [if_pos h2.symm, if_pos h2]
    · rw [if_neg (fun e => h2 e.symm), if_neg h2]
theorem turn_zero (R : List W2) (d p : Nat) : turnL R d p 0 = R := ext_getD (turn_len ..) fun j hj => by
  rw [turn_len] at hj
  rw [turn_get _ _ _ _ _ hj, if_neg (by omega)]
theorem turn_same (R : List W2) (d p i : Nat) (hi : i < R.length) (h : i = d ∨ hX (R.getD i zW) p = false) : turnL R d p (i + 1) = turnL R d p i := ext_getD (by simp [turn_len]) fun j hj => by
  rw [turn_len] at hj
  rw [turn_get _ _ _ _ _ hj, turn_get _ _ _ _ _ hj]
  by_cases hji : j = i
  · subst hji
    rw [if_neg, if_neg (by omega)]
    rintro ⟨_, h1, h2⟩
    rcases h with h | h
    · exact h1 h
    · rw [h] at h2; cases h2
  · have e : (j < i + 1 ∧ j ≠ d ∧ hX (R.getD j zW) p = true) ↔ (j < i ∧ j ≠ d ∧ hX (R.getD j zW) p = true) := by
      constructor
      · rintro ⟨a, b⟩; exact ⟨by omega, b⟩
      · rintro ⟨a, b⟩; exact ⟨by omega, b⟩
    by_cases h1 : j < i ∧ j ≠ d ∧ hX (R.getD j zW) p = true
    · rw [if_pos h1, if_pos (e.2 h1)]
    · rw [if_neg h1, if_neg (fun h2 => h1 (e.1 h2))]
theorem turn_step (R : List W2) (d p i : Nat) (hi : i < R.length) (hd : i ≠ d) (h : hX (R.getD i zW) p = true) : turnL R d p (i + 1) = (turnL R d p i).set i (grpW.add (R.getD i zW) (R.getD d zW)) := ext_getD (by simp [turn_len]) fun j hj => by
  rw [turn_len] at hj
  rw [turn_get _ _ _ _ _ hj, getD_set _ _ _ _ (by rw [turn_len]; exact hj), turn_get _ _ _ _ _ hj]
  by_cases hji : i = j
  · subst hji
    rw [if_pos ⟨by omega, hd, h⟩, if_pos rfl]
  · rw [if_neg hji]
    have e : (j < i + 1 ∧ j ≠ d ∧ hX (R.getD j zW) p = true) ↔ (j < i ∧ j ≠ d ∧ hX (R.getD j zW) p = true) := by
      constructor
      · rintro ⟨a, b⟩; exact ⟨by omega, b⟩
      · rintro ⟨a, b⟩; exact ⟨by omega, b⟩
    by_cases h1 : j < i ∧ j ≠ d ∧ hX (R.getD j zW) p = true
    · rw [if_pos h1, if_pos (e.2 h1)]
    · rw [if_neg h1, if_neg (fun h2 => h1 (e.1 h2))]
theorem turn_at (R : List W2) (d p i : Nat) (hi : i < R.length) : (turnL R d p i).getD i zW = R.getD i zW := by
  rw [turn_get _ _ _ _ _ hi, if_neg (by omega)]
theorem turn_d (R : List W2) (d p i : Nat) (hd : d < R.length) : (turnL R d p i).getD d zW = R.getD d zW := by
  rw [turn_get _ _ _ _ _ hd, if_neg (by omega)]
theorem mem_getD (R : List W2) (j : Nat) (hj : j < R.length) : R.getD j zW ∈ R := by
  rw [List.getD, List.getElem?_eq_getElem hj]; exact List.getElem_mem hj
theorem mem_at {R : List W2} {x : W2} (h : x ∈ R) : ∃ j, j < R.length ∧ R.getD j zW = x := by
  obtain ⟨j, hj, e⟩ := List.mem_iff_getElem.1 h
  exact ⟨j, hj, by rw [List.getD, List.getElem?_eq_getElem hj]; exact e⟩
theorem swap_span (R : List W2) (i j : Nat) (hi : i < R.length) (hj : j < R.length) (y : W2) : Span grpW (· ∈ swapL R i j) y ↔ Span grpW (· ∈ R) y := by
  constructor
  · refine Span.mono fun x hx => ?_
    obtain ⟨k, hk, rfl⟩ := mem_at hx
    rw [swap_len] at hk
    rw [swap_get R i j k hi hj hk]
    split
    · exact mem_getD R i hi
    · split
      · exact mem_getD R j hj
      · exact mem_getD R k hk
  · refine Span.mono fun x hx => ?_
    obtain ⟨k, hk, rfl⟩ := mem_at hx
    have hs : ∀ m, m < R.length → (swapL R i j).getD m zW ∈ swapL R i j := fun m hm => mem_getD _ m (by rw [swap_len]; exact hm)
    by_cases h1 : k = i
    · have := hs j hj
      rw [swap_get R i j j hi hj hj, if_pos rfl] at this
      rw [h1]; exact this
    · by_cases h2 : k = j
      · have := hs i hi
        rw [swap_get R i j i hi hj hi] at this
        rw [h2]
        by_cases h3 : i = j
        · rw [if_pos h3] at this
          have e : R.getD j zW = R.getD i zW := by rw [h3]
          rw [e]; exact this
        · rw [if_neg h3, if_pos rfl] at this; exact this
      · have := hs k hk
        rw [swap_get R i j k hi hj hk, if_neg h2, if_neg h1] at this
        exact this
theorem turn_span (R : List W2) (d p i : Nat) (hd : d < R.length) (y : W2) : Span grpW (· ∈ turnL R d p i) y ↔ Span grpW (· ∈ R) y := by
  have hdm : R.getD d zW ∈ turnL R d p i := by
    have := mem_getD (turnL R d p i) d (by rw [turn_len]; exact hd)
    rwa [turn_d R d p i hd] at this
  constructor
  · refine Span.le fun x hx => ?_
    obtain ⟨k, hk, rfl⟩ := mem_at hx
    rw [turn_len] at hk
    rw [turn_get R d p i k hk]
    split
    · exact (Span.of (mem_getD R k hk)).plus (.of (mem_getD R d hd))
    · exact .of (mem_getD R k hk)
  · refine Span.le fun x hx => ?_
    obtain ⟨k, hk, rfl⟩ := mem_at hx
    have h1 := mem_getD (turnL R d p i) k (by rw [turn_len]; exact hk)
    rw [turn_get R d p i k hk] at h1
    split at h1
    · have h2 := (Span.of (G := grpW) (S := (· ∈ turnL R d p i)) h1).plus (.of hdm)
      rwa [grpW.assoc, grpW.self, grpW.zr] at h2
    · exact .of h1
/-- rows on their way: the first ones have their places, the others none so far -/
structure Elim (L R : List W2) (P : List Nat) (place : Nat) : Prop where
  len : P.length ≤ R.length
  own : ∀ i, i < P.length → hX (R.getD i zW) (P.getD i 0) = true
  alone : ∀ i, i < P.length → ∀ j, j < R.length → j ≠ i → hX (R.getD j zW) (P.getD i 0) = false
  low : ∀ i, i < P.length → ∀ p, p < P.getD i 0 → hX (R.getD i zW) p = false
  rest : ∀ j, P.length ≤ j → j < R.length → ∀ p, p < place → hX (R.getD j zW) p = false
  rise : P.Pairwise (· < ·)
  lt : ∀ p ∈ P, p < place
  span : ∀ y, Span grpW (· ∈ R) y ↔ Span grpW (· ∈ L) y
theorem Elim.start (L : List W2) : Elim L L [] 0 :=
  ⟨Nat.zero_le _, fun i h => by simp at h, fun i h => by simp at h, fun i h => by simp at h, fun j _ _ p hp => by omega, List.Pairwise.nil, fun p h => (by cases h), fun y => Iff.rfl⟩
theorem Elim.no {L R : List W2} {P : List Nat} {place : Nat} (h : Elim L R P place) (hn : ∀ j, P.length ≤ j → j < R.length → hX (R.getD j zW) place = false) : Elim L R P (place + 1) :=
  ⟨h.len, h.own, h.alone, h.low, (fun j h1 h2 p hp => by
    rcases (by omega : p < place ∨ p = place) with hp | rfl
    · exact h.rest j h1 h2 p hp
    · exact hn j h1 h2), h.rise, fun p hp => Nat.lt_succ_of_lt (h.lt p hp), h.span⟩
theorem Elim.swap {L R : List W2} {P : List Nat} {place at' : Nat} (h : Elim L R P place) (h1 : P.length ≤ at') (h2 : at' < R.length) : Elim L (swapL R P.length at') P place := by
  have hd : P.length < R.length := by omega
  have hg := fun k hk => swap_get R P.length at' k hd h2 hk
  refine ⟨by rw [swap_len]; exact h.len, fun i hi => ?_, fun i hi j hj hji => ?_, fun i hi p hp => ?_, fun j hj hj2 p hp => ?_, h.rise, h.lt, fun y => (swap_span R _ _ hd h2 y).trans (h.span y)⟩
  · rw [hg i (by omega), if_neg (by omega), if_neg (by omega)]; exact h.own i hi
  · rw [swap_len] at hj
    rw [hg j hj]
    split
    · exact h.alone i hi _ hd (by omega)
    · split
      · exact h.alone i hi _ h2 (by omega)
      · exact h.alone i hi j hj hji
  · rw [hg i (by omega), if_neg (by omega), if_neg (by omega)]; exact h.low i hi p hp
  · rw [swap_len] at hj2
    rw [hg j hj2]
    split
    · exact h.rest _ (Nat.le_refl _) hd p hp
    · split
      · exact h.rest _ h1 h2 p hp
      · exact h.rest j hj hj2 p hp
theorem Elim.turn {L R : List W2} {P : List Nat} {place : Nat} (h : Elim L R P place) (h1 : P.length < R.length) (h2 : hX (R.getD P.length zW) place = true) : Elim L (turnL R P.length place R.length) (P ++ [place]) (place + 1) := by
  have hg := fun k hk => turn_get R P.length place R.length k hk
  have hlow : ∀ p, p < place → hX (R.getD P.length zW) p = false := h.rest _ (Nat.le_refl _) h1
  have hP : ∀ i, i < P.length → (P ++ [place]).getD i 0 = P.getD i 0 := fun i hi => by simp [List.getD, List.getElem?_append_left hi]
  have hPe : (P ++ [place]).getD P.length 0 = place := by simp [List.getD]
  have hPlt : ∀ i, i < P.length → P.getD i 0 < place := fun i hi => h.lt _ (by rw [List.getD, List.getElem?_eq_getElem hi]; exact List.getElem_mem hi)
  have hlen : (P ++ [place]).length = P.length + 1 := by simp
  refine ⟨by rw [turn_len, hlen]; omega, fun i hi => ?_, fun i hi j hj hji => ?_, fun i hi p hp => ?_, fun j hj hj2 p hp => ?_, ?_, fun p hp => ?_, fun y => (turn_span R _ _ _ h1 y).trans (h.span y)⟩
  · rw [hlen] at hi
    rcases (by omega : i < P.length ∨ i = P.length) with hi | rfl
    · rw [hP i hi, hg i (by omega)]
      have := h.own i hi
      split
      · rw [hX_add, this, hlow _ (hPlt i hi)]; rfl
      · exact this
    · rw [hPe, turn_d _ _ _ _ h1]; exact h2
  · rw [hlen] at hi
    rw [turn_len] at hj
    rcases (by omega : i < P.length ∨ i = P.length) with hi | rfl
    · rw [hP i hi, hg j hj]
      have := h.alone i hi j hj hji
      split
      · rw [hX_add, this, hlow _ (hPlt i hi)]; rfl
      · exact this
    · rw [hPe, hg j hj]
      cases hx : hX (R.getD j zW) place with
      | true => rw [if_pos ⟨hj, hji, rfl⟩, hX_add, hx, h2]; rfl
      | false => rw [if_neg (by simp)]; exact hx
  · rw [hlen] at hi
    rcases (by omega : i < P.length ∨ i = P.length) with hi | rfl
    · rw [hP i hi] at hp
      rw [hg i (by omega)]
      have := h.low i hi p hp
      split
      · rw [hX_add, this, hlow _ (by have := hPlt i hi; omega)]; rfl
      · exact this
    · rw [hPe] at hp
      rw [turn_d _ _ _ _ h1]; exact hlow p hp
  · rw [hlen] at hj
    rw [turn_len] at hj2
    rw [hg j hj2]
    rcases (by omega : p < place ∨ p = place) with hp | rfl
    · have := h.rest j (by omega) hj2 p hp
      split
      · rw [hX_add, this, hlow p hp]; rfl
      · exact this
    · cases hx : hX (R.getD j zW) p with
      | true => rw [if_pos ⟨hj2, by omega, rfl⟩, hX_add, hx, h2]; rfl
      | false => rw [if_neg (by simp)]; exact hx
  · refine List.pairwise_append.2 ⟨h.rise, List.pairwise_singleton .., fun a ha b hb => ?_⟩
    rw [List.mem_singleton.1 hb]; exact h.lt a ha
  · rcases List.mem_append.1 hp with hp | hp
    · exact Nat.lt_succ_of_lt (h.lt p hp)
    · rw [List.mem_singleton.1 hp]; exact Nat.lt_succ_self _
end Go.Proofs.Ytbbjpjkclealfaa
namespace Go.Proofs.Ytbbjpjkclealfaa
open Go
set_option linter.unusedVariables false
set_option linter.unusedSimpArgs false
attribute [local irreducible] pivX

theorem Elim.piv {L R : List W2} {P : List Nat} {place : Nat} (h : Elim L R P place) (i : Nat) (hi : i < P.length) : ordX.piv (R.getD i zW) = P.getD i 0 :=
  ordX.uniq _ _ (h.own i hi) (h.low i hi)
theorem pair_getD {L : List W2} {Q : W2 → W2 → Prop} (h : ∀ i j, i < j → j < L.length → Q (L.getD i zW) (L.getD j zW)) : L.Pairwise Q := by
  refine List.pairwise_iff_getElem.2 fun i j hi hj hij => ?_
  have := h i j hij hj
  simpa [List.getD, hi, hj] using this
theorem take_getD (R : List W2) (n i : Nat) (hi : i < n) : (R.take n).getD i zW = R.getD i zW := by
  simp [List.getD, hi]
/-- the rows with places, and those without any -/
theorem Elim.inv {L R : List W2} {P : List Nat} (h : Elim L R P 2016) : Inv ordX (R.take P.length) (R.drop P.length) L := by
  have hl : (R.take P.length).length = P.length := by rw [List.length_take]; have := h.len; omega
  have hb : ∀ b ∈ R.take P.length, ∃ i, i < P.length ∧ R.getD i zW = b := by
    intro b hb
    obtain ⟨i, hi, e⟩ := mem_at hb
    rw [hl] at hi
    exact ⟨i, hi, by rw [← e, take_getD _ _ _ hi]⟩
  refine ⟨⟨fun b hbm => ?_, ?_⟩, fun b hbm k hk => ?_, fun z hz => ?_, fun y => ?_⟩
  · obtain ⟨i, hi, rfl⟩ := hb b hbm
    show hX _ (ordX.piv _) = true
    rw [h.piv i hi]; exact h.own i hi
  · refine pair_getD fun i j hij hj => ?_
    rw [hl] at hj
    rw [take_getD _ _ _ hj, take_getD _ _ _ (by omega), h.piv i (by omega), h.piv j hj]
    have := h.len
    exact ⟨h.alone j hj i (by omega) (by omega), h.alone i (by omega) j (by omega) (by omega)⟩
  · obtain ⟨i, hi, rfl⟩ := hb b hbm
    rw [h.piv i hi] at hk
    exact h.low i hi k hk
  · obtain ⟨j, hj, e⟩ := List.mem_iff_getElem.1 hz
    rw [List.getElem_drop] at e
    rw [List.length_drop] at hj
    refine bare_of ordX fun p => ?_
    have hg : R.getD (P.length + j) zW = z := by rw [List.getD, List.getElem?_eq_getElem (by omega)]; exact e
    show hX z p = false
    rw [← hg]
    by_cases hp : p < 2016
    · exact h.rest _ (by omega) (by omega) p hp
    · exact hX_end _ _ (by omega)
  · rw [List.take_append_drop]; exact h.span y
theorem Elim.zeros {L R : List W2} {P : List Nat} (h : Elim L R P 2016) : ∀ z ∈ R.drop P.length, z = zW := fun z hz => (bareX z).1 (h.inv.bare z hz)
theorem Elim.base {L R : List W2} {P : List Nat} (h : Elim L R P 2016) (y : W2) : Span grpW (· ∈ R.take P.length) y ↔ Span grpW (· ∈ L) y := by
  rw [← h.inv.span y]
  constructor
  · exact Span.mono fun v hv => List.mem_append_left _ hv
  · refine Span.le fun v hv => ?_
    rcases List.mem_append.1 hv with hv | hv
    · exact .of hv
    · rw [h.zeros v hv]; exact .zero
/-- those of keys -/
theorem Elim.keysInv {L R : List W2} {P : List Nat} (h : Elim L R P 2016) : Inv ordW ((R.take P.length).filter fun b => !ordW.bare b) ((R.take P.length).filter fun b => ordW.bare b) L := by
  have hI := h.inv
  have hpiv : ∀ b ∈ (R.take P.length).filter (fun b => !ordW.bare b), ordX.piv b < 1984 ∧ ordW.piv b = keyP (ordX.piv b) := by
    intro b hb
    obtain ⟨hb1, hb2⟩ := List.mem_filter.1 hb
    have hlt : ordX.piv b < 1984 := by
      refine Classical.byContradiction fun hn => ?_
      have : ordW.bare b = true := (bareW_iff b).2 fun p hp => hI.low b hb1 p (by show p < ordX.piv b; omega)
      rw [this] at hb2; cases hb2
    exact ⟨hlt, piv_WX hlt (hI.redu.1 b hb1) (hI.low b hb1)⟩
  have hhas : ∀ (v b : W2), b ∈ (R.take P.length).filter (fun b => !ordW.bare b) → ordW.has v (ordW.piv b) = hX v (ordX.piv b) := by
    intro v b hb
    obtain ⟨h1, h2⟩ := hpiv b hb
    rw [h2]
    show decide (keyP (ordX.piv b) ∈ v.1.1) = hasX v.1 _
    unfold hasX
    rw [if_pos h1]
  refine ⟨⟨fun b hb => ?_, ?_⟩, fun b hb k hk => ?_, fun z hz => (List.mem_filter.1 hz).2, fun y => ?_⟩
  · show ordW.has b (ordW.piv b) = true
    rw [hhas b b hb]; exact hI.redu.1 b (List.mem_filter.1 hb).1
  · have hp := hI.redu.2.sublist (List.filter_sublist (p := fun b => !ordW.bare b))
    refine (List.Pairwise.and_mem.1 hp).imp ?_
    rintro b c ⟨hb, hc, h1, h2⟩
    refine ⟨?_, ?_⟩
    · show ordW.has b (ordW.piv c) = false
      rw [hhas b c hc]; exact h1
    · show ordW.has c (ordW.piv b) = false
      rw [hhas c b hb]; exact h2
  · obtain ⟨h1, h2⟩ := hpiv b hb
    obtain ⟨g1, g2⟩ := hX_right h1 (hI.redu.1 b (List.mem_filter.1 hb).1)
    show decide (k ∈ b.1.1) = false
    refine decide_eq_false fun hm => ?_
    have ho := ((keysR_iff b.1.1).1 b.2.1).1 k hm
    rw [h2] at hk
    have h3 := (key_lt ho (key_ok g1)).1 hk
    rw [key_place] at h3
    have h4 : hX b (placeK k) = false := hI.low b (List.mem_filter.1 hb).1 _ h3
    rw [hX_key b ho] at h4
    simp [hm] at h4
  · rw [← h.base y]
    constructor
    · refine Span.mono fun v hv => ?_
      rcases List.mem_append.1 hv with hv | hv
      · exact (List.mem_filter.1 hv).1
      · exact (List.mem_filter.1 hv).1
    · refine Span.mono fun v hv => ?_
      cases hb : ordW.bare v with
      | true => exact List.mem_append_right _ (List.mem_filter.2 ⟨hv, hb⟩)
      | false => exact List.mem_append_left _ (List.mem_filter.2 ⟨hv, by rw [hb]; rfl⟩)
theorem Elim.bare_at {L R : List W2} {P : List Nat} (h : Elim L R P 2016) (i : Nat) (hi : i < P.length) : ordW.bare (R.getD i zW) = !decide (P.getD i 0 < 1984) := by
  by_cases hp : P.getD i 0 < 1984
  · cases hb : ordW.bare (R.getD i zW) with
    | false => rw [decide_eq_true hp]; rfl
    | true =>
      have := (bareW_iff _).1 hb _ hp
      rw [h.own i hi] at this; cases this
  · have : ordW.bare (R.getD i zW) = true := (bareW_iff _).2 fun p hp2 => h.low i hi p (by omega)
    rw [this, decide_eq_false hp]; rfl
/-- how many places of keys there are -/
def ofKeysN (P : List Nat) : Nat := (P.filter fun p => decide (p < 1984)).length
theorem Elim.agree {L R : List W2} {P : List Nat} (h : Elim L R P 2016) : (∀ p ∈ P, p < 1984) ↔ ∀ z ∈ (baseG ordW L).2, z = grpW.zero := by
  rw [agreed_iff ordW L]
  constructor
  · intro hp y hy hb
    refine (bareX y).1 (bare_of ordX fun k => ?_)
    show hX y k = false
    refine Classical.byContradiction fun hn => ?_
    have hbf : ordX.bare y = false := by
      cases hb2 : ordX.bare y with
      | false => rfl
      | true => exact absurd (ordX.bare1 y hb2 k) hn
    obtain ⟨h1, h2⟩ := ordX.bare2 y hbf
    obtain ⟨b, hbm, e⟩ := lead_in ordX h.inv.redu h.inv.low h.inv.bare ((h.inv.span y).2 hy) h1 h2
    obtain ⟨i, hi, rfl⟩ := mem_at hbm
    have hi' : i < P.length := by rw [List.length_take] at hi; omega
    rw [take_getD _ _ _ hi', h.piv i hi'] at e
    have hlt := hp (P.getD i 0) (by rw [List.getD, List.getElem?_eq_getElem hi']; exact List.getElem_mem hi')
    have h3 := (bareW_iff y).1 hb _ hlt
    rw [e] at h3
    have h4 : hX y (ordX.piv y) = true := h1
    rw [h4] at h3; cases h3
  · intro hy p hp
    obtain ⟨i, hi, rfl⟩ := List.mem_iff_getElem.1 hp
    refine Classical.byContradiction fun hn => ?_
    have hg : P.getD i 0 = P[i] := by rw [List.getD, List.getElem?_eq_getElem hi]; rfl
    have hbare := h.bare_at i hi
    rw [hg] at hbare
    have h0 := hy (R.getD i zW) ((h.base _).1 (.of (by
      have := mem_getD (R.take P.length) i (by rw [List.length_take]; have := h.len; omega)
      rwa [take_getD _ _ _ hi] at this))) (by rw [hbare]; simp [hn])
    have := h.own i hi
    rw [h0, hX_zero] at this
    cases this
end Go.Proofs.Ytbbjpjkclealfaa
namespace Go.Proofs.Ytbbjpjkclealfaa
open Go
set_option linter.unusedVariables false
set_option linter.unusedSimpArgs false

/-- n bits as a number, the first one lowest -/
def packN (f : Nat → Bool) : Nat → Nat
  | 0 => 0
  | n + 1 => packN f n + (if f n = true then 2 ^ n else 0)
theorem packN_lt (f : Nat → Bool) : ∀ n, packN f n < 2 ^ n
  | 0 => by simp [packN]
  | n + 1 => by
    have ih := packN_lt f n
    unfold packN
    rw [Nat.pow_succ]
    split <;> omega
theorem packN_bit (f : Nat → Bool) : ∀ (n i : Nat), (packN f n).testBit i = (decide (i < n) && f i)
  | 0, i => by simp [packN]
  | n + 1, i => by
    have ih := packN_bit f n i
    have hl := packN_lt f n
    unfold packN
    by_cases hf : f n = true
    · rw [if_pos hf, Nat.add_comm, show 2 ^ n + packN f n = 2 ^ n * 1 + packN f n by omega, Nat.testBit_two_pow_mul_add 1 hl]
      by_cases hi : i < n
      · rw [if_pos hi, ih]; simp [hi, show i < n + 1 by omega]
      · rw [if_neg hi]
        by_cases he : i = n
        · subst he; simp [hf]
        · have h1 : (1 : Nat).testBit (i - n) = false := by
            rw [show i - n = (i - n - 1) + 1 by omega, Nat.testBit_succ]
            simp
          rw [h1]
          simp [show ¬ i < n + 1 by omega]
    · rw [if_neg hf, Nat.add_zero, ih]
      by_cases he : i = n
      · subst he
        have : f i = false := by simpa using hf
        simp [this]
      · by_cases hi : i < n
        · simp [hi, show i < n + 1 by omega]
        · simp [hi, show ¬ i < n + 1 by omega]
theorem packN_eq (f : Nat → Bool) (n m : Nat) (hm : m < 2 ^ n) (h : ∀ i, i < n → m.testBit i = f i) : packN f n = m := by
  refine Nat.eq_of_testBit_eq fun i => ?_
  rw [packN_bit]
  by_cases hi : i < n
  · rw [h i hi]; simp [hi]
  · rw [Nat.testBit_lt_two_pow (Nat.lt_of_lt_of_le hm (Nat.pow_le_pow_right (by decide) (by omega)))]; simp [hi]
theorem packN_congr {f h : Nat → Bool} {n : Nat} (e : ∀ i, i < n → f i = h i) : packN f n = packN h n := by
  refine packN_eq f n _ (packN_lt h n) fun i hi => ?_
  rw [packN_bit, e i hi]; simp [hi]
theorem packN_xor (f h : Nat → Bool) (n : Nat) : packN f n ^^^ packN h n = packN (fun i => f i != h i) n := by
  refine (packN_eq _ n _ (Nat.xor_lt_two_pow (packN_lt f n) (packN_lt h n)) fun i hi => ?_).symm
  rw [Nat.testBit_xor, packN_bit, packN_bit]; simp [hi]
theorem packN_or (f : Nat → Bool) (n k : Nat) (hk : k < n) : packN f n ||| 2 ^ k = packN (fun i => f i || decide (i = k)) n := by
  refine (packN_eq _ n _ (Nat.or_lt_two_pow (packN_lt f n) (Nat.pow_lt_pow_right (by decide) hk)) fun i hi => ?_).symm
  rw [Nat.testBit_or, packN_bit, Nat.testBit_two_pow]
  by_cases e : k = i
  · subst e; simp [hi]
  · simp [hi, e, Ne.symm e]
theorem packN_shr (f : Nat → Bool) (n i : Nat) (hi : i < n) : packN f n / 2 ^ i % 2 = if f i = true then 1 else 0 := by
  have h := packN_bit f n i
  rw [Nat.testBit_eq_decide_div_mod_eq] at h
  simp only [hi, decide_true, Bool.true_and] at h
  have h2 : packN f n / 2 ^ i % 2 < 2 := Nat.mod_lt _ (by decide)
  cases hf : f i with
  | true => rw [hf] at h; have := of_decide_eq_true h; simp; omega
  | false => rw [hf] at h; have := of_decide_eq_false h; simp; omega
/-- the j-th number of a row -/
def rowB (f : Nat → Bool) (j : Nat) : Nat := packN (fun i => f (64 * j + i)) 64
theorem rowB_lt (f : Nat → Bool) (j : Nat) : rowB f j < 18446744073709551616 := packN_lt _ 64
theorem rowB_bit (f : Nat → Bool) (p : Nat) : rowB f (p / 64) / 2 ^ (p % 64) % 2 = if f p = true then 1 else 0 := by
  have h := packN_shr (fun i => f (64 * (p / 64) + i)) 64 (p % 64) (Nat.mod_lt _ (by decide))
  rw [show 64 * (p / 64) + p % 64 = p by omega] at h
  exact h
theorem rowB_xor (f h : Nat → Bool) (j : Nat) : rowB f j ^^^ rowB h j = rowB (fun p => f p != h p) j := packN_xor _ _ 64
theorem rowB_or_same (f : Nat → Bool) (p : Nat) : rowB f (p / 64) ||| 2 ^ (p % 64) = rowB (fun q => f q || decide (q = p)) (p / 64) := by
  unfold rowB
  rw [packN_or _ _ _ (Nat.mod_lt _ (by decide))]
  refine packN_congr fun i hi => ?_
  congr 1
  rw [decide_eq_decide]
  omega
theorem rowB_or_other (f : Nat → Bool) (p j : Nat) (h : j ≠ p / 64) : rowB f j = rowB (fun q => f q || decide (q = p)) j := by
  unfold rowB
  refine packN_congr fun i hi => ?_
  have : ¬ 64 * j + i = p := by omega
  simp [this]
theorem rowB_congr {f h : Nat → Bool} (j : Nat) (e : ∀ i, i < 64 → f (64 * j + i) = h (64 * j + i)) : rowB f j = rowB h j := packN_congr e
theorem rowB_inj {f h : Nat → Bool} (e : ∀ j, j < 32 → rowB f j = rowB h j) (p : Nat) (hp : p < 2048) : f p = h p := by
  have h1 := rowB_bit f p
  rw [e (p / 64) (by omega), rowB_bit h p] at h1
  revert h1
  cases f p <;> cases h p <;> simp
/-- the numbers of a row, as they lie -/
def rowV (f : Nat → Bool) : List Value := (List.range 32).map fun j => Value.int .u64 ((rowB f j : Nat) : Int)
theorem rowV_len (f : Nat → Bool) : (rowV f).length = 32 := by simp [rowV]
theorem rowV_get (f : Nat → Bool) (j : Nat) (hj : j < 32) : (rowV f)[j]? = some (.int .u64 ((rowB f j : Nat) : Int)) := by simp [rowV, hj]
theorem rowV_one (f : Nat → Bool) : ∀ u ∈ rowV f, u.oneCell' = true := by
  intro u hu
  obtain ⟨j, _, rfl⟩ := List.mem_map.1 hu
  rfl
theorem rowV_congr {f h : Nat → Bool} (e : ∀ p, p < 2048 → f p = h p) : rowV f = rowV h := by
  unfold rowV
  refine List.map_congr_left fun j hj => ?_
  have hj' := List.mem_range.1 hj
  rw [rowB_congr j fun i hi => e _ (by omega)]
theorem rowV_inj {f h : Nat → Bool} (e : rowV f = rowV h) (p : Nat) (hp : p < 2048) : f p = h p := by
  refine rowB_inj (fun j hj => ?_) p hp
  have h1 := rowV_get f j hj
  rw [e, rowV_get h j hj] at h1
  have h2 := Option.some.inj h1
  injection h2 with _ h3
  omega
theorem u64_xor (n m : Nat) (hn : n < 18446744073709551616) (hm : m < 18446744073709551616) : bits .xor .u64 (n : Int) (m : Int) = ((n ^^^ m : Nat) : Int) := by
  have hx := Nat.xor_lt_two_pow (n := 64) hn hm
  show IntKind.u64.wrap ((BitVec.ofInt 64 (n : Int) ^^^ BitVec.ofInt 64 (m : Int)).toNat : Nat) = _
  rw [bv_nat, bv_nat, BitVec.toNat_xor, BitVec.toNat_ofNat, BitVec.toNat_ofNat, Nat.mod_eq_of_lt (by omega), Nat.mod_eq_of_lt (by omega)]
  generalize n ^^^ m = z at *
  rw [IntKind.wrap_u64]; omega
theorem u64_or (n m : Nat) (hn : n < 18446744073709551616) (hm : m < 18446744073709551616) : bits .or .u64 (n : Int) (m : Int) = ((n ||| m : Nat) : Int) := by
  have hx := Nat.or_lt_two_pow (n := 64) hn hm
  show IntKind.u64.wrap ((BitVec.ofInt 64 (n : Int) ||| BitVec.ofInt 64 (m : Int)).toNat : Nat) = _
  rw [bv_nat, bv_nat, BitVec.toNat_or, BitVec.toNat_ofNat, BitVec.toNat_ofNat, Nat.mod_eq_of_lt (by omega), Nat.mod_eq_of_lt (by omega)]
  generalize n ||| m = z at *
  rw [IntKind.wrap_u64]; omega
theorem u64_and1 (n : Nat) (hn : n < 18446744073709551616) : bits .and .u64 (n : Int) 1 = ((n % 2 : Nat) : Int) := by
  show IntKind.u64.wrap ((BitVec.ofInt 64 (n : Int) &&& BitVec.ofInt 64 ((1 : Nat) : Int)).toNat : Nat) = _
  rw [bv_nat, bv_nat, BitVec.toNat_and, BitVec.toNat_ofNat, BitVec.toNat_ofNat, Nat.mod_eq_of_lt (by omega), Nat.mod_eq_of_lt (by omega), Nat.and_one_is_mod]
  have : n % 2 < 2 := Nat.mod_lt _ (by decide)
  rw [IntKind.wrap_u64]; omega
end Go.Proofs.Ytbbjpjkclealfaa
namespace Go.Proofs.Ytbbjpjkclealfaa
open Go.ChangeShapes Go.WideShapes Go.ChangeAt Go.RowKit Go.BigFrame
set_option linter.unusedVariables false

set_option maxRecDepth 100000 in
theorem ihas_any (g o : Nat) (f : Nat → Bool) (p : Nat) (hp : p < 2048) (w : World) (h : w.rangeAt g o (rowV f)) :
    Calls Try.prog 49 #[.pointer (some ⟨g, o, none⟩), .int .i64 (p : Int)] w fun e w' => e = .returned (.bool (f p)) ∧ w' = w := by
  have hc := h (p / 64) _ (rowV_get f (p / 64) (by omega))
  have hb := rowB_bit f p
  have hlt := rowB_lt f (p / 64)
  generalize rowB f (p / 64) = n at *
  have hq : (bits .and .u64 ((n : Int) / 2 ^ (p % 64)) 1 == 1) = f p := by
    have h1 : (n : Int) / 2 ^ (p % 64) = ((n / 2 ^ (p % 64) : Nat) : Int) := by rw [Int.natCast_ediv, Int.natCast_pow]; rfl
    have h2 : n / 2 ^ (p % 64) < 18446744073709551616 := Nat.lt_of_le_of_lt (Nat.div_le_self _ _) hlt
    rw [h1, u64_and1 _ h2, hb]
    cases f p <;> rfl
  have HQ := Lib.hid hq
  clear hq hb hlt
  have e3 : (0 : Int) ≤ ((p / 64 : Nat) : Int) := by omega
  have e4 : ((p / 64 : Nat) : Int) < 32 := by omega
  clear h
  go_enter Try.func49, Try.ntmps49
  go_wp2
  go_ret
  exact ⟨by rw [HQ.out]; rfl, rfl⟩
/-- the same heap, nothing told; what was drawn aside -/
structure Alike (w w' : World) : Prop where
  heap : w'.heap = w.heap
  os : w'.os = w.os
  tape : w'.tape = w.tape
  output : w'.output = w.output
theorem Alike.refl (w : World) : Alike w w := ⟨rfl, rfl, rfl, rfl⟩
theorem Alike.cell {w w' : World} (h : Alike w w') (a : Addr) : w'.cell? a = w.cell? a := by simp [World.cell?, h.heap]
theorem Alike.frozen {w w' : World} (h : Alike w w') (a : Addr) : w'.frozen? a = w.frozen? a := by simp [World.frozen?, h.heap]
theorem Alike.setCell {w w' : World} (h : Alike w w') (a : Addr) (v : Value) : Alike (w.setCell a v) (w'.setCell a v) :=
  ⟨by simp [World.setCell, h.heap], h.os, h.tape, h.output⟩
theorem Alike.drew {w w' : World} (h : Alike w w') : Alike w w'.drew := ⟨h.heap, h.os, h.tape, h.output⟩
theorem Alike.trans {a b c : World} (h : Alike a b) (k : Alike b c) : Alike a c := ⟨k.heap.trans h.heap, k.os.trans h.os, k.tape.trans h.tape, k.output.trans h.output⟩
theorem Alike.below {w w' : World} {n : Nat} (h : Alike w w') : Below n w w' := ⟨h.os, h.tape, h.output, by rw [h.heap]; exact Nat.le_refl _, fun k _ => by rw [h.heap]⟩
theorem Alike.own {w w' : World} (h : Alike w w') {base n : Nat} {e : TypeId} {size : Nat} {v : Value} {xs : List Value} (ho : w.ownsRow base e size v n xs) : w'.ownsRow base e size v n xs := by
  unfold World.ownsRow at *
  rw [h.heap]; exact ho
theorem setCells_snoc (b : Nat) (v : Value) : ∀ (vs : List Value) (o : Nat) (w : World), w.setCells b o (vs ++ [v]) = (w.setCells b o vs).setCell ⟨b, o + vs.length, none⟩ v
  | [], o, w => by simp [World.setCells]
  | u :: vs, o, w => by
    rw [List.cons_append, World.setCells, World.setCells, setCells_snoc b v vs (o + 1) _]
    congr 2
    simp only [List.length_cons]; omega
set_option maxRecDepth 100000 in
set_option maxHeartbeats 1000000 in
theorem iturn_any (g o : Nat) (f : Nat → Bool) (g' o' : Nat) (h : Nat → Bool) (w : World) (hf : w.rangeAt g o (rowV f)) (hh : w.rangeAt g' o' (rowV h)) (ht : w.there g o 32) (hap : g' ≠ g ∨ o' + 32 ≤ o ∨ o + 32 ≤ o') :
    Calls Try.prog 50 #[.pointer (some ⟨g, o, none⟩), .pointer (some ⟨g', o', none⟩)] w fun e w' => e = .returned (.tuple #[]) ∧ Alike (w.setCells g o (rowV fun p => f p != h p)) w' := by
  have hlen := rowV_len fun p => f p != h p
  go_enter Try.func50, Try.ntmps50
  go_wp2_with fail
  go_loopw [5] (fun i wr => ∃ k : Nat, k ≤ 32 ∧ i = .int .i64 k ∧ Alike (w.setCells g o ((rowV fun p => f p != h p).take k)) wr) (fun i _ => 32 - (intOf i).toNat)
  case atStart => exact ⟨0, Nat.zero_le _, rfl, Alike.refl _⟩
  case round =>
    obtain ⟨k, hk, rfl, hA⟩ := hrel
    rename_i wr
    by_cases hlt : k < 32
    · have z0 : (0 : Int) ≤ (k : Int) := by omega
      have z1 : (k : Int) < 32 := by omega
      have hkl : ((rowV fun p => f p != h p).take k).length = k := by rw [List.length_take, hlen]; omega
      have c1 : wr.cell? ⟨g, o + k, none⟩ = some (.int .u64 (rowB f k : Nat)) := by
        rw [hA.cell, World.cell?_setCells_out g _ o w ⟨g, o + k, none⟩ (fun _ _ => by rw [hkl]; right; show o + k ≤ o + k; omega)]
        exact hf k _ (rowV_get f k hlt)
      have c2 : wr.cell? ⟨g', o' + k, none⟩ = some (.int .u64 (rowB h k : Nat)) := by
        rw [hA.cell, World.cell?_setCells_out g _ o w ⟨g', o' + k, none⟩ (fun hb _ => by
          rw [hkl]
          have hb' : g' = g := hb
          rcases hap with hap | hap | hap
          · exact absurd hb' hap
          · left; show o' + k < o; omega
          · right; show o + k ≤ o' + k; omega)]
        exact hh k _ (rowV_get h k hlt)
      have c3 : wr.frozen? ⟨g, o + k, none⟩ = false := by
        rw [hA.frozen, World.frozen?_setCells]; exact (ht k hlt).2
      have hx := u64_xor (rowB f k) (rowB h k) (rowB_lt f k) (rowB_lt h k)
      rw [rowB_xor] at hx
      have hst : Alike (w.setCells g o ((rowV fun p => f p != h p).take (k + 1))) (wr.setCell ⟨g, o + k, none⟩ (.int .u64 (rowB (fun p => f p != h p) k : Nat))) := by
        rw [List.take_add_one, rowV_get _ k hlt]
        show Alike (w.setCells g o (_ ++ [_])) _
        rw [setCells_snoc, hkl]
        exact hA.setCell _ _
      have HST := Lib.hid hst
      clear hst hf hh ht hap hkl hlen hA
      go_wp2_with fail
      go_region_with (fail)
      all_goals
        go_wp2
        exact ⟨⟨k + 1, by omega, by go_num, by first | exact HST.out | exact HST.out.drew⟩, by simp [intOf]; omega⟩
    · obtain rfl : k = 32 := by omega
      rw [List.take_of_length_le (by omega)] at hA
      have HA := Lib.hid hA
      clear hA hf hh ht hap
      go_wp2
      go_end0
      exact ⟨rfl, HA.out⟩
end Go.Proofs.Ytbbjpjkclealfaa
namespace Go.Proofs.Ytbbjpjkclealfaa
open Go.RowKit Go.Shelf
attribute [local go_sem] Oper.semAt_some
set_option linter.unusedVariables false

/-- the slice value v leads to the keys ks, in blocks below n₀ -/
def keysIn0 (n₀ : Nat) (w : World) (v : Value) (ks : List K2) : Prop :=
  ∃ a cap, v = .slice a ks.length cap ∧ ks.length ≤ cap ∧ (ks.length = 0 ∨ ∃ g off, a = some ⟨g, off, none⟩ ∧ g < n₀ ∧ g < w.heap.size ∧
    ∀ i, i < ks.length → w.cell? ⟨g, off + i * 2, none⟩ = some (.int .i64 (ks.getD i (0, 0)).1) ∧ w.cell? ⟨g, off + i * 2 + 1, none⟩ = some (.int .i64 (ks.getD i (0, 0)).2))
theorem keysIn0.below {n₀ : Nat} {w w' : World} {v : Value} {ks : List K2} (h : keysIn0 n₀ w v ks) (hb : Below n₀ w w') : keysIn0 n₀ w' v ks := by
  obtain ⟨a, cap, h1, h2, h3⟩ := h
  refine ⟨a, cap, h1, h2, h3.imp_right ?_⟩
  rintro ⟨g, off, h4, h0, h5, h6⟩
  refine ⟨g, off, h4, h0, Nat.lt_of_lt_of_le h5 hb.size, fun i hi => ?_⟩
  rw [hb.cell (p := ⟨g, off + i * 2, none⟩) h0, hb.cell (p := ⟨g, off + i * 2 + 1, none⟩) h0]
  exact h6 i hi
theorem keysIn0.at {n₀ : Nat} {w : World} {v : Value} {ks : List K2} (h : keysIn0 n₀ w v ks) : keysAt w v ks := by
  obtain ⟨a, cap, h1, h2, h3⟩ := h
  exact ⟨a, cap, h1, h2, h3.imp_right fun ⟨g, off, h4, _, h5, h6⟩ => ⟨g, off, h4, h5, h6⟩⟩
theorem keysIn0_of {w : World} {v : Value} {ks : List K2} (h : keysAt w v ks) : keysIn0 w.heap.size w v ks := by
  obtain ⟨a, cap, h1, h2, h3⟩ := h
  exact ⟨a, cap, h1, h2, h3.imp_right fun ⟨g, off, h4, h5, h6⟩ => ⟨g, off, h4, h5, h5, h6⟩⟩

theorem kin_any (a : Option Addr) (n c : Nat) (w : World) :
    Calls Try.prog 91 #[.slice a n c] w fun e w' => e = .returned (.func (.func 111) #[] #[.pointer (some ⟨w.heap.size, 0, none⟩)]) ∧ w' = w.alloc (.cells #[.slice a n c] 25) := by
  go_enter Try.func91, Try.ntmps91
  go_wp2
  go_ret
  exact ⟨rfl, rfl⟩

end Go.Proofs.Ytbbjpjkclealfaa
namespace Go.Proofs.Ytbbjpjkclealfaa
open Go.RowKit Go.Shelf
attribute [local go_sem] Oper.semAt_some
set_option linter.unusedVariables false

/-- a right key -/
abbrev RK := { k : K2 // keyOkB k = true }
def rk0 : RK := ⟨(1, 1), by decide⟩
theorem rk_len (ks : List RK) : (ks.map (·.1)).length = ks.length := List.length_map ..
theorem rk_get (ks : List RK) (k : Nat) (hk : k < ks.length) : (ks.map (·.1)).getD k (0, 0) = (ks.getD k rk0).1 := by simp [List.getD, hk]
set_option maxRecDepth 100000 in
set_option maxHeartbeats 1000000 in
/-- the iterator's closure: every key, in order, or as far as the round says -/
theorem kir_in (n l Bn n₀ : Nat) (v : Value) (ks : List RK) (hs : ks.length ≤ 8000000) (hn : 1 ≤ n) (J Jx : List RK → World → Prop)
    (hJ : ∀ s W W', J s W → W.grownBy W' none → J s W')
    (hY : ∀ pre x W, J pre W → pre.length < ks.length → YieldAt Fence.wide (n - 1) Try.prog l #[kv x.1] W fun e W' =>
      (e = .returned (.bool true) ∧ J (pre ++ [x]) W' ∧ Below n₀ W W') ∨ (e = .returned (.bool false) ∧ Jx (pre ++ [x]) W'))
    (W : World) (hBn : W.cell? ⟨Bn, 0, none⟩ = some v) (hk : keysIn0 n₀ W v (ks.map (·.1))) (hn₀ : n₀ ≤ W.heap.size) (h0 : J [] W) :
    CallsIn Fence.wide n Try.prog 111 #[.func (.yield l) #[] #[], .pointer (some ⟨Bn, 0, none⟩)] W fun e W' => (∃ v, e = .returned v) ∧
      ((∃ ys : List RK, ys = ks ∧ J ys W') ∨ (∃ pre : List RK, pre <+: ks ∧ Jx pre W')) := by
  refine callsIn_of_wp Try.func111 rfl trivial ?_ rfl
  simp only [Try.ntmps111, List.size_toArray, List.length_cons, List.length_nil, Nat.reduceAdd, Nat.reduceSub, Array.replicate_succ, Array.replicate_zero, List.push_toArray, List.append_toArray, List.nil_append, List.cons_append]
  obtain ⟨a, cap, rfl, hcap, hcells⟩ := id hk
  rw [rk_len] at *
  gi_wp2
  gi_loopw [7] (fun p wr => ∃ (k : Nat), p = .int .i64 k ∧ k ≤ ks.length ∧ keysIn0 n₀ wr (.slice a ks.length cap) (ks.map (·.1)) ∧ n₀ ≤ wr.heap.size ∧ J (ks.take k) wr)
    (fun p wr => ks.length + 1 - (intOf p).toNat)
  case atStart => exact ⟨0, rfl, Nat.zero_le _, hk, hn₀, h0⟩
  case round =>
    obtain ⟨k, rfl, hk1, hkw, hnw, hJs⟩ := hrel
    by_cases hlt : k < ks.length
    · have hkw' := hkw
      obtain ⟨a2, cap2, hv2, _, hcs⟩ := hkw
      rw [rk_len] at hv2 hcs
      cases hv2
      obtain ⟨g, off, rfl, hg0, hg, hcs⟩ := hcs.resolve_left (by omega)
      have c1 := hcs k hlt
      rw [rk_get ks k hlt] at c1
      have C1 := c1.1
      have C2 := c1.2
      have hks : ks.take (k + 1) = ks.take k ++ [ks.getD k rk0] := by rw [List.take_add_one]; simp [List.getD, hlt]
      have hlen : (ks.take k).length < ks.length := by simp; omega
      have z0 : (0 : Int) ≤ (k : Int) := by omega
      have z1 : (k : Int) < (ks.length : Int) := by omega
      clear hcs c1 hcells
      generalize ks.getD k rk0 = kx at *
      obtain ⟨⟨p, q⟩, hpq⟩ := kx
      have HKS := Lib.hid hks; clear hks
      dsimp only at C1 C2
      have hJa : J (ks.take k) ((wr.alloc (.cells #[.int .i64 p, .int .i64 q] 41))) := hJ _ _ _ hJs (World.grownBy_alloc wr _ none)
      have hka : keysIn0 n₀ (wr.alloc (.cells #[.int .i64 p, .int .i64 q] 41)) (.slice (some ⟨g, off, none⟩) ks.length cap) (ks.map (·.1)) := hkw'.below ((Below.refl _ _).alloc hnw _)
      have hsa : n₀ ≤ (wr.alloc (.cells #[.int .i64 p, .int .i64 q] 41)).heap.size := by simp; omega
      obtain ⟨fn, tmps, assign, body, hy, hR⟩ := hY (ks.take k) ⟨(p, q), hpq⟩ _ hJa hlen
      unfold kv at hy
      dsimp only at hy
      clear hY hJa
      gi_wp2
      refine hR.mono ?_
      rintro e W3 (⟨rfl, hJ3, hk3⟩ | ⟨rfl, hJx3⟩)
      · have hk3' := hka.below hk3
        have hsz3 := Nat.le_trans hsa hk3.size
        rw [← HKS.out] at hJ3
        clear hka hsa hkw' C1 C2
        gi_wp2
        exact ⟨⟨k + 1, by go_num, by omega, hk3', hsz3, hJ3⟩, by simp [intOf]; omega⟩
      · rw [← HKS.out] at hJx3
        clear hka hsa hkw' C1 C2
        gi_wp2
        refine bodyPost_ret (results_none rfl _ _ _) rfl ?_
        exact ⟨⟨_, rfl⟩, .inr ⟨_, List.take_prefix _ _, hJx3⟩⟩
    · obtain rfl : k = ks.length := by omega
      rw [List.take_length] at hJs
      gi_wp2
      go_end0
      exact ⟨⟨_, rfl⟩, .inl ⟨_, rfl, hJs⟩⟩

theorem kir_stops (n Bn n₀ : Nat) (v : Value) (ks : List RK) (hs : ks.length ≤ 8000000) (hn : 1 ≤ n) (w : World) (hBn : Bn < w.heap.size) (hn₀ : n₀ ≤ w.heap.size) (hc : w.cell? ⟨Bn, 0, none⟩ = some v) (hk : keysIn0 n₀ w v (ks.map (·.1))) :
    SeqStopsK Fence.wide n Try.prog 111 #[.pointer (some ⟨Bn, 0, none⟩)] (fun x : RK => #[kv x.1]) (Below n₀) (fun ys => ys = ks) (fun pre => pre <+: ks) ks.length w :=
  fun l J Jx W hW hJ _ hY h0 => kir_in n l Bn n₀ v ks hs hn J Jx (fun s A B h hg => hJ s A B none h hg (fun r e => by cases e)) hY W ((hW.cell (p := ⟨Bn, 0, none⟩) hBn).trans hc) (hk.below (hW.mono hn₀)) (Nat.le_trans hn₀ hW.size) h0
end Go.Proofs.Ytbbjpjkclealfaa
namespace Go.Proofs.Ytbbjpjkclealfaa
open Go.ChangeShapes Go.WideShapes Go.ChangeAt Go.RowKit Go.BigFrame
set_option linter.unusedVariables false

theorem iplace_any (k : K2) (hk : keyOkB k = true) (w : World) : Calls Try.prog 92 #[kv k] w fun e w' => e = .returned (.int .i64 (placeK k : Nat)) ∧ Below w.heap.size w w' := by
  obtain ⟨⟨h1, h2⟩, h3, h4⟩ := (keyOk_iff k).1 hk
  obtain ⟨p, q⟩ := k
  dsimp only at h1 h2 h3 h4
  have e1 : IntKind.i64.wrap (p - 1) = p - 1 := IntWalk.i64_in _ (by omega)
  have e2 : IntKind.i64.wrap ((p - 1) * 99) = (p - 1) * 99 := IntWalk.i64_in _ (by omega)
  have e3 : IntKind.i64.wrap ((p - 1) * 99 + q) = (p - 1) * 99 + q := IntWalk.i64_in _ (by omega)
  have e4 : IntKind.i64.wrap ((p - 1) * 99 + q - 1) = (p - 1) * 99 + q - 1 := IntWalk.i64_in _ (by omega)
  have he : ((placeK (p, q) : Nat) : Int) = (p - 1) * 99 + q - 1 := by unfold placeK; dsimp only; omega
  have HE := Lib.hid he
  have HB := Lib.hid ((Below.refl w.heap.size w).alloc (Nat.le_refl _) (.cells #[.int .i64 p, .int .i64 q] 41))
  clear he hk h1 h2 h3 h4
  unfold kv
  dsimp only
  go_enter Try.func92, Try.ntmps92
  go_wp2
  go_ret
  exact ⟨by rw [HE.out]; rfl, HB.out⟩
theorem ikeyat_any (p : Nat) (hp : p < 100000) (w : World) : Calls Try.prog 57 #[.int .i64 (p : Int)] w fun e w' => e = .returned (kv (keyP p)) ∧ Below w.heap.size w w' := by
  have e1 : IntKind.i64.wrap ((p : Int) / 99 + 1) = (p : Int) / 99 + 1 := IntWalk.i64_in _ (by omega)
  have e2 : IntKind.i64.wrap ((p : Int) % 99 + 1) = (p : Int) % 99 + 1 := IntWalk.i64_in _ (by omega)
  have he : kv (keyP p) = .agg #[.int .i64 ((p : Int) / 99 + 1), .int .i64 ((p : Int) % 99 + 1)] := by
    unfold kv keyP
    dsimp only
    rw [show (((p / 99 : Nat) : Int) + 1) = (p : Int) / 99 + 1 by omega, show (((p % 99 : Nat) : Int) + 1) = (p : Int) % 99 + 1 by omega]
  have HB := Lib.hid (fun x y => ((Below.refl w.heap.size w).alloc (Nat.le_refl _) (.cells #[x, y] 41)))
  have hl := fun x y : Value => run_loadVar_row (P := Try.prog) (w.alloc (.cells #[x, y] 41)) w.heap.size 41 41 #[x, y] (0, 0) _ (heap_alloc_new w _) Try.underlying41 rfl (by kernel_rfl)
  have HL := Lib.hid hl
  clear hl
  rw [he]
  clear he
  go_enter Try.func57, Try.ntmps57
  go_wp2
  refine bodyPost_ret (v := .agg #[.int .i64 ((p : Int) / 99 + 1), .int .i64 ((p : Int) % 99 + 1)]) ?_ rfl ⟨rfl, HB.out _ _⟩
  rw [results_cell (p := 2) (ty := 41) (by kernel_rfl)]
  have hl := HL.out (.int .i64 ((p : Int) / 99 + 1)) (.int .i64 ((p : Int) % 99 + 1))
  simp [asAddr, Result.andThen, hl]
end Go.Proofs.Ytbbjpjkclealfaa
namespace Go.Proofs.Ytbbjpjkclealfaa
open Go
section
variable {P : Program} {ops : Array Oper} {Q : Exit → Act → World → Prop} {md : Region.Mode} {S : World → Prop}

/-- whatever order is picked from here on; behind each operation a sharper condition holds -/
def wpG (P : Program) (md : Region.Mode) (ops : Array Oper) (Q : Exit → Act → World → Prop) : Nat → (World → Prop) → Array Bool → Act → World → Prop
  | 0, _, listed, a, w => Region.ready md ops listed = [] ∧ Q .normal a w
  | fuel + 1, S, listed, a, w =>
    (Region.ready md ops listed = [] → Q .normal a w) ∧
    ∀ i ∈ Region.ready md ops listed, wpOp P ops Q i (fun a' w' => ∃ S' : World → Prop, (∀ x, S' x → S x) ∧ S' w' ∧ wpG P md ops Q fuel S' (listed.setIfInBounds i true) a' w') a w

theorem wpAny_of_G : ∀ (fuel : Nat) (S : World → Prop) (listed : Array Bool) (a : Act) (w : World), wpG P md ops Q fuel S listed a w → wpAny P md ops Q fuel listed a w
  | 0, _, _, _, _, h => h
  | fuel + 1, S, _, _, _, h => ⟨h.1, fun i hi => wpOp_mono (fun a' w' ⟨S', _, _, h'⟩ => wpAny_of_G fuel S' _ a' w' h') (h.2 i hi)⟩

theorem YieldsIf.sharper {S' : World → Prop} {o : Oper} {v : Value} {a : Act} (h : ∀ x, S' x → S x) (hy : YieldsIf P ops S o v a) : YieldsIf P ops S' o v a :=
  hy.imp (fun ⟨hw, hv⟩ => ⟨hw, fun w hs => hv w (h w hs)⟩) id

theorem wpG_first {i : Nat} {oi : Oper} {v : Value} (hi : ops[i]? = some oi) (hsel : ∀ (j : Nat) (o : Oper) cs b, ops[j]? = some o → o.op ≠ .select cs b)
    (hQ : ∀ c a w, Q (.panic c) (a.put oi.dst v) w → Q (.panic c) a w) :
    ∀ (fuel : Nat) (S : World → Prop) (listed : Array Bool) (a : Act) (w : World),
      (∀ j oj, ops[j]? = some oj → j ≠ i → listed.getD j true = false → (∀ e ∈ oj.after, Region.binds md e = true → e.on ≠ i) → oi.apart ops oj = true) →
      i ∈ Region.ready md ops listed → YieldsIf P ops S oi v a → S w →
      wpG P md ops Q fuel S (listed.setIfInBounds i true) (a.put oi.dst v) w → wpG P md ops Q (fuel + 1) S listed a w := by
  intro fuel
  induction fuel with
  | zero =>
    intro S listed a w _ hr hy hS H
    refine ⟨fun h => (by rw [h] at hr; cases hr), fun j hj => ?_⟩
    by_cases hji : j = i
    · subst hji; exact hy.wpOp hi hS ⟨S, fun _ h => h, hS, H⟩
    · have := ready_mono hj hji
      rw [H.1] at this
      cases this
  | succ fuel ih =>
    intro S listed a w hfree hr hy hS H
    refine ⟨fun h => (by rw [h] at hr; cases hr), fun j hj => ?_⟩
    by_cases hji : j = i
    · subst hji; exact hy.wpOp hi hS ⟨S, fun _ h => h, hS, H⟩
    · have h1 := H.2 j (ready_mono hj hji)
      obtain ⟨hjun, oj, hoj, hall⟩ := mem_ready.1 hj
      have hnot : ∀ e ∈ oj.after, Region.binds md e = true → e.on ≠ i := fun e he hb heq => by
        have h1 := hall e he hb
        have h0 := (mem_ready.1 hr).1
        rw [heq] at h1
        rcases Nat.lt_or_ge i listed.size with h' | h'
        · simp [h'] at h0 h1; rw [h0] at h1; cases h1
        · simp [Array.getElem?_eq_none h'] at h1
      have h2 := wpOp_putIf hoj (hfree j oj hoj hji hjun hnot) (fun cs b => hsel i oi cs b hi) (fun cs b => hsel j oj cs b hoj) hQ hy h1
      have hfree' : ∀ k ok, ops[k]? = some ok → k ≠ i → (listed.setIfInBounds j true).getD k true = false →
          (∀ e ∈ ok.after, Region.binds md e = true → e.on ≠ i) → oi.apart ops ok = true := fun k ok hk hki hun hno => by
        refine hfree k ok hk hki ?_ hno
        by_cases hjk : j = k
        · subst hjk; exact hjun
        · rw [getD_set_ne true hjk] at hun; exact hun
      refine wpOp_mono (fun a' w' h3 => ?_) h2
      obtain ⟨hy3, S', hs, hs2, h4⟩ := h3
      refine ⟨S', hs, hs2, ih S' (listed.setIfInBounds j true) a' w' hfree' (ready_mono hr (Ne.symm hji)) (YieldsIf.sharper hs hy3) hs2 ?_⟩
      rw [Array.setIfInBounds_comm _ _ hji]
      exact h4

/-- an operation that hands back a value and nothing else -/
def valueOp : Op → Bool
  | .move _ | .assign _ | .pick _ _ _ | .load _ _ | .binOp _ _ _ _ _ | .unOp _ _ _ | .convert _ _ _ | .slice _ _ _ _ _ | .fieldAddr _ _ _ | .field _ _ _ | .indexAddr _ _ _ | .index _ _ _ | .extract _ _ => true
  | _ => false
theorem value_of_run {α : Type} (s : Sem α) (f : α → Value) (w w' : World) (n : Next) (h : ((do pure (Next.value (f (← s)))) : Sem Next).run P w = .ok n w') : ∃ u, n = .value u := by
  rw [Sem.run_bind] at h
  cases hs : s.run P w with
  | ok v w1 =>
    rw [hs] at h
    simp only [Result.andThen, Sem.run_pure, Result.ok.injEq] at h
    exact ⟨_, h.1.symm⟩
  | halt x w1 => rw [hs] at h; simp [Result.andThen] at h
theorem valueOp_spec {o : Oper} (h : valueOp o.op = true) (ρ : Operand → Value) (w w' : World) (n : Next) (hr : (execOp ρ o).run P w = .ok n w') : ∃ u, n = .value u := by
  unfold execOp at hr
  cases ho : o.op <;> rw [ho] at h hr <;> simp only [valueOp] at h <;> try (exact absurd h Bool.false_ne_true)
  all_goals dsimp only at hr
  all_goals first
    | (simp only [Sem.run_pure, Result.ok.injEq] at hr; exact ⟨_, hr.1.symm⟩)
    | exact value_of_run _ (fun v => v) w w' n hr
    | exact value_of_run _ _ w w' n hr
theorem yields_of_quiet {o : Oper} {a : Act} {v : Value} (hv : valueOp o.op = true) (hw : Region.wanted o (yielded ops a.tmps) = true) (h : ∀ w, S w → o.quietAt P a S w v) : YieldsIf P ops S o v a := by
  refine .inl ⟨hw, fun w hs => ?_⟩
  have h1 := h w hs
  unfold Oper.quietAt at h1
  cases hr : (execOp a.eval o).run P w with
  | ok n w' =>
    obtain ⟨u, rfl⟩ := valueOp_spec hv a.eval w w' n hr
    rw [hr] at h1
    simp only [Oper.quietUpon] at h1
    obtain ⟨rfl, rfl⟩ := h1
    rfl
  | halt x w' => rw [hr] at h1; exact absurd h1 (by simp [Oper.quietUpon])

/-- the takes of a segment, in the order of the text -/
def takesB (md : Region.Mode) (l : List Oper) : List Bool → Nat → Array Bool → Bool
  | true :: m, i, listed => (match l[i]? with | some o => valueOp o.op | none => false) && Region.free md l.toArray listed i && (Region.ready md l.toArray listed).contains i && takesB md l m (i + 1) (listed.setIfInBounds i true)
  | false :: m, i, listed => takesB md l m (i + 1) listed
  | [], _, _ => true
def takenL : List Bool → Nat → Array Bool → Array Bool
  | true :: m, i, listed => takenL m (i + 1) (listed.setIfInBounds i true)
  | false :: m, i, listed => takenL m (i + 1) listed
  | [], _, listed => listed
def countT : List Bool → Nat
  | true :: m => countT m + 1
  | false :: m => countT m
  | [] => 0
theorem takes_G {l : List Oper} (hs : Region.noSelect l.toArray = true) (hQ : ∀ c a d v w, Q (.panic c) (Act.put a d v) w → Q (.panic c) a w) {S : World → Prop} {w : World} (hS : S w) {R : Act → Prop} :
    ∀ (m : List Bool) (i fuel : Nat) (listed : Array Bool) (a : Act), takesB md l m i listed = true → m.length + i ≤ l.length →
      (∀ a', R a' → wpG P md l.toArray Q fuel S (takenL m i listed) a' w) → wpQuiet P l.toArray S R (maskRows m (l.drop i)) a → wpG P md l.toArray Q (fuel + countT m) S listed a w
  | [], i, fuel, listed, a, _, _, hk, h => hk a (by simpa [maskRows, wpQuiet] using h)
  | false :: m, i, fuel, listed, a, hb, hl, hk, h => by
    have hlt : i < l.length := by simp only [List.length_cons] at hl; omega
    rw [List.drop_eq_getElem_cons hlt] at h
    exact takes_G hs hQ hS m (i + 1) fuel listed a hb (by simp only [List.length_cons] at hl; omega) hk h
  | true :: m, i, fuel, listed, a, hb, hl, hk, h => by
    have hlt : i < l.length := by simp only [List.length_cons] at hl; omega
    rw [List.drop_eq_getElem_cons hlt] at h
    simp only [takesB, Bool.and_eq_true] at hb
    obtain ⟨⟨⟨hv, hf⟩, hr⟩, hb⟩ := hb
    have ho : l.toArray[i]? = some l[i] := by simp [hlt]
    rw [show l[i]? = some l[i] from by simp [hlt]] at hv
    dsimp only at hv
    simp only [maskRows, wpQuiet] at h
    have hin : i ∈ Region.ready md l.toArray listed := by simpa using hr
    show wpG P md l.toArray Q (fuel + countT m + 1) S listed a w
    by_cases hw : Region.wanted l[i] (yielded l.toArray a.tmps) = true
    · rw [if_pos hw] at h
      obtain ⟨v, h1, h2⟩ := h
      exact wpG_first ho (Region.noSelect_spec hs) (fun c a w => hQ c a _ _ w) _ S listed a w (Region.free_spec ho hf) hin (yields_of_quiet hv hw h1) hS
        (takes_G hs hQ hS m (i + 1) fuel _ _ hb (by simp only [List.length_cons] at hl; omega) hk h2)
    · rw [if_neg hw] at h
      exact wpG_first ho (Region.noSelect_spec hs) (fun c a w => hQ c a _ _ w) _ S listed a w (Region.free_spec ho hf) hin (.inr ⟨by simpa using hw, rfl⟩) hS
        (takes_G hs hQ hS m (i + 1) fuel _ _ hb (by simp only [List.length_cons] at hl; omega) hk h)
theorem wpG_done {listed : Array Bool} {a : Act} {w : World} (hr : Region.ready md ops listed = []) (h : Q .normal a w) : ∀ fuel, wpG P md ops Q fuel S listed a w
  | 0 => ⟨hr, h⟩
  | _ + 1 => ⟨fun _ => h, by rw [hr]; simp⟩
end
end Go.Proofs.Ytbbjpjkclealfaa
namespace Go.Proofs.Ytbbjpjkclealfaa
open Go
section
variable {P : Program} {Q : Exit → Act → World → Prop} {md : Region.Mode} {S : World → Prop}
def segtB (md : Region.Mode) (l : List Oper) (m : List Bool) (rd : List Nat) (fuel fuel' : Nat) (listed : Array Bool) : Bool :=
  decide (fuel = fuel' + 1 + countT m) && decide (m.length ≤ l.length) && takesB md l m 0 listed && decide (Region.ready md l.toArray (takenL m 0 listed) = rd) && !rd.isEmpty
/-- what reads is taken; then one after another of what is ready is tried -/
theorem wpG_seg {l : List Oper} (m : List Bool) (rd : List Nat) (fuel' : Nat) {fuel : Nat} {listed : Array Bool} {a : Act} {w : World} (hs : Region.noSelect l.toArray = true)
    (hQ : ∀ c a d v w, Q (.panic c) (Act.put a d v) w → Q (.panic c) a w) (hb : segtB md l m rd fuel fuel' listed = true) (hS : S w)
    (h : wpQuiet P l.toArray S (fun a' => ∀ i ∈ rd, wpOp P l.toArray Q i (fun a'' w'' => ∃ S' : World → Prop, (∀ x, S' x → S x) ∧ S' w'' ∧ wpG P md l.toArray Q fuel' S' ((takenL m 0 listed).setIfInBounds i true) a'' w'') a' w) (maskRows m l) a) :
    wpG P md l.toArray Q fuel S listed a w := by
  simp only [segtB, Bool.and_eq_true, decide_eq_true_eq, Bool.not_eq_true'] at hb
  obtain ⟨⟨⟨⟨h1, h2⟩, h3⟩, h4⟩, h5⟩ := hb
  subst h1
  refine takes_G (P := P) (md := md) hs hQ hS (R := fun a' => ∀ i ∈ rd, wpOp P l.toArray Q i (fun a'' w'' => ∃ S' : World → Prop, (∀ x, S' x → S x) ∧ S' w'' ∧ wpG P md l.toArray Q fuel' S' ((takenL m 0 listed).setIfInBounds i true) a'' w'') a' w) m 0 (fuel' + 1) listed a h3 (by omega) (fun a' hq => ?_) (by simpa using h)
  refine ⟨fun h0 => (by rw [h4] at h0; rw [h0] at h5; cases h5), fun j hj => ?_⟩
  rw [h4] at hj
  exact hq j hj
def segeB (md : Region.Mode) (l : List Oper) (m : List Bool) (fuel : Nat) (listed : Array Bool) : Bool :=
  decide (countT m ≤ fuel) && decide (m.length ≤ l.length) && takesB md l m 0 listed && decide (Region.ready md l.toArray (takenL m 0 listed) = [])
theorem wpG_end {l : List Oper} (m : List Bool) {fuel : Nat} {listed : Array Bool} {a : Act} {w : World} (hs : Region.noSelect l.toArray = true)
    (hQ : ∀ c a d v w, Q (.panic c) (Act.put a d v) w → Q (.panic c) a w) (hb : segeB md l m fuel listed = true) (hS : S w)
    (h : wpQuiet P l.toArray S (fun a' => Q .normal a' w) (maskRows m l) a) : wpG P md l.toArray Q fuel S listed a w := by
  simp only [segeB, Bool.and_eq_true, decide_eq_true_eq] at hb
  obtain ⟨⟨⟨h1, h2⟩, h3⟩, h4⟩ := hb
  have := takes_G (P := P) (md := md) hs hQ hS (R := fun a' => Q .normal a' w) m 0 (fuel - countT m) listed a h3 (by omega) (fun a' hq => wpG_done h4 hq _) (by simpa using h)
  rwa [Nat.sub_add_cancel h1] at this
theorem wp_region_G {id : Nat} {a : Act} {w : World} {l : List Oper} (S : World → Prop) (hm : P.follows .mixedOrders = true) (h : wpG P .any l.toArray Q l.length S (Array.replicate l.length false) a w.drew) :
    (Code.region id l.toArray true).wp P Q a w := wp_region_any hm (wpAny_of_G _ _ _ _ _ (by simpa using h))
/-- one that is carried out -/
theorem segt_run {l : List Oper} {fuel : Nat} {listed : Array Bool} {i : Nat} {o : Oper} {a : Act} {w : World} (ho : l.toArray[i]? = some o) (hw : Region.wanted o (yielded l.toArray a.tmps) = true)
    (h : ∀ K : Act → World → Prop, (∀ a' w', (∃ S' : World → Prop, (∀ x, S' x → S x) ∧ S' w' ∧ wpG P md l.toArray Q fuel S' listed a' w') → K a' w') → o.wp P a w K Q) :
    wpOp P l.toArray Q i (fun a'' w'' => ∃ S' : World → Prop, (∀ x, S' x → S x) ∧ S' w'' ∧ wpG P md l.toArray Q fuel S' listed a'' w'') a w := by
  unfold wpOp
  simp only [ho, hw, if_true]
  exact .inl (h _ fun _ _ h => h)
end
end Go.Proofs.Ytbbjpjkclealfaa
namespace Go.Proofs.Ytbbjpjkclealfaa
open Go
section
variable {P : Program} {ops : Array Oper} {Q : Exit → Act → World → Prop} {md : Region.Mode} {S : World → Prop}
/-- an operation that waits for all others -/
def lastP (md : Region.Mode) (ops : Array Oper) (i : Nat) : Prop := ∃ o, ops[i]? = some o ∧ ∀ k, k < ops.size → k ≠ i → ∃ e ∈ o.after, Region.binds md e = true ∧ e.on = k
def lastB (md : Region.Mode) (ops : Array Oper) (i : Nat) : Bool := match ops[i]? with
  | some o => (List.range ops.size).all fun k => k == i || o.after.any fun e => Region.binds md e && e.on == k
  | none => false
theorem lastP_of {i : Nat} (h : lastB md ops i = true) : lastP md ops i := by
  unfold lastB at h
  split at h
  · rename_i o ho
    refine ⟨o, ho, fun k hk hne => ?_⟩
    have h1 := List.all_eq_true.1 h k (List.mem_range.2 hk)
    simp only [Bool.or_eq_true, beq_iff_eq] at h1
    rcases h1 with h1 | h1
    · exact absurd h1 hne
    · obtain ⟨j, hj, h2⟩ := Array.any_eq_true.1 h1
      simp only [Bool.and_eq_true, beq_iff_eq] at h2
      exact ⟨_, Array.getElem_mem hj, h2.1, h2.2⟩
  · cases h
/-- whatever order is picked from here on; behind each operation a sharper condition holds -/
def wpH (P : Program) (md : Region.Mode) (ops : Array Oper) (Q : Exit → Act → World → Prop) : Nat → (World → Prop) → Array Bool → Act → World → Prop
  | 0, _, listed, a, w => Region.ready md ops listed = [] ∧ Q .normal a w
  | fuel + 1, S, listed, a, w =>
    (Region.ready md ops listed = [] → Q .normal a w) ∧
    ∀ i ∈ Region.ready md ops listed, wpOp P ops Q i (fun a' w' => ((lastP md ops i ∧ Region.ready md ops (listed.setIfInBounds i true) = []) ∧ Q .normal a' w') ∨ ∃ S' : World → Prop, (∀ x, S' x → S x) ∧ S' w' ∧ wpH P md ops Q fuel S' (listed.setIfInBounds i true) a' w') a w

theorem wpAny_done {listed : Array Bool} {a : Act} {w : World} (hr : Region.ready md ops listed = []) (h : Q .normal a w) : ∀ fuel, wpAny P md ops Q fuel listed a w
  | 0 => ⟨hr, h⟩
  | _ + 1 => ⟨fun _ => h, by rw [hr]; simp⟩
theorem wpAny_of_H : ∀ (fuel : Nat) (S : World → Prop) (listed : Array Bool) (a : Act) (w : World), wpH P md ops Q fuel S listed a w → wpAny P md ops Q fuel listed a w
  | 0, _, _, _, _, h => h
  | fuel + 1, S, _, _, _, h => ⟨h.1, fun i hi => wpOp_mono (fun a' w' h' => by
      rcases h' with ⟨⟨_, h1⟩, h2⟩ | ⟨S', _, _, h'⟩
      · exact wpAny_done h1 h2 fuel
      · exact wpAny_of_H fuel S' _ a' w' h') (h.2 i hi)⟩

theorem wpH_first {i : Nat} {oi : Oper} {v : Value} (hi : ops[i]? = some oi) (hsel : ∀ (j : Nat) (o : Oper) cs b, ops[j]? = some o → o.op ≠ .select cs b)
    (hQ : ∀ c a w, Q (.panic c) (a.put oi.dst v) w → Q (.panic c) a w) :
    ∀ (fuel : Nat) (S : World → Prop) (listed : Array Bool) (a : Act) (w : World),
      (∀ j oj, ops[j]? = some oj → j ≠ i → listed.getD j true = false → (∀ e ∈ oj.after, Region.binds md e = true → e.on ≠ i) → oi.apart ops oj = true) →
      i ∈ Region.ready md ops listed → YieldsIf P ops S oi v a → S w →
      wpH P md ops Q fuel S (listed.setIfInBounds i true) (a.put oi.dst v) w → wpH P md ops Q (fuel + 1) S listed a w := by
  intro fuel
  induction fuel with
  | zero =>
    intro S listed a w _ hr hy hS H
    refine ⟨fun h => (by rw [h] at hr; cases hr), fun j hj => ?_⟩
    by_cases hji : j = i
    · subst hji; exact hy.wpOp hi hS (.inr ⟨S, fun _ h => h, hS, H⟩)
    · have := ready_mono hj hji
      rw [H.1] at this
      cases this
  | succ fuel ih =>
    intro S listed a w hfree hr hy hS H
    refine ⟨fun h => (by rw [h] at hr; cases hr), fun j hj => ?_⟩
    by_cases hji : j = i
    · subst hji; exact hy.wpOp hi hS (.inr ⟨S, fun _ h => h, hS, H⟩)
    · have h1 := H.2 j (ready_mono hj hji)
      obtain ⟨hjun, oj, hoj, hall⟩ := mem_ready.1 hj
      have hnot : ∀ e ∈ oj.after, Region.binds md e = true → e.on ≠ i := fun e he hb heq => by
        have h1 := hall e he hb
        have h0 := (mem_ready.1 hr).1
        rw [heq] at h1
        rcases Nat.lt_or_ge i listed.size with h' | h'
        · simp [h'] at h0 h1; rw [h0] at h1; cases h1
        · simp [Array.getElem?_eq_none h'] at h1
      have h2 := wpOp_putIf hoj (hfree j oj hoj hji hjun hnot) (fun cs b => hsel i oi cs b hi) (fun cs b => hsel j oj cs b hoj) hQ hy h1
      have hfree' : ∀ k ok, ops[k]? = some ok → k ≠ i → (listed.setIfInBounds j true).getD k true = false →
          (∀ e ∈ ok.after, Region.binds md e = true → e.on ≠ i) → oi.apart ops ok = true := fun k ok hk hki hun hno => by
        refine hfree k ok hk hki ?_ hno
        by_cases hjk : j = k
        · subst hjk; exact hjun
        · rw [getD_set_ne true hjk] at hun; exact hun
      refine wpOp_mono (fun a' w' h3 => ?_) h2
      obtain ⟨hy3, h3⟩ := h3
      rcases h3 with ⟨⟨⟨o5, h5, h6⟩, _⟩, _⟩ | ⟨S', hs, hs2, h4⟩
      · rw [hoj] at h5
        cases h5
        obtain ⟨e, he, hb, heq⟩ := h6 i (Array.getElem?_eq_some_iff.1 hi).1 (Ne.symm hji)
        exact absurd heq (hnot e he hb)
      refine .inr ⟨S', hs, hs2, ih S' (listed.setIfInBounds j true) a' w' hfree' (ready_mono hr (Ne.symm hji)) (YieldsIf.sharper hs hy3) hs2 ?_⟩
      rw [Array.setIfInBounds_comm _ _ hji]
      exact h4

theorem takes_H {l : List Oper} (hs : Region.noSelect l.toArray = true) (hQ : ∀ c a d v w, Q (.panic c) (Act.put a d v) w → Q (.panic c) a w) {S : World → Prop} {w : World} (hS : S w) {R : Act → Prop} :
    ∀ (m : List Bool) (i fuel : Nat) (listed : Array Bool) (a : Act), takesB md l m i listed = true → m.length + i ≤ l.length →
      (∀ a', R a' → wpH P md l.toArray Q fuel S (takenL m i listed) a' w) → wpQuiet P l.toArray S R (maskRows m (l.drop i)) a → wpH P md l.toArray Q (fuel + countT m) S listed a w
  | [], i, fuel, listed, a, _, _, hk, h => hk a (by simpa [maskRows, wpQuiet] using h)
  | false :: m, i, fuel, listed, a, hb, hl, hk, h => by
    have hlt : i < l.length := by simp only [List.length_cons] at hl; omega
    rw [List.drop_eq_getElem_cons hlt] at h
    exact takes_H hs hQ hS m (i + 1) fuel listed a hb (by simp only [List.length_cons] at hl; omega) hk h
  | true :: m, i, fuel, listed, a, hb, hl, hk, h => by
    have hlt : i < l.length := by simp only [List.length_cons] at hl; omega
    rw [List.drop_eq_getElem_cons hlt] at h
    simp only [takesB, Bool.and_eq_true] at hb
    obtain ⟨⟨⟨hv, hf⟩, hr⟩, hb⟩ := hb
    have ho : l.toArray[i]? = some l[i] := by simp [hlt]
    rw [show l[i]? = some l[i] from by simp [hlt]] at hv
    dsimp only at hv
    simp only [maskRows, wpQuiet] at h
    have hin : i ∈ Region.ready md l.toArray listed := by simpa using hr
    show wpH P md l.toArray Q (fuel + countT m + 1) S listed a w
    by_cases hw : Region.wanted l[i] (yielded l.toArray a.tmps) = true
    · rw [if_pos hw] at h
      obtain ⟨v, h1, h2⟩ := h
      exact wpH_first ho (Region.noSelect_spec hs) (fun c a w => hQ c a _ _ w) _ S listed a w (Region.free_spec ho hf) hin (yields_of_quiet hv hw h1) hS
        (takes_H hs hQ hS m (i + 1) fuel _ _ hb (by simp only [List.length_cons] at hl; omega) hk h2)
    · rw [if_neg hw] at h
      exact wpH_first ho (Region.noSelect_spec hs) (fun c a w => hQ c a _ _ w) _ S listed a w (Region.free_spec ho hf) hin (.inr ⟨by simpa using hw, rfl⟩) hS
        (takes_H hs hQ hS m (i + 1) fuel _ _ hb (by simp only [List.length_cons] at hl; omega) hk h)
/-- what reads is taken; then one after another of what is ready is tried -/
theorem wpH_seg {l : List Oper} (m : List Bool) (rd : List Nat) (fuel' : Nat) {fuel : Nat} {listed : Array Bool} {a : Act} {w : World} (hs : Region.noSelect l.toArray = true)
    (hQ : ∀ c a d v w, Q (.panic c) (Act.put a d v) w → Q (.panic c) a w) (hb : segtB md l m rd fuel fuel' listed = true) (hS : S w)
    (h : wpQuiet P l.toArray S (fun a' => ∀ i ∈ rd, wpOp P l.toArray Q i (fun a'' w'' => ((lastP md l.toArray i ∧ Region.ready md l.toArray ((takenL m 0 listed).setIfInBounds i true) = []) ∧ Q .normal a'' w'') ∨ ∃ S' : World → Prop, (∀ x, S' x → S x) ∧ S' w'' ∧ wpH P md l.toArray Q fuel' S' ((takenL m 0 listed).setIfInBounds i true) a'' w'') a' w) (maskRows m l) a) :
    wpH P md l.toArray Q fuel S listed a w := by
  simp only [segtB, Bool.and_eq_true, decide_eq_true_eq, Bool.not_eq_true'] at hb
  obtain ⟨⟨⟨⟨h1, h2⟩, h3⟩, h4⟩, h5⟩ := hb
  subst h1
  refine takes_H (P := P) (md := md) hs hQ hS (R := fun a' => ∀ i ∈ rd, wpOp P l.toArray Q i (fun a'' w'' => ((lastP md l.toArray i ∧ Region.ready md l.toArray ((takenL m 0 listed).setIfInBounds i true) = []) ∧ Q .normal a'' w'') ∨ ∃ S' : World → Prop, (∀ x, S' x → S x) ∧ S' w'' ∧ wpH P md l.toArray Q fuel' S' ((takenL m 0 listed).setIfInBounds i true) a'' w'') a' w) m 0 (fuel' + 1) listed a h3 (by omega) (fun a' hq => ?_) (by simpa using h)
  refine ⟨fun h0 => (by rw [h4] at h0; rw [h0] at h5; cases h5), fun j hj => ?_⟩
  rw [h4] at hj
  exact hq j hj
/-- the same in a round of a range over a function, at the wide fence -/
theorem wpIn_region_H {id l0 k : Nat} {a : Act} {w : World} {l : List Oper} (S : World → Prop) (hm : P.follows .mixedOrders = true) (hd : noDefer l.toArray = true) (h : wpH P .any l.toArray (OnlyNormal Q) l.length S (Array.replicate l.length false) a w.drew) :
    (Code.region id l.toArray true).wpIn (Fence.wide.inRound l0) k P Q a w := by
  refine wpIn_region_draw fun t => wpOps_in hd _ _ _ ?_
  simp only [Region.schedule, hm, Bool.true_or, if_true]
  exact wpAny_sound l.toArray.size t _ a _ (wpAny_of_H _ _ _ _ _ (by simpa using h))
/-- one that is carried out -/
theorem segh_run {l : List Oper} {fuel : Nat} {R : Act → World → Prop} {listed : Array Bool} {i : Nat} {o : Oper} {a : Act} {w : World} (ho : l.toArray[i]? = some o) (hw : Region.wanted o (yielded l.toArray a.tmps) = true)
    (h : ∀ K : Act → World → Prop, (∀ a' w', (R a' w' ∨ ∃ S' : World → Prop, (∀ x, S' x → S x) ∧ S' w' ∧ wpH P md l.toArray Q fuel S' listed a' w') → K a' w') → o.wp P a w K Q) :
    wpOp P l.toArray Q i (fun a'' w'' => R a'' w'' ∨ ∃ S' : World → Prop, (∀ x, S' x → S x) ∧ S' w'' ∧ wpH P md l.toArray Q fuel S' listed a'' w'') a w := by
  unfold wpOp
  simp only [ho, hw, if_true]
  exact .inl (h _ fun _ _ h => h)
end
end Go.Proofs.Ytbbjpjkclealfaa
namespace Go.Proofs.Ytbbjpjkclealfaa
open Go.RowKit
set_option linter.unusedVariables false
theorem cells_own {β : Type} (B : Nat) (f : β → Array Value) (t : TypeId) : Own (fun (s : β) W => W.heap[B]? = some (.cells (f s) t (0, 0))) := by
  intro s X Y row h hg hr
  refine (hg.block B (Array.getElem?_eq_some_iff.1 h).1 (fun e => ?_)).trans h
  obtain ⟨o, ho, hc⟩ := hr B e.symm
  rw [h] at ho; cases ho; cases hc
end Go.Proofs.Ytbbjpjkclealfaa
namespace Go.Proofs.Ytbbjpjkclealfaa
open Go.ChangeShapes Go.WideShapes Go.ChangeAt Go.RowKit
set_option linter.unusedVariables false

theorem numLen_any (x : Int) (w : World) : Calls Try.prog 96 #[.int .i64 x] w fun e w' => e = .returned (.bool (decide (1 ≤ x) && decide (x ≤ 4))) ∧ w' = w := by
  by_cases h1 : 1 ≤ x <;> by_cases h2 : x ≤ 4
  all_goals
    go_enter Try.func96, Try.ntmps96
    go_wp2
    go_ret
    simp [h1, h2]

theorem conv4 {P : Program} (w : World) (src e dst arr : TypeId) (hs : P.underlying src = some (.slice e)) (he : P.underlying e = some (.int .u8)) (hd : P.underlying dst = some .string) (a b c d : Int) :
    (convert src dst (.slice (some ⟨w.heap.size, 0, none⟩) 4 4)).run P (w.alloc (.cells #[.int .u8 a, .int .u8 b, .int .u8 c, .int .u8 d] arr)) = .ok (.string (strOfNums [a, b, c, d])) (w.alloc (.cells #[.int .u8 a, .int .u8 b, .int .u8 c, .int .u8 d] arr)) ∧
    (convert src dst (.slice (some ⟨w.heap.size, 1, none⟩) 3 3)).run P (w.alloc (.cells #[.int .u8 a, .int .u8 b, .int .u8 c, .int .u8 d] arr)) = .ok (.string (strOfNums [b, c, d])) (w.alloc (.cells #[.int .u8 a, .int .u8 b, .int .u8 c, .int .u8 d] arr)) ∧
    (convert src dst (.slice (some ⟨w.heap.size, 2, none⟩) 2 2)).run P (w.alloc (.cells #[.int .u8 a, .int .u8 b, .int .u8 c, .int .u8 d] arr)) = .ok (.string (strOfNums [c, d])) (w.alloc (.cells #[.int .u8 a, .int .u8 b, .int .u8 c, .int .u8 d] arr)) ∧
    (convert src dst (.slice (some ⟨w.heap.size, 3, none⟩) 1 1)).run P (w.alloc (.cells #[.int .u8 a, .int .u8 b, .int .u8 c, .int .u8 d] arr)) = .ok (.string (strOfNums [d])) (w.alloc (.cells #[.int .u8 a, .int .u8 b, .int .u8 c, .int .u8 d] arr)) := by
  refine ⟨run_convert_bytes_arg _ src e hs he w.heap.size 0 4 4 [a, b, c, d] rfl (fun i hi => ?_) dst hd, run_convert_bytes_arg _ src e hs he w.heap.size 1 3 3 [b, c, d] rfl (fun i hi => ?_) dst hd, run_convert_bytes_arg _ src e hs he w.heap.size 2 2 2 [c, d] rfl (fun i hi => ?_) dst hd, run_convert_bytes_arg _ src e hs he w.heap.size 3 1 1 [d] rfl (fun i hi => ?_) dst hd⟩
  · rcases (by omega : i = 0 ∨ i = 1 ∨ i = 2 ∨ i = 3) with rfl | rfl | rfl | rfl <;> simp
  · rcases (by omega : i = 0 ∨ i = 1 ∨ i = 2) with rfl | rfl | rfl <;> simp
  · rcases (by omega : i = 0 ∨ i = 1) with rfl | rfl <;> simp
  · rcases (by omega : i = 0) with rfl; simp
theorem put_list (N : Nat) : putV N 1 = strOfNums [(N : Int) % 256] ∧ putV N 2 = strOfNums [(N : Int) / 256 % 256, (N : Int) % 256] ∧
    putV N 3 = strOfNums [(N : Int) / 65536 % 256, (N : Int) / 256 % 256, (N : Int) % 256] ∧ putV N 4 = strOfNums [(N : Int) / 16777216 % 256, (N : Int) / 65536 % 256, (N : Int) / 256 % 256, (N : Int) % 256] := by
  have hp : ∀ k : Nat, 1 ≤ k → k ≤ 4 → putV N k = strOfNums (numsOf (beL N k)) := by
    intro k h1 h2
    unfold putV
    rw [if_neg (by omega), nums_back]; simp
  have e0 : ∀ m : Nat, (UInt8.ofNat (m % 256)).toNat = m % 256 := by intro m; simp
  have h1 := hp 1 (by decide) (by decide); have h2 := hp 2 (by decide) (by decide); have h3 := hp 3 (by decide) (by decide); have h4 := hp 4 (by decide) (by decide)
  refine ⟨h1.trans ?_, h2.trans ?_, h3.trans ?_, h4.trans ?_⟩ <;>
    · simp only [numsOf, beL, leB, List.reverse_cons, List.reverse_nil, List.nil_append, List.cons_append, List.map_cons, List.map_nil, e0, Nat.div_div_eq_div_mul]
      congr 1

set_option maxRecDepth 100000 in
theorem iput_any (n k : Int) (w : World) (hn : n ≤ 9223372036854775807) :
    Calls Try.prog 58 #[.int .i64 n, .int .i64 k] w fun e w' => e = .returned (.string (putV n k)) ∧ Below w.heap.size w w' := by
  by_cases hn0 : n < 0
  · have hv : putV n k = ByteArray.empty := by unfold putV; rw [if_pos (.inl hn0)]
    have HV := Lib.hid hv; clear hv
    go_enter Try.func58, Try.ntmps58
    go_wp2
    go_ret
    exact ⟨by rw [HV.out]; rfl, Below.refl _ _⟩
  · by_cases hk : k < 1 ∨ 4 < k
    · have hv : putV n k = ByteArray.empty := by unfold putV; rw [if_pos (.inr hk)]
      have HV := Lib.hid hv; clear hv
      have hb : (decide (1 ≤ k) && decide (k ≤ 4)) = false := by simp; omega
      clear hk
      go_enter Try.func58, Try.ntmps58
      go_wp2_with (go_at_call 96; refine (numLen_any _ _).mono ?_; rintro e w ⟨rfl, rfl⟩)
      go_ret
      exact ⟨by rw [HV.out]; rfl, Below.refl _ _⟩
    · have hb : (decide (1 ≤ k) && decide (k ≤ 4)) = true := by simp; omega
      obtain ⟨N, rfl⟩ : ∃ N : Nat, n = N := ⟨n.toNat, by omega⟩
      obtain ⟨K, rfl⟩ : ∃ K : Nat, k = K := ⟨k.toNat, by omega⟩
      have hK : 1 ≤ K ∧ K ≤ 4 := by omega
      go_enter Try.func58, Try.ntmps58
      go_wp2_with (go_at_call 96; refine (numLen_any _ _).mono ?_; rintro e w ⟨rfl, rfl⟩)
      go_loopw [14] (fun x wr =>
          (x = .int .i64 0 ∧ wr = w.alloc (.cells #[.int .u8 0, .int .u8 0, .int .u8 0, .int .u8 0] 97)) ∨
          (x = .int .i64 1 ∧ wr = w.alloc (.cells #[.int .u8 0, .int .u8 0, .int .u8 0, .int .u8 ((N : Int) % 256)] 97)) ∨
          (x = .int .i64 2 ∧ wr = w.alloc (.cells #[.int .u8 0, .int .u8 0, .int .u8 ((N : Int) / 256 % 256), .int .u8 ((N : Int) % 256)] 97)) ∨
          (x = .int .i64 3 ∧ wr = w.alloc (.cells #[.int .u8 0, .int .u8 ((N : Int) / 65536 % 256), .int .u8 ((N : Int) / 256 % 256), .int .u8 ((N : Int) % 256)] 97)) ∨
          (x = .int .i64 4 ∧ wr = w.alloc (.cells #[.int .u8 ((N : Int) / 16777216 % 256), .int .u8 ((N : Int) / 65536 % 256), .int .u8 ((N : Int) / 256 % 256), .int .u8 ((N : Int) % 256)] 97)))
        (fun x _ => 4 - (intOf x).toNat)
      case atStart => exact .inl ⟨rfl, rfl⟩
      case round =>
        rcases hrel with ⟨rfl, rfl⟩ | ⟨rfl, rfl⟩ | ⟨rfl, rfl⟩ | ⟨rfl, rfl⟩ | ⟨rfl, rfl⟩
        · go_wp2
          exact ⟨by simp, by simp [intOf]⟩
        · go_wp2
          exact ⟨by simp, by simp [intOf]⟩
        · go_wp2
          exact ⟨by simp, by simp [intOf]⟩
        · go_wp2
          exact ⟨by simp, by simp [intOf]⟩
        · obtain ⟨P1, P2, P3, P4⟩ := put_list N
          obtain ⟨C4, C3, C2, C1⟩ := conv4 (P := Try.prog) w 22 5 9 97 Try.underlying22 Try.underlying5 Try.underlying9 ((N : Int) / 16777216 % 256) ((N : Int) / 65536 % 256) ((N : Int) / 256 % 256) ((N : Int) % 256)
          have H1 := Lib.hid P1; have H2 := Lib.hid P2; have H3 := Lib.hid P3; have H4 := Lib.hid P4
          clear P1 P2 P3 P4
          rcases (by omega : K = 1 ∨ K = 2 ∨ K = 3 ∨ K = 4) with rfl | rfl | rfl | rfl
          · clear C4 C3 C2
            go_wp2
            go_ret
            exact ⟨by rw [← H1.out]; rfl, (Below.refl _ _).alloc (Nat.le_refl _) _⟩
          · clear C4 C3 C1
            go_wp2
            go_ret
            exact ⟨by rw [← H2.out]; rfl, (Below.refl _ _).alloc (Nat.le_refl _) _⟩
          · clear C4 C2 C1
            go_wp2
            go_ret
            exact ⟨by rw [← H3.out]; rfl, (Below.refl _ _).alloc (Nat.le_refl _) _⟩
          · clear C3 C2 C1
            go_wp2
            go_ret
            exact ⟨by rw [← H4.out]; rfl, (Below.refl _ _).alloc (Nat.le_refl _) _⟩
end Go.Proofs.Ytbbjpjkclealfaa
namespace Go.Proofs.Ytbbjpjkclealfaa
open Go.ChangeShapes Go.WideShapes Go.ChangeAt Go.RowKit
set_option linter.unusedVariables false

theorem i64_or (v c : Nat) (hv : v < 16777216) (hc : c < 256) : bits .or .i64 ((v : Int) * 256) (c : Int) = (v : Int) * 256 + (c : Int) := by
  have e1 : ((v : Int) * 256) = ((v * 256 : Nat) : Int) := by omega
  have hx : v * 256 ||| c = v * 256 + c := by
    have := Nat.two_pow_add_eq_or_of_lt (i := 8) (b := c) hc v
    rw [show (2 : Nat) ^ 8 = 256 from rfl] at this
    rw [Nat.mul_comm, ← this]
  show IntKind.i64.wrap ((BitVec.ofInt 64 ((v : Int) * 256) ||| BitVec.ofInt 64 (c : Int)).toNat : Nat) = _
  rw [e1, bv_nat, bv_nat, BitVec.toNat_or, BitVec.toNat_ofNat, BitVec.toNat_ofNat, Nat.mod_eq_of_lt (by omega), Nat.mod_eq_of_lt (by omega), hx]
  have := IntWalk.i64_in ((v * 256 + c : Nat) : Int) (by omega)
  rw [this]; omega
set_option maxRecDepth 100000 in
theorem iget_any (s : ByteArray) (p k : Int) (w : World) (hs : s.size ≤ 2000000) :
    Calls Try.prog 93 #[.string s, .int .i64 p, .int .i64 k] w fun e w' => e = .returned (.int .i64 (getV s p k)) ∧ w' = w := by
  by_cases hk : k < 1 ∨ 4 < k
  · have hv : getV s p k = -1 := by unfold getV; rw [if_pos (by omega)]
    have HV := Lib.hid hv; clear hv
    have hb : (decide (1 ≤ k) && decide (k ≤ 4)) = false := by simp; omega
    clear hk
    go_enter Try.func93, Try.ntmps93
    go_wp2_with (go_at_call 96; refine (numLen_any _ _).mono ?_; rintro e w ⟨rfl, rfl⟩)
    go_ret
    exact ⟨by rw [HV.out]; rfl, rfl⟩
  · have hb : (decide (1 ≤ k) && decide (k ≤ 4)) = true := by simp; omega
    obtain ⟨K, rfl⟩ : ∃ K : Nat, k = K := ⟨k.toNat, by omega⟩
    have hK : 1 ≤ K ∧ K ≤ 4 := by omega
    have ew : IntKind.i64.wrap ((s.size : Int) - (K : Int)) = (s.size : Int) - (K : Int) := IntWalk.i64_in _ (by omega)
    by_cases hp : p < 0
    · have hv : getV s p K = -1 := by unfold getV; rw [if_pos (by omega)]
      have HV := Lib.hid hv; clear hv hk
      go_enter Try.func93, Try.ntmps93
      go_wp2_with (go_at_call 96; refine (numLen_any _ _).mono ?_; rintro e w ⟨rfl, rfl⟩)
      go_ret
      exact ⟨by rw [HV.out]; rfl, rfl⟩
    · by_cases hq : (s.size : Int) - K < p
      · have hv : getV s p K = -1 := by unfold getV; rw [if_pos (by omega)]
        have HV := Lib.hid hv; clear hv hk
        go_enter Try.func93, Try.ntmps93
        go_wp2_with (go_at_call 96; refine (numLen_any _ _).mono ?_; rintro e w ⟨rfl, rfl⟩)
        go_ret
        exact ⟨by rw [HV.out]; rfl, rfl⟩
      · have hv : getV s p K = (getN ((s.data.toList.drop p.toNat).take K) : Nat) := by unfold getV; rw [if_neg (by omega)]; simp
        obtain ⟨q, rfl⟩ : ∃ q : Nat, p = q := ⟨p.toNat, by omega⟩
        simp only [Int.toNat_natCast] at hv
        have hqs : q + K ≤ s.size := by omega
        have hbd := fun j => getN_lt ((s.data.toList.drop q).take j)
        have hsn : ∀ j, (h : j < K) → getN ((s.data.toList.drop q).take (j + 1)) = getN ((s.data.toList.drop q).take j) * 256 + (s[q + j]'(by omega)).toNat := by
          intro j h
          rw [List.take_succ_eq_append_getElem (by simp; omega), getN_snoc]
          congr 2
          simp
          rfl
        have hle : ∀ j, ((s.data.toList.drop q).take j).length ≤ j := by intro j; simp; omega
        have HV := Lib.hid hv; have HSN := Lib.hid hsn; clear hv hsn hk
        have hb4 : ∀ j, j ≤ 4 → getN ((s.data.toList.drop q).take j) < 256 ^ j := by
          intro j _
          exact Nat.lt_of_lt_of_le (hbd j) (Nat.pow_le_pow_right (by decide) (hle j))
        have HB4 := Lib.hid hb4; clear hb4 hbd hle
        go_enter Try.func93, Try.ntmps93
        go_wp2_with (go_at_call 96; refine (numLen_any _ _).mono ?_; rintro e w ⟨rfl, rfl⟩)
        go_loopw [7, 25] (fun n i wr => ∃ j : Nat, j ≤ K ∧ i = .int .i64 j ∧ n = .int .i64 (getN ((s.data.toList.drop q).take j) : Nat) ∧ wr = w) (fun _ i _ => K - (intOf i).toNat)
        case atStart => exact ⟨0, Nat.zero_le _, rfl, rfl, rfl⟩
        case round =>
          obtain ⟨j, hj, rfl, rfl, rfl⟩ := hrel
          by_cases hlt : j < K
          · have z1 : (j : Int) < (K : Int) := by omega
            have z2 : (0 : Int) ≤ (q : Int) + (j : Int) := by omega
            have z3 : (q : Int) + (j : Int) < (s.size : Int) := by omega
            have et : ((q : Int) + (j : Int)).toNat = q + j := by omega
            have ew2 : IntKind.i64.wrap ((q : Int) + (j : Int)) = (q : Int) + (j : Int) := IntWalk.i64_in _ (by omega)
            have hsn := HSN.out j hlt
            have hc := (s[q + j]'(by omega)).toNat_lt
            have hb4 : getN ((s.data.toList.drop q).take j) < 256 ^ 3 := Nat.lt_of_lt_of_le (HB4.out j (by omega)) (Nat.pow_le_pow_right (by decide) (by omega))
            have h256 : (256 : Nat) ^ 3 = 16777216 := rfl
            rw [h256] at hb4
            have hql : q + j < s.size := by omega
            have HS := Lib.hid hsn; clear hsn
            generalize getN ((s.data.toList.drop q).take j) = v at *
            have eor := i64_or v (s[q + j]'(by omega)).toNat hb4 hc
            have ew3 : IntKind.i64.wrap ((v : Int) * 256) = (v : Int) * 256 := IntWalk.i64_in _ (by omega)
            have ew4 : wrap64 ((v : Int) * 256) = (v : Int) * 256 := IntWalk.wrap64_in _ (by omega)
            go_wp2
            go_roundw
            case rel => exact ⟨j + 1, by omega, by go_num, by rw [HS.out]; go_num, by first | rfl | trivial⟩
            case measure => simp [intOf]; omega
          · obtain rfl : j = K := by omega
            go_wp2
            go_ret
            exact ⟨by rw [HV.out]; rfl, rfl⟩
end Go.Proofs.Ytbbjpjkclealfaa
namespace Go.Proofs.Ytbbjpjkclealfaa
open Go.RowKit
set_option linter.unusedVariables false

def KBoxed (W : World) (B : Nat) (k : K2) : Prop := W.heap[B]? = some (.cells #[.int .i64 k.1, .int .i64 k.2] 41 (0, 0))
theorem KBoxed.lt {W : World} {B : Nat} {k : K2} (h : KBoxed W B k) : B < W.heap.size := (Array.getElem?_eq_some_iff.1 h).1
theorem KBoxed.cell0 {W : World} {B : Nat} {k : K2} (h : KBoxed W B k) : W.cell? ⟨B, 0, none⟩ = some (.int .i64 k.1) := by simp [World.cell?, show W.heap[B]? = _ from h]
theorem KBoxed.cell1 {W : World} {B : Nat} {k : K2} (h : KBoxed W B k) : W.cell? ⟨B, 1, none⟩ = some (.int .i64 k.2) := by simp [World.cell?, show W.heap[B]? = _ from h]
theorem KBoxed.new (W : World) (k : K2) : KBoxed (W.alloc (.cells #[.int .i64 k.1, .int .i64 k.2] 41)) W.heap.size k := World.alloc_heap_new W _
theorem KBoxed.kept {W W' : World} {row : Option Nat} {B : Nat} {k : K2} (h : KBoxed W B k) (hg : W.grownBy W' row) (hne : some B ≠ row) : KBoxed W' B k := (hg.block B h.lt hne).trans h
theorem KBoxed.alloc {W : World} {B : Nat} {k : K2} (h : KBoxed W B k) (o : Obj) : KBoxed (W.alloc o) B k := h.kept (World.grownBy_alloc W o none) (by simp)
theorem KBoxed.other {W : World} {B B' : Nat} {k : K2} (h : KBoxed W B k) (hne : B ≠ B') (u : Value) : KBoxed (W.setCell ⟨B', 0, none⟩ u) B k := h.kept (grownBy_setCell' W B' u) (fun e => hne (by cases e; rfl))
theorem KBoxed.load {w : World} {B : Nat} {k : K2} (h : KBoxed w B k) : (loadVar 41 ⟨B, 0, none⟩).run Try.prog w = .ok (kv k) w := key_load (o := 0) ⟨h.cell0, h.cell1⟩ h.lt (Below.refl _ _)
theorem set_cells {w : World} {B j : Nat} {cs : Array Value} {t : TypeId} (u : Value) (h : w.heap[B]? = some (.cells cs t (0, 0))) : (w.setCell ⟨B, j, none⟩ u).heap[B]? = some (.cells (cs.setIfInBounds j u) t (0, 0)) := by
  obtain ⟨hlt, hk⟩ := Array.getElem?_eq_some_iff.1 h
  show (w.heap.modify B _)[B]? = _
  rw [Array.getElem?_eq_getElem (by rw [Array.size_modify]; exact hlt), Array.getElem_modify_self, hk]
  rfl
theorem KBoxed.set {w : World} {B : Nat} {k : K2} (k' : K2) (h : KBoxed w B k) : KBoxed ((w.setCell ⟨B, 0, none⟩ (.int .i64 k'.1)).setCell ⟨B, 1, none⟩ (.int .i64 k'.2)) B k' :=
  set_cells _ (set_cells _ h)
end Go.Proofs.Ytbbjpjkclealfaa
namespace Go.Proofs.Ytbbjpjkclealfaa
open Go.ChangeShapes Go.WideShapes Go.ChangeAt Go.RowKit Go.BigFrame
set_option linter.unusedVariables false

theorem ikeyok_any (k : K2) (w : World) : Calls Try.prog 89 #[kv k] w fun e w' => e = .returned (.bool (keyOkB k)) ∧ Below w.heap.size w w' := by
  obtain ⟨n, s⟩ := k
  unfold keyOkB kv
  dsimp only
  have hb : ∀ o, Below w.heap.size w (w.alloc o) := fun o => (Below.refl _ _).alloc (Nat.le_refl _) _
  by_cases h1 : 1 ≤ n
  · by_cases h2 : n ≤ 20
    · by_cases h3 : 1 ≤ s
      · by_cases h4 : s ≤ 99
        · go_enter Try.func89, Try.ntmps89
          go_wp2
          go_ret
          exact ⟨by simp [h1, h2, h3, h4], hb _⟩
        · go_enter Try.func89, Try.ntmps89
          go_wp2
          go_ret
          exact ⟨by simp [h1, h2, h3, h4], hb _⟩
      · go_enter Try.func89, Try.ntmps89
        go_wp2
        go_ret
        exact ⟨by simp [h1, h2, h3]; omega, hb _⟩
    · go_enter Try.func89, Try.ntmps89
      go_wp2
      go_ret
      exact ⟨by simp [h1, h2]; omega, hb _⟩
  · go_enter Try.func89, Try.ntmps89
    go_wp2
    go_ret
    exact ⟨by simp [h1]; omega, hb _⟩
theorem iahead_any (a b : K2) (w : World) : Calls Try.prog 90 #[kv a, kv b] w fun e w' => e = .returned (.bool (aheadB a b)) ∧ Below w.heap.size w w' := by
  obtain ⟨n, s⟩ := a
  obtain ⟨m, t⟩ := b
  have hb : ∀ o o', Below w.heap.size w ((w.alloc o).alloc o') := fun o o' => ((Below.refl _ _).alloc (Nat.le_refl _) _).alloc (by simp) _
  by_cases h : n = m
  · have ha : aheadB (n, s) (m, t) = decide (s < t) := by unfold aheadB; rw [if_pos h]
    rw [ha]
    unfold kv
    dsimp only
    subst h
    go_enter Try.func90, Try.ntmps90
    go_wp2
    go_ret
    exact ⟨rfl, hb _ _⟩
  · have ha : aheadB (n, s) (m, t) = decide (n < m) := by unfold aheadB; rw [if_neg h]
    rw [ha]
    unfold kv
    dsimp only
    go_enter Try.func90, Try.ntmps90
    go_wp2
    go_ret
    exact ⟨rfl, hb _ _⟩
set_option maxRecDepth 100000 in
theorem ikeysok_any (v : Value) (ks : List K2) (w : World) (h : keysAt w v ks) (hs : ks.length ≤ 2000000) : Calls Try.prog 47 #[v] w fun e w' => e = .returned (.bool (keysOkR ks)) ∧ Below w.heap.size w w' := by
  obtain ⟨a, cap, rfl, hcap, hcells⟩ := h
  go_enter Try.func47, Try.ntmps47
  go_wp2
  go_loopw [7] (fun i wr => ∃ k : Nat, k ≤ ks.length ∧ i = .int .i64 k ∧ (List.range k).all (stepB ks) = true ∧ Below w.heap.size w wr) (fun i _ => ks.length - (intOf i).toNat)
  case atStart => exact ⟨0, Nat.zero_le _, rfl, rfl, Below.refl _ _⟩
  case round =>
    obtain ⟨k, hk, rfl, hall, hb⟩ := hrel
    by_cases hlt : k < ks.length
    · obtain ⟨g, off, rfl, hg, hcs⟩ := hcells.resolve_left (by omega)
      have z0 : (0 : Int) ≤ (k : Int) := by omega
      have z1 : (k : Int) < (ks.length : Int) := by omega
      have c1 := hcs k hlt
      have hst : stepB ks k = (keyOkB (ks.getD k (0, 0)) && (decide (k = 0) || aheadB (ks.getD (k - 1) (0, 0)) (ks.getD k (0, 0)))) := rfl
      have hsu := keysR_succ ks k
      rw [hst, hall] at hsu
      have HF := Lib.hid (fun (h : stepB ks k = false) => stepB_false hlt h)
      rw [hst] at HF
      have c0 : 0 < k → _ := fun h => hcs (k - 1) (by omega)
      rename_i wr
      have C1 : wr.cell? ⟨g, off + k * 2, none⟩ = some (.int .i64 (ks.getD k (0, 0)).1) := (hb.cell (p := ⟨g, off + k * 2, none⟩) hg).trans c1.1
      have C2 : wr.cell? ⟨g, off + k * 2 + 1, none⟩ = some (.int .i64 (ks.getD k (0, 0)).2) := (hb.cell (p := ⟨g, off + k * 2 + 1, none⟩) hg).trans c1.2
      generalize ks.getD k (0, 0) = kx at *
      obtain ⟨p, q⟩ := kx
      dsimp only at C1 C2
      have hb1 : Below w.heap.size w (wr.alloc (.cells #[.int .i64 p, .int .i64 q] 41)) := hb.alloc hb.size _
      have LK : ∀ w', Below (wr.heap.size + 1) (wr.alloc (.cells #[.int .i64 p, .int .i64 q] 41)) w' → (loadVar 41 ⟨wr.heap.size, 0, none⟩).run Try.prog w' = .ok (kv (p, q)) w' := fun w' hb' =>
        key_load (k := (p, q)) (w := wr.alloc (.cells #[.int .i64 p, .int .i64 q] 41)) (g := wr.heap.size) (o := 0) ⟨by simp, by simp⟩ (by simp) (by simpa using hb')
      have LK0 := Lib.hid LK; clear LK
      have HSU := Lib.hid hsu; have C0 := Lib.hid c0; clear hsu c0 hst c1 hcells hcs
      have HK := Lib.hid (fun w => ikeyok_any (p, q) w)
      have HB1 := Lib.hid hb1; clear hb1
      go_wp2_with fail
      refine (HK.out _).mono ?_
      rintro e w2 ⟨rfl, hb2⟩
      have hbw2 := HB1.out.trans (hb2.mono HB1.out.size)
      have LK : ∀ w', Below w2.heap.size w2 w' → (loadVar 41 ⟨wr.heap.size, 0, none⟩).run Try.prog w' = .ok (kv (p, q)) w' := fun w' hb' => LK0.out w' ((by simpa using hb2 : Below (wr.heap.size + 1) _ w2).trans (hb'.mono (by have := hb2.size; simp at this; omega)))
      clear LK0 C1 C2 HK hb2 HB1
      cases hko : keyOkB (p, q) with
      | false =>
        rw [hko] at HF
        go_wp2
        go_ret
        exact ⟨by rw [HF.out rfl]; rfl, hbw2⟩
      | true =>
        rw [hko] at HF HSU
        by_cases hk0 : k = 0
        · subst hk0
          have y0 : ¬ (0 : Int) < ((0 : Nat) : Int) := by omega
          clear HF C0
          go_wp2
          refine wp_region_below w2 (by kernel_rfl) (by kernel_rfl) (Below.refl _ _) ?_
          repeat (first
            | go_big_quiet_skip
            | (go_big_quiet_want
               first
                 | (go_big_quiet_op; go_big_quiet_on)
                 | (refine q_load 41 _ _ _ rfl rfl LK ?_; simp only [Act.put, List.setIfInBounds_toArray, List.set_cons_zero, List.set_cons_succ]; go_big_quiet_on)
                 | (go_big_quiet_op; refine ⟨_, fun _ _ => rfl, ?_⟩; go_big_quiet_on)
                 | (go_big_quiet_op; go_big_quiet_on)))
          refine wpQuiet_nil ?_
          intro w3 hb3
          have hbw3 := hbw2.trans (hb3.mono hbw2.size)
          clear LK
          go_wp2
          exact ⟨⟨1, by omega, by go_num, by rw [HSU.out]; rfl, hbw3⟩, by simp [intOf]; omega⟩
        · have ha := C0.out (by omega)
          have L2 : ∀ w', Below w2.heap.size w2 w' → (loadVar 41 ⟨g, off + (k - 1) * 2, none⟩).run Try.prog w' = .ok (kv (ks.getD (k - 1) (0, 0))) w' := fun w' hb' => key_load ha hg (hbw2.trans (hb'.mono hbw2.size))
          generalize ks.getD (k - 1) (0, 0) = ky at *
          have HA := Lib.hid (fun w => iahead_any ky (p, q) w)
          have d0 : decide (k = 0) = false := by simpa using hk0
          rw [d0] at HF HSU
          have y0 : (0 : Int) < (k : Int) := by omega
          have yk : 0 < k := by omega
          have y1 : (0 : Int) ≤ (k : Int) - 1 := by omega
          have y2 : (k : Int) - 1 < (ks.length : Int) := by omega
          have ew : IntKind.i64.wrap ((k : Int) - 1) = (k : Int) - 1 := IntWalk.i64_in _ (by omega)
          have et : ((k : Int) - 1).toNat = k - 1 := by omega
          clear C0 ha
          cases hah : aheadB ky (p, q) with
          | false =>
            rw [hah] at HA HF
            have HF2 := HF.out rfl
            have HF3 := Lib.hid HF2; clear HF2 HF HSU
            go_wp2
            refine wp_region_below w2 (by kernel_rfl) (by kernel_rfl) (Below.refl _ _) ?_
            repeat (first
              | go_big_quiet_skip
              | (go_big_quiet_want
                 first
                   | (go_big_quiet_op; go_big_quiet_on)
                   | (refine q_load 41 _ _ _ rfl rfl L2 ?_; simp only [Act.put, List.setIfInBounds_toArray, List.set_cons_zero, List.set_cons_succ]; go_big_quiet_on)
                   | (refine q_load 41 _ _ _ rfl rfl LK ?_; simp only [Act.put, List.setIfInBounds_toArray, List.set_cons_zero, List.set_cons_succ]; go_big_quiet_on)
                   | (go_big_quiet_op; refine ⟨_, fun _ _ => rfl, ?_⟩; go_big_quiet_on)
                   | (go_big_quiet_op; apply Exists.intro; refine ⟨fun w' hw' => ?_, ?_⟩
                      · first
                        | (with_reducible refine (HA.out w').mono ?_
                           rintro e w2 ⟨rfl, hb2⟩
                           exact ⟨rfl, hw'.trans (hb2.mono hw'.size)⟩)
                      go_big_quiet_on)))
            refine wpQuiet_nil ?_
            intro w3 hb3
            have hbw3 := hbw2.trans (hb3.mono hbw2.size)
            clear LK L2 HA
            go_wp2
            go_ret
            exact ⟨by rw [HF3.out]; rfl, hbw3⟩
          | true =>
            rw [hah] at HA HSU
            clear HF
            go_wp2
            refine wp_region_below w2 (by kernel_rfl) (by kernel_rfl) (Below.refl _ _) ?_
            repeat (first
              | go_big_quiet_skip
              | (go_big_quiet_want
                 first
                   | (go_big_quiet_op; go_big_quiet_on)
                   | (refine q_load 41 _ _ _ rfl rfl L2 ?_; simp only [Act.put, List.setIfInBounds_toArray, List.set_cons_zero, List.set_cons_succ]; go_big_quiet_on)
                   | (refine q_load 41 _ _ _ rfl rfl LK ?_; simp only [Act.put, List.setIfInBounds_toArray, List.set_cons_zero, List.set_cons_succ]; go_big_quiet_on)
                   | (go_big_quiet_op; refine ⟨_, fun _ _ => rfl, ?_⟩; go_big_quiet_on)
                   | (go_big_quiet_op; apply Exists.intro; refine ⟨fun w' hw' => ?_, ?_⟩
                      · first
                        | (with_reducible refine (HA.out w').mono ?_
                           rintro e w2 ⟨rfl, hb2⟩
                           exact ⟨rfl, hw'.trans (hb2.mono hw'.size)⟩)
                      go_big_quiet_on)))
            refine wpQuiet_nil ?_
            intro w3 hb3
            have hbw3 := hbw2.trans (hb3.mono hbw2.size)
            clear LK L2 HA
            go_wp2
            exact ⟨⟨k + 1, by omega, by go_num, by rw [HSU.out]; rfl, hbw3⟩, by simp [intOf]; omega⟩
    · obtain rfl : k = ks.length := by omega
      have HF := Lib.hid hall
      go_wp2
      go_ret
      exact ⟨by unfold keysOkR; rw [HF.out]; rfl, hb⟩
end Go.Proofs.Ytbbjpjkclealfaa
namespace Go.Proofs.Ytbbjpjkclealfaa
open Go.RowKit Go.Shelf
set_option linter.unusedVariables false

theorem kboxed_own {β : Type} (B : Nat) (k : K2) : Own (fun (_ : β) W => KBoxed W B k) := by
  intro s X Y row h hg hr
  refine KBoxed.kept h hg (fun e => ?_)
  obtain ⟨o, ho, hc⟩ := hr B e.symm
  rw [show X.heap[B]? = _ from h] at ho; cases ho; cases hc
end Go.Proofs.Ytbbjpjkclealfaa
namespace Go.Proofs.Ytbbjpjkclealfaa
open Go.RowKit Go.Shelf
attribute [local go_sem] Oper.semAt_some
set_option linter.unusedVariables false

theorem grownN {A B : World} (h : Below A.heap.size A B) : A.grownBy B none := grown_of_below' h none
end Go.Proofs.Ytbbjpjkclealfaa
namespace Go.Proofs.Ytbbjpjkclealfaa
open Go.ChangeShapes Go.WideShapes Go.ChangeAt Go.RowKit Go.BigFrame
set_option linter.unusedVariables false

/-- what is known of a world in which two words are put together -/
structure CbC (w W : World) (va : Value) (ya : ByteArray) (vb : Value) (yb : ByteArray) : Prop where
  below : Below w.heap.size w W
  size : w.heap.size + 3 ≤ W.heap.size
  rowa : W.heap[w.heap.size]? = some (.cells #[va, .string ya] 27)
  rowb : W.heap[w.heap.size + 1]? = some (.cells #[vb, .string yb] 27)
  res : W.heap[w.heap.size + 2]? = some (.cells #[.slice none 0 0, .string ⟨#[]⟩] 27)
theorem cbc_new (w : World) (va : Value) (ya : ByteArray) (vb : Value) (yb : ByteArray) : CbC w (((w.alloc (.cells #[va, .string ya] 27)).alloc (.cells #[vb, .string yb] 27)).alloc (.cells #[.slice none 0 0, .string ⟨#[]⟩] 27)) va ya vb yb := by
  have hb1 := (Below.refl w.heap.size w).alloc (Nat.le_refl _) (.cells #[va, .string ya] 27)
  have hb2 := hb1.alloc hb1.size (.cells #[vb, .string yb] 27)
  have e1 : (w.alloc (.cells #[va, .string ya] 27)).heap.size = w.heap.size + 1 := by simp
  have e2 : ((w.alloc (.cells #[va, .string ya] 27)).alloc (.cells #[vb, .string yb] 27)).heap.size = w.heap.size + 2 := by simp
  have r2 := heap_alloc_new (w.alloc (.cells #[va, .string ya] 27)) (.cells #[vb, .string yb] 27)
  rw [e1] at r2
  have r3 := heap_alloc_new ((w.alloc (.cells #[va, .string ya] 27)).alloc (.cells #[vb, .string yb] 27)) (.cells #[.slice none 0 0, .string ⟨#[]⟩] 27)
  rw [e2] at r3
  exact ⟨hb2.alloc hb2.size _, by simp, (Below.heap_alloc _ _ w.heap.size (by simp; omega)).trans ((Below.heap_alloc _ _ w.heap.size (by simp)).trans (heap_alloc_new w _)), (Below.heap_alloc _ _ (w.heap.size + 1) (by simp)).trans r2, r3⟩
theorem CbC.next {w W W' : World} {va : Value} {ya : ByteArray} {vb : Value} {yb : ByteArray} (h : CbC w W va ya vb yb) (hb : Below W.heap.size W W') : CbC w W' va ya vb yb := by
  have hs := h.size
  exact ⟨h.below.trans (hb.mono h.below.size), Nat.le_trans hs hb.size, (hb.block _ (by omega)).trans h.rowa, (hb.block _ (by omega)).trans h.rowb, (hb.block _ (by omega)).trans h.res⟩
theorem row_set2 {W : World} {b b' : Nat} {o : Obj} (h : W.heap[b']? = some o) (hne : b' ≠ b) (p q : Value) : ((W.setCell ⟨b, 0, none⟩ p).setCell ⟨b, 1, none⟩ q).heap[b']? = some o := by
  rw [Below.heap_setCell _ _ _ _ hne, Below.heap_setCell _ _ _ _ hne]; exact h
theorem size_le_alloc (w : World) (o : Obj) : w.heap.size ≤ (w.alloc o).heap.size := by simp
end Go.Proofs.Ytbbjpjkclealfaa
namespace Go.Proofs.Ytbbjpjkclealfaa
open Go.ChangeShapes Go.WideShapes Go.ChangeAt Go.RowKit Go.BigFrame
set_option linter.unusedVariables false

theorem sparted_any (va vb : Value) (A B : List K2) (w : World) (ha : keysAt w va A) (hb : keysAt w vb B) (hsA : A.length ≤ 2000000) (hsB : B.length ≤ 2000000) :
    Calls Try.prog 83 #[va, vb] w fun e w' => ∃ v, e = .returned v ∧ w'.ownsRow w.heap.size 41 2 v (mergeV false A B).length (keyCells (mergeV false A B)) ∧ Below w.heap.size w w' := by
  have H := Lib.hid (smerge_any va vb A B false w ha hb hsA hsB)
  go_enter Try.func83, Try.ntmps83
  go_wp2_with fail
  refine H.out.mono ?_
  rintro e w1 ⟨v, rfl, ho, hB⟩
  go_wp2
  go_ret
  exact ⟨v, rfl, ho, hB⟩
end Go.Proofs.Ytbbjpjkclealfaa
namespace Go.Proofs.Ytbbjpjkclealfaa
open Go.ChangeShapes Go.WideShapes Go.ChangeAt Go.RowKit Go.BigFrame
set_option linter.unusedVariables false

theorem keys_few {ks : List K2} (h : keysOkR ks = true) : ks.length ≤ 1980 := by
  obtain ⟨h1, h2⟩ := (keysR_iff ks).1 h
  have hm : ∀ (l : List K2) (n : Int), (∀ k ∈ l, keyOkB k = true) → Rising l → (∀ k ∈ l, n ≤ (k.1 - 1) * 99 + k.2) → n ≤ 1981 → (l.length : Int) ≤ 1981 - n := by
    intro l
    induction l with
    | nil => intro n _ _ _ h; simp; omega
    | cons a l ih =>
      intro n g1 g2 g3 g4
      have ha := g1 a (List.mem_cons_self ..)
      have hp := g3 a (List.mem_cons_self ..)
      have g2' := List.pairwise_cons.1 g2
      have hb : (1 ≤ a.1 ∧ a.1 ≤ 20) ∧ 1 ≤ a.2 ∧ a.2 ≤ 99 := by unfold keyOkB at ha; simpa using ha
      have := ih ((a.1 - 1) * 99 + a.2 + 1) (fun k hk => g1 k (List.mem_cons_of_mem _ hk)) g2'.2 (fun k hk => by
        have h3 := g2'.1 k hk
        have hk1 := g1 k (List.mem_cons_of_mem _ hk)
        have hkb : (1 ≤ k.1 ∧ k.1 ≤ 20) ∧ 1 ≤ k.2 ∧ k.2 ≤ 99 := by unfold keyOkB at hk1; simpa using hk1
        rw [ahead_iff] at h3
        omega) (by omega)
      simp only [List.length_cons]
      omega
  have := hm ks 1 h1 h2 (fun k hk => by
    have hk1 := h1 k hk
    have hkb : (1 ≤ k.1 ∧ k.1 ≤ 20) ∧ 1 ≤ k.2 ∧ k.2 ≤ 99 := by unfold keyOkB at hk1; simpa using hk1
    omega) (by omega)
  omega
set_option maxRecDepth 100000 in
set_option maxHeartbeats 4000000 in
theorem sadd_any (va : Value) (A : List K2) (ya : ByteArray) (vb : Value) (B : List K2) (yb : ByteArray) (w : World) (ha : keysAt w va A) (hb : keysAt w vb B) (hA : wOk (A, ya)) (hB : wOk (B, yb)) :
    Calls Try.prog 42 #[.agg #[va, .string ya], .agg #[vb, .string yb]] w fun e w' => ∃ v', e = .returned (.agg #[v', .string (addC (A, ya) (B, yb)).2]) ∧
      w'.ownsRow w.heap.size 41 2 v' (addC (A, ya) (B, yb)).1.length (keyCells (addC (A, ya) (B, yb)).1) ∧ Below w.heap.size w w' := by
  have hAl := keys_few hA.1; have hBl := keys_few hB.1
  have hya : ya.size = 4 := hA.2
  have hyb : yb.size = 4 := hB.2
  have HP := Lib.hid (cbc_new w va ya vb yb)
  have SP := Lib.hid (fun w' (h : Below w.heap.size w w') => sparted_any va vb A B w' (keysAt_below ha h) (keysAt_below hb h) (by dsimp only at hAl; omega) (by dsimp only at hBl; omega))
  have SX := Lib.hid (fun w' => sxor_any ya yb w' (by omega) (by omega))
  have HMV : mergeV false A B = mergeL false A B := by
    have h1 : keysOkR A = true := hA.1
    have h2 : keysOkR B = true := hB.1
    unfold mergeV; rw [h1, h2]; rfl
  rw [HMV] at SP
  obtain ⟨aa, ca, hva, -, -⟩ := ha
  obtain ⟨ab, cb, hvb, -, -⟩ := hb
  subst hva; subst hvb
  unfold addC
  dsimp only
  clear HMV hAl hBl hya hyb hA hB
  go_enter Try.func42, Try.ntmps42
  go_wp2_with fail
  generalize ((w.alloc (.cells #[.slice aa A.length ca, .string ya] 27)).alloc (.cells #[.slice ab B.length cb, .string yb] 27)).alloc (.cells #[.slice none 0 0, .string ⟨#[]⟩] 27) = W at *
  have L1 : ∀ w' : World, w'.heap[w.heap.size]? = some (.cells #[.slice aa A.length ca, .string ya] 27) ∧ w'.heap[w.heap.size + 1]? = some (.cells #[.slice ab B.length cb, .string yb] 27) → (loadVar 25 ⟨w.heap.size, 0, none⟩).run Try.prog w' = .ok (.slice aa A.length ca) w' := fun w' h => cd_loadk h.1 (Below.refl _ _)
  have L2 : ∀ w' : World, w'.heap[w.heap.size]? = some (.cells #[.slice aa A.length ca, .string ya] 27) ∧ w'.heap[w.heap.size + 1]? = some (.cells #[.slice ab B.length cb, .string yb] 27) → (loadVar 9 ⟨w.heap.size, 1, none⟩).run Try.prog w' = .ok (.string ya) w' := fun w' h => cd_loads h.1 (Below.refl _ _)
  have L3 : ∀ w' : World, w'.heap[w.heap.size]? = some (.cells #[.slice aa A.length ca, .string ya] 27) ∧ w'.heap[w.heap.size + 1]? = some (.cells #[.slice ab B.length cb, .string yb] 27) → (loadVar 25 ⟨w.heap.size + 1, 0, none⟩).run Try.prog w' = .ok (.slice ab B.length cb) w' := fun w' h => cd_loadk h.2 (Below.refl _ _)
  have L4 : ∀ w' : World, w'.heap[w.heap.size]? = some (.cells #[.slice aa A.length ca, .string ya] 27) ∧ w'.heap[w.heap.size + 1]? = some (.cells #[.slice ab B.length cb, .string yb] 27) → (loadVar 9 ⟨w.heap.size + 1, 1, none⟩).run Try.prog w' = .ok (.string yb) w' := fun w' h => cd_loads h.2 (Below.refl _ _)
  have HRA := Lib.hid HP.out.rowa
  have HRB := Lib.hid HP.out.rowb
  have HRES := Lib.hid HP.out.res
  have HB0 := Lib.hid HP.out.below
  have HSZ := Lib.hid HP.out.size
  clear HP
  refine wp_region_G (fun w' => w'.heap[w.heap.size]? = some (.cells #[.slice aa A.length ca, .string ya] 27) ∧ w'.heap[w.heap.size + 1]? = some (.cells #[.slice ab B.length cb, .string yb] 27)) (by kernel_rfl) ?_
  replace HRA := Lib.hid (show (World.drew _).heap[_]? = _ from HRA.out)
  replace HRB := Lib.hid (show (World.drew _).heap[_]? = _ from HRB.out)
  replace HB0 := Lib.hid (HB0.out.drew)
  replace HRES := Lib.hid (show (World.drew _).heap[_]? = _ from HRES.out)
  replace HSZ := Lib.hid (show _ ≤ (World.drew _).heap.size from HSZ.out)
  generalize (W).drew = wD at *
  refine wpG_seg [true, true, true, true, false, true, true, true, true] [4] 3 (by kernel_rfl) (by intro c a d v w h; cases d <;> exact h) (by kernel_rfl) ⟨HRA.out, HRB.out⟩ ?_
  try simp only [maskRows]
  repeat (first
    | go_big_quiet_skip
    | (go_big_quiet_want
       first
         | (go_big_quiet_op; go_big_quiet_on)
         | (refine q_load 25 _ _ _ rfl rfl L1 ?_; simp only [Act.put, List.setIfInBounds_toArray, List.set_cons_zero, List.set_cons_succ]; go_big_quiet_on)
         | (refine q_load 9 _ _ _ rfl rfl L2 ?_; simp only [Act.put, List.setIfInBounds_toArray, List.set_cons_zero, List.set_cons_succ]; go_big_quiet_on)
         | (refine q_load 25 _ _ _ rfl rfl L3 ?_; simp only [Act.put, List.setIfInBounds_toArray, List.set_cons_zero, List.set_cons_succ]; go_big_quiet_on)
         | (refine q_load 9 _ _ _ rfl rfl L4 ?_; simp only [Act.put, List.setIfInBounds_toArray, List.set_cons_zero, List.set_cons_succ]; go_big_quiet_on)
         | (go_big_quiet_op; refine ⟨_, fun _ _ => rfl, ?_⟩; go_big_quiet_on)
         | (go_big_quiet_op; refine ⟨_, fun _ _ _ => rfl, ?_⟩; go_big_quiet_on)))
  refine wpQuiet_nil ?_
  refine List.forall_mem_singleton.2 ?_
  refine segt_run rfl (by rfl) (fun K hK => ?_)
  go_simp
  refine (SP.out _ HB0.out).mono ?_
  rintro e w3 ⟨v3, rfl, ho3, hb⟩
  dsimp only
  have HSZo := Lib.hid HSZ.out
  have hNE := fun (b6 : Nat) (hl : b6 < wD.heap.size) (e : v3.ownBlock = some b6) => (absurd (ho3.lt b6 e).1 (Nat.not_le.2 hl) : False)
  replace HRA := Lib.hid ((hb.block _ (Array.getElem?_eq_some_iff.1 HRA.out).1).trans HRA.out)
  replace HRB := Lib.hid ((hb.block _ (Array.getElem?_eq_some_iff.1 HRB.out).1).trans HRB.out)
  replace HB0 := Lib.hid (HB0.out.trans (hb.mono HB0.out.size))
  replace HRES := Lib.hid ((hb.block _ (Array.getElem?_eq_some_iff.1 HRES.out).1).trans HRES.out)
  replace HSZ := Lib.hid (Nat.le_trans HSZ.out hb.size)
  clear hNE
  obtain ⟨a3, n3, k3, rfl⟩ := own_shape ho3
  have HO := Lib.hid (own_base ho3 HSZo.out)
  clear ho3 HSZo
  clear hb
  refine hK _ _ ⟨_, fun _ h => h, ⟨HRA.out, HRB.out⟩, ?_⟩
  clear hK K
  try simp only [Act.put, List.setIfInBounds_toArray, List.set_cons_zero, List.set_cons_succ]
  refine wpG_seg [] [9] 2 (by kernel_rfl) (by intro c a d v w h; cases d <;> exact h) (by kernel_rfl) ⟨HRA.out, HRB.out⟩ ?_
  try simp only [maskRows]
  refine wpQuiet_nil ?_
  refine List.forall_mem_singleton.2 ?_
  refine segt_run rfl (by rfl) (fun K hK => ?_)
  go_simp
  refine (SX.out _).mono ?_
  rintro e w4 ⟨rfl, hb⟩
  dsimp only
  replace HRA := Lib.hid ((hb.block _ (Array.getElem?_eq_some_iff.1 HRA.out).1).trans HRA.out)
  replace HRB := Lib.hid ((hb.block _ (Array.getElem?_eq_some_iff.1 HRB.out).1).trans HRB.out)
  replace HB0 := Lib.hid (HB0.out.trans (hb.mono HB0.out.size))
  replace HRES := Lib.hid ((hb.block _ (Array.getElem?_eq_some_iff.1 HRES.out).1).trans HRES.out)
  replace HSZ := Lib.hid (Nat.le_trans HSZ.out hb.size)
  replace HO := Lib.hid (own_below HO.out hb)
  clear hb
  refine hK _ _ ⟨_, fun _ h => h, ⟨HRA.out, HRB.out⟩, ?_⟩
  clear hK K
  try simp only [Act.put, List.setIfInBounds_toArray, List.set_cons_zero, List.set_cons_succ]
  refine wpG_seg [] [10] 1 (by kernel_rfl) (by intro c a d v w h; cases d <;> exact h) (by kernel_rfl) ⟨HRA.out, HRB.out⟩ ?_
  try simp only [maskRows]
  refine wpQuiet_nil ?_
  refine List.forall_mem_singleton.2 ?_
  refine segt_run rfl (by rfl) (fun K hK => ?_)
  go_simp
  refine hK _ _ ⟨_, fun _ h => h, ⟨HRA.out, HRB.out⟩, ?_⟩
  clear hK K
  try simp only [Act.put, List.setIfInBounds_toArray, List.set_cons_zero, List.set_cons_succ]
  refine wpG_seg [] [11] 0 (by kernel_rfl) (by intro c a d v w h; cases d <;> exact h) (by kernel_rfl) ⟨HRA.out, HRB.out⟩ ?_
  try simp only [maskRows]
  refine wpQuiet_nil ?_
  refine List.forall_mem_singleton.2 ?_
  obtain ⟨c0, c1, f0, f1⟩ := row2_of HRES.out
  have hlt := (Array.getElem?_eq_some_iff.1 HRES.out).1
  have HF := Lib.hid (And.intro (cd_res HRES.out (.slice a3 n3 k3) (xorS ya yb)) (And.intro (own_base (own_set2 HO.out (by omega : w.heap.size + 2 < w.heap.size + 3) (.slice a3 n3 k3) (.string (xorS ya yb))) (by omega : w.heap.size ≤ w.heap.size + 3)) (below2 HB0.out (by omega : w.heap.size ≤ w.heap.size + 2) (.slice a3 n3 k3) (.string (xorS ya yb)))))
  have HRA' := Lib.hid (row_set2 HRA.out (by omega : w.heap.size ≠ w.heap.size + 2) (.slice a3 n3 k3) (.string (xorS ya yb)))
  have HRB' := Lib.hid (row_set2 HRB.out (by omega : w.heap.size + 1 ≠ w.heap.size + 2) (.slice a3 n3 k3) (.string (xorS ya yb)))
  clear HRES HO HB0 HSZ
  refine segt_run rfl (by rfl) (fun K hK => ?_)
  go_simp
  replace HRA := HRA'
  replace HRB := HRB'
  clear HRA' HRB' c0 c1 f0 f1 hlt
  refine hK _ _ ⟨_, fun _ h => h, ⟨HRA.out, HRB.out⟩, ?_⟩
  clear hK K
  try simp only [Act.put, List.setIfInBounds_toArray, List.set_cons_zero, List.set_cons_succ]
  refine wpG_end [] (by kernel_rfl) (by intro c a d v w h; cases d <;> exact h) (by kernel_rfl) ⟨HRA.out, HRB.out⟩ ?_
  try simp only [maskRows]
  refine wpQuiet_nil ?_
  clear HRA HRB
  go_wp2_with fail
  refine bodyPost_ret (v := .agg #[.slice a3 n3 k3, .string (xorS ya yb)]) ?_ rfl ⟨_, rfl, HF.out.2.1, HF.out.2.2⟩
  rw [results_cell (p := 4) (ty := 27) (by kernel_rfl)]
  have l2 := HF.out.1
  simp [asAddr, Result.andThen, l2]
end Go.Proofs.Ytbbjpjkclealfaa
namespace Go.Proofs.Ytbbjpjkclealfaa
open Go.ChangeShapes Go.WideShapes Go.ChangeAt Go.RowKit Go.BigFrame Go.Shelf Go.Great
attribute [local go_sem] Oper.semAt_some
set_option linter.unusedVariables false

/-- the bits of some right keys -/
def bitsK (pre : List RK) (p : Nat) : Bool := pre.any fun k => decide (p = placeK k.1)
theorem bitsK_snoc (pre : List RK) (k : RK) : (bitsK (pre ++ [k])) = fun p => bitsK pre p || decide (p = placeK k.1) := by
  funext p
  simp [bitsK]
theorem bitsK_nil : bitsK [] = fun _ => false := rfl
theorem agg_u64 (w : World) : (isAgg 77).run Try.prog w = .ok false w := by simp [isAgg, underlying, Try.underlying77]
theorem size_row : (Try.prog.info? 79).map (·.size) = some 32 := by kernel_rfl
def rowA (f : Nat → Bool) : Array Value := (rowV f).toArray
theorem rowA_size (f : Nat → Bool) : (rowA f).size = 32 := by unfold rowA; rw [List.size_toArray, rowV_len]
theorem rowA_zero : #[.int .u64 0, .int .u64 0, .int .u64 0, .int .u64 0, .int .u64 0, .int .u64 0, .int .u64 0, .int .u64 0, .int .u64 0, .int .u64 0, .int .u64 0, .int .u64 0, .int .u64 0, .int .u64 0, .int .u64 0, .int .u64 0, .int .u64 0, .int .u64 0, .int .u64 0, .int .u64 0, .int .u64 0, .int .u64 0, .int .u64 0, .int .u64 0, .int .u64 0, .int .u64 0, .int .u64 0, .int .u64 0, .int .u64 0, .int .u64 0, .int .u64 0, .int .u64 0] = rowA fun _ => false := by kernel_rfl
theorem rowA_get (f : Nat → Bool) (j : Nat) (hj : j < 32) : (rowA f)[j]? = some (.int .u64 ((rowB f j : Nat) : Int)) := by
  unfold rowA; rw [List.getElem?_toArray]; exact rowV_get f j hj
/-- one number of a row set -/
theorem rowA_or (f : Nat → Bool) (p : Nat) (hp : p / 64 < 32) : (rowA f).setIfInBounds (p / 64) (.int .u64 ((rowB f (p / 64) ||| 2 ^ (p % 64) : Nat) : Int)) = rowA fun q => f q || decide (q = p) := by
  unfold rowA
  rw [List.setIfInBounds_toArray]
  congr 1
  refine List.ext_getElem? fun j => ?_
  rw [List.getElem?_set]
  by_cases hj : j < 32
  · rw [rowV_get (fun q => f q || decide (q = p)) j hj]
    by_cases e : p / 64 = j
    · subst e
      rw [if_pos rfl, if_pos (by rw [rowV_len]; exact hp), rowB_or_same]
    · rw [if_neg e, rowV_get f j hj, rowB_or_other f p j (Ne.symm e)]
  · have h1 : (rowV fun q => f q || decide (q = p))[j]? = none := List.getElem?_eq_none (by rw [rowV_len]; omega)
    have h2 : (rowV f)[j]? = none := List.getElem?_eq_none (by rw [rowV_len]; omega)
    rw [h1, if_neg (by omega), h2]
/-- the load's number set -/
theorem rowA_load (f : Nat → Bool) (x : C2) (hf : ∀ p, p < 1984 → f p = hasX x p) (hx : x.2.size = 4) : (rowA f).setIfInBounds 31 (.int .u64 ((numL x.2 : Nat) : Int)) = rowA (hasX x) := by
  unfold rowA
  rw [List.setIfInBounds_toArray]
  congr 1
  refine List.ext_getElem? fun j => ?_
  rw [List.getElem?_set]
  have hl := numL_lt x.2 hx
  by_cases hj : j < 32
  · rw [rowV_get (hasX x) j hj]
    by_cases e : 31 = j
    · subst e
      rw [if_pos rfl, if_pos (by rw [rowV_len]; omega)]
      have : rowB (hasX x) 31 = numL x.2 := packN_eq _ _ _ (by omega) fun i hi => by
        unfold hasX
        rw [if_neg (by omega), show 64 * 31 + i - 1984 = i by omega]
      rw [this]
    · rw [if_neg e, rowV_get f j hj, rowB_congr j fun i hi => hf _ (by omega)]
  · have h1 : (rowV (hasX x))[j]? = none := List.getElem?_eq_none (by rw [rowV_len]; omega)
    have h2 : (rowV f)[j]? = none := List.getElem?_eq_none (by rw [rowV_len]; omega)
    rw [h1, if_neg (by omega), h2]
/-- right keys, each with its proof -/
theorem rk_list : ∀ ks : List K2, keysOkR ks = true → ∃ rs : List RK, rs.map (·.1) = ks := by
  intro ks h
  have h1 := ((keysR_iff ks).1 h).1
  clear h
  induction ks with
  | nil => exact ⟨[], rfl⟩
  | cons k l ih =>
    obtain ⟨rs, hr⟩ := ih fun x hx => h1 x (List.mem_cons_of_mem _ hx)
    exact ⟨⟨k, h1 k (List.mem_cons_self ..)⟩ :: rs, by rw [List.map_cons, hr]⟩
theorem bitsK_has (rs : List RK) (y : ByteArray) (p : Nat) (hp : p < 1984) : bitsK rs p = hasX (rs.map (·.1), y) p := by
  unfold bitsK hasX
  rw [if_pos hp]
  dsimp only
  rw [Bool.eq_iff_iff, List.any_eq_true, decide_eq_true_eq, List.mem_map]
  constructor
  · rintro ⟨k, hk, e⟩
    have e := of_decide_eq_true e
    exact ⟨k, hk, by rw [e, place_key k.2]⟩
  · rintro ⟨k, hk, e⟩
    exact ⟨k, hk, decide_eq_true (by rw [e, key_place])⟩
theorem getV_load (y : ByteArray) (hy : y.size = 4) : getV y 0 4 = (numL y : Nat) := by
  unfold getV numL
  rw [if_neg (by omega)]
  congr 1
  have : (y.data.toList.drop (0 : Int).toNat).take (4 : Int).toNat = y.data.toList := by
    show (y.data.toList.drop 0).take 4 = _
    rw [List.drop_zero, List.take_of_length_le (by simp [hy])]
  rw [this]
theorem load_u64 {w : World} {p : Addr} {v : Value} (h : w.cell? p = some v) : (loadVar 77 p).run Try.prog w = .ok v w := load_one agg_u64 h
attribute [local irreducible] rowA rowB hasX bitsK numL
set_option maxRecDepth 100000 in
set_option maxHeartbeats 1200000 in
theorem irow_any (vx : Value) (ks : List K2) (y : ByteArray) (w : World) (hx : keysAt w vx ks) (hk : keysOkR ks = true) (hy : y.size = 4) :
    Calls Try.prog 48 #[.agg #[vx, .string y]] w fun e w' => e = .returned (.agg (rowA (hasX (ks, y)))) ∧ Below w.heap.size w w' := by
  refine (callsIn_wide (n := 9)).1 ?_
  have hx0 := keysIn0_of hx
  obtain ⟨rs, hrs⟩ := rk_list ks hk
  subst hrs
  have hfew := keys_few hk
  obtain ⟨ax, cx, rfl, -, -⟩ := hx
  rw [rk_len] at *
  have hb1 := (Below.refl w.heap.size w).alloc (Nat.le_refl _) (.cells #[.slice ax rs.length cx, .string y] 27)
  have hb2 := hb1.alloc hb1.size (.cells (rowA fun _ => false) 79)
  have HB := Lib.hid (hb2.alloc hb2.size (.cells (rowA fun _ => false) 79))
  have RX := Lib.hid ((Below.heap_alloc ((w.alloc (.cells #[.slice ax rs.length cx, .string y] 27)).alloc (.cells (rowA fun _ => false) 79)) (.cells (rowA fun _ => false) 79) w.heap.size (by simp; omega)).trans (heap_first w (.cells (rowA fun _ => false) 79) (.cells #[.slice ax rs.length cx, .string y] 27)))
  have RR := Lib.hid (heap_mid w (.cells #[.slice ax rs.length cx, .string y] 27) (.cells (rowA fun _ => false) 79) (.cells (rowA fun _ => false) 79))
  have rr := heap_alloc_new ((w.alloc (.cells #[.slice ax rs.length cx, .string y] 27)).alloc (.cells (rowA fun _ => false) 79)) (.cells (rowA fun _ => false) 79)
  rw [show ((w.alloc (.cells #[.slice ax rs.length cx, .string y] 27)).alloc (.cells (rowA fun _ => false) 79)).heap.size = w.heap.size + 2 by simp] at rr
  have RL := Lib.hid rr
  have hqz : (((w.alloc (.cells #[.slice ax rs.length cx, .string y] 27)).alloc (.cells (rowA fun _ => false) 79)).alloc (.cells (rowA fun _ => false) 79)).heap.size = w.heap.size + 3 := by simp
  obtain ⟨x0, x1, -, -⟩ := row2_of RX.out
  clear hb1 hb2 rr
  refine callsIn_of_wp_marks Try.func48 rfl trivial ?_ rfl
  simp only [Try.ntmps48, List.size_toArray, List.length_cons, List.length_nil, Nat.reduceAdd, Nat.reduceSub, Array.replicate_succ, Array.replicate_zero, List.push_toArray, List.append_toArray, List.nil_append, List.cons_append]
  gi_wp2
  rw [rowA_zero]
  generalize hW : (((w.alloc (.cells #[.slice ax rs.length cx, .string y] 27)).alloc (.cells (rowA fun _ => false) 79)).alloc (.cells (rowA fun _ => false) 79)) = W5 at *
  clear hW
  refine ⟨trivial, (callsIn_wide.2 (kin_any _ _ _ _)).mono ?_⟩
  rintro e w6 ⟨rfl, rfl⟩
  have bS := Boxed.new W5 25 (.slice ax rs.length cx)
  have hRL := (Below.heap_alloc W5 (.cells #[.slice ax rs.length cx] 25) _ (Array.getElem?_eq_some_iff.1 RL.out).1).trans RL.out
  have hRX := (Below.heap_alloc W5 (.cells #[.slice ax rs.length cx] 25) _ (Array.getElem?_eq_some_iff.1 RX.out).1).trans RX.out
  have hRR := (Below.heap_alloc W5 (.cells #[.slice ax rs.length cx] 25) _ (Array.getElem?_eq_some_iff.1 RR.out).1).trans RR.out
  have hB0 := HB.out.alloc HB.out.size (.cells #[.slice ax rs.length cx] 25)
  have hsz : (W5.alloc (.cells #[.slice ax rs.length cx] 25)).heap.size = w.heap.size + 4 := by simp; omega
  have hnS : W5.heap.size = w.heap.size + 3 := by omega
  rw [hnS] at bS
  clear RX RR RL HB x0 x1
  gi_wp2
  generalize W5.alloc (.cells #[.slice ax rs.length cx] 25) = W0 at *
  refine wpIn_rangeFunc_ownH (n := 9) rfl (by omega) (gf := 111) (lb := #[.pointer (some ⟨w.heap.size + 3, 0, none⟩)]) rfl trivial (enters_of Try.func111 (by kernel_rfl) rfl)
    (kir_stops 8 (w.heap.size + 3) w.heap.size (.slice ax rs.length cx) rs (by omega) (by omega) W0 (by omega) (by omega) bS.cell (hx0.below hB0)) belowK_t (belowK_b (by omega)) (Below.refl _ _) (fun _ => rfl)
    (fun pre W => W.heap[w.heap.size + 2]? = some (.cells (rowA (bitsK pre)) 79 (0, 0)) ∧ W.heap[w.heap.size]? = some (.cells #[.slice ax rs.length cx, .string y] 27 (0, 0)) ∧ W.heap[w.heap.size + 1]? = some (.cells (rowA fun _ => false) 79 (0, 0)) ∧ Below w.heap.size w W)
    (fun _ _ _ => False)
    (OwnFrom.and (Own.from (cells_own (w.heap.size + 2) (fun pre : List RK => rowA (bitsK pre)) 79) _) (OwnFrom.and (Own.from (cells_own w.heap.size (fun _ => #[.slice ax rs.length cx, .string y]) 27) _) (OwnFrom.and (Own.from (cells_own (w.heap.size + 1) (fun _ => rowA fun _ => false) 79) _) (ownFrom_below (Nat.le_refl _) (by omega)))))
    (fun _ _ _ _ _ hs _ _ => hs)
    ⟨by rw [bitsK_nil]; exact hRL, hRX, hRR, hB0⟩
    (fun x a' W => ∃ Bx, w.heap.size + 2 < Bx ∧ KBoxed W Bx x.1 ∧ a' = { tmps := #[.agg #[.slice ax rs.length cx, .string y], .pointer (some ⟨w.heap.size, 0, none⟩), .pointer (some ⟨w.heap.size + 1, 0, none⟩), .pointer (some ⟨w.heap.size + 1 + 1, 0, none⟩), .pointer (some ⟨Bx, 0, none⟩), undef, .pointer (some ⟨w.heap.size, 0, none⟩), .slice ax rs.length cx, .func (.func 111) #[] #[.pointer (some ⟨w.heap.size + 3, 0, none⟩)], kv x.1, undef, undef, undef, undef, undef, undef, undef, undef, undef, undef, undef, undef, undef, undef, undef, undef, undef], defers := [] })
    (fun x a' _ X Y row hs hg hr => by
      obtain ⟨Bx, e1, e2, e4⟩ := hs
      exact ⟨Bx, e1, kboxed_own Bx x.1 () X Y row e2 hg (fun r e => (hr r e).2), e4⟩)
    ?assign ?body ?done ?stop
  case assign =>
    rintro l pre ⟨⟨p, q⟩, hpq⟩ W K ⟨hRL, hTb, hRes, hB⟩ hK
    unfold kv at *
    dsimp only at *
    gi_wp2
    exact hK _ _ ((KeepsOthers.alloc _ _).from _) ((Below.refl _ W).alloc hB.size _) ⟨(Below.heap_alloc _ _ _ (Array.getElem?_eq_some_iff.1 hRL).1).trans hRL, (Below.heap_alloc _ _ _ (Array.getElem?_eq_some_iff.1 hTb).1).trans hTb, (Below.heap_alloc _ _ _ (Array.getElem?_eq_some_iff.1 hRes).1).trans hRes, hB.alloc hB.size _⟩ ⟨W.heap.size, (Array.getElem?_eq_some_iff.1 hRL).1, KBoxed.new W (p, q), rfl⟩
  case body =>
    rintro l pre ⟨⟨p, q⟩, hpq⟩ a' W hl ⟨r, hr⟩ ⟨hRL, hTb, hRes, hB⟩ ⟨Bx, hBx, bX, rfl⟩ hlt
    have hsn := bitsK_snoc pre ⟨(p, q), hpq⟩
    have hplt := place_lt hpq
    have hsW := hB.size
    have IP := Lib.hid (iplace_any (p, q) hpq)
    dsimp only at hsn
    generalize placeK (p, q) = P at *
    generalize bitsK pre = M at *
    have HSN := Lib.hid hsn
    clear hsn
    unfold kv at *
    dsimp only at *
    have cX0 := bX.cell0
    have cX1 := bX.cell1
    dsimp only at cX0 cX1
    gi_wp2
    refine ⟨trivial, (CallsIn.inRound l (callsIn_wide.2 (IP.out _))).mono ?_⟩
    rintro e W1 ⟨rfl, hb1⟩
    have g1 := grownN hb1
    have hRL1 := (hb1.block _ (Array.getElem?_eq_some_iff.1 hRL).1).trans hRL
    have hTb1 := (hb1.block _ (Array.getElem?_eq_some_iff.1 hTb).1).trans hTb
    have hRes1 := (hb1.block _ (Array.getElem?_eq_some_iff.1 hRes).1).trans hRes
    have hs1 := Nat.le_trans hsW hb1.size
    have hk1 : KeepsOthers W W1 := KeepsOthers.of_grownBy g1 (fun j o e => by cases e)
    have hB1 := hB.trans (hb1.mono hsW)
    have HBP1 := Lib.hid (hb1.mono hsW)
    have HK1 := Lib.hid hk1
    have HRL := Lib.hid hRL1
    have HT := Lib.hid hTb1
    have HRE := Lib.hid hRes1
    have HBB := Lib.hid hB1
    have HSZ := Lib.hid hs1
    clear hRL hTb hRes bX hb1 g1 hk1 hB cX0 cX1 IP hRL1 hTb1 hRes1 hB1 hs1
    have z0 : (0 : Int) ≤ ((P / 64 : Nat) : Int) := by omega
    have z1 : ((P / 64 : Nat) : Int) < 32 := by omega
    have hP64 : P / 64 < 32 := by omega
    have LA : ∀ w' : World, w'.heap[w.heap.size + 2]? = some (.cells (rowA M) 79 (0, 0)) → (loadVar 77 ⟨w.heap.size + 2, P / 64, none⟩).run Try.prog w' = .ok (.int .u64 ((rowB M (P / 64) : Nat) : Int)) w' := fun w' h => load_u64 (by rw [cell_of_row _ _ _ _ _ _ h]; exact rowA_get _ _ hP64)
    have HOR := Lib.hid (rowA_or M P hP64)
    have hbl := rowB_lt M (P / 64)
    gi_wp2
    refine wpIn_region_H (fun w' => w'.heap[w.heap.size + 2]? = some (.cells (rowA M) 79 (0, 0))) (by kernel_rfl) (by kernel_rfl) ?_
    have hb := (Below.refl W1.heap.size W1).drew
    have g2 := grownN hb
    replace HRL := Lib.hid ((hb.block _ (Array.getElem?_eq_some_iff.1 HRL.out).1).trans HRL.out)
    replace HT := Lib.hid ((hb.block _ (Array.getElem?_eq_some_iff.1 HT.out).1).trans HT.out)
    replace HRE := Lib.hid ((hb.block _ (Array.getElem?_eq_some_iff.1 HRE.out).1).trans HRE.out)
    replace HBP1 := Lib.hid (HBP1.out.trans (hb.mono HSZ.out))
    replace HBB := Lib.hid (HBB.out.trans (hb.mono HSZ.out))
    replace HK1 := Lib.hid (HK1.out.trans (KeepsOthers.of_grownBy g2 (fun j o e => by cases e)))
    replace HSZ := Lib.hid (Nat.le_trans HSZ.out hb.size)
    clear hb g2
    generalize W1.drew = w2 at *
    refine wpH_seg [true, true, true, true, true, true, true, true, true] [9] 0 (by kernel_rfl) (fun _ _ _ _ _ h => h) (by kernel_rfl) HRL.out ?_
    try simp only [maskRows]
    repeat (first
      | go_big_quiet_skip
      | (go_big_quiet_want
         first
           | (go_big_quiet_op; go_big_quiet_on)
           | (refine q_load 77 _ _ _ rfl rfl LA ?_; simp only [Act.put, List.setIfInBounds_toArray, List.set_cons_zero, List.set_cons_succ]; go_big_quiet_on)
           | (go_big_quiet_op; refine ⟨_, fun _ _ => rfl, ?_⟩; go_big_quiet_on)
           | (go_big_quiet_op; refine ⟨_, fun _ _ _ => rfl, ?_⟩; go_big_quiet_on)))
    refine wpQuiet_nil ?_
    refine List.forall_mem_singleton.2 ?_
    have c0 : w2.cell? ⟨w.heap.size + 2, P / 64, none⟩ = some (.int .u64 ((rowB M (P / 64) : Nat) : Int)) := by rw [cell_of_row _ _ _ _ _ _ HRL.out]; exact rowA_get _ _ hP64
    have f0 : w2.frozen? ⟨w.heap.size + 2, P / 64, none⟩ = false := by simp [World.frozen?, HRL.out]
    have hlt := (Array.getElem?_eq_some_iff.1 HRL.out).1
    refine segh_run rfl (by rfl) (fun K hK => ?_)
    go_simp
    have hor : bits .or .u64 ((rowB M (P / 64) : Nat) : Int) (IntKind.u64.wrap (2 ^ (P % 64))) = ((rowB M (P / 64) ||| 2 ^ (P % 64) : Nat) : Int) := by
      have h2 : (2 : Nat) ^ (P % 64) < 18446744073709551616 := Nat.pow_lt_pow_right (by decide) (show P % 64 < 64 by omega)
      have h3 : (2 : Int) ^ (P % 64) = ((2 ^ (P % 64) : Nat) : Int) := by rw [Int.natCast_pow]; rfl
      rw [h3]
      generalize 2 ^ (P % 64) = t at *
      have h4 : IntKind.u64.wrap (t : Int) = (t : Int) := by rw [IntKind.wrap_u64]; omega
      rw [h4]
      exact u64_or _ _ hbl h2
    have hset := set_cellsD (j := P / 64) (.int .u64 (bits .or .u64 ((rowB M (P / 64) : Nat) : Int) (IntKind.u64.wrap (2 ^ (P % 64))))) HRL.out
    have hset2 : (w2.setCell ⟨w.heap.size + 2, P / 64, none⟩ (.int .u64 (bits .or .u64 ((rowB M (P / 64) : Nat) : Int) (IntKind.u64.wrap (2 ^ (P % 64)))))).heap[w.heap.size + 2]? = some (.cells (rowA (bitsK (pre ++ [⟨(p, q), hpq⟩]))) 79 (0, 0)) := by
      rw [hset, hor, HOR.out, HSN.out]
    have g9 := Lib.grownBy_setCell w2 (w.heap.size + 2) (P / 64) (.int .u64 (bits .or .u64 ((rowB M (P / 64) : Nat) : Int) (IntKind.u64.wrap (2 ^ (P % 64)))))
    have hne9 : ∀ B, B ≠ w.heap.size + 2 → some B ≠ some (w.heap.size + 2) := fun B h e => h (Option.some.inj e)
    have HRL2 := Lib.hid hset2
    have HT2 := Lib.hid ((g9.block _ (Array.getElem?_eq_some_iff.1 HT.out).1 (hne9 _ (by omega))).trans HT.out)
    have HRE2 := Lib.hid ((g9.block _ (Array.getElem?_eq_some_iff.1 HRE.out).1 (hne9 _ (by omega))).trans HRE.out)
    have HBP2 := Lib.hid (HBP1.out.setCell (p := ⟨w.heap.size + 2, P / 64, none⟩) (by show w.heap.size ≤ w.heap.size + 2; omega) (.int .u64 (bits .or .u64 ((rowB M (P / 64) : Nat) : Int) (IntKind.u64.wrap (2 ^ (P % 64))))))
    have HBB2 := Lib.hid (HBB.out.setCell (p := ⟨w.heap.size + 2, P / 64, none⟩) (by show w.heap.size ≤ w.heap.size + 2; omega) (.int .u64 (bits .or .u64 ((rowB M (P / 64) : Nat) : Int) (IntKind.u64.wrap (2 ^ (P % 64))))))
    have HK2 := Lib.hid (HK1.out.trans (KeepsOthers.of_grownBy g9 (fun j o e ho => by cases e; rw [HRL.out] at ho; cases ho; rfl)))
    clear HT HRE HBP1 HBB HK1 HSZ c0 f0 hlt g9 hne9 hset hset2 HRL hor LA
    refine hK _ _ (.inl ⟨⟨lastP_of (by kernel_rfl), by kernel_rfl⟩, ?_⟩)
    clear hK K
    try simp only [Act.put, List.setIfInBounds_toArray, List.set_cons_zero, List.set_cons_succ]
    simp only [OnlyNormal]
    gi_wp2
    exact ⟨HK2.out.from _, HBP2.out, HRL2.out, HT2.out, HRE2.out, HBB2.out⟩
  case done =>
    rintro D ys W hD hys ⟨hRL, hTb, hRes, hB⟩ hK
    subst hys
    have hsW := hB.size
    obtain ⟨x0, x1, -, -⟩ := row2_of hTb
    have hn := getV_load y hy
    have hl := numL_lt y hy
    have IG := Lib.hid (fun w => iget_any y 0 4 w (by omega))
    rw [hn] at IG
    have hwr : IntKind.u64.wrap ((numL y : Nat) : Int) = ((numL y : Nat) : Int) := by rw [IntKind.wrap_u64]; omega
    have hset := set_cellsD (j := 31) (.int .u64 ((numL y : Nat) : Int)) hRL
    rw [rowA_load (bitsK ys) (ys.map (·.1), y) (fun p hp => bitsK_has ys y p hp) hy] at hset
    have c0 : W.cell? ⟨w.heap.size + 2, 31, none⟩ = some (.int .u64 ((rowB (bitsK ys) 31 : Nat) : Int)) := by rw [cell_of_row _ _ _ _ _ _ hRL]; exact rowA_get _ _ (by omega)
    have f0 : W.frozen? ⟨w.heap.size + 2, 31, none⟩ = false := by simp [World.frozen?, hRL]
    have hlt := (Array.getElem?_eq_some_iff.1 hRL).1
    have g9 := Lib.grownBy_setCell W (w.heap.size + 2) 31 (.int .u64 ((numL y : Nat) : Int))
    have hDlt := (Array.getElem?_eq_some_iff.1 hK).1
    have hD2 : w.heap.size + 2 ≠ D := by omega
    have hK2 := (g9.block D hDlt (fun e => by cases e; omega)).trans hK
    have hR2 := (g9.block _ (Array.getElem?_eq_some_iff.1 hRes).1 (fun e => by have := Option.some.inj e; omega)).trans hRes
    have hB2 := hB.setCell (p := ⟨w.heap.size + 2, 31, none⟩) (by show w.heap.size ≤ w.heap.size + 2; omega) (.int .u64 ((numL y : Nat) : Int))
    have HF := Lib.hid (And.intro hset (And.intro hK2 (And.intro hR2 hB2)))
    clear hRL hTb hRes hB hset hK2 hR2 hB2 g9 hK hn
    simp only [Exit.inBlock, Exit.then]
    rename_i hKK
    refine hKK _ _ ?_
    clear hKK
    refine wpIn_wide.2 ?_
    apply wp_seq_k; intro K0 hK0
    have HK0 := Lib.hid hK0; clear hK0
    go_wp2_with fail
    refine (IG.out _).mono ?_
    rintro e W1 ⟨rfl, rfl⟩
    go_wp2_with fail
    refine HK0.out _ _ ?_
    clear HK0 K0
    obtain ⟨hset, hK2, hR2, hB2⟩ := HF.out
    have hW2 : ∃ W2, W2 = W1.setCell ⟨w.heap.size + 2, 31, none⟩ (.int .u64 ((numL y : Nat) : Int)) := ⟨_, rfl⟩
    obtain ⟨W2, hW2⟩ := hW2
    rw [← hW2] at hset hK2 hR2 hB2
    rw [show W1.setCell ⟨w.heap.size + 1 + 1, 31, none⟩ (.int .u64 ((numL y : Nat) : Int)) = W2 from hW2.symm]
    clear hW2
    have LD := run_loadVar_row (P := Try.prog) W2 (w.heap.size + 2) 79 79 (rowA (hasX (ys.map (·.1), y))) (0, 0) _ hset Try.underlying79 rfl (by rw [rowA_size]; exact size_row)
    have hs3 := setRow_heap W2 (w.heap.size + 1) _ (rowA (hasX (ys.map (·.1), y))) 79 (0, 0) hR2
    have hB3 : Below w.heap.size w (W2.setRow (w.heap.size + 1) (rowA (hasX (ys.map (·.1), y)))) := hB2.trans ⟨rfl, rfl, rfl, by rw [setRow_size]; exact Nat.le_refl _, fun k hk => setRow_other _ _ _ _ (by omega)⟩
    have hK3 := (setRow_other W2 (w.heap.size + 1) D (rowA (hasX (ys.map (·.1), y))) (by omega)).trans hK2
    have hone : (rowA (hasX (ys.map (·.1), y))).all (·.oneCell') = true := by unfold rowA; exact all_oneCell_toArray (rowV_one _)
    have hrz := rowA_size (hasX (ys.map (·.1), y))
    have hrz0 := rowA_size (fun _ => false)
    generalize hA2 : rowA (hasX (ys.map (·.1), y)) = A2 at *
    generalize (rowA fun _ => false) = A0 at *
    have HF := Lib.hid (And.intro hK3 (And.intro hs3 hB3))
    clear hK3 hs3 hB3 hK2 hB2
    apply wp_seq_k; intro K0 hK0
    apply wp_region_lit
    refine wpList_load_row rfl 79 (.tmp 3) rfl (w.heap.size + 2) rfl 79 A2 (0, 0) _ hset Try.underlying79 rfl (by rw [hrz]; exact size_row) ?_
    refine wpList_store_rowTo rfl 79 (.tmp 2) (.tmp 26) rfl rfl (w.heap.size + 1) A2 rfl rfl 79 A0 hR2 (by rw [hrz]; exact size_row) (by rw [hrz0, hrz]) hone ?_
    apply wpList_nil
    refine hK0 _ _ ?_
    apply wp_ret
    obtain ⟨hK3, hs3, hB3⟩ := HF.out
    try rw [Exit.noGoto_ret]
    refine ⟨by simp, .inl ⟨_, _, rfl, run_takeDeferred hK3, ?_⟩⟩
    have hR3 := (World.putObj_heap_other (w := W2.setRow (w.heap.size + 1) A2) (r := D) (o := .deferred none) (show w.heap.size + 1 ≠ D by omega)).trans hs3
    have l3 := run_loadVar_row (P := Try.prog) _ (w.heap.size + 1) 79 79 A2 (0, 0) _ hR3 Try.underlying79 rfl (by rw [hrz]; exact size_row)
    refine ⟨.agg A2, ?_, by rw [hA2], hB3.trans (belowK_b (w := w) (Nat.le_refl _) _ D _ _ (by omega) hK3 rfl rfl)⟩
    rw [results_cell (p := 2) (ty := 79) (by kernel_rfl)]
    simp [asAddr, Result.andThen, l3, Act.put]
  case stop =>
    rintro D c pre W _ _ h _
    exact h.elim
end Go.Proofs.Ytbbjpjkclealfaa
namespace Go.Proofs.Ytbbjpjkclealfaa
open Go.ChangeShapes Go.WideShapes Go.ChangeAt Go.RowKit Go.BigFrame
set_option linter.unusedVariables false

/-- four bytes as an array's value -/
def arr4 (y : ByteArray) : Value := .agg (Lib.byteCells y.data.toList).toArray
theorem four_bytes (y : ByteArray) (h : y.size = 4) : ∃ a b c d : UInt8, y.data.toList = [a, b, c, d] := by
  have hl : y.data.toList.length = 4 := by simpa using h
  match hm : y.data.toList, hl with
  | [a, b, c, d], _ => exact ⟨a, b, c, d, rfl⟩
theorem set_cellsR {w : World} {B j : Nat} {cs : Array Value} {t : TypeId} (u : Value) (h : w.heap[B]? = some (.cells cs t (0, 0))) : (w.setCell ⟨B, j, none⟩ u).heap[B]? = some (.cells (cs.setIfInBounds j u) t (0, 0)) := by
  obtain ⟨hlt, hk⟩ := Array.getElem?_eq_some_iff.1 h
  show (w.heap.modify B _)[B]? = _
  rw [Array.getElem?_eq_getElem (by rw [Array.size_modify]; exact hlt), Array.getElem_modify_self, hk]
  rfl
set_option maxRecDepth 100000 in
theorem iloadbytes_any (y : ByteArray) (w : World) (hy : y.size = 4) : Calls Try.prog 63 #[.string y] w fun e w' => e = .returned (arr4 y) ∧ Below w.heap.size w w' := by
  obtain ⟨a, b, c, d, hd⟩ := four_bytes y hy
  have hsz : (Try.prog.info? 5).map (·.size) = some 1 := by kernel_rfl
  have hW : (((w.alloc (.cells #[.int .u8 0, .int .u8 0, .int .u8 0, .int .u8 0] 97)).alloc (.cells #[.int .u8 0, .int .u8 0, .int .u8 0, .int .u8 0] 97))).heap[w.heap.size + 1]? = some (.cells #[.int .u8 0, .int .u8 0, .int .u8 0, .int .u8 0] 97) := by
    have := heap_alloc_new (w.alloc (.cells #[.int .u8 0, .int .u8 0, .int .u8 0, .int .u8 0] 97)) (.cells #[.int .u8 0, .int .u8 0, .int .u8 0, .int .u8 0] 97)
    simpa using this
  have hB : Below w.heap.size w ((w.alloc (.cells #[.int .u8 0, .int .u8 0, .int .u8 0, .int .u8 0] 97)).alloc (.cells #[.int .u8 0, .int .u8 0, .int .u8 0, .int .u8 0] 97)) := ((Below.refl _ _).alloc (Nat.le_refl _) _).alloc (by simp) _
  have hF : ((w.alloc (.cells #[.int .u8 0, .int .u8 0, .int .u8 0, .int .u8 0] 97)).alloc (.cells #[.int .u8 0, .int .u8 0, .int .u8 0, .int .u8 0] 97)).heap[w.heap.size]? = some (.cells #[.int .u8 0, .int .u8 0, .int .u8 0, .int .u8 0] 97) := heap_first _ _ _
  have hr := fun ty => Lib.run_copy_row_string (P := Try.prog) ((w.alloc (.cells #[.int .u8 0, .int .u8 0, .int .u8 0, .int .u8 0] 97)).alloc (.cells #[.int .u8 0, .int .u8 0, .int .u8 0, .int .u8 0] 97)) 22 9 ty 5 (w.heap.size + 1) 0 4 4 y #[.int .u8 0, .int .u8 0, .int .u8 0, .int .u8 0] 97 Try.underlying22 hsz hW (by omega) (by simp; omega)
  rw [show (List.take 0 (#[Value.int .u8 0, .int .u8 0, .int .u8 0, .int .u8 0] : Array Value).toList ++ Lib.byteCells y.data.toList ++ List.drop (0 + y.size) (#[Value.int .u8 0, .int .u8 0, .int .u8 0, .int .u8 0] : Array Value).toList).toArray = #[.int .u8 a.toNat, .int .u8 b.toNat, .int .u8 c.toNat, .int .u8 d.toNat] by rw [hy, hd]; rfl] at hr
  have hB2 := below_setRow hB (show w.heap.size ≤ w.heap.size + 1 by omega) #[.int .u8 a.toNat, .int .u8 b.toNat, .int .u8 c.toNat, .int .u8 d.toNat]
  have hS := setRow_heap _ (w.heap.size + 1) _ #[.int .u8 a.toNat, .int .u8 b.toNat, .int .u8 c.toNat, .int .u8 d.toNat] 97 (0, 0) hW
  have hF2 : (World.setRow ((w.alloc (.cells #[.int .u8 0, .int .u8 0, .int .u8 0, .int .u8 0] 97)).alloc (.cells #[.int .u8 0, .int .u8 0, .int .u8 0, .int .u8 0] 97)) (w.heap.size + 1) #[.int .u8 a.toNat, .int .u8 b.toNat, .int .u8 c.toNat, .int .u8 d.toNat]).heap[w.heap.size]? = some (.cells #[.int .u8 0, .int .u8 0, .int .u8 0, .int .u8 0] 97) := by
    rw [setRow_other _ _ _ _ (by omega)]; exact hF
  generalize World.setRow ((w.alloc (.cells #[.int .u8 0, .int .u8 0, .int .u8 0, .int .u8 0] 97)).alloc (.cells #[.int .u8 0, .int .u8 0, .int .u8 0, .int .u8 0] 97)) (w.heap.size + 1) #[.int .u8 a.toNat, .int .u8 b.toNat, .int .u8 c.toNat, .int .u8 d.toNat] = W2 at *
  have c0 : W2.cell? ⟨w.heap.size + 1, 0, none⟩ = some (.int .u8 a.toNat) := by rw [cell_of_row _ _ 0 _ _ _ hS]; rfl
  have c1 : W2.cell? ⟨w.heap.size + 1, 1, none⟩ = some (.int .u8 b.toNat) := by rw [cell_of_row _ _ 1 _ _ _ hS]; rfl
  have c2 : W2.cell? ⟨w.heap.size + 1, 2, none⟩ = some (.int .u8 c.toNat) := by rw [cell_of_row _ _ 2 _ _ _ hS]; rfl
  have c3 : W2.cell? ⟨w.heap.size + 1, 3, none⟩ = some (.int .u8 d.toNat) := by rw [cell_of_row _ _ 3 _ _ _ hS]; rfl
  have d0 : W2.cell? ⟨w.heap.size, 0, none⟩ = some (.int .u8 0) := by rw [cell_of_row _ _ 0 _ _ _ hF2]; rfl
  have d1 : W2.cell? ⟨w.heap.size, 1, none⟩ = some (.int .u8 0) := by rw [cell_of_row _ _ 1 _ _ _ hF2]; rfl
  have d2 : W2.cell? ⟨w.heap.size, 2, none⟩ = some (.int .u8 0) := by rw [cell_of_row _ _ 2 _ _ _ hF2]; rfl
  have d3 : W2.cell? ⟨w.heap.size, 3, none⟩ = some (.int .u8 0) := by rw [cell_of_row _ _ 3 _ _ _ hF2]; rfl
  have f0 : W2.frozen? ⟨w.heap.size, 0, none⟩ = false := by simp [World.frozen?, hF2]
  have f1 : W2.frozen? ⟨w.heap.size, 1, none⟩ = false := by simp [World.frozen?, hF2]
  have f2 : W2.frozen? ⟨w.heap.size, 2, none⟩ = false := by simp [World.frozen?, hF2]
  have f3 : W2.frozen? ⟨w.heap.size, 3, none⟩ = false := by simp [World.frozen?, hF2]
  have hfin : ((((W2.setCell ⟨w.heap.size, 0, none⟩ (.int .u8 a.toNat)).setCell ⟨w.heap.size, 1, none⟩ (.int .u8 b.toNat)).setCell ⟨w.heap.size, 2, none⟩ (.int .u8 c.toNat)).setCell ⟨w.heap.size, 3, none⟩ (.int .u8 d.toNat)).heap[w.heap.size]? = some (.cells #[.int .u8 a.toNat, .int .u8 b.toNat, .int .u8 c.toNat, .int .u8 d.toNat] 97) :=
    set_cellsR _ (set_cellsR _ (set_cellsR _ (set_cellsR _ hF2)))
  have hBf := (((hB2.setCell (p := ⟨w.heap.size, 0, none⟩) (Nat.le_refl _) (.int .u8 a.toNat)).setCell (p := ⟨w.heap.size, 1, none⟩) (Nat.le_refl _) (.int .u8 b.toNat)).setCell (p := ⟨w.heap.size, 2, none⟩) (Nat.le_refl _) (.int .u8 c.toNat)).setCell (p := ⟨w.heap.size, 3, none⟩) (Nat.le_refl _) (.int .u8 d.toNat)
  have L2 := run_loadVar_row (P := Try.prog) _ w.heap.size 97 97 #[.int .u8 a.toNat, .int .u8 b.toNat, .int .u8 c.toNat, .int .u8 d.toNat] (0, 0) _ hfin Try.underlying97 rfl (by kernel_rfl)
  have L2 := Lib.hid L2; have HBF := Lib.hid hBf; clear hfin hBf hB2 hB hF hW hF2 hS hsz
  go_enter Try.func63, Try.ntmps63
  go_wp2_with (at_builtin; refine Lib.wpList_copy_run _ rfl (.tmp 4) (.tmp 5) 22 9 rfl _ _ rfl rfl (hr _) ?_)
  refine bodyPost_ret (v := .agg #[.int .u8 a.toNat, .int .u8 b.toNat, .int .u8 c.toNat, .int .u8 d.toNat]) ?_ rfl ⟨by unfold arr4; rw [hd]; rfl, HBF.out⟩
  rw [results_cell (p := 2) (ty := 97) (by kernel_rfl)]
  simp [asAddr, Result.andThen, L2.out]
end Go.Proofs.Ytbbjpjkclealfaa
namespace Go.Proofs.Ytbbjpjkclealfaa
open Go.ChangeShapes Go.WideShapes Go.ChangeAt Go.RowKit Go.BigFrame
set_option linter.unusedVariables false

theorem arr_sz : ∀ w : World, (sizeOf 5).run Try.prog w = .ok 1 w := by
  obtain ⟨i0, h1, h2⟩ : ∃ i, Try.prog.info? 5 = some i ∧ i.size = 1 := by
    have h : (Try.prog.info? 5).map (·.size) = some 1 := by kernel_rfl
    cases hq : Try.prog.info? 5 with
    | none => rw [hq] at h; simp at h
    | some i => rw [hq] at h; exact ⟨i, rfl, by simpa using h⟩
  intro w
  simp [sizeOf, typeInfo, h1, h2]
theorem arr_eql (x y : ByteArray) (hx : x.size = 4) (hy : y.size = 4) (w : World) : (binOp .eql 97 (arr4 x) (arr4 y)).run Try.prog w = .ok (.bool (x.data.toList == y.data.toList)) w :=
  run_eql_bytes w 97 5 4 Try.underlying97 Try.underlying5 arr_sz _ _ (by simpa using hx) (by simpa using hy)
theorem arr_guard (op : BinOp) (x y : Operand) (a b : ByteArray) (w : World) : (eqGuard op 97 x y (arr4 a) (arr4 b)).run Try.prog w = .ok () w := by
  unfold arr4
  exact run_eqGuard_agg w op 97 x y _ _ (by kernel_rfl)
theorem arr4_lit (y : ByteArray) (h : y.size = 4) : ∃ a b c d : Int, arr4 y = .agg #[.int .u8 a, .int .u8 b, .int .u8 c, .int .u8 d] := by
  obtain ⟨a, b, c, d, hd⟩ := four_bytes y h
  exact ⟨a.toNat, b.toNat, c.toNat, d.toNat, by unfold arr4; rw [hd]; rfl⟩
end Go.Proofs.Ytbbjpjkclealfaa
namespace Go.Proofs.Ytbbjpjkclealfaa
open Go.ChangeShapes Go.WideShapes Go.ChangeAt Go.RowKit Go.BigFrame
set_option linter.unusedVariables false

theorem nums_cell {w : World} {b : Nat} {p q r s : UInt8} {t : TypeId} (h : w.heap[b]? = some (.cells #[.int .u8 p.toNat, .int .u8 q.toNat, .int .u8 r.toNat, .int .u8 s.toNat] t (0, 0))) :
    ∀ i, i < 4 → w.cell? ⟨b, 0 + i, none⟩ = some (.int .u8 ((numsOf [p, q, r, s]).getD i 0)) := by
  intro i hi
  rcases (by omega : i = 0 ∨ i = 1 ∨ i = 2 ∨ i = 3) with rfl | rfl | rfl | rfl <;> (rw [cell_of_row _ _ _ _ _ _ h]; rfl)
set_option maxRecDepth 100000 in
theorem icodeof_any (a : Option Addr) (n c : Nat) (y : ByteArray) (hy : y.size = 4) (w : World) :
    Calls Try.prog 62 #[.slice a n c, arr4 y] w fun e w' => e = .returned (.agg #[.slice a n c, .string y]) ∧ Below w.heap.size w w' := by
  obtain ⟨p, q, r, s, hd⟩ := four_bytes y hy
  have ha : arr4 y = .agg #[.int .u8 p.toNat, .int .u8 q.toNat, .int .u8 r.toNat, .int .u8 s.toNat] := by unfold arr4; rw [hd]; rfl
  have hb1 := (Below.refl w.heap.size w).alloc (Nat.le_refl _) (.cells #[.int .u8 p.toNat, .int .u8 q.toNat, .int .u8 r.toNat, .int .u8 s.toNat] 97)
  have hb2 := hb1.alloc hb1.size (.cells #[.slice a n c, .string y] 27)
  have hr3 := heap_alloc_new (w.alloc (.cells #[.int .u8 p.toNat, .int .u8 q.toNat, .int .u8 r.toNat, .int .u8 s.toNat] 97)) (.cells #[.slice a n c, .string y] 27)
  have hr1 := heap_first w (.cells #[.slice none 0 0, .string ⟨#[]⟩] 27) (.cells #[.int .u8 p.toNat, .int .u8 q.toNat, .int .u8 r.toNat, .int .u8 s.toNat] 97)
  have hr2 := heap_alloc_new (w.alloc (.cells #[.int .u8 p.toNat, .int .u8 q.toNat, .int .u8 r.toNat, .int .u8 s.toNat] 97)) (.cells #[.slice none 0 0, .string ⟨#[]⟩] 27)
  have e1 : (w.alloc (.cells #[.int .u8 p.toNat, .int .u8 q.toNat, .int .u8 r.toNat, .int .u8 s.toNat] 97)).heap.size = w.heap.size + 1 := by simp
  rw [e1] at hr2 hr3
  have hconv := run_convert_bytes_arg (P := Try.prog) _ 22 5 Try.underlying22 Try.underlying5 w.heap.size 0 4 4 (numsOf [p, q, r, s]) rfl (nums_cell hr1) 9 Try.underlying9
  rw [nums_back, show (⟨[p, q, r, s].toArray⟩ : ByteArray) = y from by rw [← hd]] at hconv
  rw [ha]
  obtain ⟨c0, c1, f0, f1⟩ := row2_of hr2
  have HF := Lib.hid (And.intro (cd_load hr3 (Below.refl _ _)) hb2)
  clear hb1 hb2 hr1 hr2 hr3 e1 ha hd
  go_enter Try.func62, Try.ntmps62
  go_wp2_with fail
  refine bodyPost_ret (v := .agg #[.slice a n c, .string y]) ?_ rfl ⟨rfl, HF.out.2⟩
  rw [results_cell (p := 4) (ty := 27) (by kernel_rfl)]
  have l2 := HF.out.1
  simp [asAddr, Result.andThen, l2]
set_option maxRecDepth 100000 in
theorem iblank_any (v : Value) (y : ByteArray) (w : World) :
    Calls Try.prog 61 #[.agg #[v, .string y]] w fun e w' => e = .returned (.agg #[.slice none 0 0, .string z4]) ∧ Below w.heap.size w w' := by
  have hb1 := (Below.refl w.heap.size w).alloc (Nat.le_refl _) (.cells #[v, .string y] 27)
  have hb2 := hb1.alloc hb1.size (.cells #[.slice none 0 0, .string ⟨#[]⟩] 27)
  have hr2 := heap_alloc_new (w.alloc (.cells #[v, .string y] 27)) (.cells #[.slice none 0 0, .string ⟨#[]⟩] 27)
  have e1 : (w.alloc (.cells #[v, .string y] 27)).heap.size = w.heap.size + 1 := by simp
  rw [e1] at hr2
  have HC := Lib.hid (fun w => icodeof_any none 0 0 z4 rfl w)
  have ha : arr4 z4 = .agg #[.int .u8 0, .int .u8 0, .int .u8 0, .int .u8 0] := rfl
  rw [ha] at HC
  have HB := Lib.hid hb2; have HR := Lib.hid hr2
  clear hb1 hb2 hr2 e1 ha
  go_enter Try.func61, Try.ntmps61
  go_wp2_with fail
  generalize (w.alloc (.cells #[v, .string y] 27)).alloc (.cells #[.slice none 0 0, .string ⟨#[]⟩] 27) = W at *
  refine (HC.out _).mono ?_
  rintro e w1 ⟨rfl, hb1⟩
  have hr1 := (hb1.block _ (Array.getElem?_eq_some_iff.1 HR.out).1).trans HR.out
  obtain ⟨c0, c1, f0, f1⟩ := row2_of hr1
  have hlt := (Array.getElem?_eq_some_iff.1 hr1).1
  have HF := Lib.hid (And.intro (cd_res hr1 (.slice none 0 0) z4) (below2 (HB.out.trans (hb1.mono HB.out.size)) (by omega : w.heap.size ≤ w.heap.size + 1) (.slice none 0 0) (.string z4)))
  clear HB HR HC hb1 hr1
  go_wp2_with fail
  refine bodyPost_ret (v := .agg #[.slice none 0 0, .string z4]) ?_ rfl ⟨rfl, HF.out.2⟩
  rw [results_cell (p := 2) (ty := 27) (by kernel_rfl)]
  have l2 := HF.out.1
  simp [asAddr, Result.andThen, l2]
end Go.Proofs.Ytbbjpjkclealfaa
namespace Go.Proofs.Ytbbjpjkclealfaa
open Go.ChangeShapes Go.WideShapes Go.ChangeAt Go.RowKit Go.BigFrame
set_option linter.unusedVariables false

def zero4L : List UInt8 := [0, 0, 0, 0]
theorem z4_eq (y : ByteArray) : decide (y = z4) = (y.data.toList == zero4L) := by
  rw [Bool.eq_iff_iff, decide_eq_true_eq, beq_iff_eq]
  constructor
  · rintro rfl; rfl
  · intro h
    have : y = ⟨y.data.toList.toArray⟩ := by simp
    rw [this, h]; rfl
set_option maxRecDepth 100000 in
set_option maxHeartbeats 1000000 in
theorem icodeok_any (v : Value) (ks : List K2) (y : ByteArray) (w : World) (h : keysAt w v ks) (hs : ks.length ≤ 2000000) :
    Calls Try.prog 110 #[.agg #[v, .string y]] w fun e w' => e = .returned (.bool (codeOkB (ks, y))) ∧ Below w.heap.size w w' := by
  have hb := (Below.refl w.heap.size w).alloc (Nat.le_refl _) (.cells #[v, .string y] 27)
  have HB := Lib.hid hb
  have HX := Lib.hid (heap_alloc_new w (.cells #[v, .string y] 27))
  have HK := Lib.hid (ikeysok_any v ks (w.alloc (.cells #[v, .string y] 27)) (keysAt_below h hb) hs)
  obtain ⟨a, cap, rfl, -, -⟩ := h
  unfold codeOkB
  dsimp only
  obtain ⟨x0, x1, -, -⟩ := row2_of HX.out
  clear hb
  go_enter Try.func110, Try.ntmps110
  by_cases h1 : ks.length ≤ 6
  · have i1 : ¬ (6 : Int) < (ks.length : Int) := by omega
    have i2 : (ks.length : Int) ≤ 6 := by omega
    go_wp2_with fail
    generalize w.alloc (.cells #[.slice a ks.length cap, .string y] 27) = W at *
    refine HK.out.mono ?_
    rintro e w1 ⟨rfl, hb1⟩
    have HB1 := Lib.hid (HB.out.trans (hb1.mono HB.out.size))
    clear x0 x1
    obtain ⟨x0, x1⟩ := cd_cells HX.out hb1
    clear hb1 HK HX HB
    cases h2 : keysOkR ks with
    | false =>
      go_wp2
      go_ret
      exact ⟨by simp [h1, h2], HB1.out⟩
    | true =>
      by_cases h3 : y.size = 4
      · have i3 : (y.size : Int) = 4 := by omega
        by_cases h4 : 0 < ks.length
        · have i4 : (0 : Int) < (ks.length : Int) := by omega
          go_wp2
          go_ret
          exact ⟨by simp [h1, h2, h3, h4], HB1.out⟩
        · have i4 : ¬ (0 : Int) < (ks.length : Int) := by omega
          have AE := fun w => arr_eql y z4 h3 rfl w
          have AG := fun op x z w => arr_guard op x z y z4 w
          have HL := Lib.hid (iloadbytes_any y w1 h3)
          obtain ⟨p, q, r, s, hp⟩ := arr4_lit y h3
          rw [hp] at AE AG HL
          rw [show arr4 z4 = .agg #[.int .u8 0, .int .u8 0, .int .u8 0, .int .u8 0] from rfl] at AE AG
          rw [show z4.data.toList = zero4L from rfl, ← z4_eq] at AE
          clear hp
          generalize hbo : decide (y = z4) = bo at *
          go_wp2_with fail
          refine HL.out.mono ?_
          rintro e w2 ⟨rfl, hb2⟩
          have HB2 := Lib.hid (HB1.out.trans (hb2.mono HB1.out.size))
          clear hb2 HL x0 x1 HB1
          go_wp2
          go_ret
          exact ⟨by rw [← hbo]; simp [h1, h2, h3, h4], HB2.out⟩
      · have i3 : ¬ (y.size : Int) = 4 := by omega
        go_wp2
        go_ret
        exact ⟨by simp [h1, h2, h3], HB1.out⟩
  · have i1 : (6 : Int) < (ks.length : Int) := by omega
    have i2 : ¬ (ks.length : Int) ≤ 6 := by omega
    go_wp2
    go_ret
    exact ⟨by simp [h1], HB.out⟩
end Go.Proofs.Ytbbjpjkclealfaa
namespace Go.Proofs.Ytbbjpjkclealfaa
open Go.ChangeShapes Go.WideShapes Go.ChangeAt Go.RowKit Go.BigFrame
set_option linter.unusedVariables false

/-- rows, as they lie one behind the other -/
def rowsC (R : List W2) : List Value := R.flatMap fun x => rowV (hX x)
theorem rowsC_snoc (R : List W2) (x : W2) : rowsC (R ++ [x]) = rowsC R ++ rowV (hX x) := by simp [rowsC]
theorem rowsC_len : ∀ R : List W2, (rowsC R).length = R.length * 32
  | [] => rfl
  | x :: R => by
    have := rowsC_len R
    simp only [rowsC, List.flatMap_cons, List.length_append, List.length_cons, rowV_len] at *
    omega
theorem rowsC_get : ∀ (R : List W2) (i j : Nat), i < R.length → j < 32 → (rowsC R)[i * 32 + j]? = (rowV (hX (R.getD i zW)))[j]?
  | [], _, _, h, _ => by simp at h
  | x :: R, 0, j, _, hj => by
    simp only [rowsC, List.flatMap_cons, List.getD_cons_zero, Nat.zero_mul, Nat.zero_add]
    rw [List.getElem?_append_left (by rw [rowV_len]; exact hj)]
  | x :: R, i + 1, j, h, hj => by
    have ih := rowsC_get R i j (by simpa using h) hj
    simp only [rowsC, List.flatMap_cons, List.getD_cons_succ] at *
    rw [List.getElem?_append_right (by rw [rowV_len]; omega), rowV_len, show (i + 1) * 32 + j - 32 = i * 32 + j by omega]
    exact ih
def setL : List Value → Nat → List Value → List Value
  | xs, _, [] => xs
  | xs, o, v :: r => setL (xs.set o v) (o + 1) r
theorem setL_cons (x : Value) : ∀ (vs : List Value) (xs : List Value) (o : Nat), setL (x :: xs) (o + 1) vs = x :: setL xs o vs
  | [], _, _ => rfl
  | v :: r, xs, o => by
    show setL ((x :: xs).set (o + 1) v) (o + 1 + 1) r = _
    rw [List.set_cons_succ]
    exact setL_cons x r (xs.set o v) (o + 1)
theorem setL_front : ∀ (a b post : List Value), a.length = b.length → setL (a ++ post) 0 b = b ++ post
  | [], [], _, _ => rfl
  | x :: a, y :: b, post, h => by
    show setL ((x :: (a ++ post)).set 0 y) (0 + 1) b = _
    rw [List.set_cons_zero, setL_cons, setL_front a b post (by simpa using h)]
    rfl
  | [], y :: b, _, h => by simp at h
  | x :: a, [], _, h => by simp at h
theorem setL_mid : ∀ (pre a b post : List Value), a.length = b.length → setL (pre ++ (a ++ post)) pre.length b = pre ++ (b ++ post)
  | [], a, b, post, h => setL_front a b post h
  | x :: pre, a, b, post, h => by
    show setL (x :: (pre ++ (a ++ post))) (pre.length + 1) b = _
    rw [setL_cons, setL_mid pre a b post h]
    rfl
theorem setL_rows : ∀ (R : List W2) (i : Nat) (x : W2), i < R.length → setL (rowsC R) (i * 32) (rowV (hX x)) = rowsC (R.set i x) := by
  intro R i x hi
  have e1 : R = R.take i ++ (R.getD i zW :: R.drop (i + 1)) := by
    rw [List.getD, List.getElem?_eq_getElem hi]
    show R = R.take i ++ (R[i] :: R.drop (i + 1))
    rw [← List.drop_eq_getElem_cons hi, List.take_append_drop]
  have e2 : R.set i x = R.take i ++ (x :: R.drop (i + 1)) := List.set_eq_take_append_cons_drop .. |>.trans (by rw [if_pos hi])
  have hl : (rowsC (R.take i)).length = i * 32 := by rw [rowsC_len, List.length_take, Nat.min_eq_left (by omega)]
  have h1 : rowsC R = rowsC (R.take i) ++ (rowV (hX (R.getD i zW)) ++ rowsC (R.drop (i + 1))) := by
    rw [e1]
    simp only [rowsC, List.flatMap_append, List.flatMap_cons]
    rw [← e1]
  have h2 : rowsC (R.set i x) = rowsC (R.take i) ++ (rowV (hX x) ++ rowsC (R.drop (i + 1))) := by
    rw [e2]
    simp only [rowsC, List.flatMap_append, List.flatMap_cons]
  rw [h1, h2, ← hl]
  exact setL_mid _ _ _ _ (by rw [rowV_len, rowV_len])
theorem own_setCells : ∀ (vs : List Value) (o : Nat) (w : World) {base g cap n : Nat} {e : TypeId} {size : Nat} {xs : List Value}, w.ownsRow base e size (.slice (some ⟨g, 0, none⟩) n cap) n xs →
    (w.setCells g o vs).ownsRow base e size (.slice (some ⟨g, 0, none⟩) n cap) n (setL xs o vs)
  | [], _, _, _, _, _, _, _, _, _, h => h
  | v :: r, o, w, _, _, _, _, _, _, _, h => by
    have h1 := (h.stored o v).1
    exact own_setCells r (o + 1) _ h1
theorem grown_setCells (g : Nat) : ∀ (vs : List Value) (o : Nat) (w : World), w.grownBy (w.setCells g o vs) (some g)
  | [], _, w => World.grownBy.refl _ _
  | v :: r, o, w => grown_trans (Lib.grownBy_setCell w g o v) (grown_setCells g r (o + 1) _)
/-- rows of one's own -/
def rwOwn (W : World) (base : Nat) (v : Value) (R : List W2) : Prop := W.ownsRow base 79 32 v R.length (rowsC R)
theorem rwOwn.range {W : World} {base g cap : Nat} {R : List W2} (h : rwOwn W base (.slice (some ⟨g, 0, none⟩) R.length cap) R) (i : Nat) (hi : i < R.length) : W.rangeAt g (i * 32) (rowV (hX (R.getD i zW))) := by
  intro j v hj
  have hj32 : j < 32 := by have := (List.getElem?_eq_some_iff.1 hj).1; rwa [rowV_len] at this
  rw [World.ownsRow.cellAt h (i * 32 + j) (by omega), rowsC_get R i j hi hj32]
  exact hj
theorem rwOwn.there {W : World} {base g cap : Nat} {R : List W2} (h : rwOwn W base (.slice (some ⟨g, 0, none⟩) R.length cap) R) (i : Nat) (hi : i < R.length) : W.there g (i * 32) 32 := by
  intro j hj
  refine ⟨?_, World.ownsRow.frozenAt h _⟩
  rw [World.ownsRow.cellAt h (i * 32 + j) (by omega), rowsC_get R i j hi hj, rowV_get _ j hj]
  rfl
theorem rwOwn.set {W : World} {base g cap : Nat} {R : List W2} (h : rwOwn W base (.slice (some ⟨g, 0, none⟩) R.length cap) R) (i : Nat) (x : W2) (hi : i < R.length) : rwOwn (W.setCells g (i * 32) (rowV (hX x))) base (.slice (some ⟨g, 0, none⟩) R.length cap) (R.set i x) := by
  have := own_setCells (rowV (hX x)) (i * 32) W h
  rw [setL_rows R i x hi] at this
  unfold rwOwn
  rw [List.length_set]
  exact this
theorem infoRow : (Try.prog.info? 79).map (fun i => (i.zero, i.size, i.bytes)) = some (some (.agg (rowA fun _ => false)), 32, 256) := by
  rw [← rowA_zero]; kernel_rfl
theorem run_append_rw {w : World} {base : Nat} {v : Value} {R : List W2} (hown : rwOwn w base v R) (g : Nat) (x : W2) (hu : w.heap[g]? = some (.cells (rowA (hX x)) 79 (0, 0))) (ty : TypeId) (hn : R.length ≤ 1000) (hbase : base ≤ w.heap.size) :
    ∃ v' w', (Builtin.append_ #[71, 71] ty #[v, .slice (some ⟨g, 0, none⟩) 1 1]).run Try.prog w = .ok v' w' ∧ rwOwn w' base v' (R ++ [x]) ∧ w.grownBy w' v.ownBlock := by
  obtain ⟨i0, hi, hz0, hz1, hz2⟩ := info_parts infoRow
  obtain ⟨v', w', hr, h2, h3, h4, h5⟩ := run_append_own_at (P := Try.prog) w base 71 ty 79 i0 (.agg (rowA fun _ => false)) 32 256 Try.underlying71 hi hz0 hz1 hz2 (by show (rowA fun _ => false).size = 32; exact rowA_size _) (by decide) v R.length (rowsC R) hown ⟨g, 0, none⟩ 1 1 (rowV (hX x)) (by rw [rowV_len])
    (fun j u hj => by
      have hadd : (⟨g, 0, none⟩ : Addr).add j = ⟨g, j, none⟩ := by unfold Addr.add; split <;> simp_all
      rw [hadd, cell_of_row _ _ _ _ _ _ hu]
      unfold rowA
      rw [List.getElem?_toArray]; exact hj) (rowV_one _) (by unfold maxLen; omega) (by omega) hbase
  refine ⟨v', w', hr, ?_, h3⟩
  unfold rwOwn
  rw [List.length_append, rowsC_snoc]
  exact h2
theorem wpList_append_rw {ops : Array Oper} {rest : List Oper} {o : Oper} {a : Act} {w : World} {Q : Exit → Act → World → Prop} (hgd : o.guard = none) (s x : Operand)
    (ho : o.op = .call { callee := .builtin .append, args := #[s, x], argTypes := #[71, 71] })
    {base : Nat} {v : Value} {R : List W2} (hown : rwOwn w base v R) (g : Nat) (u : W2) (hu : w.heap[g]? = some (.cells (rowA (hX u)) 79 (0, 0))) (hs : a.eval s = v) (hx : a.eval x = .slice (some ⟨g, 0, none⟩) 1 1) (hn : R.length ≤ 1000) (hbase : base ≤ w.heap.size)
    (h : ∀ v' w', rwOwn w' base v' (R ++ [u]) → w.grownBy w' v.ownBlock → wpList Try.prog ops Q rest (a.put o.dst v') w') : wpList Try.prog ops Q (o :: rest) a w := by
  refine wpList_plain hgd fun K hK => ?_
  obtain ⟨v', w', hr, h2, h3⟩ := run_append_rw hown g u hu o.type hn hbase
  unfold Oper.wp execOp
  simp only [ho, resolve, invoke, builtin, Sem.run_bind, Sem.run_pure, Result.andThen_ok, List.map_toArray, List.map_cons, List.map_nil, hs, hx, hr]
  exact hK _ _ (h v' w' h2 h3)
theorem fold_row (f : Nat → Bool) : Array.foldl (fun (cs : Array Value) x => cs.setIfInBounds x.snd x.fst) #[Value.int .u64 0, Value.int .u64 0, Value.int .u64 0, Value.int .u64 0, Value.int .u64 0, Value.int .u64 0, Value.int .u64 0, Value.int .u64 0, Value.int .u64 0, Value.int .u64 0, Value.int .u64 0, Value.int .u64 0, Value.int .u64 0, Value.int .u64 0, Value.int .u64 0, Value.int .u64 0, Value.int .u64 0, Value.int .u64 0, Value.int .u64 0, Value.int .u64 0, Value.int .u64 0, Value.int .u64 0, Value.int .u64 0, Value.int .u64 0, Value.int .u64 0, Value.int .u64 0, Value.int .u64 0, Value.int .u64 0, Value.int .u64 0, Value.int .u64 0, Value.int .u64 0, Value.int .u64 0] ((rowA f).zipIdx 0) 0 (rowA f).size = rowA f := by kernel_rfl
end Go.Proofs.Ytbbjpjkclealfaa
namespace Go.Proofs.Ytbbjpjkclealfaa
open Go.ChangeShapes Go.WideShapes Go.ChangeAt Go.RowKit Go.BigFrame
set_option linter.unusedVariables false

set_option maxRecDepth 100000 in
set_option maxHeartbeats 2000000 in
theorem shaskey_any (v : Value) (ks : List K2) (x : K2) (w : World) (h : keysAt w v ks) (hs : ks.length ≤ 2000000) : Calls Try.prog 70 #[v, kv x] w fun e w' => e = .returned (.bool (hasKeyB ks x)) ∧ Below w.heap.size w w' := by
  obtain ⟨a, cap, rfl, hcap, hcells⟩ := h
  obtain ⟨n, s⟩ := x
  unfold kv
  dsimp only
  have hW : ∀ w' : World, Below (w.heap.size + 1) (w.alloc (.cells #[.int .i64 n, .int .i64 s] 41)) w' → (loadVar 41 ⟨w.heap.size, 0, none⟩).run Try.prog w' = .ok (kv (n, s)) w' := fun w' hb' =>
    key_load (k := (n, s)) (w := w.alloc (.cells #[.int .i64 n, .int .i64 s] 41)) (g := w.heap.size) (o := 0) ⟨by simp, by simp⟩ (by simp) (by simpa using hb')
  have hB0 : Below w.heap.size w (w.alloc (.cells #[.int .i64 n, .int .i64 s] 41)) := (Below.refl _ _).alloc (Nat.le_refl _) _
  have hsz0 : (w.alloc (.cells #[.int .i64 n, .int .i64 s] 41)).heap.size = w.heap.size + 1 := by simp
  have HW := Lib.hid hW; have HB0 := Lib.hid hB0; have HSZ := Lib.hid hsz0; clear hW hB0 hsz0
  go_enter Try.func70, Try.ntmps70
  go_wp2
  generalize w.alloc (.cells #[.int .i64 n, .int .i64 s] 41) = W at *
  go_loopw [5] (fun i wr => ∃ k : Nat, k ≤ ks.length ∧ i = .int .i64 k ∧ (∀ j, j < k → (ks.getD j (0, 0) == (n, s)) = false) ∧ Below W.heap.size W wr) (fun i _ => ks.length - (intOf i).toNat)
  case atStart => exact ⟨0, Nat.zero_le _, rfl, fun j hj => by omega, Below.refl _ _⟩
  case round =>
    obtain ⟨k, hk, rfl, hall, hb⟩ := hrel
    by_cases hlt : k < ks.length
    · obtain ⟨g, off, rfl, hg, hcs⟩ := hcells.resolve_left (by omega)
      have z0 : (0 : Int) ≤ (k : Int) := by omega
      have z1 : (k : Int) < (ks.length : Int) := by omega
      have c1 := hcs k hlt
      have L1 : ∀ w', Below W.heap.size W w' → (loadVar 41 ⟨g, off + k * 2, none⟩).run Try.prog w' = .ok (kv (ks.getD k (0, 0))) w' := fun w' hb' =>
        key_load c1 (w' := w') hg (HB0.out.trans (hb'.mono (by rw [HSZ.out]; omega)))
      have L2 : ∀ w', Below W.heap.size W w' → (loadVar 41 ⟨w.heap.size, 0, none⟩).run Try.prog w' = .ok (kv (n, s)) w' := fun w' hb' => HW.out w' (by rw [← HSZ.out]; exact hb')
      clear hcells hcs c1
      generalize hkx : ks.getD k (0, 0) = kx at *
      obtain ⟨p, q⟩ := kx
      cases he : ((p, q) == (n, s)) with
      | true =>
        have hh : hasKeyB ks (n, s) = true := by
          unfold hasKeyB
          rw [List.any_eq_true]
          refine ⟨ks[k], List.getElem_mem hlt, ?_⟩
          have : ks[k] = (p, q) := by rw [← hkx]; simp [List.getD, hlt]
          rw [this, he]
        have HH := Lib.hid hh
        clear hall hkx hh
        go_wp2
        refine wp_region_below W (by kernel_rfl) (by kernel_rfl) hb ?_
        repeat (first
          | go_big_quiet_skip
          | (go_big_quiet_want
             first
               | (go_big_quiet_op; go_big_quiet_on)
               | (refine q_load 41 _ _ _ rfl rfl L1 ?_; simp only [Act.put, List.setIfInBounds_toArray, List.set_cons_zero, List.set_cons_succ]; go_big_quiet_on)
               | (refine q_load 41 _ _ _ rfl rfl L2 ?_; simp only [Act.put, List.setIfInBounds_toArray, List.set_cons_zero, List.set_cons_succ]; go_big_quiet_on)
               | (refine q_bin _ 41 _ _ _ _ _ _ rfl rfl rfl (fun w => key_guard _ _ _ _ _ w) (fun w => key_eql _ _ w) ?_; simp only [Act.put, List.setIfInBounds_toArray, List.set_cons_zero, List.set_cons_succ]; go_big_quiet_on)
               | (refine q_bin _ 41 _ _ _ _ _ _ rfl rfl rfl (fun w => key_guard _ _ _ _ _ w) (fun w => key_neq _ _ w) ?_; simp only [Act.put, List.setIfInBounds_toArray, List.set_cons_zero, List.set_cons_succ]; go_big_quiet_on)
               | (go_big_quiet_op; refine ⟨_, fun _ _ => rfl, ?_⟩; go_big_quiet_on)
               | (go_big_quiet_op; go_big_quiet_on)))
        refine wpQuiet_nil ?_
        intro w2 hb2
        rw [he]
        clear L1 L2 hb
        go_wp2
        go_ret
        exact ⟨by rw [HH.out]; rfl, HB0.out.trans (hb2.mono (by rw [HSZ.out]; omega))⟩
      | false =>
        have hn : ∀ j, j < k + 1 → (ks.getD j (0, 0) == (n, s)) = false := by
          intro j hj
          rcases (by omega : j < k ∨ j = k) with h1 | rfl
          · exact hall j h1
          · rw [hkx, he]
        have HN := Lib.hid hn
        clear hall hkx hn
        go_wp2
        refine wp_region_below W (by kernel_rfl) (by kernel_rfl) hb ?_
        repeat (first
          | go_big_quiet_skip
          | (go_big_quiet_want
             first
               | (go_big_quiet_op; go_big_quiet_on)
               | (refine q_load 41 _ _ _ rfl rfl L1 ?_; simp only [Act.put, List.setIfInBounds_toArray, List.set_cons_zero, List.set_cons_succ]; go_big_quiet_on)
               | (refine q_load 41 _ _ _ rfl rfl L2 ?_; simp only [Act.put, List.setIfInBounds_toArray, List.set_cons_zero, List.set_cons_succ]; go_big_quiet_on)
               | (refine q_bin _ 41 _ _ _ _ _ _ rfl rfl rfl (fun w => key_guard _ _ _ _ _ w) (fun w => key_eql _ _ w) ?_; simp only [Act.put, List.setIfInBounds_toArray, List.set_cons_zero, List.set_cons_succ]; go_big_quiet_on)
               | (refine q_bin _ 41 _ _ _ _ _ _ rfl rfl rfl (fun w => key_guard _ _ _ _ _ w) (fun w => key_neq _ _ w) ?_; simp only [Act.put, List.setIfInBounds_toArray, List.set_cons_zero, List.set_cons_succ]; go_big_quiet_on)
               | (go_big_quiet_op; refine ⟨_, fun _ _ => rfl, ?_⟩; go_big_quiet_on)
               | (go_big_quiet_op; go_big_quiet_on)))
        refine wpQuiet_nil ?_
        intro w2 hb2
        rw [he]
        clear L1 L2 hb
        go_wp2
        exact ⟨⟨k + 1, by omega, by go_num, HN.out, hb2⟩, by simp [intOf]; omega⟩
    · obtain rfl : k = ks.length := by omega
      have hh : hasKeyB ks (n, s) = false := by
        unfold hasKeyB
        rw [List.any_eq_false]
        intro x hx
        obtain ⟨i, hi, rfl⟩ := List.getElem_of_mem hx
        have := hall i hi
        simp only [List.getD, List.getElem?_eq_getElem hi, Option.getD_some] at this
        simp [this]
      have HH := Lib.hid hh
      clear hall hh
      go_wp2
      go_ret
      exact ⟨by rw [HH.out]; rfl, HB0.out.trans (hb.mono (by rw [HSZ.out]; omega))⟩
end Go.Proofs.Ytbbjpjkclealfaa
