/- The program's chapter 3, walked: whether a key is there. -/
import Derived.Test.YtbhdgkaeackbkaaKeyN
namespace Go.Proofs.Ytbhdgkaeackbkaa
open Go.ChangeShapes Go.WideShapes Go.ChangeAt Go.RowKit Go.BigFrame
set_option linter.unusedVariables false

set_option maxRecDepth 100000 in
set_option maxHeartbeats 2000000 in
theorem iindex_any (v : Value) (ks : List K2) (x : K2) (w : World) (h : keysAt w v ks) (hs : ks.length ≤ 2000000) : Calls Try.prog 48 #[v, kv x] w fun e w' => (∃ z : Int, e = .returned (.int .i64 z) ∧ decide (0 ≤ z) = hasKeyB ks x) ∧ Below w.heap.size w w' := by
  obtain ⟨a, cap, rfl, hcap, hcells⟩ := h
  obtain ⟨n, s⟩ := x
  unfold kv
  dsimp only
  have hW : ∀ w' : World, Below (w.heap.size + 1) (w.alloc (.cells #[.int .i64 n, .int .i64 s] 25)) w' → (loadVar 25 ⟨w.heap.size, 0, none⟩).run Try.prog w' = .ok (kv (n, s)) w' := fun w' hb' =>
    key_load (k := (n, s)) (w := w.alloc (.cells #[.int .i64 n, .int .i64 s] 25)) (g := w.heap.size) (o := 0) ⟨by simp, by simp⟩ (by simp) (by simpa using hb')
  have hB0 : Below w.heap.size w (w.alloc (.cells #[.int .i64 n, .int .i64 s] 25)) := (Below.refl _ _).alloc (Nat.le_refl _) _
  have hsz0 : (w.alloc (.cells #[.int .i64 n, .int .i64 s] 25)).heap.size = w.heap.size + 1 := by simp
  have HW := Lib.hid hW; have HB0 := Lib.hid hB0; have HSZ := Lib.hid hsz0; clear hW hB0 hsz0
  go_enter Try.func48, Try.ntmps48
  go_wp2
  generalize w.alloc (.cells #[.int .i64 n, .int .i64 s] 25) = W at *
  go_loopw [8] (fun i wr => ∃ k : Nat, k ≤ ks.length ∧ i = .int .i64 k ∧ (∀ j, j < k → (ks.getD j (0, 0) == (n, s)) = false) ∧ Below W.heap.size W wr) (fun i _ => ks.length - (intOf i).toNat)
  case atStart => exact ⟨0, Nat.zero_le _, rfl, fun j hj => by omega, Below.refl _ _⟩
  case round =>
    obtain ⟨k, hk, rfl, hall, hb⟩ := hrel
    by_cases hlt : k < ks.length
    · obtain ⟨g, off, rfl, hg, hcs⟩ := hcells.resolve_left (by omega)
      have z0 : (0 : Int) ≤ (k : Int) := by omega
      have z1 : (k : Int) < (ks.length : Int) := by omega
      have c1 := hcs k hlt
      have L1 : ∀ w', Below W.heap.size W w' → (loadVar 25 ⟨g, off + k * 2, none⟩).run Try.prog w' = .ok (kv (ks.getD k (0, 0))) w' := fun w' hb' =>
        key_load c1 (w' := w') hg (HB0.out.trans (hb'.mono (by rw [HSZ.out]; omega)))
      have L2 : ∀ w', Below W.heap.size W w' → (loadVar 25 ⟨w.heap.size, 0, none⟩).run Try.prog w' = .ok (kv (n, s)) w' := fun w' hb' => HW.out w' (by rw [← HSZ.out]; exact hb')
      clear hcells hcs c1
      generalize hkx : ks.getD k (0, 0) = kx at *
      obtain ⟨p, q⟩ := kx
      cases he : ((p, q) == (n, s)) with
      | true =>
        have hh : hasKeyB ks (n, s) = true := by
          unfold hasKeyB
          rw [List.any_eq_true]
          refine ⟨ks[k], List.getElem_mem hlt, ?_⟩
          have : ks[k] = (p, q) := by rw [← hkx]; simp [List.getD, hlt]
          rw [this, he]
        have HH := Lib.hid hh
        have he2 : ((n, s) == (p, q)) = true := by rw [eq_of_beq he]; simp
        clear hall hkx hh
        go_wp2
        refine wp_region_below W (by kernel_rfl) (by kernel_rfl) hb ?_
        repeat (first
          | go_big_quiet_skip
          | (go_big_quiet_want
             first
               | (go_big_quiet_op; go_big_quiet_on)
               | (refine q_load 25 _ _ _ rfl rfl L1 ?_; simp only [Act.put, List.setIfInBounds_toArray, List.set_cons_zero, List.set_cons_succ]; go_big_quiet_on)
               | (refine q_load 25 _ _ _ rfl rfl L2 ?_; simp only [Act.put, List.setIfInBounds_toArray, List.set_cons_zero, List.set_cons_succ]; go_big_quiet_on)
               | (refine q_bin _ 25 _ _ _ _ _ _ rfl rfl rfl (fun w => key_guard _ _ _ _ _ w) (fun w => key_eql _ _ w) ?_; simp only [Act.put, List.setIfInBounds_toArray, List.set_cons_zero, List.set_cons_succ]; go_big_quiet_on)
               | (refine q_bin _ 25 _ _ _ _ _ _ rfl rfl rfl (fun w => key_guard _ _ _ _ _ w) (fun w => key_neq _ _ w) ?_; simp only [Act.put, List.setIfInBounds_toArray, List.set_cons_zero, List.set_cons_succ]; go_big_quiet_on)
               | (go_big_quiet_op; refine ⟨_, fun _ _ => rfl, ?_⟩; go_big_quiet_on)
               | (go_big_quiet_op; go_big_quiet_on)))
        refine wpQuiet_nil ?_
        intro w2 hb2
        rw [he2]
        clear L1 L2 hb
        go_wp2
        go_ret
        exact ⟨⟨(k : Int), rfl, by rw [HH.out]; simp⟩, HB0.out.trans (hb2.mono (by rw [HSZ.out]; omega))⟩
      | false =>
        have hn : ∀ j, j < k + 1 → (ks.getD j (0, 0) == (n, s)) = false := by
          intro j hj
          rcases (by omega : j < k ∨ j = k) with h1 | rfl
          · exact hall j h1
          · rw [hkx, he]
        have he2 : ((n, s) == (p, q)) = false := by
          cases h : ((n, s) == (p, q)) with
          | false => rfl
          | true => rw [← eq_of_beq h] at he; simp at he
        have HN := Lib.hid hn
        clear hall hkx hn
        go_wp2
        refine wp_region_below W (by kernel_rfl) (by kernel_rfl) hb ?_
        repeat (first
          | go_big_quiet_skip
          | (go_big_quiet_want
             first
               | (go_big_quiet_op; go_big_quiet_on)
               | (refine q_load 25 _ _ _ rfl rfl L1 ?_; simp only [Act.put, List.setIfInBounds_toArray, List.set_cons_zero, List.set_cons_succ]; go_big_quiet_on)
               | (refine q_load 25 _ _ _ rfl rfl L2 ?_; simp only [Act.put, List.setIfInBounds_toArray, List.set_cons_zero, List.set_cons_succ]; go_big_quiet_on)
               | (refine q_bin _ 25 _ _ _ _ _ _ rfl rfl rfl (fun w => key_guard _ _ _ _ _ w) (fun w => key_eql _ _ w) ?_; simp only [Act.put, List.setIfInBounds_toArray, List.set_cons_zero, List.set_cons_succ]; go_big_quiet_on)
               | (refine q_bin _ 25 _ _ _ _ _ _ rfl rfl rfl (fun w => key_guard _ _ _ _ _ w) (fun w => key_neq _ _ w) ?_; simp only [Act.put, List.setIfInBounds_toArray, List.set_cons_zero, List.set_cons_succ]; go_big_quiet_on)
               | (go_big_quiet_op; refine ⟨_, fun _ _ => rfl, ?_⟩; go_big_quiet_on)
               | (go_big_quiet_op; go_big_quiet_on)))
        refine wpQuiet_nil ?_
        intro w2 hb2
        rw [he2]
        clear L1 L2 hb
        go_wp2
        exact ⟨⟨k + 1, by omega, by go_num, HN.out, hb2⟩, by simp [intOf]; omega⟩
    · obtain rfl : k = ks.length := by omega
      have hh : hasKeyB ks (n, s) = false := by
        unfold hasKeyB
        rw [List.any_eq_false]
        intro x hx
        obtain ⟨i, hi, rfl⟩ := List.getElem_of_mem hx
        have := hall i hi
        simp only [List.getD, List.getElem?_eq_getElem hi, Option.getD_some] at this
        simp [this]
      have HH := Lib.hid hh
      clear hall hh
      go_wp2
      go_ret
      exact ⟨⟨-1, rfl, by rw [HH.out]; rfl⟩, HB0.out.trans (hb.mono (by rw [HSZ.out]; omega))⟩
theorem icontains_any (v : Value) (ks : List K2) (x : K2) (w : World) (h : keysAt w v ks) (hs : ks.length ≤ 2000000) : Calls Try.prog 40 #[v, kv x] w fun e w' => e = .returned (.bool (hasKeyB ks x)) ∧ Below w.heap.size w w' := by
  have HX := Lib.hid (fun w' hw => iindex_any v ks x w' (keysAt_below h hw) hs)
  obtain ⟨a, cap, rfl, hcap, hcells⟩ := h
  obtain ⟨n, s⟩ := x
  have hB0 : Below w.heap.size w (w.alloc (.cells #[.int .i64 n, .int .i64 s] 25)) := (Below.refl _ _).alloc (Nat.le_refl _) _
  have HI := Lib.hid (HX.out _ hB0); have HB0 := Lib.hid hB0; clear HX hB0 hcells
  unfold kv at *
  dsimp only at *
  go_enter Try.func40, Try.ntmps40
  go_wp2_with fail
  refine HI.out.mono ?_
  rintro e w1 ⟨⟨z, rfl, hz⟩, hb1⟩
  have hbb := HB0.out.trans (hb1.mono HB0.out.size)
  clear HI hb1
  have HZ := Lib.hid hz
  clear hz
  go_wp2
  go_ret
  exact ⟨by rw [← HZ.out]; rfl, hbb⟩
theorem ihaskey_any (v : Value) (ks : List K2) (x : K2) (w : World) (h : keysAt w v ks) (hs : ks.length ≤ 2000000) : Calls Try.prog 16 #[v, kv x] w fun e w' => e = .returned (.bool (hasKeyB ks x)) ∧ Below w.heap.size w w' := by
  have HX := Lib.hid (fun w' hw => icontains_any v ks x w' (keysAt_below h hw) hs)
  obtain ⟨a, cap, rfl, hcap, hcells⟩ := h
  obtain ⟨n, s⟩ := x
  have hB0 : Below w.heap.size w (w.alloc (.cells #[.int .i64 n, .int .i64 s] 25)) := (Below.refl _ _).alloc (Nat.le_refl _) _
  have HI := Lib.hid (HX.out _ hB0); have HB0 := Lib.hid hB0; clear HX hB0 hcells
  unfold kv at *
  dsimp only at *
  go_enter Try.func16, Try.ntmps16
  go_wp2_with fail
  refine HI.out.mono ?_
  rintro e w1 ⟨rfl, hb1⟩
  have hbb := HB0.out.trans (hb1.mono HB0.out.size)
  clear HI hb1
  go_wp2
  go_ret
  exact ⟨rfl, hbb⟩
end Go.Proofs.Ytbhdgkaeackbkaa
