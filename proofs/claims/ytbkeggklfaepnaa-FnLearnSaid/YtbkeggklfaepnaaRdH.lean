/- The model's chapter 4, walked: the load of a key. -/
import Derived.Test.YtbkeggklfaepnaaRdE
import Derived.Test.YtbkeggklfaepnaaQuiet2
namespace Go.Proofs.Ytbkeggklfaepnaa
open Go.ChangeShapes Go.WideShapes Go.ChangeAt Go.RowKit Go.BigFrame
set_option linter.unusedVariables false

def loadO : List R3 → K2 → Option ByteArray
  | [], _ => none
  | r :: l, k => if r.1 == k then some r.2 else loadO l k
theorem loadO_hit (x : K2) : ∀ (rs : List R3) (k : Nat), k < rs.length → (∀ j, j < k → ((rs.getD j r0).1 == x) = false) → ((rs.getD k r0).1 == x) = true → loadO rs x = some (rs.getD k r0).2
  | [], _, h, _, _ => by simp at h
  | r :: l, 0, _, _, h => by unfold loadO; rw [if_pos (by simpa using h)]; rfl
  | r :: l, k + 1, hk, hn, h => by
    unfold loadO
    have h0 := hn 0 (by omega)
    rw [if_neg (by simpa using h0)]
    exact loadO_hit x l k (by simpa using hk) (fun j hj => by simpa using hn (j + 1) (by omega)) (by simpa using h)
theorem loadO_miss (x : K2) : ∀ (rs : List R3), (∀ j, j < rs.length → ((rs.getD j r0).1 == x) = false) → loadO rs x = none
  | [], _ => rfl
  | r :: l, hn => by
    unfold loadO
    have h0 := hn 0 (by simp)
    rw [if_neg (by simpa using h0)]
    exact loadO_miss x l (fun j hj => by simpa using hn (j + 1) (by simpa using hj))
/-- what LoadOf tells -/
def loadV (o : Option ByteArray) : Value := .tuple #[.string (o.getD ⟨#[]⟩), .bool o.isSome]
set_option maxRecDepth 100000 in
set_option maxHeartbeats 2000000 in
theorem sloadof_any (v : Value) (rs : List R3) (x : K2) (w : World) (h : rdAt w v rs) (hs : rs.length ≤ 2000000) : Calls Try.prog 19 #[v, kv x] w fun e w' => e = .returned (loadV (loadO rs x)) ∧ Below w.heap.size w w' := by
  obtain ⟨a, cap, rfl, hcap, hcells⟩ := h
  obtain ⟨n, s⟩ := x
  unfold kv
  dsimp only
  have hW : ∀ w' : World, Below (w.heap.size + 1) (w.alloc (.cells #[.int .i64 n, .int .i64 s] 26)) w' → (loadVar 26 ⟨w.heap.size, 0, none⟩).run Try.prog w' = .ok (kv (n, s)) w' := fun w' hb' =>
    key_load (k := (n, s)) (w := w.alloc (.cells #[.int .i64 n, .int .i64 s] 26)) (g := w.heap.size) (o := 0) ⟨by simp, by simp⟩ (by simp) (by simpa using hb')
  have hB0 : Below w.heap.size w (w.alloc (.cells #[.int .i64 n, .int .i64 s] 26)) := (Below.refl _ _).alloc (Nat.le_refl _) _
  have hsz0 : (w.alloc (.cells #[.int .i64 n, .int .i64 s] 26)).heap.size = w.heap.size + 1 := by simp
  have HW := Lib.hid hW; have HB0 := Lib.hid hB0; have HSZ := Lib.hid hsz0; clear hW hB0 hsz0
  go_enter Try.func19, Try.ntmps19
  go_wp2
  generalize w.alloc (.cells #[.int .i64 n, .int .i64 s] 26) = W at *
  go_loopw [6] (fun i wr => ∃ k : Nat, k ≤ rs.length ∧ i = .int .i64 k ∧ (∀ j, j < k → ((rs.getD j r0).1 == (n, s)) = false) ∧ Below W.heap.size W wr) (fun i _ => rs.length - (intOf i).toNat)
  case atStart => exact ⟨0, Nat.zero_le _, rfl, fun j hj => by omega, Below.refl _ _⟩
  case round =>
    obtain ⟨k, hk, rfl, hall, hb⟩ := hrel
    by_cases hlt : k < rs.length
    · obtain ⟨g, off, rfl, hg, hcs⟩ := hcells.resolve_left (by omega)
      have z0 : (0 : Int) ≤ (k : Int) := by omega
      have z1 : (k : Int) < (rs.length : Int) := by omega
      have c1 := hcs k hlt
      have hgW : g < W.heap.size := by rw [HSZ.out]; omega
      have L1 : ∀ w', Below W.heap.size W w' → (loadVar 26 ⟨g, off + k * 3, none⟩).run Try.prog w' = .ok (kv (rs.getD k r0).1) w' := fun w' hb' =>
        rdk_load c1 (w' := w') hg (HB0.out.trans (hb'.mono (by rw [HSZ.out]; omega)))
      have L2 : ∀ w', Below W.heap.size W w' → (loadVar 26 ⟨w.heap.size, 0, none⟩).run Try.prog w' = .ok (kv (n, s)) w' := fun w' hb' => HW.out w' (by rw [← HSZ.out]; exact hb')
      have C3 := Lib.hid (fun (w' : World) (hb' : Below W.heap.size W w') => rdl_load c1 (w' := w') hg (HB0.out.trans (hb'.mono (by rw [HSZ.out]; omega))))
      clear hcells hcs c1
      generalize hkx : rs.getD k r0 = kx at *
      obtain ⟨⟨p, q⟩, y⟩ := kx
      dsimp only at L1 C3
      cases he : ((p, q) == (n, s)) with
      | true =>
        have hh : loadO rs (n, s) = some y := by
          have := loadO_hit (n, s) rs k hlt hall (by rw [hkx]; exact he)
          rw [this, hkx]
        have HH := Lib.hid hh
        clear hall hkx hh
        go_wp2
        refine wp_region_below W (by kernel_rfl) (by kernel_rfl) hb ?_
        repeat (first
          | go_big_quiet_skip
          | (go_big_quiet_want
             first
               | (go_big_quiet_op; go_big_quiet_on)
               | (refine q_load 26 _ _ _ rfl rfl L1 ?_; simp only [Act.put, List.setIfInBounds_toArray, List.set_cons_zero, List.set_cons_succ]; go_big_quiet_on)
               | (refine q_load 26 _ _ _ rfl rfl L2 ?_; simp only [Act.put, List.setIfInBounds_toArray, List.set_cons_zero, List.set_cons_succ]; go_big_quiet_on)
               | (refine q_bin _ 26 _ _ _ _ _ _ rfl rfl rfl (fun w => key_guard _ _ _ _ _ w) (fun w => key_eql _ _ w) ?_; simp only [Act.put, List.setIfInBounds_toArray, List.set_cons_zero, List.set_cons_succ]; go_big_quiet_on)
               | (go_big_quiet_op; refine ⟨_, fun _ _ => rfl, ?_⟩; go_big_quiet_on)
               | (go_big_quiet_op; go_big_quiet_on)))
        refine wpQuiet_nil ?_
        intro w2 hb2
        rw [he]
        have c3 := C3.out w2 hb2
        clear L1 L2 hb C3
        go_wp2
        go_ret2
        exact ⟨by rw [HH.out]; rfl, HB0.out.trans (hb2.mono (by rw [HSZ.out]; omega))⟩
      | false =>
        have hn : ∀ j, j < k + 1 → ((rs.getD j r0).1 == (n, s)) = false := by
          intro j hj
          rcases (by omega : j < k ∨ j = k) with h1 | rfl
          · exact hall j h1
          · rw [hkx, he]
        have HN := Lib.hid hn
        clear hall hkx hn
        go_wp2
        refine wp_region_below W (by kernel_rfl) (by kernel_rfl) hb ?_
        repeat (first
          | go_big_quiet_skip
          | (go_big_quiet_want
             first
               | (go_big_quiet_op; go_big_quiet_on)
               | (refine q_load 26 _ _ _ rfl rfl L1 ?_; simp only [Act.put, List.setIfInBounds_toArray, List.set_cons_zero, List.set_cons_succ]; go_big_quiet_on)
               | (refine q_load 26 _ _ _ rfl rfl L2 ?_; simp only [Act.put, List.setIfInBounds_toArray, List.set_cons_zero, List.set_cons_succ]; go_big_quiet_on)
               | (refine q_bin _ 26 _ _ _ _ _ _ rfl rfl rfl (fun w => key_guard _ _ _ _ _ w) (fun w => key_eql _ _ w) ?_; simp only [Act.put, List.setIfInBounds_toArray, List.set_cons_zero, List.set_cons_succ]; go_big_quiet_on)
               | (go_big_quiet_op; refine ⟨_, fun _ _ => rfl, ?_⟩; go_big_quiet_on)
               | (go_big_quiet_op; go_big_quiet_on)))
        refine wpQuiet_nil ?_
        intro w2 hb2
        rw [he]
        clear L1 L2 hb C3
        go_wp2
        exact ⟨⟨k + 1, by omega, by go_num, HN.out, hb2⟩, by simp [intOf]; omega⟩
    · obtain rfl : k = rs.length := by omega
      have hh : loadO rs (n, s) = none := loadO_miss (n, s) rs hall
      have HH := Lib.hid hh
      clear hall hh
      go_wp2
      go_ret2
      exact ⟨by rw [HH.out]; rfl, HB0.out.trans (hb.mono (by rw [HSZ.out]; omega))⟩
end Go.Proofs.Ytbkeggklfaepnaa
