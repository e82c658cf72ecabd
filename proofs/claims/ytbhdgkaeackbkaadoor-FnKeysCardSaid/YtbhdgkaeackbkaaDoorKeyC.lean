/- Keys in the laws: a list made anew. -/
import Derived.Test.YtbhdgkaeackbkaaDoorKeyL
namespace Go.Proofs.YtbhdgkaeackbkaaDoor
open Go.ChangeShapes Go.WideShapes Go.ChangeAt Go.RowKit Go.BigFrame
set_option linter.unusedVariables false

theorem szkeys_any (v : Value) (ks : List K2) (left : Int) (w : World) (h : ∃ a cap, v = .slice a ks.length cap) (hl : 0 ≤ left ∧ left ≤ 1000000000) (hs : ks.length ≤ 9223372036854775807) :
    Calls Tryd.prog 16 #[v, .int .i64 left] w fun e w' => e = .returned (.int .i64 (if left - (ks.length : Int) < 0 then -1 else left - (ks.length : Int))) ∧ w' = w := by
  obtain ⟨a, cap, rfl⟩ := h
  by_cases hn : left - (ks.length : Int) < 0
  · rw [if_pos hn]
    have ew : IntKind.i64.wrap (left - (ks.length : Int)) = left - (ks.length : Int) := IntWalk.i64_in _ (by omega)
    go_enter Tryd.func16, Tryd.ntmps16
    go_wp2
    go_ret
    exact ⟨rfl, rfl⟩
  · rw [if_neg hn]
    have ew : IntKind.i64.wrap (left - (ks.length : Int)) = left - (ks.length : Int) := IntWalk.i64_in _ (by omega)
    go_enter Tryd.func16, Tryd.ntmps16
    go_wp2
    go_ret
    exact ⟨rfl, rfl⟩
theorem own_cell {w : World} {base g n cap : Nat} {e : TypeId} {size : Nat} {xs : List Value} (h : w.ownsRow base e size (.slice (some ⟨g, 0, none⟩) n cap) n xs) (j : Nat) (hj : j < n * size) :
    w.cell? ⟨g, j, none⟩ = some (xs.getD j undef) ∧ w.frozen? ⟨g, j, none⟩ = false := by
  have hl : xs.length = n * size := h.1
  refine ⟨?_, ?_⟩
  · rw [h.cellAt j hj]
    simp [List.getD, show j < xs.length by omega]
  · rcases h.2 with ⟨h1, _⟩ | ⟨g', cap', cur, h1, _, hg, _⟩
    · simp at h1
    · simp only [Value.slice.injEq, Option.some.injEq, Addr.mk.injEq, and_true, true_and] at h1
      obtain ⟨rfl, rfl⟩ := h1
      simp [World.frozen?, hg]
theorem set_key (ks : List K2) (k : Nat) (p q : Int) (u1 u2 : Value) (rest : List Value) (hk : k < ks.length) (hx : ks.getD k (0, 0) = (p, q)) :
    ((keyCells (ks.take k) ++ u1 :: u2 :: rest).set (k * 2) (.int .i64 p)).set (k * 2 + 1) (.int .i64 q) = keyCells (ks.take (k + 1)) ++ rest := by
  have hl := keyCells_len (ks.take k)
  have hl2 : (keyCells (ks.take k)).length = k * 2 := by rw [hl]; simp; omega
  rw [List.take_succ_eq_append_getElem hk, keyCells_snoc, show ks[k] = (p, q) by rw [← hx]; simp [List.getD, hk]]
  rw [List.set_append_right _ _ (by omega), hl2, Nat.sub_self, List.set_cons_zero, List.set_append_right _ _ (by omega), hl2, show k * 2 + 1 - k * 2 = 1 by omega]
  simp
set_option maxRecDepth 100000 in
set_option maxHeartbeats 1000000 in
theorem tokeys_any (v : Value) (ks : List K2) (w : World) (h : keysAt w v ks) (hs : ks.length ≤ 2000000) : Calls Tryd.prog 17 #[v] w fun e w' => ∃ g, e = .returned (.slice (some ⟨g, 0, none⟩) ks.length ks.length) ∧ w.heap.size ≤ g ∧
    w'.ownsRow w.heap.size 43 2 (.slice (some ⟨g, 0, none⟩) ks.length ks.length) ks.length (keyCells ks) ∧ Below w.heap.size w w' := by
  obtain ⟨a, cap, rfl, hcap, hcells⟩ := h
  obtain ⟨i0, hi, hz0, hz1, hz2⟩ := info_parts infoK
  obtain ⟨W, hmk, hown0, hgr0⟩ := run_make_full (P := Tryd.prog) w w.heap.size 24 43 i0 _ 2 Tryd.underlying24 hi hz0 hz1 .i64 .i64 ks.length (by rw [hz2]; omega) (by unfold maxLen; omega) (Nat.le_refl _)
  have hb0 : Below w.heap.size w W := (Below.refl _ _).grown hgr0 (Nat.le_refl _) (by simp)
  have hrest : (madeCells (Value.agg #[.int .i64 0, .int .i64 0]).cells (ks.length * 2)).toList.length = ks.length * 2 := hown0.1
  generalize (madeCells (Value.agg #[.int .i64 0, .int .i64 0]).cells (ks.length * 2)).toList = Z at *
  go_enter Tryd.func17, Tryd.ntmps17
  go_wp2
  clear hmk hgr0
  go_loopw [4] (fun i wr => ∃ (k : Nat) (rest : List Value), k ≤ ks.length ∧ i = .int .i64 k ∧ wr.ownsRow w.heap.size 43 2 (.slice (some ⟨w.heap.size, 0, none⟩) ks.length ks.length) ks.length (keyCells (ks.take k) ++ rest) ∧ Below w.heap.size w wr)
    (fun i _ => ks.length - (intOf i).toNat)
  case atStart => exact ⟨0, Z, Nat.zero_le _, rfl, by simpa [keyCells] using hown0, hb0⟩
  case round =>
    obtain ⟨k, rest, hk, rfl, hown, hbr⟩ := hrel
    clear hown0 hb0 hrest
    by_cases hlt : k < ks.length
    · obtain ⟨ga, off, rfl, hg, hcs⟩ := hcells.resolve_left (by omega)
      have hc := hcs k hlt
      have z0 : (0 : Int) ≤ (k : Int) := by omega
      have z1 : (k : Int) < (ks.length : Int) := by omega
      have d1 : wr.cell? ⟨ga, off + k * 2, none⟩ = some (.int .i64 (ks.getD k (0, 0)).1) := by rw [hbr.cell (p := ⟨ga, off + k * 2, none⟩) hg]; exact hc.1
      have d2 : wr.cell? ⟨ga, off + k * 2 + 1, none⟩ = some (.int .i64 (ks.getD k (0, 0)).2) := by rw [hbr.cell (p := ⟨ga, off + k * 2 + 1, none⟩) hg]; exact hc.2
      clear hcs hc hcells
      have hkt : (ks.take k).length = k := by simp; omega
      have hkl := keyCells_len (ks.take k)
      have hrl : rest.length = (ks.length - k) * 2 := by
        have := hown.1
        rw [List.length_append, hkl, hkt] at this
        omega
      obtain ⟨u1, u2, rest2, rfl⟩ : ∃ u1 u2 r, rest = u1 :: u2 :: r := by
        match rest, hrl with
        | [], h => simp at h; omega
        | [_], h => simp at h; omega
        | a :: b :: r, _ => exact ⟨a, b, r, rfl⟩
      generalize hkx : ks.getD k (0, 0) = kx at *
      obtain ⟨p, q⟩ := kx
      have hset := set_key ks k p q u1 u2 rest2 hlt hkx
      have HSET := Lib.hid hset
      have HT := Lib.hid (tokey_any (p, q) wr)
      clear hkx hset hrl
      go_wp2_with fail
      refine HT.out.mono ?_
      rintro e w2 ⟨rfl, hb2⟩
      have hown2 := own_below hown hb2
      have hbq := hbr.trans (hb2.mono hbr.size)
      clear hown hbr hb2 HT d1 d2
      have st1 := hown2.stored (k * 2) (.int .i64 p)
      have st2 := st1.1.stored (k * 2 + 1) (.int .i64 q)
      rw [HSET.out] at st2
      have hbz := (hbq.setCell (p := ⟨w.heap.size, k * 2, none⟩) (Nat.le_refl _) (.int .i64 p)).setCell (p := ⟨w.heap.size, k * 2 + 1, none⟩) (Nat.le_refl _) (.int .i64 q)
      have R := Lib.hid (And.intro st2.1 hbz)
      clear st1 st2 hbz hbq HSET
      obtain ⟨s1, s2⟩ := own_cell hown2 (k * 2) (by omega)
      obtain ⟨s3, s4⟩ := own_cell hown2 (k * 2 + 1) (by omega)
      unfold kv
      dsimp only
      go_wp2
      exact ⟨⟨k + 1, rest2, by omega, by go_num, R.out.1, R.out.2⟩, by simp [intOf]; omega⟩
    · obtain rfl : k = ks.length := by omega
      rw [List.take_length] at hown
      have hr0 : rest = [] := by
        have h1 := hown.1
        rw [List.length_append, keyCells_len] at h1
        exact List.eq_nil_of_length_eq_zero (by omega)
      subst hr0
      rw [List.append_nil] at hown
      go_wp2
      go_ret
      exact ⟨w.heap.size, rfl, Nat.le_refl _, hown, hbr⟩
end Go.Proofs.YtbhdgkaeackbkaaDoor
