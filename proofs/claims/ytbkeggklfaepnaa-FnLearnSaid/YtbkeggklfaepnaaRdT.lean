/- Readings in the laws: one made anew. -/
import Derived.Test.YtbkeggklfaepnaaRdE
import Derived.Test.YtbkeggklfaepnaaKeyL0
import Derived.Test.YtbkeggklfaepnaaOwnR
namespace Go.Proofs.Ytbkeggklfaepnaa
open Go.ChangeShapes Go.WideShapes Go.ChangeAt Go.RowKit Go.BigFrame
set_option linter.unusedVariables false

theorem tokey_exact (n s : Int) (w : World) : Calls Try.prog 28 #[.agg #[.int .i64 n, .int .i64 s]] w fun e w' => e = .returned (.agg #[.int .i64 n, .int .i64 s]) ∧
    w' = ((w.alloc (.cells #[.int .i64 n, .int .i64 s] 40)).alloc (.cells #[.int .i64 n, .int .i64 s] 26)).alloc (.cells #[.int .i64 n, .int .i64 s] 26) := by
  go_enter Try.func28, Try.ntmps28
  go_wp2
  refine bodyPost_ret (v := .agg #[.int .i64 n, .int .i64 s]) ?_ rfl ⟨rfl, rfl⟩
  rw [results_cell (p := 2) (ty := 26) (by kernel_rfl)]
  have hl := run_loadVar_row (P := Try.prog) (((w.alloc (.cells #[.int .i64 n, .int .i64 s] 40)).alloc (.cells #[.int .i64 n, .int .i64 s] 26)).alloc (.cells #[.int .i64 n, .int .i64 s] 26)) (w.heap.size + 1) 26 26 #[.int .i64 n, .int .i64 s] (0, 0) _ (heap_mid w _ _ _) Try.underlying26 rfl (by kernel_rfl)
  simp [asAddr, Result.andThen, hl]
theorem toreading_any (r : R3) (w : World) : Calls Try.prog 23 #[rv r] w fun e w' => e = .returned (rv r) ∧ Below w.heap.size w w' := by
  obtain ⟨⟨n, s⟩, x⟩ := r
  unfold rv
  dsimp only
  go_enter Try.func23, Try.ntmps23
  go_wp2_with fail
  refine (tokey_exact n s _).mono ?_
  rintro e w1 ⟨rfl, rfl⟩
  go_wp2_with fail
  have h0 := heap_mid w (.cells #[.int .i64 n, .int .i64 s, .string x] 42) (.cells #[.int .i64 n, .int .i64 s, .string x] 28) (.cells #[.int .i64 n, .int .i64 s, .string x] 28)
  have h1 := (Below.heap_alloc _ (.cells #[.int .i64 n, .int .i64 s] 40) _ (Array.getElem?_eq_some_iff.1 h0).1).trans h0
  have h2 := (Below.heap_alloc _ (.cells #[.int .i64 n, .int .i64 s] 26) _ (Array.getElem?_eq_some_iff.1 h1).1).trans h1
  have h3 := (Below.heap_alloc _ (.cells #[.int .i64 n, .int .i64 s] 26) _ (Array.getElem?_eq_some_iff.1 h2).1).trans h2
  have hB := (((((((Below.refl w.heap.size w).alloc (Nat.le_refl _) (.cells #[.int .i64 n, .int .i64 s, .string x] 42)).alloc (by simp) (.cells #[.int .i64 n, .int .i64 s, .string x] 28)).alloc (by simp; omega) (.cells #[.int .i64 n, .int .i64 s, .string x] 28)).alloc (by simp; omega) (.cells #[.int .i64 n, .int .i64 s] 40)).alloc (by simp; omega) (.cells #[.int .i64 n, .int .i64 s] 26)).alloc (by simp; omega) (.cells #[.int .i64 n, .int .i64 s] 26))
  refine bodyPost_ret (v := .agg #[.int .i64 n, .int .i64 s, .string x]) ?_ rfl ⟨rfl, hB⟩
  rw [results_cell (p := 2) (ty := 28) (by kernel_rfl)]
  have hl := run_loadVar_row (P := Try.prog) _ (w.heap.size + 1) 28 28 #[.int .i64 n, .int .i64 s, .string x] (0, 0) _ h3 Try.underlying28 rfl (by kernel_rfl)
  simp [asAddr, Result.andThen, hl]
theorem infoR : (Try.prog.info? 28).map (fun i => (i.zero, i.size, i.bytes)) = some (some (.agg #[.int .i64 0, .int .i64 0, .string ⟨#[]⟩]), 3, 32) := by kernel_rfl
theorem set_rd (ks : List R3) (k : Nat) (p q : Int) (y : ByteArray) (u1 u2 u3 : Value) (rest : List Value) (hk : k < ks.length) (hx : ks.getD k r0 = ((p, q), y)) :
    (((rdCells (ks.take k) ++ u1 :: u2 :: u3 :: rest).set (k * 3) (.int .i64 p)).set (k * 3 + 1) (.int .i64 q)).set (k * 3 + 2) (.string y) = rdCells (ks.take (k + 1)) ++ rest := by
  have hl := rdCells_len (ks.take k)
  have hl2 : (rdCells (ks.take k)).length = k * 3 := by rw [hl]; simp; omega
  rw [List.take_succ_eq_append_getElem hk, rdCells_snoc, show ks[k] = ((p, q), y) by rw [← hx]; simp [List.getD, hk]]
  rw [List.set_append_right _ _ (by omega), hl2, Nat.sub_self, List.set_cons_zero, List.set_append_right _ _ (by omega), hl2, show k * 3 + 1 - k * 3 = 1 by omega, List.set_append_right _ _ (by omega), hl2, show k * 3 + 2 - k * 3 = 2 by omega]
  simp
set_option maxRecDepth 100000 in
set_option maxHeartbeats 1000000 in
theorem toreadings_any (v : Value) (ks : List R3) (w : World) (h : rdAt w v ks) (hs : ks.length ≤ 2000000) : Calls Try.prog 26 #[v] w fun e w' => ∃ g, e = .returned (.slice (some ⟨g, 0, none⟩) ks.length ks.length) ∧ w.heap.size ≤ g ∧
    w'.ownsRow w.heap.size 28 3 (.slice (some ⟨g, 0, none⟩) ks.length ks.length) ks.length (rdCells ks) ∧ Below w.heap.size w w' := by
  obtain ⟨a, cap, rfl, hcap, hcells⟩ := h
  obtain ⟨i0, hi, hz0, hz1, hz2⟩ := info_parts infoR
  obtain ⟨W, hmk, hown0, hgr0⟩ := run_make_full (P := Try.prog) w w.heap.size 24 28 i0 _ 3 Try.underlying24 hi hz0 hz1 .i64 .i64 ks.length (by rw [hz2]; omega) (by unfold maxLen; omega) (Nat.le_refl _)
  have hb0 : Below w.heap.size w W := (Below.refl _ _).grown hgr0 (Nat.le_refl _) (by simp)
  have hrest : (madeCells (Value.agg #[.int .i64 0, .int .i64 0, .string ⟨#[]⟩]).cells (ks.length * 3)).toList.length = ks.length * 3 := hown0.1
  generalize (madeCells (Value.agg #[.int .i64 0, .int .i64 0, .string ⟨#[]⟩]).cells (ks.length * 3)).toList = Z at *
  go_enter Try.func26, Try.ntmps26
  go_wp2
  clear hmk hgr0
  go_loopw [4] (fun i wr => ∃ (k : Nat) (rest : List Value), k ≤ ks.length ∧ i = .int .i64 k ∧ wr.ownsRow w.heap.size 28 3 (.slice (some ⟨w.heap.size, 0, none⟩) ks.length ks.length) ks.length (rdCells (ks.take k) ++ rest) ∧ Below w.heap.size w wr)
    (fun i _ => ks.length - (intOf i).toNat)
  case atStart => exact ⟨0, Z, Nat.zero_le _, rfl, by simpa [rdCells] using hown0, hb0⟩
  case round =>
    obtain ⟨k, rest, hk, rfl, hown, hbr⟩ := hrel
    clear hown0 hb0 hrest
    by_cases hlt : k < ks.length
    · obtain ⟨ga, off, rfl, hg, hcs⟩ := hcells.resolve_left (by omega)
      have hc := hcs k hlt
      have z0 : (0 : Int) ≤ (k : Int) := by omega
      have z1 : (k : Int) < (ks.length : Int) := by omega
      have d1 : wr.cell? ⟨ga, off + k * 3, none⟩ = some (.int .i64 (ks.getD k r0).1.1) := by rw [hbr.cell (p := ⟨ga, off + k * 3, none⟩) hg]; exact hc.1
      have d2 : wr.cell? ⟨ga, off + k * 3 + 1, none⟩ = some (.int .i64 (ks.getD k r0).1.2) := by rw [hbr.cell (p := ⟨ga, off + k * 3 + 1, none⟩) hg]; exact hc.2.1
      have d3 : wr.cell? ⟨ga, off + k * 3 + 2, none⟩ = some (.string (ks.getD k r0).2) := by rw [hbr.cell (p := ⟨ga, off + k * 3 + 2, none⟩) hg]; exact hc.2.2
      clear hcs hc hcells
      have hkt : (ks.take k).length = k := by simp; omega
      have hkl := rdCells_len (ks.take k)
      have hrl : rest.length = (ks.length - k) * 3 := by
        have := hown.1
        rw [List.length_append, hkl, hkt] at this
        omega
      obtain ⟨u1, u2, u3, rest2, rfl⟩ : ∃ u1 u2 u3 r, rest = u1 :: u2 :: u3 :: r := by
        match rest, hrl with
        | [], h => simp at h; omega
        | [_], h => simp at h; omega
        | [_, _], h => simp at h; omega
        | a :: b :: c :: r, _ => exact ⟨a, b, c, r, rfl⟩
      generalize hkx : ks.getD k r0 = kx at *
      obtain ⟨⟨p, q⟩, y⟩ := kx
      dsimp only at d1 d2 d3
      have hset := set_rd ks k p q y u1 u2 u3 rest2 hlt hkx
      have HSET := Lib.hid hset
      have HT := Lib.hid (toreading_any ((p, q), y) wr)
      clear hkx hset hrl
      go_wp2_with fail
      refine HT.out.mono ?_
      rintro e w2 ⟨rfl, hb2⟩
      have hown2 := own_below hown hb2
      have hbq := hbr.trans (hb2.mono hbr.size)
      clear hown hbr hb2 HT d1 d2 d3
      have st1 := hown2.stored (k * 3) (.int .i64 p)
      have st2 := st1.1.stored (k * 3 + 1) (.int .i64 q)
      have st3 := st2.1.stored (k * 3 + 2) (.string y)
      rw [HSET.out] at st3
      have hbz := ((hbq.setCell (p := ⟨w.heap.size, k * 3, none⟩) (Nat.le_refl _) (.int .i64 p)).setCell (p := ⟨w.heap.size, k * 3 + 1, none⟩) (Nat.le_refl _) (.int .i64 q)).setCell (p := ⟨w.heap.size, k * 3 + 2, none⟩) (Nat.le_refl _) (.string y)
      have R := Lib.hid (And.intro st3.1 hbz)
      clear st1 st2 st3 hbz hbq HSET
      obtain ⟨s1, s2⟩ := own_cell hown2 (k * 3) (by omega)
      obtain ⟨s3, s4⟩ := own_cell hown2 (k * 3 + 1) (by omega)
      obtain ⟨s5, s6⟩ := own_cell hown2 (k * 3 + 2) (by omega)
      unfold rv
      dsimp only
      go_wp2
      exact ⟨⟨k + 1, rest2, by omega, by go_num, R.out.1, R.out.2⟩, by simp [intOf]; omega⟩
    · obtain rfl : k = ks.length := by omega
      rw [List.take_length] at hown
      have hr0 : rest = [] := by
        have h1 := hown.1
        rw [List.length_append, rdCells_len] at h1
        exact List.eq_nil_of_length_eq_zero (by omega)
      subst hr0
      rw [List.append_nil] at hown
      go_wp2
      go_ret
      exact ⟨w.heap.size, rfl, Nat.le_refl _, hown, hbr⟩
end Go.Proofs.Ytbkeggklfaepnaa
