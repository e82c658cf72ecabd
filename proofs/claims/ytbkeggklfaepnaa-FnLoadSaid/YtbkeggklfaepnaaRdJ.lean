/- The program's chapter 4, walked: the load of a key. -/
import Derived.Test.YtbkeggklfaepnaaRdI
import Derived.Test.YtbkeggklfaepnaaClonC
namespace Go.Proofs.Ytbkeggklfaepnaa
open Go.ChangeShapes Go.WideShapes Go.ChangeAt Go.RowKit Go.BigFrame
set_option linter.unusedVariables false

set_option maxRecDepth 100000 in
set_option maxHeartbeats 1000000 in
theorem iloadof_any (v : Value) (rs : List R3) (x : K2) (w : World) (h : rdAt w v rs) (hs : rs.length ≤ 2000000) (hx : ∀ r ∈ rs, r.2.size ≤ 2000000) : Calls Try.prog 18 #[v, kv x] w fun e w' => e = .returned (loadV (loadO rs x)) ∧ Below w.heap.size w w' := by
  obtain ⟨a, cap, rfl, hcap, hcells⟩ := h
  obtain ⟨n, s⟩ := x
  unfold kv
  dsimp only
  have hx0 : (w.alloc (.cells #[.int .i64 n, .int .i64 s] 26)).heap[w.heap.size]? = some (.cells #[.int .i64 n, .int .i64 s] 26) := heap_alloc_new w _
  have hB0 : Below w.heap.size w (w.alloc (.cells #[.int .i64 n, .int .i64 s] 26)) := (Below.refl _ _).alloc (Nat.le_refl _) _
  have hsz0 : (w.alloc (.cells #[.int .i64 n, .int .i64 s] 26)).heap.size = w.heap.size + 1 := by simp
  have HX0 := Lib.hid hx0; have HB0 := Lib.hid hB0; have HSZ := Lib.hid hsz0; clear hx0 hB0 hsz0
  go_enter Try.func18, Try.ntmps18
  go_wp2
  generalize w.alloc (.cells #[.int .i64 n, .int .i64 s] 26) = W at *
  go_loopw [10] (fun i wr => ∃ k : Nat, k ≤ rs.length ∧ i = .int .i64 k ∧ (∀ j, j < k → ((rs.getD j r0).1 == (n, s)) = false) ∧ Below W.heap.size W wr) (fun i _ => rs.length - (intOf i).toNat)
  case atStart => exact ⟨0, Nat.zero_le _, rfl, fun j hj => by omega, Below.refl _ _⟩
  case round =>
    obtain ⟨k, hk, rfl, hall, hb⟩ := hrel
    by_cases hlt : k < rs.length
    · obtain ⟨g, off, rfl, hg, hcs⟩ := hcells.resolve_left (by omega)
      have z0 : (0 : Int) ≤ (k : Int) := by omega
      have z1 : (k : Int) < (rs.length : Int) := by omega
      have c1 := hcs k hlt
      rename_i wr
      have hbw := HB0.out.trans (hb.mono (by rw [HSZ.out]; omega))
      have C1 : wr.cell? ⟨g, off + k * 3, none⟩ = some (.int .i64 (rs.getD k r0).1.1) := (hbw.cell (p := ⟨g, off + k * 3, none⟩) hg).trans c1.1
      have C2 : wr.cell? ⟨g, off + k * 3 + 1, none⟩ = some (.int .i64 (rs.getD k r0).1.2) := (hbw.cell (p := ⟨g, off + k * 3 + 1, none⟩) hg).trans c1.2.1
      have C3 : wr.cell? ⟨g, off + k * 3 + 2, none⟩ = some (.string (rs.getD k r0).2) := (hbw.cell (p := ⟨g, off + k * 3 + 2, none⟩) hg).trans c1.2.2
      have hx2 : wr.heap[w.heap.size]? = some (.cells #[.int .i64 n, .int .i64 s] 26) := (hb.block _ (by rw [HSZ.out]; omega)).trans HX0.out
      have E1 : wr.cell? ⟨w.heap.size, 0, none⟩ = some (.int .i64 n) := by rw [cell_of_row _ _ 0 _ _ _ hx2]; rfl
      have E2 : wr.cell? ⟨w.heap.size, 1, none⟩ = some (.int .i64 s) := by rw [cell_of_row _ _ 1 _ _ _ hx2]; rfl
      have HY := Lib.hid (hx (rs.getD k r0) (by simp [List.getD, hlt]))
      have hwz : w.heap.size < wr.heap.size := by have := hb.size; rw [HSZ.out] at this; omega
      clear hcells hcs c1 hx2
      generalize hkx : rs.getD k r0 = kx at *
      obtain ⟨⟨p, q⟩, y⟩ := kx
      dsimp only at C1 C2 C3 HY
      have HC := Lib.hid (fun w => cloneR_any y w HY.out)
      have HBA := Lib.hid (hbw.alloc hbw.size (.cells #[.int .i64 p, .int .i64 q, .string y] 28))
      have HB1 := Lib.hid (hb.alloc hb.size (.cells #[.int .i64 p, .int .i64 q, .string y] 28))
      have EQ := fun w => key_eql (p, q) (n, s) w
      unfold kv at EQ
      dsimp only at EQ
      cases he : ((p, q) == (n, s)) with
      | true =>
        have hh : loadO rs (n, s) = some y := by
          have := loadO_hit (n, s) rs k hlt hall (by rw [hkx]; exact he)
          rw [this, hkx]
        have HH := Lib.hid hh
        rw [he] at EQ
        clear hall hkx hh he hb hbw HY
        go_wp2_with fail
        refine (HC.out _).mono ?_
        rintro e w2 ⟨rfl, hb2⟩
        have hB2 := HBA.out.trans (hb2.mono HBA.out.size)
        go_wp2
        go_ret2
        exact ⟨by rw [HH.out]; rfl, hB2⟩
      | false =>
        have hn : ∀ j, j < k + 1 → ((rs.getD j r0).1 == (n, s)) = false := by
          intro j hj
          rcases (by omega : j < k ∨ j = k) with h1 | rfl
          · exact hall j h1
          · rw [hkx, he]
        have HN := Lib.hid hn
        rw [he] at EQ
        clear hall hkx hn he hb hbw HY
        go_wp2
        exact ⟨⟨k + 1, by omega, by go_num, HN.out, HB1.out⟩, by simp [intOf]; omega⟩
    · obtain rfl : k = rs.length := by omega
      have hh : loadO rs (n, s) = none := loadO_miss (n, s) rs hall
      have HH := Lib.hid hh
      clear hall hh
      go_wp2
      go_ret2
      exact ⟨by rw [HH.out]; rfl, HB0.out.trans (hb.mono (by rw [HSZ.out]; omega))⟩
end Go.Proofs.Ytbkeggklfaepnaa
