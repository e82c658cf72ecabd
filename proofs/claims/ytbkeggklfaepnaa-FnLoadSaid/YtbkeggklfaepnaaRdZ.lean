/- Readings in the laws: their size. -/
import Derived.Test.YtbkeggklfaepnaaRdE
import Derived.Test.YtbkeggklfaepnaaOwnR
namespace Go.Proofs.Ytbkeggklfaepnaa
open Go.ChangeShapes Go.WideShapes Go.ChangeAt Go.RowKit Go.BigFrame
set_option linter.unusedVariables false

theorem szreading_any (r : R3) (left : Int) (w : World) (hl : 0 ≤ left ∧ left ≤ 1000000000) (hx : r.2.size ≤ 9223372036854775807) :
    Calls Try.prog 21 #[rv r, .int .i64 left] w fun e w' => e = .returned (.int .i64 (if left - (r.2.size : Int) < 0 then -1 else left - (r.2.size : Int))) ∧ Below w.heap.size w w' := by
  obtain ⟨⟨n, s⟩, x⟩ := r
  unfold rv
  dsimp only at *
  have hb : Below w.heap.size w (w.alloc (.cells #[.int .i64 n, .int .i64 s, .string x] 42)) := (Below.refl _ _).alloc (Nat.le_refl _) _
  have HB := Lib.hid hb; clear hb
  have ew : IntKind.i64.wrap (left - (x.size : Int)) = left - (x.size : Int) := IntWalk.i64_in _ (by omega)
  have ew2 : wrap64 (left - (x.size : Int)) = left - (x.size : Int) := IntWalk.wrap64_in _ (by omega)
  by_cases hn : left - (x.size : Int) < 0
  · rw [if_pos hn]
    go_enter Try.func21, Try.ntmps21
    go_wp2
    go_ret
    exact ⟨rfl, HB.out⟩
  · rw [if_neg hn]
    go_enter Try.func21, Try.ntmps21
    go_wp2
    go_ret
    exact ⟨rfl, HB.out⟩
set_option maxRecDepth 100000 in
set_option maxHeartbeats 1000000 in
theorem szreadings_any (v : Value) (rs : List R3) (left : Int) (w : World) (h : rdAt w v rs) (hl : 0 ≤ left ∧ left ≤ 1000000000) (hs : rs.length ≤ 9223372036854775807) (hx : ∀ j, j < rs.length → (rs.getD j r0).2.size ≤ 9223372036854775807) :
    Calls Try.prog 25 #[v, .int .i64 left] w fun e w' => ∃ r : Int, e = .returned (.int .i64 r) ∧ (r = -1 ∨ (0 ≤ r ∧ r ≤ left - (rs.length : Int) ∧ ∀ j, j < rs.length → ((rs.getD j r0).2.size : Int) ≤ left)) ∧ Below w.heap.size w w' := by
  obtain ⟨a, cap, rfl, hcap, hcells⟩ := h
  have ew : IntKind.i64.wrap (left - (rs.length : Int)) = left - (rs.length : Int) := IntWalk.i64_in _ (by omega)
  have ew2 : wrap64 (left - (rs.length : Int)) = left - (rs.length : Int) := IntWalk.wrap64_in _ (by omega)
  by_cases hn : left - (rs.length : Int) < 0
  · go_enter Try.func25, Try.ntmps25
    go_wp2
    go_ret
    exact ⟨-1, rfl, .inl rfl, Below.refl _ _⟩
  · go_enter Try.func25, Try.ntmps25
    go_wp2
    clear ew ew2
    go_loopw [1, 5] (fun c i wr => ∃ (k : Nat) (l : Int), k ≤ rs.length ∧ i = .int .i64 k ∧ c = .int .i64 l ∧ 0 ≤ l ∧ l ≤ left - (rs.length : Int) ∧ (∀ j, j < k → ((rs.getD j r0).2.size : Int) ≤ left) ∧ Below w.heap.size w wr) (fun _ i _ => rs.length - (intOf i).toNat)
    case atStart => exact ⟨0, _, Nat.zero_le _, rfl, rfl, by omega, Int.le_refl _, fun j hj => by omega, Below.refl _ _⟩
    case round =>
      obtain ⟨k, l, hk, rfl, rfl, hl0, hl1, hall, hb⟩ := hrel
      by_cases hlt : k < rs.length
      · obtain ⟨g, off, rfl, hg, hcs⟩ := hcells.resolve_left (by omega)
        have z0 : (0 : Int) ≤ (k : Int) := by omega
        have z1 : (k : Int) < (rs.length : Int) := by omega
        have hc := hcs k hlt
        have hxk := hx k hlt
        have d1 : wr.cell? ⟨g, off + k * 3, none⟩ = some (.int .i64 (rs.getD k r0).1.1) := by rw [hb.cell (p := ⟨g, off + k * 3, none⟩) hg]; exact hc.1
        have d2 : wr.cell? ⟨g, off + k * 3 + 1, none⟩ = some (.int .i64 (rs.getD k r0).1.2) := by rw [hb.cell (p := ⟨g, off + k * 3 + 1, none⟩) hg]; exact hc.2.1
        have d3 : wr.cell? ⟨g, off + k * 3 + 2, none⟩ = some (.string (rs.getD k r0).2) := by rw [hb.cell (p := ⟨g, off + k * 3 + 2, none⟩) hg]; exact hc.2.2
        have hn2 : ((rs.getD k r0).2.size : Int) ≤ l → ∀ j, j < k + 1 → ((rs.getD j r0).2.size : Int) ≤ left := by
          intro hh j hj
          rcases (by omega : j < k ∨ j = k) with h1 | rfl
          · exact hall j h1
          · omega
        have HN := Lib.hid hn2
        have HX := Lib.hid hx
        clear hcs hc hcells hall hn2 hx
        have HZ := Lib.hid (szreading_any (rs.getD k r0) l wr ⟨hl0, by omega⟩ hxk)
        generalize rs.getD k r0 = kx at *
        obtain ⟨⟨p, q⟩, y⟩ := kx
        dsimp only at *
        go_wp2_with fail
        refine HZ.out.mono ?_
        try dsimp only
        rintro e w2 ⟨rfl, hb2⟩
        have hB := hb.trans (hb2.mono hb.size)
        clear HZ d1 d2 d3 hb hb2
        by_cases hneg : l - (y.size : Int) < 0
        · rw [if_pos hneg]
          go_wp2
          go_ret
          exact ⟨-1, rfl, .inl rfl, hB⟩
        · rw [if_neg hneg]
          have hN := Lib.hid (HN.out (by omega))
          clear HN
          generalize hl2 : l - (y.size : Int) = l2 at *
          have hl3 : 0 ≤ l2 ∧ l2 ≤ left - (rs.length : Int) := by omega
          go_wp2
          exact ⟨⟨k + 1, l2, by omega, by go_num, rfl, hl3.1, hl3.2, hN.out, hB⟩, by simp [intOf]; omega⟩
      · obtain rfl : k = rs.length := by omega
        have HA := Lib.hid hall
        clear hall hcells hx
        go_wp2
        go_ret
        exact ⟨l, rfl, .inr ⟨hl0, hl1, HA.out⟩, hb⟩
end Go.Proofs.Ytbkeggklfaepnaa
