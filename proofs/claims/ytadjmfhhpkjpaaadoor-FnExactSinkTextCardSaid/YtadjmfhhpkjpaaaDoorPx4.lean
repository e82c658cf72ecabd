/- Sinks that came in, opened. -/
import Derived.Test.YtadjmfhhpkjpaaaDoorPx3
set_option linter.unusedVariables false
set_option linter.unusedSimpArgs false
namespace Go.Proofs.YtadjmfhhpkjpaaaDoor
open Go.ChangeShapes Go.WideShapes Go.ChangeAt Go.RowKit Go.Deep
set_option linter.unusedVariables false

theorem keys_cells {H : Type} {enc : TypeId × Value → H} {W : World} {base : Nat} {sp : Nat → Bool} {held : Bool} {n : Nat} {cs : List Value} {y : DataW H × List MemPlace}
    (h : DataW.trod enc Tryd.prog W base sp held n 58 cs = some y) : ∃ (v : Value) (ks : List K2), cs = [v] ∧ keysAt W v ks ∧ ks.length ≤ maxLen := by
  rcases open_slice_pairs Tryd.underlying58 Tryd.underlying54 (by kernel_rfl) rfl rfl (by kernel_rfl) (by kernel_rfl) h with ⟨hcs, -⟩ | ⟨x, len, cap, m, n, V0, V1, D0, D1, P0, P1, hcs, -, hl, hm, hmm, -, hx⟩
  · exact ⟨_, [], hcs, ⟨none, 0, rfl, by simp, .inl rfl⟩, by simp⟩
  · have hmc : len ≤ m := by
      rw [hmm]
      split <;> omega
    have hev : ∀ i, i < len → ∃ k : K2, W.cell? (x.add (i * 2)) = some (.int .i64 k.1) ∧ W.cell? (x.add (i * 2 + 1)) = some (.int .i64 k.2) := by
      intro i hi
      obtain ⟨h0, h1, t0, t1⟩ := hx i (by omega)
      obtain ⟨z0, e0, -, -⟩ := DataW.trod_int Tryd.underlying3 t0
      obtain ⟨z1, e1, -, -⟩ := DataW.trod_int Tryd.underlying3 t1
      have e0 : V0 i = .int .i64 z0 := (List.cons.inj e0).1
      have e1 : V1 i = .int .i64 z1 := (List.cons.inj e1).1
      exact ⟨(z0, z1), by rw [h0, e0], by rw [h1, e1]⟩
    obtain ⟨f, hf2⟩ := choose_lt hev
    refine ⟨_, (List.range len).map f, hcs, ⟨some x, cap, by simp, by simpa using hl, ?_⟩, by simp; omega⟩
    simp only [List.length_map, List.length_range]
    rcases Nat.eq_zero_or_pos len with h0 | h0
    · exact .inl h0
    · obtain ⟨b, off, spot⟩ := x
      have hc := (hf2 0 h0).1
      have hs : spot = none := by simpa [Addr.add] using World.cell?_spot hc
      subst hs
      have hadd : ∀ j, (⟨b, off, none⟩ : Addr).add j = ⟨b, off + j, none⟩ := by
        intro j
        unfold Addr.add
        split
        · rename_i h; simp [h]
        · rfl
      refine .inr ⟨b, off, rfl, World.block_lt_of_cell? W ⟨b, off, none⟩ (by simpa [Addr.add] using hc), fun i hi => ?_⟩
      have e : ((List.range len).map f).getD i (0, 0) = f i := by simp [List.getD, hi]
      have := hf2 i hi
      rw [hadd, hadd] at this
      rw [e]
      exact this
set_option maxRecDepth 10000 in
theorem cd_cells_read {H : Type} {enc : TypeId × Value → H} {W : World} {base : Nat} {sp : Nat → Bool} {held : Bool} {n : Nat} {cs : List Value} {x : DataW H × List MemPlace} (hl : cs.length = 2)
    (h : DataW.trod enc Tryd.prog W base sp held n 60 cs = some x) : ∃ (v : Value) (ks : List K2) (y : ByteArray), cs = [v, .string y] ∧ keysAt W v ks ∧ ks.length ≤ maxLen ∧ y.size ≤ maxLen := by
  have c0 : Tryd.prog.cellsOf 58 = 1 := by kernel_rfl
  have c1 : Tryd.prog.cellsOf 9 = 1 := by kernel_rfl
  match cs, hl with
  | [a, b], _ =>
    obtain ⟨xs, k, hk, hxy, _, hxl, hf⟩ := DataW.trod_struct Tryd.underlying60 h
    match xs, hxl with
    | [y0, y1], _ =>
      have g0 := hf 0 _ rfl
      have g1 := hf 1 _ rfl
      simp [c0, c1] at g0 g1
      obtain ⟨v, ks, hv, hks, hkl⟩ := keys_cells g0
      obtain ⟨s, e2, -, hs⟩ := DataW.trod_string Tryd.underlying9 g1
      cases hv; cases e2
      exact ⟨_, ks, s, rfl, hks, hkl, hs⟩
end Go.Proofs.YtadjmfhhpkjpaaaDoor
namespace Go.Proofs.YtadjmfhhpkjpaaaDoor
open Go.ChangeShapes Go.WideShapes Go.ChangeAt Go.RowKit Go.Deep
set_option linter.unusedVariables false

set_option maxRecDepth 20000 in
theorem rd_cells_read {H : Type} {enc : TypeId × Value → H} {W : World} {base : Nat} {sp : Nat → Bool} {held : Bool} {n : Nat} {cs : List Value} {x : DataW H × List MemPlace} (hl : cs.length = 3)
    (h : DataW.trod enc Tryd.prog W base sp held n 56 cs = some x) : ∃ r : R3, cs = [.int .i64 r.1.1, .int .i64 r.1.2, .string r.2] ∧ r.2.size ≤ maxLen := by
  have c0 : Tryd.prog.cellsOf 54 = 2 := by kernel_rfl
  have c1 : Tryd.prog.cellsOf 9 = 1 := by kernel_rfl
  have c2 : Tryd.prog.cellsOf 3 = 1 := by kernel_rfl
  match cs, hl with
  | [a, b, c], _ =>
    obtain ⟨xs, k, hk, hxy, _, hxl, hf⟩ := DataW.trod_struct Tryd.underlying56 h
    match xs, hxl with
    | [y0, y1], _ =>
      have g0 := hf 0 _ rfl
      have g1 := hf 1 _ rfl
      simp [c0, c1] at g0 g1
      obtain ⟨zs, k2, hk2, hzy, _, hzl, hg⟩ := DataW.trod_struct Tryd.underlying54 g0
      match zs, hzl with
      | [u0, u1], _ =>
        have i0 := hg 0 _ rfl
        have i1 := hg 1 _ rfl
        simp [c2] at i0 i1
        obtain ⟨z0, e0, -, -⟩ := DataW.trod_int Tryd.underlying3 i0
        obtain ⟨z1, e1, -, -⟩ := DataW.trod_int Tryd.underlying3 i1
        obtain ⟨s, e2, -, hs⟩ := DataW.trod_string Tryd.underlying9 g1
        cases e0; cases e1; cases e2
        exact ⟨((z0, z1), s), rfl, hs⟩
end Go.Proofs.YtadjmfhhpkjpaaaDoor
namespace Go.Proofs.YtadjmfhhpkjpaaaDoor
open Go.ChangeShapes Go.WideShapes Go.ChangeAt Go.RowKit Go.Deep
set_option linter.unusedVariables false

set_option maxRecDepth 20000 in
theorem cds_cells {H : Type} {enc : TypeId × Value → H} {W : World} {base : Nat} {sp : Nat → Bool} {held : Bool} {nn : Nat} {cs : List Value} {yy : DataW H × List MemPlace}
    (hf : DataW.trod enc Tryd.prog W base sp held nn 23 cs = some yy) : ∃ (v : Value) (L : List C2), cs = [v] ∧ cdAv W none v L ∧ L.length ≤ maxLen ∧ ∀ x ∈ L, x.1.length ≤ maxLen ∧ x.2.size ≤ maxLen := by
  have hC : Tryd.prog.cellsOf 60 = 2 := by kernel_rfl
  rcases open_slice Tryd.underlying23 hf with ⟨hcs, -⟩ | ⟨x, len, cap, m, n, D, Pl, hcs, -, hl, hm, hmm, -, hx⟩
  · exact ⟨_, [], hcs, ⟨none, 0, rfl, by simp, .inl rfl⟩, by simp, fun x hx => by simp at hx⟩
  · have hmc : len ≤ m := by
      rw [hmm]
      split <;> omega
    have hev : ∀ i, i < len → ∃ q : Value × C2, (W.cell? (x.add (i * 2)) = some q.1 ∧ W.cell? (x.add (i * 2 + 1)) = some (.string q.2.2) ∧ keysAt W q.1 q.2.1) ∧ q.2.1.length ≤ maxLen ∧ q.2.2.size ≤ maxLen := by
      intro i hi
      obtain ⟨cs', h1, h2⟩ := hx i (by omega)
      rw [hC] at h1
      obtain ⟨_, hlen, hcell⟩ := World.cells?_some h1
      obtain ⟨u, ks, y, rfl, hk, hl2, hs⟩ := cd_cells_read hlen h2
      have e0 := hcell 0 (by omega)
      have e1 := hcell 1 (by omega)
      rw [add_add] at e0 e1
      exact ⟨(u, (ks, y)), ⟨by simpa using e0, by simpa using e1, hk⟩, hl2, hs⟩
    obtain ⟨f, hf2⟩ := choose_lt hev
    have hfd : ∀ i, i < len → ((List.range len).map fun i => (f i).2).getD i blankC = (f i).2 := fun i hi => by simp [List.getD, hi]
    refine ⟨_, (List.range len).map fun i => (f i).2, hcs, ⟨some x, cap, by simp, by simpa using hl, ?_⟩, by simp; omega, fun y hy => ?_⟩
    · simp only [List.length_map, List.length_range]
      rcases Nat.eq_zero_or_pos len with h0 | h0
      · exact .inl h0
      · obtain ⟨b, off, spot⟩ := x
        have hc := (hf2 0 h0).1.1
        have hs : spot = none := by simpa [Addr.add] using World.cell?_spot hc
        subst hs
        have hadd : ∀ j, (⟨b, off, none⟩ : Addr).add j = ⟨b, off + j, none⟩ := by
          intro j
          unfold Addr.add
          split
          · rename_i h; simp [h]
          · rfl
        refine .inr ⟨b, off, rfl, World.block_lt_of_cell? W ⟨b, off, none⟩ (by simpa [Addr.add] using hc), fun i hi => ?_⟩
        have := (hf2 i hi).1
        rw [hadd, hadd] at this
        rw [hfd i hi]
        exact ⟨(f i).1, this.1, this.2.1, keysAv_of this.2.2 fun g _ e => by cases e⟩
    · obtain ⟨j, hj, rfl⟩ := List.mem_map.1 hy
      exact (hf2 j (List.mem_range.1 hj)).2
set_option maxRecDepth 20000 in
theorem rds_cells {H : Type} {enc : TypeId × Value → H} {W : World} {base : Nat} {sp : Nat → Bool} {held : Bool} {nn : Nat} {cs : List Value} {yy : DataW H × List MemPlace}
    (hf : DataW.trod enc Tryd.prog W base sp held nn 22 cs = some yy) : ∃ (v : Value) (rs : List R3), cs = [v] ∧ rdAt W v rs ∧ rs.length ≤ maxLen ∧ ∀ j, j < rs.length → (rs.getD j r0).2.size ≤ maxLen := by
  have hC : Tryd.prog.cellsOf 56 = 3 := by kernel_rfl
  rcases open_slice Tryd.underlying22 hf with ⟨hcs, -⟩ | ⟨x, len, cap, m, n, D, Pl, hcs, -, hl, hm, hmm, -, hx⟩
  · exact ⟨_, [], hcs, ⟨none, 0, rfl, by simp, .inl rfl⟩, by simp, fun j hj => by simp at hj⟩
  · have hmc : len ≤ m := by
      rw [hmm]
      split <;> omega
    have hev : ∀ i, i < len → ∃ q : R3, (W.cell? (x.add (i * 3)) = some (.int .i64 q.1.1) ∧ W.cell? (x.add (i * 3 + 1)) = some (.int .i64 q.1.2) ∧ W.cell? (x.add (i * 3 + 2)) = some (.string q.2)) ∧ q.2.size ≤ maxLen := by
      intro i hi
      obtain ⟨cs', h1, h2⟩ := hx i (by omega)
      rw [hC] at h1
      obtain ⟨_, hlen, hcell⟩ := World.cells?_some h1
      obtain ⟨q, rfl, hs⟩ := rd_cells_read hlen h2
      have e0 := hcell 0 (by omega)
      have e1 := hcell 1 (by omega)
      have e2 := hcell 2 (by omega)
      rw [add_add] at e0 e1 e2
      exact ⟨q, ⟨by simpa using e0, by simpa using e1, by simpa using e2⟩, hs⟩
    obtain ⟨f, hf2⟩ := choose_lt hev
    have hfd : ∀ i, i < len → ((List.range len).map f).getD i r0 = f i := fun i hi => by simp [List.getD, hi]
    refine ⟨_, (List.range len).map f, hcs, ⟨some x, cap, by simp, by simpa using hl, ?_⟩, by simp; omega, fun j hj => ?_⟩
    · simp only [List.length_map, List.length_range]
      rcases Nat.eq_zero_or_pos len with h0 | h0
      · exact .inl h0
      · obtain ⟨b, off, spot⟩ := x
        have hc := (hf2 0 h0).1.1
        have hs : spot = none := by simpa [Addr.add] using World.cell?_spot hc
        subst hs
        have hadd : ∀ j, (⟨b, off, none⟩ : Addr).add j = ⟨b, off + j, none⟩ := by
          intro j
          unfold Addr.add
          split
          · rename_i h; simp [h]
          · rfl
        refine .inr ⟨b, off, rfl, World.block_lt_of_cell? W ⟨b, off, none⟩ (by simpa [Addr.add] using hc), fun i hi => ?_⟩
        have := (hf2 i hi).1
        rw [hadd, hadd, hadd] at this
        rw [hfd i hi]
        exact this
    · have hj2 : j < len := by simpa using hj
      rw [hfd j hj2]
      exact (hf2 j hj2).2
set_option maxRecDepth 20000 in
theorem open_sink {H : Type} {enc : TypeId × Value → H} {W : World} {r : Reach} {b0 : Nat} {v : Value} {d : DataW H} {p : List MemPlace} (hv : Value.okWide Tryd.prog W r b0 25 v) (h : DataW.Trod enc Tryd.prog W 0 (fun _ => true) true 25 v d p) :
    ∃ (s : Snk) (vk vw : Value), v = snV s vk vw ∧ SnIn W s vk vw := by
  obtain ⟨cs, rfl, hsz⟩ := okWide_struct Tryd.underlying25 hv
  have hC : Tryd.prog.cellsOf 25 = 6 := by kernel_rfl
  have c0 : Tryd.prog.cellsOf 22 = 1 := by kernel_rfl
  have c1 : Tryd.prog.cellsOf 23 = 1 := by kernel_rfl
  have c2 : Tryd.prog.cellsOf 3 = 1 := by kernel_rfl
  obtain ⟨fuel, hf⟩ := h
  have hl6 : cs.toList.length = 6 := by simpa [Value.cells] using hsz.trans hC
  simp only [Value.cells] at hf
  generalize hcl : cs.toList = l at *
  match l, hl6 with
  | [a0, a1, a2, a3, a4, a5], _ =>
    obtain ⟨xs, k, hk, hxy, _, hxl, hg⟩ := DataW.trod_struct Tryd.underlying25 hf
    match xs, hxl with
    | [y0, y1, y2, y3, y4, y5], _ =>
      have g0 := hg 0 _ rfl
      have g1 := hg 1 _ rfl
      have g2 := hg 2 _ rfl
      have g3 := hg 3 _ rfl
      have g4 := hg 4 _ rfl
      have g5 := hg 5 _ rfl
      simp [c0, c1, c2] at g0 g1 g2 g3 g4 g5
      obtain ⟨z0, e0, -, f0⟩ := DataW.trod_int Tryd.underlying3 g0
      obtain ⟨vk, rs, e1, r1, r2, r3⟩ := rds_cells g1
      obtain ⟨vw, L, e2, l1, l2, l3⟩ := cds_cells g2
      obtain ⟨z3, e3, -, f3⟩ := DataW.trod_int Tryd.underlying3 g3
      obtain ⟨z4, e4, -, f4⟩ := DataW.trod_int Tryd.underlying3 g4
      obtain ⟨z5, e5, -, f5⟩ := DataW.trod_int Tryd.underlying3 g5
      cases e0; cases e1; cases e2; cases e3; cases e4; cases e5
      refine ⟨⟨z0, rs, L, z3, z4, z5⟩, a1, a2, ?_, ⟨r1, l1, r2, r3, l2, l3, f0, f3, f4, f5⟩⟩
      rw [← Array.toArray_toList (xs := cs), hcl]
      rfl
end Go.Proofs.YtadjmfhhpkjpaaaDoor
