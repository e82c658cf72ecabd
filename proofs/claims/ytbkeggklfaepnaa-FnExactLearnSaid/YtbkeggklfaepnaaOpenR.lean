/- Readings and lists of readings that came in as arguments, opened. -/
import Derived.Test.YtbkeggklfaepnaaRdM
import Derived.Deep.SlicePairs
import Derived.Lib.SmallJoins
namespace Go.Proofs.Ytbkeggklfaepnaa
open Go.ChangeShapes Go.WideShapes Go.ChangeAt Go.RowKit Go.Deep
set_option linter.unusedVariables false

theorem rd_cells_read {H : Type} {enc : TypeId × Value → H} {W : World} {base : Nat} {sp : Nat → Bool} {held : Bool} {n : Nat} {cs : List Value} {x : DataW H × List MemPlace} (hl : cs.length = 3)
    (h : DataW.trod enc Try.prog W base sp held n 42 cs = some x) : ∃ r : R3, cs = [.int .i64 r.1.1, .int .i64 r.1.2, .string r.2] ∧ r.2.size ≤ maxLen := by
  have c0 : Try.prog.cellsOf 40 = 2 := by kernel_rfl
  have c1 : Try.prog.cellsOf 9 = 1 := by kernel_rfl
  have c2 : Try.prog.cellsOf 3 = 1 := by kernel_rfl
  match cs, hl with
  | [a, b, c], _ =>
    obtain ⟨xs, k, hk, hxy, _, hxl, hf⟩ := DataW.trod_struct Try.underlying42 h
    match xs, hxl with
    | [y0, y1], _ =>
      have g0 := hf 0 _ rfl
      have g1 := hf 1 _ rfl
      simp [c0, c1] at g0 g1
      obtain ⟨zs, k2, hk2, hzy, _, hzl, hg⟩ := DataW.trod_struct Try.underlying40 g0
      match zs, hzl with
      | [u0, u1], _ =>
        have i0 := hg 0 _ rfl
        have i1 := hg 1 _ rfl
        simp [c2] at i0 i1
        obtain ⟨z0, e0, -, -⟩ := DataW.trod_int Try.underlying3 i0
        obtain ⟨z1, e1, -, -⟩ := DataW.trod_int Try.underlying3 i1
        obtain ⟨s, e2, -, hs⟩ := DataW.trod_string Try.underlying9 g1
        cases e0; cases e1; cases e2
        exact ⟨((z0, z1), s), rfl, hs⟩
theorem open_reading {H : Type} {enc : TypeId × Value → H} {W : World} {r : Reach} {b0 : Nat} {v : Value} {d : DataW H} {p : List MemPlace} (hv : Value.okWide Try.prog W r b0 42 v) (h : DataW.Trod enc Try.prog W 0 (fun _ => true) true 42 v d p) : ∃ q : R3, v = rv q ∧ q.2.size ≤ maxLen := by
  obtain ⟨cs, rfl, hsz⟩ := okWide_struct Try.underlying42 hv
  have hC : Try.prog.cellsOf 42 = 3 := by kernel_rfl
  obtain ⟨fuel, hf⟩ := h
  obtain ⟨q, hq, hs⟩ := rd_cells_read (by simpa [Value.cells] using hsz.trans hC) hf
  refine ⟨q, ?_, hs⟩
  simp only [Value.cells] at hq
  unfold rv
  rw [← Array.toArray_toList (xs := cs), hq]
theorem open_readings {H : Type} {enc : TypeId × Value → H} {W : World} {r : Reach} {b0 : Nat} {v : Value} {d : DataW H} {p : List MemPlace} (hv : Value.okWide Try.prog W r b0 47 v) (h : DataW.Trod enc Try.prog W 0 (fun _ => true) true 47 v d p) :
    ∃ rs : List R3, rdAt W v rs ∧ rs.length ≤ maxLen ∧ ∀ j, j < rs.length → (rs.getD j r0).2.size ≤ maxLen := by
  have hC : Try.prog.cellsOf 42 = 3 := by kernel_rfl
  obtain ⟨a, len, cap, rfl⟩ := okWide_slice Try.underlying47 hv
  obtain ⟨fuel, hf⟩ := h
  rcases open_slice Try.underlying47 hf with ⟨hcs, -⟩ | ⟨x, l, c, m, n, D, Pl, hcs, -, hl, hm, hmm, -, hx⟩
  · simp [Value.cells] at hcs
    obtain ⟨rfl, rfl, rfl⟩ := hcs
    exact ⟨[], ⟨none, 0, rfl, by simp, .inl rfl⟩, by simp, fun j hj => by simp at hj⟩
  · simp [Value.cells] at hcs
    obtain ⟨rfl, rfl, rfl⟩ := hcs
    have hmc : len ≤ m := by rw [hmm]; simp; omega
    have hev : ∀ i, i < len → ∃ q : R3, (W.cell? (x.add (i * 3)) = some (.int .i64 q.1.1) ∧ W.cell? (x.add (i * 3 + 1)) = some (.int .i64 q.1.2) ∧ W.cell? (x.add (i * 3 + 2)) = some (.string q.2)) ∧ q.2.size ≤ maxLen := by
      intro i hi
      obtain ⟨cs', h1, h2⟩ := hx i (by omega)
      rw [hC] at h1
      obtain ⟨_, hlen, hcell⟩ := World.cells?_some h1
      obtain ⟨q, rfl, hs⟩ := rd_cells_read hlen h2
      have e0 := hcell 0 (by omega)
      have e1 := hcell 1 (by omega)
      have e2 := hcell 2 (by omega)
      rw [add_add] at e0 e1 e2
      exact ⟨q, ⟨by simpa using e0, by simpa using e1, by simpa using e2⟩, hs⟩
    obtain ⟨f, hf2⟩ := choose_lt hev
    have hfd : ∀ i, i < len → ((List.range len).map f).getD i r0 = f i := fun i hi => by simp [List.getD, hi]
    refine ⟨(List.range len).map f, ⟨some x, cap, by simp, by simpa using hl, ?_⟩, by simp; omega, fun j hj => ?_⟩
    · simp only [List.length_map, List.length_range]
      rcases Nat.eq_zero_or_pos len with h0 | h0
      · exact .inl h0
      · obtain ⟨b, off, spot⟩ := x
        have hc := (hf2 0 h0).1.1
        have hs : spot = none := by simpa [Addr.add] using World.cell?_spot hc
        subst hs
        have hadd : ∀ j, (⟨b, off, none⟩ : Addr).add j = ⟨b, off + j, none⟩ := by
          intro j
          unfold Addr.add
          split
          · rename_i h; simp [h]
          · rfl
        refine .inr ⟨b, off, rfl, World.block_lt_of_cell? W ⟨b, off, none⟩ (by simpa [Addr.add] using hc), fun i hi => ?_⟩
        have := (hf2 i hi).1
        rw [hadd, hadd, hadd] at this
        rw [hfd i hi]
        exact this
    · have hj2 : j < len := by simpa using hj
      rw [hfd j hj2]
      exact (hf2 j hj2).2
end Go.Proofs.Ytbkeggklfaepnaa
