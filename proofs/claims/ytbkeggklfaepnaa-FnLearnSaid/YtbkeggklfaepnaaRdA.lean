/- Readings put behind readings. -/
import Derived.Test.YtbkeggklfaepnaaRdT
import Derived.Maps.AppendAt
namespace Go.Proofs.Ytbkeggklfaepnaa
open Go.ChangeShapes Go.WideShapes Go.ChangeAt Go.RowKit Go.BigFrame
set_option linter.unusedVariables false

theorem addr_plus (g off j : Nat) : (⟨g, off, none⟩ : Addr).add j = ⟨g, off + j, none⟩ := by
  unfold Addr.add
  split
  · rename_i h; simp [h]
  · rfl
theorem rdCells_one (rs : List R3) : ∀ u ∈ rdCells rs, u.oneCell' = true := by
  intro u hu
  simp only [rdCells, List.mem_flatMap, List.mem_cons, List.not_mem_nil, or_false] at hu
  obtain ⟨k, _, rfl | rfl | rfl⟩ := hu <;> rfl
theorem rdCells_at {w : World} {g off : Nat} {rs : List R3} (h : ∀ i, i < rs.length → w.cell? ⟨g, off + i * 3, none⟩ = some (.int .i64 (rs.getD i r0).1.1) ∧ w.cell? ⟨g, off + i * 3 + 1, none⟩ = some (.int .i64 (rs.getD i r0).1.2) ∧
      w.cell? ⟨g, off + i * 3 + 2, none⟩ = some (.string (rs.getD i r0).2)) :
    ∀ j u, (rdCells rs)[j]? = some u → w.cell? ((⟨g, off, none⟩ : Addr).add j) = some u := by
  intro j u hu
  have hj : j < rs.length * 3 := by rw [← rdCells_len]; exact (List.getElem?_eq_some_iff.1 hu).1
  have hc := rdCells_get rs (j / 3) (by omega)
  have hw := h (j / 3) (by omega)
  rw [addr_plus]
  rcases (by omega : j = j / 3 * 3 ∨ j = j / 3 * 3 + 1 ∨ j = j / 3 * 3 + 2) with e | e | e
  · rw [← e] at hc
    rw [show off + j / 3 * 3 = off + j by omega] at hw
    rw [hc.1] at hu; cases hu
    exact hw.1
  · rw [← e] at hc
    rw [show off + j / 3 * 3 + 1 = off + j by omega] at hw
    rw [hc.2.1] at hu; cases hu
    exact hw.2.1
  · rw [← e] at hc
    rw [show off + j / 3 * 3 + 2 = off + j by omega] at hw
    rw [hc.2.2] at hu; cases hu
    exact hw.2.2
theorem rd_append_none {w : World} {base n : Nat} {v : Value} {xs : List Value} (h : w.ownsRow base 28 3 v n xs) (ar : Option Addr) (cr : Nat) (ty : TypeId) :
    (Builtin.append_ #[24, 24] ty #[v, .slice ar 0 cr]).run Try.prog w = .ok v w := by
  obtain ⟨i0, hi, hz0, hz1, hz2⟩ := info_parts infoR
  have u := Try.underlying24
  rcases h.2 with ⟨rfl, h0⟩ | ⟨g, cap, cur, rfl, _, _, hn, _⟩
  · cases ar <;> simp [Builtin.append_, run_underlying u, sizeOf, typeInfo, hi, storeCells, go_sem]
  · cases ar <;> simp [Builtin.append_, run_underlying u, sizeOf, typeInfo, hi, storeCells, hn, go_sem]
/-- append of readings to what is owned -/
theorem run_append_rd {w : World} {base n : Nat} {v : Value} {xs : List Value} (hown : w.ownsRow base 28 3 v n xs) (u : Value) (rs : List R3) (hu : rdAt w u rs) (ty : TypeId) (hn : n + rs.length ≤ 4000000) (hbase : base ≤ w.heap.size) :
    ∃ v' w', (Builtin.append_ #[24, 24] ty #[v, u]).run Try.prog w = .ok v' w' ∧ w'.ownsRow base 28 3 v' (n + rs.length) (xs ++ rdCells rs) ∧ w.grownBy w' v.ownBlock := by
  obtain ⟨i0, hi, hz0, hz1, hz2⟩ := info_parts infoR
  obtain ⟨a, cap, rfl, hcap, hcells⟩ := hu
  by_cases h0 : rs.length = 0
  · obtain rfl : rs = [] := List.length_eq_zero_iff.1 h0
    exact ⟨v, w, rd_append_none hown a cap ty, by simpa [rdCells] using hown, World.grownBy.refl _ _⟩
  · obtain ⟨g, off, rfl, hg, hcs⟩ := hcells.resolve_left h0
    obtain ⟨v', w', hr, h2, h3, h4, h5⟩ := run_append_own_at (P := Try.prog) w base 24 ty 28 i0 (.agg #[.int .i64 0, .int .i64 0, .string ⟨#[]⟩]) 3 32 Try.underlying24 hi hz0 hz1 hz2 rfl (by decide) v n xs hown ⟨g, off, none⟩ rs.length cap (rdCells rs) (rdCells_len rs) (rdCells_at hcs) (rdCells_one rs) (by unfold maxLen; omega) (by omega) hbase
    exact ⟨v', w', hr, h2, h3⟩
theorem wpList_append_rd {ops : Array Oper} {rest : List Oper} {o : Oper} {a : Act} {w : World} {Q : Exit → Act → World → Prop} (hgd : o.guard = none) (s x : Operand)
    (ho : o.op = .call { callee := .builtin .append, args := #[s, x], argTypes := #[24, 24] })
    {base n : Nat} {v : Value} {xs : List Value} (hown : w.ownsRow base 28 3 v n xs) (u : Value) (rs : List R3) (hu : rdAt w u rs) (hs : a.eval s = v) (hx : a.eval x = u) (hn : n + rs.length ≤ 4000000) (hbase : base ≤ w.heap.size)
    (h : ∀ v' w', w'.ownsRow base 28 3 v' (n + rs.length) (xs ++ rdCells rs) → w.grownBy w' v.ownBlock → wpList Try.prog ops Q rest (a.put o.dst v') w') : wpList Try.prog ops Q (o :: rest) a w := by
  refine wpList_plain hgd fun K hK => ?_
  obtain ⟨v', w', hr, h2, h3⟩ := run_append_rd hown u rs hu o.type hn hbase
  unfold Oper.wp execOp
  simp only [ho, resolve, invoke, builtin, Sem.run_bind, Sem.run_pure, Result.andThen_ok, List.map_toArray, List.map_cons, List.map_nil, hs, hx, hr]
  exact hK _ _ (h v' w' h2 h3)
/-- the first i of readings; those from i on -/
theorem rdAt_take {w : World} {a : Option Addr} {cap : Nat} {rs : List R3} (h : rdAt w (.slice a rs.length cap) rs) (i c : Nat) (hi : i ≤ rs.length) (hc : i ≤ c) : rdAt w (.slice a i c) (rs.take i) := by
  obtain ⟨a', cap', e, h2, h3⟩ := h
  cases e
  refine ⟨a, c, by simp [Nat.min_eq_left hi], by simp; omega, ?_⟩
  rcases h3 with h3 | ⟨g, off, rfl, hg, hcs⟩
  · exact .inl (by simp; omega)
  · refine .inr ⟨g, off, rfl, hg, fun j hj => ?_⟩
    have hj2 : j < i := by simp at hj; omega
    have := hcs j (by omega)
    simpa [List.getD, List.getElem?_take, hj2] using this
theorem rdAt_drop {w : World} {g off n cap : Nat} {rs : List R3} (h : rdAt w (.slice (some ⟨g, off, none⟩) rs.length cap) rs) (i c : Nat) (hi : i ≤ rs.length) (hn : n = rs.length - i) (hc : n ≤ c) : rdAt w (.slice (some ⟨g, off + i * 3, none⟩) n c) (rs.drop i) := by
  obtain ⟨a', cap', e, h2, h3⟩ := h
  cases e
  refine ⟨some ⟨g, off + i * 3, none⟩, c, by simp [hn], by simp; omega, ?_⟩
  rcases h3 with h3 | ⟨g', off', e, hg, hcs⟩
  · exact .inl (by simp; omega)
  · cases e
    refine .inr ⟨g, off + i * 3, rfl, hg, fun j hj => ?_⟩
    have := hcs (i + j) (by simp at hj; omega)
    rw [show off + (i + j) * 3 = off + i * 3 + j * 3 by omega] at this
    simpa [List.getD, List.getElem?_drop] using this
end Go.Proofs.Ytbkeggklfaepnaa
