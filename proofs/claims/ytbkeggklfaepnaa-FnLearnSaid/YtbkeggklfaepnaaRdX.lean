/- Readings put behind readings, and moved on among themselves: at the operation. -/
import Derived.Test.YtbkeggklfaepnaaRdCs
import Derived.Laws.CopyOwn
namespace Go.Proofs.Ytbkeggklfaepnaa
open Go.ChangeShapes Go.WideShapes Go.ChangeAt Go.RowKit Go.BigFrame
set_option linter.unusedVariables false

theorem run_append_rd5 {w : World} {base n : Nat} {v : Value} {xs : List Value} (hown : w.ownsRow base 28 3 v n xs) (u : Value) (rs : List R3) (hu : rdAt w u rs) (ty : TypeId) (hn : n + rs.length ≤ 4000000) (hbase : base ≤ w.heap.size) :
    ∃ v' w', (Builtin.append_ #[24, 24] ty #[v, u]).run Try.prog w = .ok v' w' ∧ w'.ownsRow base 28 3 v' (n + rs.length) (xs ++ rdCells rs) ∧ w.grownBy w' v.ownBlock ∧ (v'.ownBlock = v.ownBlock ∨ v'.ownBlock = some w.heap.size) := by
  obtain ⟨i0, hi, hz0, hz1, hz2⟩ := info_parts infoR
  obtain ⟨a, cap, rfl, hcap, hcells⟩ := hu
  by_cases h0 : rs.length = 0
  · obtain rfl : rs = [] := List.length_eq_zero_iff.1 h0
    exact ⟨v, w, rd_append_none hown a cap ty, by simpa [rdCells] using hown, World.grownBy.refl _ _, .inl rfl⟩
  · obtain ⟨g, off, rfl, hg, hcs⟩ := hcells.resolve_left h0
    obtain ⟨v', w', hr, h2, h3, h4, h5⟩ := run_append_own_at (P := Try.prog) w base 24 ty 28 i0 (.agg #[.int .i64 0, .int .i64 0, .string ⟨#[]⟩]) 3 32 Try.underlying24 hi hz0 hz1 hz2 rfl (by decide) v n xs hown ⟨g, off, none⟩ rs.length cap (rdCells rs) (rdCells_len rs) (rdCells_at hcs) (rdCells_one rs) (by unfold maxLen; omega) (by omega) hbase
    exact ⟨v', w', hr, h2, h3, h5⟩
theorem step_append_rd {ops : Array Oper} {o : Oper} {a : Act} {w : World} {K : Act → World → Prop} {Q : Exit → Act → World → Prop} {E : Prop} (hgd : o.guard = none) (s x : Operand)
    (ho : o.op = .call { callee := .builtin .append, args := #[s, x], argTypes := #[24, 24] })
    {base n : Nat} {v : Value} {xs : List Value} (hown : w.ownsRow base 28 3 v n xs) (u : Value) (rs : List R3) (hu : rdAt w u rs) (hs : a.eval s = v) (hx : a.eval x = u) (hn : n + rs.length ≤ 4000000) (hbase : base ≤ w.heap.size)
    (h : ∀ v' w', w'.ownsRow base 28 3 v' (n + rs.length) (xs ++ rdCells rs) → w.grownBy w' v.ownBlock → (v'.ownBlock = v.ownBlock ∨ v'.ownBlock = some w.heap.size) → K (a.put o.dst v') w') :
    if Region.wanted o (yielded ops a.tmps) = true then Oper.wp Try.prog o a w K Q else E := by
  have hw : Region.wanted o (yielded ops a.tmps) = true := by simp [Region.wanted, hgd]
  rw [if_pos hw]
  obtain ⟨v', w', hr, h2, h3, h5⟩ := run_append_rd5 hown u rs hu o.type hn hbase
  unfold Oper.wp execOp
  simp only [ho, resolve, invoke, builtin, Sem.run_bind, Sem.run_pure, Result.andThen_ok, List.map_toArray, List.map_cons, List.map_nil, hs, hx, hr]
  exact h v' w' h2 h3 h5
theorem grown_setRow (w : World) (g : Nat) (cs : Array Value) : w.grownBy (w.setRow g cs) (some g) :=
  ⟨rfl, rfl, rfl, by simp [World.setRow], fun k _ hk => setRow_other w g k cs (fun e => hk (by rw [e]))⟩
theorem rdCells_take : ∀ (L : List R3) (k : Nat), (rdCells L).take (k * 3) = rdCells (L.take k)
  | [], k => by simp [rdCells]
  | r :: l, 0 => by simp [rdCells]
  | r :: l, k + 1 => by
    have ih := rdCells_take l k
    rw [show (k + 1) * 3 = k * 3 + 1 + 1 + 1 by omega]
    simp only [rdCells, List.flatMap_cons, List.cons_append, List.nil_append, List.take_succ_cons] at *
    rw [ih]
theorem rdCells_drop : ∀ (L : List R3) (k : Nat), (rdCells L).drop (k * 3) = rdCells (L.drop k)
  | [], k => by simp [rdCells]
  | r :: l, 0 => by simp
  | r :: l, k + 1 => by
    have ih := rdCells_drop l k
    rw [show (k + 1) * 3 = k * 3 + 1 + 1 + 1 by omega]
    simp only [rdCells, List.flatMap_cons, List.cons_append, List.nil_append, List.drop_succ_cons] at *
    exact ih
theorem run_copy_rd {w : World} {base g N cap : Nat} {L : List R3} (hown : w.ownsRow base 28 3 (.slice (some ⟨g, 0, none⟩) N cap) N (rdCells L)) (i : Nat) (hi : i < N) (ty : TypeId) (da : Option Addr) (dc sc dl sl : Nat) (hdl : dl = N - (i + 1)) (hsl : sl = N - i)
    (hda : i + 1 = N ∨ da = some ⟨g, (i + 1) * 3, none⟩) :
    ∃ w', (Builtin.copy_ #[24, 24] ty #[.slice da dl dc, .slice (some ⟨g, i * 3, none⟩) sl sc]).run Try.prog w = .ok (goInt dl) w' ∧
      w'.ownsRow base 28 3 (.slice (some ⟨g, 0, none⟩) N cap) N (rdCells (L.take (i + 1) ++ (L.drop i).take dl)) ∧ w.grownBy w' (some g) := by
  obtain ⟨i0, hin, hz0, hz1, hz2⟩ := info_parts infoR
  have hxl := hown.1
  have hL : L.length = N := by rw [rdCells_len] at hxl; omega
  have hmin : Nat.min sl dl = dl := by rw [hsl, hdl]; exact Nat.min_eq_right (by omega)
  have u := Try.underlying24
  by_cases h0 : dl = 0
  · refine ⟨w, ?_, ?_, World.grownBy.refl _ _⟩
    · rw [h0] at hmin ⊢
      cases da <;> simp [Builtin.copy_, run_underlying u, Builtin.lenOf, Builtin.firstCells, sizeOf, typeInfo, hin, hmin, hz1, storeCells, loadCells, go_sem]
    · rw [h0, List.take_zero, List.append_nil, List.take_of_length_le (by omega)]
      exact hown
  · obtain rfl := hda.resolve_left (by omega)
    rcases hown.2 with ⟨h1, _⟩ | ⟨g', cap', cur, h1, hbg, hg, hnc, hcm, hcs, hct⟩
    · simp at h1
    · simp only [Value.slice.injEq, Option.some.injEq, Addr.mk.injEq, and_true, true_and] at h1
      obtain ⟨rfl, rfl⟩ := h1
      have hcl : (rdCells ((L.drop i).take dl)).length = dl * 3 := by rw [rdCells_len, List.length_take, List.length_drop, hL]; congr 1; omega
      have hsrc : ∀ j v, (rdCells ((L.drop i).take dl))[j]? = some v → w.cell? ((⟨g, i * 3, none⟩ : Addr).add j) = some v := by
        intro j v hv
        have hj : j < dl * 3 := by rw [← hcl]; exact (List.getElem?_eq_some_iff.1 hv).1
        rw [addr_plus, hown.cellAt (i * 3 + j) (by omega), ← hv, ← rdCells_take, ← rdCells_drop, List.getElem?_take, if_pos hj, List.getElem?_drop]
      have hl := run_loadCells_list (P := Try.prog) w ⟨g, i * 3, none⟩ _ hsrc
      have hfit : (i + 1) * 3 + (rdCells ((L.drop i).take dl)).length ≤ cur.size := by rw [hcl, hcs]; omega
      have hst := run_storeCells_at Try.prog g ((i + 1) * 3) 28 (rdCells ((L.drop i).take dl)) 0 cur w hg (by simpa using hfit) (rdCells_one _)
      rw [hcl] at hl
      refine ⟨_, ?_, ?_, grown_setRow w g (cur.toList.take ((i + 1) * 3) ++ rdCells ((L.drop i).take dl) ++ cur.toList.drop ((i + 1) * 3 + (rdCells ((L.drop i).take dl)).length)).toArray⟩
      · simp [Builtin.copy_, run_underlying u, Builtin.lenOf, Builtin.firstCells, sizeOf, typeInfo, hin, hz1, hmin, hl, hst]
      · have hlen : (cur.toList.take ((i + 1) * 3)).length = (i + 1) * 3 := by rw [List.length_take, Array.length_toList, hcs]; omega
        refine ⟨?_, .inr ⟨g, cap, _, rfl, hbg, setRow_heap w g _ _ _ _ hg, hnc, hcm, ?_, ?_⟩⟩
        · rw [rdCells_len, List.length_append, List.length_take, List.length_take, List.length_drop, hL]; congr 1; omega
        · simp only [List.size_toArray, List.length_append, hlen, hcl, List.length_drop, Array.length_toList, hcs]; omega
        · rw [rdCells_append, ← rdCells_take L (i + 1)]
          have h2 : cur.toList.take ((i + 1) * 3) = (rdCells L).take ((i + 1) * 3) := by rw [← hct, List.take_take, Nat.min_eq_left (by omega)]
          rw [List.take_append_of_le_length (by simp only [List.length_append, hlen, hcl]; omega), List.take_of_length_le (by simp only [List.length_append, hlen, hcl]; omega), h2]
theorem step_copy_rd {ops : Array Oper} {o : Oper} {a : Act} {w : World} {K : Act → World → Prop} {Q : Exit → Act → World → Prop} {E : Prop} (hgd : o.guard = none) (d s : Operand)
    (ho : o.op = .call { callee := .builtin .copy, args := #[d, s], argTypes := #[24, 24] })
    {base g N cap : Nat} {L : List R3} (hown : w.ownsRow base 28 3 (.slice (some ⟨g, 0, none⟩) N cap) N (rdCells L)) (i : Nat) (hi : i < N) (da : Option Addr) (dc sc dl sl : Nat) (hd : a.eval d = .slice da dl dc) (hs : a.eval s = .slice (some ⟨g, i * 3, none⟩) sl sc)
    (hdl : dl = N - (i + 1)) (hsl : sl = N - i) (hda : i + 1 = N ∨ da = some ⟨g, (i + 1) * 3, none⟩)
    (h : ∀ w', w'.ownsRow base 28 3 (.slice (some ⟨g, 0, none⟩) N cap) N (rdCells (L.take (i + 1) ++ (L.drop i).take dl)) → w.grownBy w' (some g) → K (a.put o.dst (goInt dl)) w') :
    if Region.wanted o (yielded ops a.tmps) = true then Oper.wp Try.prog o a w K Q else E := by
  have hw : Region.wanted o (yielded ops a.tmps) = true := by simp [Region.wanted, hgd]
  rw [if_pos hw]
  obtain ⟨w', hr, h2, h3⟩ := run_copy_rd hown i hi o.type da dc sc dl sl hdl hsl hda
  unfold Oper.wp execOp
  simp only [ho, resolve, invoke, builtin, Sem.run_bind, Sem.run_pure, Result.andThen_ok, List.map_toArray, List.map_cons, List.map_nil, hd, hs, hr]
  exact h w' h2 h3
/-- moved on, and laid in -/
theorem rd_moved (rs : List R3) (r x : R3) (i : Nat) (hi : i ≤ rs.length) (M : List R3) (hM : M = (rs ++ [r]).take (i + 1) ++ ((rs ++ [r]).drop i).take (rs.length + 1 - (i + 1))) :
    (((rdCells M).set (i * 3) (.int .i64 x.1.1)).set (i * 3 + 1) (.int .i64 x.1.2)).set (i * 3 + 2) (.string x.2) = rdCells (rs.take i ++ x :: rs.drop i) := by
  have hM2 : ∃ y, M = rs.take i ++ y :: rs.drop i := by
    by_cases he : i = rs.length
    · subst he
      refine ⟨r, ?_⟩
      rw [hM, List.take_of_length_le (by simp)]
      simp
    · have h1 : i < rs.length := by omega
      refine ⟨rs[i], ?_⟩
      have e1 : (rs ++ [r]).take (i + 1) = rs.take i ++ [rs[i]] := by rw [List.take_append_of_le_length (by omega), List.take_succ_eq_append_getElem h1]
      have hdl : (rs.drop i).length = rs.length - i := List.length_drop
      have e2 : ((rs ++ [r]).drop i).take (rs.length + 1 - (i + 1)) = rs.drop i := by
        rw [List.drop_append_of_le_length (by omega), List.take_append_of_le_length (by omega), List.take_of_length_le (by omega)]
      rw [hM, e1, e2, List.append_assoc]; rfl
  obtain ⟨y, rfl⟩ := hM2
  have hl : (rdCells (rs.take i)).length = i * 3 := by rw [rdCells_len]; simp; omega
  rw [rdCells_append, rdCells_append, show rdCells (y :: rs.drop i) = .int .i64 y.1.1 :: .int .i64 y.1.2 :: .string y.2 :: rdCells (rs.drop i) by simp [rdCells], show rdCells (x :: rs.drop i) = .int .i64 x.1.1 :: .int .i64 x.1.2 :: .string x.2 :: rdCells (rs.drop i) by simp [rdCells]]
  rw [List.set_append_right _ _ (by omega), hl, Nat.sub_self, List.set_cons_zero, List.set_append_right _ _ (by omega), hl, show i * 3 + 1 - i * 3 = 1 by omega, List.set_append_right _ _ (by omega), hl, show i * 3 + 2 - i * 3 = 2 by omega]
  simp
theorem slice_rd_run (g N c i : Nat) (hi : i ≤ N) (hc : N ≤ c) : ∃ o', (c - i = 0 ∨ o' = i * 3) ∧ ∀ w : World, (Instr.slice 24 (.slice (some ⟨g, 0, none⟩) N c) (some (.int .i64 i)) none none).run Try.prog w = .ok (.slice (some ⟨g, o', none⟩) (N - i) (c - i)) w := by
  have u := Try.underlying24
  obtain ⟨i0, hin, hz0, hz1, hz2⟩ := info_parts infoR
  have h2 : (i : Int) ≤ (N : Int) := by omega
  have h3 : (N : Int) ≤ (c : Int) := by omega
  have h4 : (0 : Int) ≤ (i : Int) := by omega
  by_cases h : c - i = 0
  · refine ⟨0, .inl h, fun w => ?_⟩
    go_simp
    intro hh; omega
  · refine ⟨i * 3, .inr rfl, fun w => ?_⟩
    go_simp
    intro hh; omega
end Go.Proofs.Ytbkeggklfaepnaa
