/- What the laws lean on (own lemmas and walks of the called functions). -/
import Derived.Test.YtbbjpjkclealfaaPk1
set_option linter.unusedVariables false
set_option linter.unusedSimpArgs false
namespace Go.Proofs.Ytbbjpjkclealfaa
open Go.ChangeShapes Go.WideShapes Go.ChangeAt Go.RowKit Go.BigFrame
set_option linter.unusedVariables false

/-- the slice value v leads to the keys ks, in another block than b -/
def keysAv (w : World) (b : Option Nat) (v : Value) (ks : List K2) : Prop :=
  ∃ a cap, v = .slice a ks.length cap ∧ ks.length ≤ cap ∧ (ks.length = 0 ∨ ∃ g off, a = some ⟨g, off, none⟩ ∧ g < w.heap.size ∧ some g ≠ b ∧
    ∀ i, i < ks.length → w.cell? ⟨g, off + i * 2, none⟩ = some (.int .i64 (ks.getD i (0, 0)).1) ∧ w.cell? ⟨g, off + i * 2 + 1, none⟩ = some (.int .i64 (ks.getD i (0, 0)).2))
theorem keysAv.to {w : World} {b : Option Nat} {v : Value} {ks : List K2} (h : keysAv w b v ks) : keysAt w v ks := by
  obtain ⟨a, cap, h1, h2, h3⟩ := h
  refine ⟨a, cap, h1, h2, h3.imp_right ?_⟩
  rintro ⟨g, off, h4, h5, -, h6⟩
  exact ⟨g, off, h4, h5, h6⟩
theorem keysAv_of {w : World} {b : Option Nat} {v : Value} {ks : List K2} (h : keysAt w v ks) (hb : ∀ g, g < w.heap.size → some g ≠ b) : keysAv w b v ks := by
  obtain ⟨a, cap, h1, h2, h3⟩ := h
  refine ⟨a, cap, h1, h2, h3.imp_right ?_⟩
  rintro ⟨g, off, h4, h5, h6⟩
  exact ⟨g, off, h4, h5, hb g h5, h6⟩
theorem keysAv.avoid {w : World} {b b' : Option Nat} {v : Value} {ks : List K2} (h : keysAv w b v ks) (hb : ∀ g, g < w.heap.size → some g ≠ b') : keysAv w b' v ks := keysAv_of h.to hb
theorem keysAv.grown {w w' : World} {b : Option Nat} {v : Value} {ks : List K2} (h : keysAv w b v ks) (hg : w.grownBy w' b) : keysAv w' b v ks := by
  obtain ⟨a, cap, h1, h2, h3⟩ := h
  refine ⟨a, cap, h1, h2, h3.imp_right ?_⟩
  rintro ⟨g, off, h4, h5, h6, h7⟩
  refine ⟨g, off, h4, Nat.lt_of_lt_of_le h5 hg.size, h6, fun i hi => ?_⟩
  obtain ⟨c1, c2⟩ := h7 i hi
  exact ⟨hg.cell c1 h6, hg.cell c2 h6⟩
theorem keysAv.below {w w' : World} {b : Option Nat} {v : Value} {ks : List K2} (h : keysAv w b v ks) (hb : Below w.heap.size w w') : keysAv w' b v ks := h.grown (grown_of_below' hb b)
/-- what is owned above a block lies in another one -/
theorem keysAv_own {w : World} {base b : Nat} {v : Value} {ks : List K2} (h : w.ownsRow base 41 2 v ks.length (keyCells ks)) (hb : b < base) : keysAv w (some b) v ks := by
  rcases h.2 with ⟨rfl, h0⟩ | ⟨g, cap, cur, rfl, hbg, hg, hn, hm, hs, ht⟩
  · exact ⟨none, 0, by rw [h0], by omega, .inl h0⟩
  · refine ⟨_, cap, rfl, hn, .inr ⟨g, 0, rfl, (Array.getElem?_eq_some_iff.1 hg).1, fun e => by cases e; omega, fun i hi => ?_⟩⟩
    have hc := keyCells_get ks i hi
    rw [Nat.zero_add, h.cellAt (i * 2) (by omega), h.cellAt (i * 2 + 1) (by omega)]
    exact hc
/-- the slice value v leads to the words L, their keys in other blocks than b -/
def cdAv (w : World) (b : Option Nat) (v : Value) (L : List C2) : Prop :=
  ∃ a cap, v = .slice a L.length cap ∧ L.length ≤ cap ∧ (L.length = 0 ∨ ∃ g off, a = some ⟨g, off, none⟩ ∧ g < w.heap.size ∧
    ∀ i, i < L.length → ∃ u, w.cell? ⟨g, off + i * 2, none⟩ = some u ∧ w.cell? ⟨g, off + i * 2 + 1, none⟩ = some (.string (L.getD i blankC).2) ∧ keysAv w b u (L.getD i blankC).1)
theorem cdAv_below {w w' : World} {b : Option Nat} {v : Value} {L : List C2} (h : cdAv w b v L) (hb : Below w.heap.size w w') : cdAv w' b v L := by
  obtain ⟨a, cap, h1, h2, h3⟩ := h
  refine ⟨a, cap, h1, h2, h3.imp_right ?_⟩
  rintro ⟨g, off, h4, h5, h6⟩
  refine ⟨g, off, h4, Nat.lt_of_lt_of_le h5 hb.size, fun i hi => ?_⟩
  obtain ⟨u, c1, c2, c3⟩ := h6 i hi
  exact ⟨u, (hb.cell (p := ⟨g, off + i * 2, none⟩) h5).trans c1, (hb.cell (p := ⟨g, off + i * 2 + 1, none⟩) h5).trans c2, c3.below hb⟩
theorem cdAv.avoid {w : World} {b b' : Option Nat} {v : Value} {L : List C2} (h : cdAv w b v L) (hb : ∀ g, g < w.heap.size → some g ≠ b') : cdAv w b' v L := by
  obtain ⟨a, cap, h1, h2, h3⟩ := h
  refine ⟨a, cap, h1, h2, h3.imp_right ?_⟩
  rintro ⟨g, off, h4, h5, h6⟩
  refine ⟨g, off, h4, h5, fun i hi => ?_⟩
  obtain ⟨u, c1, c2, c3⟩ := h6 i hi
  exact ⟨u, c1, c2, c3.avoid hb⟩
def cdCells : List Value → List C2 → List Value
  | u :: us, x :: L => u :: .string x.2 :: cdCells us L
  | _, _ => []
theorem cdCells_len : ∀ (us : List Value) (L : List C2), us.length = L.length → (cdCells us L).length = L.length * 2
  | [], [], _ => rfl
  | u :: us, x :: L, h => by
    have := cdCells_len us L (by simpa using h)
    simp only [cdCells, List.length_cons]
    omega
  | [], _ :: _, h => by simp at h
  | _ :: _, [], h => by simp at h
theorem cdCells_app : ∀ (us us' : List Value) (L M : List C2), us.length = L.length → cdCells (us ++ us') (L ++ M) = cdCells us L ++ cdCells us' M
  | [], us', [], M, _ => rfl
  | u :: us, us', x :: L, M, h => by
    have := cdCells_app us us' L M (by simpa using h)
    simp only [List.cons_append, cdCells, this]
  | [], _, _ :: _, _, h => by simp at h
  | _ :: _, _, [], _, h => by simp at h
theorem cdCells_get : ∀ (us : List Value) (L : List C2) (i : Nat), us.length = L.length → i < L.length → (cdCells us L)[i * 2]? = some (us.getD i undef) ∧ (cdCells us L)[i * 2 + 1]? = some (.string (L.getD i blankC).2)
  | [], [], _, _, h => by simp at h
  | u :: us, x :: L, 0, _, _ => by simp [cdCells]
  | u :: us, x :: L, i + 1, h, hi => by
    have ih := cdCells_get us L i (by simpa using h) (by simpa using hi)
    have e1 : (i + 1) * 2 = i * 2 + 1 + 1 := by omega
    rw [e1]
    simp only [cdCells, List.getElem?_cons_succ, List.getD_cons_succ]
    exact ih
  | [], _ :: _, _, h, _ => by simp at h
  | _ :: _, [], _, h, _ => by simp at h
theorem cdCells_set : ∀ (us : List Value) (L : List C2) (i : Nat) (u : Value) (x : C2), us.length = L.length → ((cdCells us L).set (i * 2) u).set (i * 2 + 1) (.string x.2) = cdCells (us.set i u) (L.set i x)
  | [], [], _, _, _, _ => rfl
  | v :: us, y :: L, 0, u, x, _ => by simp [cdCells]
  | v :: us, y :: L, i + 1, u, x, h => by
    have ih := cdCells_set us L i u x (by simpa using h)
    have e1 : (i + 1) * 2 = i * 2 + 1 + 1 := by omega
    rw [e1]
    simp only [cdCells, List.set_cons_succ]
    rw [ih]
  | [], _ :: _, _, _, _, h => by simp at h
  | _ :: _, [], _, _, _, h => by simp at h
/-- a list of words of one's own: their keys' slices us, in other blocks -/
structure cdOwn (w : World) (base : Nat) (v : Value) (us : List Value) (L : List C2) : Prop where
  len : us.length = L.length
  own : w.ownsRow base 27 2 v L.length (cdCells us L)
  keys : ∀ i, i < L.length → keysAv w v.ownBlock (us.getD i undef) (L.getD i blankC).1
theorem cdOwn.below {w w' : World} {base : Nat} {v : Value} {us : List Value} {L : List C2} (h : cdOwn w base v us L) (hb : Below w.heap.size w w') : cdOwn w' base v us L :=
  ⟨h.len, own_below h.own hb, fun i hi => (h.keys i hi).below hb⟩
theorem cdOwn.drew {w : World} {base : Nat} {v : Value} {us : List Value} {L : List C2} (h : cdOwn w base v us L) : cdOwn w.drew base v us L := ⟨h.len, h.own, h.keys⟩
theorem cdOwn.base {w : World} {base base' : Nat} {v : Value} {us : List Value} {L : List C2} (h : cdOwn w base v us L) (hb : base' ≤ base) : cdOwn w base' v us L :=
  ⟨h.len, own_base h.own hb, h.keys⟩
/-- another block of one's own is written -/
theorem cdOwn.other {w w' : World} {base : Nat} {b : Option Nat} {v : Value} {us : List Value} {L : List C2} (h : cdOwn w base v us L) (hg : w.grownBy w' b) (h1 : v.ownBlock ≠ b) (h2 : ∀ i, i < L.length → keysAv w b (us.getD i undef) (L.getD i blankC).1) : cdOwn w' base v us L := by
  refine ⟨h.len, h.own.kept hg (.inr h1), fun i hi => ?_⟩
  obtain ⟨a, cap, e1, e2, e3⟩ := h.keys i hi
  obtain ⟨a', cap', f1, f2, f3⟩ := (h2 i hi).grown hg
  refine ⟨a', cap', f1, f2, ?_⟩
  rw [e1] at f1
  cases f1
  rcases e3 with e3 | ⟨g, off, rfl, g1, g2, g3⟩
  · exact .inl e3
  · rcases f3 with f3 | ⟨g', off', e, j1, j2, j3⟩
    · exact .inl f3
    · cases e
      exact .inr ⟨g, off, rfl, j1, g2, j3⟩
theorem cdOwn.to {w : World} {base : Nat} {v : Value} {us : List Value} {L : List C2} (h : cdOwn w base v us L) : cdAv w v.ownBlock v L := by
  rcases h.own.2 with ⟨rfl, h0⟩ | ⟨g, cap, cur, rfl, hb, hg, hn, hm, hs, ht⟩
  · exact ⟨none, 0, by rw [h0], by omega, .inl h0⟩
  · refine ⟨_, cap, rfl, hn, .inr ⟨g, 0, rfl, (Array.getElem?_eq_some_iff.1 hg).1, fun i hi => ?_⟩⟩
    have hc := cdCells_get us L i h.len hi
    rw [Nat.zero_add, h.own.cellAt (i * 2) (by omega), h.own.cellAt (i * 2 + 1) (by omega)]
    exact ⟨_, hc.1, hc.2, h.keys i hi⟩
theorem cdAv_any {w : World} {b : Option Nat} {v : Value} {L : List C2} (h : cdAv w b v L) : cdAv w none v L := h.avoid fun g _ e => by cases e
theorem cdOwn.nil (w : World) (base : Nat) : cdOwn w base (.slice none 0 0) [] [] := ⟨rfl, World.ownsRow_nil .., fun i hi => by simp at hi⟩
theorem infoC : (Try.prog.info? 27).map (fun i => (i.zero, i.size, i.bytes)) = some (some (.agg #[.slice none 0 0, .string ⟨#[]⟩]), 2, 40) := by kernel_rfl
theorem cdCells_one : ∀ (us : List Value) (L : List C2), (∀ u ∈ us, ∃ a n c, u = .slice a n c) → ∀ u ∈ cdCells us L, u.oneCell' = true
  | [], _, _, u, h => by cases h
  | _ :: _, [], _, u, h => by cases h
  | v :: us, x :: L, hs, u, h => by
    simp only [cdCells, List.mem_cons] at h
    rcases h with rfl | rfl | h
    · obtain ⟨a, n, c, rfl⟩ := hs _ (List.mem_cons_self ..)
      rfl
    · rfl
    · exact cdCells_one us L (fun w hw => hs w (List.mem_cons_of_mem _ hw)) u h
/-- the slices of a list's words -/
theorem cdAv.slices {w : World} {b : Option Nat} {g off : Nat} {L : List C2} (h : ∀ i, i < L.length → ∃ u, w.cell? ⟨g, off + i * 2, none⟩ = some u ∧ w.cell? ⟨g, off + i * 2 + 1, none⟩ = some (.string (L.getD i blankC).2) ∧ keysAv w b u (L.getD i blankC).1) :
    ∃ us : List Value, us.length = L.length ∧ (∀ i, i < L.length → keysAv w b (us.getD i undef) (L.getD i blankC).1) ∧ (∀ u ∈ us, ∃ a n c, u = .slice a n c) ∧ ∀ j u, (cdCells us L)[j]? = some u → w.cell? ((⟨g, off, none⟩ : Addr).add j) = some u := by
  have hget : ∀ i, i < L.length → ((List.range L.length).map fun i => (w.cell? ⟨g, off + i * 2, none⟩).getD undef).getD i undef = (w.cell? ⟨g, off + i * 2, none⟩).getD undef := by
    intro i hi
    simp [List.getD, hi]
  have hlen : ((List.range L.length).map fun i => (w.cell? ⟨g, off + i * 2, none⟩).getD undef).length = L.length := by simp
  have hmem : ∀ u ∈ (List.range L.length).map fun i => (w.cell? ⟨g, off + i * 2, none⟩).getD undef, ∃ a n c, u = .slice a n c := by
    intro u hu
    obtain ⟨i, hi, rfl⟩ := List.mem_map.1 hu
    obtain ⟨u, c1, c2, a, cap, rfl, _⟩ := h i (List.mem_range.1 hi)
    rw [c1]; exact ⟨_, _, _, rfl⟩
  generalize ((List.range L.length).map fun i => (w.cell? ⟨g, off + i * 2, none⟩).getD undef) = us at *
  refine ⟨us, hlen, fun i hi => ?_, hmem, fun j u hu => ?_⟩
  · obtain ⟨u, c1, c2, c3⟩ := h i hi
    rw [hget i hi, c1]
    exact c3
  · have hl := cdCells_len us L hlen
    have hj : j < L.length * 2 := by rw [← hl]; exact (List.getElem?_eq_some_iff.1 hu).1
    have hc := cdCells_get us L (j / 2) hlen (by omega)
    obtain ⟨x, c1, c2, c3⟩ := h (j / 2) (by omega)
    rw [hget _ (by omega), c1] at hc
    rw [addr_plusK]
    rcases (by omega : j = j / 2 * 2 ∨ j = j / 2 * 2 + 1) with e | e
    · rw [← e] at hc c1
      rw [hc.1] at hu
      cases hu
      exact c1
    · rw [← e] at hc
      rw [hc.2] at hu
      cases hu
      rw [show off + j / 2 * 2 + 1 = off + j by omega] at c2
      exact c2
theorem cd_append_none {w : World} {base n : Nat} {v : Value} {xs : List Value} (h : w.ownsRow base 27 2 v n xs) (ar : Option Addr) (cr : Nat) (ty : TypeId) :
    (Builtin.append_ #[24, 24] ty #[v, .slice ar 0 cr]).run Try.prog w = .ok v w := by
  obtain ⟨i0, hi, hz0, hz1, hz2⟩ := info_parts infoC
  have u := Try.underlying24
  rcases h.2 with ⟨rfl, h0⟩ | ⟨g, cap, cur, rfl, _, _, hn, _⟩
  · cases ar <;> simp [Builtin.append_, run_underlying u, sizeOf, typeInfo, hi, storeCells, go_sem]
  · cases ar <;> simp [Builtin.append_, run_underlying u, sizeOf, typeInfo, hi, storeCells, hn, go_sem]
/-- words put behind words of one's own -/
theorem run_append_cd {w : World} {base : Nat} {v : Value} {us : List Value} {L : List C2} (hown : cdOwn w base v us L) (u : Value) (M : List C2) (hu : cdAv w v.ownBlock u M) (ty : TypeId) (hn : L.length + M.length ≤ 2000000) (hbase : base ≤ w.heap.size) :
    ∃ v' w' us', (Builtin.append_ #[24, 24] ty #[v, u]).run Try.prog w = .ok v' w' ∧ cdOwn w' base v' (us ++ us') (L ++ M) ∧ us'.length = M.length ∧ w.grownBy w' v.ownBlock ∧ (v'.ownBlock = v.ownBlock ∨ v'.ownBlock = some w.heap.size) := by
  obtain ⟨i0, hi, hz0, hz1, hz2⟩ := info_parts infoC
  obtain ⟨a, cap, rfl, hcap, hcells⟩ := hu
  by_cases h0 : M.length = 0
  · obtain rfl : M = [] := List.length_eq_zero_iff.1 h0
    exact ⟨v, w, [], cd_append_none hown.own a cap ty, by simpa using hown, rfl, World.grownBy.refl _ _, .inl rfl⟩
  · obtain ⟨g, off, rfl, hg, hcs⟩ := hcells.resolve_left h0
    obtain ⟨us', h1, h2, h3, h4⟩ := cdAv.slices hcs
    obtain ⟨v', w', hr, ho, hgr, -, h5⟩ := run_append_own_at (P := Try.prog) w base 24 ty 27 i0 (.agg #[.slice none 0 0, .string ⟨#[]⟩]) 2 40 Try.underlying24 hi hz0 hz1 hz2 rfl (by decide) v L.length (cdCells us L) hown.own ⟨g, off, none⟩ M.length cap (cdCells us' M) (cdCells_len us' M h1) h4 (cdCells_one us' M h3) (by unfold maxLen; omega) (by omega) hbase
    refine ⟨v', w', us', hr, ⟨by simp [hown.len, h1], by rw [cdCells_app _ _ _ _ hown.len, List.length_append]; exact ho, fun i hi => ?_⟩, h1, hgr, h5⟩
    have hk : keysAv w v.ownBlock ((us ++ us').getD i undef) ((L ++ M).getD i blankC).1 := by
      by_cases hlt : i < L.length
      · have e1 : (us ++ us').getD i undef = us.getD i undef := by simp only [List.getD]; rw [List.getElem?_append_left (by rw [hown.len]; exact hlt)]
        have e2 : (L ++ M).getD i blankC = L.getD i blankC := by simp only [List.getD]; rw [List.getElem?_append_left hlt]
        rw [e1, e2]; exact hown.keys i hlt
      · rw [List.length_append] at hi
        have e1 : (us ++ us').getD i undef = us'.getD (i - L.length) undef := by simp only [List.getD]; rw [List.getElem?_append_right (by rw [hown.len]; omega), hown.len]
        have e2 : (L ++ M).getD i blankC = M.getD (i - L.length) blankC := by simp only [List.getD]; rw [List.getElem?_append_right (by omega)]
        rw [e1, e2]; exact h2 _ (by omega)
    have hk' := hk.grown hgr
    rcases h5 with h5 | h5
    · rw [h5]; exact hk'
    · obtain ⟨a, cap, e1, e2, e3⟩ := hk
      obtain ⟨a', cap', f1, f2, f3⟩ := hk'
      rw [h5]
      refine ⟨a', cap', f1, f2, ?_⟩
      rw [e1] at f1; cases f1
      rcases e3 with e3 | ⟨g', off', rfl, g1, g2, g3⟩
      · exact .inl e3
      · rcases f3 with f3 | ⟨g'', off'', e, j1, j2, j3⟩
        · exact .inl f3
        · cases e
          exact .inr ⟨g', off', rfl, j1, fun e => by cases e; omega, j3⟩
theorem wpList_append_cd {ops : Array Oper} {rest : List Oper} {o : Oper} {a : Act} {w : World} {Q : Exit → Act → World → Prop} (hgd : o.guard = none) (s x : Operand)
    (ho : o.op = .call { callee := .builtin .append, args := #[s, x], argTypes := #[24, 24] })
    {base : Nat} {v : Value} {us : List Value} {L : List C2} (hown : cdOwn w base v us L) (u : Value) (M : List C2) (hu : cdAv w v.ownBlock u M) (hs : a.eval s = v) (hx : a.eval x = u) (hn : L.length + M.length ≤ 2000000) (hbase : base ≤ w.heap.size)
    (h : ∀ v' w' us', cdOwn w' base v' (us ++ us') (L ++ M) → us'.length = M.length → w.grownBy w' v.ownBlock → (v'.ownBlock = v.ownBlock ∨ v'.ownBlock = some w.heap.size) → wpList Try.prog ops Q rest (a.put o.dst v') w') : wpList Try.prog ops Q (o :: rest) a w := by
  refine wpList_plain hgd fun K hK => ?_
  obtain ⟨v', w', us', hr, h2, h3, h4, h5⟩ := run_append_cd hown u M hu o.type hn hbase
  unfold Oper.wp execOp
  simp only [ho, resolve, invoke, builtin, Sem.run_bind, Sem.run_pure, Result.andThen_ok, List.map_toArray, List.map_cons, List.map_nil, hs, hx, hr]
  exact hK _ _ (h v' w' us' h2 h3 h4 h5)
theorem wp_append_cd {o : Oper} {a : Act} {w : World} {K : Act → World → Prop} {Q : Exit → Act → World → Prop} (s x : Operand)
    (ho : o.op = .call { callee := .builtin .append, args := #[s, x], argTypes := #[24, 24] })
    {base : Nat} {v : Value} {us : List Value} {L : List C2} (hown : cdOwn w base v us L) (u : Value) (M : List C2) (hu : cdAv w v.ownBlock u M) (hs : a.eval s = v) (hx : a.eval x = u) (hn : L.length + M.length ≤ 2000000) (hbase : base ≤ w.heap.size)
    (h : ∀ v' w' us', cdOwn w' base v' (us ++ us') (L ++ M) → us'.length = M.length → w.grownBy w' v.ownBlock → (v'.ownBlock = v.ownBlock ∨ v'.ownBlock = some w.heap.size) → K (a.put o.dst v') w') : o.wp Try.prog a w K Q := by
  obtain ⟨v', w', us', hr, h2, h3, h4, h5⟩ := run_append_cd hown u M hu o.type hn hbase
  unfold Oper.wp execOp
  simp only [ho, resolve, invoke, builtin, Sem.run_bind, Sem.run_pure, Result.andThen_ok, List.map_toArray, List.map_cons, List.map_nil, hs, hx, hr]
  exact h v' w' us' h2 h3 h4 h5
/-- a list of one word, as it is made -/
theorem cd_one {w : World} {b : Option Nat} {u : Value} {ks : List K2} (y : ByteArray) (h : keysAv w b u ks) : cdAv (w.alloc (.cells #[u, .string y] 27)) b (.slice (some ⟨w.heap.size, 0, none⟩) 1 1) [(ks, y)] := by
  refine ⟨_, 1, rfl, Nat.le_refl _, .inr ⟨w.heap.size, 0, rfl, by simp, fun i hi => ?_⟩⟩
  obtain rfl : i = 0 := by simpa using hi
  have hr := heap_alloc_new w (.cells #[u, .string y] 27)
  refine ⟨u, ?_, ?_, h.below ((Below.refl _ _).alloc (Nat.le_refl _) _)⟩
  · rw [cell_of_row _ _ _ _ _ _ hr]; rfl
  · rw [cell_of_row _ _ _ _ _ _ hr]; rfl
/-- a word of the list set anew -/
theorem cdOwn.set {w : World} {base g cap n : Nat} {us : List Value} {L : List C2} (h : cdOwn w base (.slice (some ⟨g, 0, none⟩) n cap) us L) (i : Nat) (u : Value) (x : C2) (hu : keysAv w (some g) u x.1) :
    cdOwn ((w.setCell ⟨g, i * 2, none⟩ u).setCell ⟨g, i * 2 + 1, none⟩ (.string x.2)) base (.slice (some ⟨g, 0, none⟩) n cap) (us.set i u) (L.set i x) := by
  have hn : n = L.length := by
    rcases h.own.2 with ⟨e, _⟩ | ⟨_, _, _, e, _⟩
    · cases e
    · cases e; rfl
  subst hn
  have st1 := h.own.stored (i * 2) u
  have st2 := st1.1.stored (i * 2 + 1) (.string x.2)
  rw [cdCells_set _ _ _ _ _ h.len] at st2
  have hg1 : w.grownBy ((w.setCell ⟨g, i * 2, none⟩ u).setCell ⟨g, i * 2 + 1, none⟩ (.string x.2)) (some g) := (Lib.grownBy_setCell w g (i * 2) u).trans (Lib.grownBy_setCell _ g (i * 2 + 1) (.string x.2))
  refine ⟨by simp [h.len], by rw [List.length_set]; exact st2.1, fun j hj => ?_⟩
  rw [List.length_set] at hj
  have hk : keysAv w (some g) ((us.set i u).getD j undef) ((L.set i x).getD j blankC).1 := by
    by_cases e : i = j
    · subst e
      have e1 : (us.set i u).getD i undef = u := by simp [List.getD, h.len, hj]
      have e2 : (L.set i x).getD i blankC = x := by simp [List.getD, hj]
      rw [e1, e2]; exact hu
    · have e1 : (us.set i u).getD j undef = us.getD j undef := by simp [List.getD, e]
      have e2 : (L.set i x).getD j blankC = L.getD j blankC := by simp [List.getD, e]
      rw [e1, e2]; exact h.keys j hj
  exact hk.grown hg1
end Go.Proofs.Ytbbjpjkclealfaa
namespace Go.Proofs.Ytbbjpjkclealfaa
open Go.ChangeShapes Go.WideShapes Go.ChangeAt Go.RowKit Go.BigFrame
set_option linter.unusedVariables false

set_option maxRecDepth 100000 in
set_option maxHeartbeats 2000000 in
theorem shaskey_any (v : Value) (ks : List K2) (x : K2) (w : World) (h : keysAt w v ks) (hs : ks.length ≤ 2000000) : Calls Try.prog 70 #[v, kv x] w fun e w' => e = .returned (.bool (hasKeyB ks x)) ∧ Below w.heap.size w w' := by
  obtain ⟨a, cap, rfl, hcap, hcells⟩ := h
  obtain ⟨n, s⟩ := x
  unfold kv
  dsimp only
  have hW : ∀ w' : World, Below (w.heap.size + 1) (w.alloc (.cells #[.int .i64 n, .int .i64 s] 41)) w' → (loadVar 41 ⟨w.heap.size, 0, none⟩).run Try.prog w' = .ok (kv (n, s)) w' := fun w' hb' =>
    key_load (k := (n, s)) (w := w.alloc (.cells #[.int .i64 n, .int .i64 s] 41)) (g := w.heap.size) (o := 0) ⟨by simp, by simp⟩ (by simp) (by simpa using hb')
  have hB0 : Below w.heap.size w (w.alloc (.cells #[.int .i64 n, .int .i64 s] 41)) := (Below.refl _ _).alloc (Nat.le_refl _) _
  have hsz0 : (w.alloc (.cells #[.int .i64 n, .int .i64 s] 41)).heap.size = w.heap.size + 1 := by simp
  have HW := Lib.hid hW; have HB0 := Lib.hid hB0; have HSZ := Lib.hid hsz0; clear hW hB0 hsz0
  go_enter Try.func70, Try.ntmps70
  go_wp2
  generalize w.alloc (.cells #[.int .i64 n, .int .i64 s] 41) = W at *
  go_loopw [5] (fun i wr => ∃ k : Nat, k ≤ ks.length ∧ i = .int .i64 k ∧ (∀ j, j < k → (ks.getD j (0, 0) == (n, s)) = false) ∧ Below W.heap.size W wr) (fun i _ => ks.length - (intOf i).toNat)
  case atStart => exact ⟨0, Nat.zero_le _, rfl, fun j hj => by omega, Below.refl _ _⟩
  case round =>
    obtain ⟨k, hk, rfl, hall, hb⟩ := hrel
    by_cases hlt : k < ks.length
    · obtain ⟨g, off, rfl, hg, hcs⟩ := hcells.resolve_left (by omega)
      have z0 : (0 : Int) ≤ (k : Int) := by omega
      have z1 : (k : Int) < (ks.length : Int) := by omega
      have c1 := hcs k hlt
      have L1 : ∀ w', Below W.heap.size W w' → (loadVar 41 ⟨g, off + k * 2, none⟩).run Try.prog w' = .ok (kv (ks.getD k (0, 0))) w' := fun w' hb' =>
        key_load c1 (w' := w') hg (HB0.out.trans (hb'.mono (by rw [HSZ.out]; omega)))
      have L2 : ∀ w', Below W.heap.size W w' → (loadVar 41 ⟨w.heap.size, 0, none⟩).run Try.prog w' = .ok (kv (n, s)) w' := fun w' hb' => HW.out w' (by rw [← HSZ.out]; exact hb')
      clear hcells hcs c1
      generalize hkx : ks.getD k (0, 0) = kx at *
      obtain ⟨p, q⟩ := kx
      cases he : ((p, q) == (n, s)) with
      | true =>
        have hh : hasKeyB ks (n, s) = true := by
          unfold hasKeyB
          rw [List.any_eq_true]
          refine ⟨ks[k], List.getElem_mem hlt, ?_⟩
          have : ks[k] = (p, q) := by rw [← hkx]; simp [List.getD, hlt]
          rw [this, he]
        have HH := Lib.hid hh
        clear hall hkx hh
        go_wp2
        refine wp_region_below W (by kernel_rfl) (by kernel_rfl) hb ?_
        repeat (first
          | go_big_quiet_skip
          | (go_big_quiet_want
             first
               | (go_big_quiet_op; go_big_quiet_on)
               | (refine q_load 41 _ _ _ rfl rfl L1 ?_; simp only [Act.put, List.setIfInBounds_toArray, List.set_cons_zero, List.set_cons_succ]; go_big_quiet_on)
               | (refine q_load 41 _ _ _ rfl rfl L2 ?_; simp only [Act.put, List.setIfInBounds_toArray, List.set_cons_zero, List.set_cons_succ]; go_big_quiet_on)
               | (refine q_bin _ 41 _ _ _ _ _ _ rfl rfl rfl (fun w => key_guard _ _ _ _ _ w) (fun w => key_eql _ _ w) ?_; simp only [Act.put, List.setIfInBounds_toArray, List.set_cons_zero, List.set_cons_succ]; go_big_quiet_on)
               | (refine q_bin _ 41 _ _ _ _ _ _ rfl rfl rfl (fun w => key_guard _ _ _ _ _ w) (fun w => key_neq _ _ w) ?_; simp only [Act.put, List.setIfInBounds_toArray, List.set_cons_zero, List.set_cons_succ]; go_big_quiet_on)
               | (go_big_quiet_op; refine ⟨_, fun _ _ => rfl, ?_⟩; go_big_quiet_on)
               | (go_big_quiet_op; go_big_quiet_on)))
        refine wpQuiet_nil ?_
        intro w2 hb2
        rw [he]
        clear L1 L2 hb
        go_wp2
        go_ret
        exact ⟨by rw [HH.out]; rfl, HB0.out.trans (hb2.mono (by rw [HSZ.out]; omega))⟩
      | false =>
        have hn : ∀ j, j < k + 1 → (ks.getD j (0, 0) == (n, s)) = false := by
          intro j hj
          rcases (by omega : j < k ∨ j = k) with h1 | rfl
          · exact hall j h1
          · rw [hkx, he]
        have HN := Lib.hid hn
        clear hall hkx hn
        go_wp2
        refine wp_region_below W (by kernel_rfl) (by kernel_rfl) hb ?_
        repeat (first
          | go_big_quiet_skip
          | (go_big_quiet_want
             first
               | (go_big_quiet_op; go_big_quiet_on)
               | (refine q_load 41 _ _ _ rfl rfl L1 ?_; simp only [Act.put, List.setIfInBounds_toArray, List.set_cons_zero, List.set_cons_succ]; go_big_quiet_on)
               | (refine q_load 41 _ _ _ rfl rfl L2 ?_; simp only [Act.put, List.setIfInBounds_toArray, List.set_cons_zero, List.set_cons_succ]; go_big_quiet_on)
               | (refine q_bin _ 41 _ _ _ _ _ _ rfl rfl rfl (fun w => key_guard _ _ _ _ _ w) (fun w => key_eql _ _ w) ?_; simp only [Act.put, List.setIfInBounds_toArray, List.set_cons_zero, List.set_cons_succ]; go_big_quiet_on)
               | (refine q_bin _ 41 _ _ _ _ _ _ rfl rfl rfl (fun w => key_guard _ _ _ _ _ w) (fun w => key_neq _ _ w) ?_; simp only [Act.put, List.setIfInBounds_toArray, List.set_cons_zero, List.set_cons_succ]; go_big_quiet_on)
               | (go_big_quiet_op; refine ⟨_, fun _ _ => rfl, ?_⟩; go_big_quiet_on)
               | (go_big_quiet_op; go_big_quiet_on)))
        refine wpQuiet_nil ?_
        intro w2 hb2
        rw [he]
        clear L1 L2 hb
        go_wp2
        exact ⟨⟨k + 1, by omega, by go_num, HN.out, hb2⟩, by simp [intOf]; omega⟩
    · obtain rfl : k = ks.length := by omega
      have hh : hasKeyB ks (n, s) = false := by
        unfold hasKeyB
        rw [List.any_eq_false]
        intro x hx
        obtain ⟨i, hi, rfl⟩ := List.getElem_of_mem hx
        have := hall i hi
        simp only [List.getD, List.getElem?_eq_getElem hi, Option.getD_some] at this
        simp [this]
      have HH := Lib.hid hh
      clear hall hh
      go_wp2
      go_ret
      exact ⟨by rw [HH.out]; rfl, HB0.out.trans (hb.mono (by rw [HSZ.out]; omega))⟩
end Go.Proofs.Ytbbjpjkclealfaa
namespace Go.Proofs.Ytbbjpjkclealfaa
open Go
set_option linter.unusedVariables false
set_option linter.unusedSimpArgs false

abbrev L4 := { s : ByteArray // s.size = 4 }
def grpL : Grp L4 where
  add a b := ⟨xorS a.1 b.1, by rw [xorS_size a.1 b.1 (by rw [a.2, b.2]), a.2]⟩
  zero := ⟨z4, rfl⟩
  comm := fun a b => Subtype.ext (xorS_comm a.1 b.1 (by rw [a.2, b.2]))
  assoc := fun a b c => Subtype.ext (xorS_assoc a.1 b.1 c.1 (by rw [a.2, b.2]) (by rw [b.2, c.2]))
  self := fun a => Subtype.ext (xorS_self a.1 a.2)
  zl := fun a => Subtype.ext (xorS_z4l a.1 a.2)
def bitL (s : ByteArray) (i : Nat) : Bool := (s.data.toList.getD (i / 8) 0).toNat.testBit (i % 8)
theorem xorL_getD : ∀ (a b : List UInt8) (i : Nat), a.length = b.length → (xorL a b).getD i 0 = a.getD i 0 ^^^ b.getD i 0
  | [], [], i, _ => by simp [xorL]
  | [], b :: l, i, h => by simp at h
  | a :: k, [], i, h => by simp at h
  | a :: k, b :: l, 0, h => by simp [xorL]
  | a :: k, b :: l, i + 1, h => by
    have := xorL_getD k l i (by simpa using h)
    simpa [xorL] using this
def bitsPla : Pla L4 Nat grpL where
  piv _ := 0
  has a i := bitL a.1 i
  has0 := fun i => by
    show bitL z4 i = false
    unfold bitL
    have h : ∀ k, z4.data.toList.getD k 0 = 0 := by
      intro k
      show [0, 0, 0, 0].getD k (0 : UInt8) = 0
      rcases k with _ | _ | _ | _ | k <;> simp
    rw [h]; simp
  hasA := fun a b i => by
    show bitL (xorS a.1 b.1) i = (bitL a.1 i != bitL b.1 i)
    unfold bitL
    rw [xorS_data a.1 b.1 (by rw [a.2, b.2]), xorL_getD _ _ _ (by simp [a.2, b.2]), UInt8.toNat_xor, Nat.testBit_xor]
theorem bits_zero (a : L4) (h : ∀ i, i < 32 → bitL a.1 i = false) : a = grpL.zero := by
  have hl : a.1.data.toList.length = 4 := by simp [a.2]
  have hb : ∀ k, k < 4 → a.1.data.toList.getD k 0 = 0 := by
    intro k hk
    refine UInt8.toNat_inj.1 (Nat.eq_of_testBit_eq fun i => ?_)
    rw [show (0 : UInt8).toNat = 0 from rfl, Nat.zero_testBit]
    by_cases hi : i < 8
    · have := h (8 * k + i) (by omega)
      unfold bitL at this
      rwa [show (8 * k + i) / 8 = k by omega, show (8 * k + i) % 8 = i by omega] at this
    · have hlt := (a.1.data.toList.getD k 0).toNat_lt
      exact Nat.testBit_lt_two_pow (Nat.lt_of_lt_of_le hlt (Nat.pow_le_pow_right (by decide) (show 8 ≤ i by omega)))
  refine Subtype.ext (ba_ext ?_)
  show a.1.data.toList = [0, 0, 0, 0]
  obtain ⟨s, hs⟩ := a
  dsimp only at hl hb ⊢
  revert hb
  match s.data.toList, hl with
  | [x, y, z, u], _ =>
    intro hb
    have h0 := hb 0 (by omega); have h1 := hb 1 (by omega); have h2 := hb 2 (by omega); have h3 := hb 3 (by omega)
    simp at h0 h1 h2 h3
    rw [h0, h1, h2, h3]
/-- all bits taken from all loads: what is of their span has come to nothing -/
theorem loads_iff (Z : List L4) (v : L4) : Span grpL (· ∈ Z) v ↔ ((List.range 32).foldl (elimS bitsPla) (Z, v)).2 = grpL.zero :=
  elim_end bitsPla _ Z v fun z _ h => bits_zero z fun i hi => h i (List.mem_range.2 hi)
def ldW (v : W2) : L4 := ⟨v.1.2, v.2.2⟩
theorem ldW_inj {u v : W2} (hu : u.1.1 = []) (hv : v.1.1 = []) (h : ldW u = ldW v) : u = v := by
  refine Subtype.ext (Prod.ext (by rw [hu, hv]) ?_)
  exact congrArg (·.1) h
/-- among words of no key the loads tell the span -/
theorem span_load {Z : List W2} (hZ : ∀ z ∈ Z, ordW.bare z = true) {v : W2} (hv : v.1.1 = []) : Span grpW (· ∈ Z) v ↔ Span grpL (· ∈ Z.map ldW) (ldW v) := by
  constructor
  · intro h
    clear hv
    induction h with
    | zero => exact .zero
    | @step x y h1 _ ih => exact Span.step (G := grpL) (x := ldW x) (List.mem_map.2 ⟨x, h1, rfl⟩) ih
  · intro h
    have hx : ∀ l, Span grpL (· ∈ Z.map ldW) l → ∃ u, Span grpW (· ∈ Z) u ∧ ldW u = l := by
      intro l hl
      induction hl with
      | zero => exact ⟨grpW.zero, .zero, rfl⟩
      | @step x y h1 _ ih =>
        obtain ⟨u, hu, rfl⟩ := ih
        obtain ⟨z, hz, rfl⟩ := List.mem_map.1 h1
        exact ⟨grpW.add z u, .step hz hu, rfl⟩
    obtain ⟨u, hu, e⟩ := hx _ h
    have hub : u.1.1 = [] := (bareW u).1 (bare_of ordW fun k => span_bare ordW hZ hu k)
    rw [← ldW_inj hub hv e]
    exact hu
end Go.Proofs.Ytbbjpjkclealfaa
namespace Go.Proofs.Ytbbjpjkclealfaa
open Go
set_option linter.unusedVariables false
set_option linter.unusedSimpArgs false

theorem ok_w {x : C2} (h : codeOkB x = true) : wOk x := ⟨((codeOk_iff x).1 h).2.1, ((codeOk_iff x).1 h).2.2.1⟩
/-- the right words among the first i, twenty at most -/
def rowsN (l : List C2) : Nat → List W2
  | 0 => []
  | i + 1 => if h : codeOkB (l.getD i blankC) = true ∧ (rowsN l i).length < 20 then rowsN l i ++ [⟨l.getD i blankC, ok_w h.1⟩] else rowsN l i
theorem rowsN_yes {l : List C2} {i : Nat} (h : codeOkB (l.getD i blankC) = true) (h2 : (rowsN l i).length < 20) : rowsN l (i + 1) = rowsN l i ++ [⟨l.getD i blankC, ok_w h⟩] := by
  show (if h : _ then _ else _) = _
  rw [dif_pos ⟨h, h2⟩]
theorem rowsN_no {l : List C2} {i : Nat} (h : codeOkB (l.getD i blankC) = false) : rowsN l (i + 1) = rowsN l i := by
  show (if h : _ then _ else _) = _
  rw [dif_neg (by rw [h]; simp)]
theorem rowsN_at {l : List C2} {i : Nat} (h : (rowsN l i).length = 20) : rowsN l (i + 1) = rowsN l i := by
  show (if h : _ then _ else _) = _
  rw [dif_neg (by rw [h]; simp)]
theorem rowsN_full {l : List C2} {i : Nat} (h : (rowsN l i).length = 20) : ∀ j, rowsN l (i + j) = rowsN l i
  | 0 => rfl
  | j + 1 => by
    have ih := rowsN_full h j
    rw [← Nat.add_assoc, rowsN_at (by rw [ih]; exact h), ih]
theorem rowsN_cases (l : List C2) (i : Nat) : rowsN l (i + 1) = rowsN l i ∨ ∃ h : codeOkB (l.getD i blankC) = true, rowsN l (i + 1) = rowsN l i ++ [⟨l.getD i blankC, ok_w h⟩] := by
  by_cases h : codeOkB (l.getD i blankC) = true ∧ (rowsN l i).length < 20
  · exact .inr ⟨h.1, rowsN_yes h.1 h.2⟩
  · left
    show (if h : _ then _ else _) = _
    rw [dif_neg h]
theorem rowsN_le (l : List C2) : ∀ i, (rowsN l i).length ≤ 20 ∧ (rowsN l i).length ≤ i
  | 0 => ⟨Nat.zero_le _, Nat.le_refl _⟩
  | i + 1 => by
    have ih := rowsN_le l i
    by_cases h : codeOkB (l.getD i blankC) = true ∧ (rowsN l i).length < 20
    · rw [rowsN_yes h.1 h.2, List.length_append, List.length_singleton]
      omega
    · have : rowsN l (i + 1) = rowsN l i := by
        show (if h : _ then _ else _) = _
        rw [dif_neg h]
      rw [this]
      omega
theorem rowsN_sub (l : List C2) (i : Nat) {v : W2} (h : v ∈ rowsN l i) : ∀ j, v ∈ rowsN l (i + j)
  | 0 => h
  | j + 1 => by
    have ih := rowsN_sub l i h j
    rcases rowsN_cases l (i + j) with e | ⟨_, e⟩
    · rw [← Nat.add_assoc, e]; exact ih
    · rw [← Nat.add_assoc, e]; exact List.mem_append_left _ ih
/-- a right word among the first twenty is one of them -/
theorem rowsN_has (l : List C2) {i n : Nat} (hi : i < n) (h20 : i < 20) (h : codeOkB (l.getD i blankC) = true) : (⟨l.getD i blankC, ok_w h⟩ : W2) ∈ rowsN l n := by
  have h1 : (⟨l.getD i blankC, ok_w h⟩ : W2) ∈ rowsN l (i + 1) := by
    rw [rowsN_yes h (by have := (rowsN_le l i).2; omega)]
    exact List.mem_append_right _ (List.mem_singleton.2 rfl)
  have := rowsN_sub l (i + 1) h1 (n - (i + 1))
  rwa [show i + 1 + (n - (i + 1)) = n by omega] at this
theorem rowsN_app (l m : List C2) : ∀ i, i ≤ l.length → rowsN (l ++ m) i = rowsN l i
  | 0, _ => rfl
  | i + 1, h => by
    have ih := rowsN_app l m i (by omega)
    have e : (l ++ m).getD i blankC = l.getD i blankC := by
      simp only [List.getD_eq_getElem?_getD]
      rw [List.getElem?_append_left (by omega)]
    have hs : ∀ (x y : C2) (r s : List W2), x = y → r = s → (if h : codeOkB x = true ∧ r.length < 20 then r ++ [(⟨x, ok_w h.1⟩ : W2)] else r) = (if h : codeOkB y = true ∧ s.length < 20 then s ++ [(⟨y, ok_w h.1⟩ : W2)] else s) := by
      rintro x _ r _ rfl rfl; rfl
    exact hs _ _ _ _ e ih
/-- a word more behind fewer than twenty -/
theorem rowsN_snoc (l : List C2) (x : C2) (hl : l.length < 20) (h : codeOkB x = true) : rowsN (l ++ [x]) (l.length + 1) = rowsN l l.length ++ [⟨x, ok_w h⟩] := by
  have e : (l ++ [x]).getD l.length blankC = x := by simp
  have h1 := rowsN_app l [x] l.length (Nat.le_refl _)
  have h2 : codeOkB ((l ++ [x]).getD l.length blankC) = true := by rw [e]; exact h
  rw [rowsN_yes h2 (by rw [h1]; have := (rowsN_le l l.length).2; omega), h1]
  congr 1
  simp [e]
theorem rowsN_snoc_no (l : List C2) (x : C2) (h : codeOkB x = false) : rowsN (l ++ [x]) (l.length + 1) = rowsN l l.length := by
  have e : (l ++ [x]).getD l.length blankC = x := by simp
  rw [rowsN_no (by rw [e]; exact h), rowsN_app l [x] _ (Nat.le_refl _)]
def rankM (l : List C2) : Nat := (baseG ordW (rowsN l l.length)).1.length
theorem rankM_le (l : List C2) : rankM l ≤ l.length ∧ rankM l ≤ 20 := by
  have := rank_le ordW (rowsN l l.length)
  have := rowsN_le l l.length
  unfold rankM
  omega
theorem rankM_more (l : List C2) (x : C2) (hl : l.length < 20) : rankM (l ++ [x]) = rankM l ∨ rankM (l ++ [x]) = rankM l + 1 := by
  unfold rankM
  rw [show (l ++ [x]).length = l.length + 1 by simp]
  cases h : codeOkB x with
  | true => rw [rowsN_snoc l x hl h]; exact rank_more ordW _ _
  | false => rw [rowsN_snoc_no l x h]; exact .inl rfl
theorem rankM_span (l : List C2) (x : C2) (hl : l.length < 20) (hs : ∀ h : wOk x, Span grpW (· ∈ rowsN l l.length) ⟨x, h⟩) : rankM (l ++ [x]) = rankM l := by
  unfold rankM
  rw [show (l ++ [x]).length = l.length + 1 by simp]
  cases h : codeOkB x with
  | true => rw [rowsN_snoc l x hl h]; exact rank_span ordW (hs _)
  | false => rw [rowsN_snoc_no l x h]
end Go.Proofs.Ytbbjpjkclealfaa
namespace Go.Proofs.Ytbbjpjkclealfaa
open Go.ChangeShapes Go.WideShapes Go.ChangeAt Go.RowKit Go.BigFrame
set_option linter.unusedVariables false

/-- what a word's slice leads to in a later world, but in the same blocks -/
theorem keysAv.also {w w' : World} {b : Option Nat} {v : Value} {ks : List K2} (h : keysAv w b v ks) (h2 : keysAt w' v ks) : keysAv w' b v ks := by
  obtain ⟨a, cap, e1, e2, e3⟩ := h
  obtain ⟨a', cap', f1, f2, f3⟩ := h2
  refine ⟨a', cap', f1, f2, ?_⟩
  rw [e1] at f1
  cases f1
  rcases e3 with e3 | ⟨g, off, rfl, g1, g2, g3⟩
  · exact .inl e3
  · rcases f3 with f3 | ⟨g', off', e, j1, j3⟩
    · exact .inl f3
    · cases e
      exact .inr ⟨g, off, rfl, j1, g2, j3⟩
theorem hasKey_mem (ks : List K2) (k : K2) : hasKeyB ks k = decide (k ∈ ks) := by
  unfold hasKeyB
  rw [Bool.eq_iff_iff, decide_eq_true_eq, List.any_eq_true]
  constructor
  · rintro ⟨x, h1, h2⟩; rw [← eq_of_beq h2]; exact h1
  · intro h; exact ⟨k, h, beq_self_eq_true k⟩
theorem getD_W (Bs : List W2) (k : Nat) (hk : k < Bs.length) : (Bs.map (·.1)).getD k blankC = (Bs.getD k grpW.zero).1 := by
  simp [List.getD, hk]
theorem less_take (Bs : List W2) (x : W2) (k : Nat) (hk : k < Bs.length) : lessG ordW.toPla (Bs.take (k + 1)) x = lessS ordW.toPla (lessG ordW.toPla (Bs.take k) x) (Bs.getD k grpW.zero) := by
  have e : Bs.take (k + 1) = Bs.take k ++ [Bs.getD k grpW.zero] := by
    rw [List.take_succ_eq_append_getElem hk, List.getD, List.getElem?_eq_getElem hk]; rfl
  rw [e]
  unfold lessG
  rw [List.foldl_append]; rfl
/-- a word on its way, in its box -/
structure LsC (w W : World) (v0 : Value) (k0 : List K2) (vX : Value) (X : C2) : Prop where
  below : Below w.heap.size w W
  box : W.heap[w.heap.size]? = some (.cells #[vX, .string X.2] 27)
  res : W.heap[w.heap.size + 1]? = some (.cells #[.slice none 0 0, .string ⟨#[]⟩] 27)
  ka : keysAv W (some w.heap.size) vX X.1
  kb : keysAv W (some (w.heap.size + 1)) vX X.1
  kc : ∀ b, b < w.heap.size → keysAv w (some b) v0 k0 → keysAv W (some b) vX X.1
theorem LsC.next {w W W' : World} {v0 : Value} {k0 : List K2} {vX : Value} {X : C2} (h : LsC w W v0 k0 vX X) (hb : Below W.heap.size W W') : LsC w W' v0 k0 vX X :=
  ⟨h.below.trans (hb.mono h.below.size), (hb.block _ (Array.getElem?_eq_some_iff.1 h.box).1).trans h.box, (hb.block _ (Array.getElem?_eq_some_iff.1 h.res).1).trans h.res, h.ka.below hb, h.kb.below hb, fun b h1 h2 => (h.kc b h1 h2).below hb⟩
theorem LsC.start (w : World) (v : Value) (ks : List K2) (y : ByteArray) (h : keysAt w v ks) :
    LsC w ((w.alloc (.cells #[v, .string y] 27)).alloc (.cells #[.slice none 0 0, .string ⟨#[]⟩] 27)) v ks v (ks, y) := by
  have hp := cpc_new w v y
  have e1 : (w.alloc (.cells #[v, .string y] 27)).heap.size = w.heap.size + 1 := by simp
  exact ⟨hp.below, hp.row, hp.res, (keysAv_of h (fun g hg e => by cases e; omega)).below hp.below, (keysAv_of h (fun g hg e => by cases e; omega)).below hp.below, fun b h1 h2 => h2.below hp.below⟩
theorem LsC.sets {w W : World} {v0 : Value} {k0 : List K2} {vX : Value} {X : C2} (h : LsC w W v0 k0 vX X) {base : Nat} {v : Value} {ks : List K2} (y : ByteArray) (ho : W.ownsRow base 41 2 v ks.length (keyCells ks)) (hb : w.heap.size + 2 ≤ base) :
    LsC w ((W.setCell ⟨w.heap.size, 0, none⟩ v).setCell ⟨w.heap.size, 1, none⟩ (.string y)) v0 k0 v (ks, y) := by
  have hg := grown2 W w.heap.size v (.string y)
  have h1 := (keysAv_own ho (show w.heap.size < base by omega)).grown hg
  refine ⟨below2 h.below (Nat.le_refl _) v (.string y), set2 v (.string y) h.box, row_set2 h.res (by omega) v (.string y), h1, (keysAv_own ho (show w.heap.size + 1 < base by omega)).also h1.to, fun b hb2 _ => (keysAv_own ho (show b < base by omega)).also h1.to⟩
structure LsF (w W : World) (v0 : Value) (k0 : List K2) (v : Value) (X : C2) : Prop where
  c0 : W.cell? ⟨w.heap.size, 0, none⟩ = some v
  c1 : W.cell? ⟨w.heap.size, 1, none⟩ = some (.string X.2)
  d0 : W.cell? ⟨w.heap.size + 1, 0, none⟩ = some (.slice none 0 0)
  d1 : W.cell? ⟨w.heap.size + 1, 1, none⟩ = some (.string ⟨#[]⟩)
  g0 : W.frozen? ⟨w.heap.size + 1, 0, none⟩ = false
  g1 : W.frozen? ⟨w.heap.size + 1, 1, none⟩ = false
  load : (loadVar 27 ⟨w.heap.size + 1, 0, none⟩).run Try.prog ((W.setCell ⟨w.heap.size + 1, 0, none⟩ v).setCell ⟨w.heap.size + 1, 1, none⟩ (.string X.2)) = .ok (.agg #[v, .string X.2]) ((W.setCell ⟨w.heap.size + 1, 0, none⟩ v).setCell ⟨w.heap.size + 1, 1, none⟩ (.string X.2))
  fin : keysAt ((W.setCell ⟨w.heap.size + 1, 0, none⟩ v).setCell ⟨w.heap.size + 1, 1, none⟩ (.string X.2)) v X.1 ∧ (∀ b, b < w.heap.size → keysAv w (some b) v0 k0 → keysAv ((W.setCell ⟨w.heap.size + 1, 0, none⟩ v).setCell ⟨w.heap.size + 1, 1, none⟩ (.string X.2)) (some b) v X.1) ∧ Below w.heap.size w ((W.setCell ⟨w.heap.size + 1, 0, none⟩ v).setCell ⟨w.heap.size + 1, 1, none⟩ (.string X.2))
theorem LsC.fin {w W : World} {v0 : Value} {k0 : List K2} {vX : Value} {X : C2} (h : LsC w W v0 k0 vX X) : LsF w W v0 k0 vX X := by
  obtain ⟨c0, c1, -, -⟩ := row2_of h.box
  obtain ⟨d0, d1, g0, g1⟩ := row2_of h.res
  have h1 := h.kb.grown (grown2 W (w.heap.size + 1) vX (.string X.2))
  exact ⟨c0, c1, d0, d1, g0, g1, cd_res h.res vX X.2, h1.to, fun b hb hv => (h.kc b hb hv).also h1.to, below2 h.below (by omega) vX (.string X.2)⟩
set_option maxRecDepth 100000 in
set_option maxHeartbeats 3000000 in
theorem sless_any (vb : Value) (Bs : List W2) (v : Value) (x : W2) (bb : Option Nat) (w : World) (hb : cdAv w bb vb (Bs.map (·.1))) (hne : ∀ b ∈ Bs, b.1.1 ≠ []) (hlen : Bs.length ≤ 1000000) (h : keysAt w v x.1.1) :
    Calls Try.prog 53 #[vb, .agg #[v, .string x.1.2]] w fun e w' => ∃ v', e = .returned (.agg #[v', .string (lessG ordW.toPla Bs x).1.2]) ∧ keysAt w' v' (lessG ordW.toPla Bs x).1.1 ∧
      (∀ b, b < w.heap.size → keysAv w (some b) v x.1.1 → keysAv w' (some b) v' (lessG ordW.toPla Bs x).1.1) ∧ Below w.heap.size w w' := by
  have HP := Lib.hid (LsC.start w v x.1.1 x.1.2 h)
  obtain ⟨ab, capb, rfl, hcapb, hcells⟩ := hb
  rw [List.length_map] at hcapb hcells ⊢
  obtain ⟨ax, capx, rfl, -, -⟩ := h
  go_enter Try.func53, Try.ntmps53
  go_wp2_with fail
  generalize (w.alloc (.cells #[.slice ax x.1.1.length capx, .string x.1.2] 27)).alloc (.cells #[.slice none 0 0, .string ⟨#[]⟩] 27) = W at *
  go_loopw [5] (fun i wr => ∃ (k : Nat) (vX : Value) (X : W2), k ≤ Bs.length ∧ i = .int .i64 k ∧ X = lessG ordW.toPla (Bs.take k) x ∧ LsC w wr (.slice ax x.1.1.length capx) x.1.1 vX X.1) (fun i _ => Bs.length - (intOf i).toNat)
  case atStart => exact ⟨0, _, x, Nat.zero_le _, rfl, rfl, HP.out⟩
  case round =>
    obtain ⟨k, vX, X, hk, rfl, hX, hO⟩ := hrel
    have HO := Lib.hid hO
    have HXE := Lib.hid hX
    clear hO HP hX
    by_cases hlt : k < Bs.length
    · obtain ⟨g, off, rfl, hg, hcs⟩ := hcells.resolve_left (by omega)
      have z0 : (0 : Int) ≤ (k : Int) := by omega
      have z1 : (k : Int) < (Bs.length : Int) := by omega
      obtain ⟨u, c1, c2, c3⟩ := hcs k hlt
      have hbn := hne (Bs.getD k grpW.zero) (by rw [List.getD, List.getElem?_eq_getElem hlt]; exact List.getElem_mem hlt)
      have hst := less_take Bs x k hlt
      rw [getD_W Bs k hlt] at c2 c3
      rw [← HXE.out] at hst
      generalize Bs.getD k grpW.zero = B at *
      have HST := Lib.hid hst
      clear hcells hcs hst HXE
      obtain ⟨au, cu, rfl, hcu, hku⟩ := c3.to
      have hbl : B.1.1.length ≠ 0 := fun e => hbn (List.length_eq_zero_iff.1 e)
      obtain ⟨gu, ou, rfl, hgu, hkc⟩ := hku.resolve_left hbl
      have hk0 := hkc 0 (by omega)
      simp only [Nat.zero_mul, Nat.add_zero] at hk0
      have y0 : (0 : Int) < (B.1.1.length : Int) := by omega
      have hpiv : B.1.1.getD 0 (0, 0) = ordW.piv B := by
        show B.1.1.getD 0 (0, 0) = B.1.1.headD (0, 0)
        cases hB : B.1.1 with
        | nil => exact absurd hB hbn
        | cons a l => rfl
      rw [hpiv] at hk0
      rename_i wr
      have hB := HO.out.below
      have L1 : ∀ w', Below wr.heap.size wr w' → (loadVar 25 ⟨w.heap.size, 0, none⟩).run Try.prog w' = .ok vX w' := fun w' hw => cd_loadk HO.out.box hw
      have L2 : ∀ w', Below wr.heap.size wr w' → (loadVar 25 ⟨g, off + k * 2, none⟩).run Try.prog w' = .ok (.slice (some ⟨gu, ou, none⟩) B.1.1.length cu) w' := fun w' hw => load_one agg_keys ((hw.cell (p := ⟨g, off + k * 2, none⟩) (Nat.lt_of_lt_of_le hg hB.size)).trans ((hB.cell (p := ⟨g, off + k * 2, none⟩) hg).trans c1))
      have hk1 : wr.cell? ⟨gu, ou, none⟩ = some (.int .i64 (ordW.piv B).1) ∧ wr.cell? ⟨gu, ou + 1, none⟩ = some (.int .i64 (ordW.piv B).2) := ⟨(hB.cell (p := ⟨gu, ou, none⟩) hgu).trans hk0.1, (hB.cell (p := ⟨gu, ou + 1, none⟩) hgu).trans hk0.2⟩
      have L3 : ∀ w', Below wr.heap.size wr w' → (loadVar 41 ⟨gu, ou, none⟩).run Try.prog w' = .ok (kv (ordW.piv B)) w' := fun w' hw => key_load hk1 (Nat.lt_of_lt_of_le hgu hB.size) hw
      have HK := Lib.hid (fun w' (hw : Below wr.heap.size wr w') => shaskey_any vX X.1.1 (ordW.piv B) w' (keysAt_below HO.out.ka.to hw) (by have := keys_few X.2.1; omega))
      have hhk : hasKeyB X.1.1 (ordW.piv B) = ordW.has X (ordW.piv B) := hasKey_mem _ _
      rw [hhk] at HK
      have d1 := (hB.cell (p := ⟨g, off + k * 2, none⟩) hg).trans c1
      have d2 := (hB.cell (p := ⟨g, off + k * 2 + 1, none⟩) hg).trans c2
      have HC3 := Lib.hid (keysAt_below c3.to hB)
      have HD := Lib.hid (And.intro d1 d2)
      clear hhk hk0 hk1 hkc hku hpiv c1 c2 c3 hbn d1 d2 hB
      have hS : lessS ordW.toPla X B = if ordW.has X (ordW.piv B) = true then grpW.add X B else X := rfl
      have HS := Lib.hid hS
      clear hS
      generalize ordW.piv B = kp at *
      obtain ⟨kp1, kp2⟩ := kp
      unfold kv at L3 HK
      dsimp only at L3 HK
      generalize hhas : ordW.has X (kp1, kp2) = hs at *
      go_wp2_with fail
      refine wp_region_below wr (by kernel_rfl) (by kernel_rfl) (Below.refl _ _) ?_
      repeat (first
        | go_big_quiet_skip
        | (go_big_quiet_want
           first
             | (go_big_quiet_op; go_big_quiet_on)
             | (refine q_load 25 _ _ _ rfl rfl L1 ?_; simp only [Act.put, List.setIfInBounds_toArray, List.set_cons_zero, List.set_cons_succ]; go_big_quiet_on)
             | (refine q_load 25 _ _ _ rfl rfl L2 ?_; simp only [Act.put, List.setIfInBounds_toArray, List.set_cons_zero, List.set_cons_succ]; go_big_quiet_on)
             | (refine q_load 41 _ _ _ rfl rfl L3 ?_; simp only [Act.put, List.setIfInBounds_toArray, List.set_cons_zero, List.set_cons_succ]; go_big_quiet_on)
             | (go_big_quiet_op; refine ⟨_, fun _ _ => rfl, ?_⟩; go_big_quiet_on)
             | (go_big_quiet_op; apply Exists.intro; refine ⟨fun w' hw' => ?_, ?_⟩
                · first
                  | (with_reducible refine (HK.out w' hw').mono ?_
                     rintro e w2 ⟨rfl, hb2⟩
                     exact ⟨rfl, hw'.trans (hb2.mono hw'.size)⟩)
                go_big_quiet_on)))
      refine wpQuiet_nil ?_
      intro w2 hb2
      clear L1 L2 L3 HK
      have HO2 := Lib.hid (HO.out.next hb2)
      have HC4 := Lib.hid (keysAt_below HC3.out hb2)
      have HD2 := Lib.hid (And.intro ((hb2.cell (p := ⟨g, off + k * 2, none⟩) (World.block_lt_of_cell? _ _ HD.out.1)).trans HD.out.1) ((hb2.cell (p := ⟨g, off + k * 2 + 1, none⟩) (World.block_lt_of_cell? _ _ HD.out.2)).trans HD.out.2))
      clear hb2 HO HC3 HD
      cases hs with
      | false =>
        go_wp2_with fail
        exact ⟨⟨k + 1, vX, X, by omega, by go_num, by rw [HST.out, HS.out]; rfl, HO2.out⟩, by simp [intOf]; omega⟩
      | true =>
        have SA := Lib.hid (fun w' (hw : Below w2.heap.size w2 w') => sadd_any vX X.1.1 X.1.2 (.slice (some ⟨gu, ou, none⟩) B.1.1.length cu) B.1.1 B.1.2 w' (keysAt_below HO2.out.ka.to hw) (keysAt_below HC4.out hw) X.2 B.2)
        obtain ⟨b0, b1, bf0, bf1⟩ := row2_of HO2.out.box
        have hl5 := (Array.getElem?_eq_some_iff.1 HO2.out.box).1
        have hd2 := HD2.out
        obtain ⟨d1, d2⟩ := hd2
        obtain ⟨avx, cvx, rfl, -, -⟩ := HO2.out.ka
        clear HC4 HD2
        go_wp2_with fail
        go_region_law (first
          | (go_simp
             go_at_call 42
             refine (SA.out _ (by first | exact Below.refl _ _ | exact (Below.refl _ _).drew)).mono ?_
             rintro e w5 ⟨v5, rfl, ho5, hb5⟩
             dsimp only
             obtain ⟨a5, n5, k5, rfl⟩ := own_shape ho5
             have HO5 := Lib.hid (LsC.next (LsC.next HO2.out (by first | exact Below.refl _ _ | exact (Below.refl _ _).drew)) hb5)
             obtain ⟨e0, e1, ef0, ef1⟩ := row2_of HO5.out.box
             have HW := Lib.hid (own_base ho5 (show w.heap.size + 2 ≤ _ by have := (Array.getElem?_eq_some_iff.1 HO2.out.res).1; first | exact this | (show w.heap.size + 2 ≤ w2.heap.size; omega)))
             have hl6 := (Array.getElem?_eq_some_iff.1 HO5.out.box).1
             clear hb5 ho5 b0 b1 bf0 bf1 d1 d2 SA HO2 hl5))
        all_goals
          have HO7 := Lib.hid (HO5.out.sets (addC (X.1.1, X.1.2) (B.1.1, B.1.2)).2 HW.out (Nat.le_refl _))
          clear HO5 HW
          go_wp2
          exact ⟨⟨k + 1, .slice a5 n5 k5, grpW.add X B, by omega, by go_num, by rw [HST.out, HS.out]; rfl, HO7.out⟩, by simp [intOf]; omega⟩
    · obtain rfl : k = Bs.length := by omega
      clear hcells hne
      obtain ⟨avx, cvx, rfl, -, -⟩ := HO.out.ka
      have HF := Lib.hid HO.out.fin
      have hF := HF.out
      obtain ⟨c0, c1, d0, d1, g0, g1, -, -⟩ := hF
      have hl5 := (Array.getElem?_eq_some_iff.1 HO.out.box).1
      have hlr := (Array.getElem?_eq_some_iff.1 HO.out.res).1
      have hXE := HXE.out
      rw [List.take_length] at hXE
      subst hXE
      go_wp2_with fail
      refine bodyPost_ret (v := .agg #[.slice avx (lessG ordW.toPla Bs x).1.1.length cvx, .string (lessG ordW.toPla Bs x).1.2]) ?_ rfl ⟨_, rfl, HF.out.fin.1, HF.out.fin.2.1, HF.out.fin.2.2⟩
      rw [results_cell (p := 4) (ty := 27) (by kernel_rfl)]
      have l2 := HF.out.load
      simp [asAddr, Result.andThen, l2]
end Go.Proofs.Ytbbjpjkclealfaa
namespace Go.Proofs.Ytbbjpjkclealfaa
open Go.ChangeShapes Go.WideShapes Go.ChangeAt Go.RowKit Go.BigFrame
set_option linter.unusedVariables false

theorem strEq (a b : ByteArray) : (a.toList == b.toList) = decide (a = b) := by
  rw [Bool.eq_iff_iff, decide_eq_true_eq, beq_iff_eq, bytes_toList_iff]
def agB (Z : List W2) : Bool := Z.all fun z => decide (z.1.2 = z4)
theorem agB_snoc (Z : List W2) (z : W2) : agB (Z ++ [z]) = (agB Z && decide (z.1.2 = z4)) := by simp [agB]
theorem agB_iff (M : List W2) : agB (baseG ordW M).2 = true ↔ ∀ z ∈ (baseG ordW M).2, z = grpW.zero := by
  unfold agB
  rw [List.all_eq_true]
  have hI := base_inv ordW M
  constructor
  · intro h z hz
    exact (zeroW z ((bareW z).1 (hI.bare z hz))).2 (of_decide_eq_true (h z hz))
  · intro h z hz
    exact decide_eq_true ((zeroW z ((bareW z).1 (hI.bare z hz))).1 (h z hz))
theorem base_ne (M : List W2) : ∀ b ∈ (baseG ordW M).1, b.1.1 ≠ [] := by
  intro b hb e
  have h1 := (base_inv ordW M).redu.1 b hb
  have h2 : decide (ordW.piv b ∈ b.1.1) = true := h1
  rw [e] at h2; simp at h2
theorem base_len (L : List C2) (k : Nat) : (baseG ordW (rowsN L k)).1.length ≤ 20 := by
  have := rank_le ordW (rowsN L k); have := rowsN_le L k; omega
theorem base_bare {M : List W2} {x : W2} (h : (lessG ordW.toPla (baseG ordW M).1 x).1.1 = []) : baseG ordW (M ++ [x]) = ((baseG ordW M).1, (baseG ordW M).2 ++ [lessG ordW.toPla (baseG ordW M).1 x]) := by
  rw [base_snoc]
  unfold baseS
  rw [if_pos ((bareW _).2 h)]
theorem base_more {M : List W2} {x : W2} (h : (lessG ordW.toPla (baseG ordW M).1 x).1.1 ≠ []) : baseG ordW (M ++ [x]) = (insG ordW.toPla (baseG ordW M).1 (lessG ordW.toPla (baseG ordW M).1 x), (baseG ordW M).2) := by
  rw [base_snoc]
  unfold baseS
  rw [if_neg (fun e => h ((bareW _).1 e))]
/-- the rows, the first k of which have had x taken in -/
def insN (x : W2) (B : List W2) (k : Nat) : List W2 := (B.take k).map (insS ordW.toPla x) ++ B.drop k
theorem insN_len (x : W2) (B : List W2) (k : Nat) : (insN x B k).length = B.length := by
  unfold insN
  rw [List.length_append, List.length_map, List.length_take, List.length_drop]; omega
theorem insN_all (x : W2) (B : List W2) : insN x B B.length ++ [x] = insG ordW.toPla B x := by
  unfold insN insG
  rw [List.take_length, List.drop_length, List.append_nil]
theorem insN_get (x : W2) (B : List W2) (k : Nat) (hk : k < B.length) : (insN x B k).getD k grpW.zero = B.getD k grpW.zero := by
  unfold insN
  simp only [List.getD]
  rw [List.getElem?_append_right (by rw [List.length_map, List.length_take]; omega), List.length_map, List.length_take, Nat.min_eq_left (by omega), Nat.sub_self, List.getElem?_drop, Nat.add_zero]
theorem insN_succ (x : W2) (B : List W2) (k : Nat) (hk : k < B.length) : insN x B (k + 1) = (insN x B k).set k (insS ordW.toPla x (B.getD k grpW.zero)) := by
  unfold insN
  have e : (B.take k).length = k := by rw [List.length_take]; omega
  have e2 : (List.map (insS ordW.toPla x) (B.take k)).length = k := by rw [List.length_map, e]
  rw [List.take_succ_eq_append_getElem hk, List.map_append, List.drop_eq_getElem_cons hk, List.set_append_right _ _ (by omega), e2, Nat.sub_self, List.set_cons_zero, List.append_assoc]
  simp [List.getD, hk]
theorem insN_set_map (x : W2) (B : List W2) (k : Nat) (hk : k < B.length) : (insN x B (k + 1)).map (·.1) = ((insN x B k).map (·.1)).set k (insS ordW.toPla x (B.getD k grpW.zero)).1 := by
  rw [insN_succ x B k hk, List.map_set]
theorem set_same_map (R : List C2) (k : Nat) (x : C2) (h : R.getD k blankC = x) (hk : k < R.length) : R.set k x = R := by
  subst h
  simp [List.getD, hk]
/-- rows of one's own -/
structure BsC (w W : World) (g c : Nat) (us : List Value) (B : List W2) : Prop where
  below : Below w.heap.size w W
  own : cdOwn W w.heap.size (.slice (some ⟨g, 0, none⟩) B.length c) us (B.map (·.1))
theorem BsC.next {w W W' : World} {g c : Nat} {us : List Value} {B : List W2} (h : BsC w W g c us B) (hb : Below W.heap.size W W') : BsC w W' g c us B :=
  ⟨h.below.trans (hb.mono h.below.size), h.own.below hb⟩
theorem BsC.blk {w W : World} {g c : Nat} {us : List Value} {B : List W2} (h : BsC w W g c us B) : w.heap.size ≤ g ∧ g < W.heap.size := h.own.own.lt g rfl
theorem BsC.to {w W : World} {g c : Nat} {us : List Value} {B : List W2} (h : BsC w W g c us B) : cdAv W (some g) (.slice (some ⟨g, 0, none⟩) B.length c) (B.map (·.1)) := h.own.to
/-- what is there of a row -/
structure BsAt (W : World) (g k : Nat) (u : Value) (x : C2) : Prop where
  c0 : W.cell? ⟨g, k * 2, none⟩ = some u
  c1 : W.cell? ⟨g, k * 2 + 1, none⟩ = some (.string x.2)
  f0 : W.frozen? ⟨g, k * 2, none⟩ = false
  f1 : W.frozen? ⟨g, k * 2 + 1, none⟩ = false
  keys : keysAv W (some g) u x.1
theorem BsC.at {w W : World} {g c : Nat} {us : List Value} {B : List W2} (h : BsC w W g c us B) (k : Nat) (hk : k < B.length) : BsAt W g k (us.getD k undef) (B.getD k grpW.zero).1 := by
  have hl : (B.map (·.1)).length = B.length := List.length_map ..
  have hc := cdCells_get us (B.map (·.1)) k h.own.len (by omega)
  have ho := h.own.own
  rw [hl] at ho
  have h1 := ho.cellAt (k * 2) (by omega)
  have h2 := ho.cellAt (k * 2 + 1) (by omega)
  have hk2 := h.own.keys k (by omega)
  rw [getD_W B k hk] at hc hk2
  exact ⟨h1.trans hc.1, h2.trans hc.2, ho.frozenAt _, ho.frozenAt _, hk2⟩
theorem BsC.set {w W : World} {g c : Nat} {us : List Value} {B B' : List W2} (h : BsC w W g c us B) (k : Nat) (u : Value) (x : C2) (hu : keysAv W (some g) u x.1) (hl : B'.length = B.length) (he : B'.map (·.1) = (B.map (·.1)).set k x) :
    BsC w ((W.setCell ⟨g, k * 2, none⟩ u).setCell ⟨g, k * 2 + 1, none⟩ (.string x.2)) g c (us.set k u) B' := by
  refine ⟨(h.below.setCell (p := ⟨g, k * 2, none⟩) h.blk.1 u).setCell (p := ⟨g, k * 2 + 1, none⟩) h.blk.1 _, ?_⟩
  rw [he, hl]
  exact h.own.set k u x hu
/-- rows on their way to take one in, which lies in its box -/
structure InC (w W : World) (g c : Nat) (us : List Value) (B : List W2) (n b8 : Nat) (vX : Value) (X : C2) : Prop where
  bs : BsC w W g c us B
  len : B.length = n
  box : W.heap[b8]? = some (.cells #[vX, .string X.2] 27)
  key : keysAv W (some g) vX X.1
  ne : g < b8
theorem InC.next {w W W' : World} {g c : Nat} {us : List Value} {B : List W2} {n b8 : Nat} {vX : Value} {X : C2} (h : InC w W g c us B n b8 vX X) (hb : Below W.heap.size W W') : InC w W' g c us B n b8 vX X :=
  ⟨h.bs.next hb, h.len, (hb.block _ (Array.getElem?_eq_some_iff.1 h.box).1).trans h.box, h.key.below hb, h.ne⟩
theorem InC.set {w W : World} {g c : Nat} {us : List Value} {B B' : List W2} {n b8 : Nat} {vX : Value} {X : C2} (h : InC w W g c us B n b8 vX X) (k : Nat) (u : Value) (x : C2) (hu : keysAv W (some g) u x.1) (hl : B'.length = B.length) (he : B'.map (·.1) = (B.map (·.1)).set k x) :
    InC w ((W.setCell ⟨g, k * 2, none⟩ u).setCell ⟨g, k * 2 + 1, none⟩ (.string x.2)) g c (us.set k u) B' n b8 vX X := by
  have hne := h.ne
  have hgr : W.grownBy ((W.setCell ⟨g, k * 2, none⟩ u).setCell ⟨g, k * 2 + 1, none⟩ (.string x.2)) (some g) := (Lib.grownBy_setCell W g (k * 2) u).trans (Lib.grownBy_setCell _ g (k * 2 + 1) (.string x.2))
  exact ⟨h.bs.set k u x hu hl he, hl.trans h.len, (hgr.block _ (Array.getElem?_eq_some_iff.1 h.box).1 (fun e => by cases e; omega)).trans h.box, h.key.grown hgr, hne⟩
theorem InC.same {w W : World} {g c : Nat} {us : List Value} {X : W2} {B : List W2} {j n b8 : Nat} {vX : Value} (h : InC w W g c us (insN X B j) n b8 vX X.1) (hs : (insN X B (j + 1)).map (·.1) = ((insN X B j).map (·.1)).set j (insS ordW.toPla X (B.getD j grpW.zero)).1)
    (hg : (insN X B j).getD j grpW.zero = B.getD j grpW.zero) (he : insS ordW.toPla X (B.getD j grpW.zero) = B.getD j grpW.zero) (hj : j < B.length) : InC w W g c us (insN X B (j + 1)) n b8 vX X.1 := by
  have hl : (insN X B j).length = B.length := insN_len X B j
  have e : (insN X B (j + 1)).map (·.1) = (insN X B j).map (·.1) := by
    rw [hs, he, ← hg]
    exact set_same_map _ j _ (getD_W _ j (by omega)) (by rw [List.length_map]; omega)
  have hl2 : (insN X B (j + 1)).length = B.length := insN_len X B (j + 1)
  refine ⟨⟨h.bs.below, ?_⟩, by rw [hl2, ← h.len, hl], h.box, h.key, h.ne⟩
  rw [e, hl2, ← hl]
  exact h.bs.own
set_option maxRecDepth 100000 in
set_option maxHeartbeats 6000000 in
theorem sbase_any (vl : Value) (L : List C2) (w : World) (h : cdAv w none vl L) (hl : L.length ≤ 1900000) (hks : ∀ x ∈ L, x.1.length ≤ 2000000) :
    Calls Try.prog 51 #[vl] w fun e w' => ∃ g c us, e = .returned (.tuple #[.slice (some ⟨g, 0, none⟩) (baseG ordW (rowsN L L.length)).1.length c, .bool (agB (baseG ordW (rowsN L L.length)).2)]) ∧
      BsC w w' g c us (baseG ordW (rowsN L L.length)).1 := by
  have hB0 : BsC w (w.alloc (.cells #[] 27)) w.heap.size 0 [] [] := by
    refine ⟨(Below.refl _ _).alloc (Nat.le_refl _) _, rfl, ?_, fun i hi => by simp at hi⟩
    exact World.ownsRow_made (base := w.heap.size) (e := 27) (size := 2) w #[] 0 (Nat.le_refl _) (by unfold maxLen; omega) rfl
  have HB0 := Lib.hid hB0
  clear hB0
  obtain ⟨al, cl, rfl, hcl, hcells⟩ := h
  go_enter Try.func51, Try.ntmps51
  go_wp2_with fail
  generalize w.alloc (.cells #[] 27) = W0 at *
  go_loopw [4, 5, 6, 7] (fun v a m i wr => ∃ (k g c : Nat) (us : List Value), k ≤ L.length ∧ v = .slice (some ⟨g, 0, none⟩) (baseG ordW (rowsN L k)).1.length c ∧ a = .bool (agB (baseG ordW (rowsN L k)).2) ∧ m = .int .i64 ((rowsN L k).length : Nat) ∧ i = .int .i64 k ∧ BsC w wr g c us (baseG ordW (rowsN L k)).1)
    (fun _ _ _ i _ => L.length - (intOf i).toNat)
  case atStart => exact ⟨0, w.heap.size, 0, [], Nat.zero_le _, rfl, rfl, rfl, rfl, HB0.out⟩
  case round =>
    clear HB0
    obtain ⟨k, g, c, us, hk, rfl, rfl, rfl, rfl, hC⟩ := hrel
    have HC := Lib.hid hC
    have hbl := base_len L k
    have hml := (rowsN_le L k).1
    clear hC
    by_cases hlt : k < L.length
    · by_cases hm : (rowsN L k).length < 20
      · obtain ⟨gl, off, rfl, hg, hcs⟩ := hcells.resolve_left (by omega)
        have z0 : (0 : Int) ≤ (k : Int) := by omega
        have z1 : (k : Int) < (L.length : Int) := by omega
        have m1 : ((rowsN L k).length : Int) < 20 := by omega
        obtain ⟨u, c1, c2, c3⟩ := hcs k hlt
        have hxl := hks (L.getD k blankC) (by rw [List.getD, List.getElem?_eq_getElem hlt]; exact List.getElem_mem hlt)
        have hyes := fun hck => rowsN_yes (l := L) (i := k) hck hm
        have hno := fun hck => rowsN_no (l := L) (i := k) hck
        generalize L.getD k blankC = x at *
        rename_i wr
        have hB := HC.out.below
        have SC := Lib.hid (fun w' (hw : Below wr.heap.size wr w') => scodeok_any u x.1 x.2 w' (keysAt_below (keysAt_below c3.to hB) hw) hxl)
        have d1 := (hB.cell (p := ⟨gl, off + k * 2, none⟩) hg).trans c1
        have d2 := (hB.cell (p := ⟨gl, off + k * 2 + 1, none⟩) hg).trans c2
        have HX := Lib.hid (keysAt_below c3.to hB)
        have HXA := Lib.hid (keysAv.also (keysAv_of (b := some g) c3.to (fun j hj e => by cases e; have := HC.out.blk; omega)) HX.out)
        have HD := Lib.hid (And.intro (And.intro d1 d2) (Nat.lt_of_lt_of_le hg hB.size))
        obtain ⟨au, cu, hu, -, -⟩ := c3
        subst hu
        clear hcells hcs c1 c2 hB hks hxl
        go_wp2_with fail
        refine (SC.out _ (Below.refl _ _)).mono ?_
        rintro e w1 ⟨rfl, hb1⟩
        have HC1 := Lib.hid (HC.out.next hb1)
        have HX1 := Lib.hid (keysAt_below HX.out hb1)
        have HXA1 := Lib.hid (HXA.out.below hb1)
        have d1' := (hb1.cell (p := ⟨gl, off + k * 2, none⟩) HD.out.2).trans d1
        have d2' := (hb1.cell (p := ⟨gl, off + k * 2 + 1, none⟩) HD.out.2).trans d2
        clear hb1 d1 d2 HD HC HX HXA SC
        cases hck : codeOkB (x.1, x.2) with
        | false =>
          have HN := Lib.hid (hno hck)
          clear hyes hno hck HX1 HXA1
          go_wp2_with fail
          exact ⟨⟨k + 1, g, c, us, by omega, by rw [HN.out], by rw [HN.out], by rw [HN.out], by go_num, by rw [HN.out]; exact HC1.out⟩, by simp [intOf]; omega⟩
        | true =>
          have HY := Lib.hid (hyes hck)
          have hw := ok_w hck
          generalize hxw : (⟨x, hw⟩ : W2) = xw at *
          have hx1 : x = xw.1 := by rw [← hxw]
          subst hx1
          have SL := Lib.hid (sless_any (.slice (some ⟨g, 0, none⟩) (baseG ordW (rowsN L k)).1.length c) (baseG ordW (rowsN L k)).1 (.slice au xw.1.1.length cu) xw (some g) w1 HC1.out.to (base_ne _) (by omega) HX1.out)
          have hBE := @base_bare (rowsN L k) xw
          have hBM := @base_more (rowsN L k) xw
          clear hyes hno hck hxw hw HX1
          generalize rowsN L k = R at *
          generalize hX : lessG ordW.toPla (baseG ordW R).1 xw = X at *
          have HBE := Lib.hid hBE; have HBM := Lib.hid hBM
          clear hBE hBM
          generalize (baseG ordW R).1 = B at *
          generalize (baseG ordW R).2 = Z at *
          have hr1 : IntKind.i64.wrap ((R.length : Int) + 1) = ((R.length + 1 : Nat) : Int) := by rw [IntWalk.i64_in _ (by omega)]; omega
          go_wp2_with fail
          refine SL.out.mono ?_
          rintro e w2 ⟨v2, rfl, hk2, ha2, hb2⟩
          have HA2 := Lib.hid (ha2 g HC1.out.blk.2 HXA1.out)
          have HC2 := Lib.hid (HC1.out.next hb2)
          obtain ⟨a2, c2, rfl, -, -⟩ := hk2
          clear ha2 hb2 SL HXA1 HC1 d1' d2'
          by_cases h0 : X.1.1.length = 0
          · have i0 : (X.1.1.length : Int) = 0 := by omega
            have hx0 : X.1.1 = [] := List.length_eq_zero_iff.1 h0
            have HE := Lib.hid (HBE.out hx0)
            clear HBE HBM hx0 h0
            go_wp2_with fail
            have HBOX := Lib.hid (heap_alloc_new w2 (.cells #[.slice a2 X.1.1.length c2, .string X.1.2] 27))
            have HC3 := Lib.hid (HC2.out.next ((Below.refl w2.heap.size w2).alloc (Nat.le_refl _) (.cells #[.slice a2 X.1.1.length c2, .string X.1.2] 27)))
            have HA3 := Lib.hid (HA2.out.below ((Below.refl w2.heap.size w2).alloc (Nat.le_refl _) (.cells #[.slice a2 X.1.1.length c2, .string X.1.2] 27)))
            have HGB := Lib.hid HC2.out.blk.2
            clear HA2 HC2
            generalize w2.alloc (.cells #[.slice a2 X.1.1.length c2, .string X.1.2] 27) = w3 at *
            generalize w2.heap.size = b8 at *
            have L1 : ∀ w', Below w3.heap.size w3 w' → (loadVar 9 ⟨b8, 1, none⟩).run Try.prog w' = .ok (.string X.1.2) w' := fun w' hw => cd_loads HBOX.out hw
            have hag := agB_snoc Z X
            have hse := strEq X.1.2 z4
            rw [← hse] at hag
            have HAG := Lib.hid hag
            clear hag hse
            cases hz : agB Z with
            | false =>
              rw [hz] at HAG
              refine wp_region_below w3 (by kernel_rfl) (by kernel_rfl) (Below.refl _ _) ?_
              repeat (first
                | go_big_quiet_skip
                | (go_big_quiet_want
                   first
                     | (go_big_quiet_op; go_big_quiet_on)
                     | (refine q_load 9 _ _ _ rfl rfl L1 ?_; simp only [Act.put, List.setIfInBounds_toArray, List.set_cons_zero, List.set_cons_succ]; go_big_quiet_on)
                     | (go_big_quiet_op; refine ⟨_, fun _ _ => rfl, ?_⟩; go_big_quiet_on)
                     | (go_big_quiet_op; apply Exists.intro; refine ⟨fun w' hw' => ?_, ?_⟩
                        · first
                          | (with_reducible refine (szero_below w').mono ?_
                             rintro e w2 ⟨rfl, hb2⟩
                             exact ⟨rfl, hw'.trans (hb2.mono hw'.size)⟩)
                        go_big_quiet_on)))
              refine wpQuiet_nil ?_
              intro w4 hb4
              have HC4 := Lib.hid (HC3.out.next hb4)
              clear L1 hb4 HC3 HA3
              go_wp2_with fail
              exact ⟨⟨k + 1, g, c, us, by omega, by rw [HY.out, HE.out], by rw [HY.out, HE.out, HAG.out]; rfl, by rw [HY.out, List.length_append]; go_num, by go_num, by rw [HY.out, HE.out]; exact HC4.out⟩, by simp [intOf]; omega⟩
            | true =>
              rw [hz] at HAG
              refine wp_region_below w3 (by kernel_rfl) (by kernel_rfl) (Below.refl _ _) ?_
              repeat (first
                | go_big_quiet_skip
                | (go_big_quiet_want
                   first
                     | (go_big_quiet_op; go_big_quiet_on)
                     | (refine q_load 9 _ _ _ rfl rfl L1 ?_; simp only [Act.put, List.setIfInBounds_toArray, List.set_cons_zero, List.set_cons_succ]; go_big_quiet_on)
                     | (go_big_quiet_op; refine ⟨_, fun _ _ => rfl, ?_⟩; go_big_quiet_on)
                     | (go_big_quiet_op; apply Exists.intro; refine ⟨fun w' hw' => ?_, ?_⟩
                        · first
                          | (with_reducible refine (szero_below w').mono ?_
                             rintro e w2 ⟨rfl, hb2⟩
                             exact ⟨rfl, hw'.trans (hb2.mono hw'.size)⟩)
                        go_big_quiet_on)))
              refine wpQuiet_nil ?_
              intro w4 hb4
              have HC4 := Lib.hid (HC3.out.next hb4)
              clear L1 hb4 HC3 HA3
              go_wp2_with fail
              exact ⟨⟨k + 1, g, c, us, by omega, by rw [HY.out, HE.out], by rw [HY.out, HE.out, HAG.out]; rfl, by rw [HY.out, List.length_append]; go_num, by go_num, by rw [HY.out, HE.out]; exact HC4.out⟩, by simp [intOf]; omega⟩
          · have i0 : ¬ (X.1.1.length : Int) = 0 := by omega
            have HE := Lib.hid (HBM.out fun e => h0 (List.length_eq_zero_iff.2 e))
            clear HBE HBM
            go_wp2_with fail
            have HBOX := Lib.hid (heap_alloc_new w2 (.cells #[.slice a2 X.1.1.length c2, .string X.1.2] 27))
            have HC3 := Lib.hid (HC2.out.next ((Below.refl w2.heap.size w2).alloc (Nat.le_refl _) (.cells #[.slice a2 X.1.1.length c2, .string X.1.2] 27)))
            have HA3 := Lib.hid (HA2.out.below ((Below.refl w2.heap.size w2).alloc (Nat.le_refl _) (.cells #[.slice a2 X.1.1.length c2, .string X.1.2] 27)))
            have HGB := Lib.hid HC2.out.blk.2
            clear HA2 HC2
            generalize w2.alloc (.cells #[.slice a2 X.1.1.length c2, .string X.1.2] 27) = w3 at *
            generalize w2.heap.size = b8 at *
            have hI : InC w w3 g c us (insN X B 0) B.length b8 (.slice a2 X.1.1.length c2) X.1 := ⟨HC3.out, rfl, HBOX.out, HA3.out, HGB.out⟩
            have HI := Lib.hid hI
            clear hI HC3 HBOX HA3 HGB
            have hbq : ((X.1.1.length : Int) == 0) = false := by rw [beq_eq_false_iff_ne]; exact i0
            simp only [hbq]
            go_loopw [9] (fun i wr => ∃ (j : Nat) (us : List Value), j ≤ B.length ∧ i = .int .i64 j ∧ InC w wr g c us (insN X B j) B.length b8 (.slice a2 X.1.1.length c2) X.1) (fun i _ => B.length - (intOf i).toNat)
            case atStart => exact ⟨0, us, Nat.zero_le _, rfl, HI.out⟩
            case round =>
              obtain ⟨j, us, hj, rfl, hJ⟩ := hrel
              have HJ := Lib.hid hJ
              clear hJ HI
              rename_i wr
              by_cases hjl : j < B.length
              · have y0 : (0 : Int) ≤ (j : Int) := by omega
                have y1 : (j : Int) < (B.length : Int) := by omega
                have hat := HJ.out.bs.at j (by rw [insN_len]; exact hjl)
                rw [insN_get X B j hjl] at hat
                have hset := insN_set_map X B j hjl
                have hsame := insN_get X B j hjl
                generalize hBj : B.getD j grpW.zero = Bj at *
                generalize us.getD j undef = u at *
                obtain ⟨k0, k1, kf0, kf1, kk⟩ := hat
                obtain ⟨ax', cx', hax, -, hxk⟩ := HJ.out.key
                cases hax
                obtain ⟨gx, ox, rfl, hgx, -, hxc⟩ := hxk.resolve_left h0
                have hk0 := hxc 0 (by omega)
                simp only [Nat.zero_mul, Nat.add_zero] at hk0
                have x0 : (0 : Int) < (X.1.1.length : Int) := by omega
                have hpiv : X.1.1.getD 0 (0, 0) = ordW.piv X := by
                  show X.1.1.getD 0 (0, 0) = X.1.1.headD (0, 0)
                  cases hB : X.1.1 with
                  | nil => rw [hB] at h0; exact absurd rfl h0
                  | cons a l => rfl
                rw [hpiv] at hk0
                have L1 : ∀ w', Below wr.heap.size wr w' → (loadVar 25 ⟨b8, 0, none⟩).run Try.prog w' = .ok (.slice (some ⟨gx, ox, none⟩) X.1.1.length c2) w' := fun w' hw => cd_loadk HJ.out.box hw
                have L2 : ∀ w', Below wr.heap.size wr w' → (loadVar 25 ⟨g, j * 2, none⟩).run Try.prog w' = .ok u w' := fun w' hw => load_one agg_keys ((hw.cell (p := ⟨g, j * 2, none⟩) HJ.out.bs.blk.2).trans k0)
                have L3 : ∀ w', Below wr.heap.size wr w' → (loadVar 41 ⟨gx, ox, none⟩).run Try.prog w' = .ok (kv (ordW.piv X)) w' := fun w' hw => key_load hk0 hgx hw
                have HK := Lib.hid (fun w' (hw : Below wr.heap.size wr w') => shaskey_any u Bj.1.1 (ordW.piv X) w' (keysAt_below kk.to hw) (by have := keys_few Bj.2.1; omega))
                have hhk : hasKeyB Bj.1.1 (ordW.piv X) = ordW.has Bj (ordW.piv X) := hasKey_mem _ _
                rw [hhk] at HK
                have HKK := Lib.hid kk
                have hS : insS ordW.toPla X Bj = if ordW.has Bj (ordW.piv X) = true then grpW.add Bj X else Bj := rfl
                have HS := Lib.hid hS
                have HSET := Lib.hid hset
                have HSAME := Lib.hid hsame
                have HBJ := Lib.hid hBj
                clear hS hhk hk0 hxc hxk hpiv kk hset hsame hBj
                generalize ordW.piv X = kp at *
                obtain ⟨kp1, kp2⟩ := kp
                unfold kv at L3 HK
                dsimp only at L3 HK
                generalize hhas : ordW.has Bj (kp1, kp2) = hs at *
                go_wp2_with fail
                refine wp_region_below wr (by kernel_rfl) (by kernel_rfl) (Below.refl _ _) ?_
                repeat (first
                  | go_big_quiet_skip
                  | (go_big_quiet_want
                     first
                       | (go_big_quiet_op; go_big_quiet_on)
                       | (refine q_load 25 _ _ _ rfl rfl L1 ?_; simp only [Act.put, List.setIfInBounds_toArray, List.set_cons_zero, List.set_cons_succ]; go_big_quiet_on)
                       | (refine q_load 25 _ _ _ rfl rfl L2 ?_; simp only [Act.put, List.setIfInBounds_toArray, List.set_cons_zero, List.set_cons_succ]; go_big_quiet_on)
                       | (refine q_load 41 _ _ _ rfl rfl L3 ?_; simp only [Act.put, List.setIfInBounds_toArray, List.set_cons_zero, List.set_cons_succ]; go_big_quiet_on)
                       | (go_big_quiet_op; refine ⟨_, fun _ _ => rfl, ?_⟩; go_big_quiet_on)
                       | (go_big_quiet_op; apply Exists.intro; refine ⟨fun w' hw' => ?_, ?_⟩
                          · first
                            | (with_reducible refine (HK.out w' hw').mono ?_
                               rintro e w2 ⟨rfl, hb2⟩
                               exact ⟨rfl, hw'.trans (hb2.mono hw'.size)⟩)
                          go_big_quiet_on)))
                refine wpQuiet_nil ?_
                intro w4 hb4
                have HJ4 := Lib.hid (HJ.out.next hb4)
                have HKK4 := Lib.hid (HKK.out.below hb4)
                have k0' := (hb4.cell (p := ⟨g, j * 2, none⟩) HJ.out.bs.blk.2).trans k0
                have k1' := (hb4.cell (p := ⟨g, j * 2 + 1, none⟩) HJ.out.bs.blk.2).trans k1
                clear hb4 HJ HKK L1 L2 L3 HK k0 k1 kf0 kf1
                cases hs with
                | false =>
                  go_wp2_with fail
                  exact ⟨⟨j + 1, us, by omega, by go_num, HJ4.out.same (by rw [HBJ.out]; exact HSET.out) (by rw [HBJ.out]; exact HSAME.out) (by rw [HBJ.out, HS.out]; rfl) hjl⟩, by simp [intOf]; omega⟩
                | true =>
                  have SA := Lib.hid (fun w' (hw : Below w4.heap.size w4 w') => sadd_any u Bj.1.1 Bj.1.2 (.slice (some ⟨gx, ox, none⟩) X.1.1.length c2) X.1.1 X.1.2 w' (keysAt_below HKK4.out.to hw) (keysAt_below HJ4.out.key.to hw) Bj.2 X.2)
                  obtain ⟨b0, b1, bf0, bf1⟩ := row2_of HJ4.out.box
                  have hl5 := (Array.getElem?_eq_some_iff.1 HJ4.out.box).1
                  obtain ⟨au, cu, rfl, -, -⟩ := HKK4.out
                  clear HKK4
                  go_wp2_with fail
                  go_region_law (first
                    | (go_simp
                       go_at_call 42
                       refine (SA.out _ (by first | exact Below.refl _ _ | exact (Below.refl _ _).drew)).mono ?_
                       rintro e w5 ⟨v5, rfl, ho5, hb5⟩
                       dsimp only
                       obtain ⟨a5, n5, k5, rfl⟩ := own_shape ho5
                       have HJ5 := Lib.hid (InC.next (InC.next HJ4.out (by first | exact Below.refl _ _ | exact (Below.refl _ _).drew)) hb5)
                       have HW := Lib.hid (keysAv_own ho5 (show g < _ by have := HJ4.out.bs.blk.2; first | exact this | (show g < w4.heap.size; omega)))
                       obtain ⟨k0, k1, kf0, kf1, -⟩ := HJ5.out.bs.at j (by rw [insN_len]; exact hjl)
                       have hg5 := HJ5.out.bs.blk.2
                       clear hb5 ho5 b0 b1 bf0 bf1 k0' k1' SA HJ4 hl5))
                  all_goals
                    have HJ7 := Lib.hid (HJ5.out.set (B' := insN X B (j + 1)) j (.slice a5 n5 k5) (addC (Bj.1.1, Bj.1.2) (X.1.1, X.1.2)) HW.out (by rw [insN_len, insN_len]) (by rw [HSET.out, HS.out]; rfl))
                    clear HJ5 HW
                    go_wp2
                    exact ⟨⟨j + 1, us.set j (.slice a5 n5 k5), by omega, by go_num, HJ7.out⟩, by simp [intOf]; omega⟩
              · obtain rfl : j = B.length := by omega
                have e1 := heap_alloc_new wr (.cells #[.slice a2 X.1.1.length c2, .string X.1.2] 27)
                have hbA := (Below.refl wr.heap.size wr).alloc (Nat.le_refl _) (.cells #[.slice a2 X.1.1.length c2, .string X.1.2] 27)
                have HJA := Lib.hid (HJ.out.next hbA)
                have HONE := Lib.hid (cd_one X.1.2 HJ.out.key)
                obtain ⟨b0, b1, bf0, bf1⟩ := row2_of HJ.out.box
                have hl5 := (Array.getElem?_eq_some_iff.1 HJ.out.box).1
                have HLN := Lib.hid (insN_len X B B.length)
                clear e1 hbA HJ
                have HOW := Lib.hid HJA.out.bs.own
                rw [HLN.out] at HOW
                have hbz := HJA.out.bs.below.size
                go_wp2_with (at_builtin; refine wpList_append_cd rfl (.tmp 71) (.tmp 73) rfl HOW.out _ [X.1] HONE.out rfl rfl (by rw [List.length_map, HLN.out]; simp; omega) hbz ?_; intro v5 w5 us5 hown5 hul5 hgr5 hv5)
                have hlen5 : ((insN X B B.length).map (·.1) ++ [X.1]).length = (insG ordW.toPla B X).length := by rw [← insN_all]; simp
                have hmap5 : (insN X B B.length).map (·.1) ++ [X.1] = (insG ordW.toPla B X).map (·.1) := by rw [← insN_all, List.map_append]; rfl
                have hB5 := HJA.out.bs.below.grown hgr5 HJA.out.bs.below.size (fun j e => by cases e; exact HJA.out.bs.blk.1)
                rcases ownsRowK_shape hown5.own with ⟨-, hz⟩ | ⟨g3, c3, rfl, -⟩
                · rw [hmap5, List.length_map] at hz
                  simp [insG] at hz
                · rw [hmap5, List.length_map] at *
                  exact ⟨⟨k + 1, g3, c3, us ++ us5, by omega, by rw [HY.out, HE.out], by rw [HY.out, HE.out], by rw [HY.out, List.length_append]; go_num, by go_num, by rw [HY.out, HE.out]; exact ⟨hB5, hown5⟩⟩, by simp [intOf]; omega⟩
      · have m1 : ¬ ((rowsN L k).length : Int) < 20 := by omega
        have hf := rowsN_full (l := L) (i := k) (by omega) (L.length - k)
        rw [show k + (L.length - k) = L.length by omega] at hf
        have HF := Lib.hid hf
        have z1 : (k : Int) < (L.length : Int) := by omega
        clear hf hcells hks
        go_wp2_with fail
        go_ret2
        exact ⟨g, c, by rw [HF.out]; rfl, us, by rw [HF.out]; exact HC.out⟩
    · obtain rfl : k = L.length := by omega
      clear hcells hks
      go_wp2_with fail
      go_ret2
      first | exact ⟨g, c, us, rfl, HC.out⟩ | exact ⟨g, c, rfl, us, HC.out⟩
end Go.Proofs.Ytbbjpjkclealfaa
namespace Go.Proofs.Ytbbjpjkclealfaa
open Go.ChangeShapes Go.WideShapes Go.ChangeAt Go.RowKit Go.BigFrame
set_option linter.unusedVariables false

theorem srank_any (vl : Value) (L : List C2) (w : World) (h : cdAv w none vl L) (hl : L.length ≤ 1900000) (hks : ∀ x ∈ L, x.1.length ≤ 2000000) :
    Calls Try.prog 11 #[vl] w fun e w' => e = .returned (.int .i64 (rankM L : Nat)) ∧ Below w.heap.size w w' := by
  have H := Lib.hid (sbase_any vl L w h hl hks)
  have hr := rankM_le L
  unfold rankM at *
  go_enter Try.func11, Try.ntmps11
  go_wp2_with fail
  refine H.out.mono ?_
  rintro e w1 ⟨g, c, us, rfl, hC⟩
  have HB := Lib.hid hC.below
  clear hC H
  go_wp2
  go_ret
  exact ⟨rfl, HB.out⟩
end Go.Proofs.Ytbbjpjkclealfaa
namespace Go.Proofs.Ytbbjpjkclealfaa
open Go.ChangeShapes Go.WideShapes Go.ChangeAt Go.RowKit Go.BigFrame
set_option linter.unusedVariables false

theorem getD_map (B : List W2) (i : Nat) : (B.map (·.1)).getD i blankC = (B.getD i grpW.zero).1 := by
  by_cases h : i < B.length
  · exact getD_W B i h
  · simp only [List.getD]
    rw [List.getElem?_eq_none (by rw [List.length_map]; omega), List.getElem?_eq_none (by omega)]
    rfl
/-- rows of one's own, and loads of one's own -/
structure BsZ (w W : World) (g c : Nat) (us : List Value) (B : List W2) (vz : Value) (Z : List ByteArray) : Prop where
  bs : BsC w W g c us B
  zown : W.ownsRow w.heap.size 9 1 vz Z.length (Z.map Value.string)
  zne : vz.ownBlock ≠ some g
  zk : ∀ i, i < B.length → keysAv W vz.ownBlock (us.getD i undef) (B.getD i grpW.zero).1.1
theorem BsZ.next {w W W' : World} {g c : Nat} {us : List Value} {B : List W2} {vz : Value} {Z : List ByteArray} (h : BsZ w W g c us B vz Z) (hb : Below W.heap.size W W') : BsZ w W' g c us B vz Z :=
  ⟨h.bs.next hb, own_below h.zown hb, h.zne, fun i hi => (h.zk i hi).below hb⟩
theorem BsZ.set {w W : World} {g c : Nat} {us : List Value} {B B' : List W2} {vz : Value} {Z : List ByteArray} (h : BsZ w W g c us B vz Z) (k : Nat) (u : Value) (x : C2) (hu : keysAv W (some g) u x.1) (hz : keysAv W vz.ownBlock u x.1) (hl : B'.length = B.length)
    (he : B'.map (·.1) = (B.map (·.1)).set k x) : BsZ w ((W.setCell ⟨g, k * 2, none⟩ u).setCell ⟨g, k * 2 + 1, none⟩ (.string x.2)) g c (us.set k u) B' vz Z := by
  have h1 := h.bs.set k u x hu hl he
  have hgr : W.grownBy ((W.setCell ⟨g, k * 2, none⟩ u).setCell ⟨g, k * 2 + 1, none⟩ (.string x.2)) (some g) := grown_trans (Lib.grownBy_setCell W g (k * 2) u) (Lib.grownBy_setCell _ g (k * 2 + 1) (.string x.2))
  refine ⟨h1, h.zown.kept hgr (.inr h.zne), h.zne, fun i hi => ?_⟩
  have ha := (h1.at i hi).keys.to
  by_cases e : k = i
  · subst e
    have hlen : us.length = B.length := by have := h.bs.own.len; rwa [List.length_map] at this
    have e1 : (us.set k u).getD k undef = u := by simp [List.getD, hlen, show k < B.length by omega]
    have e2 : (B'.getD k grpW.zero).1 = x := by
      rw [← getD_map, he]
      simp [List.getD, show k < B.length by omega]
    rw [e1, e2] at ha ⊢
    exact hz.also ha
  · have e1 : (us.set k u).getD i undef = us.getD i undef := by simp [List.getD, e]
    have e2 : (B'.getD i grpW.zero).1 = (B.getD i grpW.zero).1 := by
      rw [← getD_map, ← getD_map, he]
      simp [List.getD, e]
    rw [e1, e2] at ha ⊢
    exact (h.zk i (by omega)).also ha
theorem BsZ.load {w W W' : World} {g c : Nat} {us : List Value} {B : List W2} {vz vz' : Value} {Z : List ByteArray} {y : ByteArray} (h : BsZ w W g c us B vz Z) (hg : W.grownBy W' vz.ownBlock)
    (ho : W'.ownsRow w.heap.size 9 1 vz' (Z ++ [y]).length ((Z ++ [y]).map Value.string)) (hv : vz'.ownBlock = vz.ownBlock ∨ vz'.ownBlock = some W.heap.size) : BsZ w W' g c us B vz' (Z ++ [y]) := by
  have hblk := h.bs.blk
  have hown := h.bs.own.other hg (fun e => h.zne e.symm) (fun i hi => by rw [getD_map]; exact h.zk i (by rwa [List.length_map] at hi))
  refine ⟨⟨h.bs.below.grown hg h.bs.below.size (fun j e => (h.zown.lt j e).1), hown⟩, ho, ?_, fun i hi => ?_⟩
  · rcases hv with e | e
    · rw [e]; exact h.zne
    · rw [e]; intro e2; have := Option.some.inj e2; omega
  · have h1 := (h.zk i hi).grown hg
    rcases hv with e | e
    · rw [e]; exact h1
    · rw [e]
      exact ((h.zk i hi).avoid (b' := some W.heap.size) (fun j hj e2 => by have := Option.some.inj e2; omega)).also h1.to
theorem BsZ.push {w W W' : World} {g c g3 c3 : Nat} {us us' : List Value} {B B' : List W2} {vz : Value} {Z : List ByteArray} {u : Value} {x : C2} (h : BsZ w W g c us B vz Z) (hg : W.grownBy W' (some g)) (hbs : BsC w W' g3 c3 (us ++ us') B') (hul : us'.length = 1)
    (he : B'.map (·.1) = B.map (·.1) ++ [x]) (hu0 : ∀ i, i < B'.length → i = B.length → (us ++ us').getD i undef = u) (hz : keysAv W vz.ownBlock u x.1) (hv : some g3 = some g ∨ some g3 = some W.heap.size) : BsZ w W' g3 c3 (us ++ us') B' vz Z := by
  have hlen : us.length = B.length := by have := h.bs.own.len; rwa [List.length_map] at this
  have hl : B'.length = B.length + 1 := by have := congrArg List.length he; simpa using this
  refine ⟨hbs, h.zown.kept hg (.inr h.zne), fun e => ?_, fun i hi => ?_⟩
  · rcases hv with e2 | e2
    · rw [e2] at e; exact h.zne e
    · rw [e2] at e; have := (h.zown.lt _ e).2; omega
  · have ha := (hbs.at i hi).keys.to
    by_cases hlt : i < B.length
    · have e1 : (us ++ us').getD i undef = us.getD i undef := by simp only [List.getD]; rw [List.getElem?_append_left (by omega)]
      have e2 : (B'.getD i grpW.zero).1 = (B.getD i grpW.zero).1 := by
        rw [← getD_map, ← getD_map, he]
        simp only [List.getD]; rw [List.getElem?_append_left (by rw [List.length_map]; exact hlt)]
      rw [e1, e2] at ha ⊢
      exact (h.zk i hlt).also ha
    · have hi2 : i = B.length := by omega
      have e1 := hu0 i hi hi2
      have e2 : (B'.getD i grpW.zero).1 = x := by
        rw [← getD_map, he, hi2]
        simp only [List.getD]; rw [List.getElem?_append_right (by rw [List.length_map]; exact Nat.le_refl _)]; simp
      rw [e1, e2] at ha ⊢
      exact hz.also ha
/-- rows on their way to take one in -/
structure InZ (w W : World) (g c : Nat) (us : List Value) (B : List W2) (n b8 : Nat) (vX : Value) (X : C2) (vz : Value) (Z : List ByteArray) : Prop where
  bz : BsZ w W g c us B vz Z
  len : B.length = n
  box : W.heap[b8]? = some (.cells #[vX, .string X.2] 27)
  key : keysAv W (some g) vX X.1
  zx : keysAv W vz.ownBlock vX X.1
  ne : g < b8
theorem InZ.next {w W W' : World} {g c : Nat} {us : List Value} {B : List W2} {n b8 : Nat} {vX : Value} {X : C2} {vz : Value} {Z : List ByteArray} (h : InZ w W g c us B n b8 vX X vz Z) (hb : Below W.heap.size W W') : InZ w W' g c us B n b8 vX X vz Z :=
  ⟨h.bz.next hb, h.len, (hb.block _ (Array.getElem?_eq_some_iff.1 h.box).1).trans h.box, h.key.below hb, h.zx.below hb, h.ne⟩
theorem InZ.set {w W : World} {g c : Nat} {us : List Value} {B B' : List W2} {n b8 : Nat} {vX : Value} {X : C2} {vz : Value} {Z : List ByteArray} (h : InZ w W g c us B n b8 vX X vz Z) (k : Nat) (u : Value) (x : C2) (hu : keysAv W (some g) u x.1) (hz : keysAv W vz.ownBlock u x.1) (hl : B'.length = B.length)
    (he : B'.map (·.1) = (B.map (·.1)).set k x) : InZ w ((W.setCell ⟨g, k * 2, none⟩ u).setCell ⟨g, k * 2 + 1, none⟩ (.string x.2)) g c (us.set k u) B' n b8 vX X vz Z := by
  have hne := h.ne
  have hgr : W.grownBy ((W.setCell ⟨g, k * 2, none⟩ u).setCell ⟨g, k * 2 + 1, none⟩ (.string x.2)) (some g) := grown_trans (Lib.grownBy_setCell W g (k * 2) u) (Lib.grownBy_setCell _ g (k * 2 + 1) (.string x.2))
  have hk := h.key.grown hgr
  exact ⟨h.bz.set k u x hu hz hl he, hl.trans h.len, (hgr.block _ (Array.getElem?_eq_some_iff.1 h.box).1 (fun e => by cases e; omega)).trans h.box, hk, h.zx.also hk.to, hne⟩
theorem InZ.same {w W : World} {g c : Nat} {us : List Value} {X : W2} {B : List W2} {j n b8 : Nat} {vX : Value} {vz : Value} {Z : List ByteArray} (h : InZ w W g c us (insN X B j) n b8 vX X.1 vz Z) (hs : (insN X B (j + 1)).map (·.1) = ((insN X B j).map (·.1)).set j (insS ordW.toPla X (B.getD j grpW.zero)).1)
    (hg : (insN X B j).getD j grpW.zero = B.getD j grpW.zero) (he : insS ordW.toPla X (B.getD j grpW.zero) = B.getD j grpW.zero) (hj : j < B.length) : InZ w W g c us (insN X B (j + 1)) n b8 vX X.1 vz Z := by
  have hl : (insN X B j).length = B.length := insN_len X B j
  have e : (insN X B (j + 1)).map (·.1) = (insN X B j).map (·.1) := by
    rw [hs, he, ← hg]
    exact set_same_map _ j _ (getD_W _ j (by omega)) (by rw [List.length_map]; omega)
  have hl2 : (insN X B (j + 1)).length = B.length := insN_len X B (j + 1)
  have e3 : insN X B (j + 1) = insN X B j := (List.map_inj_right (fun a b h => Subtype.ext h)).1 e
  rw [e3]
  exact h
set_option maxRecDepth 100000 in
theorem sbit_any (s : ByteArray) (b : Nat) (hs : s.size = 4) (hb : b < 32) (w : World) : Calls Try.prog 95 #[.string s, .int .i64 (b : Int)] w fun e w' => e = .returned (.bool (bitL s b)) ∧ w' = w := by
  have z0 : (0 : Int) ≤ ((b / 8 : Nat) : Int) := by omega
  have z1 : ((b / 8 : Nat) : Int) < 4 := by omega
  have z2 : b / 8 < s.size := by omega
  have hs4 : (s.size : Int) = 4 := by omega
  have hbl : bitL s b = ((s[b / 8]'z2).toNat / 2 ^ (b % 8) % 2 == 1) := by
    unfold bitL
    have e : s.data.toList.getD (b / 8) 0 = s[b / 8]'z2 := by
      rw [List.getD, List.getElem?_eq_getElem (by simpa using z2)]; rfl
    rw [e, Nat.testBit_eq_decide_div_mod_eq]
    rfl
  have hlt := (s[b / 8]'z2).toNat_lt
  rw [hbl]
  clear hbl
  generalize hn : (s[b / 8]'z2).toNat = n at *
  go_enter Try.func95, Try.ntmps95
  have hq : (bits .and .u8 ((n : Int) / 2 ^ (b % 8)) 1 == 1) = (n / 2 ^ (b % 8) % 2 == 1) := by
    have h1 : (n : Int) / 2 ^ (b % 8) = ((n / 2 ^ (b % 8) : Nat) : Int) := by rw [Int.natCast_ediv, Int.natCast_pow]; rfl
    have h2 : n / 2 ^ (b % 8) < 256 := Nat.lt_of_le_of_lt (Nat.div_le_self _ _) hlt
    rw [h1]
    generalize n / 2 ^ (b % 8) = m at *
    have h3 : bits .and .u8 (m : Int) 1 = ((m % 2 : Nat) : Int) := by
      show IntKind.u8.wrap ((BitVec.ofInt 8 (m : Int) &&& BitVec.ofInt 8 ((1 : Nat) : Int)).toNat : Nat) = _
      rw [bv_nat, bv_nat, BitVec.toNat_and, BitVec.toNat_ofNat, BitVec.toNat_ofNat, Nat.mod_eq_of_lt (by omega), Nat.mod_eq_of_lt (by omega), Nat.and_one_is_mod]
      have : m % 2 < 2 := Nat.mod_lt _ (by decide)
      rw [IntKind.wrap_u8]; omega
    rw [h3, Bool.eq_iff_iff, beq_iff_eq, beq_iff_eq]
    omega
  have HQ := Lib.hid hq
  clear hq
  go_wp2
  go_ret
  exact ⟨by rw [← HQ.out]; rfl, rfl⟩
theorem keysAv_ownO {w : World} {base : Nat} {o : Option Nat} {v : Value} {ks : List K2} (h : w.ownsRow base 41 2 v ks.length (keyCells ks)) (hb : ∀ b, o = some b → b < base) : keysAv w o v ks := by
  cases o with
  | none => exact keysAv_of (keysAt_own h) fun g _ e => by cases e
  | some b => exact keysAv_own h (hb b rfl)
theorem infoStr : (Try.prog.info? 9).map (fun i => (i.zero, i.size, i.bytes)) = some (some (.string ⟨#[]⟩), 1, 16) := by kernel_rfl
theorem wpList_append_str {ops : Array Oper} {rest : List Oper} {o : Oper} {a : Act} {w : World} {Q : Exit → Act → World → Prop} (hgd : o.guard = none) (s x : Operand)
    (ho : o.op = .call { callee := .builtin .append, args := #[s, x], argTypes := #[130, 130] })
    {base : Nat} {v : Value} {Z : List ByteArray} (hown : w.ownsRow base 9 1 v Z.length (Z.map Value.string)) (g : Nat) (y : ByteArray) (hu : w.heap[g]? = some (.cells #[.string y] 9 (0, 0))) (hs : a.eval s = v) (hx : a.eval x = .slice (some ⟨g, 0, none⟩) 1 1) (hn : Z.length ≤ 100000) (hbase : base ≤ w.heap.size)
    (h : ∀ v' w', w'.ownsRow base 9 1 v' (Z ++ [y]).length ((Z ++ [y]).map Value.string) → w.grownBy w' v.ownBlock → (v'.ownBlock = v.ownBlock ∨ v'.ownBlock = some w.heap.size) → wpList Try.prog ops Q rest (a.put o.dst v') w') : wpList Try.prog ops Q (o :: rest) a w := by
  refine wpList_plain hgd fun K hK => ?_
  obtain ⟨i0, hi, hz0, hz1, hz2⟩ := info_parts infoStr
  obtain ⟨v', w', hr, h2, h3, h4, h5⟩ := run_append_own_at (P := Try.prog) w base 130 o.type 9 i0 (.string ⟨#[]⟩) 1 16 Try.underlying130 hi hz0 hz1 hz2 rfl (by decide) v Z.length (Z.map Value.string) hown ⟨g, 0, none⟩ 1 1 [.string y] rfl
    (fun j u hj => by
      have hadd : (⟨g, 0, none⟩ : Addr).add j = ⟨g, j, none⟩ := by unfold Addr.add; split <;> simp_all
      rw [hadd, cell_of_row _ _ _ _ _ _ hu]
      simpa using hj) (fun u hu => by rcases List.mem_singleton.1 hu with rfl; rfl) (by unfold maxLen; omega) (by omega) hbase
  unfold Oper.wp execOp
  simp only [ho, resolve, invoke, builtin, Sem.run_bind, Sem.run_pure, Result.andThen_ok, List.map_toArray, List.map_cons, List.map_nil, hs, hx, hr]
  refine hK _ _ (h v' w' ?_ h3 h5)
  rw [List.length_append, List.map_append]
  exact h2
theorem wpList_append_cd1 {ops : Array Oper} {rest : List Oper} {o : Oper} {a : Act} {w : World} {Q : Exit → Act → World → Prop} (hgd : o.guard = none) (s x : Operand)
    (ho : o.op = .call { callee := .builtin .append, args := #[s, x], argTypes := #[24, 24] })
    {base : Nat} {v : Value} {us : List Value} {L : List C2} (hown : cdOwn w base v us L) (g0 : Nat) (u : Value) (z : C2) (hu : w.heap[g0]? = some (.cells #[u, .string z.2] 27 (0, 0))) (hus : ∃ a n c, u = .slice a n c) (hk : keysAv w v.ownBlock u z.1)
    (hs : a.eval s = v) (hx : a.eval x = .slice (some ⟨g0, 0, none⟩) 1 1) (hn : L.length ≤ 1000000) (hbase : base ≤ w.heap.size)
    (h : ∀ v' w', cdOwn w' base v' (us ++ [u]) (L ++ [z]) → w.grownBy w' v.ownBlock → (v'.ownBlock = v.ownBlock ∨ v'.ownBlock = some w.heap.size) → wpList Try.prog ops Q rest (a.put o.dst v') w') : wpList Try.prog ops Q (o :: rest) a w := by
  refine wpList_plain hgd fun K hK => ?_
  obtain ⟨i0, hi, hz0, hz1, hz2⟩ := info_parts infoC
  obtain ⟨v', w', hr, h2, h3, h4, h5⟩ := run_append_own_at (P := Try.prog) w base 24 o.type 27 i0 (.agg #[.slice none 0 0, .string ⟨#[]⟩]) 2 40 Try.underlying24 hi hz0 hz1 hz2 rfl (by decide) v L.length (cdCells us L) hown.own ⟨g0, 0, none⟩ 1 1 (cdCells [u] [z]) rfl
    (fun j q hj => by
      have hadd : (⟨g0, 0, none⟩ : Addr).add j = ⟨g0, j, none⟩ := by unfold Addr.add; split <;> simp_all
      rw [hadd, cell_of_row _ _ _ _ _ _ hu]
      simpa [cdCells] using hj) (cdCells_one [u] [z] (fun q hq => by rcases List.mem_singleton.1 hq with rfl; exact hus)) (by unfold maxLen; omega) (by omega) hbase
  unfold Oper.wp execOp
  simp only [ho, resolve, invoke, builtin, Sem.run_bind, Sem.run_pure, Result.andThen_ok, List.map_toArray, List.map_cons, List.map_nil, hs, hx, hr]
  refine hK _ _ (h v' w' ⟨by simp [hown.len], by rw [cdCells_app _ _ _ _ hown.len, List.length_append]; exact h2, fun i hi => ?_⟩ h3 h5)
  have hk0 : keysAv w v.ownBlock ((us ++ [u]).getD i undef) ((L ++ [z]).getD i blankC).1 := by
    rw [List.length_append, List.length_singleton] at hi
    by_cases hlt : i < L.length
    · have e1 : (us ++ [u]).getD i undef = us.getD i undef := by simp only [List.getD]; rw [List.getElem?_append_left (by rw [hown.len]; exact hlt)]
      have e2 : (L ++ [z]).getD i blankC = L.getD i blankC := by simp only [List.getD]; rw [List.getElem?_append_left hlt]
      rw [e1, e2]; exact hown.keys i hlt
    · obtain rfl : i = L.length := by omega
      have e1 : (us ++ [u]).getD L.length undef = u := by rw [← hown.len]; simp [List.getD]
      have e2 : (L ++ [z]).getD L.length blankC = z := by simp [List.getD]
      rw [e1, e2]; exact hk
  have hk1 := hk0.grown h3
  rcases h5 with e | e
  · rw [e]; exact hk1
  · rw [e]
    exact (hk0.avoid (b' := some w.heap.size) (fun j hj e2 => by have := Option.some.inj e2; omega)).also hk1.to
theorem base_z_len (L : List C2) (k : Nat) : (baseG ordW (rowsN L k)).2.length ≤ 20 := by
  suffices H : ∀ n (M : List W2), M.length = n → (baseG ordW M).2.length ≤ n from Nat.le_trans (H _ _ rfl) (rowsN_le L k).1
  intro n
  induction n with
  | zero => intro M hM; obtain rfl : M = [] := List.length_eq_zero_iff.1 hM; exact Nat.le_refl _
  | succ n ih =>
    intro M hM
    have hne : M ≠ [] := by intro e; rw [e] at hM; cases hM
    have hi := ih M.dropLast (by simp [hM])
    have e := List.dropLast_concat_getLast hne
    rw [← e, base_snoc]
    unfold baseS
    split
    · simp; omega
    · dsimp only; omega
def loadsEnd (M : List W2) (y : L4) : L4 := ((List.range 32).foldl (elimS bitsPla) ((baseG ordW M).2.map ldW, y)).2
end Go.Proofs.Ytbbjpjkclealfaa
namespace Go.Proofs.Ytbbjpjkclealfaa
open Go.ChangeShapes Go.WideShapes Go.ChangeAt Go.RowKit Go.BigFrame
set_option linter.unusedVariables false

/-- a word on its way, in its box b5; the result's place r -/
structure OfC (w W : World) (r b5 : Nat) (ks : List K2) (y : ByteArray) (vX : Value) : Prop where
  below : Below w.heap.size w W
  box : W.heap[b5]? = some (.cells #[vX, .string y] 27)
  own : W.ownsRow w.heap.size 41 2 vX ks.length (keyCells ks)
  ne : vX.ownBlock ≠ some b5
  ner : vX.ownBlock ≠ some r
  res : W.heap[r]? = some (.cells #[.slice none 0 0, .string ⟨#[]⟩] 27)
  lt : w.heap.size ≤ r ∧ r < b5
theorem OfC.next {w W W' : World} {r b5 : Nat} {ks : List K2} {y : ByteArray} {vX : Value} (h : OfC w W r b5 ks y vX) (hb : Below W.heap.size W W') : OfC w W' r b5 ks y vX :=
  ⟨h.below.trans (hb.mono h.below.size), (hb.block _ (Array.getElem?_eq_some_iff.1 h.box).1).trans h.box, own_below h.own hb, h.ne, h.ner, (hb.block _ (Array.getElem?_eq_some_iff.1 h.res).1).trans h.res, h.lt⟩
theorem OfC.sets {w W : World} {r b5 : Nat} {ks : List K2} {y : ByteArray} {vX : Value} (h : OfC w W r b5 ks y vX) (z : ByteArray) : OfC w (W.setCell ⟨b5, 1, none⟩ (.string z)) r b5 ks z vX := by
  have hl := h.lt
  refine ⟨h.below.setCell (p := ⟨b5, 1, none⟩) (by show w.heap.size ≤ b5; omega) _, set_cellsD (j := 1) _ h.box, h.own.kept (Lib.grownBy_setCell W b5 1 _) (.inr fun e => h.ne e), h.ne, h.ner, ?_, hl⟩
  rw [Below.heap_setCell _ _ _ _ (by simp; omega)]
  exact h.res
structure OfF (w W : World) (r b5 : Nat) (ks : List K2) (y : ByteArray) (v : Value) : Prop where
  c0 : W.cell? ⟨b5, 0, none⟩ = some v
  c1 : W.cell? ⟨b5, 1, none⟩ = some (.string y)
  d0 : W.cell? ⟨r, 0, none⟩ = some (.slice none 0 0)
  d1 : W.cell? ⟨r, 1, none⟩ = some (.string ⟨#[]⟩)
  g0 : W.frozen? ⟨r, 0, none⟩ = false
  g1 : W.frozen? ⟨r, 1, none⟩ = false
  load : (loadVar 27 ⟨r, 0, none⟩).run Try.prog ((W.setCell ⟨r, 0, none⟩ v).setCell ⟨r, 1, none⟩ (.string y)) = .ok (.agg #[v, .string y]) ((W.setCell ⟨r, 0, none⟩ v).setCell ⟨r, 1, none⟩ (.string y))
  fin : ((W.setCell ⟨r, 0, none⟩ v).setCell ⟨r, 1, none⟩ (.string y)).ownsRow w.heap.size 41 2 v ks.length (keyCells ks) ∧ Below w.heap.size w ((W.setCell ⟨r, 0, none⟩ v).setCell ⟨r, 1, none⟩ (.string y))
theorem OfC.fin {w W : World} {r b5 : Nat} {ks : List K2} {y : ByteArray} {vX : Value} (h : OfC w W r b5 ks y vX) : OfF w W r b5 ks y vX := by
  obtain ⟨c0, c1, -, -⟩ := row2_of h.box
  obtain ⟨d0, d1, g0, g1⟩ := row2_of h.res
  exact ⟨c0, c1, d0, d1, g0, g1, cd_res h.res vX y, h.own.kept (grown2 W _ _ _) (.inr fun e => h.ner e), below2 h.below h.lt.1 vX (.string y)⟩
set_option maxRecDepth 100000 in
set_option maxHeartbeats 2000000 in
theorem l05of_any (v : Value) (ks : List K2) (w : World) (h : keysAt w v ks) (hs : ks.length ≤ 1000000) (hk4 : ∀ k ∈ ks, (0 ≤ k.1 ∧ k.1 ≤ 1000) ∧ (0 ≤ k.2 ∧ k.2 ≤ 1000)) :
    Calls Try.prog 43 #[v] w fun e w' => ∃ v' y, e = .returned (.agg #[v', .string y]) ∧ y.size = 4 ∧ w'.ownsRow w.heap.size 41 2 v' ks.length (keyCells ks) ∧ Below w.heap.size w w' := by
  have hb1 := (Below.refl w.heap.size w).alloc (Nat.le_refl _) (.cells #[.slice none 0 0, .string ⟨#[]⟩] 27)
  have hr1 := heap_alloc_new w (.cells #[.slice none 0 0, .string ⟨#[]⟩] 27)
  have hb2 := hb1.alloc hb1.size (.cells #[] 41)
  have hr2 := (Below.heap_alloc (w.alloc (.cells #[.slice none 0 0, .string ⟨#[]⟩] 27)) (.cells #[] 41) _ (Array.getElem?_eq_some_iff.1 hr1).1).trans hr1
  have e1 : (w.alloc (.cells #[.slice none 0 0, .string ⟨#[]⟩] 27)).heap.size = w.heap.size + 1 := by simp
  have ho2 := World.ownsRow_made (base := w.heap.size + 1) (e := 41) (size := 2) (w.alloc (.cells #[.slice none 0 0, .string ⟨#[]⟩] 27)) #[] 0 (by simp) (by unfold maxLen; omega) rfl
  rw [e1] at ho2
  have HB2 := Lib.hid hb2; have HR2 := Lib.hid hr2; have HO2 := Lib.hid ho2
  have HK2 := Lib.hid (keysAt_below h hb2)
  have hz2 : w.heap.size + 2 = ((w.alloc (.cells #[.slice none 0 0, .string ⟨#[]⟩] 27)).alloc (.cells #[] 41)).heap.size := by simp
  have HZ2 := Lib.hid hz2
  obtain ⟨a, cap, rfl, hcap, hcells⟩ := h
  clear hb1 hr1 hb2 hr2 e1 ho2 hz2
  go_enter Try.func43, Try.ntmps43
  go_wp2_with (at_builtin; refine wpList_append_key rfl (.tmp 5) (.tmp 6) rfl HO2.out _ ks HK2.out rfl rfl (by omega) (by have := HZ2.out; omega) ?_; intro v3 w3 hown3 hgr3 hw3)
  obtain ⟨a3, n3, k3, rfl⟩ := own_shape hown3
  have hob : ∀ g, (Value.slice (some ⟨w.heap.size + 1, 0, none⟩) 0 0).ownBlock = some g → w.heap.size + 1 = g := fun g e => Option.some.inj e
  have hB3 := HB2.out.grown hgr3 HB2.out.size (fun g e => by have := hob g e; omega)
  have hR3 := (hgr3.block _ (Array.getElem?_eq_some_iff.1 HR2.out).1 (fun e => by first | (have := hob _ e; omega) | (have := hob _ e.symm; omega))).trans HR2.out
  clear hob
  simp only [Nat.zero_add, List.nil_append] at hown3
  have hE : OfC w (w3.alloc (.cells #[.slice a3 n3 k3, .string z4] 27)) w.heap.size w3.heap.size ks z4 (.slice a3 n3 k3) :=
    ⟨hB3.alloc hB3.size _, heap_alloc_new w3 _, (own_base hown3 (by omega)).alloc _, fun e => Nat.lt_irrefl _ (hown3.lt _ e).2, fun e => by have := (hown3.lt _ e).1; omega, (Below.heap_alloc w3 _ _ (Array.getElem?_eq_some_iff.1 hR3).1).trans hR3, Nat.le_refl _, (Array.getElem?_eq_some_iff.1 hR3).1⟩
  have HE := Lib.hid hE
  clear hown3 hgr3 hw3 hB3 hR3 hE HB2 HR2 HO2 HK2 HZ2
  go_wp2_with fail
  refine (szero_any _).mono ?_
  rintro e w4 ⟨rfl, rfl⟩
  have hl5 := HE.out.lt
  go_wp2_with fail
  generalize w4.alloc (.cells #[.slice a3 n3 k3, .string z4] 27) = W4 at *
  generalize w4.heap.size = b5 at *
  go_loopw [4] (fun i wr => ∃ (k : Nat) (X : ByteArray), k ≤ ks.length ∧ i = .int .i64 k ∧ X.size = 4 ∧ OfC w wr w.heap.size b5 ks X (.slice a3 n3 k3)) (fun i _ => ks.length - (intOf i).toNat)
  case atStart => exact ⟨0, z4, Nat.zero_le _, rfl, rfl, HE.out⟩
  case round =>
    obtain ⟨k, X, hk, rfl, hX, hO⟩ := hrel
    have HO := Lib.hid hO
    clear hO HE hl5
    by_cases hlt : k < ks.length
    · obtain ⟨g, off, rfl, hg, hcs⟩ := hcells.resolve_left (by omega)
      have z0 : (0 : Int) ≤ (k : Int) := by omega
      have z1 : (k : Int) < (ks.length : Int) := by omega
      have c1 := hcs k hlt
      have hkb := hk4 (ks.getD k (0, 0)) (by rw [List.getD, List.getElem?_eq_getElem hlt]; exact List.getElem_mem hlt)
      clear hcells hcs hk4
      generalize ks.getD k (0, 0) = kx at *
      have hz := truthV_size kx hkb.1 hkb.2
      have TR := Lib.hid (fun w' => truth_any kx w' hkb.1 hkb.2)
      generalize truthV kx = tz at *
      obtain ⟨p, q⟩ := kx
      unfold kv at TR
      dsimp only at TR c1 hkb
      rename_i wr
      have hB := HO.out.below
      have k0 : wr.cell? ⟨g, off + k * 2, none⟩ = some (.int .i64 p) := (hB.cell (p := ⟨g, off + k * 2, none⟩) hg).trans c1.1
      have k1 : wr.cell? ⟨g, off + k * 2 + 1, none⟩ = some (.int .i64 q) := (hB.cell (p := ⟨g, off + k * 2 + 1, none⟩) hg).trans c1.2
      obtain ⟨b0, b1, bf0, bf1⟩ := row2_of HO.out.box
      have hl5 := (Array.getElem?_eq_some_iff.1 HO.out.box).1
      have SX := Lib.hid (fun w' => sxor_any X tz w' (by omega) (by omega))
      have hY : (xorS X tz).size = 4 := by rw [xorS_size X tz (by omega)]; exact hX
      generalize xorS X tz = Y at *
      clear hB c1 hg hkb hz hX
      go_wp2_with fail
      go_region_law (first
        | (go_simp
           go_at_call 85
           refine (TR.out _).mono ?_
           rintro e w5 ⟨rfl, hb5⟩
           dsimp only
           have HO5 := Lib.hid (OfC.next (OfC.next HO.out (by first | exact Below.refl _ _ | exact (Below.refl _ _).drew)) hb5)
           have hr5 := row2_of HO5.out.box
           obtain ⟨d0, d1, df0, df1⟩ := hr5
           have hl6 := (Array.getElem?_eq_some_iff.1 HO5.out.box).1
           clear hb5 k0 k1 b0 b1 bf0 bf1 TR HO hl5)
        | (go_simp
           go_at_call 84
           refine (SX.out _).mono ?_
           rintro e w6 ⟨rfl, hb6⟩
           dsimp only
           have HO6 := Lib.hid (OfC.next (OfC.next HO5.out (by first | exact Below.refl _ _ | exact (Below.refl _ _).drew)) hb6)
           have hr6 := row2_of HO6.out.box
           obtain ⟨e0, e1, ef0, ef1⟩ := hr6
           have hl7 := (Array.getElem?_eq_some_iff.1 HO6.out.box).1
           clear hb6 d0 d1 df0 df1 SX HO5 hl6))
      all_goals
        have HO7 := Lib.hid (HO6.out.sets Y)
        clear HO6 e0 e1 ef0 ef1 hl7
        go_wp2
        exact ⟨⟨k + 1, Y, by omega, by go_num, hY, HO7.out⟩, by simp [intOf]; omega⟩
    · obtain rfl : k = ks.length := by omega
      clear hcells hk4
      have HF := Lib.hid HO.out.fin
      have hF := HF.out
      obtain ⟨c0, c1, d0, d1, g0, g1, -, -⟩ := hF
      have hl5 := (Array.getElem?_eq_some_iff.1 HO.out.box).1
      have hlr := (Array.getElem?_eq_some_iff.1 HO.out.res).1
      go_wp2_with fail
      refine bodyPost_ret (v := .agg #[.slice a3 n3 k3, .string X]) ?_ rfl ⟨_, _, rfl, hX, HF.out.fin.1, HF.out.fin.2⟩
      rw [results_cell (p := 2) (ty := 27) (by kernel_rfl)]
      have l2 := HF.out.load
      simp [asAddr, Result.andThen, l2]
end Go.Proofs.Ytbbjpjkclealfaa
namespace Go.Proofs.Ytbbjpjkclealfaa
open Go.ChangeShapes Go.WideShapes Go.ChangeAt Go.RowKit Go.BigFrame
set_option linter.unusedVariables false

theorem sjoined_any (va vb : Value) (A B : List K2) (w : World) (ha : keysAt w va A) (hb : keysAt w vb B) (hsA : A.length ≤ 2000000) (hsB : B.length ≤ 2000000) :
    Calls Try.prog 71 #[va, vb] w fun e w' => ∃ v, e = .returned v ∧ w'.ownsRow w.heap.size 41 2 v (mergeV true A B).length (keyCells (mergeV true A B)) ∧ Below w.heap.size w w' := by
  have H := Lib.hid (smerge_any va vb A B true w ha hb hsA hsB)
  go_enter Try.func71, Try.ntmps71
  go_wp2_with fail
  refine H.out.mono ?_
  rintro e w1 ⟨v, rfl, ho, hB⟩
  go_wp2
  go_ret
  exact ⟨v, rfl, ho, hB⟩
end Go.Proofs.Ytbbjpjkclealfaa
namespace Go.Proofs.Ytbbjpjkclealfaa
open Go.ChangeShapes Go.WideShapes Go.ChangeAt Go.RowKit
set_option linter.unusedVariables false

def kBd (k : K2) : Prop := -5 ≤ k.1 ∧ k.1 ≤ 100 ∧ -5 ≤ k.2 ∧ k.2 ≤ 100
theorem mergeL_mem (both : Bool) (P : K2 → Prop) : ∀ (a b : List K2), (∀ k ∈ a, P k) → (∀ k ∈ b, P k) → ∀ k ∈ mergeL both a b, P k
  | a, [], ha, _ => by rw [mergeL_nil_r]; exact ha
  | [], b, _, hb => by rw [mergeL_nil_l]; exact hb
  | x :: a, y :: b, ha, hb => by
    have hx := ha x (by simp)
    have hy := hb y (by simp)
    have ha2 : ∀ k ∈ a, P k := fun k hk => ha k (by simp [hk])
    have hb2 : ∀ k ∈ b, P k := fun k hk => hb k (by simp [hk])
    intro k hk
    rw [mergeL_cons] at hk
    split at hk
    · rcases List.mem_cons.1 hk with rfl | h
      · exact hx
      · exact mergeL_mem both P a (y :: b) ha2 hb k h
    · split at hk
      · rcases List.mem_cons.1 hk with rfl | h
        · exact hy
        · exact mergeL_mem both P (x :: a) b ha hb2 k h
      · rcases List.mem_append.1 hk with h | h
        · cases both with
          | true => rw [if_pos rfl] at h; rcases List.mem_singleton.1 h with rfl; exact hx
          | false => simp at h
        · exact mergeL_mem both P a b ha2 hb2 k h
termination_by a b => a.length + b.length
theorem mergeV_len (both : Bool) (a b : List K2) : (mergeV both a b).length ≤ a.length + b.length := by
  unfold mergeV
  split
  · exact mergeL_len both a b
  · simp
theorem mergeV_mem (both : Bool) (P : K2 → Prop) (a b : List K2) (ha : ∀ k ∈ a, P k) (hb : ∀ k ∈ b, P k) : ∀ k ∈ mergeV both a b, P k := by
  unfold mergeV
  split
  · exact mergeL_mem both P a b ha hb
  · simp
theorem keysAt_lit (w : World) (p q : Int) : keysAt (w.alloc (.cells #[.int .i64 p, .int .i64 q] 41)) (.slice (some ⟨w.heap.size, 0, none⟩) 1 1) [(p, q)] := by
  refine ⟨_, 1, rfl, Nat.le_refl _, .inr ⟨w.heap.size, 0, rfl, by simp, fun i hi => ?_⟩⟩
  obtain rfl : i = 0 := by simpa using hi
  simp

def kDr (k : K2) : Prop := 1 ≤ k.1 ∧ k.1 ≤ 5 ∧ 1 ≤ k.2 ∧ k.2 ≤ 2
set_option maxRecDepth 100000 in
set_option maxHeartbeats 1000000 in
theorem keysN_any (m n₀ g len cap : Nat) (a : Option Addr) (zs : List Int) (c : Cu) (w : World) (hs : DrawSt n₀ w g a len cap zs c.i c.h) (hm5 : m ≤ 5) :
    Calls Try.prog 106 #[.pointer (some ⟨g, 0, none⟩), .int .i64 (m : Int)] w fun e w' => ∃ (v : Value) (ks : List K2) (c' : Cu), e = .returned v ∧ ks.length ≤ m ∧ (∀ k ∈ ks, kDr k) ∧
      w'.ownsRow w.heap.size 41 2 v ks.length (keyCells ks) ∧ Drew n₀ g a len cap zs c' w w' := by
  have hd0 : Drew n₀ g a len cap zs c w w := ⟨hs, Below.refl _ _, World.grownBy.refl _ _⟩
  have hgl := hs.lt
  have hown0 := World.ownsRow_made (base := w.heap.size) (e := 41) (size := 2) w #[] 0 (Nat.le_refl _) (by unfold maxLen; omega) rfl
  have ew : IntKind.i64.wrap ((m : Int) + 1) = (m : Int) + 1 := IntWalk.i64_in _ (by omega)
  go_enter Try.func106, Try.ntmps106
  go_wp2_with fail
  have hd1 := hd0.alloc (.cells #[] 41)
  generalize w.alloc (.cells #[] 41) = W at *
  refine (below_any n₀ g len cap a zs c ((m : Int) + 1) _ hd1.st (by omega)).mono ?_
  rintro e w1 ⟨rfl, hd⟩
  have hbd := belowF_bd zs len c ((m : Int) + 1)
  generalize belowF zs len c ((m : Int) + 1) = b at *
  obtain ⟨x, c1⟩ := b
  dsimp only at *
  obtain ⟨n, rfl⟩ : ∃ n : Nat, x = n := ⟨x.toNat, by omega⟩
  have hD1 := hd1.trans hd
  have hown1 := hown0.kept hd.grown (.inr fun e => by have := (hown0.lt g e).1; omega)
  have hn5 : n ≤ m := by omega
  clear hd hd1 hd0 hown0 hs hbd
  go_wp2
  go_loopw [5, 7] (fun v i wr => ∃ (k : Nat) (ks : List K2) (c' : Cu), k ≤ n ∧ i = .int .i64 k ∧ ks.length ≤ k ∧ (∀ k ∈ ks, kDr k) ∧ wr.ownsRow w.heap.size 41 2 v ks.length (keyCells ks) ∧ Drew n₀ g a len cap zs c' w wr) (fun _ i _ => n - (intOf i).toNat)
  case atStart => exact ⟨0, [], c1, Nat.zero_le _, rfl, by simp, by simp, hown1, hD1⟩
  case round =>
    obtain ⟨k, ks, c2, hk, rfl, hkl, hkb, hown, hD⟩ := hrel
    clear hown1 hD1
    by_cases hlt : k < n
    · have z1 : (k : Int) < (n : Int) := by omega
      have hgw := hD.st.lt
      have hwz : w.heap.size ≤ wr.heap.size := hD.grown.size
      go_wp2_with fail
      refine (key_any n₀ g len cap a zs c2 wr hD.st).mono ?_
      rintro e w2 ⟨⟨p, q⟩, c3, rfl, hpq, hd2⟩
      dsimp only at hpq
      have hD2 := hD.trans hd2
      have hown2 := hown.kept hd2.grown (.inr fun e => by have := (hown.lt g e).1; omega)
      have hwz2 : w.heap.size ≤ w2.heap.size := hD2.grown.size
      clear hown hD hd2
      unfold kv
      dsimp only
      go_wp2_with fail
      have hka := keysAt_own (hown2.alloc (.cells #[.int .i64 p, .int .i64 q] 41))
      have hkb2 := keysAt_lit w2 p q
      refine (sjoined_any _ _ ks [(p, q)] _ hka hkb2 (by omega) (by simp)).mono ?_
      rintro e w3 ⟨v3, rfl, ho3, hb3⟩
      have hD3 := (hD2.alloc (.cells #[.int .i64 p, .int .i64 q] 41)).grow hgl (grown_of_below' hb3 none) (fun b e => by cases e)
      have hml := mergeV_len true ks [(p, q)]
      have hmm := mergeV_mem true kDr ks [(p, q)] hkb (by intro z hz; rcases List.mem_singleton.1 hz with rfl; exact hpq)
      have ho4 := own_base (base := w.heap.size) ho3 (by simp; omega)
      generalize mergeV true ks [(p, q)] = ms at *
      have hml2 : ms.length ≤ k + 1 := by simp at hml; omega
      have R := Lib.hid (And.intro hmm (And.intro ho4 hD3))
      clear hmm ho4 hD3 ho3 hb3 hka hkb2 hown2 hD2 hkb
      go_wp2
      exact ⟨⟨k + 1, ms, c3, by omega, by go_num, hml2, R.out.1, R.out.2.1, R.out.2.2⟩, by simp [intOf]; omega⟩
    · obtain rfl : k = n := by omega
      go_wp2
      go_ret
      exact ⟨_, ks, c2, rfl, by omega, hkb, hown, hD⟩
theorem keys_any (n₀ g len cap : Nat) (a : Option Addr) (zs : List Int) (c : Cu) (w : World) (hs : DrawSt n₀ w g a len cap zs c.i c.h) :
    Calls Try.prog 106 #[.pointer (some ⟨g, 0, none⟩), .int .i64 5] w fun e w' => ∃ (v : Value) (ks : List K2) (c' : Cu), e = .returned v ∧ ks.length ≤ 5 ∧ (∀ k ∈ ks, kBd k) ∧
      w'.ownsRow w.heap.size 41 2 v ks.length (keyCells ks) ∧ Drew n₀ g a len cap zs c' w w' := by
  refine (keysN_any 5 n₀ g len cap a zs c w hs (Nat.le_refl _)).mono ?_
  rintro e w1 ⟨v, ks, c1, rfl, hl, hb, ho, hd⟩
  exact ⟨v, ks, c1, rfl, hl, fun k hk => by have h := hb k hk; unfold kDr at h; unfold kBd; omega, ho, hd⟩
set_option maxRecDepth 100000 in
set_option maxHeartbeats 1000000 in
theorem anykeys_any (n₀ g len cap : Nat) (a : Option Addr) (zs : List Int) (c : Cu) (w : World) (hs : DrawSt n₀ w g a len cap zs c.i c.h) :
    Calls Try.prog 86 #[.pointer (some ⟨g, 0, none⟩)] w fun e w' => ∃ (v : Value) (ks : List K2) (c' : Cu), e = .returned v ∧ ks.length ≤ 6 ∧ (∀ k ∈ ks, kBd k) ∧
      w'.ownsRow w.heap.size 41 2 v ks.length (keyCells ks) ∧ Drew n₀ g a len cap zs c' w w' := by
  have hgl := hs.lt
  obtain ⟨i0, hi, hz0, hz1, hz2⟩ := info_parts infoK
  go_enter Try.func86, Try.ntmps86
  go_wp2_with fail
  refine (keys_any n₀ g len cap a zs c w hs).mono ?_
  rintro e w1 ⟨v, ks, c1, rfl, hkl, hkb, hown, hD⟩
  clear hs
  go_wp2_with fail
  refine (below_any n₀ g len cap a zs c1 10 w1 hD.st (by omega)).mono ?_
  rintro e w2 ⟨rfl, hd2⟩
  have hbd := belowF_bd zs len c1 10
  generalize belowF zs len c1 10 = b at *
  obtain ⟨x, c2⟩ := b
  dsimp only at *
  have hD2 := hD.trans hd2
  have hown2 := hown.kept hd2.grown (.inr fun e => by have := (hown.lt g e).1; omega)
  clear hown hD hd2
  rcases (by omega : x = 0 ∨ x = 1 ∨ (¬ x = 0 ∧ ¬ x = 1)) with rfl | rfl | ⟨hx0, hx1⟩
  ·
    go_wp2_with fail
    refine (odd_any n₀ g len cap a zs c2 w2 hD2.st).mono ?_
    rintro e w3 ⟨⟨p, q⟩, c3, rfl, hpq, hd3⟩
    dsimp only at hpq
    have hD3 := hD2.trans hd3
    have hown3 := hown2.kept hd3.grown (.inr fun e => by have := (hown2.lt g e).1; omega)
    have hwz3 : w.heap.size ≤ w3.heap.size := hD3.grown.size
    clear hown2 hD2 hd3
    unfold kv
    dsimp only
    go_wp2_with (at_builtin; refine wpList_append_own _ rfl (.tmp 10) (.tmp 13) 25 rfl w.heap.size 41 i0 (.agg #[.int .i64 0, .int .i64 0]) 2 16 Try.underlying25 hi hz0 hz1 hz2 rfl (by decide) _ _ _ rfl (hown3.alloc _) ⟨w3.heap.size, 0, none⟩ 1 1 [.int .i64 p, .int .i64 q] rfl rfl (cell_two_new _ _ _ _) (by intro u hu; simp at hu; rcases hu with rfl | rfl <;> rfl) (by unfold maxLen; omega) (by omega) (by simp; omega) ?_; intro v' w5 hown' hgrow _)
    have hkb2 : ∀ z ∈ ks ++ [(p, q)], kBd z := by
      intro z hz
      rcases List.mem_append.1 hz with h | h
      · exact hkb z h
      · rcases List.mem_singleton.1 h with rfl
        unfold kBd; dsimp only; omega
    have R : w5.ownsRow w.heap.size 41 2 v' (ks ++ [(p, q)]).length (keyCells (ks ++ [(p, q)])) ∧ Drew n₀ g a len cap zs c3 w w5 := by
      refine ⟨by rw [keyCells_snoc]; simpa using hown', (hD3.alloc _).grow hgl hgrow (fun b e => (hown3.lt b e).1)⟩
    have HR := Lib.hid R
    clear R hown' hgrow hown3 hD3
    go_wp2
    go_ret
    exact ⟨_, ks ++ [(p, q)], c3, rfl, by simp; omega, hkb2, HR.out.1, HR.out.2⟩
  ·
    go_wp2_with fail
    refine (key_any n₀ g len cap a zs c2 w2 hD2.st).mono ?_
    rintro e w3 ⟨⟨p, q⟩, c3, rfl, hpq, hd3⟩
    dsimp only at hpq
    have hD3 := hD2.trans hd3
    have hown3 := hown2.kept hd3.grown (.inr fun e => by have := (hown2.lt g e).1; omega)
    have hwz3 : w.heap.size ≤ w3.heap.size := hD3.grown.size
    clear hown2 hD2 hd3
    unfold kv
    dsimp only
    go_wp2_with (at_builtin; refine wpList_append_own _ rfl (.tmp 17) (.tmp 20) 25 rfl w.heap.size 41 i0 (.agg #[.int .i64 0, .int .i64 0]) 2 16 Try.underlying25 hi hz0 hz1 hz2 rfl (by decide) _ _ _ rfl (hown3.alloc _) ⟨w3.heap.size, 0, none⟩ 1 1 [.int .i64 p, .int .i64 q] rfl rfl (cell_two_new _ _ _ _) (by intro u hu; simp at hu; rcases hu with rfl | rfl <;> rfl) (by unfold maxLen; omega) (by omega) (by simp; omega) ?_; intro v' w5 hown' hgrow _)
    have hkb2 : ∀ z ∈ ks ++ [(p, q)], kBd z := by
      intro z hz
      rcases List.mem_append.1 hz with h | h
      · exact hkb z h
      · rcases List.mem_singleton.1 h with rfl
        unfold kBd; dsimp only; omega
    have R : w5.ownsRow w.heap.size 41 2 v' (ks ++ [(p, q)]).length (keyCells (ks ++ [(p, q)])) ∧ Drew n₀ g a len cap zs c3 w w5 := by
      refine ⟨by rw [keyCells_snoc]; simpa using hown', (hD3.alloc _).grow hgl hgrow (fun b e => (hown3.lt b e).1)⟩
    have HR := Lib.hid R
    clear R hown' hgrow hown3 hD3
    go_wp2
    go_ret
    exact ⟨_, ks ++ [(p, q)], c3, rfl, by simp; omega, hkb2, HR.out.1, HR.out.2⟩
  · have e0 : (x == 0) = false := beq_eq_false_iff_ne.2 hx0
    have e1 : (x == 1) = false := beq_eq_false_iff_ne.2 hx1
    go_wp2
    go_ret
    exact ⟨_, ks, c2, rfl, by omega, hkb, hown2, hD2⟩
end Go.Proofs.Ytbbjpjkclealfaa
namespace Go.Proofs.Ytbbjpjkclealfaa
open Go.ChangeShapes Go.WideShapes Go.ChangeAt Go.RowKit Go.BigFrame
set_option linter.unusedVariables false

/-- keys drawn, the result's place beside them -/
structure CdL (w W : World) (n₀ g len cap : Nat) (a : Option Addr) (zs : List Int) (c : Cu) (v : Value) (ks : List K2) : Prop where
  own : W.ownsRow (w.heap.size + 1) 41 2 v ks.length (keyCells ks)
  drew : Drew n₀ g a len cap zs c w W
  res : W.heap[w.heap.size]? = some (.cells #[.slice none 0 0, .string ⟨#[]⟩] 27)
  bd : ∀ k ∈ ks, kDr k
  few : ks.length ≤ 4
set_option maxRecDepth 100000 in
set_option maxHeartbeats 1000000 in
theorem l05code_any (n₀ g len cap : Nat) (a : Option Addr) (zs : List Int) (c : Cu) (w : World) (hs : DrawSt n₀ w g a len cap zs c.i c.h) :
    Calls Try.prog 82 #[.pointer (some ⟨g, 0, none⟩)] w fun e w' => ∃ (v : Value) (ks : List K2) (y : ByteArray) (c' : Cu), e = .returned (.agg #[v, .string y]) ∧ 1 ≤ ks.length ∧ ks.length ≤ 4 ∧ (∀ k ∈ ks, kDr k) ∧ y.size = 4 ∧
      w'.ownsRow w.heap.size 41 2 v ks.length (keyCells ks) ∧ Drew n₀ g a len cap zs c' w w' := by
  have hd0 : Drew n₀ g a len cap zs c w w := ⟨hs, Below.refl _ _, World.grownBy.refl _ _⟩
  have hgl := hs.lt
  have hd1 := hd0.alloc (.cells #[.slice none 0 0, .string ⟨#[]⟩] 27)
  have hr1 := heap_alloc_new w (.cells #[.slice none 0 0, .string ⟨#[]⟩] 27)
  have hz1 : (w.alloc (.cells #[.slice none 0 0, .string ⟨#[]⟩] 27)).heap.size = w.heap.size + 1 := by simp
  have HD1 := Lib.hid hd1; have HR1 := Lib.hid hr1; have HZ1 := Lib.hid hz1
  clear hd0 hd1 hr1 hz1 hs
  go_enter Try.func82, Try.ntmps82
  go_wp2_with fail
  generalize w.alloc (.cells #[.slice none 0 0, .string ⟨#[]⟩] 27) = W at *
  refine (keysN_any 4 n₀ g len cap a zs c W HD1.out.st (by omega)).mono ?_
  rintro e w1 ⟨v1, ks1, c1, rfl, hl1, hb1, ho1, hd2⟩
  rw [HZ1.out] at ho1
  obtain ⟨a1, n1, k1, rfl⟩ := own_shape ho1
  have HL := Lib.hid (CdL.mk (w := w) ho1 (HD1.out.trans hd2) ((hd2.grown.block _ (Array.getElem?_eq_some_iff.1 HR1.out).1 (fun e => by cases e; omega)).trans HR1.out) hb1 hl1)
  clear ho1 hd2 hb1 hl1 HD1 HR1 HZ1
  go_wp2_with fail
  go_loopw [3] (fun x wr => ∃ (aa : Option Addr) (cc : Nat) (ks : List K2) (c' : Cu), x = .slice aa ks.length cc ∧ CdL w wr n₀ g len cap a zs c' (.slice aa ks.length cc) ks) (fun x _ => match x with | .slice _ n _ => if n = 0 then 1 else 0 | _ => 0)
  case atStart =>
    have hn : n1 = ks1.length := by
      rcases HL.out.own.2 with ⟨h, h0⟩ | ⟨g', cap', cur, h, _⟩
      · cases h; exact h0.symm
      · cases h; rfl
    subst hn
    exact ⟨a1, k1, ks1, c1, rfl, HL.out⟩
  case round =>
    clear HL
    obtain ⟨aa, cc, ks, c2, rfl, hC⟩ := hrel
    have HC := Lib.hid hC
    clear hC
    by_cases h0 : ks.length = 0
    · have i0 : (ks.length : Int) = 0 := by omega
      rename_i wr
      go_wp2_with fail
      refine (key_any n₀ g len cap a zs c2 wr HC.out.drew.st).mono ?_
      rintro e w3 ⟨⟨p, q⟩, c3, rfl, hpq, hd3⟩
      dsimp only at hpq
      have hD3 := HC.out.drew.trans hd3
      have hR3 := (hd3.grown.block _ (Array.getElem?_eq_some_iff.1 HC.out.res).1 (fun e => by cases e; omega)).trans HC.out.res
      have hlr := (Array.getElem?_eq_some_iff.1 hR3).1
      have HN := Lib.hid (CdL.mk (w := w) (own_one (w := w3) (base := w.heap.size + 1) p q (by omega)) (hD3.alloc _) ((Below.heap_alloc w3 _ _ hlr).trans hR3) (fun k hk => by rcases List.mem_singleton.1 hk with rfl; exact hpq) (by simp))
      clear hd3 hD3 hR3 HC hlr
      unfold kv
      dsimp only
      go_wp2
      exact ⟨⟨_, 1, [(p, q)], c3, rfl, HN.out⟩, by simp [h0]⟩
    · have i0 : ¬ (ks.length : Int) = 0 := by omega
      rename_i wr
      go_wp2_with fail
      refine (l05of_any _ ks wr (keysAt_own HC.out.own) (by have := HC.out.few; omega) (fun k hk => by have := HC.out.bd k hk; unfold kDr at this; omega)).mono ?_
      rintro e w4 ⟨v4, y4, rfl, hy4, ho4, hb4⟩
      obtain ⟨a4, n4, k4, rfl⟩ := own_shape ho4
      have hR4 := (hb4.block _ (Array.getElem?_eq_some_iff.1 HC.out.res).1).trans HC.out.res
      have hlr := (Array.getElem?_eq_some_iff.1 HC.out.res).1
      have hD4 := HC.out.drew.grow hgl (grown_of_below' hb4 none) (fun b e => by cases e)
      obtain ⟨c0, c1, f0, f1⟩ := row2_of hR4
      have hlr4 := (Array.getElem?_eq_some_iff.1 hR4).1
      have L2 := Lib.hid (cd_res hR4 (.slice a4 n4 k4) y4)
      have HF := Lib.hid (And.intro (own_base (own_set2 ho4 hlr (.slice a4 n4 k4) (.string y4)) (by omega : w.heap.size ≤ wr.heap.size)) (hD4.grow hgl (grown2 w4 w.heap.size (.slice a4 n4 k4) (.string y4)) (fun b e => by cases e; exact Nat.le_refl _)))
      have HW := Lib.hid (And.intro HC.out.few HC.out.bd)
      clear ho4 hb4 hR4 hD4 HC hlr
      go_wp2_with fail
      refine bodyPost_ret (v := .agg #[.slice a4 n4 k4, .string y4]) ?_ rfl ⟨_, ks, y4, c2, rfl, by omega, HW.out.1, HW.out.2, hy4, HF.out.1, HF.out.2⟩
      rw [results_cell (p := 2) (ty := 27) (by kernel_rfl)]
      have l2 := L2.out
      simp [asAddr, Result.andThen, l2]
end Go.Proofs.Ytbbjpjkclealfaa
namespace Go.Proofs.Ytbbjpjkclealfaa
open Go.ChangeShapes Go.WideShapes Go.ChangeAt Go.RowKit Go.BigFrame
set_option linter.unusedVariables false

def pick5 : List ByteArray := [⟨#[]⟩, ⟨#[97, 98, 99]⟩, ⟨#[97, 98, 99, 100]⟩, ⟨#[97, 98, 99, 100, 101]⟩, ⟨#[0, 0, 0, 0]⟩]
theorem pick5_size (i : Nat) : (pick5[i]?.getD ByteArray.empty).size ≤ 5 := by
  unfold pick5
  rcases (by omega : i = 0 ∨ i = 1 ∨ i = 2 ∨ i = 3 ∨ i = 4 ∨ 5 ≤ i) with rfl | rfl | rfl | rfl | rfl | h
  · decide
  · decide
  · decide
  · decide
  · decide
  · rw [List.getElem?_eq_none (by simpa using h)]; decide
/-- the word in its box, the result's box -/
structure O5 (n₀ g : Nat) (a : Option Addr) (len cap : Nat) (zs : List Int) (c1 : Cu) (w W : World) (b3 : Nat) (v : Value) (ks : List K2) (y : ByteArray) : Prop where
  drew : Drew n₀ g a len cap zs c1 w W
  row : W.heap[b3]? = some (.cells #[v, .string y] 27)
  res : W.heap[w.heap.size]? = some (.cells #[.slice none 0 0, .string ⟨#[]⟩] 27)
  own : W.ownsRow w.heap.size 41 2 v ks.length (keyCells ks)
  ne : v.ownBlock ≠ some b3
  ner : v.ownBlock ≠ some w.heap.size
  lt : w.heap.size < b3
theorem O5.next {n₀ g : Nat} {a : Option Addr} {len cap : Nat} {zs : List Int} {c1 c2 : Cu} {w W W' : World} {b3 : Nat} {v : Value} {ks : List K2} {y : ByteArray} (h : O5 n₀ g a len cap zs c1 w W b3 v ks y) (hgl : g < w.heap.size) (hd : Drew n₀ g a len cap zs c2 W W') : O5 n₀ g a len cap zs c2 w W' b3 v ks y :=
  ⟨h.drew.trans hd, hd.keeps h.row (by have := h.lt; omega), hd.keeps h.res (by omega), h.own.kept hd.grown (.inr fun e => by have := (h.own.lt _ e).1; omega), h.ne, h.ner, h.lt⟩
theorem O5.alloc {n₀ g : Nat} {a : Option Addr} {len cap : Nat} {zs : List Int} {c1 : Cu} {w W : World} {b3 : Nat} {v : Value} {ks : List K2} {y : ByteArray} (h : O5 n₀ g a len cap zs c1 w W b3 v ks y) (o : Obj) : O5 n₀ g a len cap zs c1 w (W.alloc o) b3 v ks y :=
  ⟨h.drew.alloc o, (Below.heap_alloc _ _ _ (Array.getElem?_eq_some_iff.1 h.row).1).trans h.row, (Below.heap_alloc _ _ _ (Array.getElem?_eq_some_iff.1 h.res).1).trans h.res, h.own.alloc o, h.ne, h.ner, h.lt⟩
/-- a step that makes memory alone, or writes into a block of its own -/
theorem O5.grow {n₀ g : Nat} {a : Option Addr} {len cap : Nat} {zs : List Int} {c1 : Cu} {w W W' : World} {b3 : Nat} {v : Value} {ks : List K2} {y : ByteArray} {row : Option Nat} (h : O5 n₀ g a len cap zs c1 w W b3 v ks y) (hgl : g < w.heap.size) (hg : W.grownBy W' row)
    (hr : ∀ b, row = some b → b3 < b ∧ v.ownBlock ≠ some b) : O5 n₀ g a len cap zs c1 w W' b3 v ks y := by
  have hl := h.lt
  refine ⟨h.drew.grow hgl hg (fun b e => by have := (hr b e).1; omega), (hg.block _ (Array.getElem?_eq_some_iff.1 h.row).1 (fun e => by have := (hr b3 e.symm).1; omega)).trans h.row, (hg.block _ (Array.getElem?_eq_some_iff.1 h.res).1 (fun e => by have := (hr _ e.symm).1; omega)).trans h.res, h.own.kept hg ?_, h.ne, h.ner, hl⟩
  cases hrow : row with
  | none =>
    cases hv : v.ownBlock with
    | none => exact .inl rfl
    | some b => exact .inr (by simp)
  | some b => exact .inr (hr b hrow).2
theorem O5.both {n₀ g : Nat} {a : Option Addr} {len cap : Nat} {zs : List Int} {c1 : Cu} {w W : World} {b3 : Nat} {v : Value} {ks : List K2} {y : ByteArray} (h : O5 n₀ g a len cap zs c1 w W b3 v ks y) (hgl : g < w.heap.size) {v' : Value} {ks' : List K2}
    (ho : W.ownsRow w.heap.size 41 2 v' ks'.length (keyCells ks')) (hne : v'.ownBlock ≠ some b3) (hner : v'.ownBlock ≠ some w.heap.size) (y' : ByteArray) : O5 n₀ g a len cap zs c1 w ((W.setCell ⟨b3, 0, none⟩ v').setCell ⟨b3, 1, none⟩ (.string y')) b3 v' ks' y' := by
  have hl := h.lt
  exact ⟨h.drew.grow hgl (grown2 W b3 _ _) (fun j e => by cases e; omega), set2 _ _ h.row, row_set2 h.res (by omega) _ _, ho.kept (grown2 W b3 _ _) (.inr hne), hne, hner, hl⟩
theorem O5.keys {n₀ g : Nat} {a : Option Addr} {len cap : Nat} {zs : List Int} {c1 : Cu} {w W : World} {b3 : Nat} {v : Value} {ks : List K2} {y : ByteArray} (h : O5 n₀ g a len cap zs c1 w W b3 v ks y) (hgl : g < w.heap.size) {v' : Value} {ks' : List K2}
    (ho : W.ownsRow w.heap.size 41 2 v' ks'.length (keyCells ks')) (hne : v'.ownBlock ≠ some b3) (hner : v'.ownBlock ≠ some w.heap.size) : O5 n₀ g a len cap zs c1 w (W.setCell ⟨b3, 0, none⟩ v') b3 v' ks' y := by
  have hl := h.lt
  refine ⟨h.drew.grow hgl (Lib.grownBy_setCell W b3 0 _) (fun j e => by cases e; omega), set_cellsD _ h.row, ?_, ho.kept (Lib.grownBy_setCell W b3 0 _) (.inr hne), hne, hner, hl⟩
  rw [Below.heap_setCell _ _ _ _ (by simp; omega)]; exact h.res
theorem O5.txt {n₀ g : Nat} {a : Option Addr} {len cap : Nat} {zs : List Int} {c1 : Cu} {w W : World} {b3 : Nat} {v : Value} {ks : List K2} {y : ByteArray} (h : O5 n₀ g a len cap zs c1 w W b3 v ks y) (hgl : g < w.heap.size) (y' : ByteArray) : O5 n₀ g a len cap zs c1 w (W.setCell ⟨b3, 1, none⟩ (.string y')) b3 v ks y' := by
  have hl := h.lt
  refine ⟨h.drew.grow hgl (Lib.grownBy_setCell W b3 1 _) (fun j e => by cases e; omega), set_cellsD _ h.row, ?_, h.own.kept (Lib.grownBy_setCell W b3 1 _) (.inr h.ne), h.ne, h.ner, hl⟩
  rw [Below.heap_setCell _ _ _ _ (by simp; omega)]; exact h.res
structure O5End (n₀ g : Nat) (a : Option Addr) (len cap : Nat) (zs : List Int) (c1 : Cu) (w W : World) (b3 : Nat) (v : Value) (ks : List K2) (y : ByteArray) : Prop where
  rx : Row2 W b3 v (.string y)
  ry : Row2 W w.heap.size (.slice none 0 0) (.string ⟨#[]⟩)
  lt : w.heap.size < W.heap.size
  fin : Drew n₀ g a len cap zs c1 w ((W.setCell ⟨w.heap.size, 0, none⟩ v).setCell ⟨w.heap.size, 1, none⟩ (.string y))
  own : ((W.setCell ⟨w.heap.size, 0, none⟩ v).setCell ⟨w.heap.size, 1, none⟩ (.string y)).ownsRow w.heap.size 41 2 v ks.length (keyCells ks)
  load : (loadVar 27 ⟨w.heap.size, 0, none⟩).run Try.prog ((W.setCell ⟨w.heap.size, 0, none⟩ v).setCell ⟨w.heap.size, 1, none⟩ (.string y)) = .ok (.agg #[v, .string y]) ((W.setCell ⟨w.heap.size, 0, none⟩ v).setCell ⟨w.heap.size, 1, none⟩ (.string y))
theorem O5.end {n₀ g : Nat} {a : Option Addr} {len cap : Nat} {zs : List Int} {c1 : Cu} {w W : World} {b3 : Nat} {v : Value} {ks : List K2} {y : ByteArray} (h : O5 n₀ g a len cap zs c1 w W b3 v ks y) (hgl : g < w.heap.size) : O5End n₀ g a len cap zs c1 w W b3 v ks y :=
  ⟨row2_of h.row, row2_of h.res, (Array.getElem?_eq_some_iff.1 h.res).1, h.drew.grow hgl (grown2 W _ _ _) (fun j e => by cases e; exact Nat.le_refl _), h.own.kept (grown2 W _ _ _) (.inr h.ner), cd_res h.res v y⟩
def seqK (n : Nat) : List K2 := (List.range n).map fun i : Nat => ((1 + (i : Int), 1) : K2)
theorem seqK_len (n : Nat) : (seqK n).length = n := by simp [seqK]
theorem seqK_succ (n : Nat) : seqK (n + 1) = seqK n ++ [(1 + (n : Int), 1)] := by simp [seqK, List.range_succ]
theorem seqK_mem {n : Nat} {k : K2} (h : k ∈ seqK n) : 1 ≤ k.1 ∧ k.1 ≤ (n : Int) ∧ k.2 = 1 := by
  simp only [seqK, List.mem_map, List.mem_range] at h
  obtain ⟨i, hi, rfl⟩ := h
  dsimp only; omega
theorem kDr_bd {k : K2} (h : kDr k) : kBd k := by unfold kDr at h; unfold kBd; omega
theorem own_ne_at {w w' : World} {e : TypeId} {size n b : Nat} {v : Value} {xs : List Value} (h : w'.ownsRow w.heap.size e size v n xs) (hb : b < w.heap.size) : v.ownBlock ≠ some b :=
  fun e => absurd (h.lt _ e).1 (Nat.not_le.2 hb)
set_option maxRecDepth 100000 in
set_option maxHeartbeats 4000000 in
theorem l05odd_any (n₀ g len cap : Nat) (a : Option Addr) (zs : List Int) (c : Cu) (w : World) (hs : DrawSt n₀ w g a len cap zs c.i c.h) :
    Calls Try.prog 44 #[.pointer (some ⟨g, 0, none⟩)] w fun e w' => ∃ (v : Value) (ks : List K2) (y : ByteArray) (c' : Cu), e = .returned (.agg #[v, .string y]) ∧ ks.length ≤ 7 ∧ (∀ k ∈ ks, kBd k) ∧ y.size ≤ 5 ∧
      w'.ownsRow w.heap.size 41 2 v ks.length (keyCells ks) ∧ Drew n₀ g a len cap zs c' w w' := by
  have hd0 : Drew n₀ g a len cap zs c w w := ⟨hs, Below.refl _ _, World.grownBy.refl _ _⟩
  have hgl := hs.lt
  obtain ⟨i0, hi, hz0, hz1, hz2⟩ := info_parts infoK
  go_enter Try.func44, Try.ntmps44
  go_wp2_with fail
  have hd1 := hd0.alloc (.cells #[.slice none 0 0, .string ⟨#[]⟩] 27)
  refine (l05code_any n₀ g len cap a zs c _ hd1.st).mono ?_
  rintro e w1 ⟨v1, ks, y, c1, rfl, hk1, hk4, hkd, hy, ho, hd⟩
  obtain ⟨a1, m1, k1, rfl⟩ := own_shape ho
  have hres := hd.keeps (heap_alloc_new w (.cells #[.slice none 0 0, .string ⟨#[]⟩] 27)) (by omega)
  have hner : (Value.slice a1 m1 k1).ownBlock ≠ some w.heap.size := own_ne_at ho (by simp)
  have hnew : (Value.slice a1 m1 k1).ownBlock ≠ some w1.heap.size := fun e => absurd (ho.lt _ e).2 (Nat.lt_irrefl _)
  have H1 : Hid (O5 n₀ g a len cap zs c1 w (w1.alloc (.cells #[.slice a1 m1 k1, .string y] 27)) w1.heap.size (.slice a1 m1 k1) ks y) :=
    ⟨(hd1.trans hd).alloc _, heap_alloc_new w1 _, (Below.heap_alloc _ _ _ (Array.getElem?_eq_some_iff.1 hres).1).trans hres, own_base (ho.alloc _) (by simp), hnew, hner, (Array.getElem?_eq_some_iff.1 hres).1⟩
  have HK := Lib.hid (show ∀ k ∈ ks, kBd k from fun k hk => kDr_bd (hkd k hk))
  have HO1K := Lib.hid (fun b (e : (Value.slice a1 m1 k1).ownBlock = some b) => (ho.lt b e).2)
  clear hd1 hd hd0 hres hs ho hner hnew hkd
  go_wp2_with fail
  generalize w1.alloc (.cells #[.slice a1 m1 k1, .string y] 27) = W at *
  generalize w1.heap.size = b3 at *
  refine (below_any n₀ g len cap a zs c1 12 _ H1.out.drew.st (by omega)).mono ?_
  rintro e w2 ⟨rfl, hd2⟩
  have H2 := Lib.hid (H1.out.next hgl hd2)
  generalize (belowF zs len c1 12).2 = c2 at *
  generalize (belowF zs len c1 12).1 = x at *
  clear H1 hd2
  have hlt := H2.out.lt
  have hb3 := (Array.getElem?_eq_some_iff.1 H2.out.row).1
  rcases (by omega : x = 0 ∨ x = 1 ∨ x = 2 ∨ x = 3 ∨ (¬ x = 0 ∧ ¬ x = 1 ∧ ¬ x = 2 ∧ ¬ x = 3)) with rfl | rfl | rfl | rfl | ⟨x0, x1, x2, x3⟩
  · go_wp2_with fail
    refine (anykeys_any n₀ g len cap a zs c2 _ H2.out.drew.st).mono ?_
    rintro e w3 ⟨v3, ks3, c3, rfl, hl3, hb3', ho3, hd3⟩
    obtain ⟨a3, m3, k3, rfl⟩ := own_shape ho3
    have H3 := H2.out.next hgl hd3
    obtain ⟨x0, x1, f0, f1⟩ := row2_of H3.row
    have hlx := (Array.getElem?_eq_some_iff.1 H3.row).1
    have hw2 := H2.out.drew.grown.size
    have H4 := H3.keys hgl (own_base ho3 hw2) (own_ne_at ho3 hb3) (own_ne_at ho3 (by omega))
    have HE := Lib.hid (H4.end hgl)
    have HKB := Lib.hid hb3'
    clear hd3 H2 H3 H4 ho3 hb3'
    obtain ⟨⟨b0, b1, -, -⟩, ⟨e0, e1, g0, g1⟩, hlw, -, -, -⟩ := HE.out
    go_wp2_with fail
    refine bodyPost_ret (v := .agg #[.slice a3 m3 k3, .string y]) ?_ rfl ⟨_, ks3, y, c3, rfl, by omega, HKB.out, by omega, HE.out.own, HE.out.fin⟩
    rw [results_cell (p := 2) (ty := 27) (by kernel_rfl)]
    have hl := HE.out.load
    simp [asAddr, Result.andThen, hl]
  · have H3 := H2.out.alloc (.cells #[.string ⟨#[]⟩, .string ⟨#[97, 98, 99]⟩, .string ⟨#[97, 98, 99, 100]⟩, .string ⟨#[97, 98, 99, 100, 101]⟩, .string ⟨#[0, 0, 0, 0]⟩] 9)
    have hcells : ∀ k, k < 5 → (w2.alloc (.cells #[.string ⟨#[]⟩, .string ⟨#[97, 98, 99]⟩, .string ⟨#[97, 98, 99, 100]⟩, .string ⟨#[97, 98, 99, 100, 101]⟩, .string ⟨#[0, 0, 0, 0]⟩] 9)).cell? ⟨w2.heap.size, k, none⟩ = some (.string (pick5[k]?.getD ByteArray.empty)) := by
      intro k hk
      rw [lit_cell]
      rcases (by omega : k = 0 ∨ k = 1 ∨ k = 2 ∨ k = 3 ∨ k = 4) with rfl | rfl | rfl | rfl | rfl <;> rfl
    have HP := Lib.hid (pick_any n₀ g len cap w2.heap.size 5 a zs c2 pick5 _ H3.drew.st (by omega) (by omega) rfl (by omega) hcells)
    have H3 := Lib.hid H3
    clear hcells H2
    go_wp2_with fail
    refine HP.out.mono ?_
    rintro e w3 ⟨rfl, hd3⟩
    have H4 := Lib.hid (H3.out.next hgl hd3)
    clear HP H3 hd3
    have hps := pick5_size (belowF zs len c2 5).1.toNat
    have e5 : ((5 : Nat) : Int) = 5 := rfl
    try rw [e5] at *
    generalize pick5[(belowF zs len c2 5).1.toNat]?.getD ByteArray.empty = py at *
    generalize (belowF zs len c2 5).2 = c3 at *
    obtain ⟨x0, x1, f0, f1⟩ := row2_of H4.out.row
    have hlx := (Array.getElem?_eq_some_iff.1 H4.out.row).1
    have HE := Lib.hid ((H4.out.txt hgl py).end hgl)
    clear H4
    obtain ⟨⟨b0, b1, -, -⟩, ⟨e0, e1, g0, g1⟩, hlw, -, -, -⟩ := HE.out
    go_wp2_with fail
    refine bodyPost_ret (v := .agg #[.slice a1 m1 k1, .string py]) ?_ rfl ⟨_, ks, py, c3, rfl, by omega, HK.out, hps, HE.out.own, HE.out.fin⟩
    rw [results_cell (p := 2) (ty := 27) (by kernel_rfl)]
    have hl := HE.out.load
    simp [asAddr, Result.andThen, hl]
  · go_wp2_with fail
    refine (l05of_any (.slice none 0 0) [] w2 ⟨none, 0, rfl, by simp, .inl rfl⟩ (by simp) (by simp)).mono ?_
    rintro e w3 ⟨v3, y3, rfl, hy3, ho3, hb3'⟩
    have hw2 := H2.out.drew.grown.size
    obtain ⟨a3, m3, k3, rfl⟩ := own_shape ho3
    have H3 := H2.out.grow hgl (grown_of_below' hb3' none) (fun b e => by cases e)
    obtain ⟨x0, x1, f0, f1⟩ := row2_of H3.row
    have hlx := (Array.getElem?_eq_some_iff.1 H3.row).1
    have HE := Lib.hid ((H3.both hgl (own_base ho3 hw2) (own_ne_at ho3 (hb3)) (own_ne_at ho3 (by omega)) y3).end hgl)
    clear hb3' H2 H3 ho3
    obtain ⟨⟨b0, b1, -, -⟩, ⟨e0, e1, g0, g1⟩, hlw, -, -, -⟩ := HE.out
    go_wp2_with fail
    refine bodyPost_ret (v := .agg #[.slice a3 m3 k3, .string y3]) ?_ rfl ⟨_, [], y3, c2, rfl, by simp, by simp, by omega, HE.out.own, HE.out.fin⟩
    rw [results_cell (p := 2) (ty := 27) (by kernel_rfl)]
    have hl := HE.out.load
    simp [asAddr, Result.andThen, hl]
  · have H3 := H2.out.alloc (.cells #[] 41)
    have hw2 := H2.out.drew.grown.size
    have ho3 := own_base (World.ownsRow_made (base := w2.heap.size) (e := 41) (size := 2) w2 #[] 0 (Nat.le_refl _) (by unfold maxLen; omega) rfl) (Nat.le_refl _)
    have H3 := Lib.hid H3
    have HO3 := Lib.hid ho3
    have hz3 : w2.heap.size < (w2.alloc (.cells #[] 41)).heap.size := by simp
    clear H2 ho3
    go_wp2_with fail
    generalize hW3 : w2.alloc (.cells #[] 41) = W3 at *
    refine (below_any n₀ g len cap a zs c2 3 _ H3.out.drew.st (by omega)).mono ?_
    rintro e w3 ⟨rfl, hd3⟩
    have hbd := belowF_bd zs len c2 3
    have H4 := Lib.hid (H3.out.next hgl hd3)
    have HO4 := Lib.hid (HO3.out.kept hd3.grown (.inr fun e => by have := (HO3.out.lt _ e).1; omega))
    have hz4 := Nat.lt_of_lt_of_le hz3 hd3.grown.size
    generalize (belowF zs len c2 3).2 = c3 at *
    generalize (belowF zs len c2 3).1 = x at *
    obtain ⟨n, rfl⟩ : ∃ n : Nat, x = n := ⟨x.toNat, by omega⟩
    have hn3 : n < 3 := by omega
    have ewn : IntKind.i64.wrap (5 + (n : Int)) = 5 + (n : Int) := IntWalk.i64_in _ (by omega)
    clear H3 HO3 hd3 hbd
    go_wp2
    go_loopw [4, 6] (fun v4 i wr => ∃ k : Nat, k ≤ 5 + n ∧ i = .int .i64 k ∧ O5 n₀ g a len cap zs c3 w wr b3 (.slice a1 m1 k1) ks y ∧ wr.ownsRow w2.heap.size 41 2 v4 (seqK k).length (keyCells (seqK k)) ∧ w2.heap.size < wr.heap.size) (fun _ i _ => 5 + n - (intOf i).toNat)
    case atStart => exact ⟨0, Nat.zero_le _, rfl, H4.out, HO4.out, hz4⟩
    case round =>
      clear H4 HO4 hz4 hz3
      obtain ⟨k, hk, rfl, hO, hw, hzr⟩ := hrel
      rw [seqK_len] at hw
      by_cases hlk : k < 5 + n
      · have i1 : (k : Int) < 5 + (n : Int) := by omega
        have ew1 : IntKind.i64.wrap (1 + (k : Int)) = 1 + (k : Int) := IntWalk.i64_in _ (by omega)
        have HO := Lib.hid hO
        go_wp2_with (at_builtin; refine wpList_append_own _ rfl (.tmp 36) (.tmp 40) 25 rfl w2.heap.size 41 i0 (.agg #[.int .i64 0, .int .i64 0]) 2 16 Try.underlying25 hi hz0 hz1 hz2 rfl (by decide) _ _ _ rfl (hw.alloc _) ⟨wr.heap.size, 0, none⟩ 1 1 [.int .i64 (1 + (k : Int)), .int .i64 1] rfl rfl (cell_two_new _ _ _ _) (by intro u hu; simp at hu; rcases hu with rfl | rfl <;> rfl) (by unfold maxLen; omega) (by omega) (by simp; omega) ?_; intro v' w5 hown' hgrow _)
        have hv4 := fun b e => (hw.lt b e).1
        have H5 := Lib.hid ((HO.out.alloc (.cells #[.int .i64 (1 + (k : Int)), .int .i64 1] 41)).grow hgl hgrow (fun b e => ⟨by have := hv4 b e; omega, fun e2 => by have := hv4 b e; have := HO1K.out b e2; omega⟩))
        have HN := Lib.hid (show w5.ownsRow w2.heap.size 41 2 v' (seqK (k + 1)).length (keyCells (seqK (k + 1))) by rw [seqK_succ, keyCells_snoc]; simpa [seqK_len] using hown')
        have hz5 : w2.heap.size < w5.heap.size := by have := hgrow.size; simp at this; omega
        clear hown' hgrow hw HO hO hv4
        go_wp2
        exact ⟨⟨k + 1, by omega, by go_num, H5.out, HN.out, hz5⟩, by simp [intOf]; omega⟩
      · obtain rfl : k = 5 + n := by omega
        have i1 : ¬ ((5 + n : Nat) : Int) < 5 + (n : Int) := by omega
        have H2 := Lib.hid hO
        have hwr := hO.drew.grown.size
        have hbr := (Array.getElem?_eq_some_iff.1 hO.row).1
        clear hO
        go_wp2_with fail
        refine (l05of_any _ (seqK (5 + n)) wr (keysAt_own (by rw [seqK_len]; exact hw)) (by rw [seqK_len]; omega) (fun k hk => by have := seqK_mem hk; omega)).mono ?_
        rintro e w3 ⟨v3, y3, rfl, hy3, ho3, hb3'⟩
        obtain ⟨a3, m3, k3, rfl⟩ := own_shape ho3
        have H3 := H2.out.grow hgl (grown_of_below' hb3' none) (fun b e => by cases e)
        obtain ⟨x0, x1, f0, f1⟩ := row2_of H3.row
        have hlx := (Array.getElem?_eq_some_iff.1 H3.row).1
        have HE := Lib.hid ((H3.both hgl (own_base ho3 hwr) (own_ne_at ho3 (hbr)) (own_ne_at ho3 (by omega)) y3).end hgl)
        clear hb3' H2 H3 ho3
        obtain ⟨⟨b0, b1, -, -⟩, ⟨e0, e1, g0, g1⟩, hlw, -, -, -⟩ := HE.out
        go_wp2_with fail
        refine bodyPost_ret (v := .agg #[.slice a3 m3 k3, .string y3]) ?_ rfl ⟨_, seqK (5 + n), y3, c3, rfl, by rw [seqK_len]; omega, (fun k hk => by have := seqK_mem hk; unfold kBd; omega), by omega, HE.out.own, HE.out.fin⟩
        rw [results_cell (p := 2) (ty := 27) (by kernel_rfl)]
        have hl := HE.out.load
        simp [asAddr, Result.andThen, hl]
  · have j0 : (x == 0) = false := by simp [x0]
    have j1 : (x == 1) = false := by simp [x1]
    have j2 : (x == 2) = false := by simp [x2]
    have j3 : (x == 3) = false := by simp [x3]
    have HE := Lib.hid (H2.out.end hgl)
    clear H2
    obtain ⟨⟨b0, b1, -, -⟩, ⟨e0, e1, g0, g1⟩, hlw, -, -, -⟩ := HE.out
    go_wp2_with fail
    refine bodyPost_ret (v := .agg #[.slice a1 m1 k1, .string y]) ?_ rfl ⟨_, ks, y, c2, rfl, by omega, HK.out, by omega, HE.out.own, HE.out.fin⟩
    rw [results_cell (p := 2) (ty := 27) (by kernel_rfl)]
    have hl := HE.out.load
    simp [asAddr, Result.andThen, hl]
end Go.Proofs.Ytbbjpjkclealfaa
namespace Go.Proofs.Ytbbjpjkclealfaa
open Go.ChangeShapes Go.WideShapes Go.ChangeAt Go.RowKit Go.BigFrame
set_option linter.unusedVariables false

theorem run_append_cdN {w : World} {base : Nat} {v : Value} {us : List Value} {L : List C2} (hown : cdOwn w base v us L) (g0 : Nat) (ps : List Value) (zs : List C2) (ty : TypeId) (hps : ps.length = zs.length)
    (hu : ∀ j q, (cdCells ps zs)[j]? = some q → w.cell? ⟨g0, j, none⟩ = some q) (hus : ∀ q ∈ ps, ∃ a n c, q = .slice a n c) (hk : ∀ i, i < zs.length → keysAv w v.ownBlock (ps.getD i undef) (zs.getD i blankC).1)
    (hn : L.length + zs.length ≤ 1000000) (h0 : 0 < zs.length) (hbase : base ≤ w.heap.size) :
    ∃ v' w', (Builtin.append_ #[24, 24] ty #[v, .slice (some ⟨g0, 0, none⟩) zs.length zs.length]).run Try.prog w = .ok v' w' ∧ cdOwn w' base v' (us ++ ps) (L ++ zs) ∧ w.grownBy w' v.ownBlock ∧ (v'.ownBlock = v.ownBlock ∨ v'.ownBlock = some w.heap.size) := by
  obtain ⟨i0, hi, hz0, hz1, hz2⟩ := info_parts infoC
  obtain ⟨v', w', hr, h2, h3, h4, h5⟩ := run_append_own_at (P := Try.prog) w base 24 ty 27 i0 (.agg #[.slice none 0 0, .string ⟨#[]⟩]) 2 40 Try.underlying24 hi hz0 hz1 hz2 rfl (by decide) v L.length (cdCells us L) hown.own ⟨g0, 0, none⟩ zs.length zs.length (cdCells ps zs) (cdCells_len ps zs hps)
    (fun j q hj => by
      have hadd : (⟨g0, 0, none⟩ : Addr).add j = ⟨g0, j, none⟩ := by unfold Addr.add; split <;> simp_all
      rw [hadd]; exact hu j q hj) (cdCells_one ps zs hus) (by unfold maxLen; omega) (by omega) hbase
  refine ⟨v', w', hr, ⟨by simp [hown.len, hps], by rw [cdCells_app _ _ _ _ hown.len, List.length_append]; exact h2, fun i hi => ?_⟩, h3, h5⟩
  have hk0 : keysAv w v.ownBlock ((us ++ ps).getD i undef) ((L ++ zs).getD i blankC).1 := by
    rw [List.length_append] at hi
    by_cases hlt : i < L.length
    · have e1 : (us ++ ps).getD i undef = us.getD i undef := by simp only [List.getD]; rw [List.getElem?_append_left (by rw [hown.len]; exact hlt)]
      have e2 : (L ++ zs).getD i blankC = L.getD i blankC := by simp only [List.getD]; rw [List.getElem?_append_left hlt]
      rw [e1, e2]; exact hown.keys i hlt
    · have e1 : (us ++ ps).getD i undef = ps.getD (i - L.length) undef := by simp only [List.getD]; rw [List.getElem?_append_right (by rw [hown.len]; omega), hown.len]
      have e2 : (L ++ zs).getD i blankC = zs.getD (i - L.length) blankC := by simp only [List.getD]; rw [List.getElem?_append_right (by omega)]
      rw [e1, e2]; exact hk _ (by omega)
  have hk1 := hk0.grown h3
  rcases h5 with e | e
  · rw [e]; exact hk1
  · rw [e]
    exact (hk0.avoid (b' := some w.heap.size) (fun j hj e2 => by have := Option.some.inj e2; omega)).also hk1.to
theorem wp_append_cdN {o : Oper} {a : Act} {w : World} {K : Act → World → Prop} {Q : Exit → Act → World → Prop} (s x : Operand)
    (ho : o.op = .call { callee := .builtin .append, args := #[s, x], argTypes := #[24, 24] })
    {base : Nat} {v : Value} {us : List Value} {L : List C2} (hown : cdOwn w base v us L) (g0 : Nat) (ps : List Value) (zs : List C2) (hps : ps.length = zs.length)
    (hu : ∀ j q, (cdCells ps zs)[j]? = some q → w.cell? ⟨g0, j, none⟩ = some q) (hus : ∀ q ∈ ps, ∃ a n c, q = .slice a n c) (hk : ∀ i, i < zs.length → keysAv w v.ownBlock (ps.getD i undef) (zs.getD i blankC).1)
    (hs : a.eval s = v) (hx : a.eval x = .slice (some ⟨g0, 0, none⟩) zs.length zs.length) (hn : L.length + zs.length ≤ 1000000) (h0 : 0 < zs.length) (hbase : base ≤ w.heap.size)
    (h : ∀ v' w', cdOwn w' base v' (us ++ ps) (L ++ zs) → w.grownBy w' v.ownBlock → (v'.ownBlock = v.ownBlock ∨ v'.ownBlock = some w.heap.size) → K (a.put o.dst v') w') : o.wp Try.prog a w K Q := by
  obtain ⟨v', w', hr, h2, h3, h4⟩ := run_append_cdN hown g0 ps zs o.type hps hu hus hk hn h0 hbase
  unfold Oper.wp execOp
  simp only [ho, resolve, invoke, builtin, Sem.run_bind, Sem.run_pure, Result.andThen_ok, List.map_toArray, List.map_cons, List.map_nil, hs, hx, hr]
  exact h v' w' h2 h3 h4

/-- a list under way: c the cursor's state, g its block, w the world before -/
structure LD (n₀ g len cap : Nat) (a : Option Addr) (zs : List Int) (c : Cu) (w wr : World) (v : Value) (us : List Value) (L : List C2) : Prop where
  drew : Drew n₀ g a len cap zs c w wr
  own : cdOwn wr w.heap.size v us L
  kav : ∀ b, b < w.heap.size → ∀ i, i < L.length → keysAv wr (some b) (us.getD i undef) (L.getD i blankC).1
  bd : ∀ x ∈ L, x.1.length ≤ 7 ∧ x.2.size ≤ 5
  kb : ∀ x ∈ L, ∀ k ∈ x.1, kBd k
theorem LD.ne {n₀ g len cap : Nat} {a : Option Addr} {zs : List Int} {c : Cu} {w wr : World} {v : Value} {us : List Value} {L : List C2} (h : LD n₀ g len cap a zs c w wr v us L) (hgl : g < w.heap.size) : v.ownBlock ≠ some g := fun e => by
  have := (h.own.own.lt g e).1; omega
theorem LD.next {n₀ g len cap : Nat} {a : Option Addr} {zs : List Int} {c c2 : Cu} {w wr w2 : World} {v : Value} {us : List Value} {L : List C2} (h : LD n₀ g len cap a zs c w wr v us L) (hgl : g < w.heap.size) (hd : Drew n₀ g a len cap zs c2 wr w2) : LD n₀ g len cap a zs c2 w w2 v us L :=
  ⟨h.drew.trans hd, h.own.other hd.grown (h.ne hgl) (h.kav g hgl), fun b hb i hi => (h.kav b hb i hi).also ((h.kav g hgl i hi).grown hd.grown).to, h.bd, h.kb⟩
theorem LD.grow {n₀ g len cap : Nat} {a : Option Addr} {zs : List Int} {c : Cu} {w wr w2 : World} {v : Value} {us : List Value} {L : List C2} (h : LD n₀ g len cap a zs c w wr v us L) (hgl : g < w.heap.size) (hb : Below wr.heap.size wr w2) : LD n₀ g len cap a zs c w w2 v us L :=
  ⟨h.drew.grow hgl (grown_of_below' hb none) (fun b e => by cases e), h.own.below hb, fun b hlt i hi => (h.kav b hlt i hi).below hb, h.bd, h.kb⟩
theorem LD.alloc {n₀ g len cap : Nat} {a : Option Addr} {zs : List Int} {c : Cu} {w wr : World} {v : Value} {us : List Value} {L : List C2} (h : LD n₀ g len cap a zs c w wr v us L) (hgl : g < w.heap.size) (o : Obj) : LD n₀ g len cap a zs c w (wr.alloc o) v us L :=
  h.grow hgl ((Below.refl _ _).alloc (Nat.le_refl _) o)
theorem LD.drew' {n₀ g len cap : Nat} {a : Option Addr} {zs : List Int} {c : Cu} {w wr : World} {v : Value} {us : List Value} {L : List C2} (h : LD n₀ g len cap a zs c w wr v us L) (hgl : g < w.heap.size) : LD n₀ g len cap a zs c w wr.drew v us L :=
  h.grow hgl (Below.refl _ _).drew
/-- another block of one's own is written -/
theorem LD.put {n₀ g len cap : Nat} {a : Option Addr} {zs : List Int} {c : Cu} {w wr w2 : World} {b : Nat} {v : Value} {us : List Value} {L : List C2} (h : LD n₀ g len cap a zs c w wr v us L) (hgl : g < w.heap.size) (hg : wr.grownBy w2 (some b)) (hb : w.heap.size ≤ b) (h1 : v.ownBlock ≠ some b) (h2 : ∀ i, i < L.length → keysAv wr (some b) (us.getD i undef) (L.getD i blankC).1) : LD n₀ g len cap a zs c w w2 v us L :=
  ⟨h.drew.grow hgl hg (fun j e => by cases e; exact hb), h.own.other hg h1 h2, fun b' hlt i hi => (h.kav b' hlt i hi).also ((h2 i hi).grown hg).to, h.bd, h.kb⟩
theorem LD.push {n₀ g len cap : Nat} {a : Option Addr} {zs : List Int} {c : Cu} {w wr w2 : World} {v v2 : Value} {us ps : List Value} {L M : List C2} (h : LD n₀ g len cap a zs c w wr v us L) (hgl : g < w.heap.size) (hps : ps.length = M.length) (hown : cdOwn w2 w.heap.size v2 (us ++ ps) (L ++ M)) (hgr : wr.grownBy w2 v.ownBlock)
    (hk : ∀ b, b < w.heap.size → ∀ i, i < M.length → keysAv wr (some b) (ps.getD i undef) (M.getD i blankC).1) (hbd : ∀ x ∈ M, x.1.length ≤ 7 ∧ x.2.size ≤ 5) (hkb : ∀ x ∈ M, ∀ k ∈ x.1, kBd k) : LD n₀ g len cap a zs c w w2 v2 (us ++ ps) (L ++ M) := by
  refine ⟨h.drew.grow hgl hgr (fun b e => (h.own.own.lt b e).1), hown, fun b hlb i hi => ?_, fun x hx => ?_, fun x hx => ?_⟩
  · refine keysAv.also (w := wr) ?_ (hown.keys i hi).to
    rw [List.length_append] at hi
    by_cases hlt : i < L.length
    · have e1 : (us ++ ps).getD i undef = us.getD i undef := by simp only [List.getD]; rw [List.getElem?_append_left (by rw [h.own.len]; exact hlt)]
      have e2 : (L ++ M).getD i blankC = L.getD i blankC := by simp only [List.getD]; rw [List.getElem?_append_left hlt]
      rw [e1, e2]; exact h.kav b hlb i hlt
    · have e1 : (us ++ ps).getD i undef = ps.getD (i - L.length) undef := by simp only [List.getD]; rw [List.getElem?_append_right (by rw [h.own.len]; omega), h.own.len]
      have e2 : (L ++ M).getD i blankC = M.getD (i - L.length) blankC := by simp only [List.getD]; rw [List.getElem?_append_right (by omega)]
      rw [e1, e2]; exact hk b hlb _ (by omega)
  · rcases List.mem_append.1 hx with h1 | h1
    · exact h.bd x h1
    · exact hbd x h1
  · rcases List.mem_append.1 hx with h1 | h1
    · exact h.kb x h1
    · exact hkb x h1
end Go.Proofs.Ytbbjpjkclealfaa
namespace Go.Proofs.Ytbbjpjkclealfaa
open Go.ChangeShapes Go.WideShapes Go.ChangeAt Go.RowKit Go.BigFrame
set_option linter.unusedVariables false

theorem step_append_cdN {ops : Array Oper} {o : Oper} {a : Act} {w : World} {K : Act → World → Prop} {Q : Exit → Act → World → Prop} {E : Prop} (hgd : o.guard = none) (s x : Operand)
    (ho : o.op = .call { callee := .builtin .append, args := #[s, x], argTypes := #[24, 24] })
    {base : Nat} {v : Value} {us : List Value} {L : List C2} (hown : cdOwn w base v us L) (g0 : Nat) (ps : List Value) (zs : List C2) (hps : ps.length = zs.length)
    (hu : ∀ j q, (cdCells ps zs)[j]? = some q → w.cell? ⟨g0, j, none⟩ = some q) (hus : ∀ q ∈ ps, ∃ a n c, q = .slice a n c) (hk : ∀ i, i < zs.length → keysAv w v.ownBlock (ps.getD i undef) (zs.getD i blankC).1)
    (hs : a.eval s = v) (hx : a.eval x = .slice (some ⟨g0, 0, none⟩) zs.length zs.length) (hn : L.length + zs.length ≤ 1000000) (h0 : 0 < zs.length) (hbase : base ≤ w.heap.size)
    (h : ∀ v' w', cdOwn w' base v' (us ++ ps) (L ++ zs) → w.grownBy w' v.ownBlock → (v'.ownBlock = v.ownBlock ∨ v'.ownBlock = some w.heap.size) → K (a.put o.dst v') w') : if Region.wanted o (yielded ops a.tmps) = true then Oper.wp Try.prog o a w K Q else E := by
  have hw : Region.wanted o (yielded ops a.tmps) = true := by simp [Region.wanted, hgd]
  rw [if_pos hw]
  exact wp_append_cdN s x ho hown g0 ps zs hps hu hus hk hs hx hn h0 hbase h
theorem two_cells (w : World) (u1 u2 : Value) (z1 z2 : C2) : ∀ j q, (cdCells [u1, u2] [z1, z2])[j]? = some q → (w.alloc (.cells #[u1, .string z1.2, u2, .string z2.2] 27)).cell? ⟨w.heap.size, j, none⟩ = some q := fun j q hj => by
  rw [lit_cell]; simpa [cdCells] using hj
set_option maxRecDepth 100000 in
set_option maxHeartbeats 2000000 in
theorem l07list_any (n₀ g len cap : Nat) (a : Option Addr) (zs : List Int) (c : Cu) (w : World) (hs : DrawSt n₀ w g a len cap zs c.i c.h) :
    Calls Try.prog 40 #[.pointer (some ⟨g, 0, none⟩)] w fun e w' => ∃ (v : Value) (us : List Value) (L : List C2) (c' : Cu), e = .returned v ∧ L.length ≤ 11 ∧ LD n₀ g len cap a zs c' w w' v us L := by
  have hgl := hs.lt
  have hL0 : LD n₀ g len cap a zs c w (w.alloc (.cells #[] 27)) (.slice (some ⟨w.heap.size, 0, none⟩) 0 0) [] [] :=
    ⟨Drew.alloc ⟨hs, Below.refl _ _, World.grownBy.refl _ _⟩ _, ⟨rfl, World.ownsRow_made (base := w.heap.size) (e := 27) (size := 2) w #[] 0 (Nat.le_refl _) (by unfold maxLen; omega) rfl, fun i hi => by simp at hi⟩, fun b hb i hi => by simp at hi, (fun x hx => by cases hx), (fun x hx => by cases hx)⟩
  have HL0 := Lib.hid hL0
  clear hL0 hs
  go_enter Try.func40, Try.ntmps40
  go_wp2_with fail
  generalize w.alloc (.cells #[] 27) = W0 at *
  refine (below_any n₀ g len cap a zs c 9 W0 HL0.out.drew.st (by omega)).mono ?_
  rintro e w1 ⟨rfl, hd1⟩
  have hbd := belowF_bd zs len c 9
  have HL1 := Lib.hid (HL0.out.next hgl hd1)
  generalize (belowF zs len c 9).2 = c1 at *
  generalize (belowF zs len c 9).1 = x at *
  obtain ⟨n, rfl⟩ : ∃ n : Nat, x = n := ⟨x.toNat, by omega⟩
  have hn9 : n < 9 := by omega
  clear hbd hd1 HL0
  go_wp2_with fail
  go_loopw [3, 5] (fun v i wr => ∃ (k : Nat) (lv : Value) (us : List Value) (L : List C2) (c' : Cu), k ≤ n ∧ i = .int .i64 k ∧ L.length = k ∧ lv = v ∧ LD n₀ g len cap a zs c' w wr lv us L) (fun _ i _ => n - (intOf i).toNat)
  case atStart => exact ⟨0, _, [], [], c1, Nat.zero_le _, rfl, rfl, rfl, HL1.out⟩
  case round =>
    obtain ⟨k, v, us, L, c2, hk, rfl, hLk, hv, hL⟩ := hrel
    subst hv
    have HL := Lib.hid hL
    clear hL HL1
    rename_i wr
    have hvl := fun b => HL.out.own.own.lt b
    have HVL := Lib.hid hvl
    clear hvl
    have hgr : g < wr.heap.size := Nat.lt_of_lt_of_le hgl HL.out.drew.grown.size
    have hwr : w.heap.size ≤ wr.heap.size := HL.out.drew.grown.size
    by_cases hlt : k < n
    · have y1 : (k : Int) < (n : Int) := by omega
      go_wp2_with fail
      refine (l05code_any n₀ g len cap a zs c2 wr HL.out.drew.st).mono ?_
      rintro e w3 ⟨v3, ks3, y3, c3, rfl, h1, h4, hkd, hy, ho, hd⟩
      obtain ⟨a3, n3, k3, rfl⟩ := own_shape ho
      have HL4 := Lib.hid ((HL.out.next hgl hd).alloc hgl (.cells #[.slice a3 n3 k3, .string y3] 27))
      have hbA := (Below.refl w3.heap.size w3).alloc (Nat.le_refl _) (.cells #[.slice a3 n3 k3, .string y3] 27)
      have HK1 := Lib.hid ((keysAv_ownO (o := v.ownBlock) ho (fun b e => (HVL.out b e).2)).below hbA)
      have HK2 := Lib.hid (fun b (hlb : b < w.heap.size) => (keysAv_own ho (Nat.lt_of_lt_of_le hlb hwr)).below hbA)
      have HE := Lib.hid (heap_alloc_new w3 (.cells #[.slice a3 n3 k3, .string y3] 27))
      have hbase : w.heap.size ≤ (w3.alloc (.cells #[.slice a3 n3 k3, .string y3] 27)).heap.size := HL4.out.drew.grown.size
      have HB := Lib.hid (And.intro h4 hy)
      have HKD := Lib.hid (show ∀ k ∈ ks3, kBd k from fun k hk => kDr_bd (hkd k hk))
      clear hd ho hkd h1 h4 hy HL hbA
      go_wp2_with (at_builtin; refine wpList_append_cd1 rfl (.tmp 15) (.tmp 18) rfl HL4.out.own w3.heap.size (.slice a3 n3 k3) (ks3, y3) HE.out ⟨_, _, _, rfl⟩ HK1.out rfl rfl (by omega) hbase ?_; intro v5 w5 hown5 hgr5 hv5)
      have HN := Lib.hid (HL4.out.push hgl (ps := [.slice a3 n3 k3]) (M := [(ks3, y3)]) rfl hown5 hgr5 (fun b hlb i hi => by (have h00 : i = 0 := by simpa using hi); subst h00; exact HK2.out b hlb) (fun x hx => by rcases List.mem_singleton.1 hx with rfl; exact ⟨by have := HB.out.1; show ks3.length ≤ 7; omega, by have := HB.out.2; show y3.size ≤ 5; omega⟩) (fun x hx => by rcases List.mem_singleton.1 hx with rfl; exact HKD.out))
      clear hown5 hgr5 hv5 HL4 HK1 HK2 HE
      exact ⟨⟨k + 1, _, _, _, c3, by omega, by go_num, by simp [hLk], rfl, HN.out⟩, by simp [intOf]; omega⟩
    · obtain rfl : k = n := by omega
      go_wp2_with fail
      refine (below_any n₀ g len cap a zs c2 10 wr HL.out.drew.st (by omega)).mono ?_
      rintro e w2 ⟨rfl, hd2⟩
      have HL2 := Lib.hid (HL.out.next hgl hd2)
      generalize (belowF zs len c2 10).2 = c3 at *
      generalize (belowF zs len c2 10).1 = x at *
      clear HL hd2 HVL
      have HVL := Lib.hid (fun b => HL2.out.own.own.lt b)
      have hgr : g < w2.heap.size := Nat.lt_of_lt_of_le hgl HL2.out.drew.grown.size
      have hwr : w.heap.size ≤ w2.heap.size := HL2.out.drew.grown.size
      rcases (by omega : x = 0 ∨ x = 1 ∨ (¬ x = 0 ∧ ¬ x = 1)) with rfl | rfl | ⟨x0, x1⟩
      · go_wp2_with fail
        refine (l05odd_any n₀ g len cap a zs c3 w2 HL2.out.drew.st).mono ?_
        rintro e w3 ⟨v3, ks3, y3, c4, rfl, h4, hkd, hy, ho, hd⟩
        obtain ⟨a3, n3, k3, rfl⟩ := own_shape ho
        have HL4 := Lib.hid ((HL2.out.next hgl hd).alloc hgl (.cells #[.slice a3 n3 k3, .string y3] 27))
        have hbA := (Below.refl w3.heap.size w3).alloc (Nat.le_refl _) (.cells #[.slice a3 n3 k3, .string y3] 27)
        have HK1 := Lib.hid ((keysAv_ownO (o := v.ownBlock) ho (fun b e => (HVL.out b e).2)).below hbA)
        have HK2 := Lib.hid (fun b (hlb : b < w.heap.size) => (keysAv_own ho (Nat.lt_of_lt_of_le hlb hwr)).below hbA)
        have HE := Lib.hid (heap_alloc_new w3 (.cells #[.slice a3 n3 k3, .string y3] 27))
        have hbase : w.heap.size ≤ (w3.alloc (.cells #[.slice a3 n3 k3, .string y3] 27)).heap.size := HL4.out.drew.grown.size
        have HB := Lib.hid (And.intro h4 hy)
        have HKD := Lib.hid hkd
        clear hd ho hkd h4 hy HL2 hbA
        go_wp2_with (at_builtin; refine wpList_append_cd1 rfl (.tmp 24) (.tmp 27) rfl HL4.out.own w3.heap.size (.slice a3 n3 k3) (ks3, y3) HE.out ⟨_, _, _, rfl⟩ HK1.out rfl rfl (by omega) hbase ?_; intro v5 w5 hown5 hgr5 hv5)
        have HN := Lib.hid (HL4.out.push hgl (ps := [.slice a3 n3 k3]) (M := [(ks3, y3)]) rfl hown5 hgr5 (fun b hlb i hi => by (have h00 : i = 0 := by simpa using hi); subst h00; exact HK2.out b hlb) (fun x hx => by rcases List.mem_singleton.1 hx with rfl; exact HB.out) (fun x hx => by rcases List.mem_singleton.1 hx with rfl; exact HKD.out))
        clear hown5 hgr5 hv5 HL4 HK1 HK2 HE
        go_ret
        exact ⟨_, _, _, c4, rfl, by rw [List.length_append, hLk]; show k + 1 ≤ 11; omega, HN.out⟩
      · go_wp2_with fail
        refine (l05code_any n₀ g len cap a zs c3 w2 HL2.out.drew.st).mono ?_
        rintro e w3 ⟨v3, ks3, y3, c4, rfl, h1, h4, hkd, hy, ho, hd⟩
        obtain ⟨a3, n3, k3, rfl⟩ := own_shape ho
        have hbb := (Below.refl w3.heap.size w3).alloc (Nat.le_refl _) (.cells #[.slice a3 n3 k3, .string ⟨#[97, 98, 99, 100]⟩] 27)
        have HL4 := Lib.hid ((HL2.out.next hgl hd).grow hgl hbb)
        have HK1 := Lib.hid ((keysAv_ownO (o := v.ownBlock) ho (fun b e => (HVL.out b e).2)).below hbb)
        have HK2 := Lib.hid (fun b (hlb : b < w.heap.size) => (keysAv_own ho (Nat.lt_of_lt_of_le hlb hwr)).below hbb)
        have HE := Lib.hid (heap_alloc_new w3 (.cells #[.slice a3 n3 k3, .string ⟨#[97, 98, 99, 100]⟩] 27))
        have HB := Lib.hid h4
        have HKD := Lib.hid (show ∀ k ∈ ks3, kBd k from fun k hk => kDr_bd (hkd k hk))
        obtain ⟨q0, q1, qf0, qf1⟩ := row2_of (heap_alloc_new w3 (.cells #[.slice a3 n3 k3, .string y3] 27))
        have hlq : w3.heap.size < (w3.alloc (.cells #[.slice a3 n3 k3, .string y3] 27)).heap.size := by simp
        have hb6 : g < w3.heap.size := Nat.lt_of_lt_of_le hgr hd.grown.size
        clear hd ho hkd h4 hy HL2 HVL hbb h1
        go_wp2_with fail
        clear q0 q1 qf0 qf1 hlq
        obtain ⟨r0, r1, -, -⟩ := row2_of HE.out
        have h8 := (Array.getElem?_eq_some_iff.1 HE.out).1
        generalize w3.alloc (.cells #[.slice a3 n3 k3, .string ⟨#[97, 98, 99, 100]⟩] 27) = w6 at *
        generalize w3.heap.size = b6 at *
        have hw6 : w.heap.size ≤ w6.heap.size := HL4.out.drew.grown.size
        have HVL := Lib.hid (fun b => HL4.out.own.own.lt b)
        go_region_law (first
          | (go_simp
             go_at_call 82
             refine (l05code_any n₀ g len cap a zs c4 _ (by first | exact HL4.out.drew.st | exact (HL4.out.drew' hgl).drew.st)).mono ?_
             rintro e w7 ⟨v7, ks7, y7, c7, rfl, h71, h74, hkd7, hy7, ho7, hd7⟩
             dsimp only
             obtain ⟨a7, n7, k7, rfl⟩ := own_shape ho7
             have HD7 := Lib.hid (show Drew n₀ g a len cap zs c7 w6 w7 from by first | exact hd7 | exact Drew.trans (Drew.drewR ⟨HL4.out.drew.st, Below.refl _ _, World.grownBy.refl _ _⟩) hd7)
             have HL7 := Lib.hid (HL4.out.next hgl HD7.out)
             have HA1 := Lib.hid (keysAv_ownO (o := v.ownBlock) ho7 (fun b e => (HVL.out b e).2))
             have HA2 := Lib.hid (fun b (hlb : b < w.heap.size) => keysAv_own ho7 (Nat.lt_of_lt_of_le hlb hw6))
             have HA3 := Lib.hid (fun b (hlb : b < w.heap.size) => (HK2.out b hlb).also ((HK2.out g hgl).grown HD7.out.grown).to)
             have HA4 := Lib.hid (HK1.out.also (HA3.out g hgl).to)
             have hE7 := HD7.out.keeps HE.out (by omega)
             obtain ⟨r0, r1, -, -⟩ := row2_of hE7
             have h8 := (Array.getElem?_eq_some_iff.1 hE7).1
             have HB7 := Lib.hid (And.intro h74 hy7)
             have HKD7 := Lib.hid (show ∀ k ∈ ks7, kBd k from fun k hk => kDr_bd (hkd7 k hk))
             have hbase7 : w.heap.size ≤ w7.heap.size := HL7.out.drew.grown.size
             clear ho7 hd7 hE7)
          | (refine step_append_cdN rfl (.tmp 34) (.tmp 38) rfl (HL7.out.alloc hgl (.cells #[.slice a3 n3 k3, .string ⟨#[97, 98, 99, 100]⟩, .slice a7 n7 k7, .string y7] 27)).own w7.heap.size [.slice a3 n3 k3, .slice a7 n7 k7] [(ks3, ⟨#[97, 98, 99, 100]⟩), (ks7, y7)] rfl (two_cells w7 (.slice a3 n3 k3) (.slice a7 n7 k7) (ks3, ⟨#[97, 98, 99, 100]⟩) (ks7, y7)) (fun q hq => by simp at hq; rcases hq with rfl | rfl <;> exact ⟨_, _, _, rfl⟩) (fun i hi => by (have h00 : i = 0 ∨ i = 1 := by (simp at hi; omega)); rcases h00 with rfl | rfl; exact HA4.out.below ((Below.refl _ _).alloc (Nat.le_refl _) _); exact HA1.out.below ((Below.refl _ _).alloc (Nat.le_refl _) _)) rfl rfl (by show L.length + 2 ≤ 1000000; omega) (Nat.succ_pos _) (by simp; omega) ?_
             intro v9 w9 hown9 hgr9 hv9))
        all_goals
          have HN := Lib.hid ((HL7.out.alloc hgl (.cells #[.slice a3 n3 k3, .string ⟨#[97, 98, 99, 100]⟩, .slice a7 n7 k7, .string y7] 27)).push hgl (ps := [.slice a3 n3 k3, .slice a7 n7 k7]) (M := [(ks3, ⟨#[97, 98, 99, 100]⟩), (ks7, y7)]) rfl hown9 hgr9 (fun b hlb i hi => by (have h00 : i = 0 ∨ i = 1 := by (simp at hi; omega)); rcases h00 with rfl | rfl; exact (HA3.out b hlb).below ((Below.refl _ _).alloc (Nat.le_refl _) _); exact (HA2.out b hlb).below ((Below.refl _ _).alloc (Nat.le_refl _) _)) (fun x hx => by
            simp only [List.mem_cons, List.not_mem_nil, or_false] at hx
            rcases hx with rfl | rfl
            · exact ⟨by have := HB.out; show ks3.length ≤ 7; omega, by show (ByteArray.mk #[97, 98, 99, 100]).size ≤ 5; decide⟩
            · exact ⟨by have := HB7.out.1; show ks7.length ≤ 7; omega, by have := HB7.out.2; show y7.size ≤ 5; omega⟩) (fun x hx => by
            simp only [List.mem_cons, List.not_mem_nil, or_false] at hx
            rcases hx with rfl | rfl
            · exact HKD.out
            · exact HKD7.out))
          clear hown9 hgr9 hv9 HL7
          go_wp2
          go_ret
          exact ⟨_, _, _, c7, rfl, by rw [List.length_append, hLk]; show k + 2 ≤ 11; omega, HN.out⟩
      · go_wp2
        go_ret
        exact ⟨_, _, _, c3, rfl, by omega, HL2.out⟩
end Go.Proofs.Ytbbjpjkclealfaa
namespace Go.Proofs.Ytbbjpjkclealfaa
open Go.ChangeShapes Go.WideShapes Go.ChangeAt Go.RowKit Go.BigFrame
set_option linter.unusedVariables false

/-- a list as a law has it -/
structure LsO (w w' : World) (v : Value) (us : List Value) (L : List C2) : Prop where
  own : cdOwn w' w.heap.size v us L
  bd : ∀ x ∈ L, x.1.length ≤ 7 ∧ x.2.size ≤ 5
  below : Below w.heap.size w w'
theorem LD.end {n₀ g len cap : Nat} {a : Option Addr} {zs : List Int} {c : Cu} {w w1 wr : World} {v : Value} {us : List Value} {L : List C2} (h : LD n₀ g len cap a zs c w1 wr v us L) (hb : Below w.heap.size w w1) (hg : w.heap.size ≤ g) : LsO w wr v us L :=
  ⟨h.own.base hb.size, h.bd, hb.grown h.drew.grown hb.size (fun j e => by cases e; exact hg)⟩
theorem LD.first {n₀ g len cap : Nat} {a : Option Addr} {zs : List Int} {c : Cu} {w wr : World} {v : Value} {us : List Value} {L : List C2} (h : LD n₀ g len cap a zs c w wr v us L) (h0 : 0 < L.length) :
    ∃ gl cv u, v = .slice (some ⟨gl, 0, none⟩) L.length cv ∧ gl < wr.heap.size ∧ wr.cell? ⟨gl, 0, none⟩ = some u ∧ wr.cell? ⟨gl, 1, none⟩ = some (.string (L.getD 0 blankC).2) ∧ keysAt wr u (L.getD 0 blankC).1 := by
  rcases h.own.own.2 with ⟨-, h1⟩ | ⟨gl, cv, cur, rfl, hb, hg, hn, hm, hs, ht⟩
  · omega
  · have hc := cdCells_get us L 0 h.own.len h0
    have e0 := h.own.own.cellAt (0 * 2) (by omega)
    have e1 := h.own.own.cellAt (0 * 2 + 1) (by omega)
    rw [hc.1] at e0; rw [hc.2] at e1
    exact ⟨gl, cv, _, rfl, (Array.getElem?_eq_some_iff.1 hg).1, e0, e1, (h.own.keys 0 h0).to⟩
end Go.Proofs.Ytbbjpjkclealfaa
namespace Go.Proofs.Ytbbjpjkclealfaa
open Go.ChangeShapes Go.WideShapes Go.ChangeAt Go.RowKit
set_option linter.unusedVariables false

/-- the number of some bytes, the highest first -/
def getN (l : List UInt8) : Nat := l.foldl (fun n c => n * 256 + c.toNat) 0
theorem getN_snoc (l : List UInt8) (c : UInt8) : getN (l ++ [c]) = getN l * 256 + c.toNat := by simp [getN, List.foldl_append]
theorem foldl_lt : ∀ (l : List UInt8) (n m : Nat), n < 256 ^ m → l.foldl (fun n c => n * 256 + c.toNat) n < 256 ^ (m + l.length)
  | [], n, m, h => by simpa using h
  | c :: r, n, m, h => by
    have hc := c.toNat_lt
    have := foldl_lt r (n * 256 + c.toNat) (m + 1) (by rw [Nat.pow_succ]; omega)
    simp only [List.foldl_cons, List.length_cons]
    rwa [show m + (r.length + 1) = m + 1 + r.length by omega]
theorem getN_lt (l : List UInt8) : getN l < 256 ^ l.length := by
  have := foldl_lt l 0 0 (by simp)
  rwa [Nat.zero_add] at this
def getV (s : ByteArray) (p k : Int) : Int := if k < 1 ∨ 4 < k ∨ p < 0 ∨ (s.size : Int) - k < p then -1 else (getN ((s.data.toList.drop p.toNat).take k.toNat) : Nat)
end Go.Proofs.Ytbbjpjkclealfaa
namespace Go.Proofs.Ytbbjpjkclealfaa
open Go
set_option linter.unusedVariables false
set_option linter.unusedSimpArgs false

theorem tb_step (n c : Nat) (hc : c < 256) (j : Nat) : (n * 256 + c).testBit j = if j < 8 then c.testBit j else n.testBit (j - 8) := by
  rw [Nat.mul_comm]
  exact Nat.testBit_two_pow_mul_add n (i := 8) hc j
theorem step_xor (n m c d : Nat) (hc : c < 256) (hd : d < 256) : (n * 256 + c) ^^^ (m * 256 + d) = (n ^^^ m) * 256 + (c ^^^ d) := by
  refine Nat.eq_of_testBit_eq fun j => ?_
  have hx : c ^^^ d < 256 := Nat.xor_lt_two_pow (n := 8) hc hd
  rw [Nat.testBit_xor, tb_step n c hc, tb_step m d hd, tb_step _ _ hx]
  split <;> rw [Nat.testBit_xor]
theorem fold_xor : ∀ (l k : List UInt8) (n m : Nat), l.length = k.length → (xorL l k).foldl (fun n c => n * 256 + c.toNat) (n ^^^ m) = l.foldl (fun n c => n * 256 + c.toNat) n ^^^ k.foldl (fun n c => n * 256 + c.toNat) m
  | [], [], n, m, _ => by simp [xorL]
  | [], b :: k, n, m, h => by simp at h
  | a :: l, [], n, m, h => by simp at h
  | a :: l, b :: k, n, m, h => by
    have ih := fold_xor l k (n * 256 + a.toNat) (m * 256 + b.toNat) (by simpa using h)
    rw [step_xor _ _ _ _ a.toNat_lt b.toNat_lt] at ih
    have e : xorL (a :: l) (b :: k) = (a ^^^ b) :: xorL l k := by simp [xorL]
    rw [e, List.foldl_cons, List.foldl_cons, List.foldl_cons, UInt8.toNat_xor]
    exact ih
/-- the number of a load -/
def numL (y : ByteArray) : Nat := getN y.data.toList
theorem numL_xor (a b : ByteArray) (h : a.size = b.size) : numL (xorS a b) = numL a ^^^ numL b := by
  unfold numL getN
  rw [xorS_data a b h]
  have := fold_xor a.data.toList b.data.toList 0 0 (by simpa using h)
  simpa using this
theorem numL_lt (y : ByteArray) (h : y.size = 4) : numL y < 4294967296 := by
  have := getN_lt y.data.toList
  have e : y.data.toList.length = 4 := by simp [h]
  rw [e] at this
  exact this
theorem numL_z4 : numL z4 = 0 := by decide
theorem numL_inj {a b : ByteArray} (ha : a.size = 4) (hb : b.size = 4) (h : numL a = numL b) : a = b := by
  have la : a.data.toList.length = 4 := by simp [ha]
  have lb : b.data.toList.length = 4 := by simp [hb]
  refine ba_ext ?_
  unfold numL getN at h
  revert h
  match a.data.toList, la, b.data.toList, lb with
  | [x, y, z, u], _, [p, q, r, s], _ =>
    intro h
    simp only [List.foldl_cons, List.foldl_nil] at h
    have h1 := x.toNat_lt; have h2 := y.toNat_lt; have h3 := z.toNat_lt; have h4 := u.toNat_lt
    have g1 := p.toNat_lt; have g2 := q.toNat_lt; have g3 := r.toNat_lt; have g4 := s.toNat_lt
    rw [UInt8.toNat_inj.1 (show x.toNat = p.toNat by omega), UInt8.toNat_inj.1 (show y.toNat = q.toNat by omega), UInt8.toNat_inj.1 (show z.toNat = r.toNat by omega), UInt8.toNat_inj.1 (show u.toNat = s.toNat by omega)]
def placeK (k : K2) : Nat := ((k.1 - 1) * 99 + k.2 - 1).toNat
def keyP (p : Nat) : K2 := (((p / 99 : Nat) : Int) + 1, ((p % 99 : Nat) : Int) + 1)
theorem keyOk_iff (k : K2) : keyOkB k = true ↔ (1 ≤ k.1 ∧ k.1 ≤ 20) ∧ 1 ≤ k.2 ∧ k.2 ≤ 99 := by
  unfold keyOkB
  simp
theorem place_lt {k : K2} (h : keyOkB k = true) : placeK k < 1980 := by
  obtain ⟨⟨h1, h2⟩, h3, h4⟩ := (keyOk_iff k).1 h
  unfold placeK; omega
theorem place_key {k : K2} (h : keyOkB k = true) : keyP (placeK k) = k := by
  obtain ⟨⟨h1, h2⟩, h3, h4⟩ := (keyOk_iff k).1 h
  obtain ⟨a, b⟩ := k
  dsimp only at h1 h2 h3 h4
  unfold keyP placeK
  dsimp only
  refine Prod.ext ?_ ?_
  · dsimp only; omega
  · dsimp only; omega
theorem key_place (p : Nat) : placeK (keyP p) = p := by unfold keyP placeK; dsimp only; omega
theorem key_ok {p : Nat} (h : p < 1980) : keyOkB (keyP p) = true := by
  rw [keyOk_iff]; unfold keyP; dsimp only; omega
theorem key_not {p : Nat} (h : ¬ p < 1980) : keyOkB (keyP p) = false := by
  cases h1 : keyOkB (keyP p) with
  | false => rfl
  | true =>
    have := (keyOk_iff _).1 h1
    unfold keyP at this; dsimp only at this; omega
theorem key_lt {a b : K2} (ha : keyOkB a = true) (hb : keyOkB b = true) : aheadB a b = true ↔ placeK a < placeK b := by
  obtain ⟨⟨h1, h2⟩, h3, h4⟩ := (keyOk_iff a).1 ha
  obtain ⟨⟨g1, g2⟩, g3, g4⟩ := (keyOk_iff b).1 hb
  rw [ahead_iff]
  unfold placeK
  omega
/-- a word has a one at a place -/
def hasX (x : C2) (p : Nat) : Bool := if p < 1984 then decide (keyP p ∈ x.1) else (numL x.2).testBit (p - 1984)
def hX (a : W2) (p : Nat) : Bool := hasX a.1 p
theorem hX_add (a b : W2) (p : Nat) : hX (grpW.add a b) p = (hX a p != hX b p) := by
  unfold hX hasX
  by_cases h : p < 1984
  · rw [if_pos h, if_pos h, if_pos h]
    exact hasW_add a b (keyP p)
  · rw [if_neg h, if_neg h, if_neg h]
    show (numL (xorS a.1.2 b.1.2)).testBit _ = _
    rw [numL_xor _ _ (by rw [a.2.2, b.2.2]), Nat.testBit_xor]
theorem hX_zero (p : Nat) : hX grpW.zero p = false := by
  unfold hX hasX
  split
  · show decide (keyP p ∈ ([] : List K2)) = false; simp
  · show (numL z4).testBit _ = false
    rw [numL_z4, Nat.zero_testBit]
theorem hX_end (a : W2) (p : Nat) (h : 2016 ≤ p) : hX a p = false := by
  unfold hX hasX
  rw [if_neg (by omega)]
  exact Nat.testBit_lt_two_pow (Nat.lt_of_lt_of_le (numL_lt _ a.2.2) (Nat.pow_le_pow_right (n := 2) (by decide) (show 32 ≤ p - 1984 by omega)))
theorem hX_key (a : W2) {k : K2} (h : keyOkB k = true) : hX a (placeK k) = decide (k ∈ a.1.1) := by
  unfold hX hasX
  rw [if_pos (by have := place_lt h; omega), place_key h]
theorem hX_none (a : W2) (h : ∀ p, p < 2016 → hX a p = false) : a = grpW.zero := by
  have h1 : a.1.1 = [] := by
    cases hk : a.1.1 with
    | nil => rfl
    | cons k l =>
      have ho := ((keysR_iff a.1.1).1 a.2.1).1 k (by rw [hk]; simp)
      have := h (placeK k) (by have := place_lt ho; omega)
      rw [hX_key a ho, hk] at this
      simp at this
  have h2 : numL a.1.2 = 0 := by
    refine Nat.eq_of_testBit_eq fun j => ?_
    rw [Nat.zero_testBit]
    by_cases hj : j < 32
    · have := h (1984 + j) (by omega)
      unfold hX hasX at this
      rw [if_neg (by omega), show 1984 + j - 1984 = j by omega] at this
      exact this
    · exact Nat.testBit_lt_two_pow (Nat.lt_of_lt_of_le (numL_lt _ a.2.2) (Nat.pow_le_pow_right (n := 2) (by decide) (show 32 ≤ j by omega)))
  exact (zeroW a h1).2 (numL_inj a.2.2 rfl (by rw [h2, numL_z4]))
def pivX (a : W2) : Option Nat := (List.range 2016).find? (hX a)
theorem pivX_some {a : W2} {p : Nat} (h : pivX a = some p) : hX a p = true ∧ p < 2016 ∧ ∀ j, j < p → hX a j = false := by
  obtain ⟨h1, h2, h3⟩ := List.find?_range_eq_some.1 h
  exact ⟨h1, List.mem_range.1 h2, fun j hj => by simpa using h3 j hj⟩
theorem pivX_none {a : W2} (h : pivX a = none) (p : Nat) : hX a p = false := by
  by_cases hp : p < 2016
  · have := List.find?_eq_none.1 h p (List.mem_range.2 hp)
    simpa using this
  · exact hX_end a p (by omega)
def ordX : Ord W2 Nat grpW where
  piv a := (pivX a).getD 0
  has := hX
  has0 := hX_zero
  hasA := hX_add
  lt a b := a < b
  tri := fun a b => by omega
  trans := fun a b c h1 h2 => by omega
  bare a := (pivX a).isNone
  bare1 := fun v h k => pivX_none (Option.isNone_iff_eq_none.1 h) k
  bare2 := fun v h => by
    cases hp : pivX v with
    | none => rw [hp] at h; cases h
    | some p =>
      obtain ⟨h1, -, h3⟩ := pivX_some hp
      exact ⟨h1, fun k hk => h3 k hk⟩
  uniq := fun v q h1 h2 => by
    cases hp : pivX v with
    | none => rw [pivX_none hp] at h1; cases h1
    | some p =>
      obtain ⟨g1, -, g3⟩ := pivX_some hp
      show p = q
      rcases Nat.lt_trichotomy p q with h | h | h
      · rw [h2 p h] at g1; cases g1
      · exact h
      · rw [g3 q h] at h1; cases h1
theorem bareX (v : W2) : ordX.bare v = true ↔ v = grpW.zero := by
  constructor
  · intro h; exact hX_none v fun p _ => ordX.bare1 v h p
  · rintro rfl; exact bare_of ordX fun k => hX_zero k
/-- a word of no key: no place ahead of the load's -/
theorem bareW_iff (v : W2) : ordW.bare v = true ↔ ∀ p, p < 1984 → hX v p = false := by
  rw [bareW]
  constructor
  · intro h p hp
    unfold hX hasX
    rw [if_pos hp, h]; simp
  · intro h
    cases hk : v.1.1 with
    | nil => rfl
    | cons k l =>
      have ho := ((keysR_iff v.1.1).1 v.2.1).1 k (by rw [hk]; simp)
      have := h (placeK k) (by have := place_lt ho; omega)
      rw [hX_key v ho, hk] at this
      simp at this
/-- a place of a key that a word has is a right key's -/
theorem hX_right {v : W2} {p : Nat} (hp : p < 1984) (h : hX v p = true) : p < 1980 ∧ keyP p ∈ v.1.1 := by
  unfold hX hasX at h
  rw [if_pos hp] at h
  have hm : keyP p ∈ v.1.1 := of_decide_eq_true h
  have ho := ((keysR_iff v.1.1).1 v.2.1).1 _ hm
  refine ⟨?_, hm⟩
  by_cases hlt : p < 1980
  · exact hlt
  · rw [key_not hlt] at ho; cases ho
/-- the first place of a word of keys is that of its first key -/
theorem piv_WX {v : W2} {p : Nat} (hp : p < 1984) (h1 : hX v p = true) (h2 : ∀ j, j < p → hX v j = false) : ordW.piv v = keyP p := by
  obtain ⟨h3, h4⟩ := hX_right hp h1
  refine ordW.uniq v (keyP p) ?_ fun k hk => ?_
  · show decide (keyP p ∈ v.1.1) = true
    simpa using h4
  · show decide (k ∈ v.1.1) = false
    have hk' : aheadB k (keyP p) = true := hk
    refine decide_eq_false fun hm => ?_
    have ho := ((keysR_iff v.1.1).1 v.2.1).1 k hm
    have := (key_lt ho (key_ok h3)).1 hk'
    rw [key_place] at this
    have h5 := h2 _ this
    rw [hX_key v ho] at h5
    simp [hm] at h5
end Go.Proofs.Ytbbjpjkclealfaa
namespace Go.Proofs.Ytbbjpjkclealfaa
theorem getD_row (L : List C2) (i : Nat) (hi : i < L.length) (hl : L.length < 20) (hc : codeOkB (L.getD i blankC) = true) : (⟨L.getD i blankC, ok_w hc⟩ : W2) ∈ rowsN L L.length := rowsN_has L hi (by omega) hc
end Go.Proofs.Ytbbjpjkclealfaa
namespace Go.Proofs.Ytbbjpjkclealfaa
open Go
set_option linter.unusedVariables false
set_option linter.unusedSimpArgs false

abbrev zW : W2 := grpW.zero
def swapL (R : List W2) (i j : Nat) : List W2 := (R.set i (R.getD j zW)).set j (R.getD i zW)
/-- the rows ahead of i, but d, have had row d added where they have a one -/
def turnL (R : List W2) (d p i : Nat) : List W2 := (List.range R.length).map fun j => if j < i ∧ j ≠ d ∧ hX (R.getD j zW) p = true then grpW.add (R.getD j zW) (R.getD d zW) else R.getD j zW
theorem swap_len (R : List W2) (i j : Nat) : (swapL R i j).length = R.length := by simp [swapL]
theorem turn_len (R : List W2) (d p i : Nat) : (turnL R d p i).length = R.length := by simp [turnL]
theorem turn_get (R : List W2) (d p i j : Nat) (hj : j < R.length) : (turnL R d p i).getD j zW = if j < i ∧ j ≠ d ∧ hX (R.getD j zW) p = true then grpW.add (R.getD j zW) (R.getD d zW) else R.getD j zW := by
  simp [turnL, List.getD, hj]
theorem ext_getD {A B : List W2} (hl : A.length = B.length) (h : ∀ j, j < A.length → A.getD j zW = B.getD j zW) : A = B := by
  refine List.ext_getElem hl fun j h1 h2 => ?_
  have := h j h1
  simpa [List.getD, h1, h2] using this
theorem getD_set (R : List W2) (i j : Nat) (x : W2) (hj : j < R.length) : (R.set i x).getD j zW = if i = j then x else R.getD j zW := by
  simp only [List.getD, List.getElem?_set]
  by_cases h : i = j
  · subst h; simp [hj]
  · simp [h]
theorem swap_get (R : List W2) (i j k : Nat) (hi : i < R.length) (hj : j < R.length) (hk : k < R.length) : (swapL R i j).getD k zW = if k = j then R.getD i zW else if k = i then R.getD j zW else R.getD k zW := by
  unfold swapL
  rw [getD_set _ _ _ _ (by simpa using hk), getD_set _ _ _ _ hk]
  by_cases h1 : k = j
  · simp [h1]
  · rw [if_neg (fun e => h1 e.symm), if_neg h1]
    by_cases h2 : k = i
    · rw [if_pos h2.symm, if_pos h2]
    · rw [if_neg (fun e => h2 e.symm), if_neg h2]
theorem turn_zero (R : List W2) (d p : Nat) : turnL R d p 0 = R := ext_getD (turn_len ..) fun j hj => by
  rw [turn_len] at hj
  rw [turn_get _ _ _ _ _ hj, if_neg (by omega)]
theorem turn_same (R : List W2) (d p i : Nat) (hi : i < R.length) (h : i = d ∨ hX (R.getD i zW) p = false) : turnL R d p (i + 1) = turnL R d p i := ext_getD (by simp [turn_len]) fun j hj => by
  rw [turn_len] at hj
  rw [turn_get _ _ _ _ _ hj, turn_get _ _ _ _ _ hj]
  by_cases hji : j = i
  · subst hji
    rw [if_neg, if_neg (by omega)]
    rintro ⟨_, h1, h2⟩
    rcases h with h | h
    · exact h1 h
    · rw [h] at h2; cases h2
  · have e : (j < i + 1 ∧ j ≠ d ∧ hX (R.getD j zW) p = true) ↔ (j < i ∧ j ≠ d ∧ hX (R.getD j zW) p = true) := by
      constructor
      · rintro ⟨a, b⟩; exact ⟨by omega, b⟩
      · rintro ⟨a, b⟩; exact ⟨by omega, b⟩
    by_cases h1 : j < i ∧ j ≠ d ∧ hX (R.getD j zW) p = true
    · rw [if_pos h1, if_pos (e.2 h1)]
    · rw [if_neg h1, if_neg (fun h2 => h1 (e.1 h2))]
theorem turn_step (R : List W2) (d p i : Nat) (hi : i < R.length) (hd : i ≠ d) (h : hX (R.getD i zW) p = true) : turnL R d p (i + 1) = (turnL R d p i).set i (grpW.add (R.getD i zW) (R.getD d zW)) := ext_getD (by simp [turn_len]) fun j hj => by
  rw [turn_len] at hj
  rw [turn_get _ _ _ _ _ hj, getD_set _ _ _ _ (by rw [turn_len]; exact hj), turn_get _ _ _ _ _ hj]
  by_cases hji : i = j
  · subst hji
    rw [if_pos ⟨by omega, hd, h⟩, if_pos rfl]
  · rw [if_neg hji]
    have e : (j < i + 1 ∧ j ≠ d ∧ hX (R.getD j zW) p = true) ↔ (j < i ∧ j ≠ d ∧ hX (R.getD j zW) p = true) := by
      constructor
      · rintro ⟨a, b⟩; exact ⟨by omega, b⟩
      · rintro ⟨a, b⟩; exact ⟨by omega, b⟩
    by_cases h1 : j < i ∧ j ≠ d ∧ hX (R.getD j zW) p = true
    · rw [if_pos h1, if_pos (e.2 h1)]
    · rw [if_neg h1, if_neg (fun h2 => h1 (e.1 h2))]
theorem turn_at (R : List W2) (d p i : Nat) (hi : i < R.length) : (turnL R d p i).getD i zW = R.getD i zW := by
  rw [turn_get _ _ _ _ _ hi, if_neg (by omega)]
theorem turn_d (R : List W2) (d p i : Nat) (hd : d < R.length) : (turnL R d p i).getD d zW = R.getD d zW := by
  rw [turn_get _ _ _ _ _ hd, if_neg (by omega)]
theorem mem_getD (R : List W2) (j : Nat) (hj : j < R.length) : R.getD j zW ∈ R := by
  rw [List.getD, List.getElem?_eq_getElem hj]; exact List.getElem_mem hj
theorem mem_at {R : List W2} {x : W2} (h : x ∈ R) : ∃ j, j < R.length ∧ R.getD j zW = x := by
  obtain ⟨j, hj, e⟩ := List.mem_iff_getElem.1 h
  exact ⟨j, hj, by rw [List.getD, List.getElem?_eq_getElem hj]; exact e⟩
theorem swap_span (R : List W2) (i j : Nat) (hi : i < R.length) (hj : j < R.length) (y : W2) : Span grpW (· ∈ swapL R i j) y ↔ Span grpW (· ∈ R) y := by
  constructor
  · refine Span.mono fun x hx => ?_
    obtain ⟨k, hk, rfl⟩ := mem_at hx
    rw [swap_len] at hk
    rw [swap_get R i j k hi hj hk]
    split
    · exact mem_getD R i hi
    · split
      · exact mem_getD R j hj
      · exact mem_getD R k hk
  · refine Span.mono fun x hx => ?_
    obtain ⟨k, hk, rfl⟩ := mem_at hx
    have hs : ∀ m, m < R.length → (swapL R i j).getD m zW ∈ swapL R i j := fun m hm => mem_getD _ m (by rw [swap_len]; exact hm)
    by_cases h1 : k = i
    · have := hs j hj
      rw [swap_get R i j j hi hj hj, if_pos rfl] at this
      rw [h1]; exact this
    · by_cases h2 : k = j
      · have := hs i hi
        rw [swap_get R i j i hi hj hi] at this
        rw [h2]
        by_cases h3 : i = j
        · rw [if_pos h3] at this
          have e : R.getD j zW = R.getD i zW := by rw [h3]
          rw [e]; exact this
        · rw [if_neg h3, if_pos rfl] at this; exact this
      · have := hs k hk
        rw [swap_get R i j k hi hj hk, if_neg h2, if_neg h1] at this
        exact this
theorem turn_span (R : List W2) (d p i : Nat) (hd : d < R.length) (y : W2) : Span grpW (· ∈ turnL R d p i) y ↔ Span grpW (· ∈ R) y := by
  have hdm : R.getD d zW ∈ turnL R d p i := by
    have := mem_getD (turnL R d p i) d (by rw [turn_len]; exact hd)
    rwa [turn_d R d p i hd] at this
  constructor
  · refine Span.le fun x hx => ?_
    obtain ⟨k, hk, rfl⟩ := mem_at hx
    rw [turn_len] at hk
    rw [turn_get R d p i k hk]
    split
    · exact (Span.of (mem_getD R k hk)).plus (.of (mem_getD R d hd))
    · exact .of (mem_getD R k hk)
  · refine Span.le fun x hx => ?_
    obtain ⟨k, hk, rfl⟩ := mem_at hx
    have h1 := mem_getD (turnL R d p i) k (by rw [turn_len]; exact hk)
    rw [turn_get R d p i k hk] at h1
    split at h1
    · have h2 := (Span.of (G := grpW) (S := (· ∈ turnL R d p i)) h1).plus (.of hdm)
      rwa [grpW.assoc, grpW.self, grpW.zr] at h2
    · exact .of h1
/-- rows on their way: the first ones have their places, the others none so far -/
structure Elim (L R : List W2) (P : List Nat) (place : Nat) : Prop where
  len : P.length ≤ R.length
  own : ∀ i, i < P.length → hX (R.getD i zW) (P.getD i 0) = true
  alone : ∀ i, i < P.length → ∀ j, j < R.length → j ≠ i → hX (R.getD j zW) (P.getD i 0) = false
  low : ∀ i, i < P.length → ∀ p, p < P.getD i 0 → hX (R.getD i zW) p = false
  rest : ∀ j, P.length ≤ j → j < R.length → ∀ p, p < place → hX (R.getD j zW) p = false
  rise : P.Pairwise (· < ·)
  lt : ∀ p ∈ P, p < place
  span : ∀ y, Span grpW (· ∈ R) y ↔ Span grpW (· ∈ L) y
theorem Elim.start (L : List W2) : Elim L L [] 0 :=
  ⟨Nat.zero_le _, fun i h => by simp at h, fun i h => by simp at h, fun i h => by simp at h, fun j _ _ p hp => by omega, List.Pairwise.nil, fun p h => (by cases h), fun y => Iff.rfl⟩
theorem Elim.no {L R : List W2} {P : List Nat} {place : Nat} (h : Elim L R P place) (hn : ∀ j, P.length ≤ j → j < R.length → hX (R.getD j zW) place = false) : Elim L R P (place + 1) :=
  ⟨h.len, h.own, h.alone, h.low, (fun j h1 h2 p hp => by
    rcases (by omega : p < place ∨ p = place) with hp | rfl
    · exact h.rest j h1 h2 p hp
    · exact hn j h1 h2), h.rise, fun p hp => Nat.lt_succ_of_lt (h.lt p hp), h.span⟩
theorem Elim.swap {L R : List W2} {P : List Nat} {place at' : Nat} (h : Elim L R P place) (h1 : P.length ≤ at') (h2 : at' < R.length) : Elim L (swapL R P.length at') P place := by
  have hd : P.length < R.length := by omega
  have hg := fun k hk => swap_get R P.length at' k hd h2 hk
  refine ⟨by rw [swap_len]; exact h.len, fun i hi => ?_, fun i hi j hj hji => ?_, fun i hi p hp => ?_, fun j hj hj2 p hp => ?_, h.rise, h.lt, fun y => (swap_span R _ _ hd h2 y).trans (h.span y)⟩
  · rw [hg i (by omega), if_neg (by omega), if_neg (by omega)]; exact h.own i hi
  · rw [swap_len] at hj
    rw [hg j hj]
    split
    · exact h.alone i hi _ hd (by omega)
    · split
      · exact h.alone i hi _ h2 (by omega)
      · exact h.alone i hi j hj hji
  · rw [hg i (by omega), if_neg (by omega), if_neg (by omega)]; exact h.low i hi p hp
  · rw [swap_len] at hj2
    rw [hg j hj2]
    split
    · exact h.rest _ (Nat.le_refl _) hd p hp
    · split
      · exact h.rest _ h1 h2 p hp
      · exact h.rest j hj hj2 p hp
theorem Elim.turn {L R : List W2} {P : List Nat} {place : Nat} (h : Elim L R P place) (h1 : P.length < R.length) (h2 : hX (R.getD P.length zW) place = true) : Elim L (turnL R P.length place R.length) (P ++ [place]) (place + 1) := by
  have hg := fun k hk => turn_get R P.length place R.length k hk
  have hlow : ∀ p, p < place → hX (R.getD P.length zW) p = false := h.rest _ (Nat.le_refl _) h1
  have hP : ∀ i, i < P.length → (P ++ [place]).getD i 0 = P.getD i 0 := fun i hi => by simp [List.getD, List.getElem?_append_left hi]
  have hPe : (P ++ [place]).getD P.length 0 = place := by simp [List.getD]
  have hPlt : ∀ i, i < P.length → P.getD i 0 < place := fun i hi => h.lt _ (by rw [List.getD, List.getElem?_eq_getElem hi]; exact List.getElem_mem hi)
  have hlen : (P ++ [place]).length = P.length + 1 := by simp
  refine ⟨by rw [turn_len, hlen]; omega, fun i hi => ?_, fun i hi j hj hji => ?_, fun i hi p hp => ?_, fun j hj hj2 p hp => ?_, ?_, fun p hp => ?_, fun y => (turn_span R _ _ _ h1 y).trans (h.span y)⟩
  · rw [hlen] at hi
    rcases (by omega : i < P.length ∨ i = P.length) with hi | rfl
    · rw [hP i hi, hg i (by omega)]
      have := h.own i hi
      split
      · rw [hX_add, this, hlow _ (hPlt i hi)]; rfl
      · exact this
    · rw [hPe, turn_d _ _ _ _ h1]; exact h2
  · rw [hlen] at hi
    rw [turn_len] at hj
    rcases (by omega : i < P.length ∨ i = P.length) with hi | rfl
    · rw [hP i hi, hg j hj]
      have := h.alone i hi j hj hji
      split
      · rw [hX_add, this, hlow _ (hPlt i hi)]; rfl
      · exact this
    · rw [hPe, hg j hj]
      cases hx : hX (R.getD j zW) place with
      | true => rw [if_pos ⟨hj, hji, rfl⟩, hX_add, hx, h2]; rfl
      | false => rw [if_neg (by simp)]; exact hx
  · rw [hlen] at hi
    rcases (by omega : i < P.length ∨ i = P.length) with hi | rfl
    · rw [hP i hi] at hp
      rw [hg i (by omega)]
      have := h.low i hi p hp
      split
      · rw [hX_add, this, hlow _ (by have := hPlt i hi; omega)]; rfl
      · exact this
    · rw [hPe] at hp
      rw [turn_d _ _ _ _ h1]; exact hlow p hp
  · rw [hlen] at hj
    rw [turn_len] at hj2
    rw [hg j hj2]
    rcases (by omega : p < place ∨ p = place) with hp | rfl
    · have := h.rest j (by omega) hj2 p hp
      split
      · rw [hX_add, this, hlow p hp]; rfl
      · exact this
    · cases hx : hX (R.getD j zW) p with
      | true => rw [if_pos ⟨hj2, by omega, rfl⟩, hX_add, hx, h2]; rfl
      | false => rw [if_neg (by simp)]; exact hx
  · refine List.pairwise_append.2 ⟨h.rise, List.pairwise_singleton .., fun a ha b hb => ?_⟩
    rw [List.mem_singleton.1 hb]; exact h.lt a ha
  · rcases List.mem_append.1 hp with hp | hp
    · exact Nat.lt_succ_of_lt (h.lt p hp)
    · rw [List.mem_singleton.1 hp]; exact Nat.lt_succ_self _
end Go.Proofs.Ytbbjpjkclealfaa
namespace Go.Proofs.Ytbbjpjkclealfaa
open Go
set_option linter.unusedVariables false
set_option linter.unusedSimpArgs false
attribute [local irreducible] pivX

theorem Elim.piv {L R : List W2} {P : List Nat} {place : Nat} (h : Elim L R P place) (i : Nat) (hi : i < P.length) : ordX.piv (R.getD i zW) = P.getD i 0 :=
  ordX.uniq _ _ (h.own i hi) (h.low i hi)
theorem pair_getD {L : List W2} {Q : W2 → W2 → Prop} (h : ∀ i j, i < j → j < L.length → Q (L.getD i zW) (L.getD j zW)) : L.Pairwise Q := by
  refine List.pairwise_iff_getElem.2 fun i j hi hj hij => ?_
  have := h i j hij hj
  simpa [List.getD, hi, hj] using this
theorem take_getD (R : List W2) (n i : Nat) (hi : i < n) : (R.take n).getD i zW = R.getD i zW := by
  simp [List.getD, hi]
/-- the rows with places, and those without any -/
theorem Elim.inv {L R : List W2} {P : List Nat} (h : Elim L R P 2016) : Inv ordX (R.take P.length) (R.drop P.length) L := by
  have hl : (R.take P.length).length = P.length := by rw [List.length_take]; have := h.len; omega
  have hb : ∀ b ∈ R.take P.length, ∃ i, i < P.length ∧ R.getD i zW = b := by
    intro b hb
    obtain ⟨i, hi, e⟩ := mem_at hb
    rw [hl] at hi
    exact ⟨i, hi, by rw [← e, take_getD _ _ _ hi]⟩
  refine ⟨⟨fun b hbm => ?_, ?_⟩, fun b hbm k hk => ?_, fun z hz => ?_, fun y => ?_⟩
  · obtain ⟨i, hi, rfl⟩ := hb b hbm
    show hX _ (ordX.piv _) = true
    rw [h.piv i hi]; exact h.own i hi
  · refine pair_getD fun i j hij hj => ?_
    rw [hl] at hj
    rw [take_getD _ _ _ hj, take_getD _ _ _ (by omega), h.piv i (by omega), h.piv j hj]
    have := h.len
    exact ⟨h.alone j hj i (by omega) (by omega), h.alone i (by omega) j (by omega) (by omega)⟩
  · obtain ⟨i, hi, rfl⟩ := hb b hbm
    rw [h.piv i hi] at hk
    exact h.low i hi k hk
  · obtain ⟨j, hj, e⟩ := List.mem_iff_getElem.1 hz
    rw [List.getElem_drop] at e
    rw [List.length_drop] at hj
    refine bare_of ordX fun p => ?_
    have hg : R.getD (P.length + j) zW = z := by rw [List.getD, List.getElem?_eq_getElem (by omega)]; exact e
    show hX z p = false
    rw [← hg]
    by_cases hp : p < 2016
    · exact h.rest _ (by omega) (by omega) p hp
    · exact hX_end _ _ (by omega)
  · rw [List.take_append_drop]; exact h.span y
theorem Elim.zeros {L R : List W2} {P : List Nat} (h : Elim L R P 2016) : ∀ z ∈ R.drop P.length, z = zW := fun z hz => (bareX z).1 (h.inv.bare z hz)
theorem Elim.base {L R : List W2} {P : List Nat} (h : Elim L R P 2016) (y : W2) : Span grpW (· ∈ R.take P.length) y ↔ Span grpW (· ∈ L) y := by
  rw [← h.inv.span y]
  constructor
  · exact Span.mono fun v hv => List.mem_append_left _ hv
  · refine Span.le fun v hv => ?_
    rcases List.mem_append.1 hv with hv | hv
    · exact .of hv
    · rw [h.zeros v hv]; exact .zero
/-- those of keys -/
theorem Elim.keysInv {L R : List W2} {P : List Nat} (h : Elim L R P 2016) : Inv ordW ((R.take P.length).filter fun b => !ordW.bare b) ((R.take P.length).filter fun b => ordW.bare b) L := by
  have hI := h.inv
  have hpiv : ∀ b ∈ (R.take P.length).filter (fun b => !ordW.bare b), ordX.piv b < 1984 ∧ ordW.piv b = keyP (ordX.piv b) := by
    intro b hb
    obtain ⟨hb1, hb2⟩ := List.mem_filter.1 hb
    have hlt : ordX.piv b < 1984 := by
      refine Classical.byContradiction fun hn => ?_
      have : ordW.bare b = true := (bareW_iff b).2 fun p hp => hI.low b hb1 p (by show p < ordX.piv b; omega)
      rw [this] at hb2; cases hb2
    exact ⟨hlt, piv_WX hlt (hI.redu.1 b hb1) (hI.low b hb1)⟩
  have hhas : ∀ (v b : W2), b ∈ (R.take P.length).filter (fun b => !ordW.bare b) → ordW.has v (ordW.piv b) = hX v (ordX.piv b) := by
    intro v b hb
    obtain ⟨h1, h2⟩ := hpiv b hb
    rw [h2]
    show decide (keyP (ordX.piv b) ∈ v.1.1) = hasX v.1 _
    unfold hasX
    rw [if_pos h1]
  refine ⟨⟨fun b hb => ?_, ?_⟩, fun b hb k hk => ?_, fun z hz => (List.mem_filter.1 hz).2, fun y => ?_⟩
  · show ordW.has b (ordW.piv b) = true
    rw [hhas b b hb]; exact hI.redu.1 b (List.mem_filter.1 hb).1
  · have hp := hI.redu.2.sublist (List.filter_sublist (p := fun b => !ordW.bare b))
    refine (List.Pairwise.and_mem.1 hp).imp ?_
    rintro b c ⟨hb, hc, h1, h2⟩
    refine ⟨?_, ?_⟩
    · show ordW.has b (ordW.piv c) = false
      rw [hhas b c hc]; exact h1
    · show ordW.has c (ordW.piv b) = false
      rw [hhas c b hb]; exact h2
  · obtain ⟨h1, h2⟩ := hpiv b hb
    obtain ⟨g1, g2⟩ := hX_right h1 (hI.redu.1 b (List.mem_filter.1 hb).1)
    show decide (k ∈ b.1.1) = false
    refine decide_eq_false fun hm => ?_
    have ho := ((keysR_iff b.1.1).1 b.2.1).1 k hm
    rw [h2] at hk
    have h3 := (key_lt ho (key_ok g1)).1 hk
    rw [key_place] at h3
    have h4 : hX b (placeK k) = false := hI.low b (List.mem_filter.1 hb).1 _ h3
    rw [hX_key b ho] at h4
    simp [hm] at h4
  · rw [← h.base y]
    constructor
    · refine Span.mono fun v hv => ?_
      rcases List.mem_append.1 hv with hv | hv
      · exact (List.mem_filter.1 hv).1
      · exact (List.mem_filter.1 hv).1
    · refine Span.mono fun v hv => ?_
      cases hb : ordW.bare v with
      | true => exact List.mem_append_right _ (List.mem_filter.2 ⟨hv, hb⟩)
      | false => exact List.mem_append_left _ (List.mem_filter.2 ⟨hv, by rw [hb]; rfl⟩)
theorem Elim.bare_at {L R : List W2} {P : List Nat} (h : Elim L R P 2016) (i : Nat) (hi : i < P.length) : ordW.bare (R.getD i zW) = !decide (P.getD i 0 < 1984) := by
  by_cases hp : P.getD i 0 < 1984
  · cases hb : ordW.bare (R.getD i zW) with
    | false => rw [decide_eq_true hp]; rfl
    | true =>
      have := (bareW_iff _).1 hb _ hp
      rw [h.own i hi] at this; cases this
  · have : ordW.bare (R.getD i zW) = true := (bareW_iff _).2 fun p hp2 => h.low i hi p (by omega)
    rw [this, decide_eq_false hp]; rfl
/-- how many places of keys there are -/
def ofKeysN (P : List Nat) : Nat := (P.filter fun p => decide (p < 1984)).length
theorem filter_len {A B : Type} : ∀ (l : List A) (m : List B) (f : A → Bool) (g : B → Bool), l.length = m.length → (∀ (i : Nat) (h1 : i < l.length) (h2 : i < m.length), f l[i] = g m[i]) → (l.filter f).length = (m.filter g).length
  | [], [], f, g, _, _ => rfl
  | [], b :: m, f, g, h, _ => by simp at h
  | a :: l, [], f, g, h, _ => by simp at h
  | a :: l, b :: m, f, g, h, he => by
    have ih := filter_len l m f g (by simpa using h) fun i h1 h2 => by
      have := he (i + 1) (by simpa using h1) (by simpa using h2)
      simpa using this
    have h0 := he 0 (by simp) (by simp)
    simp only [List.getElem_cons_zero] at h0
    rw [List.filter_cons, List.filter_cons, h0]
    split
    · simp [ih]
    · exact ih
theorem Elim.rank {L R : List W2} {P : List Nat} (h : Elim L R P 2016) : ofKeysN P = (baseG ordW L).1.length := by
  have hl : (R.take P.length).length = P.length := by rw [List.length_take]; have := h.len; omega
  have e : ofKeysN P = ((R.take P.length).filter fun b => !ordW.bare b).length := by
    refine filter_len _ _ _ _ hl.symm fun i h1 h2 => ?_
    have hb := h.bare_at i h1
    rw [List.getElem_take]
    have hr : i < R.length := by have := h.len; omega
    rw [List.getD, List.getElem?_eq_getElem hr, List.getD, List.getElem?_eq_getElem h1] at hb
    simp only [Option.getD_some] at hb
    rw [hb]; simp
  rw [e]
  exact Nat.le_antisymm (inv_le ordW h.keysInv (base_inv ordW L) fun y hy => hy) (inv_le ordW (base_inv ordW L) h.keysInv fun y hy => hy)
/-- the word without the places of rows, one row after another -/
def lessX (R : List W2) (P : List Nat) (x : W2) : Nat → W2
  | 0 => x
  | i + 1 => if hX (lessX R P x i) (P.getD i 0) = true then grpW.add (lessX R P x i) (R.getD i zW) else lessX R P x i
theorem Elim.lessX_eq {L R : List W2} {P : List Nat} (h : Elim L R P 2016) (x : W2) : ∀ i, i ≤ P.length → lessX R P x i = lessG ordX.toPla (R.take i) x
  | 0, _ => rfl
  | i + 1, hi => by
    have ih := h.lessX_eq x i (by omega)
    have hr : i < R.length := by have := h.len; omega
    have e : R.take (i + 1) = R.take i ++ [R.getD i zW] := by
      rw [List.take_succ_eq_append_getElem hr, List.getD, List.getElem?_eq_getElem hr]; rfl
    rw [e]
    show _ = List.foldl (lessS ordX.toPla) x (R.take i ++ [R.getD i zW])
    rw [List.foldl_append]
    show _ = lessS ordX.toPla (lessG ordX.toPla (R.take i) x) (R.getD i zW)
    rw [← ih]
    unfold lessS
    have hp := h.piv i (by omega)
    show (if hX _ _ = true then _ else _) = if hX _ (ordX.piv _) = true then _ else _
    rw [hp]
theorem Elim.spanned {L R : List W2} {P : List Nat} (h : Elim L R P 2016) (x : W2) : Span grpW (· ∈ L) x ↔ lessX R P x P.length = zW := by
  rw [h.lessX_eq x P.length (Nat.le_refl _), ← h.base x]
  have hI := h.inv
  have := less_iff ordX.toPla (B := R.take P.length) (Z := []) hI.redu (fun z hz => by cases hz) x
  rw [List.append_nil] at this
  rw [this, Span.none_iff]
end Go.Proofs.Ytbbjpjkclealfaa
namespace Go.Proofs.Ytbbjpjkclealfaa
open Go
set_option linter.unusedVariables false
set_option linter.unusedSimpArgs false

/-- n bits as a number, the first one lowest -/
def packN (f : Nat → Bool) : Nat → Nat
  | 0 => 0
  | n + 1 => packN f n + (if f n = true then 2 ^ n else 0)
theorem packN_lt (f : Nat → Bool) : ∀ n, packN f n < 2 ^ n
  | 0 => by simp [packN]
  | n + 1 => by
    have ih := packN_lt f n
    unfold packN
    rw [Nat.pow_succ]
    split <;> omega
theorem packN_bit (f : Nat → Bool) : ∀ (n i : Nat), (packN f n).testBit i = (decide (i < n) && f i)
  | 0, i => by simp [packN]
  | n + 1, i => by
    have ih := packN_bit f n i
    have hl := packN_lt f n
    unfold packN
    by_cases hf : f n = true
    · rw [if_pos hf, Nat.add_comm, show 2 ^ n + packN f n = 2 ^ n * 1 + packN f n by omega, Nat.testBit_two_pow_mul_add 1 hl]
      by_cases hi : i < n
      · rw [if_pos hi, ih]; simp [hi, show i < n + 1 by omega]
      · rw [if_neg hi]
        by_cases he : i = n
        · subst he; simp [hf]
        · have h1 : (1 : Nat).testBit (i - n) = false := by
            rw [show i - n = (i - n - 1) + 1 by omega, Nat.testBit_succ]
            simp
          rw [h1]
          simp [show ¬ i < n + 1 by omega]
    · rw [if_neg hf, Nat.add_zero, ih]
      by_cases he : i = n
      · subst he
        have : f i = false := by simpa using hf
        simp [this]
      · by_cases hi : i < n
        · simp [hi, show i < n + 1 by omega]
        · simp [hi, show ¬ i < n + 1 by omega]
theorem packN_eq (f : Nat → Bool) (n m : Nat) (hm : m < 2 ^ n) (h : ∀ i, i < n → m.testBit i = f i) : packN f n = m := by
  refine Nat.eq_of_testBit_eq fun i => ?_
  rw [packN_bit]
  by_cases hi : i < n
  · rw [h i hi]; simp [hi]
  · rw [Nat.testBit_lt_two_pow (Nat.lt_of_lt_of_le hm (Nat.pow_le_pow_right (by decide) (by omega)))]; simp [hi]
theorem packN_congr {f h : Nat → Bool} {n : Nat} (e : ∀ i, i < n → f i = h i) : packN f n = packN h n := by
  refine packN_eq f n _ (packN_lt h n) fun i hi => ?_
  rw [packN_bit, e i hi]; simp [hi]
theorem packN_xor (f h : Nat → Bool) (n : Nat) : packN f n ^^^ packN h n = packN (fun i => f i != h i) n := by
  refine (packN_eq _ n _ (Nat.xor_lt_two_pow (packN_lt f n) (packN_lt h n)) fun i hi => ?_).symm
  rw [Nat.testBit_xor, packN_bit, packN_bit]; simp [hi]
theorem packN_or (f : Nat → Bool) (n k : Nat) (hk : k < n) : packN f n ||| 2 ^ k = packN (fun i => f i || decide (i = k)) n := by
  refine (packN_eq _ n _ (Nat.or_lt_two_pow (packN_lt f n) (Nat.pow_lt_pow_right (by decide) hk)) fun i hi => ?_).symm
  rw [Nat.testBit_or, packN_bit, Nat.testBit_two_pow]
  by_cases e : k = i
  · subst e; simp [hi]
  · simp [hi, e, Ne.symm e]
theorem packN_shr (f : Nat → Bool) (n i : Nat) (hi : i < n) : packN f n / 2 ^ i % 2 = if f i = true then 1 else 0 := by
  have h := packN_bit f n i
  rw [Nat.testBit_eq_decide_div_mod_eq] at h
  simp only [hi, decide_true, Bool.true_and] at h
  have h2 : packN f n / 2 ^ i % 2 < 2 := Nat.mod_lt _ (by decide)
  cases hf : f i with
  | true => rw [hf] at h; have := of_decide_eq_true h; simp; omega
  | false => rw [hf] at h; have := of_decide_eq_false h; simp; omega
/-- the j-th number of a row -/
def rowB (f : Nat → Bool) (j : Nat) : Nat := packN (fun i => f (64 * j + i)) 64
theorem rowB_lt (f : Nat → Bool) (j : Nat) : rowB f j < 18446744073709551616 := packN_lt _ 64
theorem rowB_bit (f : Nat → Bool) (p : Nat) : rowB f (p / 64) / 2 ^ (p % 64) % 2 = if f p = true then 1 else 0 := by
  have h := packN_shr (fun i => f (64 * (p / 64) + i)) 64 (p % 64) (Nat.mod_lt _ (by decide))
  rw [show 64 * (p / 64) + p % 64 = p by omega] at h
  exact h
theorem rowB_xor (f h : Nat → Bool) (j : Nat) : rowB f j ^^^ rowB h j = rowB (fun p => f p != h p) j := packN_xor _ _ 64
theorem rowB_or_same (f : Nat → Bool) (p : Nat) : rowB f (p / 64) ||| 2 ^ (p % 64) = rowB (fun q => f q || decide (q = p)) (p / 64) := by
  unfold rowB
  rw [packN_or _ _ _ (Nat.mod_lt _ (by decide))]
  refine packN_congr fun i hi => ?_
  congr 1
  rw [decide_eq_decide]
  omega
theorem rowB_or_other (f : Nat → Bool) (p j : Nat) (h : j ≠ p / 64) : rowB f j = rowB (fun q => f q || decide (q = p)) j := by
  unfold rowB
  refine packN_congr fun i hi => ?_
  have : ¬ 64 * j + i = p := by omega
  simp [this]
theorem rowB_congr {f h : Nat → Bool} (j : Nat) (e : ∀ i, i < 64 → f (64 * j + i) = h (64 * j + i)) : rowB f j = rowB h j := packN_congr e
theorem rowB_inj {f h : Nat → Bool} (e : ∀ j, j < 32 → rowB f j = rowB h j) (p : Nat) (hp : p < 2048) : f p = h p := by
  have h1 := rowB_bit f p
  rw [e (p / 64) (by omega), rowB_bit h p] at h1
  revert h1
  cases f p <;> cases h p <;> simp
/-- the numbers of a row, as they lie -/
def rowV (f : Nat → Bool) : List Value := (List.range 32).map fun j => Value.int .u64 ((rowB f j : Nat) : Int)
theorem rowV_len (f : Nat → Bool) : (rowV f).length = 32 := by simp [rowV]
theorem rowV_get (f : Nat → Bool) (j : Nat) (hj : j < 32) : (rowV f)[j]? = some (.int .u64 ((rowB f j : Nat) : Int)) := by simp [rowV, hj]
theorem rowV_one (f : Nat → Bool) : ∀ u ∈ rowV f, u.oneCell' = true := by
  intro u hu
  obtain ⟨j, _, rfl⟩ := List.mem_map.1 hu
  rfl
theorem rowV_congr {f h : Nat → Bool} (e : ∀ p, p < 2048 → f p = h p) : rowV f = rowV h := by
  unfold rowV
  refine List.map_congr_left fun j hj => ?_
  have hj' := List.mem_range.1 hj
  rw [rowB_congr j fun i hi => e _ (by omega)]
theorem rowV_inj {f h : Nat → Bool} (e : rowV f = rowV h) (p : Nat) (hp : p < 2048) : f p = h p := by
  refine rowB_inj (fun j hj => ?_) p hp
  have h1 := rowV_get f j hj
  rw [e, rowV_get h j hj] at h1
  have h2 := Option.some.inj h1
  injection h2 with _ h3
  omega
theorem u64_xor (n m : Nat) (hn : n < 18446744073709551616) (hm : m < 18446744073709551616) : bits .xor .u64 (n : Int) (m : Int) = ((n ^^^ m : Nat) : Int) := by
  have hx := Nat.xor_lt_two_pow (n := 64) hn hm
  show IntKind.u64.wrap ((BitVec.ofInt 64 (n : Int) ^^^ BitVec.ofInt 64 (m : Int)).toNat : Nat) = _
  rw [bv_nat, bv_nat, BitVec.toNat_xor, BitVec.toNat_ofNat, BitVec.toNat_ofNat, Nat.mod_eq_of_lt (by omega), Nat.mod_eq_of_lt (by omega)]
  generalize n ^^^ m = z at *
  rw [IntKind.wrap_u64]; omega
theorem u64_or (n m : Nat) (hn : n < 18446744073709551616) (hm : m < 18446744073709551616) : bits .or .u64 (n : Int) (m : Int) = ((n ||| m : Nat) : Int) := by
  have hx := Nat.or_lt_two_pow (n := 64) hn hm
  show IntKind.u64.wrap ((BitVec.ofInt 64 (n : Int) ||| BitVec.ofInt 64 (m : Int)).toNat : Nat) = _
  rw [bv_nat, bv_nat, BitVec.toNat_or, BitVec.toNat_ofNat, BitVec.toNat_ofNat, Nat.mod_eq_of_lt (by omega), Nat.mod_eq_of_lt (by omega)]
  generalize n ||| m = z at *
  rw [IntKind.wrap_u64]; omega
theorem u64_and1 (n : Nat) (hn : n < 18446744073709551616) : bits .and .u64 (n : Int) 1 = ((n % 2 : Nat) : Int) := by
  show IntKind.u64.wrap ((BitVec.ofInt 64 (n : Int) &&& BitVec.ofInt 64 ((1 : Nat) : Int)).toNat : Nat) = _
  rw [bv_nat, bv_nat, BitVec.toNat_and, BitVec.toNat_ofNat, BitVec.toNat_ofNat, Nat.mod_eq_of_lt (by omega), Nat.mod_eq_of_lt (by omega), Nat.and_one_is_mod]
  have : n % 2 < 2 := Nat.mod_lt _ (by decide)
  rw [IntKind.wrap_u64]; omega
end Go.Proofs.Ytbbjpjkclealfaa
namespace Go.Proofs.Ytbbjpjkclealfaa
open Go.ChangeShapes Go.WideShapes Go.ChangeAt Go.RowKit Go.BigFrame
set_option linter.unusedVariables false

set_option maxRecDepth 100000 in
theorem ihas_any (g o : Nat) (f : Nat → Bool) (p : Nat) (hp : p < 2048) (w : World) (h : w.rangeAt g o (rowV f)) :
    Calls Try.prog 49 #[.pointer (some ⟨g, o, none⟩), .int .i64 (p : Int)] w fun e w' => e = .returned (.bool (f p)) ∧ w' = w := by
  have hc := h (p / 64) _ (rowV_get f (p / 64) (by omega))
  have hb := rowB_bit f p
  have hlt := rowB_lt f (p / 64)
  generalize rowB f (p / 64) = n at *
  have hq : (bits .and .u64 ((n : Int) / 2 ^ (p % 64)) 1 == 1) = f p := by
    have h1 : (n : Int) / 2 ^ (p % 64) = ((n / 2 ^ (p % 64) : Nat) : Int) := by rw [Int.natCast_ediv, Int.natCast_pow]; rfl
    have h2 : n / 2 ^ (p % 64) < 18446744073709551616 := Nat.lt_of_le_of_lt (Nat.div_le_self _ _) hlt
    rw [h1, u64_and1 _ h2, hb]
    cases f p <;> rfl
  have HQ := Lib.hid hq
  clear hq hb hlt
  have e3 : (0 : Int) ≤ ((p / 64 : Nat) : Int) := by omega
  have e4 : ((p / 64 : Nat) : Int) < 32 := by omega
  clear h
  go_enter Try.func49, Try.ntmps49
  go_wp2
  go_ret
  exact ⟨by rw [HQ.out]; rfl, rfl⟩
/-- the same heap, nothing told; what was drawn aside -/
structure Alike (w w' : World) : Prop where
  heap : w'.heap = w.heap
  os : w'.os = w.os
  tape : w'.tape = w.tape
  output : w'.output = w.output
theorem Alike.refl (w : World) : Alike w w := ⟨rfl, rfl, rfl, rfl⟩
theorem Alike.cell {w w' : World} (h : Alike w w') (a : Addr) : w'.cell? a = w.cell? a := by simp [World.cell?, h.heap]
theorem Alike.frozen {w w' : World} (h : Alike w w') (a : Addr) : w'.frozen? a = w.frozen? a := by simp [World.frozen?, h.heap]
theorem Alike.setCell {w w' : World} (h : Alike w w') (a : Addr) (v : Value) : Alike (w.setCell a v) (w'.setCell a v) :=
  ⟨by simp [World.setCell, h.heap], h.os, h.tape, h.output⟩
theorem Alike.drew {w w' : World} (h : Alike w w') : Alike w w'.drew := ⟨h.heap, h.os, h.tape, h.output⟩
theorem Alike.trans {a b c : World} (h : Alike a b) (k : Alike b c) : Alike a c := ⟨k.heap.trans h.heap, k.os.trans h.os, k.tape.trans h.tape, k.output.trans h.output⟩
theorem Alike.below {w w' : World} {n : Nat} (h : Alike w w') : Below n w w' := ⟨h.os, h.tape, h.output, by rw [h.heap]; exact Nat.le_refl _, fun k _ => by rw [h.heap]⟩
theorem Alike.own {w w' : World} (h : Alike w w') {base n : Nat} {e : TypeId} {size : Nat} {v : Value} {xs : List Value} (ho : w.ownsRow base e size v n xs) : w'.ownsRow base e size v n xs := by
  unfold World.ownsRow at *
  rw [h.heap]; exact ho
theorem setCells_snoc (b : Nat) (v : Value) : ∀ (vs : List Value) (o : Nat) (w : World), w.setCells b o (vs ++ [v]) = (w.setCells b o vs).setCell ⟨b, o + vs.length, none⟩ v
  | [], o, w => by simp [World.setCells]
  | u :: vs, o, w => by
    rw [List.cons_append, World.setCells, World.setCells, setCells_snoc b v vs (o + 1) _]
    congr 2
    simp only [List.length_cons]; omega
set_option maxRecDepth 100000 in
set_option maxHeartbeats 1000000 in
theorem iturn_any (g o : Nat) (f : Nat → Bool) (g' o' : Nat) (h : Nat → Bool) (w : World) (hf : w.rangeAt g o (rowV f)) (hh : w.rangeAt g' o' (rowV h)) (ht : w.there g o 32) (hap : g' ≠ g ∨ o' + 32 ≤ o ∨ o + 32 ≤ o') :
    Calls Try.prog 50 #[.pointer (some ⟨g, o, none⟩), .pointer (some ⟨g', o', none⟩)] w fun e w' => e = .returned (.tuple #[]) ∧ Alike (w.setCells g o (rowV fun p => f p != h p)) w' := by
  have hlen := rowV_len fun p => f p != h p
  go_enter Try.func50, Try.ntmps50
  go_wp2_with fail
  go_loopw [5] (fun i wr => ∃ k : Nat, k ≤ 32 ∧ i = .int .i64 k ∧ Alike (w.setCells g o ((rowV fun p => f p != h p).take k)) wr) (fun i _ => 32 - (intOf i).toNat)
  case atStart => exact ⟨0, Nat.zero_le _, rfl, Alike.refl _⟩
  case round =>
    obtain ⟨k, hk, rfl, hA⟩ := hrel
    rename_i wr
    by_cases hlt : k < 32
    · have z0 : (0 : Int) ≤ (k : Int) := by omega
      have z1 : (k : Int) < 32 := by omega
      have hkl : ((rowV fun p => f p != h p).take k).length = k := by rw [List.length_take, hlen]; omega
      have c1 : wr.cell? ⟨g, o + k, none⟩ = some (.int .u64 (rowB f k : Nat)) := by
        rw [hA.cell, World.cell?_setCells_out g _ o w ⟨g, o + k, none⟩ (fun _ _ => by rw [hkl]; right; show o + k ≤ o + k; omega)]
        exact hf k _ (rowV_get f k hlt)
      have c2 : wr.cell? ⟨g', o' + k, none⟩ = some (.int .u64 (rowB h k : Nat)) := by
        rw [hA.cell, World.cell?_setCells_out g _ o w ⟨g', o' + k, none⟩ (fun hb _ => by
          rw [hkl]
          have hb' : g' = g := hb
          rcases hap with hap | hap | hap
          · exact absurd hb' hap
          · left; show o' + k < o; omega
          · right; show o + k ≤ o' + k; omega)]
        exact hh k _ (rowV_get h k hlt)
      have c3 : wr.frozen? ⟨g, o + k, none⟩ = false := by
        rw [hA.frozen, World.frozen?_setCells]; exact (ht k hlt).2
      have hx := u64_xor (rowB f k) (rowB h k) (rowB_lt f k) (rowB_lt h k)
      rw [rowB_xor] at hx
      have hst : Alike (w.setCells g o ((rowV fun p => f p != h p).take (k + 1))) (wr.setCell ⟨g, o + k, none⟩ (.int .u64 (rowB (fun p => f p != h p) k : Nat))) := by
        rw [List.take_add_one, rowV_get _ k hlt]
        show Alike (w.setCells g o (_ ++ [_])) _
        rw [setCells_snoc, hkl]
        exact hA.setCell _ _
      have HST := Lib.hid hst
      clear hst hf hh ht hap hkl hlen hA
      go_wp2_with fail
      go_region_with (fail)
      all_goals
        go_wp2
        exact ⟨⟨k + 1, by omega, by go_num, by first | exact HST.out | exact HST.out.drew⟩, by simp [intOf]; omega⟩
    · obtain rfl : k = 32 := by omega
      rw [List.take_of_length_le (by omega)] at hA
      have HA := Lib.hid hA
      clear hA hf hh ht hap
      go_wp2
      go_end0
      exact ⟨rfl, HA.out⟩
end Go.Proofs.Ytbbjpjkclealfaa
namespace Go.Proofs.Ytbbjpjkclealfaa
open Go.RowKit Go.Shelf
attribute [local go_sem] Oper.semAt_some
set_option linter.unusedVariables false

/-- the slice value v leads to the keys ks, in blocks below n₀ -/
def keysIn0 (n₀ : Nat) (w : World) (v : Value) (ks : List K2) : Prop :=
  ∃ a cap, v = .slice a ks.length cap ∧ ks.length ≤ cap ∧ (ks.length = 0 ∨ ∃ g off, a = some ⟨g, off, none⟩ ∧ g < n₀ ∧ g < w.heap.size ∧
    ∀ i, i < ks.length → w.cell? ⟨g, off + i * 2, none⟩ = some (.int .i64 (ks.getD i (0, 0)).1) ∧ w.cell? ⟨g, off + i * 2 + 1, none⟩ = some (.int .i64 (ks.getD i (0, 0)).2))
theorem keysIn0.below {n₀ : Nat} {w w' : World} {v : Value} {ks : List K2} (h : keysIn0 n₀ w v ks) (hb : Below n₀ w w') : keysIn0 n₀ w' v ks := by
  obtain ⟨a, cap, h1, h2, h3⟩ := h
  refine ⟨a, cap, h1, h2, h3.imp_right ?_⟩
  rintro ⟨g, off, h4, h0, h5, h6⟩
  refine ⟨g, off, h4, h0, Nat.lt_of_lt_of_le h5 hb.size, fun i hi => ?_⟩
  rw [hb.cell (p := ⟨g, off + i * 2, none⟩) h0, hb.cell (p := ⟨g, off + i * 2 + 1, none⟩) h0]
  exact h6 i hi
theorem keysIn0.at {n₀ : Nat} {w : World} {v : Value} {ks : List K2} (h : keysIn0 n₀ w v ks) : keysAt w v ks := by
  obtain ⟨a, cap, h1, h2, h3⟩ := h
  exact ⟨a, cap, h1, h2, h3.imp_right fun ⟨g, off, h4, _, h5, h6⟩ => ⟨g, off, h4, h5, h6⟩⟩
theorem keysIn0_of {w : World} {v : Value} {ks : List K2} (h : keysAt w v ks) : keysIn0 w.heap.size w v ks := by
  obtain ⟨a, cap, h1, h2, h3⟩ := h
  exact ⟨a, cap, h1, h2, h3.imp_right fun ⟨g, off, h4, h5, h6⟩ => ⟨g, off, h4, h5, h5, h6⟩⟩

theorem kin_any (a : Option Addr) (n c : Nat) (w : World) :
    Calls Try.prog 91 #[.slice a n c] w fun e w' => e = .returned (.func (.func 111) #[] #[.pointer (some ⟨w.heap.size, 0, none⟩)]) ∧ w' = w.alloc (.cells #[.slice a n c] 25) := by
  go_enter Try.func91, Try.ntmps91
  go_wp2
  go_ret
  exact ⟨rfl, rfl⟩

end Go.Proofs.Ytbbjpjkclealfaa
namespace Go.Proofs.Ytbbjpjkclealfaa
open Go.RowKit Go.Shelf
attribute [local go_sem] Oper.semAt_some
set_option linter.unusedVariables false

/-- a right key -/
abbrev RK := { k : K2 // keyOkB k = true }
def rk0 : RK := ⟨(1, 1), by decide⟩
theorem rk_len (ks : List RK) : (ks.map (·.1)).length = ks.length := List.length_map ..
theorem rk_get (ks : List RK) (k : Nat) (hk : k < ks.length) : (ks.map (·.1)).getD k (0, 0) = (ks.getD k rk0).1 := by simp [List.getD, hk]
set_option maxRecDepth 100000 in
set_option maxHeartbeats 1000000 in
/-- the iterator's closure: every key, in order, or as far as the round says -/
theorem kir_in (n l Bn n₀ : Nat) (v : Value) (ks : List RK) (hs : ks.length ≤ 8000000) (hn : 1 ≤ n) (J Jx : List RK → World → Prop)
    (hJ : ∀ s W W', J s W → W.grownBy W' none → J s W')
    (hY : ∀ pre x W, J pre W → pre.length < ks.length → YieldAt Fence.wide (n - 1) Try.prog l #[kv x.1] W fun e W' =>
      (e = .returned (.bool true) ∧ J (pre ++ [x]) W' ∧ Below n₀ W W') ∨ (e = .returned (.bool false) ∧ Jx (pre ++ [x]) W'))
    (W : World) (hBn : W.cell? ⟨Bn, 0, none⟩ = some v) (hk : keysIn0 n₀ W v (ks.map (·.1))) (hn₀ : n₀ ≤ W.heap.size) (h0 : J [] W) :
    CallsIn Fence.wide n Try.prog 111 #[.func (.yield l) #[] #[], .pointer (some ⟨Bn, 0, none⟩)] W fun e W' => (∃ v, e = .returned v) ∧
      ((∃ ys : List RK, ys = ks ∧ J ys W') ∨ (∃ pre : List RK, pre <+: ks ∧ Jx pre W')) := by
  refine callsIn_of_wp Try.func111 rfl trivial ?_ rfl
  simp only [Try.ntmps111, List.size_toArray, List.length_cons, List.length_nil, Nat.reduceAdd, Nat.reduceSub, Array.replicate_succ, Array.replicate_zero, List.push_toArray, List.append_toArray, List.nil_append, List.cons_append]
  obtain ⟨a, cap, rfl, hcap, hcells⟩ := id hk
  rw [rk_len] at *
  gi_wp2
  gi_loopw [7] (fun p wr => ∃ (k : Nat), p = .int .i64 k ∧ k ≤ ks.length ∧ keysIn0 n₀ wr (.slice a ks.length cap) (ks.map (·.1)) ∧ n₀ ≤ wr.heap.size ∧ J (ks.take k) wr)
    (fun p wr => ks.length + 1 - (intOf p).toNat)
  case atStart => exact ⟨0, rfl, Nat.zero_le _, hk, hn₀, h0⟩
  case round =>
    obtain ⟨k, rfl, hk1, hkw, hnw, hJs⟩ := hrel
    by_cases hlt : k < ks.length
    · have hkw' := hkw
      obtain ⟨a2, cap2, hv2, _, hcs⟩ := hkw
      rw [rk_len] at hv2 hcs
      cases hv2
      obtain ⟨g, off, rfl, hg0, hg, hcs⟩ := hcs.resolve_left (by omega)
      have c1 := hcs k hlt
      rw [rk_get ks k hlt] at c1
      have C1 := c1.1
      have C2 := c1.2
      have hks : ks.take (k + 1) = ks.take k ++ [ks.getD k rk0] := by rw [List.take_add_one]; simp [List.getD, hlt]
      have hlen : (ks.take k).length < ks.length := by simp; omega
      have z0 : (0 : Int) ≤ (k : Int) := by omega
      have z1 : (k : Int) < (ks.length : Int) := by omega
      clear hcs c1 hcells
      generalize ks.getD k rk0 = kx at *
      obtain ⟨⟨p, q⟩, hpq⟩ := kx
      have HKS := Lib.hid hks; clear hks
      dsimp only at C1 C2
      have hJa : J (ks.take k) ((wr.alloc (.cells #[.int .i64 p, .int .i64 q] 41))) := hJ _ _ _ hJs (World.grownBy_alloc wr _ none)
      have hka : keysIn0 n₀ (wr.alloc (.cells #[.int .i64 p, .int .i64 q] 41)) (.slice (some ⟨g, off, none⟩) ks.length cap) (ks.map (·.1)) := hkw'.below ((Below.refl _ _).alloc hnw _)
      have hsa : n₀ ≤ (wr.alloc (.cells #[.int .i64 p, .int .i64 q] 41)).heap.size := by simp; omega
      obtain ⟨fn, tmps, assign, body, hy, hR⟩ := hY (ks.take k) ⟨(p, q), hpq⟩ _ hJa hlen
      unfold kv at hy
      dsimp only at hy
      clear hY hJa
      gi_wp2
      refine hR.mono ?_
      rintro e W3 (⟨rfl, hJ3, hk3⟩ | ⟨rfl, hJx3⟩)
      · have hk3' := hka.below hk3
        have hsz3 := Nat.le_trans hsa hk3.size
        rw [← HKS.out] at hJ3
        clear hka hsa hkw' C1 C2
        gi_wp2
        exact ⟨⟨k + 1, by go_num, by omega, hk3', hsz3, hJ3⟩, by simp [intOf]; omega⟩
      · rw [← HKS.out] at hJx3
        clear hka hsa hkw' C1 C2
        gi_wp2
        refine bodyPost_ret (results_none rfl _ _ _) rfl ?_
        exact ⟨⟨_, rfl⟩, .inr ⟨_, List.take_prefix _ _, hJx3⟩⟩
    · obtain rfl : k = ks.length := by omega
      rw [List.take_length] at hJs
      gi_wp2
      go_end0
      exact ⟨⟨_, rfl⟩, .inl ⟨_, rfl, hJs⟩⟩

theorem kir_stops (n Bn n₀ : Nat) (v : Value) (ks : List RK) (hs : ks.length ≤ 8000000) (hn : 1 ≤ n) (w : World) (hBn : Bn < w.heap.size) (hn₀ : n₀ ≤ w.heap.size) (hc : w.cell? ⟨Bn, 0, none⟩ = some v) (hk : keysIn0 n₀ w v (ks.map (·.1))) :
    SeqStopsK Fence.wide n Try.prog 111 #[.pointer (some ⟨Bn, 0, none⟩)] (fun x : RK => #[kv x.1]) (Below n₀) (fun ys => ys = ks) (fun pre => pre <+: ks) ks.length w :=
  fun l J Jx W hW hJ _ hY h0 => kir_in n l Bn n₀ v ks hs hn J Jx (fun s A B h hg => hJ s A B none h hg (fun r e => by cases e)) hY W ((hW.cell (p := ⟨Bn, 0, none⟩) hBn).trans hc) (hk.below (hW.mono hn₀)) (Nat.le_trans hn₀ hW.size) h0
end Go.Proofs.Ytbbjpjkclealfaa
namespace Go.Proofs.Ytbbjpjkclealfaa
open Go.ChangeShapes Go.WideShapes Go.ChangeAt Go.RowKit Go.BigFrame
set_option linter.unusedVariables false

theorem iplace_any (k : K2) (hk : keyOkB k = true) (w : World) : Calls Try.prog 92 #[kv k] w fun e w' => e = .returned (.int .i64 (placeK k : Nat)) ∧ Below w.heap.size w w' := by
  obtain ⟨⟨h1, h2⟩, h3, h4⟩ := (keyOk_iff k).1 hk
  obtain ⟨p, q⟩ := k
  dsimp only at h1 h2 h3 h4
  have e1 : IntKind.i64.wrap (p - 1) = p - 1 := IntWalk.i64_in _ (by omega)
  have e2 : IntKind.i64.wrap ((p - 1) * 99) = (p - 1) * 99 := IntWalk.i64_in _ (by omega)
  have e3 : IntKind.i64.wrap ((p - 1) * 99 + q) = (p - 1) * 99 + q := IntWalk.i64_in _ (by omega)
  have e4 : IntKind.i64.wrap ((p - 1) * 99 + q - 1) = (p - 1) * 99 + q - 1 := IntWalk.i64_in _ (by omega)
  have he : ((placeK (p, q) : Nat) : Int) = (p - 1) * 99 + q - 1 := by unfold placeK; dsimp only; omega
  have HE := Lib.hid he
  have HB := Lib.hid ((Below.refl w.heap.size w).alloc (Nat.le_refl _) (.cells #[.int .i64 p, .int .i64 q] 41))
  clear he hk h1 h2 h3 h4
  unfold kv
  dsimp only
  go_enter Try.func92, Try.ntmps92
  go_wp2
  go_ret
  exact ⟨by rw [HE.out]; rfl, HB.out⟩
end Go.Proofs.Ytbbjpjkclealfaa
namespace Go.Proofs.Ytbbjpjkclealfaa
open Go
section
variable {P : Program} {ops : Array Oper} {Q : Exit → Act → World → Prop} {md : Region.Mode} {S : World → Prop}
/-- an operation that waits for all others -/
def lastP (md : Region.Mode) (ops : Array Oper) (i : Nat) : Prop := ∃ o, ops[i]? = some o ∧ ∀ k, k < ops.size → k ≠ i → ∃ e ∈ o.after, Region.binds md e = true ∧ e.on = k
def lastB (md : Region.Mode) (ops : Array Oper) (i : Nat) : Bool := match ops[i]? with
  | some o => (List.range ops.size).all fun k => k == i || o.after.any fun e => Region.binds md e && e.on == k
  | none => false
theorem lastP_of {i : Nat} (h : lastB md ops i = true) : lastP md ops i := by
  unfold lastB at h
  split at h
  · rename_i o ho
    refine ⟨o, ho, fun k hk hne => ?_⟩
    have h1 := List.all_eq_true.1 h k (List.mem_range.2 hk)
    simp only [Bool.or_eq_true, beq_iff_eq] at h1
    rcases h1 with h1 | h1
    · exact absurd h1 hne
    · obtain ⟨j, hj, h2⟩ := Array.any_eq_true.1 h1
      simp only [Bool.and_eq_true, beq_iff_eq] at h2
      exact ⟨_, Array.getElem_mem hj, h2.1, h2.2⟩
  · cases h
/-- whatever order is picked from here on; behind each operation a sharper condition holds -/
def wpH (P : Program) (md : Region.Mode) (ops : Array Oper) (Q : Exit → Act → World → Prop) : Nat → (World → Prop) → Array Bool → Act → World → Prop
  | 0, _, listed, a, w => Region.ready md ops listed = [] ∧ Q .normal a w
  | fuel + 1, S, listed, a, w =>
    (Region.ready md ops listed = [] → Q .normal a w) ∧
    ∀ i ∈ Region.ready md ops listed, wpOp P ops Q i (fun a' w' => ((lastP md ops i ∧ Region.ready md ops (listed.setIfInBounds i true) = []) ∧ Q .normal a' w') ∨ ∃ S' : World → Prop, (∀ x, S' x → S x) ∧ S' w' ∧ wpH P md ops Q fuel S' (listed.setIfInBounds i true) a' w') a w

theorem wpAny_done {listed : Array Bool} {a : Act} {w : World} (hr : Region.ready md ops listed = []) (h : Q .normal a w) : ∀ fuel, wpAny P md ops Q fuel listed a w
  | 0 => ⟨hr, h⟩
  | _ + 1 => ⟨fun _ => h, by rw [hr]; simp⟩
theorem wpAny_of_H : ∀ (fuel : Nat) (S : World → Prop) (listed : Array Bool) (a : Act) (w : World), wpH P md ops Q fuel S listed a w → wpAny P md ops Q fuel listed a w
  | 0, _, _, _, _, h => h
  | fuel + 1, S, _, _, _, h => ⟨h.1, fun i hi => wpOp_mono (fun a' w' h' => by
      rcases h' with ⟨⟨_, h1⟩, h2⟩ | ⟨S', _, _, h'⟩
      · exact wpAny_done h1 h2 fuel
      · exact wpAny_of_H fuel S' _ a' w' h') (h.2 i hi)⟩

theorem wpH_first {i : Nat} {oi : Oper} {v : Value} (hi : ops[i]? = some oi) (hsel : ∀ (j : Nat) (o : Oper) cs b, ops[j]? = some o → o.op ≠ .select cs b)
    (hQ : ∀ c a w, Q (.panic c) (a.put oi.dst v) w → Q (.panic c) a w) :
    ∀ (fuel : Nat) (S : World → Prop) (listed : Array Bool) (a : Act) (w : World),
      (∀ j oj, ops[j]? = some oj → j ≠ i → listed.getD j true = false → (∀ e ∈ oj.after, Region.binds md e = true → e.on ≠ i) → oi.apart ops oj = true) →
      i ∈ Region.ready md ops listed → YieldsIf P ops S oi v a → S w →
      wpH P md ops Q fuel S (listed.setIfInBounds i true) (a.put oi.dst v) w → wpH P md ops Q (fuel + 1) S listed a w := by
  intro fuel
  induction fuel with
  | zero =>
    intro S listed a w _ hr hy hS H
    refine ⟨fun h => (by rw [h] at hr; cases hr), fun j hj => ?_⟩
    by_cases hji : j = i
    · subst hji; exact hy.wpOp hi hS (.inr ⟨S, fun _ h => h, hS, H⟩)
    · have := ready_mono hj hji
      rw [H.1] at this
      cases this
  | succ fuel ih =>
    intro S listed a w hfree hr hy hS H
    refine ⟨fun h => (by rw [h] at hr; cases hr), fun j hj => ?_⟩
    by_cases hji : j = i
    · subst hji; exact hy.wpOp hi hS (.inr ⟨S, fun _ h => h, hS, H⟩)
    · have h1 := H.2 j (ready_mono hj hji)
      obtain ⟨hjun, oj, hoj, hall⟩ := mem_ready.1 hj
      have hnot : ∀ e ∈ oj.after, Region.binds md e = true → e.on ≠ i := fun e he hb heq => by
        have h1 := hall e he hb
        have h0 := (mem_ready.1 hr).1
        rw [heq] at h1
        rcases Nat.lt_or_ge i listed.size with h' | h'
        · simp [h'] at h0 h1; rw [h0] at h1; cases h1
        · simp [Array.getElem?_eq_none h'] at h1
      have h2 := wpOp_putIf hoj (hfree j oj hoj hji hjun hnot) (fun cs b => hsel i oi cs b hi) (fun cs b => hsel j oj cs b hoj) hQ hy h1
      have hfree' : ∀ k ok, ops[k]? = some ok → k ≠ i → (listed.setIfInBounds j true).getD k true = false →
          (∀ e ∈ ok.after, Region.binds md e = true → e.on ≠ i) → oi.apart ops ok = true := fun k ok hk hki hun hno => by
        refine hfree k ok hk hki ?_ hno
        by_cases hjk : j = k
        · subst hjk; exact hjun
        · rw [getD_set_ne true hjk] at hun; exact hun
      refine wpOp_mono (fun a' w' h3 => ?_) h2
      obtain ⟨hy3, h3⟩ := h3
      rcases h3 with ⟨⟨⟨o5, h5, h6⟩, _⟩, _⟩ | ⟨S', hs, hs2, h4⟩
      · rw [hoj] at h5
        cases h5
        obtain ⟨e, he, hb, heq⟩ := h6 i (Array.getElem?_eq_some_iff.1 hi).1 (Ne.symm hji)
        exact absurd heq (hnot e he hb)
      refine .inr ⟨S', hs, hs2, ih S' (listed.setIfInBounds j true) a' w' hfree' (ready_mono hr (Ne.symm hji)) (YieldsIf.sharper hs hy3) hs2 ?_⟩
      rw [Array.setIfInBounds_comm _ _ hji]
      exact h4

theorem takes_H {l : List Oper} (hs : Region.noSelect l.toArray = true) (hQ : ∀ c a d v w, Q (.panic c) (Act.put a d v) w → Q (.panic c) a w) {S : World → Prop} {w : World} (hS : S w) {R : Act → Prop} :
    ∀ (m : List Bool) (i fuel : Nat) (listed : Array Bool) (a : Act), takesB md l m i listed = true → m.length + i ≤ l.length →
      (∀ a', R a' → wpH P md l.toArray Q fuel S (takenL m i listed) a' w) → wpQuiet P l.toArray S R (maskRows m (l.drop i)) a → wpH P md l.toArray Q (fuel + countT m) S listed a w
  | [], i, fuel, listed, a, _, _, hk, h => hk a (by simpa [maskRows, wpQuiet] using h)
  | false :: m, i, fuel, listed, a, hb, hl, hk, h => by
    have hlt : i < l.length := by simp only [List.length_cons] at hl; omega
    rw [List.drop_eq_getElem_cons hlt] at h
    exact takes_H hs hQ hS m (i + 1) fuel listed a hb (by simp only [List.length_cons] at hl; omega) hk h
  | true :: m, i, fuel, listed, a, hb, hl, hk, h => by
    have hlt : i < l.length := by simp only [List.length_cons] at hl; omega
    rw [List.drop_eq_getElem_cons hlt] at h
    simp only [takesB, Bool.and_eq_true] at hb
    obtain ⟨⟨⟨hv, hf⟩, hr⟩, hb⟩ := hb
    have ho : l.toArray[i]? = some l[i] := by simp [hlt]
    rw [show l[i]? = some l[i] from by simp [hlt]] at hv
    dsimp only at hv
    simp only [maskRows, wpQuiet] at h
    have hin : i ∈ Region.ready md l.toArray listed := by simpa using hr
    show wpH P md l.toArray Q (fuel + countT m + 1) S listed a w
    by_cases hw : Region.wanted l[i] (yielded l.toArray a.tmps) = true
    · rw [if_pos hw] at h
      obtain ⟨v, h1, h2⟩ := h
      exact wpH_first ho (Region.noSelect_spec hs) (fun c a w => hQ c a _ _ w) _ S listed a w (Region.free_spec ho hf) hin (yields_of_quiet hv hw h1) hS
        (takes_H hs hQ hS m (i + 1) fuel _ _ hb (by simp only [List.length_cons] at hl; omega) hk h2)
    · rw [if_neg hw] at h
      exact wpH_first ho (Region.noSelect_spec hs) (fun c a w => hQ c a _ _ w) _ S listed a w (Region.free_spec ho hf) hin (.inr ⟨by simpa using hw, rfl⟩) hS
        (takes_H hs hQ hS m (i + 1) fuel _ _ hb (by simp only [List.length_cons] at hl; omega) hk h)
/-- what reads is taken; then one after another of what is ready is tried -/
theorem wpH_seg {l : List Oper} (m : List Bool) (rd : List Nat) (fuel' : Nat) {fuel : Nat} {listed : Array Bool} {a : Act} {w : World} (hs : Region.noSelect l.toArray = true)
    (hQ : ∀ c a d v w, Q (.panic c) (Act.put a d v) w → Q (.panic c) a w) (hb : segtB md l m rd fuel fuel' listed = true) (hS : S w)
    (h : wpQuiet P l.toArray S (fun a' => ∀ i ∈ rd, wpOp P l.toArray Q i (fun a'' w'' => ((lastP md l.toArray i ∧ Region.ready md l.toArray ((takenL m 0 listed).setIfInBounds i true) = []) ∧ Q .normal a'' w'') ∨ ∃ S' : World → Prop, (∀ x, S' x → S x) ∧ S' w'' ∧ wpH P md l.toArray Q fuel' S' ((takenL m 0 listed).setIfInBounds i true) a'' w'') a' w) (maskRows m l) a) :
    wpH P md l.toArray Q fuel S listed a w := by
  simp only [segtB, Bool.and_eq_true, decide_eq_true_eq, Bool.not_eq_true'] at hb
  obtain ⟨⟨⟨⟨h1, h2⟩, h3⟩, h4⟩, h5⟩ := hb
  subst h1
  refine takes_H (P := P) (md := md) hs hQ hS (R := fun a' => ∀ i ∈ rd, wpOp P l.toArray Q i (fun a'' w'' => ((lastP md l.toArray i ∧ Region.ready md l.toArray ((takenL m 0 listed).setIfInBounds i true) = []) ∧ Q .normal a'' w'') ∨ ∃ S' : World → Prop, (∀ x, S' x → S x) ∧ S' w'' ∧ wpH P md l.toArray Q fuel' S' ((takenL m 0 listed).setIfInBounds i true) a'' w'') a' w) m 0 (fuel' + 1) listed a h3 (by omega) (fun a' hq => ?_) (by simpa using h)
  refine ⟨fun h0 => (by rw [h4] at h0; rw [h0] at h5; cases h5), fun j hj => ?_⟩
  rw [h4] at hj
  exact hq j hj
/-- the same in a round of a range over a function, at the wide fence -/
theorem wpIn_region_H {id l0 k : Nat} {a : Act} {w : World} {l : List Oper} (S : World → Prop) (hm : P.follows .mixedOrders = true) (hd : noDefer l.toArray = true) (h : wpH P .any l.toArray (OnlyNormal Q) l.length S (Array.replicate l.length false) a w.drew) :
    (Code.region id l.toArray true).wpIn (Fence.wide.inRound l0) k P Q a w := by
  refine wpIn_region_draw fun t => wpOps_in hd _ _ _ ?_
  simp only [Region.schedule, hm, Bool.true_or, if_true]
  exact wpAny_sound l.toArray.size t _ a _ (wpAny_of_H _ _ _ _ _ (by simpa using h))
/-- one that is carried out -/
theorem segh_run {l : List Oper} {fuel : Nat} {R : Act → World → Prop} {listed : Array Bool} {i : Nat} {o : Oper} {a : Act} {w : World} (ho : l.toArray[i]? = some o) (hw : Region.wanted o (yielded l.toArray a.tmps) = true)
    (h : ∀ K : Act → World → Prop, (∀ a' w', (R a' w' ∨ ∃ S' : World → Prop, (∀ x, S' x → S x) ∧ S' w' ∧ wpH P md l.toArray Q fuel S' listed a' w') → K a' w') → o.wp P a w K Q) :
    wpOp P l.toArray Q i (fun a'' w'' => R a'' w'' ∨ ∃ S' : World → Prop, (∀ x, S' x → S x) ∧ S' w'' ∧ wpH P md l.toArray Q fuel S' listed a'' w'') a w := by
  unfold wpOp
  simp only [ho, hw, if_true]
  exact .inl (h _ fun _ _ h => h)
end
end Go.Proofs.Ytbbjpjkclealfaa
namespace Go.Proofs.Ytbbjpjkclealfaa
open Go.RowKit
set_option linter.unusedVariables false
theorem cells_own {β : Type} (B : Nat) (f : β → Array Value) (t : TypeId) : Own (fun (s : β) W => W.heap[B]? = some (.cells (f s) t (0, 0))) := by
  intro s X Y row h hg hr
  refine (hg.block B (Array.getElem?_eq_some_iff.1 h).1 (fun e => ?_)).trans h
  obtain ⟨o, ho, hc⟩ := hr B e.symm
  rw [h] at ho; cases ho; cases hc
end Go.Proofs.Ytbbjpjkclealfaa
namespace Go.Proofs.Ytbbjpjkclealfaa
open Go.ChangeShapes Go.WideShapes Go.ChangeAt Go.RowKit
set_option linter.unusedVariables false

theorem numLen_any (x : Int) (w : World) : Calls Try.prog 96 #[.int .i64 x] w fun e w' => e = .returned (.bool (decide (1 ≤ x) && decide (x ≤ 4))) ∧ w' = w := by
  by_cases h1 : 1 ≤ x <;> by_cases h2 : x ≤ 4
  all_goals
    go_enter Try.func96, Try.ntmps96
    go_wp2
    go_ret
    simp [h1, h2]

end Go.Proofs.Ytbbjpjkclealfaa
namespace Go.Proofs.Ytbbjpjkclealfaa
open Go.ChangeShapes Go.WideShapes Go.ChangeAt Go.RowKit
set_option linter.unusedVariables false

theorem i64_or (v c : Nat) (hv : v < 16777216) (hc : c < 256) : bits .or .i64 ((v : Int) * 256) (c : Int) = (v : Int) * 256 + (c : Int) := by
  have e1 : ((v : Int) * 256) = ((v * 256 : Nat) : Int) := by omega
  have hx : v * 256 ||| c = v * 256 + c := by
    have := Nat.two_pow_add_eq_or_of_lt (i := 8) (b := c) hc v
    rw [show (2 : Nat) ^ 8 = 256 from rfl] at this
    rw [Nat.mul_comm, ← this]
  show IntKind.i64.wrap ((BitVec.ofInt 64 ((v : Int) * 256) ||| BitVec.ofInt 64 (c : Int)).toNat : Nat) = _
  rw [e1, bv_nat, bv_nat, BitVec.toNat_or, BitVec.toNat_ofNat, BitVec.toNat_ofNat, Nat.mod_eq_of_lt (by omega), Nat.mod_eq_of_lt (by omega), hx]
  have := IntWalk.i64_in ((v * 256 + c : Nat) : Int) (by omega)
  rw [this]; omega
set_option maxRecDepth 100000 in
theorem iget_any (s : ByteArray) (p k : Int) (w : World) (hs : s.size ≤ 2000000) :
    Calls Try.prog 93 #[.string s, .int .i64 p, .int .i64 k] w fun e w' => e = .returned (.int .i64 (getV s p k)) ∧ w' = w := by
  by_cases hk : k < 1 ∨ 4 < k
  · have hv : getV s p k = -1 := by unfold getV; rw [if_pos (by omega)]
    have HV := Lib.hid hv; clear hv
    have hb : (decide (1 ≤ k) && decide (k ≤ 4)) = false := by simp; omega
    clear hk
    go_enter Try.func93, Try.ntmps93
    go_wp2_with (go_at_call 96; refine (numLen_any _ _).mono ?_; rintro e w ⟨rfl, rfl⟩)
    go_ret
    exact ⟨by rw [HV.out]; rfl, rfl⟩
  · have hb : (decide (1 ≤ k) && decide (k ≤ 4)) = true := by simp; omega
    obtain ⟨K, rfl⟩ : ∃ K : Nat, k = K := ⟨k.toNat, by omega⟩
    have hK : 1 ≤ K ∧ K ≤ 4 := by omega
    have ew : IntKind.i64.wrap ((s.size : Int) - (K : Int)) = (s.size : Int) - (K : Int) := IntWalk.i64_in _ (by omega)
    by_cases hp : p < 0
    · have hv : getV s p K = -1 := by unfold getV; rw [if_pos (by omega)]
      have HV := Lib.hid hv; clear hv hk
      go_enter Try.func93, Try.ntmps93
      go_wp2_with (go_at_call 96; refine (numLen_any _ _).mono ?_; rintro e w ⟨rfl, rfl⟩)
      go_ret
      exact ⟨by rw [HV.out]; rfl, rfl⟩
    · by_cases hq : (s.size : Int) - K < p
      · have hv : getV s p K = -1 := by unfold getV; rw [if_pos (by omega)]
        have HV := Lib.hid hv; clear hv hk
        go_enter Try.func93, Try.ntmps93
        go_wp2_with (go_at_call 96; refine (numLen_any _ _).mono ?_; rintro e w ⟨rfl, rfl⟩)
        go_ret
        exact ⟨by rw [HV.out]; rfl, rfl⟩
      · have hv : getV s p K = (getN ((s.data.toList.drop p.toNat).take K) : Nat) := by unfold getV; rw [if_neg (by omega)]; simp
        obtain ⟨q, rfl⟩ : ∃ q : Nat, p = q := ⟨p.toNat, by omega⟩
        simp only [Int.toNat_natCast] at hv
        have hqs : q + K ≤ s.size := by omega
        have hbd := fun j => getN_lt ((s.data.toList.drop q).take j)
        have hsn : ∀ j, (h : j < K) → getN ((s.data.toList.drop q).take (j + 1)) = getN ((s.data.toList.drop q).take j) * 256 + (s[q + j]'(by omega)).toNat := by
          intro j h
          rw [List.take_succ_eq_append_getElem (by simp; omega), getN_snoc]
          congr 2
          simp
          rfl
        have hle : ∀ j, ((s.data.toList.drop q).take j).length ≤ j := by intro j; simp; omega
        have HV := Lib.hid hv; have HSN := Lib.hid hsn; clear hv hsn hk
        have hb4 : ∀ j, j ≤ 4 → getN ((s.data.toList.drop q).take j) < 256 ^ j := by
          intro j _
          exact Nat.lt_of_lt_of_le (hbd j) (Nat.pow_le_pow_right (by decide) (hle j))
        have HB4 := Lib.hid hb4; clear hb4 hbd hle
        go_enter Try.func93, Try.ntmps93
        go_wp2_with (go_at_call 96; refine (numLen_any _ _).mono ?_; rintro e w ⟨rfl, rfl⟩)
        go_loopw [7, 25] (fun n i wr => ∃ j : Nat, j ≤ K ∧ i = .int .i64 j ∧ n = .int .i64 (getN ((s.data.toList.drop q).take j) : Nat) ∧ wr = w) (fun _ i _ => K - (intOf i).toNat)
        case atStart => exact ⟨0, Nat.zero_le _, rfl, rfl, rfl⟩
        case round =>
          obtain ⟨j, hj, rfl, rfl, rfl⟩ := hrel
          by_cases hlt : j < K
          · have z1 : (j : Int) < (K : Int) := by omega
            have z2 : (0 : Int) ≤ (q : Int) + (j : Int) := by omega
            have z3 : (q : Int) + (j : Int) < (s.size : Int) := by omega
            have et : ((q : Int) + (j : Int)).toNat = q + j := by omega
            have ew2 : IntKind.i64.wrap ((q : Int) + (j : Int)) = (q : Int) + (j : Int) := IntWalk.i64_in _ (by omega)
            have hsn := HSN.out j hlt
            have hc := (s[q + j]'(by omega)).toNat_lt
            have hb4 : getN ((s.data.toList.drop q).take j) < 256 ^ 3 := Nat.lt_of_lt_of_le (HB4.out j (by omega)) (Nat.pow_le_pow_right (by decide) (by omega))
            have h256 : (256 : Nat) ^ 3 = 16777216 := rfl
            rw [h256] at hb4
            have hql : q + j < s.size := by omega
            have HS := Lib.hid hsn; clear hsn
            generalize getN ((s.data.toList.drop q).take j) = v at *
            have eor := i64_or v (s[q + j]'(by omega)).toNat hb4 hc
            have ew3 : IntKind.i64.wrap ((v : Int) * 256) = (v : Int) * 256 := IntWalk.i64_in _ (by omega)
            have ew4 : wrap64 ((v : Int) * 256) = (v : Int) * 256 := IntWalk.wrap64_in _ (by omega)
            go_wp2
            go_roundw
            case rel => exact ⟨j + 1, by omega, by go_num, by rw [HS.out]; go_num, by first | rfl | trivial⟩
            case measure => simp [intOf]; omega
          · obtain rfl : j = K := by omega
            go_wp2
            go_ret
            exact ⟨by rw [HV.out]; rfl, rfl⟩
end Go.Proofs.Ytbbjpjkclealfaa
namespace Go.Proofs.Ytbbjpjkclealfaa
open Go.RowKit
set_option linter.unusedVariables false

def KBoxed (W : World) (B : Nat) (k : K2) : Prop := W.heap[B]? = some (.cells #[.int .i64 k.1, .int .i64 k.2] 41 (0, 0))
theorem KBoxed.lt {W : World} {B : Nat} {k : K2} (h : KBoxed W B k) : B < W.heap.size := (Array.getElem?_eq_some_iff.1 h).1
theorem KBoxed.cell0 {W : World} {B : Nat} {k : K2} (h : KBoxed W B k) : W.cell? ⟨B, 0, none⟩ = some (.int .i64 k.1) := by simp [World.cell?, show W.heap[B]? = _ from h]
theorem KBoxed.cell1 {W : World} {B : Nat} {k : K2} (h : KBoxed W B k) : W.cell? ⟨B, 1, none⟩ = some (.int .i64 k.2) := by simp [World.cell?, show W.heap[B]? = _ from h]
theorem KBoxed.new (W : World) (k : K2) : KBoxed (W.alloc (.cells #[.int .i64 k.1, .int .i64 k.2] 41)) W.heap.size k := World.alloc_heap_new W _
theorem KBoxed.kept {W W' : World} {row : Option Nat} {B : Nat} {k : K2} (h : KBoxed W B k) (hg : W.grownBy W' row) (hne : some B ≠ row) : KBoxed W' B k := (hg.block B h.lt hne).trans h
theorem KBoxed.alloc {W : World} {B : Nat} {k : K2} (h : KBoxed W B k) (o : Obj) : KBoxed (W.alloc o) B k := h.kept (World.grownBy_alloc W o none) (by simp)
theorem KBoxed.other {W : World} {B B' : Nat} {k : K2} (h : KBoxed W B k) (hne : B ≠ B') (u : Value) : KBoxed (W.setCell ⟨B', 0, none⟩ u) B k := h.kept (grownBy_setCell' W B' u) (fun e => hne (by cases e; rfl))
theorem KBoxed.load {w : World} {B : Nat} {k : K2} (h : KBoxed w B k) : (loadVar 41 ⟨B, 0, none⟩).run Try.prog w = .ok (kv k) w := key_load (o := 0) ⟨h.cell0, h.cell1⟩ h.lt (Below.refl _ _)
theorem set_cells {w : World} {B j : Nat} {cs : Array Value} {t : TypeId} (u : Value) (h : w.heap[B]? = some (.cells cs t (0, 0))) : (w.setCell ⟨B, j, none⟩ u).heap[B]? = some (.cells (cs.setIfInBounds j u) t (0, 0)) := by
  obtain ⟨hlt, hk⟩ := Array.getElem?_eq_some_iff.1 h
  show (w.heap.modify B _)[B]? = _
  rw [Array.getElem?_eq_getElem (by rw [Array.size_modify]; exact hlt), Array.getElem_modify_self, hk]
  rfl
theorem KBoxed.set {w : World} {B : Nat} {k : K2} (k' : K2) (h : KBoxed w B k) : KBoxed ((w.setCell ⟨B, 0, none⟩ (.int .i64 k'.1)).setCell ⟨B, 1, none⟩ (.int .i64 k'.2)) B k' :=
  set_cells _ (set_cells _ h)
end Go.Proofs.Ytbbjpjkclealfaa
namespace Go.Proofs.Ytbbjpjkclealfaa
open Go.ChangeShapes Go.WideShapes Go.ChangeAt Go.RowKit Go.BigFrame
set_option linter.unusedVariables false

theorem ikeyok_any (k : K2) (w : World) : Calls Try.prog 89 #[kv k] w fun e w' => e = .returned (.bool (keyOkB k)) ∧ Below w.heap.size w w' := by
  obtain ⟨n, s⟩ := k
  unfold keyOkB kv
  dsimp only
  have hb : ∀ o, Below w.heap.size w (w.alloc o) := fun o => (Below.refl _ _).alloc (Nat.le_refl _) _
  by_cases h1 : 1 ≤ n
  · by_cases h2 : n ≤ 20
    · by_cases h3 : 1 ≤ s
      · by_cases h4 : s ≤ 99
        · go_enter Try.func89, Try.ntmps89
          go_wp2
          go_ret
          exact ⟨by simp [h1, h2, h3, h4], hb _⟩
        · go_enter Try.func89, Try.ntmps89
          go_wp2
          go_ret
          exact ⟨by simp [h1, h2, h3, h4], hb _⟩
      · go_enter Try.func89, Try.ntmps89
        go_wp2
        go_ret
        exact ⟨by simp [h1, h2, h3]; omega, hb _⟩
    · go_enter Try.func89, Try.ntmps89
      go_wp2
      go_ret
      exact ⟨by simp [h1, h2]; omega, hb _⟩
  · go_enter Try.func89, Try.ntmps89
    go_wp2
    go_ret
    exact ⟨by simp [h1]; omega, hb _⟩
theorem iahead_any (a b : K2) (w : World) : Calls Try.prog 90 #[kv a, kv b] w fun e w' => e = .returned (.bool (aheadB a b)) ∧ Below w.heap.size w w' := by
  obtain ⟨n, s⟩ := a
  obtain ⟨m, t⟩ := b
  have hb : ∀ o o', Below w.heap.size w ((w.alloc o).alloc o') := fun o o' => ((Below.refl _ _).alloc (Nat.le_refl _) _).alloc (by simp) _
  by_cases h : n = m
  · have ha : aheadB (n, s) (m, t) = decide (s < t) := by unfold aheadB; rw [if_pos h]
    rw [ha]
    unfold kv
    dsimp only
    subst h
    go_enter Try.func90, Try.ntmps90
    go_wp2
    go_ret
    exact ⟨rfl, hb _ _⟩
  · have ha : aheadB (n, s) (m, t) = decide (n < m) := by unfold aheadB; rw [if_neg h]
    rw [ha]
    unfold kv
    dsimp only
    go_enter Try.func90, Try.ntmps90
    go_wp2
    go_ret
    exact ⟨rfl, hb _ _⟩
set_option maxRecDepth 100000 in
theorem ikeysok_any (v : Value) (ks : List K2) (w : World) (h : keysAt w v ks) (hs : ks.length ≤ 2000000) : Calls Try.prog 47 #[v] w fun e w' => e = .returned (.bool (keysOkR ks)) ∧ Below w.heap.size w w' := by
  obtain ⟨a, cap, rfl, hcap, hcells⟩ := h
  go_enter Try.func47, Try.ntmps47
  go_wp2
  go_loopw [7] (fun i wr => ∃ k : Nat, k ≤ ks.length ∧ i = .int .i64 k ∧ (List.range k).all (stepB ks) = true ∧ Below w.heap.size w wr) (fun i _ => ks.length - (intOf i).toNat)
  case atStart => exact ⟨0, Nat.zero_le _, rfl, rfl, Below.refl _ _⟩
  case round =>
    obtain ⟨k, hk, rfl, hall, hb⟩ := hrel
    by_cases hlt : k < ks.length
    · obtain ⟨g, off, rfl, hg, hcs⟩ := hcells.resolve_left (by omega)
      have z0 : (0 : Int) ≤ (k : Int) := by omega
      have z1 : (k : Int) < (ks.length : Int) := by omega
      have c1 := hcs k hlt
      have hst : stepB ks k = (keyOkB (ks.getD k (0, 0)) && (decide (k = 0) || aheadB (ks.getD (k - 1) (0, 0)) (ks.getD k (0, 0)))) := rfl
      have hsu := keysR_succ ks k
      rw [hst, hall] at hsu
      have HF := Lib.hid (fun (h : stepB ks k = false) => stepB_false hlt h)
      rw [hst] at HF
      have c0 : 0 < k → _ := fun h => hcs (k - 1) (by omega)
      rename_i wr
      have C1 : wr.cell? ⟨g, off + k * 2, none⟩ = some (.int .i64 (ks.getD k (0, 0)).1) := (hb.cell (p := ⟨g, off + k * 2, none⟩) hg).trans c1.1
      have C2 : wr.cell? ⟨g, off + k * 2 + 1, none⟩ = some (.int .i64 (ks.getD k (0, 0)).2) := (hb.cell (p := ⟨g, off + k * 2 + 1, none⟩) hg).trans c1.2
      generalize ks.getD k (0, 0) = kx at *
      obtain ⟨p, q⟩ := kx
      dsimp only at C1 C2
      have hb1 : Below w.heap.size w (wr.alloc (.cells #[.int .i64 p, .int .i64 q] 41)) := hb.alloc hb.size _
      have LK : ∀ w', Below (wr.heap.size + 1) (wr.alloc (.cells #[.int .i64 p, .int .i64 q] 41)) w' → (loadVar 41 ⟨wr.heap.size, 0, none⟩).run Try.prog w' = .ok (kv (p, q)) w' := fun w' hb' =>
        key_load (k := (p, q)) (w := wr.alloc (.cells #[.int .i64 p, .int .i64 q] 41)) (g := wr.heap.size) (o := 0) ⟨by simp, by simp⟩ (by simp) (by simpa using hb')
      have LK0 := Lib.hid LK; clear LK
      have HSU := Lib.hid hsu; have C0 := Lib.hid c0; clear hsu c0 hst c1 hcells hcs
      have HK := Lib.hid (fun w => ikeyok_any (p, q) w)
      have HB1 := Lib.hid hb1; clear hb1
      go_wp2_with fail
      refine (HK.out _).mono ?_
      rintro e w2 ⟨rfl, hb2⟩
      have hbw2 := HB1.out.trans (hb2.mono HB1.out.size)
      have LK : ∀ w', Below w2.heap.size w2 w' → (loadVar 41 ⟨wr.heap.size, 0, none⟩).run Try.prog w' = .ok (kv (p, q)) w' := fun w' hb' => LK0.out w' ((by simpa using hb2 : Below (wr.heap.size + 1) _ w2).trans (hb'.mono (by have := hb2.size; simp at this; omega)))
      clear LK0 C1 C2 HK hb2 HB1
      cases hko : keyOkB (p, q) with
      | false =>
        rw [hko] at HF
        go_wp2
        go_ret
        exact ⟨by rw [HF.out rfl]; rfl, hbw2⟩
      | true =>
        rw [hko] at HF HSU
        by_cases hk0 : k = 0
        · subst hk0
          have y0 : ¬ (0 : Int) < ((0 : Nat) : Int) := by omega
          clear HF C0
          go_wp2
          refine wp_region_below w2 (by kernel_rfl) (by kernel_rfl) (Below.refl _ _) ?_
          repeat (first
            | go_big_quiet_skip
            | (go_big_quiet_want
               first
                 | (go_big_quiet_op; go_big_quiet_on)
                 | (refine q_load 41 _ _ _ rfl rfl LK ?_; simp only [Act.put, List.setIfInBounds_toArray, List.set_cons_zero, List.set_cons_succ]; go_big_quiet_on)
                 | (go_big_quiet_op; refine ⟨_, fun _ _ => rfl, ?_⟩; go_big_quiet_on)
                 | (go_big_quiet_op; go_big_quiet_on)))
          refine wpQuiet_nil ?_
          intro w3 hb3
          have hbw3 := hbw2.trans (hb3.mono hbw2.size)
          clear LK
          go_wp2
          exact ⟨⟨1, by omega, by go_num, by rw [HSU.out]; rfl, hbw3⟩, by simp [intOf]; omega⟩
        · have ha := C0.out (by omega)
          have L2 : ∀ w', Below w2.heap.size w2 w' → (loadVar 41 ⟨g, off + (k - 1) * 2, none⟩).run Try.prog w' = .ok (kv (ks.getD (k - 1) (0, 0))) w' := fun w' hb' => key_load ha hg (hbw2.trans (hb'.mono hbw2.size))
          generalize ks.getD (k - 1) (0, 0) = ky at *
          have HA := Lib.hid (fun w => iahead_any ky (p, q) w)
          have d0 : decide (k = 0) = false := by simpa using hk0
          rw [d0] at HF HSU
          have y0 : (0 : Int) < (k : Int) := by omega
          have yk : 0 < k := by omega
          have y1 : (0 : Int) ≤ (k : Int) - 1 := by omega
          have y2 : (k : Int) - 1 < (ks.length : Int) := by omega
          have ew : IntKind.i64.wrap ((k : Int) - 1) = (k : Int) - 1 := IntWalk.i64_in _ (by omega)
          have et : ((k : Int) - 1).toNat = k - 1 := by omega
          clear C0 ha
          cases hah : aheadB ky (p, q) with
          | false =>
            rw [hah] at HA HF
            have HF2 := HF.out rfl
            have HF3 := Lib.hid HF2; clear HF2 HF HSU
            go_wp2
            refine wp_region_below w2 (by kernel_rfl) (by kernel_rfl) (Below.refl _ _) ?_
            repeat (first
              | go_big_quiet_skip
              | (go_big_quiet_want
                 first
                   | (go_big_quiet_op; go_big_quiet_on)
                   | (refine q_load 41 _ _ _ rfl rfl L2 ?_; simp only [Act.put, List.setIfInBounds_toArray, List.set_cons_zero, List.set_cons_succ]; go_big_quiet_on)
                   | (refine q_load 41 _ _ _ rfl rfl LK ?_; simp only [Act.put, List.setIfInBounds_toArray, List.set_cons_zero, List.set_cons_succ]; go_big_quiet_on)
                   | (go_big_quiet_op; refine ⟨_, fun _ _ => rfl, ?_⟩; go_big_quiet_on)
                   | (go_big_quiet_op; apply Exists.intro; refine ⟨fun w' hw' => ?_, ?_⟩
                      · first
                        | (with_reducible refine (HA.out w').mono ?_
                           rintro e w2 ⟨rfl, hb2⟩
                           exact ⟨rfl, hw'.trans (hb2.mono hw'.size)⟩)
                      go_big_quiet_on)))
            refine wpQuiet_nil ?_
            intro w3 hb3
            have hbw3 := hbw2.trans (hb3.mono hbw2.size)
            clear LK L2 HA
            go_wp2
            go_ret
            exact ⟨by rw [HF3.out]; rfl, hbw3⟩
          | true =>
            rw [hah] at HA HSU
            clear HF
            go_wp2
            refine wp_region_below w2 (by kernel_rfl) (by kernel_rfl) (Below.refl _ _) ?_
            repeat (first
              | go_big_quiet_skip
              | (go_big_quiet_want
                 first
                   | (go_big_quiet_op; go_big_quiet_on)
                   | (refine q_load 41 _ _ _ rfl rfl L2 ?_; simp only [Act.put, List.setIfInBounds_toArray, List.set_cons_zero, List.set_cons_succ]; go_big_quiet_on)
                   | (refine q_load 41 _ _ _ rfl rfl LK ?_; simp only [Act.put, List.setIfInBounds_toArray, List.set_cons_zero, List.set_cons_succ]; go_big_quiet_on)
                   | (go_big_quiet_op; refine ⟨_, fun _ _ => rfl, ?_⟩; go_big_quiet_on)
                   | (go_big_quiet_op; apply Exists.intro; refine ⟨fun w' hw' => ?_, ?_⟩
                      · first
                        | (with_reducible refine (HA.out w').mono ?_
                           rintro e w2 ⟨rfl, hb2⟩
                           exact ⟨rfl, hw'.trans (hb2.mono hw'.size)⟩)
                      go_big_quiet_on)))
            refine wpQuiet_nil ?_
            intro w3 hb3
            have hbw3 := hbw2.trans (hb3.mono hbw2.size)
            clear LK L2 HA
            go_wp2
            exact ⟨⟨k + 1, by omega, by go_num, by rw [HSU.out]; rfl, hbw3⟩, by simp [intOf]; omega⟩
    · obtain rfl : k = ks.length := by omega
      have HF := Lib.hid hall
      go_wp2
      go_ret
      exact ⟨by unfold keysOkR; rw [HF.out]; rfl, hb⟩
end Go.Proofs.Ytbbjpjkclealfaa
namespace Go.Proofs.Ytbbjpjkclealfaa
open Go.RowKit Go.Shelf
set_option linter.unusedVariables false

theorem kboxed_own {β : Type} (B : Nat) (k : K2) : Own (fun (_ : β) W => KBoxed W B k) := by
  intro s X Y row h hg hr
  refine KBoxed.kept h hg (fun e => ?_)
  obtain ⟨o, ho, hc⟩ := hr B e.symm
  rw [show X.heap[B]? = _ from h] at ho; cases ho; cases hc
end Go.Proofs.Ytbbjpjkclealfaa
namespace Go.Proofs.Ytbbjpjkclealfaa
open Go.RowKit Go.Shelf
attribute [local go_sem] Oper.semAt_some
set_option linter.unusedVariables false

theorem grownN {A B : World} (h : Below A.heap.size A B) : A.grownBy B none := grown_of_below' h none
end Go.Proofs.Ytbbjpjkclealfaa
