/- Texts of this seat, one behind the other (part 6): what the laws of chapter 5 lean on. -/
import Derived.Test.YtnknfmjpkphbpaaPk5
import Derived.Laws.CopyOwn

set_option linter.unusedVariables false
set_option linter.unusedSimpArgs false

/- Chapter 4's draws: a reading that need not be right. -/
namespace Go.Proofs.Ytnknfmjpkphbpaa
open Go.ChangeShapes Go.WideShapes Go.ChangeAt Go.RowKit Go.BigFrame
set_option linter.unusedVariables false

def pick3o : List ByteArray := [⟨#[]⟩, ⟨#[97, 98, 99]⟩, ⟨#[97, 98, 99, 100, 101]⟩]
theorem pick3o_size (i : Nat) : (pick3o[i]?.getD ByteArray.empty).size ≤ 5 := by
  unfold pick3o
  rcases (by omega : i = 0 ∨ i = 1 ∨ i = 2 ∨ 3 ≤ i) with rfl | rfl | rfl | h
  · decide
  · decide
  · decide
  · rw [List.getElem?_eq_none (by simpa using h)]; decide
/-- the reading in its box, the result's box -/
structure O4 (n₀ g : Nat) (a : Option Addr) (len cap : Nat) (zs : List Int) (c1 : Cu) (w W : World) (b4 : Nat) (r : R3) : Prop where
  drew : Drew n₀ g a len cap zs c1 w W
  row : W.heap[b4]? = some (.cells #[.int .i64 r.1.1, .int .i64 r.1.2, .string r.2] 43)
  res : W.heap[w.heap.size]? = some (.cells #[.int .i64 0, .int .i64 0, .string ⟨#[]⟩] 43)
  lt : w.heap.size < b4
theorem O4.next {n₀ g : Nat} {a : Option Addr} {len cap : Nat} {zs : List Int} {c1 c2 : Cu} {w W W' : World} {b4 : Nat} {r : R3} (h : O4 n₀ g a len cap zs c1 w W b4 r) (hgl : g < w.heap.size) (hd : Drew n₀ g a len cap zs c2 W W') : O4 n₀ g a len cap zs c2 w W' b4 r :=
  ⟨h.drew.trans hd, hd.keeps h.row (by have := h.lt; omega), hd.keeps h.res (by omega), h.lt⟩
theorem O4.alloc {n₀ g : Nat} {a : Option Addr} {len cap : Nat} {zs : List Int} {c1 : Cu} {w W : World} {b4 : Nat} {r : R3} (h : O4 n₀ g a len cap zs c1 w W b4 r) (o : Obj) : O4 n₀ g a len cap zs c1 w (W.alloc o) b4 r :=
  ⟨h.drew.alloc o, (Below.heap_alloc _ _ _ (Array.getElem?_eq_some_iff.1 h.row).1).trans h.row, (Below.heap_alloc _ _ _ (Array.getElem?_eq_some_iff.1 h.res).1).trans h.res, h.lt⟩
theorem O4.key {n₀ g : Nat} {a : Option Addr} {len cap : Nat} {zs : List Int} {c1 : Cu} {w W : World} {b4 : Nat} {r : R3} (h : O4 n₀ g a len cap zs c1 w W b4 r) (hgl : g < w.heap.size) (p q : Int) : O4 n₀ g a len cap zs c1 w ((W.setCell ⟨b4, 0, none⟩ (.int .i64 p)).setCell ⟨b4, 1, none⟩ (.int .i64 q)) b4 ((p, q), r.2) := by
  have hl := h.lt
  refine ⟨h.drew.grow hgl (grownT (Lib.grownBy_setCell W b4 0 _) (Lib.grownBy_setCell _ b4 1 _)) (fun j e => by cases e; omega), set_cellsD _ (set_cellsD _ h.row), ?_, hl⟩
  rw [Below.heap_setCell _ _ _ _ (by simp; omega), Below.heap_setCell _ _ _ _ (by simp; omega)]
  exact h.res
theorem O4.txt {n₀ g : Nat} {a : Option Addr} {len cap : Nat} {zs : List Int} {c1 : Cu} {w W : World} {b4 : Nat} {r : R3} (h : O4 n₀ g a len cap zs c1 w W b4 r) (hgl : g < w.heap.size) (y : ByteArray) : O4 n₀ g a len cap zs c1 w (W.setCell ⟨b4, 2, none⟩ (.string y)) b4 (r.1, y) := by
  have hl := h.lt
  refine ⟨h.drew.grow hgl (Lib.grownBy_setCell W b4 2 _) (fun j e => by cases e; omega), set_cellsD _ h.row, ?_, hl⟩
  rw [Below.heap_setCell _ _ _ _ (by simp; omega)]
  exact h.res
structure O4End (n₀ g : Nat) (a : Option Addr) (len cap : Nat) (zs : List Int) (c1 : Cu) (w W : World) (b4 : Nat) (r : R3) : Prop where
  x : Row3 W b4 (.int .i64 r.1.1) (.int .i64 r.1.2) (.string r.2)
  y : Row3 W w.heap.size (.int .i64 0) (.int .i64 0) (.string ⟨#[]⟩)
  fin : Drew n₀ g a len cap zs c1 w (((W.setCell ⟨w.heap.size, 0, none⟩ (.int .i64 r.1.1)).setCell ⟨w.heap.size, 1, none⟩ (.int .i64 r.1.2)).setCell ⟨w.heap.size, 2, none⟩ (.string r.2))
  load : (loadVar 43 ⟨w.heap.size, 0, none⟩).run Try.prog (((W.setCell ⟨w.heap.size, 0, none⟩ (.int .i64 r.1.1)).setCell ⟨w.heap.size, 1, none⟩ (.int .i64 r.1.2)).setCell ⟨w.heap.size, 2, none⟩ (.string r.2)) =
    .ok (.agg #[.int .i64 r.1.1, .int .i64 r.1.2, .string r.2]) (((W.setCell ⟨w.heap.size, 0, none⟩ (.int .i64 r.1.1)).setCell ⟨w.heap.size, 1, none⟩ (.int .i64 r.1.2)).setCell ⟨w.heap.size, 2, none⟩ (.string r.2))
theorem O4.end {n₀ g : Nat} {a : Option Addr} {len cap : Nat} {zs : List Int} {c1 : Cu} {w W : World} {b4 : Nat} {r : R3} (h : O4 n₀ g a len cap zs c1 w W b4 r) (hgl : g < w.heap.size) : O4End n₀ g a len cap zs c1 w W b4 r :=
  ⟨row3_of h.row, row3_of h.res, h.drew.grow hgl (grown3 W w.heap.size _ _ _) (fun j e => by cases e; omega),
    run_loadVar_row (P := Try.prog) _ w.heap.size 43 43 #[.int .i64 r.1.1, .int .i64 r.1.2, .string r.2] (0, 0) _ (set3 _ _ _ h.res) Try.underlying43 rfl (by kernel_rfl)⟩
set_option maxRecDepth 100000 in
set_option maxHeartbeats 2000000 in
theorem l04odd_any (n₀ g len cap : Nat) (a : Option Addr) (zs : List Int) (c : Cu) (w : World) (hs : DrawSt n₀ w g a len cap zs c.i c.h) :
    Calls Try.prog 88 #[.pointer (some ⟨g, 0, none⟩)] w fun e w' => ∃ (r : R3) (c' : Cu), e = .returned (rv r) ∧ (-5 ≤ r.1.1 ∧ r.1.1 ≤ 100 ∧ -5 ≤ r.1.2 ∧ r.1.2 ≤ 100) ∧ r.2.size ≤ 5 ∧ Drew n₀ g a len cap zs c' w w' := by
  have hd0 : Drew n₀ g a len cap zs c w w := ⟨hs, Below.refl _ _, World.grownBy.refl _ _⟩
  have hgl := hs.lt
  go_enter Try.func88, Try.ntmps88
  go_wp2_with fail
  have hd1 := hd0.alloc (.cells #[.int .i64 0, .int .i64 0, .string ⟨#[]⟩] 43)
  refine (l04reading_any n₀ g len cap a zs c _ hd1.st).mono ?_
  rintro e w1 ⟨⟨⟨n, s⟩, y⟩, c1, rfl, hk, hy, hd⟩
  dsimp only at hk hy
  have hres := hd.keeps (heap_alloc_new w (.cells #[.int .i64 0, .int .i64 0, .string ⟨#[]⟩] 43)) (by omega)
  have H1 : Hid (O4 n₀ g a len cap zs c1 w (w1.alloc (.cells #[.int .i64 n, .int .i64 s, .string y] 43)) w1.heap.size ((n, s), y)) :=
    ⟨(hd1.trans hd).alloc _, heap_alloc_new w1 _, (Below.heap_alloc _ _ _ (Array.getElem?_eq_some_iff.1 hres).1).trans hres, (Array.getElem?_eq_some_iff.1 hres).1⟩
  unfold rv
  dsimp only
  clear hd1 hd hd0 hres hs
  go_wp2_with fail
  generalize w1.alloc (.cells #[.int .i64 n, .int .i64 s, .string y] 43) = W at *
  generalize w1.heap.size = b4 at *
  refine (below_any n₀ g len cap a zs c1 6 _ H1.out.drew.st (by omega)).mono ?_
  rintro e w2 ⟨rfl, hd2⟩
  have H2 := Lib.hid (H1.out.next hgl hd2)
  generalize (belowF zs len c1 6).2 = c2 at *
  generalize (belowF zs len c1 6).1 = x at *
  clear H1 hd2
  have hlt := H2.out.lt
  by_cases hx0 : x = 0
  · subst hx0
    go_wp2_with fail
    refine (odd_any n₀ g len cap a zs c2 _ H2.out.drew.st).mono ?_
    rintro e w3 ⟨⟨p, q⟩, c3, rfl, hk3, hd3⟩
    dsimp only at hk3
    have H3 := H2.out.next hgl hd3
    obtain ⟨a0, a1, a2, a3, a4, a5⟩ := row3_of H3.row
    have H4 := Lib.hid ((H3.key hgl p q).end hgl)
    have H3 := Lib.hid H3
    obtain ⟨⟨b0, b1, b2, -, -, -⟩, ⟨e0, e1, e2, e3, e4, e5⟩, -, -⟩ := H4.out
    obtain ⟨d0, d1, d2, d3, d4, d5⟩ := row3_of H3.out.res
    unfold kv
    dsimp only at *
    clear hd3 H2 H3
    go_wp2_with fail
    refine bodyPost_ret (v := .agg #[.int .i64 p, .int .i64 q, .string y]) ?_ rfl ⟨((p, q), y), c3, rfl, hk3, by dsimp only; omega, H4.out.fin⟩
    rw [results_cell (p := 2) (ty := 43) (by kernel_rfl)]
    have hl := H4.out.load
    simp [asAddr, Result.andThen, hl]
  · have f0 : (x == 0) = false := by simpa using hx0
    by_cases hx1 : x = 1
    · subst hx1
      have P3 := Lib.hid (pick_any n₀ g len cap w2.heap.size 3 a zs c2 pick3o (w2.alloc (.cells #[.string ⟨#[]⟩, .string ⟨#[97, 98, 99]⟩, .string ⟨#[97, 98, 99, 100, 101]⟩] 9)) (H2.out.drew.alloc _).st (by omega) (by omega) rfl (by have := H2.out.drew.st.lt; omega) (by
        intro k hk
        rw [lit_cell]
        rcases (by omega : k = 0 ∨ k = 1 ∨ k = 2) with rfl | rfl | rfl <;> rfl))
      have hps := pick3o_size (belowF zs len c2 (3 : Nat)).1.toNat
      generalize pick3o[(belowF zs len c2 (3 : Nat)).1.toNat]?.getD ByteArray.empty = tp at *
      generalize (belowF zs len c2 (3 : Nat)).2 = c3 at *
      go_wp2_with fail
      refine P3.out.mono ?_
      rintro e w3 ⟨rfl, hd3⟩
      have H3 := (H2.out.alloc (.cells #[.string ⟨#[]⟩, .string ⟨#[97, 98, 99]⟩, .string ⟨#[97, 98, 99, 100, 101]⟩] 9)).next hgl hd3
      obtain ⟨a0, a1, a2, a3, a4, a5⟩ := row3_of H3.row
      have H4 := Lib.hid ((H3.txt hgl tp).end hgl)
      have H3 := Lib.hid H3
      obtain ⟨⟨b0, b1, b2, -, -, -⟩, ⟨e0, e1, e2, e3, e4, e5⟩, -, -⟩ := H4.out
      obtain ⟨d0, d1, d2, d3, d4, d5⟩ := row3_of H3.out.res
      dsimp only at *
      clear hd3 H2 H3 P3
      go_wp2_with fail
      refine bodyPost_ret (v := .agg #[.int .i64 n, .int .i64 s, .string tp]) ?_ rfl ⟨((n, s), tp), c3, rfl, by dsimp only; omega, hps, H4.out.fin⟩
      rw [results_cell (p := 2) (ty := 43) (by kernel_rfl)]
      have hl := H4.out.load
      simp [asAddr, Result.andThen, hl]
    · have f1 : (x == 1) = false := by simpa using hx1
      have H4 := Lib.hid (H2.out.end hgl)
      obtain ⟨⟨b0, b1, b2, -, -, -⟩, ⟨e0, e1, e2, e3, e4, e5⟩, -, -⟩ := H4.out
      dsimp only at *
      clear H2
      go_wp2_with fail
      refine bodyPost_ret (v := .agg #[.int .i64 n, .int .i64 s, .string y]) ?_ rfl ⟨((n, s), y), c2, rfl, by dsimp only; omega, by dsimp only; omega, H4.out.fin⟩
      rw [results_cell (p := 2) (ty := 43) (by kernel_rfl)]
      have hl := H4.out.load
      simp [asAddr, Result.andThen, hl]
end Go.Proofs.Ytnknfmjpkphbpaa
/- Readings put behind readings, and moved on among themselves: at the operation. -/
namespace Go.Proofs.Ytnknfmjpkphbpaa
open Go.ChangeShapes Go.WideShapes Go.ChangeAt Go.RowKit Go.BigFrame
set_option linter.unusedVariables false

theorem run_append_rd5 {w : World} {base n : Nat} {v : Value} {xs : List Value} (hown : w.ownsRow base 43 3 v n xs) (u : Value) (rs : List R3) (hu : rdAt w u rs) (ty : TypeId) (hn : n + rs.length ≤ 4000000) (hbase : base ≤ w.heap.size) :
    ∃ v' w', (Builtin.append_ #[34, 34] ty #[v, u]).run Try.prog w = .ok v' w' ∧ w'.ownsRow base 43 3 v' (n + rs.length) (xs ++ rdCells rs) ∧ w.grownBy w' v.ownBlock ∧ (v'.ownBlock = v.ownBlock ∨ v'.ownBlock = some w.heap.size) := by
  obtain ⟨i0, hi, hz0, hz1, hz2⟩ := info_parts infoR
  obtain ⟨a, cap, rfl, hcap, hcells⟩ := hu
  by_cases h0 : rs.length = 0
  · obtain rfl : rs = [] := List.length_eq_zero_iff.1 h0
    exact ⟨v, w, rd_append_none hown a cap ty, by simpa [rdCells] using hown, World.grownBy.refl _ _, .inl rfl⟩
  · obtain ⟨g, off, rfl, hg, hcs⟩ := hcells.resolve_left h0
    obtain ⟨v', w', hr, h2, h3, h4, h5⟩ := run_append_own_at (P := Try.prog) w base 34 ty 43 i0 (.agg #[.int .i64 0, .int .i64 0, .string ⟨#[]⟩]) 3 32 Try.underlying34 hi hz0 hz1 hz2 rfl (by decide) v n xs hown ⟨g, off, none⟩ rs.length cap (rdCells rs) (rdCells_len rs) (rdCells_at hcs) (rdCells_one rs) (by unfold maxLen; omega) (by omega) hbase
    exact ⟨v', w', hr, h2, h3, h5⟩
theorem step_append_rd {ops : Array Oper} {o : Oper} {a : Act} {w : World} {K : Act → World → Prop} {Q : Exit → Act → World → Prop} {E : Prop} (hgd : o.guard = none) (s x : Operand)
    (ho : o.op = .call { callee := .builtin .append, args := #[s, x], argTypes := #[34, 34] })
    {base n : Nat} {v : Value} {xs : List Value} (hown : w.ownsRow base 43 3 v n xs) (u : Value) (rs : List R3) (hu : rdAt w u rs) (hs : a.eval s = v) (hx : a.eval x = u) (hn : n + rs.length ≤ 4000000) (hbase : base ≤ w.heap.size)
    (h : ∀ v' w', w'.ownsRow base 43 3 v' (n + rs.length) (xs ++ rdCells rs) → w.grownBy w' v.ownBlock → (v'.ownBlock = v.ownBlock ∨ v'.ownBlock = some w.heap.size) → K (a.put o.dst v') w') :
    if Region.wanted o (yielded ops a.tmps) = true then Oper.wp Try.prog o a w K Q else E := by
  have hw : Region.wanted o (yielded ops a.tmps) = true := by simp [Region.wanted, hgd]
  rw [if_pos hw]
  obtain ⟨v', w', hr, h2, h3, h5⟩ := run_append_rd5 hown u rs hu o.type hn hbase
  unfold Oper.wp execOp
  simp only [ho, resolve, invoke, builtin, Sem.run_bind, Sem.run_pure, Result.andThen_ok, List.map_toArray, List.map_cons, List.map_nil, hs, hx, hr]
  exact h v' w' h2 h3 h5
theorem grown_setRow (w : World) (g : Nat) (cs : Array Value) : w.grownBy (w.setRow g cs) (some g) :=
  ⟨rfl, rfl, rfl, by simp [World.setRow], fun k _ hk => setRow_other w g k cs (fun e => hk (by rw [e]))⟩
theorem rdCells_take : ∀ (L : List R3) (k : Nat), (rdCells L).take (k * 3) = rdCells (L.take k)
  | [], k => by simp [rdCells]
  | r :: l, 0 => by simp [rdCells]
  | r :: l, k + 1 => by
    have ih := rdCells_take l k
    rw [show (k + 1) * 3 = k * 3 + 1 + 1 + 1 by omega]
    simp only [rdCells, List.flatMap_cons, List.cons_append, List.nil_append, List.take_succ_cons] at *
    rw [ih]
theorem rdCells_drop : ∀ (L : List R3) (k : Nat), (rdCells L).drop (k * 3) = rdCells (L.drop k)
  | [], k => by simp [rdCells]
  | r :: l, 0 => by simp
  | r :: l, k + 1 => by
    have ih := rdCells_drop l k
    rw [show (k + 1) * 3 = k * 3 + 1 + 1 + 1 by omega]
    simp only [rdCells, List.flatMap_cons, List.cons_append, List.nil_append, List.drop_succ_cons] at *
    exact ih
set_option maxRecDepth 20000 in
theorem run_copy_rd {w : World} {base g N cap : Nat} {L : List R3} (hown : w.ownsRow base 43 3 (.slice (some ⟨g, 0, none⟩) N cap) N (rdCells L)) (i : Nat) (hi : i < N) (ty : TypeId) (da : Option Addr) (dc sc dl sl : Nat) (hdl : dl = N - (i + 1)) (hsl : sl = N - i)
    (hda : i + 1 = N ∨ da = some ⟨g, (i + 1) * 3, none⟩) :
    ∃ w', (Builtin.copy_ #[34, 34] ty #[.slice da dl dc, .slice (some ⟨g, i * 3, none⟩) sl sc]).run Try.prog w = .ok (goInt dl) w' ∧
      w'.ownsRow base 43 3 (.slice (some ⟨g, 0, none⟩) N cap) N (rdCells (L.take (i + 1) ++ (L.drop i).take dl)) ∧ w.grownBy w' (some g) := by
  obtain ⟨i0, hin, hz0, hz1, hz2⟩ := info_parts infoR
  have hxl := hown.1
  have hL : L.length = N := by rw [rdCells_len] at hxl; omega
  have hmin : Nat.min sl dl = dl := by rw [hsl, hdl]; exact Nat.min_eq_right (by omega)
  have u := Try.underlying34
  by_cases h0 : dl = 0
  · refine ⟨w, ?_, ?_, World.grownBy.refl _ _⟩
    · rw [h0] at hmin ⊢
      cases da <;> simp [Builtin.copy_, run_underlying u, Builtin.lenOf, Builtin.firstCells, sizeOf, typeInfo, hin, hmin, hz1, storeCells, loadCells, go_sem]
    · rw [h0, List.take_zero, List.append_nil, List.take_of_length_le (by omega)]
      exact hown
  · obtain rfl := hda.resolve_left (by omega)
    rcases hown.2 with ⟨h1, _⟩ | ⟨g', cap', cur, h1, hbg, hg, hnc, hcm, hcs, hct⟩
    · simp at h1
    · simp only [Value.slice.injEq, Option.some.injEq, Addr.mk.injEq, and_true, true_and] at h1
      obtain ⟨rfl, rfl⟩ := h1
      have hcl : (rdCells ((L.drop i).take dl)).length = dl * 3 := by rw [rdCells_len, List.length_take, List.length_drop, hL]; congr 1; omega
      have hsrc : ∀ j v, (rdCells ((L.drop i).take dl))[j]? = some v → w.cell? ((⟨g, i * 3, none⟩ : Addr).add j) = some v := by
        intro j v hv
        have hj : j < dl * 3 := by rw [← hcl]; exact (List.getElem?_eq_some_iff.1 hv).1
        rw [addr_plus, hown.cellAt (i * 3 + j) (by omega), ← hv, ← rdCells_take, ← rdCells_drop, List.getElem?_take, if_pos hj, List.getElem?_drop]
      have hl := run_loadCells_list (P := Try.prog) w ⟨g, i * 3, none⟩ _ hsrc
      have hfit : (i + 1) * 3 + (rdCells ((L.drop i).take dl)).length ≤ cur.size := by rw [hcl, hcs]; omega
      have hst := run_storeCells_at Try.prog g ((i + 1) * 3) 43 (rdCells ((L.drop i).take dl)) 0 cur w hg (by simpa using hfit) (rdCells_one _)
      rw [hcl] at hl
      refine ⟨_, ?_, ?_, grown_setRow w g (cur.toList.take ((i + 1) * 3) ++ rdCells ((L.drop i).take dl) ++ cur.toList.drop ((i + 1) * 3 + (rdCells ((L.drop i).take dl)).length)).toArray⟩
      · simp [Builtin.copy_, run_underlying u, Builtin.lenOf, Builtin.firstCells, sizeOf, typeInfo, hin, hz1, hmin, hl, hst]
      · have hlen : (cur.toList.take ((i + 1) * 3)).length = (i + 1) * 3 := by rw [List.length_take, Array.length_toList, hcs]; omega
        refine ⟨?_, .inr ⟨g, cap, _, rfl, hbg, setRow_heap w g _ _ _ _ hg, hnc, hcm, ?_, ?_⟩⟩
        · rw [rdCells_len, List.length_append, List.length_take, List.length_take, List.length_drop, hL]; congr 1; omega
        · simp only [List.size_toArray, List.length_append, hlen, hcl, List.length_drop, Array.length_toList, hcs]; omega
        · rw [rdCells_append, ← rdCells_take L (i + 1)]
          have h2 : cur.toList.take ((i + 1) * 3) = (rdCells L).take ((i + 1) * 3) := by rw [← hct, List.take_take, Nat.min_eq_left (by omega)]
          rw [List.take_append_of_le_length (by simp only [List.length_append, hlen, hcl]; omega), List.take_of_length_le (by simp only [List.length_append, hlen, hcl]; omega), h2]
theorem step_copy_rd {ops : Array Oper} {o : Oper} {a : Act} {w : World} {K : Act → World → Prop} {Q : Exit → Act → World → Prop} {E : Prop} (hgd : o.guard = none) (d s : Operand)
    (ho : o.op = .call { callee := .builtin .copy, args := #[d, s], argTypes := #[34, 34] })
    {base g N cap : Nat} {L : List R3} (hown : w.ownsRow base 43 3 (.slice (some ⟨g, 0, none⟩) N cap) N (rdCells L)) (i : Nat) (hi : i < N) (da : Option Addr) (dc sc dl sl : Nat) (hd : a.eval d = .slice da dl dc) (hs : a.eval s = .slice (some ⟨g, i * 3, none⟩) sl sc)
    (hdl : dl = N - (i + 1)) (hsl : sl = N - i) (hda : i + 1 = N ∨ da = some ⟨g, (i + 1) * 3, none⟩)
    (h : ∀ w', w'.ownsRow base 43 3 (.slice (some ⟨g, 0, none⟩) N cap) N (rdCells (L.take (i + 1) ++ (L.drop i).take dl)) → w.grownBy w' (some g) → K (a.put o.dst (goInt dl)) w') :
    if Region.wanted o (yielded ops a.tmps) = true then Oper.wp Try.prog o a w K Q else E := by
  have hw : Region.wanted o (yielded ops a.tmps) = true := by simp [Region.wanted, hgd]
  rw [if_pos hw]
  obtain ⟨w', hr, h2, h3⟩ := run_copy_rd hown i hi o.type da dc sc dl sl hdl hsl hda
  unfold Oper.wp execOp
  simp only [ho, resolve, invoke, builtin, Sem.run_bind, Sem.run_pure, Result.andThen_ok, List.map_toArray, List.map_cons, List.map_nil, hd, hs, hr]
  exact h w' h2 h3
/-- moved on, and laid in -/
theorem rd_moved (rs : List R3) (r x : R3) (i : Nat) (hi : i ≤ rs.length) (M : List R3) (hM : M = (rs ++ [r]).take (i + 1) ++ ((rs ++ [r]).drop i).take (rs.length + 1 - (i + 1))) :
    (((rdCells M).set (i * 3) (.int .i64 x.1.1)).set (i * 3 + 1) (.int .i64 x.1.2)).set (i * 3 + 2) (.string x.2) = rdCells (rs.take i ++ x :: rs.drop i) := by
  have hM2 : ∃ y, M = rs.take i ++ y :: rs.drop i := by
    by_cases he : i = rs.length
    · subst he
      refine ⟨r, ?_⟩
      rw [hM, List.take_of_length_le (by simp)]
      simp
    · have h1 : i < rs.length := by omega
      refine ⟨rs[i], ?_⟩
      have e1 : (rs ++ [r]).take (i + 1) = rs.take i ++ [rs[i]] := by rw [List.take_append_of_le_length (by omega), List.take_succ_eq_append_getElem h1]
      have hdl : (rs.drop i).length = rs.length - i := List.length_drop
      have e2 : ((rs ++ [r]).drop i).take (rs.length + 1 - (i + 1)) = rs.drop i := by
        rw [List.drop_append_of_le_length (by omega), List.take_append_of_le_length (by omega), List.take_of_length_le (by omega)]
      rw [hM, e1, e2, List.append_assoc]; rfl
  obtain ⟨y, rfl⟩ := hM2
  have hl : (rdCells (rs.take i)).length = i * 3 := by rw [rdCells_len]; simp; omega
  rw [rdCells_append, rdCells_append, show rdCells (y :: rs.drop i) = .int .i64 y.1.1 :: .int .i64 y.1.2 :: .string y.2 :: rdCells (rs.drop i) by simp [rdCells], show rdCells (x :: rs.drop i) = .int .i64 x.1.1 :: .int .i64 x.1.2 :: .string x.2 :: rdCells (rs.drop i) by simp [rdCells]]
  rw [List.set_append_right _ _ (by omega), hl, Nat.sub_self, List.set_cons_zero, List.set_append_right _ _ (by omega), hl, show i * 3 + 1 - i * 3 = 1 by omega, List.set_append_right _ _ (by omega), hl, show i * 3 + 2 - i * 3 = 2 by omega]
  simp
theorem slice_rd_run (g N c i : Nat) (hi : i ≤ N) (hc : N ≤ c) : ∃ o', (c - i = 0 ∨ o' = i * 3) ∧ ∀ w : World, (Instr.slice 34 (.slice (some ⟨g, 0, none⟩) N c) (some (.int .i64 i)) none none).run Try.prog w = .ok (.slice (some ⟨g, o', none⟩) (N - i) (c - i)) w := by
  have u := Try.underlying34
  obtain ⟨i0, hin, hz0, hz1, hz2⟩ := info_parts infoR
  have h2 : (i : Int) ≤ (N : Int) := by omega
  have h3 : (N : Int) ≤ (c : Int) := by omega
  have h4 : (0 : Int) ≤ (i : Int) := by omega
  by_cases h : c - i = 0
  · refine ⟨0, .inl h, fun w => ?_⟩
    go_simp
    intro hh; omega
  · refine ⟨i * 3, .inr rfl, fun w => ?_⟩
    go_simp
    intro hh; omega
end Go.Proofs.Ytnknfmjpkphbpaa
/- Where a key stands among readings. -/
namespace Go.Proofs.Ytnknfmjpkphbpaa

theorem aheadN_at (x : K2) : ∀ (rs : List R3) (k : Nat), k ≤ rs.length → (∀ j, j < k → aheadB (rs.getD j r0).1 x = true) → (k = rs.length ∨ aheadB (rs.getD k r0).1 x = false) → aheadN rs x = k
  | [], k, hk, _, _ => by simp at hk; simp [aheadN, hk]
  | r :: l, 0, _, _, h => by
    unfold aheadN
    rcases h with h | h
    · simp at h
    · rw [if_neg (by simpa using h)]
  | r :: l, k + 1, hk, hn, h => by
    unfold aheadN
    rw [if_pos (by simpa using hn 0 (by omega)), aheadN_at x l k (by simpa using hk) (fun j hj => by simpa using hn (j + 1) (by omega)) (by simpa using h)]
end Go.Proofs.Ytnknfmjpkphbpaa
/- The model's chapter 4, walked: a reading learned that wasn't there. -/
namespace Go.Proofs.Ytnknfmjpkphbpaa
open Go.ChangeShapes Go.WideShapes Go.ChangeAt Go.RowKit Go.BigFrame
set_option linter.unusedVariables false

theorem rd_row {w : World} {j : Nat} {r : R3} (h : w.heap[j]? = some (.cells #[.int .i64 r.1.1, .int .i64 r.1.2, .string r.2] 43)) : rdAt w (.slice (some ⟨j, 0, none⟩) 1 1) [r] := by
  refine ⟨_, 1, rfl, by simp, .inr ⟨j, 0, rfl, (Array.getElem?_eq_some_iff.1 h).1, fun i hi => ?_⟩⟩
  obtain rfl : i = 0 := by simp at hi; omega
  exact ⟨by rw [cell_of_row _ _ _ _ _ _ h]; rfl, by rw [cell_of_row _ _ _ _ _ _ h]; rfl, by rw [cell_of_row _ _ _ _ _ _ h]; rfl⟩
theorem rd_newR (w : World) (r : R3) : rdAt (w.alloc (.cells #[.int .i64 r.1.1, .int .i64 r.1.2, .string r.2] 43)) (.slice (some ⟨w.heap.size, 0, none⟩) 1 1) [r] := rd_row (heap_alloc_new w _)
structure S12 (w U : World) (r : R3) (v : Value) (n : Nat) (xs : List Value) : Prop where
  own : U.ownsRow w.heap.size 43 3 v n xs
  below : Below w.heap.size w U
  box : U.heap[w.heap.size]? = some (.cells #[.int .i64 r.1.1, .int .i64 r.1.2, .string r.2] 43)
  ne : v.ownBlock ≠ some w.heap.size
theorem lit1 {w w5 : World} {r : R3} (hb : Below w.heap.size w w5) (hx : w5.heap[w.heap.size]? = some (.cells #[.int .i64 r.1.1, .int .i64 r.1.2, .string r.2] 43)) :
    S12 w (w5.alloc (.cells #[] 43)).drew r (.slice (some ⟨w5.heap.size, 0, none⟩) 0 0) 0 [] := by
  have hl := (Array.getElem?_eq_some_iff.1 hx).1
  exact ⟨(World.ownsRow_made (base := w.heap.size) (e := 43) (size := 3) w5 #[] 0 hb.size (by unfold maxLen; omega) rfl).drew, (hb.alloc hb.size _).drew, (Below.heap_alloc _ _ _ hl).trans hx, by simp [Value.ownBlock]; omega⟩
theorem lit2 {w w5 : World} {r : R3} (hb : Below w.heap.size w w5) (hx : w5.heap[w.heap.size]? = some (.cells #[.int .i64 r.1.1, .int .i64 r.1.2, .string r.2] 43)) :
    S12 w ((w5.alloc (.cells #[] 43)).alloc (.cells #[.int .i64 r.1.1, .int .i64 r.1.2, .string r.2] 43)).drew r (.slice (some ⟨w5.heap.size, 0, none⟩) 0 0) 0 [] := by
  have h := lit1 hb hx
  have hl : w.heap.size < (w5.alloc (.cells #[] 43)).heap.size := (Array.getElem?_eq_some_iff.1 h.box).1
  exact ⟨((World.ownsRow_made (base := w.heap.size) (e := 43) (size := 3) w5 #[] 0 hb.size (by unfold maxLen; omega) rfl).alloc _).drew, ((hb.alloc hb.size _).alloc (Nat.le_of_lt hl) _).drew, (Below.heap_alloc _ _ _ hl).trans h.box, h.ne⟩
theorem lit3 {w w5 : World} {r : R3} (hb : Below w.heap.size w w5) (hx : w5.heap[w.heap.size]? = some (.cells #[.int .i64 r.1.1, .int .i64 r.1.2, .string r.2] 43)) :
    S12 w ((w5.alloc (.cells #[.int .i64 r.1.1, .int .i64 r.1.2, .string r.2] 43)).alloc (.cells #[] 43)).drew r (.slice (some ⟨w5.heap.size + 1, 0, none⟩) 0 0) 0 [] := by
  have hl := (Array.getElem?_eq_some_iff.1 hx).1
  have h := lit1 (hb.alloc hb.size (.cells #[.int .i64 r.1.1, .int .i64 r.1.2, .string r.2] 43)) (r := r) ((Below.heap_alloc _ _ _ hl).trans hx)
  rw [World.size_alloc] at h
  exact h
theorem row2 (w5 : World) (r : R3) : (((w5.alloc (.cells #[] 43)).alloc (.cells #[.int .i64 r.1.1, .int .i64 r.1.2, .string r.2] 43)).drew).heap[w5.heap.size + 1]? = some (.cells #[.int .i64 r.1.1, .int .i64 r.1.2, .string r.2] 43) := by
  have := heap_alloc_new (w5.alloc (.cells #[] 43)) (.cells #[.int .i64 r.1.1, .int .i64 r.1.2, .string r.2] 43)
  rw [World.size_alloc] at this
  exact this
theorem row3 (w5 : World) (r : R3) : (((w5.alloc (.cells #[.int .i64 r.1.1, .int .i64 r.1.2, .string r.2] 43)).alloc (.cells #[] 43)).drew).heap[w5.heap.size]? = some (.cells #[.int .i64 r.1.1, .int .i64 r.1.2, .string r.2] 43) :=
  (Below.heap_alloc _ _ _ (by simp)).trans (heap_alloc_new w5 _)
structure S6 (w w6 : World) (r : R3) (v6 : Value) (n : Nat) (ys : List Value) : Prop where
  own : w6.ownsRow w.heap.size 43 3 v6 n ys
  below : Below w.heap.size w w6
  box : w6.heap[w.heap.size]? = some (.cells #[.int .i64 r.1.1, .int .i64 r.1.2, .string r.2] 43)
theorem s12_aft {w U w6 : World} {r : R3} {v v6 : Value} {n n6 : Nat} {xs ys : List Value} (h : S12 w U r v n xs) (ho : w6.ownsRow w.heap.size 43 3 v6 n6 ys) (hg : U.grownBy w6 v.ownBlock) :
    S6 w w6 r v6 n6 ys :=
  ⟨ho, h.below.grown hg h.below.size (fun j e => (h.own.lt j e).1), (hg.block _ (Array.getElem?_eq_some_iff.1 h.box).1 (fun e => h.ne e.symm)).trans h.box⟩
theorem s12_fin {w w7 : World} {r : R3} {v7 : Value} {T : List R3} (h : w7.ownsRow w.heap.size 43 3 v7 (0 + T.length + [r].length) ([] ++ rdCells T ++ rdCells [r])) (hb : Below w.heap.size w w7) :
    w7.ownsRow w.heap.size 43 3 v7 (T.length + 1) (rdCells (T ++ [r])) ∧ Below w.heap.size w w7 := by
  rw [rdCells_append]
  rw [Nat.zero_add, List.nil_append] at h
  exact ⟨h, hb⟩
theorem s13_fin {w w8 : World} {r : R3} {v8 : Value} {rs : List R3} {k a : Nat} (hn : a = k) (hk : k ≤ rs.length) (h : w8.ownsRow w.heap.size 43 3 v8 (k + 1 + (rs.drop k).length) (rdCells (rs.take k ++ [r]) ++ rdCells (rs.drop k))) (hb : Below w.heap.size w w8) :
    w8.ownsRow w.heap.size 43 3 v8 (rs.length + 1) (rdCells (rs.take a ++ r :: rs.drop a)) ∧ Below w.heap.size w w8 := by
  subst hn
  rw [← rdCells_append, List.append_assoc, List.length_drop, show a + 1 + (rs.length - a) = rs.length + 1 by omega] at h
  exact ⟨h, hb⟩
theorem slice_from_run (g off N c i : Nat) (hi : i ≤ N) (hc : N ≤ c) : ∃ o', (c - i = 0 ∨ o' = off + i * 3) ∧ ∀ w : World, (Instr.slice 34 (.slice (some ⟨g, off, none⟩) N c) (some (.int .i64 i)) none none).run Try.prog w = .ok (.slice (some ⟨g, o', none⟩) (N - i) (c - i)) w := by
  have u := Try.underlying34
  obtain ⟨i0, hin, hz0, hz1, hz2⟩ := info_parts infoR
  have h2 : (i : Int) ≤ (N : Int) := by omega
  have h3 : (N : Int) ≤ (c : Int) := by omega
  have h4 : (0 : Int) ≤ (i : Int) := by omega
  by_cases h : c - i = 0
  · refine ⟨off, .inl h, fun w => ?_⟩
    go_simp
    intro hh; omega
  · refine ⟨off + i * 3, .inr rfl, fun w => ?_⟩
    go_simp
    intro hh; omega
theorem slice_nil_run (a : Option Addr) (c : Nat) : ∃ a1 c1, ∀ w : World, (Instr.slice 34 (.slice a 0 c) none (some (.int .i64 0)) none).run Try.prog w = .ok (.slice a1 0 c1) w := by
  have u := Try.underlying34
  obtain ⟨i0, hin, hz0, hz1, hz2⟩ := info_parts infoR
  cases a with
  | none => exact ⟨none, c, fun w => by go_simp⟩
  | some ad =>
    by_cases h : c = 0
    · subst h
      exact ⟨some ad, 0, fun w => by go_simp⟩
    · have h2 : (0 : Int) ≤ (c : Int) := by omega
      exact ⟨some (ad.add 0), c, fun w => by go_simp⟩
theorem slice_nil_from (a : Option Addr) (c : Nat) : ∃ a1 c1, ∀ w : World, (Instr.slice 34 (.slice a 0 c) (some (.int .i64 0)) none none).run Try.prog w = .ok (.slice a1 0 c1) w := by
  have u := Try.underlying34
  obtain ⟨i0, hin, hz0, hz1, hz2⟩ := info_parts infoR
  cases a with
  | none => exact ⟨none, c, fun w => by go_simp⟩
  | some ad =>
    by_cases h : c = 0
    · subst h
      exact ⟨some ad, 0, fun w => by go_simp⟩
    · have h2 : (0 : Int) ≤ (c : Int) := by omega
      exact ⟨some (ad.add 0), c, fun w => by go_simp⟩
theorem rdAt_nil (w : World) (a : Option Addr) (c : Nat) : rdAt w (.slice a 0 c) [] := ⟨a, c, rfl, by simp, .inl rfl⟩
theorem rd_from {w : World} {g off cap k o1 : Nat} {rs : List R3} (h : rdAt w (.slice (some ⟨g, off, none⟩) rs.length cap) rs) (hk : k ≤ rs.length) (hc : rs.length ≤ cap) (ho : cap - k = 0 ∨ o1 = off + k * 3) : rdAt w (.slice (some ⟨g, o1, none⟩) (rs.length - k) (cap - k)) (rs.drop k) := by
  rcases ho with h0 | rfl
  · have e : rs.length - k = 0 := by omega
    have e2 : rs.drop k = [] := List.drop_eq_nil_of_le (by omega)
    rw [e, e2]
    exact rdAt_nil _ _ _
  · exact rdAt_drop h k _ hk rfl (by omega)
theorem rdc_below {w w4 : World} {g off k : Nat} {x : R3} (h : w.cell? ⟨g, off + k * 3, none⟩ = some (.int .i64 x.1.1) ∧ w.cell? ⟨g, off + k * 3 + 1, none⟩ = some (.int .i64 x.1.2) ∧ w.cell? ⟨g, off + k * 3 + 2, none⟩ = some (.string x.2)) (hg : g < w.heap.size) (hb : Below w.heap.size w w4) :
    w4.cell? ⟨g, off + k * 3, none⟩ = some (.int .i64 x.1.1) ∧ w4.cell? ⟨g, off + k * 3 + 1, none⟩ = some (.int .i64 x.1.2) ∧ w4.cell? ⟨g, off + k * 3 + 2, none⟩ = some (.string x.2) := by
  rw [hb.cell (p := ⟨g, off + k * 3, none⟩) hg, hb.cell (p := ⟨g, off + k * 3 + 1, none⟩) hg, hb.cell (p := ⟨g, off + k * 3 + 2, none⟩) hg]
  exact h
set_option maxRecDepth 100000 in
set_option maxHeartbeats 2000000 in
theorem slearn_some (v : Value) (rs : List R3) (r : R3) (w : World) (h : rdAt w v rs) (hs : rs.length ≤ 1900000) (hk : rdsOkR rs = true) (hk2 : rdOkB r = true) (hl : loadO rs r.1 = none) (hne : rs.length ≠ 0) : Calls Try.prog 99 #[v, rv r] w fun e w' => ∃ v', e = .returned (.tuple #[v', .int .i64 0]) ∧
    w'.ownsRow w.heap.size 43 3 v' (rs.length + 1) (rdCells (rs.take (aheadN rs r.1) ++ r :: rs.drop (aheadN rs r.1))) ∧ Below w.heap.size w w' := by
  have hr : rv r = .agg #[.int .i64 r.1.1, .int .i64 r.1.2, .string r.2] := rfl
  have hown0 := World.ownsRow_made (base := w.heap.size) (e := 43) (size := 3) (w.alloc (.cells #[.int .i64 r.1.1, .int .i64 r.1.2, .string r.2] 43)) #[] 0 (by simp) (by unfold maxLen; omega) rfl
  have hb0 : Below w.heap.size w ((w.alloc (.cells #[.int .i64 r.1.1, .int .i64 r.1.2, .string r.2] 43)).alloc (.cells #[] 43)) := ((Below.refl _ _).alloc (Nat.le_refl _) _).alloc (by simp) _
  have hl0 := rdAt_below h hb0
  rw [show (w.alloc (.cells #[.int .i64 r.1.1, .int .i64 r.1.2, .string r.2] 43)).heap.size = w.heap.size + 1 by simp] at hown0
  have hbx : ((w.alloc (.cells #[.int .i64 r.1.1, .int .i64 r.1.2, .string r.2] 43)).alloc (.cells #[] 43)).heap[w.heap.size]? = some (.cells #[.int .i64 r.1.1, .int .i64 r.1.2, .string r.2] 43) := heap_first _ _ _
  go_enter Try.func99, Try.ntmps99
  rw [hr]
  go_wp2_with (at_builtin; refine wpList_append_rd rfl (.tmp 11) (.tmp 12) rfl hown0 _ rs hl0 rfl rfl (by omega) (by simp; omega) ?_; intro u w1 hown1 hgrow1)
  have hb1 : Below w.heap.size w w1 := hb0.grown hgrow1 (by simp; omega) (fun k e => (hown0.lt k e).1)
  have hx1 : w1.heap[w.heap.size]? = some (.cells #[.int .i64 r.1.1, .int .i64 r.1.2, .string r.2] 43) := by
    rw [hgrow1.block w.heap.size (by simp; omega) (fun e => by simp [Value.ownBlock] at e)]; exact hbx
  have K1 : LKeep w w1 w.heap.size r v rs u := ⟨⟨by rw [cell_of_row _ _ 0 _ _ _ hx1]; rfl, by rw [cell_of_row _ _ 1 _ _ _ hx1]; rfl, by rw [cell_of_row _ _ 2 _ _ _ hx1]; rfl⟩, (Array.getElem?_eq_some_iff.1 hx1).1, by simpa using hown1, hb1, rdAt_below h hb1⟩
  have HX1 := Lib.hid hx1
  clear hb1 hx1 hown1 hgrow1 hown0 hb0 hl0 hbx
  have HR := Lib.hid (fun w => sreadingok_any r w)
  have HRS := Lib.hid (sreadingsok_any v rs w1 K1.list (by omega))
  have HL := Lib.hid (fun w' (hw : rdAt w' v rs) => sloadof_any v rs r.1 w' hw (by omega))
  rw [hk] at HRS
  rw [hk2] at HR
  rw [hl] at HL
  go_wp2_with fail
  refine HRS.out.mono ?_
  rintro e w2 ⟨rfl, hb2⟩
  have K2 := K1.next hb2
  have HX2 := Lib.hid ((hb2.block _ (Array.getElem?_eq_some_iff.1 HX1.out).1).trans HX1.out)
  obtain ⟨q0, q1, q2⟩ := K2.box
  rw [hr] at HR
  have K2 := Lib.hid K2
  clear K1 hb2 HRS HX1
  go_wp2_with fail
  refine (HR.out _).mono ?_
  rintro e w3 ⟨rfl, hb3⟩
  have K3 := K2.out.next hb3
  have HX3 := Lib.hid ((hb3.block _ (Array.getElem?_eq_some_iff.1 HX2.out).1).trans HX2.out)
  clear K2 hb3 HR HX2 q0 q1 q2
  obtain ⟨q0, q1, q2⟩ := K3.box
  have HL3 := Lib.hid (HL.out w3 K3.list)
  have K3 := Lib.hid K3
  clear HL
  go_wp2_with fail
  refine HL3.out.mono ?_
  rintro e w4 ⟨rfl, hb4⟩
  have HX4 := Lib.hid ((hb4.block _ (Array.getElem?_eq_some_iff.1 HX3.out).1).trans HX3.out)
  have K4 := K3.out.next hb4
  clear K3 hb4 HL3 q0 q1 q2 HX3
  rw [show loadV (none : Option ByteArray) = .tuple #[.string ⟨#[]⟩, .bool false] from rfl]
  clear hl hk hk2
  obtain ⟨a, cap, rfl, hcap, hcells⟩ := h
  obtain ⟨g, off, rfl, hg, hcs⟩ := hcells.resolve_left hne
  have LK : ∀ w', Below w4.heap.size w4 w' → (loadVar 41 ⟨w.heap.size, 0, none⟩).run Try.prog w' = .ok (kv r.1) w' := fun w' hb => (K4.next hb).loadk
  have HB4 := Lib.hid K4.below
  have K4 := Lib.hid K4
  go_wp2
  go_loopw [9] (fun i wr => ∃ k : Nat, k ≤ rs.length ∧ i = .int .i64 k ∧ (∀ j, j < k → aheadB (rs.getD j r0).1 r.1 = true) ∧ Below w4.heap.size w4 wr) (fun i _ => rs.length - (intOf i).toNat)
  case atStart => exact ⟨0, Nat.zero_le _, rfl, fun j hj => by omega, Below.refl _ _⟩
  case round =>
    obtain ⟨k, hkl, rfl, hall, hb⟩ := hrel
    have z0 : (0 : Int) ≤ (k : Int) := by omega
    by_cases hlt : k < rs.length
    · have z1 : (k : Int) < (rs.length : Int) := by omega
      have c1 := hcs k hlt
      have L1 := fun w' hb => rdk_load (rdc_below c1 hg HB4.out) (w' := w') (Nat.lt_of_lt_of_le hg HB4.out.size) hb
      have HA := Lib.hid (fun w => sahead_any (rs.getD k r0).1 r.1 w)
      cases hah : aheadB (rs.getD k r0).1 r.1 with
      | true =>
        have hn : ∀ j, j < k + 1 → aheadB (rs.getD j r0).1 r.1 = true := by
          intro j hj
          rcases (by omega : j < k ∨ j = k) with h1 | rfl
          · exact hall j h1
          · exact hah
        have HN := Lib.hid hn
        rw [hah] at HA
        clear hcs c1 hall hn hah
        generalize rs.getD k r0 = kx at *
        go_wp2
        refine wp_region_below w4 (by kernel_rfl) (by kernel_rfl) hb ?_
        repeat (first
          | go_big_quiet_skip
          | (go_big_quiet_want
             first
               | (go_big_quiet_op; go_big_quiet_on)
               | (refine q_load 41 _ _ _ rfl rfl L1 ?_; simp only [Act.put, List.setIfInBounds_toArray, List.set_cons_zero, List.set_cons_succ]; go_big_quiet_on)
               | (refine q_load 41 _ _ _ rfl rfl LK ?_; simp only [Act.put, List.setIfInBounds_toArray, List.set_cons_zero, List.set_cons_succ]; go_big_quiet_on)
               | (go_big_quiet_op; refine ⟨_, fun _ _ => rfl, ?_⟩; go_big_quiet_on)
               | (go_big_quiet_op; apply Exists.intro; refine ⟨fun w' hw' => ?_, ?_⟩
                  · first
                    | (with_reducible refine (HA.out w').mono ?_
                       rintro e w2 ⟨rfl, hb2⟩
                       exact ⟨rfl, hw'.trans (hb2.mono hw'.size)⟩)
                  go_big_quiet_on)))
        refine wpQuiet_nil ?_
        intro w5 hb5
        clear L1 LK HA hb
        go_wp2
        exact ⟨⟨k + 1, by omega, by go_num, HN.out, hb5⟩, by simp [intOf]; omega⟩
      | false =>
        have HN := Lib.hid (aheadN_at r.1 rs k (by omega) hall (.inr hah))
        rw [hah] at HA
        obtain ⟨o1, ho1, hs1⟩ := slice_from_run g off rs.length cap k hkl hcap
        have HT := Lib.hid (fun w' (hb : Below w.heap.size w w') => rdAt_take (rdAt_below (⟨_, cap, rfl, hcap, .inr ⟨g, off, rfl, hg, hcs⟩⟩ : rdAt w (.slice (some ⟨g, off, none⟩) rs.length cap) rs) hb) k cap hkl (by omega))
        have HD := Lib.hid (fun w' (hb : Below w.heap.size w w') => rd_from (rdAt_below (⟨_, cap, rfl, hcap, .inr ⟨g, off, rfl, hg, hcs⟩⟩ : rdAt w (.slice (some ⟨g, off, none⟩) rs.length cap) rs) hb) hkl hcap ho1)
        clear hcs c1 hall hah ho1
        generalize rs.getD k r0 = kx at *
        go_wp2
        refine wp_region_below w4 (by kernel_rfl) (by kernel_rfl) hb ?_
        repeat (first
          | go_big_quiet_skip
          | (go_big_quiet_want
             first
               | (go_big_quiet_op; go_big_quiet_on)
               | (refine q_load 41 _ _ _ rfl rfl L1 ?_; simp only [Act.put, List.setIfInBounds_toArray, List.set_cons_zero, List.set_cons_succ]; go_big_quiet_on)
               | (refine q_load 41 _ _ _ rfl rfl LK ?_; simp only [Act.put, List.setIfInBounds_toArray, List.set_cons_zero, List.set_cons_succ]; go_big_quiet_on)
               | (go_big_quiet_op; refine ⟨_, fun _ _ => rfl, ?_⟩; go_big_quiet_on)
               | (go_big_quiet_op; apply Exists.intro; refine ⟨fun w' hw' => ?_, ?_⟩
                  · first
                    | (with_reducible refine (HA.out w').mono ?_
                       rintro e w2 ⟨rfl, hb2⟩
                       exact ⟨rfl, hw'.trans (hb2.mono hw'.size)⟩)
                  go_big_quiet_on)))
        refine wpQuiet_nil ?_
        intro w5 hb5
        clear L1 LK HA hb HB4
        have K5 := K4.out.next hb5
        have z2 : (k : Int) ≤ (cap : Int) := by omega
        have hx5 : w5.heap[w.heap.size]? = some (.cells #[.int .i64 r.1.1, .int .i64 r.1.2, .string r.2] 43) := (hb5.block _ (Array.getElem?_eq_some_iff.1 HX4.out).1).trans HX4.out
        have q0 : w5.cell? ⟨w.heap.size, 0, none⟩ = some (.int .i64 r.1.1) := by rw [cell_of_row _ _ 0 _ _ _ hx5]; rfl
        have q1 : w5.cell? ⟨w.heap.size, 1, none⟩ = some (.int .i64 r.1.2) := by rw [cell_of_row _ _ 1 _ _ _ hx5]; rfl
        have q2 : w5.cell? ⟨w.heap.size, 2, none⟩ = some (.string r.2) := by rw [cell_of_row _ _ 2 _ _ _ hx5]; rfl
        have hlx := (Array.getElem?_eq_some_iff.1 hx5).1
        have LIT1 := Lib.hid (lit1 K5.below hx5)
        have LIT2 := Lib.hid (lit2 K5.below hx5)
        have LIT3 := Lib.hid (lit3 K5.below hx5)
        have ROW2 := Lib.hid (row2 w5 r)
        have ROW3 := Lib.hid (row3 w5 r)
        have HTL := Lib.hid (show (rs.take k).length = k by rw [List.length_take]; omega)
        clear K4 K5 hb5 hx5 HX4
        go_wp2_with fail
        go_region_law (first
          | (refine step_append_rd rfl (.tmp 53) (.tmp 56) rfl LIT1.out.own _ (rs.take k) (HT.out _ LIT1.out.below) rfl rfl (by have := HTL.out; omega) LIT1.out.below.size ?_
             intro v6 w6 hown6 hgr6 hw6
             have HF6 := Lib.hid (s12_aft LIT1.out hown6 hgr6)
             have c0 : w6.cell? ⟨w.heap.size, 0, none⟩ = some (.int .i64 r.1.1) := by rw [cell_of_row _ _ 0 _ _ _ HF6.out.box]; rfl
             have c1 : w6.cell? ⟨w.heap.size, 1, none⟩ = some (.int .i64 r.1.2) := by rw [cell_of_row _ _ 1 _ _ _ HF6.out.box]; rfl
             have c2 : w6.cell? ⟨w.heap.size, 2, none⟩ = some (.string r.2) := by rw [cell_of_row _ _ 2 _ _ _ HF6.out.box]; rfl
             clear hown6 hgr6 hw6)
          | (refine step_append_rd rfl (.tmp 53) (.tmp 56) rfl LIT2.out.own _ (rs.take k) (HT.out _ LIT2.out.below) rfl rfl (by have := HTL.out; omega) LIT2.out.below.size ?_
             intro v6 w6 hown6 hgr6 hw6
             have HF6 := Lib.hid (s12_aft LIT2.out hown6 hgr6)
             have hu6 := rd_row ((hgr6.block (w5.heap.size + 1) (by show _ < ((w5.alloc _).alloc _).heap.size; simp) (by simp [Value.ownBlock])).trans ROW2.out)
             have c0 : w6.cell? ⟨w.heap.size, 0, none⟩ = some (.int .i64 r.1.1) := by rw [cell_of_row _ _ 0 _ _ _ HF6.out.box]; rfl
             have c1 : w6.cell? ⟨w.heap.size, 1, none⟩ = some (.int .i64 r.1.2) := by rw [cell_of_row _ _ 1 _ _ _ HF6.out.box]; rfl
             have c2 : w6.cell? ⟨w.heap.size, 2, none⟩ = some (.string r.2) := by rw [cell_of_row _ _ 2 _ _ _ HF6.out.box]; rfl
             clear hown6 hgr6 hw6)
          | (refine step_append_rd rfl (.tmp 53) (.tmp 56) rfl LIT3.out.own _ (rs.take k) (HT.out _ LIT3.out.below) rfl rfl (by have := HTL.out; omega) LIT3.out.below.size ?_
             intro v6 w6 hown6 hgr6 hw6
             have HF6 := Lib.hid (s12_aft LIT3.out hown6 hgr6)
             have hu6 := rd_row ((hgr6.block w5.heap.size (by show _ < ((w5.alloc _).alloc _).heap.size; simp; omega) (by simp [Value.ownBlock])).trans ROW3.out)
             have c0 : w6.cell? ⟨w.heap.size, 0, none⟩ = some (.int .i64 r.1.1) := by rw [cell_of_row _ _ 0 _ _ _ HF6.out.box]; rfl
             have c1 : w6.cell? ⟨w.heap.size, 1, none⟩ = some (.int .i64 r.1.2) := by rw [cell_of_row _ _ 1 _ _ _ HF6.out.box]; rfl
             have c2 : w6.cell? ⟨w.heap.size, 2, none⟩ = some (.string r.2) := by rw [cell_of_row _ _ 2 _ _ _ HF6.out.box]; rfl
             clear hown6 hgr6 hw6)
          | (refine step_append_rd rfl (.tmp 57) (.tmp 59) rfl (HF6.out.own.alloc _) _ [r] (rd_newR w6 r) rfl rfl (by have := HTL.out; simp only [List.length_singleton]; omega) (by have := HF6.out.below.size; simp; omega) ?_
             intro v7 w7 hown7 hgr7 hw7
             have HE := Lib.hid (s12_fin hown7 ((HF6.out.below.alloc HF6.out.below.size _).grown hgr7 (Nat.le_trans HF6.out.below.size (by simp)) (fun j e => (HF6.out.own.lt j e).1)))
             clear hown7 hgr7 hw7 HF6)
          | (refine step_append_rd rfl (.tmp 57) (.tmp 59) rfl HF6.out.own _ [r] hu6 rfl rfl (by have := HTL.out; simp only [List.length_singleton]; omega) HF6.out.below.size ?_
             intro v7 w7 hown7 hgr7 hw7
             have HE := Lib.hid (s12_fin hown7 (HF6.out.below.grown hgr7 HF6.out.below.size (fun j e => (HF6.out.own.lt j e).1)))
             clear hown7 hgr7 hw7 HF6 hu6))
        all_goals
          clear HT LIT1 LIT2 LIT3 ROW2 ROW3 q0 q1 q2 hlx
          have h7 := HE.out.1
          rw [HTL.out] at h7
          have HB7 := Lib.hid HE.out.2
          clear HE
          go_wp2_with (at_builtin; refine wpList_append_rd rfl (.tmp 61) (.tmp 64) rfl h7 _ (rs.drop k) (HD.out _ HB7.out) rfl rfl (by first | (simp; done) | (simp; omega)) HB7.out.size ?_; intro v8 w8 hown8 hgr8)
          have HE8 := Lib.hid (s13_fin HN.out hkl hown8 (HB7.out.grown hgr8 HB7.out.size (fun j e => (h7.lt j e).1)))
          clear hown8 hgr8 h7 HB7 HD hs1
          go_wp2
          go_ret2
          exact ⟨_, rfl, HE8.out.1, HE8.out.2⟩
    · have z1 : ¬ (k : Int) < (rs.length : Int) := by omega
      have HN := Lib.hid (aheadN_at r.1 rs k (by omega) hall (.inl (by omega)))
      obtain ⟨o1, ho1, hs1⟩ := slice_from_run g off rs.length cap k hkl hcap
      have HT := Lib.hid (fun w' (hb : Below w.heap.size w w') => rdAt_take (rdAt_below (⟨_, cap, rfl, hcap, .inr ⟨g, off, rfl, hg, hcs⟩⟩ : rdAt w (.slice (some ⟨g, off, none⟩) rs.length cap) rs) hb) k cap hkl (by omega))
      have HD := Lib.hid (fun w' (hb : Below w.heap.size w w') => rd_from (rdAt_below (⟨_, cap, rfl, hcap, .inr ⟨g, off, rfl, hg, hcs⟩⟩ : rdAt w (.slice (some ⟨g, off, none⟩) rs.length cap) rs) hb) hkl hcap ho1)
      clear hcs hall ho1
      go_wp2
      refine wp_region_below w4 (by kernel_rfl) (by kernel_rfl) hb ?_
      repeat (first
        | go_big_quiet_skip
        | (go_big_quiet_want
           first
             | (go_big_quiet_op; go_big_quiet_on)
             | (go_big_quiet_op; refine ⟨_, fun _ _ => rfl, ?_⟩; go_big_quiet_on)
             | (go_big_quiet_op; go_big_quiet_on)))
      refine wpQuiet_nil ?_
      intro w5 hb5
      clear LK hb HB4
      have K5 := K4.out.next hb5
      have z2 : (k : Int) ≤ (cap : Int) := by omega
      have hx5 : w5.heap[w.heap.size]? = some (.cells #[.int .i64 r.1.1, .int .i64 r.1.2, .string r.2] 43) := (hb5.block _ (Array.getElem?_eq_some_iff.1 HX4.out).1).trans HX4.out
      have q0 : w5.cell? ⟨w.heap.size, 0, none⟩ = some (.int .i64 r.1.1) := by rw [cell_of_row _ _ 0 _ _ _ hx5]; rfl
      have q1 : w5.cell? ⟨w.heap.size, 1, none⟩ = some (.int .i64 r.1.2) := by rw [cell_of_row _ _ 1 _ _ _ hx5]; rfl
      have q2 : w5.cell? ⟨w.heap.size, 2, none⟩ = some (.string r.2) := by rw [cell_of_row _ _ 2 _ _ _ hx5]; rfl
      have hlx := (Array.getElem?_eq_some_iff.1 hx5).1
      have LIT1 := Lib.hid (lit1 K5.below hx5)
      have LIT2 := Lib.hid (lit2 K5.below hx5)
      have LIT3 := Lib.hid (lit3 K5.below hx5)
      have ROW2 := Lib.hid (row2 w5 r)
      have ROW3 := Lib.hid (row3 w5 r)
      have HTL := Lib.hid (show (rs.take k).length = k by rw [List.length_take]; omega)
      clear K4 K5 hb5 hx5 HX4
      go_wp2_with fail
      go_region_law (first
        | (refine step_append_rd rfl (.tmp 53) (.tmp 56) rfl LIT1.out.own _ (rs.take k) (HT.out _ LIT1.out.below) rfl rfl (by have := HTL.out; omega) LIT1.out.below.size ?_
           intro v6 w6 hown6 hgr6 hw6
           have HF6 := Lib.hid (s12_aft LIT1.out hown6 hgr6)
           have c0 : w6.cell? ⟨w.heap.size, 0, none⟩ = some (.int .i64 r.1.1) := by rw [cell_of_row _ _ 0 _ _ _ HF6.out.box]; rfl
           have c1 : w6.cell? ⟨w.heap.size, 1, none⟩ = some (.int .i64 r.1.2) := by rw [cell_of_row _ _ 1 _ _ _ HF6.out.box]; rfl
           have c2 : w6.cell? ⟨w.heap.size, 2, none⟩ = some (.string r.2) := by rw [cell_of_row _ _ 2 _ _ _ HF6.out.box]; rfl
           clear hown6 hgr6 hw6)
        | (refine step_append_rd rfl (.tmp 53) (.tmp 56) rfl LIT2.out.own _ (rs.take k) (HT.out _ LIT2.out.below) rfl rfl (by have := HTL.out; omega) LIT2.out.below.size ?_
           intro v6 w6 hown6 hgr6 hw6
           have HF6 := Lib.hid (s12_aft LIT2.out hown6 hgr6)
           have hu6 := rd_row ((hgr6.block (w5.heap.size + 1) (by show _ < ((w5.alloc _).alloc _).heap.size; simp) (by simp [Value.ownBlock])).trans ROW2.out)
           have c0 : w6.cell? ⟨w.heap.size, 0, none⟩ = some (.int .i64 r.1.1) := by rw [cell_of_row _ _ 0 _ _ _ HF6.out.box]; rfl
           have c1 : w6.cell? ⟨w.heap.size, 1, none⟩ = some (.int .i64 r.1.2) := by rw [cell_of_row _ _ 1 _ _ _ HF6.out.box]; rfl
           have c2 : w6.cell? ⟨w.heap.size, 2, none⟩ = some (.string r.2) := by rw [cell_of_row _ _ 2 _ _ _ HF6.out.box]; rfl
           clear hown6 hgr6 hw6)
        | (refine step_append_rd rfl (.tmp 53) (.tmp 56) rfl LIT3.out.own _ (rs.take k) (HT.out _ LIT3.out.below) rfl rfl (by have := HTL.out; omega) LIT3.out.below.size ?_
           intro v6 w6 hown6 hgr6 hw6
           have HF6 := Lib.hid (s12_aft LIT3.out hown6 hgr6)
           have hu6 := rd_row ((hgr6.block w5.heap.size (by show _ < ((w5.alloc _).alloc _).heap.size; simp; omega) (by simp [Value.ownBlock])).trans ROW3.out)
           have c0 : w6.cell? ⟨w.heap.size, 0, none⟩ = some (.int .i64 r.1.1) := by rw [cell_of_row _ _ 0 _ _ _ HF6.out.box]; rfl
           have c1 : w6.cell? ⟨w.heap.size, 1, none⟩ = some (.int .i64 r.1.2) := by rw [cell_of_row _ _ 1 _ _ _ HF6.out.box]; rfl
           have c2 : w6.cell? ⟨w.heap.size, 2, none⟩ = some (.string r.2) := by rw [cell_of_row _ _ 2 _ _ _ HF6.out.box]; rfl
           clear hown6 hgr6 hw6)
        | (refine step_append_rd rfl (.tmp 57) (.tmp 59) rfl (HF6.out.own.alloc _) _ [r] (rd_newR w6 r) rfl rfl (by have := HTL.out; simp only [List.length_singleton]; omega) (by have := HF6.out.below.size; simp; omega) ?_
           intro v7 w7 hown7 hgr7 hw7
           have HE := Lib.hid (s12_fin hown7 ((HF6.out.below.alloc HF6.out.below.size _).grown hgr7 (Nat.le_trans HF6.out.below.size (by simp)) (fun j e => (HF6.out.own.lt j e).1)))
           clear hown7 hgr7 hw7 HF6)
        | (refine step_append_rd rfl (.tmp 57) (.tmp 59) rfl HF6.out.own _ [r] hu6 rfl rfl (by have := HTL.out; simp only [List.length_singleton]; omega) HF6.out.below.size ?_
           intro v7 w7 hown7 hgr7 hw7
           have HE := Lib.hid (s12_fin hown7 (HF6.out.below.grown hgr7 HF6.out.below.size (fun j e => (HF6.out.own.lt j e).1)))
           clear hown7 hgr7 hw7 HF6 hu6))
      all_goals
        clear HT LIT1 LIT2 LIT3 ROW2 ROW3 q0 q1 q2 hlx
        have h7 := HE.out.1
        rw [HTL.out] at h7
        have HB7 := Lib.hid HE.out.2
        clear HE
        go_wp2_with (at_builtin; refine wpList_append_rd rfl (.tmp 61) (.tmp 64) rfl h7 _ (rs.drop k) (HD.out _ HB7.out) rfl rfl (by first | (simp; done) | (simp; omega)) HB7.out.size ?_; intro v8 w8 hown8 hgr8)
        have HE8 := Lib.hid (s13_fin HN.out hkl hown8 (HB7.out.grown hgr8 HB7.out.size (fun j e => (h7.lt j e).1)))
        clear hown8 hgr8 h7 HB7 HD hs1
        go_wp2
        go_ret2
        exact ⟨_, rfl, HE8.out.1, HE8.out.2⟩
end Go.Proofs.Ytnknfmjpkphbpaa
/- The model's chapter 4, walked: a reading learned by no list; what is learned, in one. -/
namespace Go.Proofs.Ytnknfmjpkphbpaa
open Go.ChangeShapes Go.WideShapes Go.ChangeAt Go.RowKit Go.BigFrame
set_option linter.unusedVariables false

set_option maxRecDepth 100000 in
set_option maxHeartbeats 2000000 in
theorem slearn_none (v : Value) (rs : List R3) (r : R3) (w : World) (h : rdAt w v rs) (hs : rs.length ≤ 1900000) (hk : rdsOkR rs = true) (hk2 : rdOkB r = true) (hl : loadO rs r.1 = none) (hne : rs.length = 0) : Calls Try.prog 99 #[v, rv r] w fun e w' => ∃ v', e = .returned (.tuple #[v', .int .i64 0]) ∧
    w'.ownsRow w.heap.size 43 3 v' (rs.length + 1) (rdCells (rs.take (aheadN rs r.1) ++ r :: rs.drop (aheadN rs r.1))) ∧ Below w.heap.size w w' := by
  have hr : rv r = .agg #[.int .i64 r.1.1, .int .i64 r.1.2, .string r.2] := rfl
  have hown0 := World.ownsRow_made (base := w.heap.size) (e := 43) (size := 3) (w.alloc (.cells #[.int .i64 r.1.1, .int .i64 r.1.2, .string r.2] 43)) #[] 0 (by simp) (by unfold maxLen; omega) rfl
  have hb0 : Below w.heap.size w ((w.alloc (.cells #[.int .i64 r.1.1, .int .i64 r.1.2, .string r.2] 43)).alloc (.cells #[] 43)) := ((Below.refl _ _).alloc (Nat.le_refl _) _).alloc (by simp) _
  have hl0 := rdAt_below h hb0
  rw [show (w.alloc (.cells #[.int .i64 r.1.1, .int .i64 r.1.2, .string r.2] 43)).heap.size = w.heap.size + 1 by simp] at hown0
  have hbx : ((w.alloc (.cells #[.int .i64 r.1.1, .int .i64 r.1.2, .string r.2] 43)).alloc (.cells #[] 43)).heap[w.heap.size]? = some (.cells #[.int .i64 r.1.1, .int .i64 r.1.2, .string r.2] 43) := heap_first _ _ _
  go_enter Try.func99, Try.ntmps99
  rw [hr]
  go_wp2_with (at_builtin; refine wpList_append_rd rfl (.tmp 11) (.tmp 12) rfl hown0 _ rs hl0 rfl rfl (by omega) (by simp; omega) ?_; intro u w1 hown1 hgrow1)
  have hb1 : Below w.heap.size w w1 := hb0.grown hgrow1 (by simp; omega) (fun k e => (hown0.lt k e).1)
  have hx1 : w1.heap[w.heap.size]? = some (.cells #[.int .i64 r.1.1, .int .i64 r.1.2, .string r.2] 43) := by
    rw [hgrow1.block w.heap.size (by simp; omega) (fun e => by simp [Value.ownBlock] at e)]; exact hbx
  have K1 : LKeep w w1 w.heap.size r v rs u := ⟨⟨by rw [cell_of_row _ _ 0 _ _ _ hx1]; rfl, by rw [cell_of_row _ _ 1 _ _ _ hx1]; rfl, by rw [cell_of_row _ _ 2 _ _ _ hx1]; rfl⟩, (Array.getElem?_eq_some_iff.1 hx1).1, by simpa using hown1, hb1, rdAt_below h hb1⟩
  have HX1 := Lib.hid hx1
  clear hb1 hx1 hown1 hgrow1 hown0 hb0 hl0 hbx
  have HR := Lib.hid (fun w => sreadingok_any r w)
  have HRS := Lib.hid (sreadingsok_any v rs w1 K1.list (by omega))
  have HL := Lib.hid (fun w' (hw : rdAt w' v rs) => sloadof_any v rs r.1 w' hw (by omega))
  rw [hk] at HRS
  rw [hk2] at HR
  rw [hl] at HL
  go_wp2_with fail
  refine HRS.out.mono ?_
  rintro e w2 ⟨rfl, hb2⟩
  have K2 := K1.next hb2
  have HX2 := Lib.hid ((hb2.block _ (Array.getElem?_eq_some_iff.1 HX1.out).1).trans HX1.out)
  obtain ⟨q0, q1, q2⟩ := K2.box
  rw [hr] at HR
  have K2 := Lib.hid K2
  clear K1 hb2 HRS HX1
  go_wp2_with fail
  refine (HR.out _).mono ?_
  rintro e w3 ⟨rfl, hb3⟩
  have K3 := K2.out.next hb3
  have HX3 := Lib.hid ((hb3.block _ (Array.getElem?_eq_some_iff.1 HX2.out).1).trans HX2.out)
  clear K2 hb3 HR HX2 q0 q1 q2
  obtain ⟨q0, q1, q2⟩ := K3.box
  have HL3 := Lib.hid (HL.out w3 K3.list)
  have K3 := Lib.hid K3
  clear HL
  go_wp2_with fail
  refine HL3.out.mono ?_
  rintro e w4 ⟨rfl, hb4⟩
  have HX4 := Lib.hid ((hb4.block _ (Array.getElem?_eq_some_iff.1 HX3.out).1).trans HX3.out)
  have K4 := K3.out.next hb4
  clear K3 hb4 HL3 q0 q1 q2 HX3
  rw [show loadV (none : Option ByteArray) = .tuple #[.string ⟨#[]⟩, .bool false] from rfl]
  clear hl hk hk2
  obtain ⟨a, cap, rfl, hcap, hcells⟩ := h
  obtain rfl := List.length_eq_zero_iff.1 hne
  obtain ⟨a1, c1, hs1⟩ := slice_nil_run a cap
  obtain ⟨a2, c2', hs2⟩ := slice_nil_from a cap
  clear hne hcells hcap
  rw [List.length_nil] at *
  have LK : ∀ w', Below w4.heap.size w4 w' → (loadVar 41 ⟨w.heap.size, 0, none⟩).run Try.prog w' = .ok (kv r.1) w' := fun w' hb => (K4.next hb).loadk
  have HB4 := Lib.hid K4.below
  have K4 := Lib.hid K4
  go_wp2
  go_loopw [9] (fun i wr => ∃ k : Nat, k ≤ ([] : List R3).length ∧ i = .int .i64 k ∧ (∀ j, j < k → aheadB (([] : List R3).getD j r0).1 r.1 = true) ∧ Below w4.heap.size w4 wr) (fun i _ => ([] : List R3).length - (intOf i).toNat)
  case atStart => exact ⟨0, Nat.zero_le _, rfl, fun j hj => by omega, Below.refl _ _⟩
  case round =>
    obtain ⟨k, hkl, rfl, hall, hb⟩ := hrel
    obtain rfl : k = 0 := by simpa using hkl
    have HN := Lib.hid (show aheadN ([] : List R3) r.1 = 0 from rfl)
    clear hall
    go_wp2
    refine wp_region_below w4 (by kernel_rfl) (by kernel_rfl) hb ?_
    repeat (first
      | go_big_quiet_skip
      | (go_big_quiet_want
         first
           | (go_big_quiet_op; go_big_quiet_on)
           | (go_big_quiet_op; refine ⟨_, fun _ _ => rfl, ?_⟩; go_big_quiet_on)
           | (go_big_quiet_op; go_big_quiet_on)))
    refine wpQuiet_nil ?_
    intro w5 hb5
    clear LK hb HB4
    have K5 := K4.out.next hb5
    have hx5 : w5.heap[w.heap.size]? = some (.cells #[.int .i64 r.1.1, .int .i64 r.1.2, .string r.2] 43) := (hb5.block _ (Array.getElem?_eq_some_iff.1 HX4.out).1).trans HX4.out
    have q0 : w5.cell? ⟨w.heap.size, 0, none⟩ = some (.int .i64 r.1.1) := by rw [cell_of_row _ _ 0 _ _ _ hx5]; rfl
    have q1 : w5.cell? ⟨w.heap.size, 1, none⟩ = some (.int .i64 r.1.2) := by rw [cell_of_row _ _ 1 _ _ _ hx5]; rfl
    have q2 : w5.cell? ⟨w.heap.size, 2, none⟩ = some (.string r.2) := by rw [cell_of_row _ _ 2 _ _ _ hx5]; rfl
    have hlx := (Array.getElem?_eq_some_iff.1 hx5).1
    have LIT1 := Lib.hid (lit1 K5.below hx5)
    have LIT2 := Lib.hid (lit2 K5.below hx5)
    have LIT3 := Lib.hid (lit3 K5.below hx5)
    have ROW2 := Lib.hid (row2 w5 r)
    have ROW3 := Lib.hid (row3 w5 r)
    have HTL := Lib.hid (show (([] : List R3).take 0).length = 0 from rfl)
    clear K4 K5 hb5 hx5 HX4
    go_wp2_with fail
    go_region_law (first
      | (refine step_append_rd rfl (.tmp 53) (.tmp 56) rfl LIT1.out.own _ (([] : List R3).take 0) (rdAt_nil _ a1 c1) rfl rfl (by have := HTL.out; omega) LIT1.out.below.size ?_
         intro v6 w6 hown6 hgr6 hw6
         have HF6 := Lib.hid (s12_aft LIT1.out hown6 hgr6)
         have c0 : w6.cell? ⟨w.heap.size, 0, none⟩ = some (.int .i64 r.1.1) := by rw [cell_of_row _ _ 0 _ _ _ HF6.out.box]; rfl
         have c1 : w6.cell? ⟨w.heap.size, 1, none⟩ = some (.int .i64 r.1.2) := by rw [cell_of_row _ _ 1 _ _ _ HF6.out.box]; rfl
         have c2 : w6.cell? ⟨w.heap.size, 2, none⟩ = some (.string r.2) := by rw [cell_of_row _ _ 2 _ _ _ HF6.out.box]; rfl
         clear hown6 hgr6 hw6)
      | (refine step_append_rd rfl (.tmp 53) (.tmp 56) rfl LIT2.out.own _ (([] : List R3).take 0) (rdAt_nil _ a1 c1) rfl rfl (by have := HTL.out; omega) LIT2.out.below.size ?_
         intro v6 w6 hown6 hgr6 hw6
         have HF6 := Lib.hid (s12_aft LIT2.out hown6 hgr6)
         have hu6 := rd_row ((hgr6.block (w5.heap.size + 1) (by show _ < ((w5.alloc _).alloc _).heap.size; simp) (by simp [Value.ownBlock])).trans ROW2.out)
         have c0 : w6.cell? ⟨w.heap.size, 0, none⟩ = some (.int .i64 r.1.1) := by rw [cell_of_row _ _ 0 _ _ _ HF6.out.box]; rfl
         have c1 : w6.cell? ⟨w.heap.size, 1, none⟩ = some (.int .i64 r.1.2) := by rw [cell_of_row _ _ 1 _ _ _ HF6.out.box]; rfl
         have c2 : w6.cell? ⟨w.heap.size, 2, none⟩ = some (.string r.2) := by rw [cell_of_row _ _ 2 _ _ _ HF6.out.box]; rfl
         clear hown6 hgr6 hw6)
      | (refine step_append_rd rfl (.tmp 53) (.tmp 56) rfl LIT3.out.own _ (([] : List R3).take 0) (rdAt_nil _ a1 c1) rfl rfl (by have := HTL.out; omega) LIT3.out.below.size ?_
         intro v6 w6 hown6 hgr6 hw6
         have HF6 := Lib.hid (s12_aft LIT3.out hown6 hgr6)
         have hu6 := rd_row ((hgr6.block w5.heap.size (by show _ < ((w5.alloc _).alloc _).heap.size; simp; omega) (by simp [Value.ownBlock])).trans ROW3.out)
         have c0 : w6.cell? ⟨w.heap.size, 0, none⟩ = some (.int .i64 r.1.1) := by rw [cell_of_row _ _ 0 _ _ _ HF6.out.box]; rfl
         have c1 : w6.cell? ⟨w.heap.size, 1, none⟩ = some (.int .i64 r.1.2) := by rw [cell_of_row _ _ 1 _ _ _ HF6.out.box]; rfl
         have c2 : w6.cell? ⟨w.heap.size, 2, none⟩ = some (.string r.2) := by rw [cell_of_row _ _ 2 _ _ _ HF6.out.box]; rfl
         clear hown6 hgr6 hw6)
      | (refine step_append_rd rfl (.tmp 57) (.tmp 59) rfl (HF6.out.own.alloc _) _ [r] (rd_newR w6 r) rfl rfl (by have := HTL.out; simp only [List.length_singleton]; omega) (by have := HF6.out.below.size; simp; omega) ?_
         intro v7 w7 hown7 hgr7 hw7
         have HE := Lib.hid (s12_fin hown7 ((HF6.out.below.alloc HF6.out.below.size _).grown hgr7 (Nat.le_trans HF6.out.below.size (by simp)) (fun j e => (HF6.out.own.lt j e).1)))
         clear hown7 hgr7 hw7 HF6)
      | (refine step_append_rd rfl (.tmp 57) (.tmp 59) rfl HF6.out.own _ [r] hu6 rfl rfl (by have := HTL.out; simp only [List.length_singleton]; omega) HF6.out.below.size ?_
         intro v7 w7 hown7 hgr7 hw7
         have HE := Lib.hid (s12_fin hown7 (HF6.out.below.grown hgr7 HF6.out.below.size (fun j e => (HF6.out.own.lt j e).1)))
         clear hown7 hgr7 hw7 HF6 hu6))
    all_goals
      clear LIT1 LIT2 LIT3 ROW2 ROW3 q0 q1 q2 hlx
      have h7 := HE.out.1
      rw [HTL.out] at h7
      have HB7 := Lib.hid HE.out.2
      clear HE
      go_wp2_with (at_builtin; refine wpList_append_rd rfl (.tmp 61) (.tmp 64) rfl h7 _ (([] : List R3).drop 0) (rdAt_nil _ a2 c2') rfl rfl (by first | (simp; done) | (simp; omega)) HB7.out.size ?_; intro v8 w8 hown8 hgr8)
      have HE8 := Lib.hid (s13_fin HN.out hkl hown8 (HB7.out.grown hgr8 HB7.out.size (fun j e => (h7.lt j e).1)))
      clear hown8 hgr8 h7 HB7 hs1 hs2
      go_wp2
      go_ret2
      exact ⟨_, rfl, HE8.out.1, HE8.out.2⟩
end Go.Proofs.Ytnknfmjpkphbpaa
/- A reading learned, by the model. -/
namespace Go.Proofs.Ytnknfmjpkphbpaa
open Go.ChangeShapes Go.WideShapes Go.ChangeAt Go.RowKit Go.BigFrame
set_option linter.unusedVariables false

theorem learnV_bad {rs : List R3} {r : R3} (h : ¬ (rdsOkR rs = true ∧ rdOkB r = true)) : learnV rs r = (rs, 3) := by unfold learnV; rw [if_neg h]
theorem learnV_new {rs : List R3} {r : R3} (h1 : rdsOkR rs = true) (h2 : rdOkB r = true) (hl : loadO rs r.1 = none) : learnV rs r = (rs.take (aheadN rs r.1) ++ r :: rs.drop (aheadN rs r.1), 0) := by
  unfold learnV; rw [if_pos ⟨h1, h2⟩, hl]
theorem learnV_same {rs : List R3} {r : R3} (h1 : rdsOkR rs = true) (h2 : rdOkB r = true) {l : ByteArray} (hl : loadO rs r.1 = some l) (he : l = r.2) : learnV rs r = (rs, 1) := by
  unfold learnV; rw [if_pos ⟨h1, h2⟩, hl]; simp only [he, if_true]
theorem learnV_other {rs : List R3} {r : R3} (h1 : rdsOkR rs = true) (h2 : rdOkB r = true) {l : ByteArray} (hl : loadO rs r.1 = some l) (he : ¬ l = r.2) : learnV rs r = (rs, 2) := by
  unfold learnV; rw [if_pos ⟨h1, h2⟩, hl]; simp only [he, if_false]
theorem learn_len (rs : List R3) (r : R3) : (rs.take (aheadN rs r.1) ++ r :: rs.drop (aheadN rs r.1)).length = rs.length + 1 := by
  rw [List.length_append, List.length_cons, List.length_take, List.length_drop]; omega
theorem learnV_len (rs : List R3) (r : R3) : (learnV rs r).1.length ≤ rs.length + 1 := by
  by_cases hg : rdsOkR rs = true ∧ rdOkB r = true
  · obtain ⟨h1, h2⟩ := hg
    cases hl : loadO rs r.1 with
    | none => rw [learnV_new h1 h2 hl, learn_len]; exact Nat.le_refl _
    | some l =>
      by_cases he : l = r.2
      · rw [learnV_same h1 h2 hl he]; simp
      · rw [learnV_other h1 h2 hl he]; simp
  · rw [learnV_bad hg]; simp
theorem slearn_any (v : Value) (rs : List R3) (r : R3) (w : World) (h : rdAt w v rs) (hs : rs.length ≤ 1900000) : Calls Try.prog 99 #[v, rv r] w fun e w' => ∃ v', e = .returned (.tuple #[v', .int .i64 (learnV rs r).2]) ∧
    w'.ownsRow w.heap.size 43 3 v' (learnV rs r).1.length (rdCells (learnV rs r).1) ∧ Below w.heap.size w w' := by
  by_cases hg : rdsOkR rs = true ∧ rdOkB r = true
  · obtain ⟨hg1, hg2⟩ := hg
    cases hl : loadO rs r.1 with
    | none =>
      rw [learnV_new hg1 hg2 hl]
      rw [show (rs.take (aheadN rs r.1) ++ r :: rs.drop (aheadN rs r.1)).length = rs.length + 1 from learn_len rs r]
      by_cases hne : rs.length = 0
      · exact slearn_none v rs r w h hs hg1 hg2 hl hne
      · exact slearn_some v rs r w h hs hg1 hg2 hl hne
    | some l =>
      by_cases he : l = r.2
      · rw [learnV_same hg1 hg2 hl he]
        have := slearn_got v rs r w h hs hg1 hg2 l hl
        rw [if_pos he] at this
        exact this
      · rw [learnV_other hg1 hg2 hl he]
        have := slearn_got v rs r w h hs hg1 hg2 l hl
        rw [if_neg he] at this
        exact this
  · rw [learnV_bad hg]
    exact slearn_bad v rs r w h hs hg
end Go.Proofs.Ytnknfmjpkphbpaa
/- Chapter 4's draws: lists of readings. -/
namespace Go.Proofs.Ytnknfmjpkphbpaa
open Go.ChangeShapes Go.WideShapes Go.ChangeAt Go.RowKit Go.BigFrame
set_option linter.unusedVariables false

theorem learnV_sizes {rs : List R3} {r : R3} {m : Nat} (h : ∀ q ∈ rs, q.2.size ≤ m) (hr : r.2.size ≤ m) : ∀ q ∈ (learnV rs r).1, q.2.size ≤ m := by
  intro q hq
  unfold learnV at hq
  split at hq
  · split at hq
    · split at hq <;> exact h q hq
    · simp only [List.mem_append, List.mem_cons] at hq
      rcases hq with hq | rfl | hq
      · exact h q (List.mem_of_mem_take hq)
      · exact hr
      · exact h q (List.mem_of_mem_drop hq)
  · exact h q hq
set_option maxRecDepth 100000 in
set_option maxHeartbeats 2000000 in
theorem l04make_any (n₀ g len cap : Nat) (a : Option Addr) (zs : List Int) (c : Cu) (w : World) (hs : DrawSt n₀ w g a len cap zs c.i c.h) :
    Calls Try.prog 87 #[.pointer (some ⟨g, 0, none⟩)] w fun e w' => ∃ (v : Value) (rs : List R3) (c' : Cu), e = .returned v ∧ rs.length ≤ 5 ∧ (∀ r ∈ rs, r.2.size ≤ 5) ∧ w'.ownsRow w.heap.size 43 3 v rs.length (rdCells rs) ∧ Drew n₀ g a len cap zs c' w w' := by
  have hd0 : Drew n₀ g a len cap zs c w w := ⟨hs, Below.refl _ _, World.grownBy.refl _ _⟩
  have hgl := hs.lt
  have hown0 := World.ownsRow_made (base := w.heap.size) (e := 43) (size := 3) w #[] 0 (by simp) (by unfold maxLen; omega) rfl
  have hd1 := hd0.alloc (.cells #[] 43)
  go_enter Try.func87, Try.ntmps87
  go_wp2_with fail
  refine (below_any n₀ g len cap a zs c 6 _ hd1.st (by omega)).mono ?_
  rintro e w1 ⟨rfl, hd2⟩
  have hbd := belowF_bd zs len c 6
  have hown1 := hown0.kept hd2.grown (.inr (by simp [Value.ownBlock]; omega))
  have hD1 := hd1.trans hd2
  generalize (belowF zs len c 6).2 = c1 at *
  generalize (belowF zs len c 6).1 = x at *
  obtain ⟨N, rfl⟩ : ∃ N : Nat, x = N := ⟨x.toNat, by omega⟩
  have hN : N ≤ 5 := by have := hbd.2 (by omega); omega
  clear hbd hd0 hd1 hd2 hown0
  go_wp2
  go_loopw [3, 5] (fun v i wr => ∃ (k : Nat) (rs : List R3) (c' : Cu), k ≤ N ∧ i = .int .i64 k ∧ rs.length ≤ k ∧ (∀ r ∈ rs, r.2.size ≤ 5) ∧ wr.ownsRow w.heap.size 43 3 v rs.length (rdCells rs) ∧ Drew n₀ g a len cap zs c' w wr) (fun _ i _ => N - (intOf i).toNat)
  case atStart => exact ⟨0, [], c1, Nat.zero_le _, rfl, by simp, by simp, by simpa [rdCells] using hown1, hD1⟩
  case round =>
    clear hown1 hD1
    obtain ⟨k, rs, c2, hk, rfl, hrl, hsz, hown, hD⟩ := hrel
    by_cases hlt : k < N
    · have z1 : (k : Int) < (N : Int) := by omega
      rename_i wr
      have HSZ := Lib.hid hsz; have HOWN := Lib.hid hown; have HD := Lib.hid hD
      have hwz := hD.grown.size
      clear hsz hown hD
      go_wp2_with fail
      refine (l04reading_any n₀ g len cap a zs c2 _ HD.out.st).mono ?_
      rintro e w3 ⟨r, c3, rfl, hk3, hy3, hd3⟩
      have hown3 := HOWN.out.kept hd3.grown (by
        cases hv : u3.ownBlock with
        | none => exact .inl rfl
        | some b => exact .inr (fun e => by cases e; have := (HOWN.out.lt _ hv).1; omega))
      have HD3 := Lib.hid (HD.out.trans hd3)
      have HSL := Lib.hid (slearn_any u3 rs r w3 (rdAt_own hown3) (by omega))
      have HLV := Lib.hid (And.intro (learnV_len rs r) (learnV_sizes (r := r) HSZ.out (by omega)))
      generalize (learnV rs r).2 = cc at *
      generalize (learnV rs r).1 = M at *
      have hw3z := HD3.out.grown.size
      clear HOWN HD hd3 hown3 HSZ
      go_wp2_with fail
      refine HSL.out.mono ?_
      rintro e w4 ⟨v4, rfl, hown4, hb4⟩
      have HF := Lib.hid (And.intro (own_base hown4 hw3z) (HD3.out.grow hgl (grown_of_below' hb4 none) (by simp)))
      clear hown4 hb4 HSL HD3
      go_wp2
      go_roundw
      case rel => exact ⟨k + 1, M, c3, by omega, by go_num, by have := HLV.out.1; omega, HLV.out.2, HF.out.1, HF.out.2⟩
      case measure => simp [intOf]; omega
    · obtain rfl : k = N := by omega
      have HF := Lib.hid (And.intro hsz (And.intro hown hD))
      clear hsz hown hD
      go_wp2
      go_ret
      exact ⟨_, rs, c2, rfl, by omega, HF.out.1, HF.out.2.1, HF.out.2.2⟩
end Go.Proofs.Ytnknfmjpkphbpaa
/- Chapter 4's draws: lists that need not be right; what the laws draw. -/
namespace Go.Proofs.Ytnknfmjpkphbpaa
open Go.ChangeShapes Go.WideShapes Go.ChangeAt Go.RowKit Go.BigFrame
set_option linter.unusedVariables false

theorem rd_newD (w : World) (p q : Int) (y : ByteArray) : rdAt (w.alloc (.cells #[.int .i64 p, .int .i64 q, .string y] 43)) (.slice (some ⟨w.heap.size, 0, none⟩) 1 1) [((p, q), y)] := by
  refine ⟨_, 1, rfl, by simp, .inr ⟨w.heap.size, 0, rfl, by simp, fun i hi => ?_⟩⟩
  obtain rfl : i = 0 := by simp at hi; omega
  have h := heap_alloc_new w (.cells #[.int .i64 p, .int .i64 q, .string y] 43)
  exact ⟨by rw [cell_of_row _ _ _ _ _ _ h]; rfl, by rw [cell_of_row _ _ _ _ _ _ h]; rfl, by rw [cell_of_row _ _ _ _ _ _ h]; rfl⟩
set_option maxRecDepth 100000 in
set_option maxHeartbeats 2000000 in
theorem l04any_any (n₀ g len cap : Nat) (a : Option Addr) (zs : List Int) (c : Cu) (w : World) (hs : DrawSt n₀ w g a len cap zs c.i c.h) :
    Calls Try.prog 56 #[.pointer (some ⟨g, 0, none⟩)] w fun e w' => ∃ (v : Value) (rs : List R3) (c' : Cu), e = .returned v ∧ rs.length ≤ 6 ∧ (∀ r ∈ rs, r.2.size ≤ 5) ∧ w'.ownsRow w.heap.size 43 3 v rs.length (rdCells rs) ∧ Drew n₀ g a len cap zs c' w w' := by
  have hgl := hs.lt
  go_enter Try.func56, Try.ntmps56
  go_wp2_with fail
  refine (l04make_any n₀ g len cap a zs c _ hs).mono ?_
  rintro e w1 ⟨v1, rs, c1, rfl, hrl, hsz, hown, hd1⟩
  have HSZ := Lib.hid hsz
  go_wp2_with fail
  refine (once_any n₀ g len cap a zs c1 8 _ hd1.st (by omega)).mono ?_
  rintro e w2 ⟨rfl, hd2⟩
  have hown2 := hown.kept hd2.grown (by
    cases hv : v1.ownBlock with
    | none => exact .inl rfl
    | some b => exact .inr (fun e => by cases e; have := (hown.lt _ hv).1; omega))
  have HD2 := Lib.hid (hd1.trans hd2)
  generalize (belowF zs len c1 8).2 = c2 at *
  generalize ((belowF zs len c1 8).1 == 0) = bo at *
  clear hown hd1 hd2 hsz hs
  cases bo with
  | false =>
    have HF := Lib.hid hown2
    clear hown2
    go_wp2
    go_ret
    exact ⟨_, rs, c2, rfl, by omega, HSZ.out, HF.out, HD2.out⟩
  | true =>
    have HO2 := Lib.hid hown2
    clear hown2
    go_wp2_with fail
    refine (l04odd_any n₀ g len cap a zs c2 _ HD2.out.st).mono ?_
    rintro e w3 ⟨⟨⟨p, q⟩, y⟩, c3, rfl, hk3, hy3, hd3⟩
    have hown3 := HO2.out.kept hd3.grown (by
      cases hv : v1.ownBlock with
      | none => exact .inl rfl
      | some b => exact .inr (fun e => by cases e; have := (HO2.out.lt _ hv).1; omega))
    have HD3 := Lib.hid (HD2.out.trans hd3)
    have hw3z := HD3.out.grown.size
    unfold rv
    dsimp only at *
    clear hd3 HO2 HD2
    go_wp2_with (at_builtin; refine wpList_append_rd rfl (.tmp 8) (.tmp 11) rfl (hown3.alloc _) _ [((p, q), y)] (rd_newD w3 p q y) rfl rfl (by simp; omega) (by simp; omega) ?_; intro v6 w6 hown6 hgr6)
    have hR : w6.ownsRow w.heap.size 43 3 v6 (rs.length + 1) (rdCells (rs ++ [((p, q), y)])) := by rw [rdCells_append]; exact hown6
    have HF := Lib.hid (And.intro hR ((HD3.out.alloc (.cells #[.int .i64 p, .int .i64 q, .string y] 43)).grow hgl hgr6 (fun b e => (hown3.lt b e).1)))
    clear hR hown6 hgr6 hown3 HD3
    go_wp2
    go_ret
    refine ⟨_, rs ++ [((p, q), y)], c3, rfl, by simp; omega, fun r hr => ?_, by simpa using HF.out.1, HF.out.2⟩
    rcases List.mem_append.1 hr with hr | hr
    · exact HSZ.out r hr
    · simp at hr; subst hr; exact hy3
end Go.Proofs.Ytnknfmjpkphbpaa
/- A word and readings drawn. -/
namespace Go.Proofs.Ytnknfmjpkphbpaa
open Go.ChangeShapes Go.WideShapes Go.ChangeAt Go.RowKit Go.BigFrame
set_option linter.unusedVariables false

set_option maxRecDepth 100000 in
set_option maxHeartbeats 2000000 in
theorem drawreduced_any (n₀ len cap : Nat) (a : Option Addr) (zs : List Int) (w : World) (hc : CodeAt n₀ w a len zs) (hw : n₀ ≤ w.heap.size) :
    Calls Try.prog 27 #[.slice a len cap] w fun e w' => ∃ (va : Value) (A : List K2) (ya : ByteArray) (vt : Value) (T : List R3), e = .returned (.tuple #[.agg #[va, .string ya], vt]) ∧
      (A.length ≤ 7 ∧ ya.size ≤ 5 ∧ T.length ≤ 10 ∧ ∀ r ∈ T, r.2.size ≤ 5) ∧ w'.ownsRow w.heap.size 41 2 va A.length (keyCells A) ∧ w'.ownsRow w.heap.size 43 3 vt T.length (rdCells T) ∧ Below w.heap.size w w' := by
  have HB0 := Lib.hid ((Below.refl w.heap.size w).alloc (Nat.le_refl _) (.cells #[.slice none 0 0, .string ⟨#[]⟩] 26))
  have HX0 := Lib.hid (heap_alloc_new w (.cells #[.slice none 0 0, .string ⟨#[]⟩] 26))
  have hc1 := hc.below ((Below.refl n₀ w).alloc hw (.cells #[.slice none 0 0, .string ⟨#[]⟩] 26))
  have hz0 : (w.alloc (.cells #[.slice none 0 0, .string ⟨#[]⟩] 26)).heap.size = w.heap.size + 1 := by simp
  go_enter Try.func27, Try.ntmps27
  go_wp2_with fail
  generalize w.alloc (.cells #[.slice none 0 0, .string ⟨#[]⟩] 26) = W at *
  refine (new_any n₀ len cap a zs _ hc1 (by omega)).mono ?_
  rintro e w1 ⟨g, rfl, hg, hst, hbn, hgrn⟩
  have hgw : w.heap.size < g := by omega
  have hg1 := hst.lt
  have HB1 := Lib.hid (HB0.out.grown hgrn HB0.out.size (by simp))
  have HX1 := Lib.hid ((hgrn.block _ (Array.getElem?_eq_some_iff.1 HX0.out).1 (by simp)).trans HX0.out)
  have hz1 : w.heap.size + 1 ≤ w1.heap.size := by have := hgrn.size; omega
  clear hbn hgrn hg HX0 HB0 hc1 hz0
  go_wp2_with fail
  refine (l05odd_any n₀ g len cap a zs _ _ hst).mono ?_
  rintro e w2 ⟨va, A, ya, c2, rfl, hA, hAb, hya, ho, hd2⟩
  obtain ⟨a2, m2, k2, rfl⟩ := own_shape ho
  have hst2 := hd2.alloc (.cells #[.slice a2 m2 k2, .string ya] 26)
  have hb5 : w1.heap.size ≤ w2.heap.size := hd2.grown.size
  have RX := Lib.hid (heap_alloc_new w2 (.cells #[.slice a2 m2 k2, .string ya] 26))
  have HB2 := Lib.hid ((HB1.out.grown hd2.grown HB1.out.size (fun j e => by cases e; omega)).alloc (by have := HB1.out.size; omega) (.cells #[.slice a2 m2 k2, .string ya] 26))
  have hx2 := (hd2.grown.block _ (Array.getElem?_eq_some_iff.1 HX1.out).1 (fun e => by cases e; omega)).trans HX1.out
  have HX2 := Lib.hid ((Below.heap_alloc w2 (.cells #[.slice a2 m2 k2, .string ya] 26) _ (Array.getElem?_eq_some_iff.1 hx2).1).trans hx2)
  have HO2 := Lib.hid (ho.alloc (.cells #[.slice a2 m2 k2, .string ya] 26))
  have HHI := Lib.hid (fun b e => (ho.lt b e).2)
  have hz2 : w.heap.size + 1 ≤ (w2.alloc (.cells #[.slice a2 m2 k2, .string ya] 26)).heap.size := by simp; omega
  clear hst hd2 HX1 ho HB1 hx2
  go_wp2_with fail
  generalize w2.alloc (.cells #[.slice a2 m2 k2, .string ya] 26) = W5 at *
  generalize w2.heap.size = b5 at *
  have LX : ∀ w' : World, w'.heap[b5]? = some (.cells #[.slice a2 m2 k2, .string ya] 26) → (loadVar 26 ⟨b5, 0, none⟩).run Try.prog w' = .ok (.agg #[.slice a2 m2 k2, .string ya]) w' := fun w' h => cd_load h (Below.refl _ _)
  have HST := Lib.hid hst2
  clear hst2
  refine wp_region_G (fun w' => w'.heap[b5]? = some (.cells #[.slice a2 m2 k2, .string ya] 26)) (by kernel_rfl) ?_
  replace RX := Lib.hid (show (World.drew _).heap[_]? = _ from RX.out)
  replace HO2 := Lib.hid (HO2.out.drew)
  replace HB2 := Lib.hid (HB2.out.drew)
  replace HX2 := Lib.hid (show (World.drew _).heap[_]? = _ from HX2.out)
  have HST' := Lib.hid (show DrawSt n₀ W5.drew g a len cap zs c2.i c2.h from (HST.out.grow hg1 (row := none) (w2 := W5.drew) ⟨rfl, rfl, rfl, Nat.le_refl _, fun _ _ _ => rfl⟩ (fun b e => by cases e)).st)
  have hz2' : w.heap.size + 1 ≤ W5.drew.heap.size := hz2
  clear HST hz2
  generalize (W5).drew = wD at *
  refine wpG_seg [true, true] [2] 2 (by kernel_rfl) (by intro c a d v w h; cases d <;> exact h) (by kernel_rfl) RX.out ?_
  try simp only [maskRows]
  repeat (first
    | go_big_quiet_skip
    | (go_big_quiet_want
       first
         | (go_big_quiet_op; go_big_quiet_on)
         | (refine q_load 26 _ _ _ rfl rfl LX ?_; simp only [Act.put, List.setIfInBounds_toArray, List.set_cons_zero, List.set_cons_succ]; go_big_quiet_on)
         | (go_big_quiet_op; refine ⟨_, fun _ _ => rfl, ?_⟩; go_big_quiet_on)
         | (go_big_quiet_op; refine ⟨_, fun _ _ _ => rfl, ?_⟩; go_big_quiet_on)))
  refine wpQuiet_nil ?_
  refine List.forall_mem_singleton.2 ?_
  refine segt_run rfl (by rfl) (fun K hK => ?_)
  go_simp
  refine (l04any_any n₀ g len cap a zs c2 _ HST'.out).mono ?_
  rintro e w3 ⟨vb, B, c3, rfl, hB, hBb, ho3, hd3⟩
  dsimp only
  obtain ⟨a3, m3, k3, rfl⟩ := own_shape ho3
  replace RX := Lib.hid (hd3.keeps RX.out (by omega))
  replace HO2 := Lib.hid (HO2.out.kept hd3.grown (.inr fun e => by have := (HO2.out.lt _ e).1; omega))
  have HB3 := Lib.hid (HB2.out.grown hd3.grown HB2.out.size (fun j e => by cases e; omega))
  replace HX2 := Lib.hid (hd3.keeps HX2.out (by omega))
  have HO3 := Lib.hid (own_base ho3 hz2')
  have hz3 : w.heap.size + 1 ≤ w3.heap.size := Nat.le_trans hz2' hd3.grown.size
  clear ho3 hd3 HST' hz2'
  refine hK _ _ ⟨_, fun _ h => h, RX.out, ?_⟩
  clear hK K
  try simp only [Act.put, List.setIfInBounds_toArray, List.set_cons_zero, List.set_cons_succ]
  refine wpG_seg [] [3] 1 (by kernel_rfl) (by intro c a d v w h; cases d <;> exact h) (by kernel_rfl) RX.out ?_
  try simp only [maskRows]
  refine wpQuiet_nil ?_
  refine List.forall_mem_singleton.2 ?_
  obtain ⟨c0, c1, f0, f1⟩ := row2_of HX2.out
  have hlt := (Array.getElem?_eq_some_iff.1 HX2.out).1
  have RX' := Lib.hid (row_set2 RX.out (show b5 ≠ w.heap.size by omega) (.slice a2 m2 k2) (.string ya))
  have HX' := Lib.hid (set2 (.slice a2 m2 k2) (.string ya) HX2.out)
  have HB' := Lib.hid (below2 HB3.out (Nat.le_refl w.heap.size) (.slice a2 m2 k2) (.string ya))
  have HA' := Lib.hid (HO2.out.kept (grown2 w3 w.heap.size (.slice a2 m2 k2) (.string ya)) (.inr fun e => by have := (HO2.out.lt _ e).1; omega))
  have HBo' := Lib.hid (HO3.out.kept (grown2 w3 w.heap.size (.slice a2 m2 k2) (.string ya)) (.inr fun e => by have := (HO3.out.lt _ e).1; omega))
  refine segt_run rfl (by rfl) (fun K hK => ?_)
  go_simp
  replace RX := RX'
  clear HX2 HB3 HO2 HO3 c0 c1 f0 f1 hlt RX' hz3
  generalize (World.setCell (World.setCell w3 ⟨w.heap.size, 0, none⟩ (.slice a2 m2 k2)) ⟨w.heap.size, 1, none⟩ (.string ya)) = W6 at *
  refine hK _ _ ⟨_, fun _ h => h, RX.out, ?_⟩
  clear hK K
  try simp only [Act.put, List.setIfInBounds_toArray, List.set_cons_zero, List.set_cons_succ]
  refine wpG_end [false, false, false, false, true] (by kernel_rfl) (by intro c a d v w h; cases d <;> exact h) (by kernel_rfl) RX.out ?_
  try simp only [maskRows]
  repeat (first
    | go_big_quiet_skip
    | (go_big_quiet_want
       first
         | (go_big_quiet_op; go_big_quiet_on)
         | (refine q_load 26 _ _ _ rfl rfl LX ?_; simp only [Act.put, List.setIfInBounds_toArray, List.set_cons_zero, List.set_cons_succ]; go_big_quiet_on)
         | (go_big_quiet_op; refine ⟨_, fun _ _ => rfl, ?_⟩; go_big_quiet_on)
         | (go_big_quiet_op; refine ⟨_, fun _ _ _ => rfl, ?_⟩; go_big_quiet_on)))
  refine wpQuiet_nil ?_
  have l1 := cd_load HX'.out (Below.refl _ _)
  have HF := Lib.hid (And.intro HA'.out (And.intro HBo'.out HB'.out))
  have HL := Lib.hid l1
  clear HX' HA' HBo' HB' RX l1
  go_wp2_with fail
  refine bodyPost_ret (v := .tuple #[.agg #[.slice a2 m2 k2, .string ya], .slice a3 m3 k3]) ?_ rfl ⟨_, A, ya, _, B, rfl, ⟨hA, hya, by omega, hBb⟩, own_base HF.out.1 (by omega), own_base HF.out.2.1 (by omega), HF.out.2.2⟩
  rw [results_cell_slot (p := 2) (u := 3) (ty := 26) (by kernel_rfl)]
  have l1 := HL.out
  simp [asAddr, Result.andThen, l1]
end Go.Proofs.Ytnknfmjpkphbpaa
/- The program's chapter 3, walked: whether a key is there. -/
namespace Go.Proofs.Ytnknfmjpkphbpaa
open Go.ChangeShapes Go.WideShapes Go.ChangeAt Go.RowKit Go.BigFrame
set_option linter.unusedVariables false

set_option maxRecDepth 100000 in
set_option maxHeartbeats 2000000 in
theorem iindex_any (v : Value) (ks : List K2) (x : K2) (w : World) (h : keysAt w v ks) (hs : ks.length ≤ 2000000) : Calls Try.prog 92 #[v, kv x] w fun e w' => (∃ z : Int, e = .returned (.int .i64 z) ∧ decide (0 ≤ z) = hasKeyB ks x) ∧ Below w.heap.size w w' := by
  obtain ⟨a, cap, rfl, hcap, hcells⟩ := h
  obtain ⟨n, s⟩ := x
  unfold kv
  dsimp only
  have hW : ∀ w' : World, Below (w.heap.size + 1) (w.alloc (.cells #[.int .i64 n, .int .i64 s] 41)) w' → (loadVar 41 ⟨w.heap.size, 0, none⟩).run Try.prog w' = .ok (kv (n, s)) w' := fun w' hb' =>
    key_load (k := (n, s)) (w := w.alloc (.cells #[.int .i64 n, .int .i64 s] 41)) (g := w.heap.size) (o := 0) ⟨by simp, by simp⟩ (by simp) (by simpa using hb')
  have hB0 : Below w.heap.size w (w.alloc (.cells #[.int .i64 n, .int .i64 s] 41)) := (Below.refl _ _).alloc (Nat.le_refl _) _
  have hsz0 : (w.alloc (.cells #[.int .i64 n, .int .i64 s] 41)).heap.size = w.heap.size + 1 := by simp
  have HW := Lib.hid hW; have HB0 := Lib.hid hB0; have HSZ := Lib.hid hsz0; clear hW hB0 hsz0
  go_enter Try.func92, Try.ntmps92
  go_wp2
  generalize w.alloc (.cells #[.int .i64 n, .int .i64 s] 41) = W at *
  go_loopw [8] (fun i wr => ∃ k : Nat, k ≤ ks.length ∧ i = .int .i64 k ∧ (∀ j, j < k → (ks.getD j (0, 0) == (n, s)) = false) ∧ Below W.heap.size W wr) (fun i _ => ks.length - (intOf i).toNat)
  case atStart => exact ⟨0, Nat.zero_le _, rfl, fun j hj => by omega, Below.refl _ _⟩
  case round =>
    obtain ⟨k, hk, rfl, hall, hb⟩ := hrel
    by_cases hlt : k < ks.length
    · obtain ⟨g, off, rfl, hg, hcs⟩ := hcells.resolve_left (by omega)
      have z0 : (0 : Int) ≤ (k : Int) := by omega
      have z1 : (k : Int) < (ks.length : Int) := by omega
      have c1 := hcs k hlt
      have L1 : ∀ w', Below W.heap.size W w' → (loadVar 41 ⟨g, off + k * 2, none⟩).run Try.prog w' = .ok (kv (ks.getD k (0, 0))) w' := fun w' hb' =>
        key_load c1 (w' := w') hg (HB0.out.trans (hb'.mono (by rw [HSZ.out]; omega)))
      have L2 : ∀ w', Below W.heap.size W w' → (loadVar 41 ⟨w.heap.size, 0, none⟩).run Try.prog w' = .ok (kv (n, s)) w' := fun w' hb' => HW.out w' (by rw [← HSZ.out]; exact hb')
      clear hcells hcs c1
      generalize hkx : ks.getD k (0, 0) = kx at *
      obtain ⟨p, q⟩ := kx
      cases he : ((p, q) == (n, s)) with
      | true =>
        have hh : hasKeyB ks (n, s) = true := by
          unfold hasKeyB
          rw [List.any_eq_true]
          refine ⟨ks[k], List.getElem_mem hlt, ?_⟩
          have : ks[k] = (p, q) := by rw [← hkx]; simp [List.getD, hlt]
          rw [this, he]
        have HH := Lib.hid hh
        have he2 : ((n, s) == (p, q)) = true := by rw [eq_of_beq he]; simp
        clear hall hkx hh
        go_wp2
        refine wp_region_below W (by kernel_rfl) (by kernel_rfl) hb ?_
        repeat (first
          | go_big_quiet_skip
          | (go_big_quiet_want
             first
               | (go_big_quiet_op; go_big_quiet_on)
               | (refine q_load 41 _ _ _ rfl rfl L1 ?_; simp only [Act.put, List.setIfInBounds_toArray, List.set_cons_zero, List.set_cons_succ]; go_big_quiet_on)
               | (refine q_load 41 _ _ _ rfl rfl L2 ?_; simp only [Act.put, List.setIfInBounds_toArray, List.set_cons_zero, List.set_cons_succ]; go_big_quiet_on)
               | (refine q_bin _ 41 _ _ _ _ _ _ rfl rfl rfl (fun w => key_guard _ _ _ _ _ w) (fun w => key_eql _ _ w) ?_; simp only [Act.put, List.setIfInBounds_toArray, List.set_cons_zero, List.set_cons_succ]; go_big_quiet_on)
               | (refine q_bin _ 41 _ _ _ _ _ _ rfl rfl rfl (fun w => key_guard _ _ _ _ _ w) (fun w => key_neq _ _ w) ?_; simp only [Act.put, List.setIfInBounds_toArray, List.set_cons_zero, List.set_cons_succ]; go_big_quiet_on)
               | (go_big_quiet_op; refine ⟨_, fun _ _ => rfl, ?_⟩; go_big_quiet_on)
               | (go_big_quiet_op; go_big_quiet_on)))
        refine wpQuiet_nil ?_
        intro w2 hb2
        rw [he2]
        clear L1 L2 hb
        go_wp2
        go_ret
        exact ⟨⟨(k : Int), rfl, by rw [HH.out]; simp⟩, HB0.out.trans (hb2.mono (by rw [HSZ.out]; omega))⟩
      | false =>
        have hn : ∀ j, j < k + 1 → (ks.getD j (0, 0) == (n, s)) = false := by
          intro j hj
          rcases (by omega : j < k ∨ j = k) with h1 | rfl
          · exact hall j h1
          · rw [hkx, he]
        have he2 : ((n, s) == (p, q)) = false := by
          cases h : ((n, s) == (p, q)) with
          | false => rfl
          | true => rw [← eq_of_beq h] at he; simp at he
        have HN := Lib.hid hn
        clear hall hkx hn
        go_wp2
        refine wp_region_below W (by kernel_rfl) (by kernel_rfl) hb ?_
        repeat (first
          | go_big_quiet_skip
          | (go_big_quiet_want
             first
               | (go_big_quiet_op; go_big_quiet_on)
               | (refine q_load 41 _ _ _ rfl rfl L1 ?_; simp only [Act.put, List.setIfInBounds_toArray, List.set_cons_zero, List.set_cons_succ]; go_big_quiet_on)
               | (refine q_load 41 _ _ _ rfl rfl L2 ?_; simp only [Act.put, List.setIfInBounds_toArray, List.set_cons_zero, List.set_cons_succ]; go_big_quiet_on)
               | (refine q_bin _ 41 _ _ _ _ _ _ rfl rfl rfl (fun w => key_guard _ _ _ _ _ w) (fun w => key_eql _ _ w) ?_; simp only [Act.put, List.setIfInBounds_toArray, List.set_cons_zero, List.set_cons_succ]; go_big_quiet_on)
               | (refine q_bin _ 41 _ _ _ _ _ _ rfl rfl rfl (fun w => key_guard _ _ _ _ _ w) (fun w => key_neq _ _ w) ?_; simp only [Act.put, List.setIfInBounds_toArray, List.set_cons_zero, List.set_cons_succ]; go_big_quiet_on)
               | (go_big_quiet_op; refine ⟨_, fun _ _ => rfl, ?_⟩; go_big_quiet_on)
               | (go_big_quiet_op; go_big_quiet_on)))
        refine wpQuiet_nil ?_
        intro w2 hb2
        rw [he2]
        clear L1 L2 hb
        go_wp2
        exact ⟨⟨k + 1, by omega, by go_num, HN.out, hb2⟩, by simp [intOf]; omega⟩
    · obtain rfl : k = ks.length := by omega
      have hh : hasKeyB ks (n, s) = false := by
        unfold hasKeyB
        rw [List.any_eq_false]
        intro x hx
        obtain ⟨i, hi, rfl⟩ := List.getElem_of_mem hx
        have := hall i hi
        simp only [List.getD, List.getElem?_eq_getElem hi, Option.getD_some] at this
        simp [this]
      have HH := Lib.hid hh
      clear hall hh
      go_wp2
      go_ret
      exact ⟨⟨-1, rfl, by rw [HH.out]; rfl⟩, HB0.out.trans (hb.mono (by rw [HSZ.out]; omega))⟩
theorem icontains_any (v : Value) (ks : List K2) (x : K2) (w : World) (h : keysAt w v ks) (hs : ks.length ≤ 2000000) : Calls Try.prog 68 #[v, kv x] w fun e w' => e = .returned (.bool (hasKeyB ks x)) ∧ Below w.heap.size w w' := by
  have HX := Lib.hid (fun w' hw => iindex_any v ks x w' (keysAt_below h hw) hs)
  obtain ⟨a, cap, rfl, hcap, hcells⟩ := h
  obtain ⟨n, s⟩ := x
  have hB0 : Below w.heap.size w (w.alloc (.cells #[.int .i64 n, .int .i64 s] 41)) := (Below.refl _ _).alloc (Nat.le_refl _) _
  have HI := Lib.hid (HX.out _ hB0); have HB0 := Lib.hid hB0; clear HX hB0 hcells
  unfold kv at *
  dsimp only at *
  go_enter Try.func68, Try.ntmps68
  go_wp2_with fail
  refine HI.out.mono ?_
  rintro e w1 ⟨⟨z, rfl, hz⟩, hb1⟩
  have hbb := HB0.out.trans (hb1.mono HB0.out.size)
  clear HI hb1
  have HZ := Lib.hid hz
  clear hz
  go_wp2
  go_ret
  exact ⟨by rw [← HZ.out]; rfl, hbb⟩
theorem ihaskey_any (v : Value) (ks : List K2) (x : K2) (w : World) (h : keysAt w v ks) (hs : ks.length ≤ 2000000) : Calls Try.prog 30 #[v, kv x] w fun e w' => e = .returned (.bool (hasKeyB ks x)) ∧ Below w.heap.size w w' := by
  have HX := Lib.hid (fun w' hw => icontains_any v ks x w' (keysAt_below h hw) hs)
  obtain ⟨a, cap, rfl, hcap, hcells⟩ := h
  obtain ⟨n, s⟩ := x
  have hB0 : Below w.heap.size w (w.alloc (.cells #[.int .i64 n, .int .i64 s] 41)) := (Below.refl _ _).alloc (Nat.le_refl _) _
  have HI := Lib.hid (HX.out _ hB0); have HB0 := Lib.hid hB0; clear HX hB0 hcells
  unfold kv at *
  dsimp only at *
  go_enter Try.func30, Try.ntmps30
  go_wp2_with fail
  refine HI.out.mono ?_
  rintro e w1 ⟨rfl, hb1⟩
  have hbb := HB0.out.trans (hb1.mono HB0.out.size)
  clear HI hb1
  go_wp2
  go_ret
  exact ⟨rfl, hbb⟩
end Go.Proofs.Ytnknfmjpkphbpaa
/- What is known is taken out of a word: the law on drawn words and readings, walked. -/
namespace Go.Proofs.Ytnknfmjpkphbpaa
open Go.ChangeShapes Go.WideShapes Go.ChangeAt Go.RowKit Go.BigFrame
set_option linter.unusedVariables false

set_option maxRecDepth 100000 in
set_option maxHeartbeats 4000000 in
theorem fnreduced_walk (a0 : Option Addr) (len0 cap0 : Nat) (z0 : List Int) (w : World) (w0 : IsRow .u8 w a0 len0 cap0 z0) :
    Calls Try.prog 5 #[.slice a0 len0 cap0] w fun e w' => e = .returned (.bool true) ∧ Below w.heap.size w w' := by
  by_cases hbig : len0 ≤ 1048576
  · have hcode := codeAt_of w0 hbig
    clear w0
    have HC := Lib.hid hcode
    clear hcode
    go_enter Try.func5, Try.ntmps5
    go_wp2_with fail
    refine (big_any _ _ _ _ hbig).mono ?_
    rintro e w1 ⟨rfl, rfl⟩
    go_wp2_with fail
    refine (drawreduced_any w1.heap.size len0 cap0 a0 z0 w1 HC.out (Nat.le_refl _)).mono ?_
    rintro e w2 ⟨va, ks, y, vt, T, rfl, ⟨hl7, hy5, hT10, hzT⟩, hoa, hot, hb⟩
    obtain ⟨saa, sna, ska, rfl⟩ := own_shape hoa
    obtain ⟨sat, snt, skt, rfl⟩ := own_shape hot
    have HB := Lib.hid hb
    have Oa := Lib.hid hoa
    have Ot := Lib.hid hot
    clear HC hoa hot hb
    have HZT := Lib.hid (show ∀ r ∈ T, r.2.size ≤ 2000000 from fun r hr => by have := hzT r hr; omega)
    clear hzT
    have IC := Lib.hid (fun w' va vb (ks : List K2) (y : ByteArray) x (ha : keysAt w' va ks) (hb : rdAt w' vb T) (hl : ks.length ≤ 7) (hy : y.size ≤ 5) (e : redM (ks, y) T = x) => (show Calls Try.prog 26 #[.agg #[va, .string y], vb] w' fun e w'' => ∃ v', e = .returned (.agg #[v', .string x.2]) ∧
      w''.ownsRow w'.heap.size 41 2 v' x.1.length (keyCells x.1) ∧ Below w'.heap.size w' w'' from e ▸ ireduced_any va ks y vb T w' ha hb (by omega) (by omega) (by omega)))
    have SC := Lib.hid (fun w' va vb (ha : keysAt w' va ks) (hb : rdAt w' vb T) => sreduced_any va ks y vb T w' ha hb (by omega) (by omega))
    have SO := Lib.hid (fun w' v' (h : keysAt w' v' ks) => scodeok_any v' ks y w' h (by omega))
    have ST := Lib.hid (fun w' v' (h : rdAt w' v' T) => sreadingsok_any v' T w' h (by omega))
    have IL := Lib.hid (fun w' v' k (h : rdAt w' v' T) => iloadof_any v' T k w' h (by omega) HZT.out)
    have hm := red_len2 (ks, y) T
    have hno : ¬ (codeOkB (ks, y) = true ∧ rdsOkR T = true) → redM (ks, y) T = (ks, y) := fun h => by unfold redM; rw [if_neg h]
    have hkey : codeOkB (ks, y) = true → rdsOkR T = true → ∀ k ∈ ks, hasKeyB (redM (ks, y) T).1 k = (loadO T k).isNone := fun h1 h2 k hk => red_key h1 h2 k hk
    have hagain : codeOkB (ks, y) = true → rdsOkR T = true → redM (redM (ks, y) T) T = redM (ks, y) T := fun h1 h2 => red_again h1 h2
    have hys : codeOkB (ks, y) = true → rdsOkR T = true → (redM (ks, y) T).2.size = 4 := fun h1 h2 => by
      rw [redM_form h1 h2, ← accR_form (rds_four h2) ((codeOk_iff (ks, y)).1 h1).2.2.1 ks]
      exact accR_size (rds_four h2) ks ((codeOk_iff (ks, y)).1 h1).2.2.1
    generalize hcm : redM (ks, y) T = cm at *
    obtain ⟨M, Y⟩ := cm
    dsimp only at SC hm hkey hys
    have HCM := Lib.hid hcm
    have HNO := Lib.hid hno
    have HKEY := Lib.hid hkey
    have HAG := Lib.hid hagain
    have HYS := Lib.hid hys
    clear hcm hno hkey hagain hys
    generalize codeOkB (ks, y) = p1 at *
    generalize rdsOkR T = p2 at *
    replace HB := Lib.hid (HB.out.alloc HB.out.size (.cells #[.slice saa sna ska, .string y] 26))
    replace Oa := Lib.hid (Oa.out.alloc (.cells #[.slice saa sna ska, .string y] 26))
    replace Ot := Lib.hid (Ot.out.alloc (.cells #[.slice saa sna ska, .string y] 26))
    have RA := Lib.hid (heap_alloc_new (w2) (.cells #[.slice saa sna ska, .string y] 26))
    obtain ⟨Ac0, Ac1, -, -⟩ := row2_of RA.out
    go_wp2_with fail
    generalize World.alloc (w2) (.cells #[.slice saa sna ska, .string y] 26) = w1_ at *
    generalize (w2).heap.size = bA at *
    refine (IC.out _ _ _ ks y _ (keysAt_own Oa.out) (rdAt_own Ot.out) hl7 hy5 HCM.out).mono ?_
    rintro e w2_ ⟨vg, rfl, ho, hb⟩
    dsimp only at ho ⊢
    obtain ⟨sag, sng, skg, rfl⟩ := own_shape ho
    have Og := Lib.hid (own_base ho HB.out.size)
    clear ho
    replace HB := Lib.hid (HB.out.trans (hb.mono HB.out.size))
    replace Oa := Lib.hid (own_below Oa.out hb)
    replace Ot := Lib.hid (own_below Ot.out hb)
    replace RA := Lib.hid ((hb.block _ (Array.getElem?_eq_some_iff.1 RA.out).1).trans RA.out)
    clear hb
    clear Ac0 Ac1
    replace HB := Lib.hid (HB.out.alloc HB.out.size (.cells #[.slice sag sng skg, .string Y] 26))
    replace Oa := Lib.hid (Oa.out.alloc (.cells #[.slice sag sng skg, .string Y] 26))
    replace Ot := Lib.hid (Ot.out.alloc (.cells #[.slice sag sng skg, .string Y] 26))
    replace RA := Lib.hid ((Below.heap_alloc _ (.cells #[.slice sag sng skg, .string Y] 26) _ (Array.getElem?_eq_some_iff.1 RA.out).1).trans RA.out)
    replace Og := Lib.hid (Og.out.alloc (.cells #[.slice sag sng skg, .string Y] 26))
    have RG := Lib.hid (heap_alloc_new (w2_) (.cells #[.slice sag sng skg, .string Y] 26))
    go_wp2_with fail
    generalize World.alloc (w2_) (.cells #[.slice sag sng skg, .string Y] 26) = w3_ at *
    generalize (w2_).heap.size = bG at *
    have LG : ∀ w' : World, w'.heap[bG]? = some (.cells #[.slice sag sng skg, .string Y] 26) ∧ w'.heap[bA]? = some (.cells #[.slice saa sna ska, .string y] 26) → (loadVar 26 ⟨bG, 0, none⟩).run Try.prog w' = .ok (.agg #[.slice sag sng skg, .string Y]) w' := fun w' h => cd_load h.1 (Below.refl _ _)
    have LA : ∀ w' : World, w'.heap[bG]? = some (.cells #[.slice sag sng skg, .string Y] 26) ∧ w'.heap[bA]? = some (.cells #[.slice saa sna ska, .string y] 26) → (loadVar 26 ⟨bA, 0, none⟩).run Try.prog w' = .ok (.agg #[.slice saa sna ska, .string y]) w' := fun w' h => cd_load h.2 (Below.refl _ _)
    have LGk : ∀ w' : World, w'.heap[bG]? = some (.cells #[.slice sag sng skg, .string Y] 26) ∧ w'.heap[bA]? = some (.cells #[.slice saa sna ska, .string y] 26) → (loadVar 24 ⟨bG, 0, none⟩).run Try.prog w' = .ok (.slice sag sng skg) w' := fun w' h => cd_loadk h.1 (Below.refl _ _)
    have LAk : ∀ w' : World, w'.heap[bG]? = some (.cells #[.slice sag sng skg, .string Y] 26) ∧ w'.heap[bA]? = some (.cells #[.slice saa sna ska, .string y] 26) → (loadVar 24 ⟨bA, 0, none⟩).run Try.prog w' = .ok (.slice saa sna ska) w' := fun w' h => cd_loadk h.2 (Below.refl _ _)
    refine wp_region_G (fun w' => w'.heap[bG]? = some (.cells #[.slice sag sng skg, .string Y] 26) ∧ w'.heap[bA]? = some (.cells #[.slice saa sna ska, .string y] 26)) (by kernel_rfl) ?_
    replace HB := Lib.hid (HB.out.drew)
    replace Oa := Lib.hid (Oa.out.drew)
    replace Ot := Lib.hid (Ot.out.drew)
    replace RA := Lib.hid (show (World.drew _).heap[_]? = _ from RA.out)
    replace Og := Lib.hid (Og.out.drew)
    replace RG := Lib.hid (show (World.drew _).heap[_]? = _ from RG.out)
    generalize (w3_).drew = wD3 at *
    refine wpG_seg [true, true, true] [3] 2 (by kernel_rfl) (by intro c a d v w h; cases d <;> exact h) (by kernel_rfl) ⟨RG.out, RA.out⟩ ?_
    try simp only [maskRows]
    repeat (first
      | go_big_quiet_skip
      | (go_big_quiet_want
         first
           | (go_big_quiet_op; go_big_quiet_on)
           | (refine q_load 26 _ _ _ rfl rfl LG ?_; simp only [Act.put, List.setIfInBounds_toArray, List.set_cons_zero, List.set_cons_succ]; go_big_quiet_on)
           | (refine q_load 26 _ _ _ rfl rfl LA ?_; simp only [Act.put, List.setIfInBounds_toArray, List.set_cons_zero, List.set_cons_succ]; go_big_quiet_on)
           | (refine q_load 24 _ _ _ rfl rfl LGk ?_; simp only [Act.put, List.setIfInBounds_toArray, List.set_cons_zero, List.set_cons_succ]; go_big_quiet_on)
           | (refine q_load 24 _ _ _ rfl rfl LAk ?_; simp only [Act.put, List.setIfInBounds_toArray, List.set_cons_zero, List.set_cons_succ]; go_big_quiet_on)
           | (go_big_quiet_op; refine ⟨_, fun _ _ => rfl, ?_⟩; go_big_quiet_on)
           | (go_big_quiet_op; refine ⟨_, fun _ _ _ => rfl, ?_⟩; go_big_quiet_on)))
    refine wpQuiet_nil ?_
    refine List.forall_mem_singleton.2 ?_
    refine segt_run rfl (by rfl) (fun K hK => ?_)
    go_simp
    refine (SC.out _ _ _ (keysAt_own Oa.out) (rdAt_own Ot.out)).mono ?_
    rintro e w4_ ⟨vs, rfl, ho, hb⟩
    dsimp only
    obtain ⟨sas, sns, sks, rfl⟩ := own_shape ho
    have Os := Lib.hid (own_base ho HB.out.size)
    clear ho
    replace HB := Lib.hid (HB.out.trans (hb.mono HB.out.size))
    replace Oa := Lib.hid (own_below Oa.out hb)
    replace Ot := Lib.hid (own_below Ot.out hb)
    replace RA := Lib.hid ((hb.block _ (Array.getElem?_eq_some_iff.1 RA.out).1).trans RA.out)
    replace Og := Lib.hid (own_below Og.out hb)
    replace RG := Lib.hid ((hb.block _ (Array.getElem?_eq_some_iff.1 RG.out).1).trans RG.out)
    clear hb
    refine hK _ _ ⟨_, fun _ h => h, ⟨RG.out, RA.out⟩, ?_⟩
    clear hK K
    try simp only [Act.put, List.setIfInBounds_toArray, List.set_cons_zero, List.set_cons_succ]
    refine wpG_seg [] [4] 1 (by kernel_rfl) (by intro c a d v w h; cases d <;> exact h) (by kernel_rfl) ⟨RG.out, RA.out⟩ ?_
    try simp only [maskRows]
    refine wpQuiet_nil ?_
    refine List.forall_mem_singleton.2 ?_
    refine segt_run rfl (by rfl) (fun K hK => ?_)
    go_simp
    refine (samecode_self _ _ M Y _ (keysAt_own Og.out) (keysAt_own Os.out) (by omega)).mono ?_
    rintro e w5_ ⟨rfl, hb⟩
    dsimp only
    replace HB := Lib.hid (HB.out.trans (hb.mono HB.out.size))
    replace Oa := Lib.hid (own_below Oa.out hb)
    replace Ot := Lib.hid (own_below Ot.out hb)
    replace RA := Lib.hid ((hb.block _ (Array.getElem?_eq_some_iff.1 RA.out).1).trans RA.out)
    replace Og := Lib.hid (own_below Og.out hb)
    replace RG := Lib.hid ((hb.block _ (Array.getElem?_eq_some_iff.1 RG.out).1).trans RG.out)
    replace Os := Lib.hid (own_below Os.out hb)
    clear hb
    refine hK _ _ ⟨_, fun _ h => h, ⟨RG.out, RA.out⟩, ?_⟩
    clear hK K
    try simp only [Act.put, List.setIfInBounds_toArray, List.set_cons_zero, List.set_cons_succ]
    refine wpG_end [false, false, false, false, false, true] (by kernel_rfl) (by intro c a d v w h; cases d <;> exact h) (by kernel_rfl) ⟨RG.out, RA.out⟩ ?_
    try simp only [maskRows]
    repeat (first
      | go_big_quiet_skip
      | (go_big_quiet_want
         first
           | (go_big_quiet_op; go_big_quiet_on)
           | (refine q_load 26 _ _ _ rfl rfl LG ?_; simp only [Act.put, List.setIfInBounds_toArray, List.set_cons_zero, List.set_cons_succ]; go_big_quiet_on)
           | (refine q_load 26 _ _ _ rfl rfl LA ?_; simp only [Act.put, List.setIfInBounds_toArray, List.set_cons_zero, List.set_cons_succ]; go_big_quiet_on)
           | (refine q_load 24 _ _ _ rfl rfl LGk ?_; simp only [Act.put, List.setIfInBounds_toArray, List.set_cons_zero, List.set_cons_succ]; go_big_quiet_on)
           | (refine q_load 24 _ _ _ rfl rfl LAk ?_; simp only [Act.put, List.setIfInBounds_toArray, List.set_cons_zero, List.set_cons_succ]; go_big_quiet_on)
           | (go_big_quiet_op; refine ⟨_, fun _ _ => rfl, ?_⟩; go_big_quiet_on)
           | (go_big_quiet_op; refine ⟨_, fun _ _ _ => rfl, ?_⟩; go_big_quiet_on)))
    refine wpQuiet_nil ?_
    clear LG LA LGk LAk
    clear Os
    obtain ⟨Ac0, Ac1, -, -⟩ := row2_of RA.out
    go_wp2_with fail
    refine (SO.out _ _ (keysAt_own Oa.out)).mono ?_
    rintro e w6_ ⟨rfl, hb⟩
    replace HB := Lib.hid (HB.out.trans (hb.mono HB.out.size))
    replace Oa := Lib.hid (own_below Oa.out hb)
    replace Ot := Lib.hid (own_below Ot.out hb)
    replace RA := Lib.hid ((hb.block _ (Array.getElem?_eq_some_iff.1 RA.out).1).trans RA.out)
    replace Og := Lib.hid (own_below Og.out hb)
    replace RG := Lib.hid ((hb.block _ (Array.getElem?_eq_some_iff.1 RG.out).1).trans RG.out)
    clear hb
    clear Ac0 Ac1
    cases p1 with
    | false =>
      have hq := HNO.out (by simp)
      obtain ⟨e1, e2⟩ := Prod.mk.inj hq
      subst e1
      subst e2
      clear hq
      obtain ⟨Gc0, Gc1, -, -⟩ := row2_of RG.out
      obtain ⟨Ac0, Ac1, -, -⟩ := row2_of RA.out
      go_wp2_with fail
      refine (samecode_self _ _ _ _ _ (keysAt_own Og.out) (keysAt_own Oa.out) (by omega)).mono ?_
      rintro e w7_ ⟨rfl, hb⟩
      replace HB := Lib.hid (HB.out.trans (hb.mono HB.out.size))
      replace Oa := Lib.hid (own_below Oa.out hb)
      replace Ot := Lib.hid (own_below Ot.out hb)
      replace RA := Lib.hid ((hb.block _ (Array.getElem?_eq_some_iff.1 RA.out).1).trans RA.out)
      replace Og := Lib.hid (own_below Og.out hb)
      replace RG := Lib.hid ((hb.block _ (Array.getElem?_eq_some_iff.1 RG.out).1).trans RG.out)
      clear hb
      clear Gc0 Gc1 Ac0 Ac1
      go_wp2
      go_ret
      exact ⟨rfl, HB.out⟩
    | true =>
      go_wp2_with fail
      refine (ST.out _ _ (rdAt_own Ot.out)).mono ?_
      rintro e w7_ ⟨rfl, hb⟩
      replace HB := Lib.hid (HB.out.trans (hb.mono HB.out.size))
      replace Oa := Lib.hid (own_below Oa.out hb)
      replace Ot := Lib.hid (own_below Ot.out hb)
      replace RA := Lib.hid ((hb.block _ (Array.getElem?_eq_some_iff.1 RA.out).1).trans RA.out)
      replace Og := Lib.hid (own_below Og.out hb)
      replace RG := Lib.hid ((hb.block _ (Array.getElem?_eq_some_iff.1 RG.out).1).trans RG.out)
      clear hb
      cases p2 with
      | false =>
        have hq := HNO.out (by simp)
        obtain ⟨e1, e2⟩ := Prod.mk.inj hq
        subst e1
        subst e2
        clear hq
        obtain ⟨Gc0, Gc1, -, -⟩ := row2_of RG.out
        obtain ⟨Ac0, Ac1, -, -⟩ := row2_of RA.out
        go_wp2_with fail
        refine (samecode_self _ _ _ _ _ (keysAt_own Og.out) (keysAt_own Oa.out) (by omega)).mono ?_
        rintro e w8_ ⟨rfl, hb⟩
        replace HB := Lib.hid (HB.out.trans (hb.mono HB.out.size))
        replace Oa := Lib.hid (own_below Oa.out hb)
        replace Ot := Lib.hid (own_below Ot.out hb)
        replace RA := Lib.hid ((hb.block _ (Array.getElem?_eq_some_iff.1 RA.out).1).trans RA.out)
        replace Og := Lib.hid (own_below Og.out hb)
        replace RG := Lib.hid ((hb.block _ (Array.getElem?_eq_some_iff.1 RG.out).1).trans RG.out)
        clear hb
        clear Gc0 Gc1 Ac0 Ac1
        go_wp2
        go_ret
        exact ⟨rfl, HB.out⟩
      | true =>
        have hkey := HKEY.out (by simp) (by simp)
        have hag := HAG.out (by simp) (by simp)
        have hy4 := HYS.out (by simp) (by simp)
        have HK := Lib.hid hkey
        have HA2 := Lib.hid hag
        clear hkey hag HKEY HAG HYS HNO
        obtain rfl : sna = ks.length := by obtain ⟨_, _, e, _⟩ := keysAt_own Oa.out; cases e; rfl
        obtain ⟨Ac0, Ac1, -, -⟩ := row2_of RA.out
        go_wp2
        clear Ac0 Ac1
        go_loopw [6, 7, 8] (fun i _ _ wr => ∃ k : Nat, k ≤ ks.length ∧ i = .int .i64 k ∧ Below w7_.heap.size w7_ wr) (fun i _ _ _ => ks.length - (intOf i).toNat)
        case atStart => exact ⟨0, Nat.zero_le _, rfl, Below.refl _ _⟩
        case round =>
          obtain ⟨k, hk, rfl, hb⟩ := hrel
          rename_i wr
          replace HB := Lib.hid (HB.out.trans (hb.mono HB.out.size))
          replace Oa := Lib.hid (own_below Oa.out hb)
          replace Ot := Lib.hid (own_below Ot.out hb)
          replace RA := Lib.hid ((hb.block _ (Array.getElem?_eq_some_iff.1 RA.out).1).trans RA.out)
          replace Og := Lib.hid (own_below Og.out hb)
          replace RG := Lib.hid ((hb.block _ (Array.getElem?_eq_some_iff.1 RG.out).1).trans RG.out)
          have HLB := Lib.hid hb
          clear hb
          by_cases hlt : k < ks.length
          · have z0 : (0 : Int) ≤ (k : Int) := by omega
            have z1 : (k : Int) < (ks.length : Int) := by omega
            obtain ⟨xa2, xc2, hva2, -, hcs2⟩ := keysAt_own Oa.out
            cases hva2
            obtain ⟨gx, ox, rfl, -, hcw⟩ := hcs2.resolve_left (by omega)
            have c1 := hcw k hlt
            have hmem : ks.getD k (0, 0) ∈ ks := by simp [List.getD, hlt]
            have hkk := HK.out _ hmem
            clear hcw hcs2 hmem
            generalize ks.getD k (0, 0) = kx at *
            obtain ⟨p, q⟩ := kx
            dsimp only at c1
            have KIN := Lib.hid (show wr.cell? ⟨gx, ox + k * 2, none⟩ = some (.int .i64 p) ∧ wr.cell? ⟨gx, ox + k * 2 + 1, none⟩ = some (.int .i64 q) from c1)
            obtain ⟨k0, k1⟩ := c1
            have hgw : gx < wr.heap.size := World.block_lt_of_cell? wr ⟨gx, ox + k * 2, none⟩ k0
            have ILx := Lib.hid (IL.out wr _ (p, q) (rdAt_own Ot.out))
            cases hlo : loadO T (p, q) with
            | none =>
              rw [hlo] at ILx hkk
              rw [show loadV (none : Option ByteArray) = .tuple #[.string ⟨#[]⟩, .bool false] from rfl] at ILx
              unfold kv at ILx
              dsimp only at ILx hkk
              have HHK := Lib.hid (show hasKeyB M (p, q) = true from hkk)
              clear hkk hlo
              obtain ⟨Ac0, Ac1, -, -⟩ := row2_of RA.out
              go_wp2_with fail
              refine ILx.out.mono ?_
              rintro e w8_ ⟨rfl, hb⟩
              replace HB := Lib.hid (HB.out.trans (hb.mono HB.out.size))
              replace Oa := Lib.hid (own_below Oa.out hb)
              replace Ot := Lib.hid (own_below Ot.out hb)
              replace RA := Lib.hid ((hb.block _ (Array.getElem?_eq_some_iff.1 RA.out).1).trans RA.out)
              replace Og := Lib.hid (own_below Og.out hb)
              replace RG := Lib.hid ((hb.block _ (Array.getElem?_eq_some_iff.1 RG.out).1).trans RG.out)
              replace HLB := Lib.hid (HLB.out.trans (hb.mono HLB.out.size))
              have KIN2 := Lib.hid (show w8_.cell? ⟨gx, ox + k * 2, none⟩ = some (.int .i64 p) ∧ w8_.cell? ⟨gx, ox + k * 2 + 1, none⟩ = some (.int .i64 q) from ⟨(hb.cell (p := ⟨gx, ox + k * 2, none⟩) hgw).trans KIN.out.1, (hb.cell (p := ⟨gx, ox + k * 2 + 1, none⟩) hgw).trans KIN.out.2⟩)
              have hgw2 : gx < w8_.heap.size := Nat.lt_of_lt_of_le hgw hb.size
              clear hb k0 k1 Ac0 Ac1 ILx KIN
              go_wp2_with fail
              have L1 : ∀ w', Below w8_.heap.size w8_ w' → (loadVar 24 ⟨bG, 0, none⟩).run Try.prog w' = .ok (.slice sag sng skg) w' := fun w' hb => cd_loadk RG.out hb
              have L2 : ∀ w', Below w8_.heap.size w8_ w' → (loadVar 24 ⟨bA, 0, none⟩).run Try.prog w' = .ok (.slice (some ⟨gx, ox, none⟩) ks.length ska) w' := fun w' hb => cd_loadk RA.out hb
              have L3 : ∀ w', Below w8_.heap.size w8_ w' → (loadVar 41 ⟨gx, ox + k * 2, none⟩).run Try.prog w' = .ok (.agg #[.int .i64 p, .int .i64 q]) w' := fun w' hb => key_load (k := (p, q)) ⟨KIN2.out.1, KIN2.out.2⟩ hgw2 hb
              have K1 := Lib.hid (fun w' (hb : Below w8_.heap.size w8_ w') => (HHK.out ▸ ihaskey_any _ M (p, q) w' (keysAt_own (own_below Og.out hb)) (by omega) : Calls Try.prog 30 #[.slice sag sng skg, kv (p, q)] w' fun e w'' => e = .returned (.bool true) ∧ Below w'.heap.size w' w''))
              unfold kv at K1
              dsimp only at K1
              refine wp_region_below w8_ (by kernel_rfl) (by kernel_rfl) (Below.refl _ _) ?_
              repeat (first
                | go_big_quiet_skip
                | (go_big_quiet_want
                   first
                     | (go_big_quiet_op; go_big_quiet_on)
                     | (refine q_load 24 _ _ _ rfl rfl L1 ?_; simp only [Act.put, List.setIfInBounds_toArray, List.set_cons_zero, List.set_cons_succ]; go_big_quiet_on)
                     | (refine q_load 24 _ _ _ rfl rfl L2 ?_; simp only [Act.put, List.setIfInBounds_toArray, List.set_cons_zero, List.set_cons_succ]; go_big_quiet_on)
                     | (refine q_load 41 _ _ _ rfl rfl L3 ?_; simp only [Act.put, List.setIfInBounds_toArray, List.set_cons_zero, List.set_cons_succ]; go_big_quiet_on)
                     | (go_big_quiet_op; refine ⟨_, fun _ _ => rfl, ?_⟩; go_big_quiet_on)
                     | (go_big_quiet_op; apply Exists.intro; refine ⟨fun w' hw' => ?_, ?_⟩
                        · (with_reducible refine (K1.out w' hw').mono ?_
                           rintro e w2 ⟨rfl, hb2⟩
                           exact ⟨rfl, hw'.trans (hb2.mono hw'.size)⟩)
                        go_big_quiet_on)))
              refine wpQuiet_nil ?_
              intro w9 hb
              replace HB := Lib.hid (HB.out.trans (hb.mono HB.out.size))
              replace Oa := Lib.hid (own_below Oa.out hb)
              replace Ot := Lib.hid (own_below Ot.out hb)
              replace RA := Lib.hid ((hb.block _ (Array.getElem?_eq_some_iff.1 RA.out).1).trans RA.out)
              replace Og := Lib.hid (own_below Og.out hb)
              replace RG := Lib.hid ((hb.block _ (Array.getElem?_eq_some_iff.1 RG.out).1).trans RG.out)
              replace HLB := Lib.hid (HLB.out.trans (hb.mono HLB.out.size))
              clear hb L1 L2 L3 K1 KIN2
              go_wp2
              exact ⟨⟨k + 1, by omega, by go_num, HLB.out⟩, by simp [intOf]; omega⟩
            | some z =>
              rw [hlo] at ILx hkk
              rw [show loadV (some z) = .tuple #[.string z, .bool true] from rfl] at ILx
              unfold kv at ILx
              dsimp only at ILx hkk
              have HHK := Lib.hid (show hasKeyB M (p, q) = false from hkk)
              clear hkk hlo
              obtain ⟨Ac0, Ac1, -, -⟩ := row2_of RA.out
              go_wp2_with fail
              refine ILx.out.mono ?_
              rintro e w8_ ⟨rfl, hb⟩
              replace HB := Lib.hid (HB.out.trans (hb.mono HB.out.size))
              replace Oa := Lib.hid (own_below Oa.out hb)
              replace Ot := Lib.hid (own_below Ot.out hb)
              replace RA := Lib.hid ((hb.block _ (Array.getElem?_eq_some_iff.1 RA.out).1).trans RA.out)
              replace Og := Lib.hid (own_below Og.out hb)
              replace RG := Lib.hid ((hb.block _ (Array.getElem?_eq_some_iff.1 RG.out).1).trans RG.out)
              replace HLB := Lib.hid (HLB.out.trans (hb.mono HLB.out.size))
              have KIN2 := Lib.hid (show w8_.cell? ⟨gx, ox + k * 2, none⟩ = some (.int .i64 p) ∧ w8_.cell? ⟨gx, ox + k * 2 + 1, none⟩ = some (.int .i64 q) from ⟨(hb.cell (p := ⟨gx, ox + k * 2, none⟩) hgw).trans KIN.out.1, (hb.cell (p := ⟨gx, ox + k * 2 + 1, none⟩) hgw).trans KIN.out.2⟩)
              have hgw2 : gx < w8_.heap.size := Nat.lt_of_lt_of_le hgw hb.size
              clear hb k0 k1 Ac0 Ac1 ILx KIN
              go_wp2_with fail
              have L1 : ∀ w', Below w8_.heap.size w8_ w' → (loadVar 24 ⟨bG, 0, none⟩).run Try.prog w' = .ok (.slice sag sng skg) w' := fun w' hb => cd_loadk RG.out hb
              have L2 : ∀ w', Below w8_.heap.size w8_ w' → (loadVar 24 ⟨bA, 0, none⟩).run Try.prog w' = .ok (.slice (some ⟨gx, ox, none⟩) ks.length ska) w' := fun w' hb => cd_loadk RA.out hb
              have L3 : ∀ w', Below w8_.heap.size w8_ w' → (loadVar 41 ⟨gx, ox + k * 2, none⟩).run Try.prog w' = .ok (.agg #[.int .i64 p, .int .i64 q]) w' := fun w' hb => key_load (k := (p, q)) ⟨KIN2.out.1, KIN2.out.2⟩ hgw2 hb
              have K1 := Lib.hid (fun w' (hb : Below w8_.heap.size w8_ w') => (HHK.out ▸ ihaskey_any _ M (p, q) w' (keysAt_own (own_below Og.out hb)) (by omega) : Calls Try.prog 30 #[.slice sag sng skg, kv (p, q)] w' fun e w'' => e = .returned (.bool false) ∧ Below w'.heap.size w' w''))
              unfold kv at K1
              dsimp only at K1
              refine wp_region_below w8_ (by kernel_rfl) (by kernel_rfl) (Below.refl _ _) ?_
              repeat (first
                | go_big_quiet_skip
                | (go_big_quiet_want
                   first
                     | (go_big_quiet_op; go_big_quiet_on)
                     | (refine q_load 24 _ _ _ rfl rfl L1 ?_; simp only [Act.put, List.setIfInBounds_toArray, List.set_cons_zero, List.set_cons_succ]; go_big_quiet_on)
                     | (refine q_load 24 _ _ _ rfl rfl L2 ?_; simp only [Act.put, List.setIfInBounds_toArray, List.set_cons_zero, List.set_cons_succ]; go_big_quiet_on)
                     | (refine q_load 41 _ _ _ rfl rfl L3 ?_; simp only [Act.put, List.setIfInBounds_toArray, List.set_cons_zero, List.set_cons_succ]; go_big_quiet_on)
                     | (go_big_quiet_op; refine ⟨_, fun _ _ => rfl, ?_⟩; go_big_quiet_on)
                     | (go_big_quiet_op; apply Exists.intro; refine ⟨fun w' hw' => ?_, ?_⟩
                        · (with_reducible refine (K1.out w' hw').mono ?_
                           rintro e w2 ⟨rfl, hb2⟩
                           exact ⟨rfl, hw'.trans (hb2.mono hw'.size)⟩)
                        go_big_quiet_on)))
              refine wpQuiet_nil ?_
              intro w9 hb
              replace HB := Lib.hid (HB.out.trans (hb.mono HB.out.size))
              replace Oa := Lib.hid (own_below Oa.out hb)
              replace Ot := Lib.hid (own_below Ot.out hb)
              replace RA := Lib.hid ((hb.block _ (Array.getElem?_eq_some_iff.1 RA.out).1).trans RA.out)
              replace Og := Lib.hid (own_below Og.out hb)
              replace RG := Lib.hid ((hb.block _ (Array.getElem?_eq_some_iff.1 RG.out).1).trans RG.out)
              replace HLB := Lib.hid (HLB.out.trans (hb.mono HLB.out.size))
              clear hb L1 L2 L3 K1 KIN2
              go_wp2
              exact ⟨⟨k + 1, by omega, by go_num, HLB.out⟩, by simp [intOf]; omega⟩
          · obtain rfl : k = ks.length := by omega
            clear hlt hk
            obtain ⟨Ac0, Ac1, -, -⟩ := row2_of RA.out
            go_wp2_with fail
            clear Ac0 Ac1
            have hgl : sng = M.length := by obtain ⟨_, _, e, _⟩ := keysAt_own Og.out; cases e; rfl
            subst hgl
            have e9 : ((M.length : Int) ≤ (ks.length : Int)) := by omega
            have e10 : decide ((M.length : Int) ≤ (ks.length : Int)) = true := decide_eq_true e9
            have LG : ∀ w' : World, w'.heap[bG]? = some (.cells #[.slice sag M.length skg, .string Y] 26) ∧ w'.heap[bA]? = some (.cells #[.slice saa ks.length ska, .string y] 26) → (loadVar 26 ⟨bG, 0, none⟩).run Try.prog w' = .ok (.agg #[.slice sag M.length skg, .string Y]) w' := fun w' h => cd_load h.1 (Below.refl _ _)
            have LGk : ∀ w' : World, w'.heap[bG]? = some (.cells #[.slice sag M.length skg, .string Y] 26) ∧ w'.heap[bA]? = some (.cells #[.slice saa ks.length ska, .string y] 26) → (loadVar 24 ⟨bG, 0, none⟩).run Try.prog w' = .ok (.slice sag M.length skg) w' := fun w' h => cd_loadk h.1 (Below.refl _ _)
            have LAk : ∀ w' : World, w'.heap[bG]? = some (.cells #[.slice sag M.length skg, .string Y] 26) ∧ w'.heap[bA]? = some (.cells #[.slice saa ks.length ska, .string y] 26) → (loadVar 24 ⟨bA, 0, none⟩).run Try.prog w' = .ok (.slice saa ks.length ska) w' := fun w' h => cd_loadk h.2 (Below.refl _ _)
            refine wp_region_G (fun w' => w'.heap[bG]? = some (.cells #[.slice sag M.length skg, .string Y] 26) ∧ w'.heap[bA]? = some (.cells #[.slice saa ks.length ska, .string y] 26)) (by kernel_rfl) ?_
            replace HB := Lib.hid (HB.out.drew)
            replace Oa := Lib.hid (Oa.out.drew)
            replace Ot := Lib.hid (Ot.out.drew)
            replace RA := Lib.hid (show (World.drew _).heap[_]? = _ from RA.out)
            replace Og := Lib.hid (Og.out.drew)
            replace RG := Lib.hid (show (World.drew _).heap[_]? = _ from RG.out)
            replace HLB := Lib.hid (HLB.out.drew)
            generalize (wr).drew = wD7 at *
            refine wpG_seg [true, true, false, true, true] [2, 5] 10 (by kernel_rfl) (by intro c a d v w h; cases d <;> exact h) (by kernel_rfl) ⟨RG.out, RA.out⟩ ?_
            try simp only [maskRows]
            repeat (first
              | go_big_quiet_skip
              | (go_big_quiet_want
                 first
                   | (go_big_quiet_op; go_big_quiet_on)
                   | (refine q_load 26 _ _ _ rfl rfl LG ?_; simp only [Act.put, List.setIfInBounds_toArray, List.set_cons_zero, List.set_cons_succ]; go_big_quiet_on)
                   | (refine q_load 24 _ _ _ rfl rfl LGk ?_; simp only [Act.put, List.setIfInBounds_toArray, List.set_cons_zero, List.set_cons_succ]; go_big_quiet_on)
                   | (refine q_load 24 _ _ _ rfl rfl LAk ?_; simp only [Act.put, List.setIfInBounds_toArray, List.set_cons_zero, List.set_cons_succ]; go_big_quiet_on)
                   | (go_big_quiet_op; refine ⟨_, fun _ _ => rfl, ?_⟩; go_big_quiet_on)
                   | (go_big_quiet_op; refine ⟨_, fun _ _ _ => rfl, ?_⟩; go_big_quiet_on)))
            refine wpQuiet_nil ?_
            refine List.forall_mem_cons.2 ⟨?_, List.forall_mem_singleton.2 ?_⟩
            · refine segt_run rfl (by rfl) (fun K hK => ?_)
              go_simp
              refine hK _ _ ⟨_, fun _ h => h, ⟨RG.out, RA.out⟩, ?_⟩
              clear hK K
              try simp only [Act.put, List.setIfInBounds_toArray, List.set_cons_zero, List.set_cons_succ]
              refine wpG_seg [] [5] 9 (by kernel_rfl) (by intro c a d v w h; cases d <;> exact h) (by kernel_rfl) ⟨RG.out, RA.out⟩ ?_
              try simp only [maskRows]
              refine wpQuiet_nil ?_
              refine List.forall_mem_singleton.2 ?_
              refine segt_run rfl (by rfl) (fun K hK => ?_)
              go_simp
              refine hK _ _ ⟨_, fun _ h => h, ⟨RG.out, RA.out⟩, ?_⟩
              clear hK K
              try simp only [Act.put, List.setIfInBounds_toArray, List.set_cons_zero, List.set_cons_succ]
              refine wpG_seg [false, false, false, false, false, false, true, true, true, true, false, true] [10] 3 (by kernel_rfl) (by intro c a d v w h; cases d <;> exact h) (by kernel_rfl) ⟨RG.out, RA.out⟩ ?_
              try simp only [maskRows]
              repeat (first
                | go_big_quiet_skip
                | (go_big_quiet_want
                   first
                     | (go_big_quiet_op; go_big_quiet_on)
                     | (refine q_load 26 _ _ _ rfl rfl LG ?_; simp only [Act.put, List.setIfInBounds_toArray, List.set_cons_zero, List.set_cons_succ]; go_big_quiet_on)
                     | (refine q_load 24 _ _ _ rfl rfl LGk ?_; simp only [Act.put, List.setIfInBounds_toArray, List.set_cons_zero, List.set_cons_succ]; go_big_quiet_on)
                     | (refine q_load 24 _ _ _ rfl rfl LAk ?_; simp only [Act.put, List.setIfInBounds_toArray, List.set_cons_zero, List.set_cons_succ]; go_big_quiet_on)
                     | (go_big_quiet_op; refine ⟨_, fun _ _ => rfl, ?_⟩; go_big_quiet_on)
                     | (go_big_quiet_op; refine ⟨_, fun _ _ _ => rfl, ?_⟩; go_big_quiet_on)))
              refine wpQuiet_nil ?_
              refine List.forall_mem_singleton.2 ?_
              refine segt_run rfl (by rfl) (fun K hK => ?_)
              go_simp
              refine (IC.out _ _ _ M Y _ (keysAt_own Og.out) (rdAt_own Ot.out) (by omega) (by omega) HA2.out).mono ?_
              rintro e w8_ ⟨vh, rfl, ho, hb⟩
              dsimp only at ho ⊢
              obtain ⟨sah, snh, skh, rfl⟩ := own_shape ho
              have Oh := Lib.hid (own_base ho HB.out.size)
              clear ho
              replace HB := Lib.hid (HB.out.trans (hb.mono HB.out.size))
              replace Oa := Lib.hid (own_below Oa.out hb)
              replace Ot := Lib.hid (own_below Ot.out hb)
              replace RA := Lib.hid ((hb.block _ (Array.getElem?_eq_some_iff.1 RA.out).1).trans RA.out)
              replace Og := Lib.hid (own_below Og.out hb)
              replace RG := Lib.hid ((hb.block _ (Array.getElem?_eq_some_iff.1 RG.out).1).trans RG.out)
              replace HLB := Lib.hid (HLB.out.trans (hb.mono HLB.out.size))
              clear hb
              refine hK _ _ ⟨_, fun _ h => h, ⟨RG.out, RA.out⟩, ?_⟩
              clear hK K
              try simp only [Act.put, List.setIfInBounds_toArray, List.set_cons_zero, List.set_cons_succ]
              refine wpG_seg [] [12] 2 (by kernel_rfl) (by intro c a d v w h; cases d <;> exact h) (by kernel_rfl) ⟨RG.out, RA.out⟩ ?_
              try simp only [maskRows]
              refine wpQuiet_nil ?_
              refine List.forall_mem_singleton.2 ?_
              refine segt_run rfl (by rfl) (fun K hK => ?_)
              go_simp
              refine (samecode_self _ _ M Y _ (keysAt_own Oh.out) (keysAt_own Og.out) (by omega)).mono ?_
              rintro e w9_ ⟨rfl, hb⟩
              dsimp only
              replace HB := Lib.hid (HB.out.trans (hb.mono HB.out.size))
              replace Oa := Lib.hid (own_below Oa.out hb)
              replace Ot := Lib.hid (own_below Ot.out hb)
              replace RA := Lib.hid ((hb.block _ (Array.getElem?_eq_some_iff.1 RA.out).1).trans RA.out)
              replace Og := Lib.hid (own_below Og.out hb)
              replace RG := Lib.hid ((hb.block _ (Array.getElem?_eq_some_iff.1 RG.out).1).trans RG.out)
              replace HLB := Lib.hid (HLB.out.trans (hb.mono HLB.out.size))
              replace Oh := Lib.hid (own_below Oh.out hb)
              clear hb
              refine hK _ _ ⟨_, fun _ h => h, ⟨RG.out, RA.out⟩, ?_⟩
              clear hK K
              try simp only [Act.put, List.setIfInBounds_toArray, List.set_cons_zero, List.set_cons_succ]
              refine wpG_end [false, false, false, false, false, false, false, false, false, false, false, false, false, true, true] (by kernel_rfl) (by intro c a d v w h; cases d <;> exact h) (by kernel_rfl) ⟨RG.out, RA.out⟩ ?_
              try simp only [maskRows]
              repeat (first
                | go_big_quiet_skip
                | (go_big_quiet_want
                   first
                     | (go_big_quiet_op; go_big_quiet_on)
                     | (refine q_load 26 _ _ _ rfl rfl LG ?_; simp only [Act.put, List.setIfInBounds_toArray, List.set_cons_zero, List.set_cons_succ]; go_big_quiet_on)
                     | (refine q_load 24 _ _ _ rfl rfl LGk ?_; simp only [Act.put, List.setIfInBounds_toArray, List.set_cons_zero, List.set_cons_succ]; go_big_quiet_on)
                     | (refine q_load 24 _ _ _ rfl rfl LAk ?_; simp only [Act.put, List.setIfInBounds_toArray, List.set_cons_zero, List.set_cons_succ]; go_big_quiet_on)
                     | (go_big_quiet_op; refine ⟨_, fun _ _ => rfl, ?_⟩; go_big_quiet_on)
                     | (go_big_quiet_op; refine ⟨_, fun _ _ _ => rfl, ?_⟩; go_big_quiet_on)))
              refine wpQuiet_nil ?_
              go_wp2
              go_ret
              exact ⟨rfl, HB.out⟩
            · refine segt_run rfl (by rfl) (fun K hK => ?_)
              go_simp
              refine hK _ _ ⟨_, fun _ h => h, ⟨RG.out, RA.out⟩, ?_⟩
              clear hK K
              try simp only [Act.put, List.setIfInBounds_toArray, List.set_cons_zero, List.set_cons_succ]
              refine wpG_seg [] [2] 9 (by kernel_rfl) (by intro c a d v w h; cases d <;> exact h) (by kernel_rfl) ⟨RG.out, RA.out⟩ ?_
              try simp only [maskRows]
              refine wpQuiet_nil ?_
              refine List.forall_mem_singleton.2 ?_
              refine segt_run rfl (by rfl) (fun K hK => ?_)
              go_simp
              refine hK _ _ ⟨_, fun _ h => h, ⟨RG.out, RA.out⟩, ?_⟩
              clear hK K
              try simp only [Act.put, List.setIfInBounds_toArray, List.set_cons_zero, List.set_cons_succ]
              refine wpG_seg [false, false, false, false, false, false, true, true, true, true, false, true] [10] 3 (by kernel_rfl) (by intro c a d v w h; cases d <;> exact h) (by kernel_rfl) ⟨RG.out, RA.out⟩ ?_
              try simp only [maskRows]
              repeat (first
                | go_big_quiet_skip
                | (go_big_quiet_want
                   first
                     | (go_big_quiet_op; go_big_quiet_on)
                     | (refine q_load 26 _ _ _ rfl rfl LG ?_; simp only [Act.put, List.setIfInBounds_toArray, List.set_cons_zero, List.set_cons_succ]; go_big_quiet_on)
                     | (refine q_load 24 _ _ _ rfl rfl LGk ?_; simp only [Act.put, List.setIfInBounds_toArray, List.set_cons_zero, List.set_cons_succ]; go_big_quiet_on)
                     | (refine q_load 24 _ _ _ rfl rfl LAk ?_; simp only [Act.put, List.setIfInBounds_toArray, List.set_cons_zero, List.set_cons_succ]; go_big_quiet_on)
                     | (go_big_quiet_op; refine ⟨_, fun _ _ => rfl, ?_⟩; go_big_quiet_on)
                     | (go_big_quiet_op; refine ⟨_, fun _ _ _ => rfl, ?_⟩; go_big_quiet_on)))
              refine wpQuiet_nil ?_
              refine List.forall_mem_singleton.2 ?_
              refine segt_run rfl (by rfl) (fun K hK => ?_)
              go_simp
              refine (IC.out _ _ _ M Y _ (keysAt_own Og.out) (rdAt_own Ot.out) (by omega) (by omega) HA2.out).mono ?_
              rintro e w8_ ⟨vh, rfl, ho, hb⟩
              dsimp only at ho ⊢
              obtain ⟨sah, snh, skh, rfl⟩ := own_shape ho
              have Oh := Lib.hid (own_base ho HB.out.size)
              clear ho
              replace HB := Lib.hid (HB.out.trans (hb.mono HB.out.size))
              replace Oa := Lib.hid (own_below Oa.out hb)
              replace Ot := Lib.hid (own_below Ot.out hb)
              replace RA := Lib.hid ((hb.block _ (Array.getElem?_eq_some_iff.1 RA.out).1).trans RA.out)
              replace Og := Lib.hid (own_below Og.out hb)
              replace RG := Lib.hid ((hb.block _ (Array.getElem?_eq_some_iff.1 RG.out).1).trans RG.out)
              replace HLB := Lib.hid (HLB.out.trans (hb.mono HLB.out.size))
              clear hb
              refine hK _ _ ⟨_, fun _ h => h, ⟨RG.out, RA.out⟩, ?_⟩
              clear hK K
              try simp only [Act.put, List.setIfInBounds_toArray, List.set_cons_zero, List.set_cons_succ]
              refine wpG_seg [] [12] 2 (by kernel_rfl) (by intro c a d v w h; cases d <;> exact h) (by kernel_rfl) ⟨RG.out, RA.out⟩ ?_
              try simp only [maskRows]
              refine wpQuiet_nil ?_
              refine List.forall_mem_singleton.2 ?_
              refine segt_run rfl (by rfl) (fun K hK => ?_)
              go_simp
              refine (samecode_self _ _ M Y _ (keysAt_own Oh.out) (keysAt_own Og.out) (by omega)).mono ?_
              rintro e w9_ ⟨rfl, hb⟩
              dsimp only
              replace HB := Lib.hid (HB.out.trans (hb.mono HB.out.size))
              replace Oa := Lib.hid (own_below Oa.out hb)
              replace Ot := Lib.hid (own_below Ot.out hb)
              replace RA := Lib.hid ((hb.block _ (Array.getElem?_eq_some_iff.1 RA.out).1).trans RA.out)
              replace Og := Lib.hid (own_below Og.out hb)
              replace RG := Lib.hid ((hb.block _ (Array.getElem?_eq_some_iff.1 RG.out).1).trans RG.out)
              replace HLB := Lib.hid (HLB.out.trans (hb.mono HLB.out.size))
              replace Oh := Lib.hid (own_below Oh.out hb)
              clear hb
              refine hK _ _ ⟨_, fun _ h => h, ⟨RG.out, RA.out⟩, ?_⟩
              clear hK K
              try simp only [Act.put, List.setIfInBounds_toArray, List.set_cons_zero, List.set_cons_succ]
              refine wpG_end [false, false, false, false, false, false, false, false, false, false, false, false, false, true, true] (by kernel_rfl) (by intro c a d v w h; cases d <;> exact h) (by kernel_rfl) ⟨RG.out, RA.out⟩ ?_
              try simp only [maskRows]
              repeat (first
                | go_big_quiet_skip
                | (go_big_quiet_want
                   first
                     | (go_big_quiet_op; go_big_quiet_on)
                     | (refine q_load 26 _ _ _ rfl rfl LG ?_; simp only [Act.put, List.setIfInBounds_toArray, List.set_cons_zero, List.set_cons_succ]; go_big_quiet_on)
                     | (refine q_load 24 _ _ _ rfl rfl LGk ?_; simp only [Act.put, List.setIfInBounds_toArray, List.set_cons_zero, List.set_cons_succ]; go_big_quiet_on)
                     | (refine q_load 24 _ _ _ rfl rfl LAk ?_; simp only [Act.put, List.setIfInBounds_toArray, List.set_cons_zero, List.set_cons_succ]; go_big_quiet_on)
                     | (go_big_quiet_op; refine ⟨_, fun _ _ => rfl, ?_⟩; go_big_quiet_on)
                     | (go_big_quiet_op; refine ⟨_, fun _ _ _ => rfl, ?_⟩; go_big_quiet_on)))
              refine wpQuiet_nil ?_
              go_wp2
              go_ret
              exact ⟨rfl, HB.out⟩
  · go_enter Try.func5, Try.ntmps5
    go_wp2_with fail
    refine (big_true _ _ _ _ hbig).mono ?_
    rintro e w1 ⟨rfl, rfl⟩
    go_wp2
    go_ret
    exact ⟨rfl, Below.refl _ _⟩
end Go.Proofs.Ytnknfmjpkphbpaa
/- What keys of draws read by themselves, all of it; a word and readings drawn for Holds. -/
namespace Go.Proofs.Ytnknfmjpkphbpaa
open Go.ChangeShapes Go.WideShapes Go.ChangeAt Go.RowKit Go.BigFrame
set_option linter.unusedVariables false

theorem op_append_rd {o : Oper} {a : Act} {w : World} {K : Act → World → Prop} {Q : Exit → Act → World → Prop} (hgd : o.guard = none) (s x : Operand)
    (ho : o.op = .call { callee := .builtin .append, args := #[s, x], argTypes := #[34, 34] })
    {base n : Nat} {v : Value} {xs : List Value} (hown : w.ownsRow base 43 3 v n xs) (u : Value) (rs : List R3) (hu : rdAt w u rs) (hs : a.eval s = v) (hx : a.eval x = u) (hn : n + rs.length ≤ 4000000) (hbase : base ≤ w.heap.size)
    (h : ∀ v' w', w'.ownsRow base 43 3 v' (n + rs.length) (xs ++ rdCells rs) → w.grownBy w' v.ownBlock → (v'.ownBlock = v.ownBlock ∨ v'.ownBlock = some w.heap.size) → K (a.put o.dst v') w') : Oper.wp Try.prog o a w K Q := by
  have := step_append_rd (ops := #[]) (Q := Q) (E := True) hgd s x ho hown u rs hu hs hx hn hbase h
  rwa [if_pos (by simp [Region.wanted, hgd])] at this
/-- readings on their way -/
structure TrC (w W : World) (v : Value) (rs : List R3) : Prop where
  below : Below w.heap.size w W
  own : W.ownsRow w.heap.size 43 3 v rs.length (rdCells rs)
  four : ∀ r ∈ rs, r.2.size = 4
set_option maxRecDepth 100000 in
set_option maxHeartbeats 2000000 in
theorem l05truth_any (w : World) : Calls Try.prog 55 #[] w fun e w' => ∃ (v : Value) (rs : List R3), e = .returned v ∧ rs.length ≤ 10 ∧ (∀ r ∈ rs, r.2.size ≤ 5) ∧ w'.ownsRow w.heap.size 43 3 v rs.length (rdCells rs) ∧ Below w.heap.size w w' := by
  have T0 : TrC w (w.alloc (.cells #[] 43)) (.slice (some ⟨w.heap.size, 0, none⟩) 0 0) [] :=
    ⟨(Below.refl _ _).alloc (Nat.le_refl _) _, World.ownsRow_made (base := w.heap.size) (e := 43) (size := 3) w #[] 0 (Nat.le_refl _) (by unfold maxLen; omega) rfl, by simp⟩
  have T0 := Lib.hid T0
  go_enter Try.func55, Try.ntmps55
  go_wp2
  go_loopw [1, 2, 3, 4] (fun v i _ _ wr => ∃ (n : Nat) (rs : List R3), 1 ≤ n ∧ n ≤ 6 ∧ i = .int .i64 n ∧ rs.length = 2 * (n - 1) ∧ TrC w wr v rs) (fun _ i _ _ _ => 6 - (intOf i).toNat)
  case atStart => exact ⟨1, [], by omega, by omega, rfl, rfl, T0.out⟩
  case round =>
    clear T0
    obtain ⟨n, rs, hn1, hn6, rfl, hl, hT⟩ := hrel
    have HT := Lib.hid hT
    clear hT
    by_cases hn : n ≤ 5
    · have i5 : (n : Int) ≤ 5 := by omega
      go_wp2
      go_loopw [1, 3, 4] (fun v j _ wr => ∃ (s : Nat) (rs : List R3), 1 ≤ s ∧ s ≤ 3 ∧ j = .int .i64 s ∧ rs.length = 2 * (n - 1) + (s - 1) ∧ TrC w wr v rs) (fun _ j _ _ => 3 - (intOf j).toNat)
      case atStart => exact ⟨1, rs, by omega, by omega, rfl, by omega, HT.out⟩
      case round =>
        clear HT hl
        obtain ⟨s, rs, hs1, hs3, rfl, hl, hT⟩ := hrel
        have HT := Lib.hid hT
        obtain ⟨sav, snv, skv, hv⟩ := own_shape hT.own
        subst hv
        clear hT
        by_cases hs : s ≤ 2
        · have i2 : (s : Int) ≤ 2 := by omega
          have TT := Lib.hid (fun w => truth_any ((n : Int), (s : Int)) w (by dsimp only; omega) (by dsimp only; omega))
          have h4 := truthV_size ((n : Int), (s : Int)) (by dsimp only; omega) (by dsimp only; omega)
          generalize truthV ((n : Int), (s : Int)) = tr at *
          unfold kv at TT
          dsimp only at TT
          have RK := Lib.hid (heap_alloc_new wr (.cells #[.int .i64 n, .int .i64 s] 41))
          have HB := Lib.hid (HT.out.below.alloc HT.out.below.size (.cells #[.int .i64 n, .int .i64 s] 41))
          have HO := Lib.hid (HT.out.own.alloc (.cells #[.int .i64 n, .int .i64 s] 41))
          have H4 := Lib.hid HT.out.four
          clear HT
          have hbk : ∀ w, (Instr.build 41 #[(0, .int .i64 (n : Int)), (1, .int .i64 (s : Int))]).run Try.prog w = .ok (.agg #[.int .i64 n, .int .i64 s]) w := fun w => build_key (n : Int) (s : Int) w
          have hbr := fun w => run_build (P := Try.prog) w 43 #[(0, .agg #[.int .i64 (n : Int), .int .i64 (s : Int)]), (1, .string tr)] (#[.int .i64 (n : Int), .int .i64 (s : Int), .string tr]) (by kernel_rfl)
          go_wp2_with fail
          generalize wr.alloc (.cells #[.int .i64 n, .int .i64 s] 41) = W3 at *
          generalize wr.heap.size = bk at *
          have LK : ∀ w' : World, w'.heap[bk]? = some (.cells #[.int .i64 (n : Int), .int .i64 (s : Int)] 41) → (loadVar 41 ⟨bk, 0, none⟩).run Try.prog w' = .ok (.agg #[.int .i64 n, .int .i64 s]) w' := fun w' h => by
            obtain ⟨h0, h1, -, -⟩ := row2_of h
            exact key_load (k := ((n : Int), (s : Int))) (o := 0) ⟨h0, h1⟩ (Array.getElem?_eq_some_iff.1 h).1 (Below.refl _ _)
          refine wp_region_G (fun w' => w'.heap[bk]? = some (.cells #[.int .i64 (n : Int), .int .i64 (s : Int)] 41)) (by kernel_rfl) ?_
          replace RK := Lib.hid (show (World.drew _).heap[_]? = _ from RK.out)
          replace HB := Lib.hid (HB.out.drew)
          replace HO := Lib.hid (HO.out.drew)
          generalize (W3).drew = wD at *
          refine wpG_seg [true, true, true] [3] 4 (by kernel_rfl) (by intro c a d v w h; cases d <;> exact h) (by kernel_rfl) RK.out ?_
          try simp only [maskRows]
          repeat (first
            | go_big_quiet_skip
            | (go_big_quiet_want
               first
                 | (go_big_quiet_op; go_big_quiet_on)
                 | (refine q_load 41 _ _ _ rfl rfl LK ?_; simp only [Act.put, List.setIfInBounds_toArray, List.set_cons_zero, List.set_cons_succ]; go_big_quiet_on)
                 | (go_big_quiet_op; refine ⟨_, fun _ _ => rfl, ?_⟩; go_big_quiet_on)
                 | (go_big_quiet_op; refine ⟨_, fun _ _ _ => rfl, ?_⟩; go_big_quiet_on)))
          refine wpQuiet_nil ?_
          refine List.forall_mem_singleton.2 ?_
          refine segt_run rfl (by rfl) (fun K hK => ?_)
          go_simp
          refine (TT.out _).mono ?_
          rintro e w3 ⟨rfl, hb⟩
          dsimp only
          replace RK := Lib.hid ((hb.block _ (Array.getElem?_eq_some_iff.1 RK.out).1).trans RK.out)
          replace HB := Lib.hid (HB.out.trans (hb.mono HB.out.size))
          replace HO := Lib.hid (own_below HO.out hb)
          clear hb
          refine hK _ _ ⟨_, fun _ h => h, RK.out, ?_⟩
          clear hK K
          try simp only [Act.put, List.setIfInBounds_toArray, List.set_cons_zero, List.set_cons_succ]
          refine wpG_seg [] [4] 3 (by kernel_rfl) (by intro c a d v w h; cases d <;> exact h) (by kernel_rfl) RK.out ?_
          try simp only [maskRows]
          refine wpQuiet_nil ?_
          refine List.forall_mem_singleton.2 ?_
          refine segt_run rfl (by rfl) (fun K hK => ?_)
          go_simp
          refine hK _ _ ⟨_, fun _ h => h, RK.out, ?_⟩
          clear hK K
          try simp only [Act.put, List.setIfInBounds_toArray, List.set_cons_zero, List.set_cons_succ]
          refine wpG_seg [] [5] 2 (by kernel_rfl) (by intro c a d v w h; cases d <;> exact h) (by kernel_rfl) RK.out ?_
          try simp only [maskRows]
          refine wpQuiet_nil ?_
          refine List.forall_mem_singleton.2 ?_
          refine segt_run rfl (by rfl) (fun K hK => ?_)
          go_simp
          have HU := Lib.hid (rd_newD w3 (n : Int) (s : Int) tr)
          replace RK := Lib.hid ((Below.heap_alloc _ (.cells #[.int .i64 (n : Int), .int .i64 (s : Int), .string tr] 43) _ (Array.getElem?_eq_some_iff.1 RK.out).1).trans RK.out)
          replace HB := Lib.hid (HB.out.alloc HB.out.size (.cells #[.int .i64 (n : Int), .int .i64 (s : Int), .string tr] 43))
          replace HO := Lib.hid (HO.out.alloc (.cells #[.int .i64 (n : Int), .int .i64 (s : Int), .string tr] 43))
          generalize World.alloc (w3) (.cells #[.int .i64 (n : Int), .int .i64 (s : Int), .string tr] 43) = w5 at *
          generalize (w3).heap.size = b5 at *
          refine hK _ _ ⟨_, fun _ h => h, RK.out, ?_⟩
          clear hK K
          try simp only [Act.put, List.setIfInBounds_toArray, List.set_cons_zero, List.set_cons_succ]
          refine wpG_seg [] [6] 1 (by kernel_rfl) (by intro c a d v w h; cases d <;> exact h) (by kernel_rfl) RK.out ?_
          try simp only [maskRows]
          refine wpQuiet_nil ?_
          refine List.forall_mem_singleton.2 ?_
          refine segt_run rfl (by rfl) (fun K hK => ?_)
          refine op_append_rd rfl (.tmp 17) (.tmp 22) rfl HO.out _ [(((n : Int), (s : Int)), tr)] HU.out (by simp [Act.eval, Act.put]) (by simp [Act.eval, Act.put]) (by simp; omega) HB.out.size ?_
          intro v6 w6 hown6 hgr6 hj6
          have HRK := Lib.hid ((hgr6.block _ (Array.getElem?_eq_some_iff.1 RK.out).1 (fun e => by
            rcases HO.out.2 with ⟨h, _⟩ | ⟨g', cap', cur', h, _, hgb, _⟩
            · rw [h] at e; cases e
            · rw [h] at e
              have e2 : g' = bk := (Option.some.inj e).symm
              subst e2
              rw [RK.out] at hgb
              injection hgb with h1
              injection h1 with h2 h3
              revert h3
              decide)).trans RK.out)
          have HN := Lib.hid (TrC.mk (w := w) (v := v6) (rs := rs ++ [(((n : Int), (s : Int)), tr)]) (HB.out.grown hgr6 HB.out.size (fun g e => (HO.out.lt g e).1)) (by rw [rdCells_append]; simpa using hown6) (by
            intro r hr
            rcases List.mem_append.1 hr with h | h
            · exact H4.out r h
            · rcases List.mem_singleton.1 h with rfl; exact h4))
          clear hown6 hgr6 hj6 HO HB HU
          replace RK := HRK
          clear HRK
          simp only [Act.put, List.getElem_toArray, List.getElem_cons_succ, List.getElem_cons_zero]
          refine hK _ _ ⟨_, fun _ h => h, RK.out, ?_⟩
          clear hK K
          try simp only [Act.put, List.setIfInBounds_toArray, List.set_cons_zero, List.set_cons_succ]
          refine wpG_end [false, false, false, false, false, false, false, true] (by kernel_rfl) (by intro c a d v w h; cases d <;> exact h) (by kernel_rfl) RK.out ?_
          try simp only [maskRows]
          repeat (first
            | go_big_quiet_skip
            | (go_big_quiet_want
               first
                 | (go_big_quiet_op; go_big_quiet_on)
                 | (refine q_load 41 _ _ _ rfl rfl LK ?_; simp only [Act.put, List.setIfInBounds_toArray, List.set_cons_zero, List.set_cons_succ]; go_big_quiet_on)
                 | (go_big_quiet_op; refine ⟨_, fun _ _ => rfl, ?_⟩; go_big_quiet_on)
                 | (go_big_quiet_op; refine ⟨_, fun _ _ _ => rfl, ?_⟩; go_big_quiet_on)))
          refine wpQuiet_nil ?_
          clear RK LK
          go_wp2
          exact ⟨⟨s + 1, rs ++ [(((n : Int), (s : Int)), tr)], by omega, by omega, by go_num, by simp; omega, HN.out⟩, by simp [intOf]; omega⟩
        · obtain rfl : s = 3 := by omega
          have i2 : ¬ ((3 : Nat) : Int) ≤ 2 := by omega
          go_wp2
          exact ⟨⟨n + 1, rs, by omega, by omega, by go_num, by omega, HT.out⟩, by simp [intOf]; omega⟩
    · obtain rfl : n = 6 := by omega
      have i5 : ¬ ((6 : Nat) : Int) ≤ 5 := by omega
      go_wp2
      go_ret
      exact ⟨_, rfl, rs, by omega, fun a b y hr => by rw [HT.out.four _ hr]; omega, HT.out.own, HT.out.below⟩
end Go.Proofs.Ytnknfmjpkphbpaa
/- A word and readings drawn for Holds. -/
namespace Go.Proofs.Ytnknfmjpkphbpaa
open Go.ChangeShapes Go.WideShapes Go.ChangeAt Go.RowKit Go.BigFrame
set_option linter.unusedVariables false

set_option maxRecDepth 100000 in
set_option maxHeartbeats 2000000 in
theorem drawholds_any (n₀ len cap : Nat) (a : Option Addr) (zs : List Int) (w : World) (hc : CodeAt n₀ w a len zs) (hw : n₀ ≤ w.heap.size) :
    Calls Try.prog 20 #[.slice a len cap] w fun e w' => ∃ (va : Value) (A : List K2) (ya : ByteArray) (vt : Value) (T : List R3), e = .returned (.tuple #[.agg #[va, .string ya], vt]) ∧
      (A.length ≤ 7 ∧ ya.size ≤ 5 ∧ T.length ≤ 10 ∧ ∀ r ∈ T, r.2.size ≤ 5) ∧ w'.ownsRow w.heap.size 41 2 va A.length (keyCells A) ∧ w'.ownsRow w.heap.size 43 3 vt T.length (rdCells T) ∧ Below w.heap.size w w' := by
  have HB0 := Lib.hid ((Below.refl w.heap.size w).alloc (Nat.le_refl _) (.cells #[.slice none 0 0, .string ⟨#[]⟩] 26))
  have HX0 := Lib.hid (heap_alloc_new w (.cells #[.slice none 0 0, .string ⟨#[]⟩] 26))
  have hc1 := hc.below ((Below.refl n₀ w).alloc hw (.cells #[.slice none 0 0, .string ⟨#[]⟩] 26))
  have hz0 : (w.alloc (.cells #[.slice none 0 0, .string ⟨#[]⟩] 26)).heap.size = w.heap.size + 1 := by simp
  go_enter Try.func20, Try.ntmps20
  go_wp2_with fail
  generalize w.alloc (.cells #[.slice none 0 0, .string ⟨#[]⟩] 26) = W at *
  refine (new_any n₀ len cap a zs _ hc1 (by omega)).mono ?_
  rintro e w1 ⟨g, rfl, hg, hst, hbn, hgrn⟩
  have hgw : w.heap.size < g := by omega
  have hg1 := hst.lt
  have HB1 := Lib.hid (HB0.out.grown hgrn HB0.out.size (by simp))
  have HX1 := Lib.hid ((hgrn.block _ (Array.getElem?_eq_some_iff.1 HX0.out).1 (by simp)).trans HX0.out)
  have hz1 : w.heap.size + 1 ≤ w1.heap.size := by have := hgrn.size; omega
  clear hbn hgrn hg HX0 HB0 hc1 hz0
  go_wp2_with fail
  refine (l05odd_any n₀ g len cap a zs _ _ hst).mono ?_
  rintro e w2 ⟨va, A, ya, c2, rfl, hA, hAb, hya, ho, hd2⟩
  obtain ⟨a2, m2, k2, rfl⟩ := own_shape ho
  have hst2 := hd2.alloc (.cells #[.slice a2 m2 k2, .string ya] 26)
  have hb5 : w1.heap.size ≤ w2.heap.size := hd2.grown.size
  have RX := Lib.hid (heap_alloc_new w2 (.cells #[.slice a2 m2 k2, .string ya] 26))
  have HB2 := Lib.hid ((HB1.out.grown hd2.grown HB1.out.size (fun j e => by cases e; omega)).alloc (by have := HB1.out.size; omega) (.cells #[.slice a2 m2 k2, .string ya] 26))
  have hx2 := (hd2.grown.block _ (Array.getElem?_eq_some_iff.1 HX1.out).1 (fun e => by cases e; omega)).trans HX1.out
  have HX2 := Lib.hid ((Below.heap_alloc w2 (.cells #[.slice a2 m2 k2, .string ya] 26) _ (Array.getElem?_eq_some_iff.1 hx2).1).trans hx2)
  have HO2 := Lib.hid (ho.alloc (.cells #[.slice a2 m2 k2, .string ya] 26))
  have HHI := Lib.hid (fun b e => (ho.lt b e).2)
  have hz2 : w.heap.size + 1 ≤ (w2.alloc (.cells #[.slice a2 m2 k2, .string ya] 26)).heap.size := by simp; omega
  clear hst hd2 HX1 ho HB1 hx2
  go_wp2_with fail
  generalize w2.alloc (.cells #[.slice a2 m2 k2, .string ya] 26) = W5 at *
  generalize w2.heap.size = b5 at *
  refine (once_any n₀ g len cap a zs c2 2 _ hst2.st (by omega)).mono ?_
  rintro e w4 ⟨rfl, hd4⟩
  replace RX := Lib.hid (hd4.keeps RX.out (by omega))
  replace HO2 := Lib.hid (HO2.out.kept hd4.grown (.inr fun e => by have := (HO2.out.lt _ e).1; omega))
  replace HB2 := Lib.hid (HB2.out.grown hd4.grown HB2.out.size (fun j e => by cases e; omega))
  replace HX2 := Lib.hid (hd4.keeps HX2.out (by omega))
  have hst4 := hst2.trans hd4
  have hz4 := Nat.le_trans hz2 hd4.grown.size
  generalize (belowF zs len c2 2).2 = c4 at *
  generalize ((belowF zs len c2 2).1 == 0) = bo at *
  clear hd4 hst2 hz2
  have LX : ∀ w' : World, w'.heap[b5]? = some (.cells #[.slice a2 m2 k2, .string ya] 26) → (loadVar 26 ⟨b5, 0, none⟩).run Try.prog w' = .ok (.agg #[.slice a2 m2 k2, .string ya]) w' := fun w' h => cd_load h (Below.refl _ _)
  have HST := Lib.hid hst4
  clear hst4
  cases bo with
  | false =>
    go_wp2_with fail
    refine wp_region_G (fun w' => w'.heap[b5]? = some (.cells #[.slice a2 m2 k2, .string ya] 26)) (by kernel_rfl) ?_
    replace RX := Lib.hid (show (World.drew _).heap[_]? = _ from RX.out)
    replace HO2 := Lib.hid (HO2.out.drew)
    replace HB2 := Lib.hid (HB2.out.drew)
    replace HX2 := Lib.hid (show (World.drew _).heap[_]? = _ from HX2.out)
    have HST' := Lib.hid (show DrawSt n₀ w4.drew g a len cap zs c4.i c4.h from (HST.out.grow hg1 (row := none) (w2 := w4.drew) ⟨rfl, rfl, rfl, Nat.le_refl _, fun _ _ _ => rfl⟩ (fun b e => by cases e)).st)
    have hz2' : w.heap.size + 1 ≤ w4.drew.heap.size := hz4
    clear HST hz4
    generalize (w4).drew = wD at *
    refine wpG_seg [true, true] [2] 2 (by kernel_rfl) (by intro c a d v w h; cases d <;> exact h) (by kernel_rfl) RX.out ?_
    try simp only [maskRows]
    repeat (first
      | go_big_quiet_skip
      | (go_big_quiet_want
         first
           | (go_big_quiet_op; go_big_quiet_on)
           | (refine q_load 26 _ _ _ rfl rfl LX ?_; simp only [Act.put, List.setIfInBounds_toArray, List.set_cons_zero, List.set_cons_succ]; go_big_quiet_on)
           | (go_big_quiet_op; refine ⟨_, fun _ _ => rfl, ?_⟩; go_big_quiet_on)
           | (go_big_quiet_op; refine ⟨_, fun _ _ _ => rfl, ?_⟩; go_big_quiet_on)))
    refine wpQuiet_nil ?_
    refine List.forall_mem_singleton.2 ?_
    refine segt_run rfl (by rfl) (fun K hK => ?_)
    go_simp
    refine (l04any_any n₀ g len cap a zs c4 _ HST'.out).mono ?_
    rintro e w3 ⟨vb, B, c3, rfl, hB, hBb, ho3, hd3⟩
    dsimp only
    obtain ⟨a3, m3, k3, rfl⟩ := own_shape ho3
    replace RX := Lib.hid (hd3.keeps RX.out (by omega))
    replace HO2 := Lib.hid (HO2.out.kept hd3.grown (.inr fun e => by have := (HO2.out.lt _ e).1; omega))
    have HB3 := Lib.hid (HB2.out.grown hd3.grown HB2.out.size (fun j e => by cases e; omega))
    replace HX2 := Lib.hid (hd3.keeps HX2.out (by omega))
    have HO3 := Lib.hid (own_base ho3 hz2')
    have hz3 : w.heap.size + 1 ≤ w3.heap.size := Nat.le_trans hz2' hd3.grown.size
    clear ho3 hd3 HST' hz2'
    refine hK _ _ ⟨_, fun _ h => h, RX.out, ?_⟩
    clear hK K
    try simp only [Act.put, List.setIfInBounds_toArray, List.set_cons_zero, List.set_cons_succ]
    refine wpG_seg [] [3] 1 (by kernel_rfl) (by intro c a d v w h; cases d <;> exact h) (by kernel_rfl) RX.out ?_
    try simp only [maskRows]
    refine wpQuiet_nil ?_
    refine List.forall_mem_singleton.2 ?_
    obtain ⟨c0, c1, f0, f1⟩ := row2_of HX2.out
    have hlt := (Array.getElem?_eq_some_iff.1 HX2.out).1
    have RX' := Lib.hid (row_set2 RX.out (show b5 ≠ w.heap.size by omega) (.slice a2 m2 k2) (.string ya))
    have HX' := Lib.hid (set2 (.slice a2 m2 k2) (.string ya) HX2.out)
    have HB' := Lib.hid (below2 HB3.out (Nat.le_refl w.heap.size) (.slice a2 m2 k2) (.string ya))
    have HA' := Lib.hid (HO2.out.kept (grown2 w3 w.heap.size (.slice a2 m2 k2) (.string ya)) (.inr fun e => by have := (HO2.out.lt _ e).1; omega))
    have HBo' := Lib.hid (HO3.out.kept (grown2 w3 w.heap.size (.slice a2 m2 k2) (.string ya)) (.inr fun e => by have := (HO3.out.lt _ e).1; omega))
    refine segt_run rfl (by rfl) (fun K hK => ?_)
    go_simp
    replace RX := RX'
    clear HX2 HB3 HO2 HO3 c0 c1 f0 f1 hlt RX' hz3
    generalize (World.setCell (World.setCell w3 ⟨w.heap.size, 0, none⟩ (.slice a2 m2 k2)) ⟨w.heap.size, 1, none⟩ (.string ya)) = W6 at *
    refine hK _ _ ⟨_, fun _ h => h, RX.out, ?_⟩
    clear hK K
    try simp only [Act.put, List.setIfInBounds_toArray, List.set_cons_zero, List.set_cons_succ]
    refine wpG_end [false, false, false, false, true] (by kernel_rfl) (by intro c a d v w h; cases d <;> exact h) (by kernel_rfl) RX.out ?_
    try simp only [maskRows]
    repeat (first
      | go_big_quiet_skip
      | (go_big_quiet_want
         first
           | (go_big_quiet_op; go_big_quiet_on)
           | (refine q_load 26 _ _ _ rfl rfl LX ?_; simp only [Act.put, List.setIfInBounds_toArray, List.set_cons_zero, List.set_cons_succ]; go_big_quiet_on)
           | (go_big_quiet_op; refine ⟨_, fun _ _ => rfl, ?_⟩; go_big_quiet_on)
           | (go_big_quiet_op; refine ⟨_, fun _ _ _ => rfl, ?_⟩; go_big_quiet_on)))
    refine wpQuiet_nil ?_
    have l1 := cd_load HX'.out (Below.refl _ _)
    have HF := Lib.hid (And.intro HA'.out (And.intro HBo'.out HB'.out))
    have HL := Lib.hid l1
    clear HX' HA' HBo' HB' RX l1
    go_wp2_with fail
    refine bodyPost_ret (v := .tuple #[.agg #[.slice a2 m2 k2, .string ya], .slice a3 m3 k3]) ?_ rfl ⟨_, A, ya, _, B, rfl, ⟨hA, hya, by omega, hBb⟩, own_base HF.out.1 (by omega), own_base HF.out.2.1 (by omega), HF.out.2.2⟩
    rw [results_cell_slot (p := 2) (u := 3) (ty := 26) (by kernel_rfl)]
    have l1 := HL.out
    simp [asAddr, Result.andThen, l1]
  | true =>
    go_wp2_with fail
    refine wp_region_G (fun w' => w'.heap[b5]? = some (.cells #[.slice a2 m2 k2, .string ya] 26)) (by kernel_rfl) ?_
    replace RX := Lib.hid (show (World.drew _).heap[_]? = _ from RX.out)
    replace HO2 := Lib.hid (HO2.out.drew)
    replace HB2 := Lib.hid (HB2.out.drew)
    replace HX2 := Lib.hid (show (World.drew _).heap[_]? = _ from HX2.out)
    have HST' := Lib.hid (show DrawSt n₀ w4.drew g a len cap zs c4.i c4.h from (HST.out.grow hg1 (row := none) (w2 := w4.drew) ⟨rfl, rfl, rfl, Nat.le_refl _, fun _ _ _ => rfl⟩ (fun b e => by cases e)).st)
    have hz2' : w.heap.size + 1 ≤ w4.drew.heap.size := hz4
    clear HST hz4
    generalize (w4).drew = wD at *
    refine wpG_seg [true] [1] 2 (by kernel_rfl) (by intro c a d v w h; cases d <;> exact h) (by kernel_rfl) RX.out ?_
    try simp only [maskRows]
    repeat (first
      | go_big_quiet_skip
      | (go_big_quiet_want
         first
           | (go_big_quiet_op; go_big_quiet_on)
           | (refine q_load 26 _ _ _ rfl rfl LX ?_; simp only [Act.put, List.setIfInBounds_toArray, List.set_cons_zero, List.set_cons_succ]; go_big_quiet_on)
           | (go_big_quiet_op; refine ⟨_, fun _ _ => rfl, ?_⟩; go_big_quiet_on)
           | (go_big_quiet_op; refine ⟨_, fun _ _ _ => rfl, ?_⟩; go_big_quiet_on)))
    refine wpQuiet_nil ?_
    refine List.forall_mem_singleton.2 ?_
    refine segt_run rfl (by rfl) (fun K hK => ?_)
    go_simp
    refine (l05truth_any _).mono ?_
    rintro e w3 ⟨vb, B, rfl, hB, hBb, ho3, hbt⟩
    dsimp only
    obtain ⟨a3, m3, k3, rfl⟩ := own_shape ho3
    replace RX := Lib.hid ((hbt.block _ (Array.getElem?_eq_some_iff.1 RX.out).1).trans RX.out)
    replace HO2 := Lib.hid (own_below HO2.out hbt)
    have HB3 := Lib.hid (HB2.out.trans (hbt.mono HB2.out.size))
    replace HX2 := Lib.hid ((hbt.block _ (Array.getElem?_eq_some_iff.1 HX2.out).1).trans HX2.out)
    have HO3 := Lib.hid (own_base ho3 hz2')
    have hz3 : w.heap.size + 1 ≤ w3.heap.size := Nat.le_trans hz2' hbt.size
    clear ho3 hbt HST' hz2'
    refine hK _ _ ⟨_, fun _ h => h, RX.out, ?_⟩
    clear hK K
    try simp only [Act.put, List.setIfInBounds_toArray, List.set_cons_zero, List.set_cons_succ]
    refine wpG_seg [] [2] 1 (by kernel_rfl) (by intro c a d v w h; cases d <;> exact h) (by kernel_rfl) RX.out ?_
    try simp only [maskRows]
    refine wpQuiet_nil ?_
    refine List.forall_mem_singleton.2 ?_
    obtain ⟨c0, c1, f0, f1⟩ := row2_of HX2.out
    have hlt := (Array.getElem?_eq_some_iff.1 HX2.out).1
    have RX' := Lib.hid (row_set2 RX.out (show b5 ≠ w.heap.size by omega) (.slice a2 m2 k2) (.string ya))
    have HX' := Lib.hid (set2 (.slice a2 m2 k2) (.string ya) HX2.out)
    have HB' := Lib.hid (below2 HB3.out (Nat.le_refl w.heap.size) (.slice a2 m2 k2) (.string ya))
    have HA' := Lib.hid (HO2.out.kept (grown2 w3 w.heap.size (.slice a2 m2 k2) (.string ya)) (.inr fun e => by have := (HO2.out.lt _ e).1; omega))
    have HBo' := Lib.hid (HO3.out.kept (grown2 w3 w.heap.size (.slice a2 m2 k2) (.string ya)) (.inr fun e => by have := (HO3.out.lt _ e).1; omega))
    refine segt_run rfl (by rfl) (fun K hK => ?_)
    go_simp
    replace RX := RX'
    clear HX2 HB3 HO2 HO3 c0 c1 f0 f1 hlt RX' hz3
    generalize (World.setCell (World.setCell w3 ⟨w.heap.size, 0, none⟩ (.slice a2 m2 k2)) ⟨w.heap.size, 1, none⟩ (.string ya)) = W6 at *
    refine hK _ _ ⟨_, fun _ h => h, RX.out, ?_⟩
    clear hK K
    try simp only [Act.put, List.setIfInBounds_toArray, List.set_cons_zero, List.set_cons_succ]
    refine wpG_end [false, false, false, true] (by kernel_rfl) (by intro c a d v w h; cases d <;> exact h) (by kernel_rfl) RX.out ?_
    try simp only [maskRows]
    repeat (first
      | go_big_quiet_skip
      | (go_big_quiet_want
         first
           | (go_big_quiet_op; go_big_quiet_on)
           | (refine q_load 26 _ _ _ rfl rfl LX ?_; simp only [Act.put, List.setIfInBounds_toArray, List.set_cons_zero, List.set_cons_succ]; go_big_quiet_on)
           | (go_big_quiet_op; refine ⟨_, fun _ _ => rfl, ?_⟩; go_big_quiet_on)
           | (go_big_quiet_op; refine ⟨_, fun _ _ _ => rfl, ?_⟩; go_big_quiet_on)))
    refine wpQuiet_nil ?_
    have l1 := cd_load HX'.out (Below.refl _ _)
    have HF := Lib.hid (And.intro HA'.out (And.intro HBo'.out HB'.out))
    have HL := Lib.hid l1
    clear HX' HA' HBo' HB' RX l1
    go_wp2_with fail
    refine bodyPost_ret (v := .tuple #[.agg #[.slice a2 m2 k2, .string ya], .slice a3 m3 k3]) ?_ rfl ⟨_, A, ya, _, B, rfl, ⟨hA, hya, by omega, hBb⟩, own_base HF.out.1 (by omega), own_base HF.out.2.1 (by omega), HF.out.2.2⟩
    rw [results_cell_slot (p := 2) (u := 3) (ty := 26) (by kernel_rfl)]
    have l1 := HL.out
    simp [asAddr, Result.andThen, l1]
end Go.Proofs.Ytnknfmjpkphbpaa
/- What holds does so put together: the law on drawn words and readings, walked. -/
namespace Go.Proofs.Ytnknfmjpkphbpaa
open Go.ChangeShapes Go.WideShapes Go.ChangeAt Go.RowKit Go.BigFrame
set_option linter.unusedVariables false

theorem run_field_keys (v : Value) (y : ByteArray) (w : World) : (Instr.field 26 (.agg #[v, .string y]) 0).run Try.prog w = .ok v w := by
  have ha : ∀ w, (isAgg 24).run Try.prog w = .ok false w := agg_keys
  simp only [Instr.field, underlying, part, asAgg, Sem.run_bind, ha, Try.underlying26, Result.andThen_ok]
  simp [part, Sem.run_bind, ha]

set_option maxRecDepth 100000 in
set_option maxHeartbeats 4000000 in
theorem fnholds_walk (a0 : Option Addr) (len0 cap0 : Nat) (z0 : List Int) (w : World) (w0 : IsRow .u8 w a0 len0 cap0 z0) :
    Calls Try.prog 4 #[.slice a0 len0 cap0] w fun e w' => e = .returned (.bool true) ∧ Below w.heap.size w w' := by
  by_cases hbig : len0 ≤ 1048576
  · have hcode := codeAt_of w0 hbig
    clear w0
    have HC := Lib.hid hcode
    clear hcode
    go_enter Try.func4, Try.ntmps4
    go_wp2_with fail
    refine (big_any _ _ _ _ hbig).mono ?_
    rintro e w1 ⟨rfl, rfl⟩
    go_wp2_with fail
    refine (drawholds_any w1.heap.size len0 cap0 a0 z0 w1 HC.out (Nat.le_refl _)).mono ?_
    rintro e w2 ⟨va, ks, y, vt, T, rfl, ⟨hl7, hy5, hT10, hzT⟩, hoa, hot, hb⟩
    obtain ⟨saa, sna, ska, rfl⟩ := own_shape hoa
    obtain ⟨sat, snt, skt, rfl⟩ := own_shape hot
    have HB := Lib.hid hb
    have Oa := Lib.hid hoa
    have Ot := Lib.hid hot
    have DC := Lib.hid (fun w' (hb : Below w1.heap.size w1 w') => drawcombine_any w1.heap.size len0 cap0 a0 z0 w' (HC.out.below hb) hb.size)
    clear HC hoa hot hb
    have HZT := Lib.hid (show ∀ r ∈ T, r.2.size ≤ 2000000 from fun r hr => by have := hzT r hr; omega)
    clear hzT
    have IH := Lib.hid (fun w' va vb (ks : List K2) (y : ByteArray) bo (ha : keysAt w' va ks) (hb : rdAt w' vb T) (hl : ks.length ≤ 7) (e : holdsM (ks, y) T = bo) => (show Calls Try.prog 21 #[.agg #[va, .string y], vb] w' fun e w'' => e = .returned (.bool bo) ∧ Below w'.heap.size w' w'' from e ▸ iholds_any va ks y vb T w' ha hb (by omega) (by omega) HZT.out))
    have SH := Lib.hid (fun w' va vb (ha : keysAt w' va ks) (hb : rdAt w' vb T) => sholds_any va ks y vb T w' ha hb (by omega) (by omega))
    have SO := Lib.hid (fun w' v' (h : keysAt w' v' ks) => scodeok_any v' ks y w' h (by omega))
    have ST := Lib.hid (fun w' v' (h : rdAt w' v' T) => sreadingsok_any v' T w' h (by omega))
    have IR := Lib.hid (fun w' va vb (ha : keysAt w' va ks) (hb : rdAt w' vb T) => ireduced_any va ks y vb T w' ha hb (by omega) (by omega) (by omega))
    have hbl : holdsM ([], z4) T = true := holds_blank T
    have hrh : codeOkB (ks, y) = true → rdsOkR T = true → holdsM (ks, y) T = true → (redM (ks, y) T).1 = [] := fun h1 h2 h3 => red_holds h1 h2 h3
    have hsh : rdsOkR T = true → ∀ r ∈ T, holdsM (singM r) T = true := fun h r hr => sing_holds h r hr
    have hcb : ∀ (B : List K2) (yb : ByteArray) (M : List K2) (Y : ByteArray), combM (ks, y) (B, yb) = ((M, Y), true) → holdsM (ks, y) T = true → holdsM (B, yb) T = true → holdsM (M, Y) T = true := fun B yb M Y h h1 h2 => holds_comb h h1 h2
    generalize hb1q : holdsM (ks, y) T = b1 at *
    generalize codeOkB (ks, y) = p1 at *
    generalize rdsOkR T = p2 at *
    generalize (redM (ks, y) T).1 = M9 at *
    generalize (redM (ks, y) T).2 = Y9 at *
    have HRH := Lib.hid hrh
    have HSH := Lib.hid hsh
    have HCB := Lib.hid hcb
    have HBL := Lib.hid hbl
    have HB1 := Lib.hid hb1q
    clear hrh hsh hcb hbl hb1q
    have e11 : (b1 != b1) = false := by simp
    replace HB := Lib.hid (HB.out.alloc HB.out.size (.cells #[.slice saa sna ska, .string y] 26))
    replace Oa := Lib.hid (Oa.out.alloc (.cells #[.slice saa sna ska, .string y] 26))
    replace Ot := Lib.hid (Ot.out.alloc (.cells #[.slice saa sna ska, .string y] 26))
    have RA := Lib.hid (heap_alloc_new (w2) (.cells #[.slice saa sna ska, .string y] 26))
    obtain ⟨Ac0, Ac1, -, -⟩ := row2_of RA.out
    go_wp2_with fail
    generalize World.alloc (w2) (.cells #[.slice saa sna ska, .string y] 26) = w1_ at *
    generalize (w2).heap.size = bA at *
    refine (IH.out _ _ _ ks y _ (keysAt_own Oa.out) (rdAt_own Ot.out) hl7 HB1.out).mono ?_
    rintro e w2_ ⟨rfl, hb⟩
    replace HB := Lib.hid (HB.out.trans (hb.mono HB.out.size))
    replace Oa := Lib.hid (own_below Oa.out hb)
    replace Ot := Lib.hid (own_below Ot.out hb)
    replace RA := Lib.hid ((hb.block _ (Array.getElem?_eq_some_iff.1 RA.out).1).trans RA.out)
    clear hb
    clear Ac0 Ac1
    obtain ⟨Ac0, Ac1, -, -⟩ := row2_of RA.out
    go_wp2_with fail
    refine (SH.out _ _ _ (keysAt_own Oa.out) (rdAt_own Ot.out)).mono ?_
    rintro e w3_ ⟨rfl, hb⟩
    replace HB := Lib.hid (HB.out.trans (hb.mono HB.out.size))
    replace Oa := Lib.hid (own_below Oa.out hb)
    replace Ot := Lib.hid (own_below Ot.out hb)
    replace RA := Lib.hid ((hb.block _ (Array.getElem?_eq_some_iff.1 RA.out).1).trans RA.out)
    clear hb
    clear Ac0 Ac1
    obtain ⟨Ac0, Ac1, -, -⟩ := row2_of RA.out
    go_wp2_with fail
    refine (iblank_any _ _ _).mono ?_
    rintro e w4_ ⟨rfl, hb⟩
    replace HB := Lib.hid (HB.out.trans (hb.mono HB.out.size))
    replace Oa := Lib.hid (own_below Oa.out hb)
    replace Ot := Lib.hid (own_below Ot.out hb)
    replace RA := Lib.hid ((hb.block _ (Array.getElem?_eq_some_iff.1 RA.out).1).trans RA.out)
    clear hb
    clear Ac0 Ac1
    go_wp2_with fail
    refine (IH.out _ _ _ [] z4 _ (keysAt_nil _) (rdAt_own Ot.out) (by simp) HBL.out).mono ?_
    rintro e w5_ ⟨rfl, hb⟩
    replace HB := Lib.hid (HB.out.trans (hb.mono HB.out.size))
    replace Oa := Lib.hid (own_below Oa.out hb)
    replace Ot := Lib.hid (own_below Ot.out hb)
    replace RA := Lib.hid ((hb.block _ (Array.getElem?_eq_some_iff.1 RA.out).1).trans RA.out)
    clear hb
    go_wp2_with fail
    refine (DC.out _ HB.out).mono ?_
    rintro e w6_ ⟨vb, B, yb, vc, D, yd, rfl, ⟨hB7, hD7, hyb, hyd⟩, ho, ho2, hb⟩
    obtain ⟨sab, snb, skb, rfl⟩ := own_shape ho
    obtain ⟨sac, snc, skc, rfl⟩ := own_shape ho2
    have Ob := Lib.hid (own_base ho HB.out.size)
    have Oc := Lib.hid (own_base ho2 HB.out.size)
    clear ho ho2
    replace HB := Lib.hid (HB.out.trans (hb.mono HB.out.size))
    replace Oa := Lib.hid (own_below Oa.out hb)
    replace Ot := Lib.hid (own_below Ot.out hb)
    replace RA := Lib.hid ((hb.block _ (Array.getElem?_eq_some_iff.1 RA.out).1).trans RA.out)
    clear hb
    replace HB := Lib.hid (HB.out.alloc HB.out.size (.cells #[.slice sab snb skb, .string yb] 26))
    replace Oa := Lib.hid (Oa.out.alloc (.cells #[.slice sab snb skb, .string yb] 26))
    replace Ot := Lib.hid (Ot.out.alloc (.cells #[.slice sab snb skb, .string yb] 26))
    replace RA := Lib.hid ((Below.heap_alloc _ (.cells #[.slice sab snb skb, .string yb] 26) _ (Array.getElem?_eq_some_iff.1 RA.out).1).trans RA.out)
    replace Ob := Lib.hid (Ob.out.alloc (.cells #[.slice sab snb skb, .string yb] 26))
    replace Oc := Lib.hid (Oc.out.alloc (.cells #[.slice sab snb skb, .string yb] 26))
    have RB := Lib.hid (heap_alloc_new (w6_) (.cells #[.slice sab snb skb, .string yb] 26))
    replace HB := Lib.hid (HB.out.alloc HB.out.size (.cells #[.slice sac snc skc, .string yd] 26))
    replace Oa := Lib.hid (Oa.out.alloc (.cells #[.slice sac snc skc, .string yd] 26))
    replace Ot := Lib.hid (Ot.out.alloc (.cells #[.slice sac snc skc, .string yd] 26))
    replace RA := Lib.hid ((Below.heap_alloc _ (.cells #[.slice sac snc skc, .string yd] 26) _ (Array.getElem?_eq_some_iff.1 RA.out).1).trans RA.out)
    replace Ob := Lib.hid (Ob.out.alloc (.cells #[.slice sac snc skc, .string yd] 26))
    replace Oc := Lib.hid (Oc.out.alloc (.cells #[.slice sac snc skc, .string yd] 26))
    replace RB := Lib.hid ((Below.heap_alloc _ (.cells #[.slice sac snc skc, .string yd] 26) _ (Array.getElem?_eq_some_iff.1 RB.out).1).trans RB.out)
    have rb := heap_alloc_new (World.alloc (w6_) (.cells #[.slice sab snb skb, .string yb] 26)) (.cells #[.slice sac snc skc, .string yd] 26)
    rw [show (World.alloc (w6_) (.cells #[.slice sab snb skb, .string yb] 26)).heap.size = (w6_).heap.size + 1 by simp] at rb
    have RC := Lib.hid rb
    clear rb
    obtain ⟨Ac0, Ac1, -, -⟩ := row2_of RA.out
    obtain ⟨Bc0, Bc1, -, -⟩ := row2_of RB.out
    go_wp2_with fail
    generalize (World.alloc (World.alloc (w6_) (.cells #[.slice sab snb skb, .string yb] 26)) (.cells #[.slice sac snc skc, .string yd] 26)) = w7_ at *
    generalize (w6_).heap.size = bB at *
    clear Ac0 Ac1 Bc0 Bc1
    clear Oc RC
    have ICx := Lib.hid (icombine_any iparted_any _ ks y _ B yb _ (keysAt_own Oa.out) (keysAt_own Ob.out) (by omega) (by omega))
    have hl6 := comb_len (ks, y) (B, yb)
    generalize hcm : combM (ks, y) (B, yb) = cm at *
    obtain ⟨⟨M, Y⟩, C⟩ := cm
    dsimp only at ICx hl6
    have HCM := Lib.hid hcm
    clear hcm
    refine ICx.out.mono ?_
    rintro e w8_ ⟨vx, rfl, ho, hb⟩
    obtain ⟨sax, snx, skx, rfl⟩ := own_shape ho
    have Ox := Lib.hid (own_base ho HB.out.size)
    clear ho ICx
    replace HB := Lib.hid (HB.out.trans (hb.mono HB.out.size))
    replace Oa := Lib.hid (own_below Oa.out hb)
    replace Ot := Lib.hid (own_below Ot.out hb)
    replace RA := Lib.hid ((hb.block _ (Array.getElem?_eq_some_iff.1 RA.out).1).trans RA.out)
    replace Ob := Lib.hid (own_below Ob.out hb)
    replace RB := Lib.hid ((hb.block _ (Array.getElem?_eq_some_iff.1 RB.out).1).trans RB.out)
    clear hb
    replace HB := Lib.hid (HB.out.alloc HB.out.size (.cells #[.slice sax snx skx, .string Y] 26))
    replace Oa := Lib.hid (Oa.out.alloc (.cells #[.slice sax snx skx, .string Y] 26))
    replace Ot := Lib.hid (Ot.out.alloc (.cells #[.slice sax snx skx, .string Y] 26))
    replace RA := Lib.hid ((Below.heap_alloc _ (.cells #[.slice sax snx skx, .string Y] 26) _ (Array.getElem?_eq_some_iff.1 RA.out).1).trans RA.out)
    replace Ob := Lib.hid (Ob.out.alloc (.cells #[.slice sax snx skx, .string Y] 26))
    replace RB := Lib.hid ((Below.heap_alloc _ (.cells #[.slice sax snx skx, .string Y] 26) _ (Array.getElem?_eq_some_iff.1 RB.out).1).trans RB.out)
    replace Ox := Lib.hid (Ox.out.alloc (.cells #[.slice sax snx skx, .string Y] 26))
    have RX := Lib.hid (heap_alloc_new (w8_) (.cells #[.slice sax snx skx, .string Y] 26))
    cases C with
    | false =>
      obtain rfl : snt = T.length := by obtain ⟨_, _, e, _⟩ := rdAt_own Ot.out; cases e; rfl
      go_wp2
      generalize World.alloc (w8_) (.cells #[.slice sax snx skx, .string Y] 26) = w9_ at *
      generalize (w8_).heap.size = bX at *
      go_loopw [10] (fun i wr => ∃ k : Nat, k ≤ T.length ∧ i = .int .i64 k ∧ Below w9_.heap.size w9_ wr) (fun i _ => T.length - (intOf i).toNat)
      case atStart => exact ⟨0, Nat.zero_le _, rfl, Below.refl _ _⟩
      case round =>
        obtain ⟨k, hk, rfl, hb⟩ := hrel
        rename_i wr
        replace HB := Lib.hid (HB.out.trans (hb.mono HB.out.size))
        replace Oa := Lib.hid (own_below Oa.out hb)
        replace Ot := Lib.hid (own_below Ot.out hb)
        replace RA := Lib.hid ((hb.block _ (Array.getElem?_eq_some_iff.1 RA.out).1).trans RA.out)
        replace Ob := Lib.hid (own_below Ob.out hb)
        replace RB := Lib.hid ((hb.block _ (Array.getElem?_eq_some_iff.1 RB.out).1).trans RB.out)
        replace Ox := Lib.hid (own_below Ox.out hb)
        replace RX := Lib.hid ((hb.block _ (Array.getElem?_eq_some_iff.1 RX.out).1).trans RX.out)
        have HLB := Lib.hid hb
        clear hb
        by_cases hlt : k < T.length
        · have z0 : (0 : Int) ≤ (k : Int) := by omega
          have z1 : (k : Int) < (T.length : Int) := by omega
          go_wp2_with fail
          refine (ST.out _ _ (rdAt_own Ot.out)).mono ?_
          rintro e w10_ ⟨rfl, hb⟩
          replace HB := Lib.hid (HB.out.trans (hb.mono HB.out.size))
          replace Oa := Lib.hid (own_below Oa.out hb)
          replace Ot := Lib.hid (own_below Ot.out hb)
          replace RA := Lib.hid ((hb.block _ (Array.getElem?_eq_some_iff.1 RA.out).1).trans RA.out)
          replace Ob := Lib.hid (own_below Ob.out hb)
          replace RB := Lib.hid ((hb.block _ (Array.getElem?_eq_some_iff.1 RB.out).1).trans RB.out)
          replace Ox := Lib.hid (own_below Ox.out hb)
          replace RX := Lib.hid ((hb.block _ (Array.getElem?_eq_some_iff.1 RX.out).1).trans RX.out)
          replace HLB := Lib.hid (HLB.out.trans (hb.mono HLB.out.size))
          clear hb
          cases p2 with
          | false =>
            go_wp2
            exact ⟨⟨k + 1, by omega, by go_num, HLB.out⟩, by simp [intOf]; omega⟩
          | true =>
            obtain ⟨xa2, xc2, hva2, -, hcs2⟩ := rdAt_own Ot.out
            cases hva2
            obtain ⟨gx, ox, rfl, -, hcw⟩ := hcs2.resolve_left (by omega)
            have c1 := hcw k hlt
            have hmem : T.getD k r0 ∈ T := by simp [List.getD, hlt]
            have hsing := HSH.out (by simp) _ hmem
            clear hcw hcs2 hmem
            generalize T.getD k r0 = kr at *
            have ISx := Lib.hid (fun w => isingle_any kr w)
            have hsl : (singM kr).1.length ≤ 1 := by unfold singM; split <;> simp [blankC]
            have HSG := Lib.hid (show holdsM ((singM kr).1, (singM kr).2) T = true from hsing)
            clear hsing
            generalize (singM kr).1 = M1 at *
            generalize (singM kr).2 = Y1 at *
            obtain ⟨⟨p, q⟩, yr⟩ := kr
            unfold rv at ISx
            dsimp only at ISx c1
            obtain ⟨k0, k1, k2⟩ := c1
            have hgw : gx < w10_.heap.size := World.block_lt_of_cell? w10_ ⟨gx, ox + k * 3, none⟩ k0
            go_wp2_with fail
            refine (ISx.out _).mono ?_
            rintro e w11_ ⟨vo, rfl, ho, hb⟩
            obtain ⟨sao, sno, sko, rfl⟩ := own_shape ho
            have Oo := Lib.hid (own_base ho HB.out.size)
            clear ho ISx k0 k1 k2
            replace HB := Lib.hid (HB.out.trans (hb.mono HB.out.size))
            replace Oa := Lib.hid (own_below Oa.out hb)
            replace Ot := Lib.hid (own_below Ot.out hb)
            replace RA := Lib.hid ((hb.block _ (Array.getElem?_eq_some_iff.1 RA.out).1).trans RA.out)
            replace Ob := Lib.hid (own_below Ob.out hb)
            replace RB := Lib.hid ((hb.block _ (Array.getElem?_eq_some_iff.1 RB.out).1).trans RB.out)
            replace Ox := Lib.hid (own_below Ox.out hb)
            replace RX := Lib.hid ((hb.block _ (Array.getElem?_eq_some_iff.1 RX.out).1).trans RX.out)
            replace HLB := Lib.hid (HLB.out.trans (hb.mono HLB.out.size))
            clear hb hgw
            go_wp2_with fail
            refine (IH.out _ _ _ M1 Y1 _ (keysAt_own Oo.out) (rdAt_own Ot.out) (by omega) HSG.out).mono ?_
            rintro e w12_ ⟨rfl, hb⟩
            replace HB := Lib.hid (HB.out.trans (hb.mono HB.out.size))
            replace Oa := Lib.hid (own_below Oa.out hb)
            replace Ot := Lib.hid (own_below Ot.out hb)
            replace RA := Lib.hid ((hb.block _ (Array.getElem?_eq_some_iff.1 RA.out).1).trans RA.out)
            replace Ob := Lib.hid (own_below Ob.out hb)
            replace RB := Lib.hid ((hb.block _ (Array.getElem?_eq_some_iff.1 RB.out).1).trans RB.out)
            replace Ox := Lib.hid (own_below Ox.out hb)
            replace RX := Lib.hid ((hb.block _ (Array.getElem?_eq_some_iff.1 RX.out).1).trans RX.out)
            replace HLB := Lib.hid (HLB.out.trans (hb.mono HLB.out.size))
            replace Oo := Lib.hid (own_below Oo.out hb)
            clear hb
            go_wp2
            exact ⟨⟨k + 1, by omega, by go_num, HLB.out⟩, by simp [intOf]; omega⟩
        · obtain rfl : k = T.length := by omega
          clear hlt hk
          cases b1 with
          | false =>
            go_wp2
            go_ret
            exact ⟨rfl, HB.out⟩
          | true =>
            go_wp2_with fail
            refine (ST.out _ _ (rdAt_own Ot.out)).mono ?_
            rintro e w10_ ⟨rfl, hb⟩
            replace HB := Lib.hid (HB.out.trans (hb.mono HB.out.size))
            replace Oa := Lib.hid (own_below Oa.out hb)
            replace Ot := Lib.hid (own_below Ot.out hb)
            replace RA := Lib.hid ((hb.block _ (Array.getElem?_eq_some_iff.1 RA.out).1).trans RA.out)
            replace Ob := Lib.hid (own_below Ob.out hb)
            replace RB := Lib.hid ((hb.block _ (Array.getElem?_eq_some_iff.1 RB.out).1).trans RB.out)
            replace Ox := Lib.hid (own_below Ox.out hb)
            replace RX := Lib.hid ((hb.block _ (Array.getElem?_eq_some_iff.1 RX.out).1).trans RX.out)
            replace HLB := Lib.hid (HLB.out.trans (hb.mono HLB.out.size))
            clear hb
            cases p2 with
            | false =>
              go_wp2
              go_ret
              exact ⟨rfl, HB.out⟩
            | true =>
              obtain ⟨Ac0, Ac1, -, -⟩ := row2_of RA.out
              go_wp2_with fail
              refine (SO.out _ _ (keysAt_own Oa.out)).mono ?_
              rintro e w11_ ⟨rfl, hb⟩
              replace HB := Lib.hid (HB.out.trans (hb.mono HB.out.size))
              replace Oa := Lib.hid (own_below Oa.out hb)
              replace Ot := Lib.hid (own_below Ot.out hb)
              replace RA := Lib.hid ((hb.block _ (Array.getElem?_eq_some_iff.1 RA.out).1).trans RA.out)
              replace Ob := Lib.hid (own_below Ob.out hb)
              replace RB := Lib.hid ((hb.block _ (Array.getElem?_eq_some_iff.1 RB.out).1).trans RB.out)
              replace Ox := Lib.hid (own_below Ox.out hb)
              replace RX := Lib.hid ((hb.block _ (Array.getElem?_eq_some_iff.1 RX.out).1).trans RX.out)
              replace HLB := Lib.hid (HLB.out.trans (hb.mono HLB.out.size))
              clear hb
              clear Ac0 Ac1
              cases p1 with
              | false =>
                go_wp2
                go_ret
                exact ⟨rfl, HB.out⟩
              | true =>
                have hM9 := HRH.out (by simp) (by simp) (by simp)
                subst hM9
                obtain ⟨Ac0, Ac1, -, -⟩ := row2_of RA.out
                go_wp2_with fail
                refine (IR.out _ _ _ (keysAt_own Oa.out) (rdAt_own Ot.out)).mono ?_
                rintro e w12_ ⟨vr, rfl, ho, hb⟩
                obtain ⟨sar, snr, skr, rfl⟩ := own_shape ho
                have Or := Lib.hid (own_base ho HB.out.size)
                clear ho
                replace HB := Lib.hid (HB.out.trans (hb.mono HB.out.size))
                replace Oa := Lib.hid (own_below Oa.out hb)
                replace Ot := Lib.hid (own_below Ot.out hb)
                replace RA := Lib.hid ((hb.block _ (Array.getElem?_eq_some_iff.1 RA.out).1).trans RA.out)
                replace Ob := Lib.hid (own_below Ob.out hb)
                replace RB := Lib.hid ((hb.block _ (Array.getElem?_eq_some_iff.1 RB.out).1).trans RB.out)
                replace Ox := Lib.hid (own_below Ox.out hb)
                replace RX := Lib.hid ((hb.block _ (Array.getElem?_eq_some_iff.1 RX.out).1).trans RX.out)
                replace HLB := Lib.hid (HLB.out.trans (hb.mono HLB.out.size))
                clear hb
                clear Ac0 Ac1
                obtain rfl : snr = 0 := by obtain ⟨_, _, e, _⟩ := keysAt_own (ks := []) Or.out; cases e; rfl
                go_wp2
                rw [run_field_keys]
                go_wp2
                go_ret
                exact ⟨rfl, HB.out⟩
    | true =>
      cases b1 with
      | false =>
        obtain rfl : snt = T.length := by obtain ⟨_, _, e, _⟩ := rdAt_own Ot.out; cases e; rfl
        go_wp2
        generalize World.alloc (w8_) (.cells #[.slice sax snx skx, .string Y] 26) = w9_ at *
        generalize (w8_).heap.size = bX at *
        go_loopw [10] (fun i wr => ∃ k : Nat, k ≤ T.length ∧ i = .int .i64 k ∧ Below w9_.heap.size w9_ wr) (fun i _ => T.length - (intOf i).toNat)
        case atStart => exact ⟨0, Nat.zero_le _, rfl, Below.refl _ _⟩
        case round =>
          obtain ⟨k, hk, rfl, hb⟩ := hrel
          rename_i wr
          replace HB := Lib.hid (HB.out.trans (hb.mono HB.out.size))
          replace Oa := Lib.hid (own_below Oa.out hb)
          replace Ot := Lib.hid (own_below Ot.out hb)
          replace RA := Lib.hid ((hb.block _ (Array.getElem?_eq_some_iff.1 RA.out).1).trans RA.out)
          replace Ob := Lib.hid (own_below Ob.out hb)
          replace RB := Lib.hid ((hb.block _ (Array.getElem?_eq_some_iff.1 RB.out).1).trans RB.out)
          replace Ox := Lib.hid (own_below Ox.out hb)
          replace RX := Lib.hid ((hb.block _ (Array.getElem?_eq_some_iff.1 RX.out).1).trans RX.out)
          have HLB := Lib.hid hb
          clear hb
          by_cases hlt : k < T.length
          · have z0 : (0 : Int) ≤ (k : Int) := by omega
            have z1 : (k : Int) < (T.length : Int) := by omega
            go_wp2_with fail
            refine (ST.out _ _ (rdAt_own Ot.out)).mono ?_
            rintro e w10_ ⟨rfl, hb⟩
            replace HB := Lib.hid (HB.out.trans (hb.mono HB.out.size))
            replace Oa := Lib.hid (own_below Oa.out hb)
            replace Ot := Lib.hid (own_below Ot.out hb)
            replace RA := Lib.hid ((hb.block _ (Array.getElem?_eq_some_iff.1 RA.out).1).trans RA.out)
            replace Ob := Lib.hid (own_below Ob.out hb)
            replace RB := Lib.hid ((hb.block _ (Array.getElem?_eq_some_iff.1 RB.out).1).trans RB.out)
            replace Ox := Lib.hid (own_below Ox.out hb)
            replace RX := Lib.hid ((hb.block _ (Array.getElem?_eq_some_iff.1 RX.out).1).trans RX.out)
            replace HLB := Lib.hid (HLB.out.trans (hb.mono HLB.out.size))
            clear hb
            cases p2 with
            | false =>
              go_wp2
              exact ⟨⟨k + 1, by omega, by go_num, HLB.out⟩, by simp [intOf]; omega⟩
            | true =>
              obtain ⟨xa2, xc2, hva2, -, hcs2⟩ := rdAt_own Ot.out
              cases hva2
              obtain ⟨gx, ox, rfl, -, hcw⟩ := hcs2.resolve_left (by omega)
              have c1 := hcw k hlt
              have hmem : T.getD k r0 ∈ T := by simp [List.getD, hlt]
              have hsing := HSH.out (by simp) _ hmem
              clear hcw hcs2 hmem
              generalize T.getD k r0 = kr at *
              have ISx := Lib.hid (fun w => isingle_any kr w)
              have hsl : (singM kr).1.length ≤ 1 := by unfold singM; split <;> simp [blankC]
              have HSG := Lib.hid (show holdsM ((singM kr).1, (singM kr).2) T = true from hsing)
              clear hsing
              generalize (singM kr).1 = M1 at *
              generalize (singM kr).2 = Y1 at *
              obtain ⟨⟨p, q⟩, yr⟩ := kr
              unfold rv at ISx
              dsimp only at ISx c1
              obtain ⟨k0, k1, k2⟩ := c1
              have hgw : gx < w10_.heap.size := World.block_lt_of_cell? w10_ ⟨gx, ox + k * 3, none⟩ k0
              go_wp2_with fail
              refine (ISx.out _).mono ?_
              rintro e w11_ ⟨vo, rfl, ho, hb⟩
              obtain ⟨sao, sno, sko, rfl⟩ := own_shape ho
              have Oo := Lib.hid (own_base ho HB.out.size)
              clear ho ISx k0 k1 k2
              replace HB := Lib.hid (HB.out.trans (hb.mono HB.out.size))
              replace Oa := Lib.hid (own_below Oa.out hb)
              replace Ot := Lib.hid (own_below Ot.out hb)
              replace RA := Lib.hid ((hb.block _ (Array.getElem?_eq_some_iff.1 RA.out).1).trans RA.out)
              replace Ob := Lib.hid (own_below Ob.out hb)
              replace RB := Lib.hid ((hb.block _ (Array.getElem?_eq_some_iff.1 RB.out).1).trans RB.out)
              replace Ox := Lib.hid (own_below Ox.out hb)
              replace RX := Lib.hid ((hb.block _ (Array.getElem?_eq_some_iff.1 RX.out).1).trans RX.out)
              replace HLB := Lib.hid (HLB.out.trans (hb.mono HLB.out.size))
              clear hb hgw
              go_wp2_with fail
              refine (IH.out _ _ _ M1 Y1 _ (keysAt_own Oo.out) (rdAt_own Ot.out) (by omega) HSG.out).mono ?_
              rintro e w12_ ⟨rfl, hb⟩
              replace HB := Lib.hid (HB.out.trans (hb.mono HB.out.size))
              replace Oa := Lib.hid (own_below Oa.out hb)
              replace Ot := Lib.hid (own_below Ot.out hb)
              replace RA := Lib.hid ((hb.block _ (Array.getElem?_eq_some_iff.1 RA.out).1).trans RA.out)
              replace Ob := Lib.hid (own_below Ob.out hb)
              replace RB := Lib.hid ((hb.block _ (Array.getElem?_eq_some_iff.1 RB.out).1).trans RB.out)
              replace Ox := Lib.hid (own_below Ox.out hb)
              replace RX := Lib.hid ((hb.block _ (Array.getElem?_eq_some_iff.1 RX.out).1).trans RX.out)
              replace HLB := Lib.hid (HLB.out.trans (hb.mono HLB.out.size))
              replace Oo := Lib.hid (own_below Oo.out hb)
              clear hb
              go_wp2
              exact ⟨⟨k + 1, by omega, by go_num, HLB.out⟩, by simp [intOf]; omega⟩
          · obtain rfl : k = T.length := by omega
            clear hlt hk
            go_wp2
            go_ret
            exact ⟨rfl, HB.out⟩
      | true =>
        have hcb2 := HCB.out B yb M Y HCM.out (by simp)
        generalize hb2q : holdsM (B, yb) T = b2 at *
        have HB2 := Lib.hid hb2q
        have HC2 := Lib.hid hcb2
        clear hb2q hcb2
        obtain ⟨Bc0, Bc1, -, -⟩ := row2_of RB.out
        go_wp2_with fail
        generalize World.alloc (w8_) (.cells #[.slice sax snx skx, .string Y] 26) = w9_ at *
        generalize (w8_).heap.size = bX at *
        refine (IH.out _ _ _ B yb _ (keysAt_own Ob.out) (rdAt_own Ot.out) hB7 HB2.out).mono ?_
        rintro e w10_ ⟨rfl, hb⟩
        replace HB := Lib.hid (HB.out.trans (hb.mono HB.out.size))
        replace Oa := Lib.hid (own_below Oa.out hb)
        replace Ot := Lib.hid (own_below Ot.out hb)
        replace RA := Lib.hid ((hb.block _ (Array.getElem?_eq_some_iff.1 RA.out).1).trans RA.out)
        replace Ob := Lib.hid (own_below Ob.out hb)
        replace RB := Lib.hid ((hb.block _ (Array.getElem?_eq_some_iff.1 RB.out).1).trans RB.out)
        replace Ox := Lib.hid (own_below Ox.out hb)
        replace RX := Lib.hid ((hb.block _ (Array.getElem?_eq_some_iff.1 RX.out).1).trans RX.out)
        clear hb
        clear Bc0 Bc1
        cases b2 with
        | false =>
          obtain rfl : snt = T.length := by obtain ⟨_, _, e, _⟩ := rdAt_own Ot.out; cases e; rfl
          go_wp2
          go_loopw [10] (fun i wr => ∃ k : Nat, k ≤ T.length ∧ i = .int .i64 k ∧ Below w10_.heap.size w10_ wr) (fun i _ => T.length - (intOf i).toNat)
          case atStart => exact ⟨0, Nat.zero_le _, rfl, Below.refl _ _⟩
          case round =>
            obtain ⟨k, hk, rfl, hb⟩ := hrel
            rename_i wr
            replace HB := Lib.hid (HB.out.trans (hb.mono HB.out.size))
            replace Oa := Lib.hid (own_below Oa.out hb)
            replace Ot := Lib.hid (own_below Ot.out hb)
            replace RA := Lib.hid ((hb.block _ (Array.getElem?_eq_some_iff.1 RA.out).1).trans RA.out)
            replace Ob := Lib.hid (own_below Ob.out hb)
            replace RB := Lib.hid ((hb.block _ (Array.getElem?_eq_some_iff.1 RB.out).1).trans RB.out)
            replace Ox := Lib.hid (own_below Ox.out hb)
            replace RX := Lib.hid ((hb.block _ (Array.getElem?_eq_some_iff.1 RX.out).1).trans RX.out)
            have HLB := Lib.hid hb
            clear hb
            by_cases hlt : k < T.length
            · have z0 : (0 : Int) ≤ (k : Int) := by omega
              have z1 : (k : Int) < (T.length : Int) := by omega
              go_wp2_with fail
              refine (ST.out _ _ (rdAt_own Ot.out)).mono ?_
              rintro e w11_ ⟨rfl, hb⟩
              replace HB := Lib.hid (HB.out.trans (hb.mono HB.out.size))
              replace Oa := Lib.hid (own_below Oa.out hb)
              replace Ot := Lib.hid (own_below Ot.out hb)
              replace RA := Lib.hid ((hb.block _ (Array.getElem?_eq_some_iff.1 RA.out).1).trans RA.out)
              replace Ob := Lib.hid (own_below Ob.out hb)
              replace RB := Lib.hid ((hb.block _ (Array.getElem?_eq_some_iff.1 RB.out).1).trans RB.out)
              replace Ox := Lib.hid (own_below Ox.out hb)
              replace RX := Lib.hid ((hb.block _ (Array.getElem?_eq_some_iff.1 RX.out).1).trans RX.out)
              replace HLB := Lib.hid (HLB.out.trans (hb.mono HLB.out.size))
              clear hb
              cases p2 with
              | false =>
                go_wp2
                exact ⟨⟨k + 1, by omega, by go_num, HLB.out⟩, by simp [intOf]; omega⟩
              | true =>
                obtain ⟨xa2, xc2, hva2, -, hcs2⟩ := rdAt_own Ot.out
                cases hva2
                obtain ⟨gx, ox, rfl, -, hcw⟩ := hcs2.resolve_left (by omega)
                have c1 := hcw k hlt
                have hmem : T.getD k r0 ∈ T := by simp [List.getD, hlt]
                have hsing := HSH.out (by simp) _ hmem
                clear hcw hcs2 hmem
                generalize T.getD k r0 = kr at *
                have ISx := Lib.hid (fun w => isingle_any kr w)
                have hsl : (singM kr).1.length ≤ 1 := by unfold singM; split <;> simp [blankC]
                have HSG := Lib.hid (show holdsM ((singM kr).1, (singM kr).2) T = true from hsing)
                clear hsing
                generalize (singM kr).1 = M1 at *
                generalize (singM kr).2 = Y1 at *
                obtain ⟨⟨p, q⟩, yr⟩ := kr
                unfold rv at ISx
                dsimp only at ISx c1
                obtain ⟨k0, k1, k2⟩ := c1
                have hgw : gx < w11_.heap.size := World.block_lt_of_cell? w11_ ⟨gx, ox + k * 3, none⟩ k0
                go_wp2_with fail
                refine (ISx.out _).mono ?_
                rintro e w12_ ⟨vo, rfl, ho, hb⟩
                obtain ⟨sao, sno, sko, rfl⟩ := own_shape ho
                have Oo := Lib.hid (own_base ho HB.out.size)
                clear ho ISx k0 k1 k2
                replace HB := Lib.hid (HB.out.trans (hb.mono HB.out.size))
                replace Oa := Lib.hid (own_below Oa.out hb)
                replace Ot := Lib.hid (own_below Ot.out hb)
                replace RA := Lib.hid ((hb.block _ (Array.getElem?_eq_some_iff.1 RA.out).1).trans RA.out)
                replace Ob := Lib.hid (own_below Ob.out hb)
                replace RB := Lib.hid ((hb.block _ (Array.getElem?_eq_some_iff.1 RB.out).1).trans RB.out)
                replace Ox := Lib.hid (own_below Ox.out hb)
                replace RX := Lib.hid ((hb.block _ (Array.getElem?_eq_some_iff.1 RX.out).1).trans RX.out)
                replace HLB := Lib.hid (HLB.out.trans (hb.mono HLB.out.size))
                clear hb hgw
                go_wp2_with fail
                refine (IH.out _ _ _ M1 Y1 _ (keysAt_own Oo.out) (rdAt_own Ot.out) (by omega) HSG.out).mono ?_
                rintro e w13_ ⟨rfl, hb⟩
                replace HB := Lib.hid (HB.out.trans (hb.mono HB.out.size))
                replace Oa := Lib.hid (own_below Oa.out hb)
                replace Ot := Lib.hid (own_below Ot.out hb)
                replace RA := Lib.hid ((hb.block _ (Array.getElem?_eq_some_iff.1 RA.out).1).trans RA.out)
                replace Ob := Lib.hid (own_below Ob.out hb)
                replace RB := Lib.hid ((hb.block _ (Array.getElem?_eq_some_iff.1 RB.out).1).trans RB.out)
                replace Ox := Lib.hid (own_below Ox.out hb)
                replace RX := Lib.hid ((hb.block _ (Array.getElem?_eq_some_iff.1 RX.out).1).trans RX.out)
                replace HLB := Lib.hid (HLB.out.trans (hb.mono HLB.out.size))
                replace Oo := Lib.hid (own_below Oo.out hb)
                clear hb
                go_wp2
                exact ⟨⟨k + 1, by omega, by go_num, HLB.out⟩, by simp [intOf]; omega⟩
            · obtain rfl : k = T.length := by omega
              clear hlt hk
              go_wp2_with fail
              refine (ST.out _ _ (rdAt_own Ot.out)).mono ?_
              rintro e w11_ ⟨rfl, hb⟩
              replace HB := Lib.hid (HB.out.trans (hb.mono HB.out.size))
              replace Oa := Lib.hid (own_below Oa.out hb)
              replace Ot := Lib.hid (own_below Ot.out hb)
              replace RA := Lib.hid ((hb.block _ (Array.getElem?_eq_some_iff.1 RA.out).1).trans RA.out)
              replace Ob := Lib.hid (own_below Ob.out hb)
              replace RB := Lib.hid ((hb.block _ (Array.getElem?_eq_some_iff.1 RB.out).1).trans RB.out)
              replace Ox := Lib.hid (own_below Ox.out hb)
              replace RX := Lib.hid ((hb.block _ (Array.getElem?_eq_some_iff.1 RX.out).1).trans RX.out)
              replace HLB := Lib.hid (HLB.out.trans (hb.mono HLB.out.size))
              clear hb
              cases p2 with
              | false =>
                go_wp2
                go_ret
                exact ⟨rfl, HB.out⟩
              | true =>
                obtain ⟨Ac0, Ac1, -, -⟩ := row2_of RA.out
                go_wp2_with fail
                refine (SO.out _ _ (keysAt_own Oa.out)).mono ?_
                rintro e w12_ ⟨rfl, hb⟩
                replace HB := Lib.hid (HB.out.trans (hb.mono HB.out.size))
                replace Oa := Lib.hid (own_below Oa.out hb)
                replace Ot := Lib.hid (own_below Ot.out hb)
                replace RA := Lib.hid ((hb.block _ (Array.getElem?_eq_some_iff.1 RA.out).1).trans RA.out)
                replace Ob := Lib.hid (own_below Ob.out hb)
                replace RB := Lib.hid ((hb.block _ (Array.getElem?_eq_some_iff.1 RB.out).1).trans RB.out)
                replace Ox := Lib.hid (own_below Ox.out hb)
                replace RX := Lib.hid ((hb.block _ (Array.getElem?_eq_some_iff.1 RX.out).1).trans RX.out)
                replace HLB := Lib.hid (HLB.out.trans (hb.mono HLB.out.size))
                clear hb
                clear Ac0 Ac1
                cases p1 with
                | false =>
                  go_wp2
                  go_ret
                  exact ⟨rfl, HB.out⟩
                | true =>
                  have hM9 := HRH.out (by simp) (by simp) (by simp)
                  subst hM9
                  obtain ⟨Ac0, Ac1, -, -⟩ := row2_of RA.out
                  go_wp2_with fail
                  refine (IR.out _ _ _ (keysAt_own Oa.out) (rdAt_own Ot.out)).mono ?_
                  rintro e w13_ ⟨vr, rfl, ho, hb⟩
                  obtain ⟨sar, snr, skr, rfl⟩ := own_shape ho
                  have Or := Lib.hid (own_base ho HB.out.size)
                  clear ho
                  replace HB := Lib.hid (HB.out.trans (hb.mono HB.out.size))
                  replace Oa := Lib.hid (own_below Oa.out hb)
                  replace Ot := Lib.hid (own_below Ot.out hb)
                  replace RA := Lib.hid ((hb.block _ (Array.getElem?_eq_some_iff.1 RA.out).1).trans RA.out)
                  replace Ob := Lib.hid (own_below Ob.out hb)
                  replace RB := Lib.hid ((hb.block _ (Array.getElem?_eq_some_iff.1 RB.out).1).trans RB.out)
                  replace Ox := Lib.hid (own_below Ox.out hb)
                  replace RX := Lib.hid ((hb.block _ (Array.getElem?_eq_some_iff.1 RX.out).1).trans RX.out)
                  replace HLB := Lib.hid (HLB.out.trans (hb.mono HLB.out.size))
                  clear hb
                  clear Ac0 Ac1
                  obtain rfl : snr = 0 := by obtain ⟨_, _, e, _⟩ := keysAt_own (ks := []) Or.out; cases e; rfl
                  go_wp2
                  rw [run_field_keys]
                  go_wp2
                  go_ret
                  exact ⟨rfl, HB.out⟩
        | true =>
          obtain ⟨Xc0, Xc1, -, -⟩ := row2_of RX.out
          go_wp2_with fail
          refine (IH.out _ _ _ M Y _ (keysAt_own Ox.out) (rdAt_own Ot.out) (by omega) (HC2.out (by simp))).mono ?_
          rintro e w11_ ⟨rfl, hb⟩
          replace HB := Lib.hid (HB.out.trans (hb.mono HB.out.size))
          replace Oa := Lib.hid (own_below Oa.out hb)
          replace Ot := Lib.hid (own_below Ot.out hb)
          replace RA := Lib.hid ((hb.block _ (Array.getElem?_eq_some_iff.1 RA.out).1).trans RA.out)
          replace Ob := Lib.hid (own_below Ob.out hb)
          replace RB := Lib.hid ((hb.block _ (Array.getElem?_eq_some_iff.1 RB.out).1).trans RB.out)
          replace Ox := Lib.hid (own_below Ox.out hb)
          replace RX := Lib.hid ((hb.block _ (Array.getElem?_eq_some_iff.1 RX.out).1).trans RX.out)
          clear hb
          clear Xc0 Xc1
          obtain rfl : snt = T.length := by obtain ⟨_, _, e, _⟩ := rdAt_own Ot.out; cases e; rfl
          go_wp2
          go_loopw [10] (fun i wr => ∃ k : Nat, k ≤ T.length ∧ i = .int .i64 k ∧ Below w11_.heap.size w11_ wr) (fun i _ => T.length - (intOf i).toNat)
          case atStart => exact ⟨0, Nat.zero_le _, rfl, Below.refl _ _⟩
          case round =>
            obtain ⟨k, hk, rfl, hb⟩ := hrel
            rename_i wr
            replace HB := Lib.hid (HB.out.trans (hb.mono HB.out.size))
            replace Oa := Lib.hid (own_below Oa.out hb)
            replace Ot := Lib.hid (own_below Ot.out hb)
            replace RA := Lib.hid ((hb.block _ (Array.getElem?_eq_some_iff.1 RA.out).1).trans RA.out)
            replace Ob := Lib.hid (own_below Ob.out hb)
            replace RB := Lib.hid ((hb.block _ (Array.getElem?_eq_some_iff.1 RB.out).1).trans RB.out)
            replace Ox := Lib.hid (own_below Ox.out hb)
            replace RX := Lib.hid ((hb.block _ (Array.getElem?_eq_some_iff.1 RX.out).1).trans RX.out)
            have HLB := Lib.hid hb
            clear hb
            by_cases hlt : k < T.length
            · have z0 : (0 : Int) ≤ (k : Int) := by omega
              have z1 : (k : Int) < (T.length : Int) := by omega
              go_wp2_with fail
              refine (ST.out _ _ (rdAt_own Ot.out)).mono ?_
              rintro e w12_ ⟨rfl, hb⟩
              replace HB := Lib.hid (HB.out.trans (hb.mono HB.out.size))
              replace Oa := Lib.hid (own_below Oa.out hb)
              replace Ot := Lib.hid (own_below Ot.out hb)
              replace RA := Lib.hid ((hb.block _ (Array.getElem?_eq_some_iff.1 RA.out).1).trans RA.out)
              replace Ob := Lib.hid (own_below Ob.out hb)
              replace RB := Lib.hid ((hb.block _ (Array.getElem?_eq_some_iff.1 RB.out).1).trans RB.out)
              replace Ox := Lib.hid (own_below Ox.out hb)
              replace RX := Lib.hid ((hb.block _ (Array.getElem?_eq_some_iff.1 RX.out).1).trans RX.out)
              replace HLB := Lib.hid (HLB.out.trans (hb.mono HLB.out.size))
              clear hb
              cases p2 with
              | false =>
                go_wp2
                exact ⟨⟨k + 1, by omega, by go_num, HLB.out⟩, by simp [intOf]; omega⟩
              | true =>
                obtain ⟨xa2, xc2, hva2, -, hcs2⟩ := rdAt_own Ot.out
                cases hva2
                obtain ⟨gx, ox, rfl, -, hcw⟩ := hcs2.resolve_left (by omega)
                have c1 := hcw k hlt
                have hmem : T.getD k r0 ∈ T := by simp [List.getD, hlt]
                have hsing := HSH.out (by simp) _ hmem
                clear hcw hcs2 hmem
                generalize T.getD k r0 = kr at *
                have ISx := Lib.hid (fun w => isingle_any kr w)
                have hsl : (singM kr).1.length ≤ 1 := by unfold singM; split <;> simp [blankC]
                have HSG := Lib.hid (show holdsM ((singM kr).1, (singM kr).2) T = true from hsing)
                clear hsing
                generalize (singM kr).1 = M1 at *
                generalize (singM kr).2 = Y1 at *
                obtain ⟨⟨p, q⟩, yr⟩ := kr
                unfold rv at ISx
                dsimp only at ISx c1
                obtain ⟨k0, k1, k2⟩ := c1
                have hgw : gx < w12_.heap.size := World.block_lt_of_cell? w12_ ⟨gx, ox + k * 3, none⟩ k0
                go_wp2_with fail
                refine (ISx.out _).mono ?_
                rintro e w13_ ⟨vo, rfl, ho, hb⟩
                obtain ⟨sao, sno, sko, rfl⟩ := own_shape ho
                have Oo := Lib.hid (own_base ho HB.out.size)
                clear ho ISx k0 k1 k2
                replace HB := Lib.hid (HB.out.trans (hb.mono HB.out.size))
                replace Oa := Lib.hid (own_below Oa.out hb)
                replace Ot := Lib.hid (own_below Ot.out hb)
                replace RA := Lib.hid ((hb.block _ (Array.getElem?_eq_some_iff.1 RA.out).1).trans RA.out)
                replace Ob := Lib.hid (own_below Ob.out hb)
                replace RB := Lib.hid ((hb.block _ (Array.getElem?_eq_some_iff.1 RB.out).1).trans RB.out)
                replace Ox := Lib.hid (own_below Ox.out hb)
                replace RX := Lib.hid ((hb.block _ (Array.getElem?_eq_some_iff.1 RX.out).1).trans RX.out)
                replace HLB := Lib.hid (HLB.out.trans (hb.mono HLB.out.size))
                clear hb hgw
                go_wp2_with fail
                refine (IH.out _ _ _ M1 Y1 _ (keysAt_own Oo.out) (rdAt_own Ot.out) (by omega) HSG.out).mono ?_
                rintro e w14_ ⟨rfl, hb⟩
                replace HB := Lib.hid (HB.out.trans (hb.mono HB.out.size))
                replace Oa := Lib.hid (own_below Oa.out hb)
                replace Ot := Lib.hid (own_below Ot.out hb)
                replace RA := Lib.hid ((hb.block _ (Array.getElem?_eq_some_iff.1 RA.out).1).trans RA.out)
                replace Ob := Lib.hid (own_below Ob.out hb)
                replace RB := Lib.hid ((hb.block _ (Array.getElem?_eq_some_iff.1 RB.out).1).trans RB.out)
                replace Ox := Lib.hid (own_below Ox.out hb)
                replace RX := Lib.hid ((hb.block _ (Array.getElem?_eq_some_iff.1 RX.out).1).trans RX.out)
                replace HLB := Lib.hid (HLB.out.trans (hb.mono HLB.out.size))
                replace Oo := Lib.hid (own_below Oo.out hb)
                clear hb
                go_wp2
                exact ⟨⟨k + 1, by omega, by go_num, HLB.out⟩, by simp [intOf]; omega⟩
            · obtain rfl : k = T.length := by omega
              clear hlt hk
              go_wp2_with fail
              refine (ST.out _ _ (rdAt_own Ot.out)).mono ?_
              rintro e w12_ ⟨rfl, hb⟩
              replace HB := Lib.hid (HB.out.trans (hb.mono HB.out.size))
              replace Oa := Lib.hid (own_below Oa.out hb)
              replace Ot := Lib.hid (own_below Ot.out hb)
              replace RA := Lib.hid ((hb.block _ (Array.getElem?_eq_some_iff.1 RA.out).1).trans RA.out)
              replace Ob := Lib.hid (own_below Ob.out hb)
              replace RB := Lib.hid ((hb.block _ (Array.getElem?_eq_some_iff.1 RB.out).1).trans RB.out)
              replace Ox := Lib.hid (own_below Ox.out hb)
              replace RX := Lib.hid ((hb.block _ (Array.getElem?_eq_some_iff.1 RX.out).1).trans RX.out)
              replace HLB := Lib.hid (HLB.out.trans (hb.mono HLB.out.size))
              clear hb
              cases p2 with
              | false =>
                go_wp2
                go_ret
                exact ⟨rfl, HB.out⟩
              | true =>
                obtain ⟨Ac0, Ac1, -, -⟩ := row2_of RA.out
                go_wp2_with fail
                refine (SO.out _ _ (keysAt_own Oa.out)).mono ?_
                rintro e w13_ ⟨rfl, hb⟩
                replace HB := Lib.hid (HB.out.trans (hb.mono HB.out.size))
                replace Oa := Lib.hid (own_below Oa.out hb)
                replace Ot := Lib.hid (own_below Ot.out hb)
                replace RA := Lib.hid ((hb.block _ (Array.getElem?_eq_some_iff.1 RA.out).1).trans RA.out)
                replace Ob := Lib.hid (own_below Ob.out hb)
                replace RB := Lib.hid ((hb.block _ (Array.getElem?_eq_some_iff.1 RB.out).1).trans RB.out)
                replace Ox := Lib.hid (own_below Ox.out hb)
                replace RX := Lib.hid ((hb.block _ (Array.getElem?_eq_some_iff.1 RX.out).1).trans RX.out)
                replace HLB := Lib.hid (HLB.out.trans (hb.mono HLB.out.size))
                clear hb
                clear Ac0 Ac1
                cases p1 with
                | false =>
                  go_wp2
                  go_ret
                  exact ⟨rfl, HB.out⟩
                | true =>
                  have hM9 := HRH.out (by simp) (by simp) (by simp)
                  subst hM9
                  obtain ⟨Ac0, Ac1, -, -⟩ := row2_of RA.out
                  go_wp2_with fail
                  refine (IR.out _ _ _ (keysAt_own Oa.out) (rdAt_own Ot.out)).mono ?_
                  rintro e w14_ ⟨vr, rfl, ho, hb⟩
                  obtain ⟨sar, snr, skr, rfl⟩ := own_shape ho
                  have Or := Lib.hid (own_base ho HB.out.size)
                  clear ho
                  replace HB := Lib.hid (HB.out.trans (hb.mono HB.out.size))
                  replace Oa := Lib.hid (own_below Oa.out hb)
                  replace Ot := Lib.hid (own_below Ot.out hb)
                  replace RA := Lib.hid ((hb.block _ (Array.getElem?_eq_some_iff.1 RA.out).1).trans RA.out)
                  replace Ob := Lib.hid (own_below Ob.out hb)
                  replace RB := Lib.hid ((hb.block _ (Array.getElem?_eq_some_iff.1 RB.out).1).trans RB.out)
                  replace Ox := Lib.hid (own_below Ox.out hb)
                  replace RX := Lib.hid ((hb.block _ (Array.getElem?_eq_some_iff.1 RX.out).1).trans RX.out)
                  replace HLB := Lib.hid (HLB.out.trans (hb.mono HLB.out.size))
                  clear hb
                  clear Ac0 Ac1
                  obtain rfl : snr = 0 := by obtain ⟨_, _, e, _⟩ := keysAt_own (ks := []) Or.out; cases e; rfl
                  go_wp2
                  rw [run_field_keys]
                  go_wp2
                  go_ret
                  exact ⟨rfl, HB.out⟩
  · go_enter Try.func4, Try.ntmps4
    go_wp2_with fail
    refine (big_true _ _ _ _ hbig).mono ?_
    rintro e w1 ⟨rfl, rfl⟩
    go_wp2
    go_ret
    exact ⟨rfl, Below.refl _ _⟩
end Go.Proofs.Ytnknfmjpkphbpaa
