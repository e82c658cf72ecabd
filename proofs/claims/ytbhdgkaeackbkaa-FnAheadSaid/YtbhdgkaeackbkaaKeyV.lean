/- A box that holds a key; a box that holds a value of which something is said. -/
import Derived.Maps.OwnIn
import Derived.Test.YtbhdgkaeackbkaaKeyI
import Derived.Test.YtbhdgkaeackbkaaKeyT
import Derived.Test.YtbhdgkaeackbkaaKeyN
namespace Go.Proofs.Ytbhdgkaeackbkaa
open Go.RowKit Go.Shelf
set_option linter.unusedVariables false

def KBoxed (W : World) (B : Nat) (k : K2) : Prop := W.heap[B]? = some (.cells #[.int .i64 k.1, .int .i64 k.2] 25 (0, 0))
theorem KBoxed.lt {W : World} {B : Nat} {k : K2} (h : KBoxed W B k) : B < W.heap.size := (Array.getElem?_eq_some_iff.1 h).1
theorem KBoxed.cell0 {W : World} {B : Nat} {k : K2} (h : KBoxed W B k) : W.cell? ⟨B, 0, none⟩ = some (.int .i64 k.1) := by simp [World.cell?, show W.heap[B]? = _ from h]
theorem KBoxed.cell1 {W : World} {B : Nat} {k : K2} (h : KBoxed W B k) : W.cell? ⟨B, 1, none⟩ = some (.int .i64 k.2) := by simp [World.cell?, show W.heap[B]? = _ from h]
theorem KBoxed.new (W : World) (k : K2) : KBoxed (W.alloc (.cells #[.int .i64 k.1, .int .i64 k.2] 25)) W.heap.size k := World.alloc_heap_new W _
theorem KBoxed.kept {W W' : World} {row : Option Nat} {B : Nat} {k : K2} (h : KBoxed W B k) (hg : W.grownBy W' row) (hne : some B ≠ row) : KBoxed W' B k := (hg.block B h.lt hne).trans h
theorem KBoxed.alloc {W : World} {B : Nat} {k : K2} (h : KBoxed W B k) (o : Obj) : KBoxed (W.alloc o) B k := h.kept (World.grownBy_alloc W o none) (by simp)
theorem KBoxed.other {W : World} {B B' : Nat} {k : K2} (h : KBoxed W B k) (hne : B ≠ B') (u : Value) : KBoxed (W.setCell ⟨B', 0, none⟩ u) B k := h.kept (grownBy_setCell' W B' u) (fun e => hne (by cases e; rfl))
theorem kboxed_own {β : Type} (B : Nat) (k : K2) : Own (fun (_ : β) W => KBoxed W B k) := by
  intro s X Y row h hg hr
  refine KBoxed.kept h hg (fun e => ?_)
  obtain ⟨o, ho, hc⟩ := hr B e.symm
  rw [show X.heap[B]? = _ from h] at ho; cases ho; cases hc
theorem boxG_own {β : Type} (B : Nat) (t : TypeId) (G : β → Value → Prop) : Own (fun (s : β) W => ∃ v, Boxed W B t v ∧ G s v) := by
  rintro s X Y row ⟨v, h, hG⟩ hg hr
  refine ⟨v, h.kept hg (fun e => ?_), hG⟩
  obtain ⟨o, ho, hc⟩ := hr B e.symm
  rw [show X.heap[B]? = _ from h] at ho; cases ho; cases hc
theorem boxed_uniq {W : World} {B : Nat} {t : TypeId} {v v' : Value} (h : Boxed W B t v) (h' : Boxed W B t v') : v = v' := by
  have := h.cell.symm.trans h'.cell
  exact Option.some.inj this
/-- what the inner rounds left behind, the last one having left -/
def inOut (sh : Bool) (L R : List K2) (x : K2) (pre : List K2) : List K2 × List K2 :=
  if aheadB x (pre.getLastD (0, 0)) then (L ++ pre.dropLast ++ [x], R.drop pre.dropLast.length) else (L ++ pre.dropLast ++ (if sh then [x] else []), R.drop (pre.dropLast.length + 1))
theorem inOut_at (sh : Bool) (L R : List K2) (x : K2) (q : List K2) (y : K2) : inOut sh L R x (q ++ [y]) =
    if aheadB x y then (L ++ q ++ [x], R.drop q.length) else (L ++ q ++ (if sh then [x] else []), R.drop (q.length + 1)) := by
  unfold inOut
  rw [List.dropLast_concat, show (q ++ [y]).getLastD (0, 0) = y by simp [List.getLastD_eq_getLast?]]
theorem inOut_step {sh : Bool} {L R : List K2} {x : K2} {pre : List K2} (hp : pre <+: R) (hn : pre ≠ []) (hq : ∀ z ∈ pre.dropLast, isBefore x z = true) (hy : isBefore x (pre.getLastD (0, 0)) = false) :
    inOut sh L R x pre = tStep sh (L, R) x := by
  obtain ⟨r, rfl⟩ := hp
  obtain ⟨q, y, rfl⟩ : ∃ q y, pre = q ++ [y] := ⟨pre.dropLast, pre.getLast hn, (List.dropLast_concat_getLast hn).symm⟩
  rw [List.dropLast_concat] at hq
  rw [show (q ++ [y]).getLastD (0, 0) = y by simp [List.getLastD_eq_getLast?]] at hy
  rw [inOut_at, show q ++ [y] ++ r = q ++ y :: r by simp, tStep_at hq hy]
  have e1 : (q ++ y :: r).drop q.length = y :: r := by simp
  have e2 : (q ++ y :: r).drop (q.length + 1) = r := by rw [← List.drop_drop, e1]; rfl
  rw [e1, e2]
theorem inOut_len (sh : Bool) (L R : List K2) (x : K2) (pre : List K2) (hn : pre ≠ []) : (inOut sh L R x pre).1.length ≤ L.length + pre.length := by
  obtain ⟨q, y, rfl⟩ : ∃ q y, pre = q ++ [y] := ⟨pre.dropLast, pre.getLast hn, (List.dropLast_concat_getLast hn).symm⟩
  rw [inOut_at]
  by_cases h : aheadB x y = true
  · rw [if_pos h]; simp
  · rw [if_neg h]; cases sh <;> simp
theorem isBefore_false_ahead {x y : K2} (h : aheadB x y = true) : isBefore x y = false := by simp [isBefore, h]
theorem isBefore_false_eq (x : K2) : isBefore x x = false := by simp [isBefore]
theorem isBefore_true {x y : K2} (h : aheadB x y = false) (h2 : (x == y) = false) : isBefore x y = true := by simp only [isBefore, h, h2]; rfl
/-- the slice value without its first key -/
theorem keysIn0_tail {n₀ : Nat} {w : World} {g off c : Nat} {k : K2} {r : List K2} (h : keysIn0 n₀ w (.slice (some ⟨g, off, none⟩) (r.length + 1) c) (k :: r)) (c' : Nat) (hc : r.length ≤ c') :
    keysIn0 n₀ w (.slice (some ⟨g, off + 2, none⟩) r.length c') r := by
  obtain ⟨a, cap, h1, h2, h3⟩ := h
  simp only [List.length_cons, Value.slice.injEq, true_and] at h1
  obtain ⟨rfl, rfl⟩ := h1
  obtain ⟨g2, off2, e, h4, h5, h6⟩ := h3.resolve_left (by simp)
  cases e
  refine ⟨_, c', rfl, hc, .inr ⟨g, off + 2, rfl, h4, h5, fun i hi => ?_⟩⟩
  have := h6 (i + 1) (by simp; omega)
  rw [show off + (i + 1) * 2 = off + 2 + i * 2 by omega] at this
  simpa using this
theorem keyCells_app (a b : List K2) : keyCells (a ++ b) = keyCells a ++ keyCells b := by simp [keyCells]
theorem wpListIn_append_none {F : Fence} {n : Nat} {P : Program} (w : World) {ops : Array Oper} {rest : List Oper} {o : Oper} {a : Act} {Q : Exit → Act → World → Prop}
    (hg : o.guard = none) (s x : Operand) (t : TypeId) (hop : o.op = Op.call { callee := Callee.builtin Builtin.append, args := #[s, x], argTypes := #[t, t] })
    (v u : Value) (hs : a.eval s = v) (hx : a.eval x = u) (hr : (Builtin.append_ #[t, t] o.type #[v, u]).run P w = .ok v w) (hK : wpListIn F n P ops Q rest (a.put o.dst v) w) : wpListIn F n P ops Q (o :: rest) a w := by
  refine wpListIn_plain hg fun K hK' => ?_
  unfold Oper.wpIn
  refine ⟨?_, ?_⟩
  · simp [Oper.about, hop, resolve, Target.leads, Sem.run_pure]
  · rw [Oper.semAt_plain F _ _ (by rw [hop]; intro c hc'; cases hc')]
    simp [execOp, hop, resolve, invoke, builtin, hs, hx, hr, Result.andThen]
    exact hK' _ _ hK
theorem addr_add (g off j : Nat) : (⟨g, off, none⟩ : Addr).add j = ⟨g, off + j, none⟩ := by
  unfold Addr.add
  split
  · rename_i h; simp [h]
  · rfl
theorem append_none {w : World} {base n : Nat} {v : Value} {xs : List Value} (h : w.ownsRow base 25 2 v n xs) (ar : Option Addr) (cr : Nat) (ty : TypeId) :
    (Builtin.append_ #[29, 29] ty #[v, .slice ar 0 cr]).run Try.prog w = .ok v w := by
  obtain ⟨i0, hi, hz0, hz1, hz2⟩ := info_parts infoK
  have u := Try.underlying29
  rcases h.2 with ⟨rfl, h0⟩ | ⟨g, cap, cur, rfl, _, _, hn, _⟩
  · cases ar <;> simp [Builtin.append_, run_underlying u, sizeOf, typeInfo, hi, storeCells, go_sem]
  · cases ar <;> simp [Builtin.append_, run_underlying u, sizeOf, typeInfo, hi, storeCells, hn, go_sem]
theorem keyCells_at {w : World} {g off : Nat} {ks : List K2} (h : ∀ i, i < ks.length → w.cell? ⟨g, off + i * 2, none⟩ = some (.int .i64 (ks.getD i (0, 0)).1) ∧ w.cell? ⟨g, off + i * 2 + 1, none⟩ = some (.int .i64 (ks.getD i (0, 0)).2)) :
    ∀ j u, (keyCells ks)[j]? = some u → w.cell? ((⟨g, off, none⟩ : Addr).add j) = some u := by
  intro j u hu
  have hj : j < ks.length * 2 := by rw [← keyCells_len]; exact (List.getElem?_eq_some_iff.1 hu).1
  have hc := keyCells_get ks (j / 2) (by omega)
  have hw := h (j / 2) (by omega)
  rcases (by omega : j = j / 2 * 2 ∨ j = j / 2 * 2 + 1) with e | e
  · rw [← e] at hc
    rw [show off + j / 2 * 2 = off + j by omega] at hw
    rw [hc.1] at hu; cases hu
    rw [addr_add]; exact hw.1
  · rw [← e] at hc
    rw [show off + j / 2 * 2 + 1 = off + j by omega] at hw
    rw [hc.2] at hu; cases hu
    rw [addr_add]; exact hw.2
theorem keyCells_one (ks : List K2) : ∀ u ∈ keyCells ks, u.oneCell' = true := by
  intro u hu
  simp only [keyCells, List.mem_flatMap, List.mem_cons, List.not_mem_nil, or_false] at hu
  obtain ⟨k, _, rfl | rfl⟩ := hu <;> rfl
theorem keysIn0_tail2 {n₀ : Nat} {w : World} {g o o' c : Nat} {k : K2} {r : List K2} (h : keysIn0 n₀ w (.slice (some ⟨g, o, none⟩) (r.length + 1) c) (k :: r)) (hc : r.length + 1 ≤ c) (ho : (c - 1 = 0 ∧ o' = o) ∨ o' = o + 2) :
    keysIn0 n₀ w (.slice (some ⟨g, o', none⟩) r.length (c - 1)) r := by
  rcases ho with ⟨h0, rfl⟩ | rfl
  · exact ⟨_, c - 1, rfl, by omega, .inl (by omega)⟩
  · exact keysIn0_tail h _ (by omega)
theorem slice_tail_run (g o n c : Nat) (hc : n + 1 ≤ c) (h63 : n ≤ 9000000) : ∃ o', ((c - 1 = 0 ∧ o' = o) ∨ o' = o + 2) ∧ ∀ w : World, (Instr.slice 29 (.slice (some ⟨g, o, none⟩) (n + 1) c) (some (.int .i64 1)) none none).run Try.prog w = .ok (.slice (some ⟨g, o', none⟩) n (c - 1)) w := by
  have u := Try.underlying29
  obtain ⟨i0, hi, hz0, hz1, hz2⟩ := info_parts infoK
  by_cases h : c = 1
  · subst h
    obtain rfl : n = 0 := by omega
    exact ⟨o, .inl ⟨rfl, rfl⟩, fun w => by go_simp⟩
  · refine ⟨o + 2, .inr rfl, fun w => ?_⟩
    have h1 : ¬ c - 1 = 0 := by omega
    have h2 : (1 : Int) ≤ (n : Int) + 1 := by omega
    have h3 : (n : Int) + 1 ≤ (c : Int) := by omega
    go_simp
theorem boxed_app {W w1 : World} {n₀ B B' : Nat} {t e : TypeId} {size : Nat} {u v : Value} {k : Nat} {xs : List Value} {tmp : Obj} (h : Boxed W B' t u) (hte : t ≠ e) (hrow : W.ownsRow n₀ e size v k xs)
    (hgrow : (W.alloc tmp).grownBy w1 v.ownBlock) (hne : B' ≠ B) (u' : Value) : Boxed (w1.setCell ⟨B, 0, none⟩ u') B' t u :=
  ((h.alloc tmp).kept hgrow (h.not_row hte hrow)).other hne u'
theorem kboxed_app {W w1 : World} {B B' : Nat} {v : Value} {k : K2} {tmp : Obj} (h : KBoxed W B' k) (hnr : v.ownBlock ≠ some B')
    (hgrow : (W.alloc tmp).grownBy w1 v.ownBlock) (hne : B' ≠ B) (u' : Value) : KBoxed (w1.setCell ⟨B, 0, none⟩ u') B' k :=
  ((h.alloc tmp).kept hgrow (fun e => hnr e.symm)).other hne u'
end Go.Proofs.Ytbhdgkaeackbkaa
