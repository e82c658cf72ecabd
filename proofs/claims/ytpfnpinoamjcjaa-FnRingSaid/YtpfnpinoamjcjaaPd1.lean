/- What the laws lean on (own lemmas and walks of the called functions). -/
import Derived.StillTail
import Derived.OrdersIn
import Derived.RangeFuncCalls
import Derived.Deep.RegionHeld3
import Derived.KernelRfl
import Derived.Test.YtpfnpinoamjcjaaRows
import Derived.WalkKit
import Derived.ProofKit
import Derived.OpenShut
import Derived.ShutString
import Derived.Below
import Derived.Outline
import Derived.WalkSpells
import Derived.WalkLawsBesides
import Derived.Deep.AppendLies
import Derived.StillTactics
import Derived.Laws.BytesArg
import Derived.Laws.OwnMore
import Derived.Maps.AppendAt
import Derived.Lib.Hide
import Derived.Deep.QuietTactic
import Derived.BigQuiet
import Derived.RangeFuncBox
import Derived.Lib.SmallJoins
import Derived.Lib.Bytealg
import Derived.Deep.MidRow
import Derived.Laws.StructEq
import Derived.BigRegion
import Derived.OneCell
import Derived.Deep.WholeRow
import Derived.RangeFuncNested
import Derived.RangeFuncLeaves
import Derived.Shelf.Abstract
import Derived.OwnWalkIn
import Derived.TacticsInMore
import Derived.LoopNIn
import Derived.LoopIn
import Derived.Maps.OwnIn
import Derived.OrdersHeld
import Derived.Deep.Quiet
import Derived.Deep.DeepCutAuto
import Derived.Deep.RegionLaw
import Derived.Lib.BufferWrite
import Derived.Lib.SlBuf
import Derived.Lib.SliceRun
import Derived.Shelf.Spec.SlicesInsertGrow
import Derived.Lib.Overlaps
import Derived.Deep.Upon
import Derived.Deep.LoopGhost
import Derived.Deep.Cut
set_option linter.unusedVariables false
set_option linter.unusedSimpArgs false
namespace Go.Proofs.Ytpfnpinoamjcjaa
open Go
section
variable {P : Program} {ops : Array Oper} {md : Region.Mode} {w : World}

def maskRows : List Bool → List Oper → List Oper
  | true :: m, o :: l => o :: maskRows m l
  | false :: m, _ :: l => maskRows m l
  | _, _ => []

end
end Go.Proofs.Ytpfnpinoamjcjaa
namespace Go.Proofs.Ytpfnpinoamjcjaa
open Go.ChangeShapes Go.WideShapes Go.ChangeAt Go.RowKit
set_option linter.unusedVariables false

theorem grown_of_below' {A B : World} (h : Below A.heap.size A B) (row : Option Nat) : A.grownBy B row := ⟨h.os, h.tape, h.output, h.size, fun k hk _ => h.block k hk⟩
end Go.Proofs.Ytpfnpinoamjcjaa
namespace Go.Proofs.Ytpfnpinoamjcjaa
open Go.ChangeShapes Go.WideShapes Go.ChangeAt Go.RowKit
set_option linter.unusedVariables false

/-- The code's bytes, in old memory. -/
def CodeAt (n₀ : Nat) (w : World) (a : Option Addr) (len : Nat) (zs : List Int) : Prop :=
  len ≤ 1048576 ∧ (∀ k : Nat, 0 ≤ zs[k]?.getD 0 ∧ zs[k]?.getD 0 ≤ 255) ∧ (len = 0 ∨ ∃ b off, a = some ⟨b, off, none⟩ ∧ b < n₀ ∧ ∀ k, k < len → w.cell? ⟨b, off + k, none⟩ = some (.int .u8 (zs[k]?.getD 0)))
theorem CodeAt.below {n₀ : Nat} {w w' : World} {a : Option Addr} {len : Nat} {zs : List Int} (h : CodeAt n₀ w a len zs) (hb : Below n₀ w w') : CodeAt n₀ w' a len zs := by
  obtain ⟨h1, h2, h3⟩ := h
  refine ⟨h1, h2, ?_⟩
  rcases h3 with h3 | ⟨b, off, h4, h5, h6⟩
  · exact .inl h3
  · exact .inr ⟨b, off, h4, h5, fun k hk => (hb.cell (p := ⟨b, off + k, none⟩) h5).trans (h6 k hk)⟩

theorem grownT {A B C : World} {row : Option Nat} (h : A.grownBy B row) (k : B.grownBy C row) : A.grownBy C row :=
  ⟨k.os.trans h.os, k.tape.trans h.tape, k.output.trans h.output, Nat.le_trans h.size k.size, fun j hj hr => (k.block j (Nat.lt_of_lt_of_le hj h.size) hr).trans (h.block j hj hr)⟩
end Go.Proofs.Ytpfnpinoamjcjaa
namespace Go.Proofs.Ytpfnpinoamjcjaa
open Go.ChangeShapes Go.WideShapes Go.ChangeAt Go.RowKit
set_option linter.unusedVariables false

/-- what a walk is told of bytes that came in -/
def IsRow (k : IntKind) (w : World) (a : Option Addr) (len cap : Nat) (zs : List Int) : Prop :=
  (a = none ∧ len = 0 ∧ cap = 0 ∧ zs = []) ∨
  ∃ x, a = some x ∧ len ≤ cap ∧ cap ≤ maxLen ∧ zs.length = cap ∧ (∀ i, i < zs.length → w.cell? (x.add i) = some (.int k (zs.getD i 0))) ∧ ∀ n ∈ zs, (Lit.int k n).wf = true
theorem codeAt_of {w : World} {a : Option Addr} {len cap : Nat} {zs : List Int} (h : IsRow .u8 w a len cap zs) (hl : len ≤ 1048576) : CodeAt w.heap.size w a len zs := by
  rcases h with ⟨rfl, rfl, rfl, rfl⟩ | ⟨x, rfl, h1, h2, h3, h4, h5⟩
  · exact ⟨hl, by simp, .inl rfl⟩
  · refine ⟨hl, fun k => range_u8 h5 k, ?_⟩
    · rcases Nat.eq_zero_or_pos len with h0 | h0
      · exact .inl h0
      · obtain ⟨b, off, spot⟩ := x
        have hc := h4 0 (by omega)
        have hs : spot = none := by simpa [Addr.add] using World.cell?_spot hc
        subst hs
        refine .inr ⟨b, off, rfl, World.block_lt_of_cell? w ⟨b, off, none⟩ (by simpa [Addr.add] using hc), fun k hk => ?_⟩
        have := h4 k (by omega)
        rw [List.getD_eq_getElem?_getD] at this
        rw [← this]
        unfold Addr.add
        split
        · rename_i e; subst e; rfl
        · rfl
theorem big_any (a : Option Addr) (len cap : Nat) (w : World) (hl : len ≤ 1048576) : Calls Try.prog 12 #[.slice a len cap] w fun e w' => e = .returned (.bool false) ∧ w' = w := by
  have z1 : ¬ (1048576 : Int) < (len : Int) := by omega
  go_enter Try.func12, Try.ntmps12
  go_wp2
  go_ret
  exact ⟨rfl, rfl⟩
theorem big_true (a : Option Addr) (len cap : Nat) (w : World) (hl : ¬ len ≤ 1048576) : Calls Try.prog 12 #[.slice a len cap] w fun e w' => e = .returned (.bool true) ∧ w' = w := by
  have z1 : (1048576 : Int) < (len : Int) := by omega
  go_enter Try.func12, Try.ntmps12
  go_wp2
  go_ret
  exact ⟨rfl, rfl⟩

end Go.Proofs.Ytpfnpinoamjcjaa
namespace Go.Proofs.Ytpfnpinoamjcjaa
open Go.ChangeShapes Go.WideShapes Go.ChangeAt Go.RowKit
set_option linter.unusedVariables false

abbrev K2 := Int × Int
def kv (k : K2) : Value := .agg #[.int .i64 k.1, .int .i64 k.2]
def aheadB (a b : K2) : Bool := if a.1 = b.1 then decide (a.2 < b.2) else decide (a.1 < b.1)
/-- the slice value v leads to the keys ks -/
def keysAt (w : World) (v : Value) (ks : List K2) : Prop :=
  ∃ a cap, v = .slice a ks.length cap ∧ ks.length ≤ cap ∧ (ks.length = 0 ∨ ∃ g off, a = some ⟨g, off, none⟩ ∧ g < w.heap.size ∧
    ∀ i, i < ks.length → w.cell? ⟨g, off + i * 2, none⟩ = some (.int .i64 (ks.getD i (0, 0)).1) ∧ w.cell? ⟨g, off + i * 2 + 1, none⟩ = some (.int .i64 (ks.getD i (0, 0)).2))
theorem keysAt_below {w w' : World} {v : Value} {ks : List K2} (h : keysAt w v ks) (hb : Below w.heap.size w w') : keysAt w' v ks := by
  obtain ⟨a, cap, h1, h2, h3⟩ := h
  refine ⟨a, cap, h1, h2, h3.imp_right ?_⟩
  rintro ⟨g, off, h4, h5, h6⟩
  refine ⟨g, off, h4, Nat.lt_of_lt_of_le h5 hb.size, fun i hi => ?_⟩
  rw [hb.cell (p := ⟨g, off + i * 2, none⟩) h5, hb.cell (p := ⟨g, off + i * 2 + 1, none⟩) h5]
  exact h6 i hi
end Go.Proofs.Ytpfnpinoamjcjaa
namespace Go.Proofs.Ytpfnpinoamjcjaa
open Go.BigFrame Go.RowKit Go.ChangeShapes Go.WideShapes
section
variable {P : Program} {ops : Array Oper} {C : World → Prop} {Q : Act → Prop} {a : Act} {o : Oper} {rest : List Oper} {K : Act → Prop}
theorem q_load (ty : TypeId) (x : Operand) (p : Addr) (v : Value) (ho : o.op = .load ty x) (hx : a.eval x = .pointer (some p)) (hl : ∀ w, C w → (loadVar ty p).run P w = .ok v w) (hk : K (a.put o.dst v)) : o.quiet P a C K := by
  refine ⟨v, fun w hw => ?_, hk⟩
  unfold Oper.quietAt execOp
  simp only [ho, hx, Instr.loadAt, Instr.sureAddr, Sem.run_bind, Sem.run_pure, Result.andThen_ok, hl w hw]
  exact ⟨rfl, rfl⟩
end
/-- the class: new blocks alone -/
theorem wp_region_below {P : Program} {id : Nat} {Q : Exit → Act → World → Prop} {a : Act} {w : World} {l : List Oper} (w0 : World) (hm : P.follows .mixedOrders = true) (hB : Region.lexB .any l.toArray = true) (h0 : Below w0.heap.size w0 w)
    (h : wpQuiet P l.toArray (fun w' => Below w0.heap.size w0 w') (fun a' => ∀ w', Below w0.heap.size w0 w' → Q .normal a' w') l a) : (Code.region id l.toArray true).wp P Q a w :=
  wp_region_quiet (C := fun w' => Below w0.heap.size w0 w') hm hB h0.drew (by simpa using h)
end Go.Proofs.Ytpfnpinoamjcjaa
namespace Go.Proofs.Ytpfnpinoamjcjaa
open Go.ChangeShapes Go.WideShapes Go.ChangeAt Go.RowKit Go.BigFrame
set_option linter.unusedVariables false

def keyCells (ks : List K2) : List Value := ks.flatMap fun k => [.int .i64 k.1, .int .i64 k.2]
theorem keyCells_len : ∀ ks : List K2, (keyCells ks).length = ks.length * 2
  | [] => rfl
  | k :: r => by
    have := keyCells_len r
    simp only [keyCells, List.flatMap_cons, List.length_append, List.length_cons, List.length_nil] at *
    omega
theorem keyCells_get : ∀ (ks : List K2) (i : Nat), i < ks.length → (keyCells ks)[i * 2]? = some (.int .i64 (ks.getD i (0, 0)).1) ∧ (keyCells ks)[i * 2 + 1]? = some (.int .i64 (ks.getD i (0, 0)).2)
  | [], _, h => by simp at h
  | k :: r, 0, _ => by simp [keyCells]
  | k :: r, i + 1, h => by
    have ih := keyCells_get r i (by simpa using h)
    have e1 : (i + 1) * 2 = i * 2 + 1 + 1 := by omega
    have e2 : (i + 1) * 2 + 1 = i * 2 + 1 + 1 + 1 := by omega
    rw [e1]
    simp only [keyCells, List.flatMap_cons, List.cons_append, List.nil_append, List.getElem?_cons_succ, List.getD_cons_succ] at *
    exact ih
theorem own_below {w w' : World} {base n : Nat} {e : TypeId} {size : Nat} {v : Value} {xs : List Value} (h : w.ownsRow base e size v n xs) (hb : Below w.heap.size w w') : w'.ownsRow base e size v n xs :=
  h.kept (grown_of_below' hb none) (by cases hv : v.ownBlock <;> simp)

end Go.Proofs.Ytpfnpinoamjcjaa
namespace Go.Proofs.Ytpfnpinoamjcjaa
open Go.ChangeShapes Go.WideShapes Go.ChangeAt Go.RowKit Go.BigFrame
set_option linter.unusedVariables false
theorem own_cell {w : World} {base g n cap : Nat} {e : TypeId} {size : Nat} {xs : List Value} (h : w.ownsRow base e size (.slice (some ⟨g, 0, none⟩) n cap) n xs) (j : Nat) (hj : j < n * size) :
    w.cell? ⟨g, j, none⟩ = some (xs.getD j undef) ∧ w.frozen? ⟨g, j, none⟩ = false := by
  have hl : xs.length = n * size := h.1
  refine ⟨?_, ?_⟩
  · rw [h.cellAt j hj]
    simp [List.getD, show j < xs.length by omega]
  · rcases h.2 with ⟨h1, _⟩ | ⟨g', cap', cur, h1, _, hg, _⟩
    · simp at h1
    · simp only [Value.slice.injEq, Option.some.injEq, Addr.mk.injEq, and_true, true_and] at h1
      obtain ⟨rfl, rfl⟩ := h1
      simp [World.frozen?, hg]
theorem own_base {w : World} {base base' n : Nat} {e : TypeId} {size : Nat} {v : Value} {xs : List Value} (h : w.ownsRow base' e size v n xs) (hb : base ≤ base') : w.ownsRow base e size v n xs := by
  refine ⟨h.1, h.2.imp_right ?_⟩
  rintro ⟨g, cap, cur, h1, h2, h3⟩
  exact ⟨g, cap, cur, h1, Nat.le_trans hb h2, h3⟩
end Go.Proofs.Ytpfnpinoamjcjaa
namespace Go.Proofs.Ytpfnpinoamjcjaa
open Go.RowKit Go.ChangeShapes Go.WideShapes Go.ChangeAt
set_option linter.unusedVariables false
def intsV (xs : List Int) : List Value := xs.map (Value.int .i64)
theorem intsV_len (xs : List Int) : (intsV xs).length = xs.length := by simp [intsV]
theorem intsV_get (xs : List Int) (i : Nat) (h : i < xs.length) : (intsV xs)[i]? = some (.int .i64 (xs[i]?.getD 0)) := by simp [intsV, h]
theorem intsV_set (xs : List Int) (i : Nat) (x : Int) : (intsV xs).set i (.int .i64 x) = intsV (xs.set i x) := by simp [intsV]
theorem intsV_app (xs ys : List Int) : intsV (xs ++ ys) = intsV xs ++ intsV ys := by simp [intsV]
theorem ownsRow_shape1 {w : World} {base size n : Nat} {e : TypeId} {v : Value} {xs : List Value} (h : w.ownsRow base e size v n xs) (hn : 0 < n) : ∃ g cap, v = .slice (some ⟨g, 0, none⟩) n cap := by
  rcases h.2 with ⟨_, h0⟩ | ⟨g, cap, _, hv, _⟩
  · omega
  · exact ⟨g, cap, hv⟩
/-- the slice value v leads to the numbers xs -/
def inAt (w : World) (v : Value) (xs : List Int) : Prop :=
  ∃ a cap, v = .slice a xs.length cap ∧ xs.length ≤ cap ∧ (xs.length = 0 ∨ ∃ g off, a = some ⟨g, off, none⟩ ∧ g < w.heap.size ∧
    ∀ i, i < xs.length → w.cell? ⟨g, off + i, none⟩ = some (.int .i64 (xs[i]?.getD 0)))
theorem own_int {w : World} {base g n cap : Nat} {xs : List Int} (h : w.ownsRow base 3 1 (.slice (some ⟨g, 0, none⟩) n cap) n (intsV xs)) (j : Nat) (hj : j < n) : w.cell? ⟨g, j, none⟩ = some (.int .i64 (xs[j]?.getD 0)) := by
  have hl := h.1
  rw [intsV_len] at hl
  have := (own_cell h j (by omega)).1
  rw [List.getD_eq_getElem?_getD, intsV_get xs _ (by omega), Option.getD_some] at this
  exact this
theorem ownsRow_shape0 {w : World} {base size n : Nat} {e : TypeId} {v : Value} {xs : List Value} (h : w.ownsRow base e size v n xs) : (v = .slice none 0 0 ∧ n = 0) ∨ ∃ g cap, v = .slice (some ⟨g, 0, none⟩) n cap := by
  rcases h.2 with ⟨h1, h0⟩ | ⟨g, cap, _, hv, _⟩
  · exact .inl ⟨h1, h0⟩
  · exact .inr ⟨g, cap, hv⟩
theorem inAt_own {w : World} {base n : Nat} {v : Value} {xs : List Int} (h : w.ownsRow base 3 1 v n (intsV xs)) (hn : n = xs.length) : inAt w v xs := by
  subst hn
  rcases h.2 with ⟨rfl, h0⟩ | ⟨g, cap, cur, rfl, hb, hg, hn, hm, hs, ht⟩
  · exact ⟨none, 0, by rw [h0], by omega, .inl h0⟩
  · exact ⟨_, cap, rfl, hn, .inr ⟨g, 0, rfl, (Array.getElem?_eq_some_iff.1 hg).1, fun i hi => by rw [Nat.zero_add]; exact own_int h i hi⟩⟩
end Go.Proofs.Ytpfnpinoamjcjaa
namespace Go.Proofs.Ytpfnpinoamjcjaa
open Go.ChangeShapes Go.WideShapes Go.ChangeAt Go.RowKit Go.BigFrame
set_option linter.unusedVariables false
set_option linter.unusedSimpArgs false

theorem infoInt : (Try.prog.info? 3).map (fun i => (i.zero, i.size, i.bytes)) = some (some (.int .i64 0), 1, 8) := by kernel_rfl
end Go.Proofs.Ytpfnpinoamjcjaa
namespace Go.Proofs.Ytpfnpinoamjcjaa
open Go.ChangeShapes Go.WideShapes Go.ChangeAt Go.RowKit
set_option linter.unusedVariables false
theorem results_cell {fn : Func} {p : Tmp} {ty : TypeId} (h : fn.results = #[.cell p ty]) (tmps : Array Value) (P : Program) (w : World) :
    (results fn tmps).run P w = ((asAddr (tmps.getD p undef)).run P w).andThen fun a w₁ => (loadVar ty a).run P w₁ := by
  simp only [results, h]
  simp [Sem.run_bind]
theorem heap_first (w : World) (o c : Obj) : ((w.alloc c).alloc o).heap[w.heap.size]? = some c := by
  show ((w.heap.push c).push o)[w.heap.size]? = some c
  rw [Array.getElem?_push, if_neg (by simp), Array.getElem?_push, if_pos rfl]
end Go.Proofs.Ytpfnpinoamjcjaa
namespace Go.Proofs.Ytpfnpinoamjcjaa
open Go.ChangeShapes Go.WideShapes Go.ChangeAt Go.RowKit Go.BigFrame
set_option linter.unusedVariables false

theorem addr_plus (g off j : Nat) : (⟨g, off, none⟩ : Addr).add j = ⟨g, off + j, none⟩ := by
  unfold Addr.add
  split
  · rename_i h; simp [h]
  · rfl
end Go.Proofs.Ytpfnpinoamjcjaa
namespace Go.Proofs.Ytpfnpinoamjcjaa
open Go.ChangeShapes Go.WideShapes Go.ChangeAt Go.RowKit Go.BigFrame
set_option linter.unusedVariables false

theorem intsV_one (xs : List Int) : ∀ u ∈ intsV xs, u.oneCell' = true := by
  intro u hu
  simp only [intsV, List.mem_map] at hu
  obtain ⟨k, _, rfl⟩ := hu
  rfl
theorem intsV_at {w : World} {g off : Nat} {xs : List Int} (h : ∀ i, i < xs.length → w.cell? ⟨g, off + i, none⟩ = some (.int .i64 (xs[i]?.getD 0))) :
    ∀ j u, (intsV xs)[j]? = some u → w.cell? ((⟨g, off, none⟩ : Addr).add j) = some u := by
  intro j u hu
  have hj : j < xs.length := by rw [← intsV_len]; exact (List.getElem?_eq_some_iff.1 hu).1
  rw [addr_plus]
  rw [intsV_get xs j hj] at hu
  cases hu
  exact h j hj
theorem in_append_none {w : World} {base n : Nat} {v : Value} {xs : List Value} (h : w.ownsRow base 3 1 v n xs) (ar : Option Addr) (cr : Nat) (ty : TypeId) :
    (Builtin.append_ #[33, 33] ty #[v, .slice ar 0 cr]).run Try.prog w = .ok v w := by
  obtain ⟨i0, hi, hz0, hz1, hz2⟩ := info_parts infoInt
  have u := Try.underlying33
  rcases h.2 with ⟨rfl, h0⟩ | ⟨g, cap, cur, rfl, _, _, hn, _⟩
  · cases ar <;> simp [Builtin.append_, run_underlying u, sizeOf, typeInfo, hi, storeCells, go_sem]
  · cases ar <;> simp [Builtin.append_, run_underlying u, sizeOf, typeInfo, hi, storeCells, hn, go_sem]
/-- append of numbers to what is owned -/
theorem run_append_in {w : World} {base n : Nat} {v : Value} {xs : List Value} (hown : w.ownsRow base 3 1 v n xs) (u : Value) (rs : List Int) (hu : inAt w u rs) (ty : TypeId) (hn : n + rs.length ≤ 4000000) (hbase : base ≤ w.heap.size) :
    ∃ v' w', (Builtin.append_ #[33, 33] ty #[v, u]).run Try.prog w = .ok v' w' ∧ w'.ownsRow base 3 1 v' (n + rs.length) (xs ++ intsV rs) ∧ w.grownBy w' v.ownBlock := by
  obtain ⟨i0, hi, hz0, hz1, hz2⟩ := info_parts infoInt
  obtain ⟨a, cap, rfl, hcap, hcells⟩ := hu
  by_cases h0 : rs.length = 0
  · obtain rfl : rs = [] := List.length_eq_zero_iff.1 h0
    exact ⟨v, w, in_append_none hown a cap ty, by simpa [intsV] using hown, World.grownBy.refl _ _⟩
  · obtain ⟨g, off, rfl, hg, hcs⟩ := hcells.resolve_left h0
    obtain ⟨v', w', hr, h2, h3, h4, h5⟩ := run_append_own_at (P := Try.prog) w base 33 ty 3 i0 (.int .i64 0) 1 8 Try.underlying33 hi hz0 hz1 hz2 rfl (by decide) v n xs hown ⟨g, off, none⟩ rs.length cap (intsV rs) (by rw [intsV_len]; omega) (intsV_at hcs) (intsV_one rs) (by unfold maxLen; omega) (by omega) hbase
    exact ⟨v', w', hr, h2, h3⟩
end Go.Proofs.Ytpfnpinoamjcjaa
namespace Go.Proofs.Ytpfnpinoamjcjaa

theorem ahead_iff (a b : K2) : aheadB a b = true ↔ (a.1 < b.1 ∨ (a.1 = b.1 ∧ a.2 < b.2)) := by
  unfold aheadB
  by_cases h : a.1 = b.1
  · rw [if_pos h]; simp; omega
  · rw [if_neg h]; simp; omega
theorem ahead_irrefl (a : K2) : aheadB a a = false := by
  cases h : aheadB a a with
  | false => rfl
  | true => rw [ahead_iff] at h; omega
theorem ahead_trans {a b c : K2} (h1 : aheadB a b = true) (h2 : aheadB b c = true) : aheadB a c = true := by
  rw [ahead_iff] at *; omega
theorem ahead_asymm {a b : K2} (h1 : aheadB a b = true) : aheadB b a = false := by
  cases h : aheadB b a with
  | false => rfl
  | true => rw [ahead_iff] at *; omega
theorem ahead_total {a b : K2} (h1 : aheadB a b = false) (h2 : aheadB b a = false) : a = b := by
  have n1 : ¬ aheadB a b = true := by rw [h1]; exact Bool.false_ne_true
  have n2 : ¬ aheadB b a = true := by rw [h2]; exact Bool.false_ne_true
  rw [ahead_iff] at n1 n2
  obtain ⟨x, y⟩ := a; obtain ⟨z, u⟩ := b
  simp only at n1 n2
  have e1 : x = z := by omega
  have e2 : y = u := by omega
  rw [e1, e2]
def Rising (l : List K2) : Prop := l.Pairwise fun a b => aheadB a b = true
end Go.Proofs.Ytpfnpinoamjcjaa
namespace Go.Proofs.Ytpfnpinoamjcjaa

def lnB (k : K2) : Bool := decide (0 ≤ k.1) && (decide (k.1 < k.2) && decide (k.2 ≤ 20))
def lnStep (ks : List K2) (i : Nat) : Bool := lnB (ks.getD i (0, 0)) && (decide (i = 0) || aheadB (ks.getD (i - 1) (0, 0)) (ks.getD i (0, 0)))
def lnsB (ks : List K2) : Bool := decide (ks.length ≤ 30) && (List.range ks.length).all (lnStep ks)
theorem lnsB_big {ks : List K2} (h : 30 < ks.length) : lnsB ks = false := by unfold lnsB; rw [decide_eq_false (by omega)]; rfl
theorem lnsB_le {ks : List K2} (h : ks.length ≤ 30) : lnsB ks = (List.range ks.length).all (lnStep ks) := by unfold lnsB; rw [decide_eq_true h]; rfl
theorem lnAll_false {ks : List K2} {k n : Nat} (hk : k < n) (h : lnStep ks k = false) : (List.range n).all (lnStep ks) = false := by
  rw [List.all_eq_false]
  exact ⟨k, List.mem_range.2 hk, by simp [h]⟩
theorem lnAll_succ (ks : List K2) (k : Nat) : (List.range (k + 1)).all (lnStep ks) = ((List.range k).all (lnStep ks) && lnStep ks k) := by
  rw [List.range_succ, List.all_append]
  simp
theorem lnB_iff (k : K2) : lnB k = true ↔ 0 ≤ k.1 ∧ k.1 < k.2 ∧ k.2 ≤ 20 := by simp [lnB]
theorem lns_iff (ks : List K2) : lnsB ks = true ↔ ks.length ≤ 30 ∧ (∀ k ∈ ks, lnB k = true) ∧ Rising ks := by
  unfold lnsB
  rw [Bool.and_eq_true, decide_eq_true_eq]
  refine and_congr_right fun _ => ?_
  rw [List.all_eq_true]
  constructor
  · intro h
    have hs : ∀ i, i < ks.length → lnB (ks.getD i (0, 0)) = true ∧ (i = 0 ∨ aheadB (ks.getD (i - 1) (0, 0)) (ks.getD i (0, 0)) = true) := by
      intro i hi
      have := h i (List.mem_range.2 hi)
      simpa [lnStep] using this
    refine ⟨fun k hk => ?_, ?_⟩
    · obtain ⟨i, hi, rfl⟩ := List.getElem_of_mem hk
      have := (hs i hi).1
      simpa [List.getD, hi] using this
    · have hd : ∀ d i, i + d + 1 < ks.length → aheadB (ks.getD i (0, 0)) (ks.getD (i + d + 1) (0, 0)) = true := by
        intro d
        induction d with
        | zero =>
          intro i hi
          have := (hs (i + 1) (by omega)).2.resolve_left (by omega)
          simpa using this
        | succ d ih =>
          intro i hi
          have h1 := ih i (by omega)
          have h2 := (hs (i + (d + 1) + 1) hi).2.resolve_left (by omega)
          rw [show i + (d + 1) + 1 - 1 = i + d + 1 by omega] at h2
          exact ahead_trans h1 h2
      unfold Rising
      rw [List.pairwise_iff_getElem]
      intro i j hi hj hij
      have := hd (j - i - 1) i (by omega)
      rw [show i + (j - i - 1) + 1 = j by omega] at this
      simpa [List.getD, hi, hj] using this
  · rintro ⟨h1, h2⟩ i hi
    have hi2 := List.mem_range.1 hi
    unfold lnStep
    have e : ks.getD i (0, 0) = ks[i] := by simp [List.getD, hi2]
    rw [e, h1 _ (List.getElem_mem hi2)]
    by_cases h0 : i = 0
    · simp [h0]
    · have e2 : ks.getD (i - 1) (0, 0) = ks[i - 1] := by simp [List.getD, show i - 1 < ks.length by omega]
      rw [e2]
      unfold Rising at h2
      rw [List.pairwise_iff_getElem] at h2
      simp [h2 (i - 1) i (by omega) hi2 (by omega)]
/-- the link of two -/
def lnOf (a b : Int) : K2 := if a > b then (b, a) else (a, b)
theorem lnOf_min (a b : Int) : lnOf a b = (min a b, max a b) := by
  unfold lnOf
  split
  · rw [Int.min_eq_right (by omega), Int.max_eq_left (by omega)]
  · rw [Int.min_eq_left (by omega), Int.max_eq_right (by omega)]
theorem lnOf_comm (a b : Int) : lnOf a b = lnOf b a := by rw [lnOf_min, lnOf_min, Int.min_comm, Int.max_comm]
/-- the first place where p holds -/
def firstP (p : K2 → Bool) (ks : List K2) : Int := if ks.any p then ((ks.findIdx p : Nat) : Int) else -1
theorem firstP_at {p : K2 → Bool} {ks : List K2} {i : Nat} (hi : i < ks.length) (hp : p (ks.getD i (0, 0)) = true) (hn : ∀ j, j < i → p (ks.getD j (0, 0)) = false) : firstP p ks = i := by
  have e : ks.getD i (0, 0) = ks[i] := by simp [List.getD, hi]
  rw [e] at hp
  have ha : ks.any p = true := List.any_eq_true.2 ⟨_, List.getElem_mem hi, hp⟩
  unfold firstP
  rw [if_pos ha]
  congr 1
  rw [List.findIdx_eq hi]
  refine ⟨hp, fun j hj => ?_⟩
  have := hn j hj
  simpa [List.getD, show j < ks.length by omega] using this
theorem firstP_none {p : K2 → Bool} {ks : List K2} (hn : ∀ j, j < ks.length → p (ks.getD j (0, 0)) = false) : firstP p ks = -1 := by
  unfold firstP
  rw [if_neg]
  intro h
  obtain ⟨x, hx, hp⟩ := List.any_eq_true.1 h
  obtain ⟨i, hi, rfl⟩ := List.getElem_of_mem hx
  have := hn i hi
  simp [List.getD, hi, hp] at this
theorem firstP_cases (p : K2 → Bool) (ks : List K2) : (firstP p ks = -1 ∧ ∀ k ∈ ks, p k = false) ∨ ∃ i, ∃ hi : i < ks.length, firstP p ks = (i : Nat) ∧ p ks[i] = true := by
  by_cases h : ks.any p = true
  · refine .inr ⟨ks.findIdx p, List.findIdx_lt_length_of_exists (List.any_eq_true.1 h), ?_, ?_⟩
    · unfold firstP; rw [if_pos h]
    · exact List.findIdx_getElem
  · refine .inl ⟨?_, fun k hk => ?_⟩
    · unfold firstP; rw [if_neg h]
    · cases hp : p k with
      | false => rfl
      | true => exact absurd (List.any_eq_true.2 ⟨k, hk, hp⟩) h
theorem firstP_congr {p q : K2 → Bool} {ks : List K2} (h : ∀ k ∈ ks, p k = q k) : firstP p ks = firstP q ks := by
  induction ks with
  | nil => rfl
  | cons x r ih =>
    have hr := ih fun k hk => h k (by simp [hk])
    have hx := h x (by simp)
    unfold firstP at *
    simp only [List.any_cons, List.findIdx_cons, hx]
    cases hq : q x with
    | true => simp
    | false =>
      simp only [Bool.false_or, cond_false] at *
      have ha : r.any p = r.any q := by
        rw [Bool.eq_iff_iff, List.any_eq_true, List.any_eq_true]
        exact ⟨fun ⟨k, hk, e⟩ => ⟨k, hk, by rw [← h k (by simp [hk])]; exact e⟩, fun ⟨k, hk, e⟩ => ⟨k, hk, by rw [h k (by simp [hk])]; exact e⟩⟩
      rw [ha] at *
      by_cases hc : r.any q = true
      · rw [if_pos hc, if_pos hc] at *
        omega
      · rw [if_neg hc, if_neg hc]
/-- the link's place; and that of either order -/
def atL (ks : List K2) (a b : Int) : Int := firstP (fun k => k == lnOf a b) ks
def joinB (a b : Int) (k : K2) : Bool := k == (a, b) || k == (b, a)
def atE (ks : List K2) (a b : Int) : Int := firstP (joinB a b) ks
theorem joinB_lnOf {a b : Int} {k : K2} (h : lnB k = true) : joinB a b k = (k == lnOf a b) := by
  obtain ⟨x, y⟩ := k
  have := (lnB_iff _).1 h
  simp only at this
  unfold joinB lnOf
  rw [Bool.eq_iff_iff]
  simp only [Bool.or_eq_true, beq_iff_eq, Prod.mk.injEq]
  split
  · rw [Prod.mk.injEq]; omega
  · rw [Prod.mk.injEq]; omega
theorem atE_eq {ks : List K2} (a b : Int) (h : lnsB ks = true) : atE ks a b = atL ks a b := firstP_congr fun k hk => joinB_lnOf (((lns_iff ks).1 h).2.1 k hk)
/-- one behind those ahead of it -/
def insK (ks : List K2) (l : K2) (i : Nat) : List K2 := ks.take i ++ l :: ks.drop i
def upM (ks : List K2) (a b : Int) : List K2 :=
  if lnsB ks = true ∧ atL ks a b < 0 then (if lnsB (insK ks (lnOf a b) (ks.takeWhile fun k => aheadB k (lnOf a b)).length) = true then insK ks (lnOf a b) (ks.takeWhile fun k => aheadB k (lnOf a b)).length else ks) else ks
def downM (ks : List K2) (a b : Int) : List K2 := if lnsB ks = true ∧ 0 ≤ atL ks a b then ks.eraseIdx (atL ks a b).toNat else ks
theorem ins_len (ks : List K2) (l : K2) (i : Nat) (h : i ≤ ks.length) : (insK ks l i).length = ks.length + 1 := by simp [insK]; omega
theorem ins_mem {ks : List K2} {l k : K2} {i : Nat} : k ∈ insK ks l i ↔ k = l ∨ k ∈ ks := by
  unfold insK
  have e : k ∈ ks ↔ k ∈ ks.take i ∨ k ∈ ks.drop i := by rw [← List.mem_append, List.take_append_drop]
  rw [List.mem_append, List.mem_cons, e]
  constructor
  · rintro (h | h | h)
    · exact .inr (.inl h)
    · exact .inl h
    · exact .inr (.inr h)
  · rintro (h | h | h)
    · exact .inr (.inl h)
    · exact .inl h
    · exact .inr (.inr h)
/-- what is right with one more was right without it, and it wasn't there -/
theorem ins_right {ks : List K2} {l : K2} {i : Nat} (hi : i ≤ ks.length) (h : lnsB (insK ks l i) = true) : lnsB ks = true ∧ l ∉ ks ∧ (ks.takeWhile fun k => aheadB k l).length = i := by
  obtain ⟨h1, h2, h3⟩ := (lns_iff _).1 h
  rw [ins_len ks l i hi] at h1
  unfold insK Rising at h3
  rw [List.pairwise_append, List.pairwise_cons] at h3
  obtain ⟨r1, ⟨r2, r3⟩, r4⟩ := h3
  have hks : Rising ks := by
    unfold Rising
    rw [← List.take_append_drop i ks, List.pairwise_append]
    exact ⟨r1, r3, fun x hx y hy => r4 x hx y (List.mem_cons_of_mem _ hy)⟩
  refine ⟨(lns_iff _).2 ⟨by omega, fun k hk => h2 k (ins_mem.2 (.inr hk)), hks⟩, fun hm => ?_, ?_⟩
  · rw [← List.take_append_drop i ks, List.mem_append] at hm
    rcases hm with hm | hm
    · have := r4 l hm l (by simp)
      rw [ahead_irrefl] at this; cases this
    · have := r2 l hm
      rw [ahead_irrefl] at this; cases this
  · have e : ks = ks.take i ++ ks.drop i := (List.take_append_drop i ks).symm
    have e2 : (ks.takeWhile fun k => aheadB k l) = ks.take i := by
      conv => lhs; rw [e]
      rw [List.takeWhile_append_of_pos (fun k hk => r4 k hk l (by simp))]
      cases hd : ks.drop i with
      | nil => simp
      | cons y r =>
        have := r2 y (by rw [hd]; simp)
        simp [ahead_asymm this]
    rw [e2, List.length_take]
    omega
/-- where a search for it ends, in a rising list -/
def spotK (ks : List K2) (l : K2) (i : Nat) : Prop := i ≤ ks.length ∧ (i = 0 ∨ aheadB (ks.getD (i - 1) (0, 0)) l = true) ∧ (i = ks.length ∨ aheadB (ks.getD i (0, 0)) l = false)
theorem spot_take {ks : List K2} {l : K2} {i : Nat} (hr : Rising ks) (h : spotK ks l i) : (ks.takeWhile fun k => aheadB k l).length = i := by
  obtain ⟨h1, h2, h3⟩ := h
  unfold Rising at hr
  rw [List.pairwise_iff_getElem] at hr
  have e : ks = ks.take i ++ ks.drop i := (List.take_append_drop i ks).symm
  have e2 : (ks.takeWhile fun k => aheadB k l) = ks.take i := by
    conv => lhs; rw [e]
    rw [List.takeWhile_append_of_pos]
    · cases hd : ks.drop i with
      | nil => simp
      | cons y r =>
        have hi : i < ks.length := by
          rcases Nat.lt_or_ge i ks.length with h | h
          · exact h
          · rw [List.drop_eq_nil_of_le h] at hd; cases hd
        have hy : y = ks[i] := by
          rw [List.drop_eq_getElem_cons hi] at hd
          exact (List.cons.inj hd).1.symm
        have h4 := h3.resolve_left (by omega)
        have h5 : ks.getD i (0, 0) = ks[i] := by simp [List.getD, hi]
        rw [h5, ← hy] at h4
        simp [h4]
    · intro k hk
      obtain ⟨j, hj, rfl⟩ := List.getElem_of_mem hk
      rw [List.length_take] at hj
      have h4 := h2.resolve_left (by omega)
      have h5 : ks.getD (i - 1) (0, 0) = ks[i - 1] := by simp [List.getD, show i - 1 < ks.length by omega]
      rw [h5] at h4
      rw [List.getElem_take]
      rcases (by omega : j = i - 1 ∨ j < i - 1) with h6 | h6
      · subst h6; exact h4
      · exact ahead_trans (hr j (i - 1) (by omega) (by omega) h6) h4
  rw [e2, List.length_take]
  omega
/-- what the program puts in, wherever its search ends, is what the model does -/
theorem up_eq {ks : List K2} {a b : Int} {i : Nat} (h : spotK ks (lnOf a b) i ∨ (i ≤ ks.length ∧ lnsB ks = false)) : upM ks a b = if lnsB (insK ks (lnOf a b) i) = true then insK ks (lnOf a b) i else ks := by
  have hi : i ≤ ks.length := h.elim (fun h => h.1) (fun h => h.1)
  unfold upM
  by_cases hn : lnsB (insK ks (lnOf a b) i) = true
  · obtain ⟨h1, h2, h3⟩ := ins_right hi hn
    have h4 : atL ks a b < 0 := by
      rcases firstP_cases (fun k => k == lnOf a b) ks with ⟨h5, -⟩ | ⟨j, hj, h5, h6⟩
      · unfold atL; omega
      · have h7 := beq_iff_eq.1 h6
        exact absurd (h7 ▸ List.getElem_mem hj) h2
    rw [if_pos ⟨h1, h4⟩, h3, if_pos hn]
  · rw [if_neg hn]
    split
    · rename_i hc
      have hs := h.resolve_right (by rw [hc.1]; simp)
      rw [spot_take ((lns_iff _).1 hc.1).2.2 hs, if_neg hn]
    · rfl
/-- who is near -/
def nrF (id : Int) (k : K2) : Option Int := if k.1 = id then some k.2 else if k.2 = id then some k.1 else none
def nearM (ks : List K2) (id : Int) : List Int := if lnsB ks = true then ks.filterMap (nrF id) else []
end Go.Proofs.Ytpfnpinoamjcjaa
namespace Go.Proofs.Ytpfnpinoamjcjaa
open Go.ChangeShapes Go.WideShapes Go.ChangeAt Go.RowKit Go.BigFrame
set_option linter.unusedVariables false
set_option linter.unusedSimpArgs false

theorem wpList_append_in1 {ops : Array Oper} {rest : List Oper} {o : Oper} {a : Act} {w : World} {Q : Exit → Act → World → Prop} (hgd : o.guard = none) (s x : Operand)
    (ho : o.op = .call { callee := .builtin .append, args := #[s, x], argTypes := #[33, 33] })
    {base : Nat} {v : Value} {xs : List Int} (hown : w.ownsRow base 3 1 v xs.length (intsV xs)) (g : Nat) (z : Int) (hu : w.heap[g]? = some (.cells #[.int .i64 z] 3 (0, 0))) (hs : a.eval s = v) (hx : a.eval x = .slice (some ⟨g, 0, none⟩) 1 1) (hn : xs.length ≤ 1000000) (hbase : base ≤ w.heap.size)
    (h : ∀ v' w', w'.ownsRow base 3 1 v' (xs ++ [z]).length (intsV (xs ++ [z])) → w.grownBy w' v.ownBlock → wpList Try.prog ops Q rest (a.put o.dst v') w') : wpList Try.prog ops Q (o :: rest) a w := by
  refine wpList_plain hgd fun K hK => ?_
  have hz : inAt w (.slice (some ⟨g, 0, none⟩) 1 1) [z] := ⟨_, 1, rfl, by simp, .inr ⟨g, 0, rfl, (Array.getElem?_eq_some_iff.1 hu).1, fun i hi => by
    obtain rfl : i = 0 := by simpa using hi
    rw [cell_of_row _ _ _ _ _ _ hu]; rfl⟩⟩
  obtain ⟨v', w', hr, h2, h3⟩ := run_append_in hown _ [z] hz o.type (by simp; omega) hbase
  unfold Oper.wp execOp
  simp only [ho, resolve, invoke, builtin, Sem.run_bind, Sem.run_pure, Result.andThen_ok, List.map_toArray, List.map_cons, List.map_nil, hs, hx, hr]
  refine hK _ _ (h v' w' ?_ h3)
  rw [List.length_append, intsV_app]
  exact h2
/-- numbers of one's own, while they are put together -/
def IlD (w0 wr : World) (v : Value) (xs : List Int) : Prop := wr.ownsRow w0.heap.size 3 1 v xs.length (intsV xs) ∧ Below w0.heap.size w0 wr
theorem IlD.own {w0 wr : World} {v : Value} {xs : List Int} (h : IlD w0 wr v xs) : wr.ownsRow w0.heap.size 3 1 v xs.length (intsV xs) := h.1
theorem IlD.below {w0 wr : World} {v : Value} {xs : List Int} (h : IlD w0 wr v xs) : Below w0.heap.size w0 wr := h.2
theorem IlD.at {w0 wr : World} {v : Value} {xs : List Int} (h : IlD w0 wr v xs) : inAt wr v xs := inAt_own h.1 rfl
theorem IlD.next {w0 wr w1 : World} {v : Value} {xs : List Int} (h : IlD w0 wr v xs) (hb : Below wr.heap.size wr w1) : IlD w0 w1 v xs := ⟨own_below h.1 hb, h.2.trans (hb.mono h.2.size)⟩
theorem IlD.alloc {w0 wr : World} {v : Value} {xs : List Int} (h : IlD w0 wr v xs) (o : Obj) : IlD w0 (wr.alloc o) v xs := h.next ((Below.refl _ _).alloc (Nat.le_refl _) _)
theorem IlD.push {w0 wr w1 : World} {v v' : Value} {xs ys : List Int} (h : IlD w0 wr v xs) (ho : w1.ownsRow w0.heap.size 3 1 v' ys.length (intsV ys)) (hg : wr.grownBy w1 v.ownBlock) : IlD w0 w1 v' ys :=
  ⟨ho, h.2.grown hg h.2.size (fun g hg => (h.1.lt g hg).1)⟩
theorem IlD.nil (w : World) : IlD w w (.slice none 0 0) [] := ⟨World.ownsRow_nil _ _ _ _, Below.refl _ _⟩
theorem IlD.shape {w0 wr : World} {v : Value} {xs : List Int} (h : IlD w0 wr v xs) : ∃ a c, v = .slice a xs.length c := by
  rcases ownsRow_shape0 h.1 with ⟨rfl, h0⟩ | ⟨g, c, rfl⟩
  · exact ⟨none, 0, by rw [h0]⟩
  · exact ⟨_, c, rfl⟩
theorem IlD.shape2 {w0 wr : World} {v : Value} {xs : List Int} (h : IlD w0 wr v xs) (n : Nat) (hn : n = xs.length) : ∃ a c, v = .slice a n c := by subst hn; exact h.shape

/-- one into rising numbers, as the model does it -/
def putStep (id : Int) (s : List Int × Bool) (x : Int) : List Int × Bool :=
  (if x = id then (if s.2 = false ∧ id ≤ x then s.1 ++ [id] else s.1) else (if s.2 = false ∧ id ≤ x then s.1 ++ [id] else s.1) ++ [x], if s.2 = false ∧ id ≤ x then true else s.2)
def putS (xs : List Int) (id : Int) : List Int × Bool := xs.foldl (putStep id) ([], false)
def putF (xs : List Int) (id : Int) : List Int := if (putS xs id).2 = true then (putS xs id).1 else (putS xs id).1 ++ [id]
/-- rising numbers -/
def IRis (l : List Int) : Prop := l.Pairwise (· < ·)
theorem iris_append {a b : List Int} : IRis (a ++ b) ↔ IRis a ∧ IRis b ∧ ∀ x ∈ a, ∀ y ∈ b, x < y := List.pairwise_append
/-- what stands at each place of the way: all that are ahead of those to come -/
theorem putS_ok (id : Int) : ∀ (xs pre : List Int) (d : Bool), IRis pre → IRis xs → (∀ p ∈ pre, ∀ x ∈ xs, p < x) → (d = true → id ∈ pre ∧ ∀ x ∈ xs, id < x) → (d = false → ∀ p ∈ pre, p < id) →
    IRis (xs.foldl (putStep id) (pre, d)).1 ∧ ((xs.foldl (putStep id) (pre, d)).2 = false → ∀ p ∈ (xs.foldl (putStep id) (pre, d)).1, p < id) ∧ ((xs.foldl (putStep id) (pre, d)).2 = true → id ∈ (xs.foldl (putStep id) (pre, d)).1) ∧
    (∀ y, y ≠ id → (y ∈ (xs.foldl (putStep id) (pre, d)).1 ↔ y ∈ pre ∨ y ∈ xs))
  | [], pre, d, hp, _, _, h3, h4 => ⟨hp, fun h => h4 h, fun h => (h3 h).1, fun y hy => by simp⟩
  | x :: r, pre, d, hp, hx, h2, h3, h4 => by
    obtain ⟨hx1, hx2⟩ := List.pairwise_cons.1 hx
    have hpx : ∀ p ∈ pre, p < x := fun p h => h2 p h x (by simp)
    have hpr : ∀ p ∈ pre, ∀ y ∈ r, p < y := fun p h y hy => h2 p h y (by simp [hy])
    simp only [List.foldl_cons]
    cases d with
    | true =>
      obtain ⟨h5, h6⟩ := h3 rfl
      have hxi : ¬ x = id := by have := h6 x (by simp); omega
      have e : putStep id (pre, true) x = (pre ++ [x], true) := by simp [putStep, hxi]
      rw [e]
      obtain ⟨a1, a2, a3, a4⟩ := putS_ok id r (pre ++ [x]) true (iris_append.2 ⟨hp, by simp [IRis], fun p h y hy => by rw [List.mem_singleton.1 hy]; exact hpx p h⟩) hx2 (fun p h y hy => by
        rcases List.mem_append.1 h with h | h
        · exact hpr p h y hy
        · rw [List.mem_singleton.1 h]; exact hx1 y hy) (fun _ => ⟨List.mem_append.2 (.inl h5), fun y hy => h6 y (by simp [hy])⟩) (fun h => by cases h)
      refine ⟨a1, a2, a3, fun y hy => ?_⟩
      rw [a4 y hy, List.mem_append, List.mem_singleton, List.mem_cons, or_assoc]
    | false =>
      have h5 := h4 rfl
      by_cases h6 : id ≤ x
      · by_cases h7 : x = id
        · have e : putStep id (pre, false) x = (pre ++ [id], true) := by simp [putStep, h6, h7]
          rw [e]
          obtain ⟨a1, a2, a3, a4⟩ := putS_ok id r (pre ++ [id]) true (iris_append.2 ⟨hp, by simp [IRis], fun p h y hy => by rw [List.mem_singleton.1 hy]; exact h5 p h⟩) hx2 (fun p h y hy => by
            rcases List.mem_append.1 h with h | h
            · exact hpr p h y hy
            · rw [List.mem_singleton.1 h, ← h7]; exact hx1 y hy) (fun _ => ⟨by simp, fun y hy => by rw [← h7]; exact hx1 y hy⟩) (fun h => by cases h)
          refine ⟨a1, a2, a3, fun y hy => ?_⟩
          rw [a4 y hy, List.mem_append, List.mem_singleton, List.mem_cons, h7]
          constructor
          · rintro ((h | h) | h)
            · exact .inl h
            · exact absurd h hy
            · exact .inr (.inr h)
          · rintro (h | h | h)
            · exact .inl (.inl h)
            · exact absurd h hy
            · exact .inr h
        · have e : putStep id (pre, false) x = (pre ++ [id] ++ [x], true) := by simp [putStep, h6, h7]
          rw [e]
          have hix : id < x := by omega
          obtain ⟨a1, a2, a3, a4⟩ := putS_ok id r (pre ++ [id] ++ [x]) true (iris_append.2 ⟨iris_append.2 ⟨hp, by simp [IRis], fun p h y hy => by rw [List.mem_singleton.1 hy]; exact h5 p h⟩, by simp [IRis], fun p h y hy => by
              rw [List.mem_singleton.1 hy]
              rcases List.mem_append.1 h with h | h
              · exact hpx p h
              · rw [List.mem_singleton.1 h]; exact hix⟩) hx2 (fun p h y hy => by
            rcases List.mem_append.1 h with h | h
            · rcases List.mem_append.1 h with h | h
              · exact hpr p h y hy
              · rw [List.mem_singleton.1 h]; have := hx1 y hy; omega
            · rw [List.mem_singleton.1 h]; exact hx1 y hy) (fun _ => ⟨by simp, fun y hy => by have := hx1 y hy; omega⟩) (fun h => by cases h)
          refine ⟨a1, a2, a3, fun y hy => ?_⟩
          rw [a4 y hy, List.mem_append, List.mem_append, List.mem_singleton, List.mem_singleton, List.mem_cons]
          constructor
          · rintro (((h | h) | h) | h)
            · exact .inl h
            · exact absurd h hy
            · exact .inr (.inl h)
            · exact .inr (.inr h)
          · rintro (h | h | h)
            · exact .inl (.inl (.inl h))
            · exact .inl (.inr h)
            · exact .inr h
      · have hxi : ¬ x = id := by omega
        have e : putStep id (pre, false) x = (pre ++ [x], false) := by simp [putStep, h6, hxi]
        rw [e]
        obtain ⟨a1, a2, a3, a4⟩ := putS_ok id r (pre ++ [x]) false (iris_append.2 ⟨hp, by simp [IRis], fun p h y hy => by rw [List.mem_singleton.1 hy]; exact hpx p h⟩) hx2 (fun p h y hy => by
          rcases List.mem_append.1 h with h | h
          · exact hpr p h y hy
          · rw [List.mem_singleton.1 h]; exact hx1 y hy) (fun h => by cases h) (fun _ p h => by
          rcases List.mem_append.1 h with h | h
          · exact h5 p h
          · rw [List.mem_singleton.1 h]; omega)
        refine ⟨a1, a2, a3, fun y hy => ?_⟩
        rw [a4 y hy, List.mem_append, List.mem_singleton, List.mem_cons, or_assoc]
theorem putF_ok {xs : List Int} (h : IRis xs) (id : Int) : IRis (putF xs id) ∧ ∀ y, y ∈ putF xs id ↔ y = id ∨ y ∈ xs := by
  obtain ⟨a1, a2, a3, a4⟩ := putS_ok id xs [] false (by simp [IRis]) h (by simp) (by simp) (by simp)
  unfold putF putS
  split
  · rename_i hd
    refine ⟨a1, fun y => ?_⟩
    by_cases hy : y = id
    · subst hy; simp [a3 hd]
    · rw [a4 y hy]; simp [hy]
  · rename_i hd
    have hd2 : (xs.foldl (putStep id) ([], false)).2 = false := by simpa using hd
    refine ⟨iris_append.2 ⟨a1, by simp [IRis], fun p hp y hy => by rw [List.mem_singleton.1 hy]; exact a2 hd2 p hp⟩, fun y => ?_⟩
    rw [List.mem_append, List.mem_singleton]
    by_cases hy : y = id
    · subst hy; simp
    · rw [a4 y hy]; simp [hy]
theorem iris_ext : ∀ (a b : List Int), IRis a → IRis b → (∀ k, k ∈ a ↔ k ∈ b) → a = b
  | [], [], _, _, _ => rfl
  | [], y :: b, _, _, h => by have := (h y).2 (by simp); simp at this
  | x :: a, [], _, _, h => by have := (h x).1 (by simp); simp at this
  | x :: a, y :: b, ha, hb, h => by
    have ha' := List.pairwise_cons.1 ha
    have hb' := List.pairwise_cons.1 hb
    have hxy : x = y := by
      rcases List.mem_cons.1 ((h x).1 (by simp)) with h1 | h1
      · exact h1
      · rcases List.mem_cons.1 ((h y).2 (by simp)) with h2 | h2
        · exact h2.symm
        · have e1 := hb'.1 x h1
          have e2 := ha'.1 y h2
          omega
    subst hxy
    congr 1
    refine iris_ext a b ha'.2 hb'.2 fun k => ⟨fun hk => ?_, fun hk => ?_⟩
    · rcases List.mem_cons.1 ((h k).1 (by simp [hk])) with h1 | h1
      · subst h1
        have := ha'.1 k hk
        omega
      · exact h1
    · rcases List.mem_cons.1 ((h k).2 (by simp [hk])) with h1 | h1
      · subst h1
        have := hb'.1 k hk
        omega
      · exact h1
end Go.Proofs.Ytpfnpinoamjcjaa
namespace Go.Proofs.Ytpfnpinoamjcjaa
open Go.RowKit
set_option linter.unusedVariables false

theorem set_cells {w : World} {B j : Nat} {cs : Array Value} {t : TypeId} (u : Value) (h : w.heap[B]? = some (.cells cs t (0, 0))) : (w.setCell ⟨B, j, none⟩ u).heap[B]? = some (.cells (cs.setIfInBounds j u) t (0, 0)) := by
  obtain ⟨hlt, hk⟩ := Array.getElem?_eq_some_iff.1 h
  show (w.heap.modify B _)[B]? = _
  rw [Array.getElem?_eq_getElem (by rw [Array.size_modify]; exact hlt), Array.getElem_modify_self, hk]
  rfl
end Go.Proofs.Ytpfnpinoamjcjaa
namespace Go.Proofs.Ytpfnpinoamjcjaa
open Go.ChangeShapes Go.WideShapes Go.ChangeAt Go.RowKit Go.BigFrame
set_option linter.unusedVariables false

theorem link_load {w : World} {g o : Nat} {k : K2} (hc : w.cell? ⟨g, o, none⟩ = some (.int .i64 k.1) ∧ w.cell? ⟨g, o + 1, none⟩ = some (.int .i64 k.2)) {w' : World} (hg : g < w.heap.size) (hb : Below w.heap.size w w') :
    (loadVar 49 ⟨g, o, none⟩).run Try.prog w' = .ok (kv k) w' := by
  refine run_loadVar_mid w' g o 49 [.int .i64 k.1, .int .i64 k.2] _ (fun j v hj => ?_) Try.underlying49 rfl (by kernel_rfl)
  have hj2 : j < 2 := by have := (List.getElem?_eq_some_iff.1 hj).1; simpa using this
  rcases (by omega : j = 0 ∨ j = 1) with rfl | rfl
  · rw [hb.cell (p := ⟨g, o + 0, none⟩) hg]
    simpa using hc.1.trans (by simpa using hj)
  · rw [hb.cell (p := ⟨g, o + 1, none⟩) hg]
    simpa using hc.2.trans (by simpa using hj)
theorem link_equal (p q : K2) (w : World) : (Op.equalIn 10000 49 (kv p) (kv q)).run Try.prog w = .ok (p == q) w := by
  obtain ⟨a, b⟩ := p; obtain ⟨c, d⟩ := q
  have u3 := Try.underlying3
  have hS : Try.prog.underlying 49 = some (.struct (Try.prog.fieldsOf 49)) := by kernel_rfl
  unfold kv
  rw [show (10000 : Nat) = 9999 + 1 from rfl, run_equalIn_agg w 9999 49 _ _ hS (by kernel_rfl)]
  simp only [Program.fieldsOf, Try.underlying49]
  go_simp
  by_cases h1 : a = c <;> by_cases h2 : b = d <;> simp [h1, h2]
theorem link_eql (p q : K2) (w : World) : (binOp .eql 49 (kv p) (kv q)).run Try.prog w = .ok (.bool (p == q)) w := by
  have := link_equal p q w
  unfold kv at *
  rw [run_eql_struct, this]; rfl
theorem link_guard (op : BinOp) (x y : Operand) (p q : K2) (w : World) : (eqGuard op 49 x y (kv p) (kv q)).run Try.prog w = .ok () w := by
  unfold kv
  exact run_eqGuard_agg w op 49 x y _ _ (by kernel_rfl)
theorem infoLn : (Try.prog.info? 49).map (fun i => (i.zero, i.size, i.bytes)) = some (some (.agg #[.int .i64 0, .int .i64 0]), 2, 16) := by kernel_rfl
/-- what is owned leads to its keys -/
theorem linksAt_own {w : World} {base : Nat} {v : Value} {ks : List K2} (h : w.ownsRow base 49 2 v ks.length (keyCells ks)) : keysAt w v ks := by
  rcases h.2 with ⟨rfl, h0⟩ | ⟨g, cap, cur, rfl, hb, hg, hn, hm, hs, ht⟩
  · exact ⟨none, 0, by rw [h0], by omega, .inl h0⟩
  · refine ⟨_, cap, rfl, hn, .inr ⟨g, 0, rfl, (Array.getElem?_eq_some_iff.1 hg).1, fun i hi => ?_⟩⟩
    have hc := keyCells_get ks i hi
    rw [Nat.zero_add, h.cellAt (i * 2) (by omega), h.cellAt (i * 2 + 1) (by omega)]
    exact hc
end Go.Proofs.Ytpfnpinoamjcjaa
namespace Go.Proofs.Ytpfnpinoamjcjaa
open Go.RowKit Go.Shelf
set_option linter.unusedVariables false

def LBoxed (W : World) (B : Nat) (k : K2) : Prop := W.heap[B]? = some (.cells #[.int .i64 k.1, .int .i64 k.2] 49 (0, 0))
theorem LBoxed.lt {W : World} {B : Nat} {k : K2} (h : LBoxed W B k) : B < W.heap.size := (Array.getElem?_eq_some_iff.1 h).1
theorem LBoxed.cell0 {W : World} {B : Nat} {k : K2} (h : LBoxed W B k) : W.cell? ⟨B, 0, none⟩ = some (.int .i64 k.1) := by simp [World.cell?, show W.heap[B]? = _ from h]
theorem LBoxed.cell1 {W : World} {B : Nat} {k : K2} (h : LBoxed W B k) : W.cell? ⟨B, 1, none⟩ = some (.int .i64 k.2) := by simp [World.cell?, show W.heap[B]? = _ from h]
theorem LBoxed.new (W : World) (k : K2) : LBoxed (W.alloc (.cells #[.int .i64 k.1, .int .i64 k.2] 49)) W.heap.size k := World.alloc_heap_new W _
theorem LBoxed.kept {W W' : World} {row : Option Nat} {B : Nat} {k : K2} (h : LBoxed W B k) (hg : W.grownBy W' row) (hne : some B ≠ row) : LBoxed W' B k := (hg.block B h.lt hne).trans h
theorem LBoxed.alloc {W : World} {B : Nat} {k : K2} (h : LBoxed W B k) (o : Obj) : LBoxed (W.alloc o) B k := h.kept (World.grownBy_alloc W o none) (by simp)
theorem LBoxed.other {W : World} {B B' : Nat} {k : K2} (h : LBoxed W B k) (hne : B ≠ B') (u : Value) : LBoxed (W.setCell ⟨B', 0, none⟩ u) B k := h.kept (grownBy_setCell' W B' u) (fun e => hne (by cases e; rfl))
theorem LBoxed.load {w : World} {B : Nat} {k : K2} (h : LBoxed w B k) : (loadVar 49 ⟨B, 0, none⟩).run Try.prog w = .ok (kv k) w := link_load (o := 0) ⟨h.cell0, h.cell1⟩ h.lt (Below.refl _ _)
theorem LBoxed.set {w : World} {B : Nat} {k : K2} (k' : K2) (h : LBoxed w B k) : LBoxed ((w.setCell ⟨B, 0, none⟩ (.int .i64 k'.1)).setCell ⟨B, 1, none⟩ (.int .i64 k'.2)) B k' :=
  set_cells _ (set_cells _ h)
theorem load_oneQ {t : TypeId} {w : World} {p : Addr} {v : Value} (ht : ∀ w, (isAgg t).run Try.prog w = .ok false w) (h : w.cell? p = some v) : (loadVar t p).run Try.prog w = .ok v w := by
  unfold loadVar
  simp only [Sem.run_bind, ht, Result.andThen_ok]
  rw [if_neg (by simp)]
  simp [h]
theorem sint_load {w : World} {p : Addr} {z : Int} (h : w.cell? p = some (.int .i64 z)) : (loadVar 3 p).run Try.prog w = .ok (.int .i64 z) w := load_oneQ (fun w => by simp [isAgg, underlying, Try.underlying3]) h
end Go.Proofs.Ytpfnpinoamjcjaa
namespace Go.Proofs.Ytpfnpinoamjcjaa
open Go
section
variable {P : Program} {ops : Array Oper} {Q : Exit → Act → World → Prop} {md : Region.Mode} {S : World → Prop}

/-- whatever order is picked from here on; behind each operation a sharper condition holds -/
def wpG (P : Program) (md : Region.Mode) (ops : Array Oper) (Q : Exit → Act → World → Prop) : Nat → (World → Prop) → Array Bool → Act → World → Prop
  | 0, _, listed, a, w => Region.ready md ops listed = [] ∧ Q .normal a w
  | fuel + 1, S, listed, a, w =>
    (Region.ready md ops listed = [] → Q .normal a w) ∧
    ∀ i ∈ Region.ready md ops listed, wpOp P ops Q i (fun a' w' => ∃ S' : World → Prop, (∀ x, S' x → S x) ∧ S' w' ∧ wpG P md ops Q fuel S' (listed.setIfInBounds i true) a' w') a w

theorem wpAny_of_G : ∀ (fuel : Nat) (S : World → Prop) (listed : Array Bool) (a : Act) (w : World), wpG P md ops Q fuel S listed a w → wpAny P md ops Q fuel listed a w
  | 0, _, _, _, _, h => h
  | fuel + 1, S, _, _, _, h => ⟨h.1, fun i hi => wpOp_mono (fun a' w' ⟨S', _, _, h'⟩ => wpAny_of_G fuel S' _ a' w' h') (h.2 i hi)⟩

theorem YieldsIf.sharper {S' : World → Prop} {o : Oper} {v : Value} {a : Act} (h : ∀ x, S' x → S x) (hy : YieldsIf P ops S o v a) : YieldsIf P ops S' o v a :=
  hy.imp (fun ⟨hw, hv⟩ => ⟨hw, fun w hs => hv w (h w hs)⟩) id

theorem wpG_first {i : Nat} {oi : Oper} {v : Value} (hi : ops[i]? = some oi) (hsel : ∀ (j : Nat) (o : Oper) cs b, ops[j]? = some o → o.op ≠ .select cs b)
    (hQ : ∀ c a w, Q (.panic c) (a.put oi.dst v) w → Q (.panic c) a w) :
    ∀ (fuel : Nat) (S : World → Prop) (listed : Array Bool) (a : Act) (w : World),
      (∀ j oj, ops[j]? = some oj → j ≠ i → listed.getD j true = false → (∀ e ∈ oj.after, Region.binds md e = true → e.on ≠ i) → oi.apart ops oj = true) →
      i ∈ Region.ready md ops listed → YieldsIf P ops S oi v a → S w →
      wpG P md ops Q fuel S (listed.setIfInBounds i true) (a.put oi.dst v) w → wpG P md ops Q (fuel + 1) S listed a w := by
  intro fuel
  induction fuel with
  | zero =>
    intro S listed a w _ hr hy hS H
    refine ⟨fun h => (by rw [h] at hr; cases hr), fun j hj => ?_⟩
    by_cases hji : j = i
    · subst hji; exact hy.wpOp hi hS ⟨S, fun _ h => h, hS, H⟩
    · have := ready_mono hj hji
      rw [H.1] at this
      cases this
  | succ fuel ih =>
    intro S listed a w hfree hr hy hS H
    refine ⟨fun h => (by rw [h] at hr; cases hr), fun j hj => ?_⟩
    by_cases hji : j = i
    · subst hji; exact hy.wpOp hi hS ⟨S, fun _ h => h, hS, H⟩
    · have h1 := H.2 j (ready_mono hj hji)
      obtain ⟨hjun, oj, hoj, hall⟩ := mem_ready.1 hj
      have hnot : ∀ e ∈ oj.after, Region.binds md e = true → e.on ≠ i := fun e he hb heq => by
        have h1 := hall e he hb
        have h0 := (mem_ready.1 hr).1
        rw [heq] at h1
        rcases Nat.lt_or_ge i listed.size with h' | h'
        · simp [h'] at h0 h1; rw [h0] at h1; cases h1
        · simp [Array.getElem?_eq_none h'] at h1
      have h2 := wpOp_putIf hoj (hfree j oj hoj hji hjun hnot) (fun cs b => hsel i oi cs b hi) (fun cs b => hsel j oj cs b hoj) hQ hy h1
      have hfree' : ∀ k ok, ops[k]? = some ok → k ≠ i → (listed.setIfInBounds j true).getD k true = false →
          (∀ e ∈ ok.after, Region.binds md e = true → e.on ≠ i) → oi.apart ops ok = true := fun k ok hk hki hun hno => by
        refine hfree k ok hk hki ?_ hno
        by_cases hjk : j = k
        · subst hjk; exact hjun
        · rw [getD_set_ne true hjk] at hun; exact hun
      refine wpOp_mono (fun a' w' h3 => ?_) h2
      obtain ⟨hy3, S', hs, hs2, h4⟩ := h3
      refine ⟨S', hs, hs2, ih S' (listed.setIfInBounds j true) a' w' hfree' (ready_mono hr (Ne.symm hji)) (YieldsIf.sharper hs hy3) hs2 ?_⟩
      rw [Array.setIfInBounds_comm _ _ hji]
      exact h4

/-- an operation that hands back a value and nothing else -/
def valueOp : Op → Bool
  | .move _ | .assign _ | .pick _ _ _ | .load _ _ | .binOp _ _ _ _ _ | .unOp _ _ _ | .convert _ _ _ | .slice _ _ _ _ _ | .fieldAddr _ _ _ | .field _ _ _ | .indexAddr _ _ _ | .index _ _ _ | .extract _ _ => true
  | _ => false
theorem value_of_run {α : Type} (s : Sem α) (f : α → Value) (w w' : World) (n : Next) (h : ((do pure (Next.value (f (← s)))) : Sem Next).run P w = .ok n w') : ∃ u, n = .value u := by
  rw [Sem.run_bind] at h
  cases hs : s.run P w with
  | ok v w1 =>
    rw [hs] at h
    simp only [Result.andThen, Sem.run_pure, Result.ok.injEq] at h
    exact ⟨_, h.1.symm⟩
  | halt x w1 => rw [hs] at h; simp [Result.andThen] at h
theorem valueOp_spec {o : Oper} (h : valueOp o.op = true) (ρ : Operand → Value) (w w' : World) (n : Next) (hr : (execOp ρ o).run P w = .ok n w') : ∃ u, n = .value u := by
  unfold execOp at hr
  cases ho : o.op <;> rw [ho] at h hr <;> simp only [valueOp] at h <;> try (exact absurd h Bool.false_ne_true)
  all_goals dsimp only at hr
  all_goals first
    | (simp only [Sem.run_pure, Result.ok.injEq] at hr; exact ⟨_, hr.1.symm⟩)
    | exact value_of_run _ (fun v => v) w w' n hr
    | exact value_of_run _ _ w w' n hr
theorem yields_of_quiet {o : Oper} {a : Act} {v : Value} (hv : valueOp o.op = true) (hw : Region.wanted o (yielded ops a.tmps) = true) (h : ∀ w, S w → o.quietAt P a S w v) : YieldsIf P ops S o v a := by
  refine .inl ⟨hw, fun w hs => ?_⟩
  have h1 := h w hs
  unfold Oper.quietAt at h1
  cases hr : (execOp a.eval o).run P w with
  | ok n w' =>
    obtain ⟨u, rfl⟩ := valueOp_spec hv a.eval w w' n hr
    rw [hr] at h1
    simp only [Oper.quietUpon] at h1
    obtain ⟨rfl, rfl⟩ := h1
    rfl
  | halt x w' => rw [hr] at h1; exact absurd h1 (by simp [Oper.quietUpon])

/-- the takes of a segment, in the order of the text -/
def takesB (md : Region.Mode) (l : List Oper) : List Bool → Nat → Array Bool → Bool
  | true :: m, i, listed => (match l[i]? with | some o => valueOp o.op | none => false) && Region.free md l.toArray listed i && (Region.ready md l.toArray listed).contains i && takesB md l m (i + 1) (listed.setIfInBounds i true)
  | false :: m, i, listed => takesB md l m (i + 1) listed
  | [], _, _ => true
def takenL : List Bool → Nat → Array Bool → Array Bool
  | true :: m, i, listed => takenL m (i + 1) (listed.setIfInBounds i true)
  | false :: m, i, listed => takenL m (i + 1) listed
  | [], _, listed => listed
def countT : List Bool → Nat
  | true :: m => countT m + 1
  | false :: m => countT m
  | [] => 0
theorem takes_G {l : List Oper} (hs : Region.noSelect l.toArray = true) (hQ : ∀ c a d v w, Q (.panic c) (Act.put a d v) w → Q (.panic c) a w) {S : World → Prop} {w : World} (hS : S w) {R : Act → Prop} :
    ∀ (m : List Bool) (i fuel : Nat) (listed : Array Bool) (a : Act), takesB md l m i listed = true → m.length + i ≤ l.length →
      (∀ a', R a' → wpG P md l.toArray Q fuel S (takenL m i listed) a' w) → wpQuiet P l.toArray S R (maskRows m (l.drop i)) a → wpG P md l.toArray Q (fuel + countT m) S listed a w
  | [], i, fuel, listed, a, _, _, hk, h => hk a (by simpa [maskRows, wpQuiet] using h)
  | false :: m, i, fuel, listed, a, hb, hl, hk, h => by
    have hlt : i < l.length := by simp only [List.length_cons] at hl; omega
    rw [List.drop_eq_getElem_cons hlt] at h
    exact takes_G hs hQ hS m (i + 1) fuel listed a hb (by simp only [List.length_cons] at hl; omega) hk h
  | true :: m, i, fuel, listed, a, hb, hl, hk, h => by
    have hlt : i < l.length := by simp only [List.length_cons] at hl; omega
    rw [List.drop_eq_getElem_cons hlt] at h
    simp only [takesB, Bool.and_eq_true] at hb
    obtain ⟨⟨⟨hv, hf⟩, hr⟩, hb⟩ := hb
    have ho : l.toArray[i]? = some l[i] := by simp [hlt]
    rw [show l[i]? = some l[i] from by simp [hlt]] at hv
    dsimp only at hv
    simp only [maskRows, wpQuiet] at h
    have hin : i ∈ Region.ready md l.toArray listed := by simpa using hr
    show wpG P md l.toArray Q (fuel + countT m + 1) S listed a w
    by_cases hw : Region.wanted l[i] (yielded l.toArray a.tmps) = true
    · rw [if_pos hw] at h
      obtain ⟨v, h1, h2⟩ := h
      exact wpG_first ho (Region.noSelect_spec hs) (fun c a w => hQ c a _ _ w) _ S listed a w (Region.free_spec ho hf) hin (yields_of_quiet hv hw h1) hS
        (takes_G hs hQ hS m (i + 1) fuel _ _ hb (by simp only [List.length_cons] at hl; omega) hk h2)
    · rw [if_neg hw] at h
      exact wpG_first ho (Region.noSelect_spec hs) (fun c a w => hQ c a _ _ w) _ S listed a w (Region.free_spec ho hf) hin (.inr ⟨by simpa using hw, rfl⟩) hS
        (takes_G hs hQ hS m (i + 1) fuel _ _ hb (by simp only [List.length_cons] at hl; omega) hk h)
theorem wpG_done {listed : Array Bool} {a : Act} {w : World} (hr : Region.ready md ops listed = []) (h : Q .normal a w) : ∀ fuel, wpG P md ops Q fuel S listed a w
  | 0 => ⟨hr, h⟩
  | _ + 1 => ⟨fun _ => h, by rw [hr]; simp⟩
end
end Go.Proofs.Ytpfnpinoamjcjaa
namespace Go.Proofs.Ytpfnpinoamjcjaa
open Go
section
variable {P : Program} {Q : Exit → Act → World → Prop} {md : Region.Mode} {S : World → Prop}
def segtB (md : Region.Mode) (l : List Oper) (m : List Bool) (rd : List Nat) (fuel fuel' : Nat) (listed : Array Bool) : Bool :=
  decide (fuel = fuel' + 1 + countT m) && decide (m.length ≤ l.length) && takesB md l m 0 listed && decide (Region.ready md l.toArray (takenL m 0 listed) = rd) && !rd.isEmpty
/-- what reads is taken; then one after another of what is ready is tried -/
theorem wpG_seg {l : List Oper} (m : List Bool) (rd : List Nat) (fuel' : Nat) {fuel : Nat} {listed : Array Bool} {a : Act} {w : World} (hs : Region.noSelect l.toArray = true)
    (hQ : ∀ c a d v w, Q (.panic c) (Act.put a d v) w → Q (.panic c) a w) (hb : segtB md l m rd fuel fuel' listed = true) (hS : S w)
    (h : wpQuiet P l.toArray S (fun a' => ∀ i ∈ rd, wpOp P l.toArray Q i (fun a'' w'' => ∃ S' : World → Prop, (∀ x, S' x → S x) ∧ S' w'' ∧ wpG P md l.toArray Q fuel' S' ((takenL m 0 listed).setIfInBounds i true) a'' w'') a' w) (maskRows m l) a) :
    wpG P md l.toArray Q fuel S listed a w := by
  simp only [segtB, Bool.and_eq_true, decide_eq_true_eq, Bool.not_eq_true'] at hb
  obtain ⟨⟨⟨⟨h1, h2⟩, h3⟩, h4⟩, h5⟩ := hb
  subst h1
  refine takes_G (P := P) (md := md) hs hQ hS (R := fun a' => ∀ i ∈ rd, wpOp P l.toArray Q i (fun a'' w'' => ∃ S' : World → Prop, (∀ x, S' x → S x) ∧ S' w'' ∧ wpG P md l.toArray Q fuel' S' ((takenL m 0 listed).setIfInBounds i true) a'' w'') a' w) m 0 (fuel' + 1) listed a h3 (by omega) (fun a' hq => ?_) (by simpa using h)
  refine ⟨fun h0 => (by rw [h4] at h0; rw [h0] at h5; cases h5), fun j hj => ?_⟩
  rw [h4] at hj
  exact hq j hj
def segeB (md : Region.Mode) (l : List Oper) (m : List Bool) (fuel : Nat) (listed : Array Bool) : Bool :=
  decide (countT m ≤ fuel) && decide (m.length ≤ l.length) && takesB md l m 0 listed && decide (Region.ready md l.toArray (takenL m 0 listed) = [])
theorem wpG_end {l : List Oper} (m : List Bool) {fuel : Nat} {listed : Array Bool} {a : Act} {w : World} (hs : Region.noSelect l.toArray = true)
    (hQ : ∀ c a d v w, Q (.panic c) (Act.put a d v) w → Q (.panic c) a w) (hb : segeB md l m fuel listed = true) (hS : S w)
    (h : wpQuiet P l.toArray S (fun a' => Q .normal a' w) (maskRows m l) a) : wpG P md l.toArray Q fuel S listed a w := by
  simp only [segeB, Bool.and_eq_true, decide_eq_true_eq] at hb
  obtain ⟨⟨⟨h1, h2⟩, h3⟩, h4⟩ := hb
  have := takes_G (P := P) (md := md) hs hQ hS (R := fun a' => Q .normal a' w) m 0 (fuel - countT m) listed a h3 (by omega) (fun a' hq => wpG_done h4 hq _) (by simpa using h)
  rwa [Nat.sub_add_cancel h1] at this
theorem wp_region_G {id : Nat} {a : Act} {w : World} {l : List Oper} (S : World → Prop) (hm : P.follows .mixedOrders = true) (h : wpG P .any l.toArray Q l.length S (Array.replicate l.length false) a w.drew) :
    (Code.region id l.toArray true).wp P Q a w := wp_region_any hm (wpAny_of_G _ _ _ _ _ (by simpa using h))
/-- one that is carried out -/
theorem segt_run {l : List Oper} {fuel : Nat} {listed : Array Bool} {i : Nat} {o : Oper} {a : Act} {w : World} (ho : l.toArray[i]? = some o) (hw : Region.wanted o (yielded l.toArray a.tmps) = true)
    (h : ∀ K : Act → World → Prop, (∀ a' w', (∃ S' : World → Prop, (∀ x, S' x → S x) ∧ S' w' ∧ wpG P md l.toArray Q fuel S' listed a' w') → K a' w') → o.wp P a w K Q) :
    wpOp P l.toArray Q i (fun a'' w'' => ∃ S' : World → Prop, (∀ x, S' x → S x) ∧ S' w'' ∧ wpG P md l.toArray Q fuel S' listed a'' w'') a w := by
  unfold wpOp
  simp only [ho, hw, if_true]
  exact .inl (h _ fun _ _ h => h)
end
end Go.Proofs.Ytpfnpinoamjcjaa
namespace Go.Proofs.Ytpfnpinoamjcjaa
open Go.ChangeShapes Go.WideShapes Go.ChangeAt Go.RowKit Go.BigFrame
set_option linter.unusedVariables false
set_option linter.unusedSimpArgs false

def cmpI (x y : Int) : Int := if x < y then -1 else if y < x then 1 else 0
def byI (p q : K2) : Int := if cmpI p.1 q.1 = 0 then cmpI p.2 q.2 else cmpI p.1 q.1
theorem byI_neg (p q : K2) : decide (byI p q < 0) = aheadB p q := by
  rw [Bool.eq_iff_iff, decide_eq_true_eq, ahead_iff]
  unfold byI cmpI
  split <;> split at * <;> (try split at *) <;> (try split) <;> (try split) <;> omega
theorem byI_lt (p q : K2) : byI p q < 0 ↔ aheadB p q = true := by rw [← byI_neg, decide_eq_true_eq]
theorem inan_any (x : Int) (w : World) : Calls Try.prog 74 #[.int .i64 x] w fun e w' => e = .returned (.bool false) ∧ w' = w := by
  go_enter Try.func74, Try.ntmps74
  go_wp2
  go_ret
  exact ⟨by simp, rfl⟩
set_option maxRecDepth 100000 in
theorem icmp_any (x y : Int) (w : World) : Calls Try.prog 62 #[.int .i64 x, .int .i64 y] w fun e w' => e = .returned (.int .i64 (cmpI x y)) ∧ w' = w := by
  have HN := Lib.hid inan_any
  unfold cmpI
  by_cases h1 : x < y
  · go_enter Try.func62, Try.ntmps62
    go_wp2_with fail
    refine (HN.out _ _).mono ?_
    rintro e w1 ⟨rfl, rfl⟩
    go_wp2_with fail
    refine (HN.out _ _).mono ?_
    rintro e w1 ⟨rfl, rfl⟩
    go_wp2
    go_ret
    exact ⟨by simp [h1], rfl⟩
  · by_cases h2 : y < x
    · go_enter Try.func62, Try.ntmps62
      go_wp2_with fail
      refine (HN.out _ _).mono ?_
      rintro e w1 ⟨rfl, rfl⟩
      go_wp2_with fail
      refine (HN.out _ _).mono ?_
      rintro e w1 ⟨rfl, rfl⟩
      go_wp2
      go_ret
      exact ⟨by simp [h1, h2], rfl⟩
    · go_enter Try.func62, Try.ntmps62
      go_wp2_with fail
      refine (HN.out _ _).mono ?_
      rintro e w1 ⟨rfl, rfl⟩
      go_wp2_with fail
      refine (HN.out _ _).mono ?_
      rintro e w1 ⟨rfl, rfl⟩
      go_wp2
      go_ret
      exact ⟨by simp [h1, h2], rfl⟩
set_option maxRecDepth 100000 in
theorem ior2_any (g : Nat) (a b : Int) (w : World) (h0 : w.cell? ⟨g, 0, none⟩ = some (.int .i64 a)) (h1 : w.cell? ⟨g, 1, none⟩ = some (.int .i64 b)) :
    Calls Try.prog 61 #[.slice (some ⟨g, 0, none⟩) 2 2] w fun e w' => e = .returned (.int .i64 (if a = 0 then b else a)) ∧ w' = w := by
  go_enter Try.func61, Try.ntmps61
  go_wp2
  go_loopw [8] (fun i wr => wr = w ∧ (i = .int .i64 0 ∨ (i = .int .i64 1 ∧ a = 0) ∨ (i = .int .i64 2 ∧ a = 0 ∧ b = 0))) (fun i _ => 2 - (intOf i).toNat)
  case atStart => exact ⟨rfl, .inl rfl⟩
  case round =>
    obtain ⟨rfl, rfl | ⟨rfl, ha⟩ | ⟨rfl, ha, hb⟩⟩ := hrel
    · by_cases ha : a = 0
      · subst ha
        go_wp2
        exact ⟨by simp, by simp [intOf]⟩
      · go_wp2
        go_ret
        exact ⟨by simp only [if_neg ha]; rfl, rfl⟩
    · subst ha
      by_cases hb : b = 0
      · subst hb
        go_wp2
        exact ⟨by simp, by simp [intOf]⟩
      · go_wp2
        go_ret
        exact ⟨by simp, rfl⟩
    · subst ha; subst hb
      go_wp2
      go_ret
      exact ⟨by simp, rfl⟩
set_option maxRecDepth 100000 in
set_option maxHeartbeats 1000000 in
theorem ibyboth_any (p q : K2) (w : World) : Calls Try.prog 43 #[kv p, kv q] w fun e w' => e = .returned (.int .i64 (byI p q)) ∧ Below w.heap.size w w' := by
  have HC1 := Lib.hid (fun w => icmp_any p.1 q.1 w)
  have HC2 := Lib.hid (fun w => icmp_any p.2 q.2 w)
  have HO := Lib.hid ior2_any
  have HIF := Lib.hid (show byI p q = if cmpI p.1 q.1 = 0 then cmpI p.2 q.2 else cmpI p.1 q.1 from rfl)
  obtain ⟨a, b⟩ := p
  obtain ⟨c, d⟩ := q
  unfold kv
  dsimp only at *
  generalize cmpI a c = m at *
  generalize cmpI b d = n at *
  generalize byI (a, b) (c, d) = z at *
  have hA := heap_first w (.cells #[.int .i64 c, .int .i64 d] 49) (.cells #[.int .i64 a, .int .i64 b] 49)
  have hB := heap_alloc_new (w.alloc (.cells #[.int .i64 a, .int .i64 b] 49)) (.cells #[.int .i64 c, .int .i64 d] 49)
  rw [show (w.alloc (.cells #[.int .i64 a, .int .i64 b] 49)).heap.size = w.heap.size + 1 by simp] at hB
  have HW := Lib.hid (((Below.refl w.heap.size w).alloc (Nat.le_refl _) (.cells #[.int .i64 a, .int .i64 b] 49)).alloc (by simp) (.cells #[.int .i64 c, .int .i64 d] 49))
  go_enter Try.func43, Try.ntmps43
  go_upto_region 1 with (fail)
  generalize (w.alloc (.cells #[.int .i64 a, .int .i64 b] 49)).alloc (.cells #[.int .i64 c, .int .i64 d] 49) = WB at *
  have l0 := (Array.getElem?_eq_some_iff.1 hA).1
  have l1 := (Array.getElem?_eq_some_iff.1 hB).1
  have LA : ∀ wx : World, Below WB.heap.size WB wx → (loadVar 3 ⟨w.heap.size, 0, none⟩).run Try.prog wx = .ok (.int .i64 a) wx := fun wx h => sint_load (by rw [h.cell (p := ⟨w.heap.size, 0, none⟩) l0, cell_of_row _ _ _ _ _ _ hA]; rfl)
  have LB : ∀ wx : World, Below WB.heap.size WB wx → (loadVar 3 ⟨w.heap.size, 1, none⟩).run Try.prog wx = .ok (.int .i64 b) wx := fun wx h => sint_load (by rw [h.cell (p := ⟨w.heap.size, 1, none⟩) l0, cell_of_row _ _ _ _ _ _ hA]; rfl)
  have LC : ∀ wx : World, Below WB.heap.size WB wx → (loadVar 3 ⟨w.heap.size + 1, 0, none⟩).run Try.prog wx = .ok (.int .i64 c) wx := fun wx h => sint_load (by rw [h.cell (p := ⟨w.heap.size + 1, 0, none⟩) l1, cell_of_row _ _ _ _ _ _ hB]; rfl)
  have LD : ∀ wx : World, Below WB.heap.size WB wx → (loadVar 3 ⟨w.heap.size + 1, 1, none⟩).run Try.prog wx = .ok (.int .i64 d) wx := fun wx h => sint_load (by rw [h.cell (p := ⟨w.heap.size + 1, 1, none⟩) l1, cell_of_row _ _ _ _ _ _ hB]; rfl)
  have HB := Lib.hid (Below.refl WB.heap.size WB)
  clear hA hB l0 l1
  refine wp_region_G (fun wx => Below WB.heap.size WB wx) (by kernel_rfl) ?_
  replace HB := Lib.hid (HB.out.drew)
  generalize (WB).drew = wD0 at *
  refine wpG_seg [true, true, true, true, false, true, true, true, true] [4] 4 (by kernel_rfl) (by intro c a d v w h; cases d <;> exact h) (by kernel_rfl) HB.out ?_
  try simp only [maskRows]
  repeat (first
    | go_big_quiet_skip
    | (go_big_quiet_want
       first
         | (go_big_quiet_op; go_big_quiet_on)
         | (refine q_load 3 _ _ _ rfl rfl LA ?_; simp only [Act.put, List.setIfInBounds_toArray, List.set_cons_zero, List.set_cons_succ]; go_big_quiet_on)
         | (refine q_load 3 _ _ _ rfl rfl LB ?_; simp only [Act.put, List.setIfInBounds_toArray, List.set_cons_zero, List.set_cons_succ]; go_big_quiet_on)
         | (refine q_load 3 _ _ _ rfl rfl LC ?_; simp only [Act.put, List.setIfInBounds_toArray, List.set_cons_zero, List.set_cons_succ]; go_big_quiet_on)
         | (refine q_load 3 _ _ _ rfl rfl LD ?_; simp only [Act.put, List.setIfInBounds_toArray, List.set_cons_zero, List.set_cons_succ]; go_big_quiet_on)
         | (go_big_quiet_op; refine ⟨_, fun _ _ => rfl, ?_⟩; go_big_quiet_on)
         | (go_big_quiet_op; refine ⟨_, fun _ _ _ => rfl, ?_⟩; go_big_quiet_on)
         | (go_big_quiet_op; refine ⟨_, fun _ _ _ _ => rfl, ?_⟩; go_big_quiet_on)))
  refine wpQuiet_nil ?_
  refine List.forall_mem_singleton.2 ?_
  refine segt_run rfl (by rfl) (fun K hK => ?_)
  go_simp
  refine (HC1.out _).mono ?_
  rintro e w1 ⟨rfl, rfl⟩
  dsimp only
  refine hK _ _ ⟨_, fun _ h => h, HB.out, ?_⟩
  clear hK K
  try simp only [Act.put, List.setIfInBounds_toArray, List.set_cons_zero, List.set_cons_succ]
  refine wpG_seg [] [9] 3 (by kernel_rfl) (by intro c a d v w h; cases d <;> exact h) (by kernel_rfl) HB.out ?_
  try simp only [maskRows]
  refine wpQuiet_nil ?_
  refine List.forall_mem_singleton.2 ?_
  refine segt_run rfl (by rfl) (fun K hK => ?_)
  go_simp
  refine (HC2.out _).mono ?_
  rintro e w2 ⟨rfl, rfl⟩
  dsimp only
  refine hK _ _ ⟨_, fun _ h => h, HB.out, ?_⟩
  clear hK K
  try simp only [Act.put, List.setIfInBounds_toArray, List.set_cons_zero, List.set_cons_succ]
  refine wpG_seg [] [10] 2 (by kernel_rfl) (by intro c a d v w h; cases d <;> exact h) (by kernel_rfl) HB.out ?_
  try simp only [maskRows]
  refine wpQuiet_nil ?_
  refine List.forall_mem_singleton.2 ?_
  refine segt_run rfl (by rfl) (fun K hK => ?_)
  go_simp
  have HX := Lib.hid (heap_alloc_new w2 (.cells #[.int .i64 m, .int .i64 n] 3))
  replace HB := Lib.hid (HB.out.alloc HB.out.size (.cells #[.int .i64 m, .int .i64 n] 3))
  generalize World.alloc w2 (.cells #[.int .i64 m, .int .i64 n] 3) = w3 at *
  generalize w2.heap.size = B at *
  refine hK _ _ ⟨_, fun _ h => h, HB.out, ?_⟩
  clear hK K
  try simp only [Act.put, List.setIfInBounds_toArray, List.set_cons_zero, List.set_cons_succ]
  refine wpG_seg [] [11] 1 (by kernel_rfl) (by intro c a d v w h; cases d <;> exact h) (by kernel_rfl) HB.out ?_
  try simp only [maskRows]
  refine wpQuiet_nil ?_
  refine List.forall_mem_singleton.2 ?_
  refine segt_run rfl (by rfl) (fun K hK => ?_)
  go_simp
  have ho := HO.out B m n w3 (by rw [cell_of_row _ _ _ _ _ _ HX.out]; rfl) (by rw [cell_of_row _ _ _ _ _ _ HX.out]; rfl)
  rw [← HIF.out] at ho
  refine ho.mono ?_
  rintro e w4 ⟨rfl, rfl⟩
  dsimp only
  refine hK _ _ ⟨_, fun _ h => h, HB.out, ?_⟩
  clear hK K
  try simp only [Act.put, List.setIfInBounds_toArray, List.set_cons_zero, List.set_cons_succ]
  refine wpG_end [false, false, false, false, false, false, false, false, false, false, false, false, true] (by kernel_rfl) (by intro c a d v w h; cases d <;> exact h) (by kernel_rfl) HB.out ?_
  try simp only [maskRows]
  repeat (first
    | go_big_quiet_skip
    | (go_big_quiet_want
       first
         | (go_big_quiet_op; go_big_quiet_on)
         | (refine q_load 3 _ _ _ rfl rfl LA ?_; simp only [Act.put, List.setIfInBounds_toArray, List.set_cons_zero, List.set_cons_succ]; go_big_quiet_on)
         | (refine q_load 3 _ _ _ rfl rfl LB ?_; simp only [Act.put, List.setIfInBounds_toArray, List.set_cons_zero, List.set_cons_succ]; go_big_quiet_on)
         | (refine q_load 3 _ _ _ rfl rfl LC ?_; simp only [Act.put, List.setIfInBounds_toArray, List.set_cons_zero, List.set_cons_succ]; go_big_quiet_on)
         | (refine q_load 3 _ _ _ rfl rfl LD ?_; simp only [Act.put, List.setIfInBounds_toArray, List.set_cons_zero, List.set_cons_succ]; go_big_quiet_on)
         | (go_big_quiet_op; refine ⟨_, fun _ _ => rfl, ?_⟩; go_big_quiet_on)
         | (go_big_quiet_op; refine ⟨_, fun _ _ _ => rfl, ?_⟩; go_big_quiet_on)
         | (go_big_quiet_op; refine ⟨_, fun _ _ _ _ => rfl, ?_⟩; go_big_quiet_on)))
  refine wpQuiet_nil ?_
  go_wp2
  go_ret
  exact ⟨rfl, HW.out.trans (HB.out.mono HW.out.size)⟩
end Go.Proofs.Ytpfnpinoamjcjaa
namespace Go.Proofs.Ytpfnpinoamjcjaa
open Go.ChangeShapes Go.WideShapes Go.ChangeAt Go.RowKit Go.BigFrame
set_option linter.unusedVariables false

theorem lnbox_load (w : World) (k : K2) (w' : World) (h : Below (w.alloc (.cells #[.int .i64 k.1, .int .i64 k.2] 49)).heap.size (w.alloc (.cells #[.int .i64 k.1, .int .i64 k.2] 49)) w') : (loadVar 49 ⟨w.heap.size, 0, none⟩).run Try.prog w' = .ok (kv k) w' :=
  link_load (o := 0) ⟨(LBoxed.new w k).cell0, (LBoxed.new w k).cell1⟩ (LBoxed.new w k).lt h
end Go.Proofs.Ytpfnpinoamjcjaa
namespace Go.Proofs.Ytpfnpinoamjcjaa
open Go.ChangeShapes Go.WideShapes Go.ChangeAt Go.RowKit Go.BigFrame
set_option linter.unusedVariables false
set_option linter.unusedSimpArgs false

set_option maxRecDepth 100000 in
theorem iisright_any (k : K2) (w : World) : Calls Try.prog 52 #[kv k] w fun e w' => e = .returned (.bool (lnB k)) ∧ Below w.heap.size w w' := by
  obtain ⟨p, q⟩ := k
  have HB := Lib.hid ((Below.refl w.heap.size w).alloc (Nat.le_refl _) (.cells #[.int .i64 p, .int .i64 q] 49))
  unfold kv
  dsimp only
  by_cases h1 : 0 ≤ p
  · by_cases h2 : p < q
    · by_cases h3 : q ≤ 20
      · rw [show lnB (p, q) = true by simp [lnB]; omega]
        go_enter Try.func52, Try.ntmps52
        go_wp2
        go_ret
        exact ⟨by simp, HB.out⟩
      · rw [show lnB (p, q) = false by simp [lnB]; omega]
        go_enter Try.func52, Try.ntmps52
        go_wp2
        go_ret
        exact ⟨by simp, HB.out⟩
    · rw [show lnB (p, q) = false by simp [lnB]; omega]
      go_enter Try.func52, Try.ntmps52
      go_wp2
      go_ret
      exact ⟨by simp, HB.out⟩
  · rw [show lnB (p, q) = false by simp [lnB]; omega]
    go_enter Try.func52, Try.ntmps52
    go_wp2
    go_ret
    exact ⟨by simp, HB.out⟩
set_option maxRecDepth 100000 in
set_option maxHeartbeats 2000000 in
theorem ilinksok_any (v : Value) (ks : List K2) (w : World) (h : keysAt w v ks) (hs : ks.length ≤ 2000000) : Calls Try.prog 22 #[v] w fun e w' => e = .returned (.bool (lnsB ks)) ∧ Below w.heap.size w w' := by
  obtain ⟨a, cap, rfl, hcap, hcells⟩ := h
  by_cases hbig : ks.length ≤ 30
  · have HL := Lib.hid (lnsB_le hbig)
    have hb30 : ¬ (30 : Int) < (ks.length : Int) := by omega
    go_enter Try.func22, Try.ntmps22
    go_wp2
    go_loopw [10] (fun i wr => ∃ k : Nat, k ≤ ks.length ∧ i = .int .i64 k ∧ (List.range k).all (lnStep ks) = true ∧ Below w.heap.size w wr) (fun i _ => ks.length - (intOf i).toNat)
    case atStart => exact ⟨0, Nat.zero_le _, rfl, rfl, Below.refl _ _⟩
    case round =>
      obtain ⟨k, hk, rfl, hall, hb⟩ := hrel
      by_cases hlt : k < ks.length
      · obtain ⟨g, off, rfl, hg, hcs⟩ := hcells.resolve_left (by omega)
        have z0 : (0 : Int) ≤ (k : Int) := by omega
        have z1 : (k : Int) < (ks.length : Int) := by omega
        have c1 := hcs k hlt
        have HST := Lib.hid (show lnStep ks k = (lnB (ks.getD k (0, 0)) && (decide (k = 0) || aheadB (ks.getD (k - 1) (0, 0)) (ks.getD k (0, 0)))) from rfl)
        have HSU := Lib.hid (lnAll_succ ks k)
        have HPREV := Lib.hid (show 0 < k → w.cell? ⟨g, off + (k - 1) * 2, none⟩ = some (.int .i64 (ks.getD (k - 1) (0, 0)).1) ∧ w.cell? ⟨g, off + (k - 1) * 2 + 1, none⟩ = some (.int .i64 (ks.getD (k - 1) (0, 0)).2) from fun h0 => hcs (k - 1) (by omega))
        have HAF := Lib.hid (show lnStep ks k = false → lnsB ks = false from fun hf => by rw [HL.out]; exact lnAll_false hlt hf)
        have HAT := Lib.hid (show lnStep ks k = true → (List.range (k + 1)).all (lnStep ks) = true from fun hf => by rw [HSU.out, hall, hf]; rfl)
        clear hcs hcells HL HSU hall
        have D1 : wr.cell? ⟨g, off + k * 2, none⟩ = some (.int .i64 (ks.getD k (0, 0)).1) := by rw [hb.cell (p := ⟨g, off + k * 2, none⟩) hg]; exact c1.1
        have D2 : wr.cell? ⟨g, off + k * 2 + 1, none⟩ = some (.int .i64 (ks.getD k (0, 0)).2) := by rw [hb.cell (p := ⟨g, off + k * 2 + 1, none⟩) hg]; exact c1.2
        clear c1
        generalize hkx : ks.getD k (0, 0) = kx at *
        generalize hky : ks.getD (k - 1) (0, 0) = ky at *
        have HR := Lib.hid (fun w => iisright_any kx w)
        have HA := Lib.hid (fun w => ibyboth_any ky kx w)
        have HBN := Lib.hid (byI_lt ky kx)
        generalize hby : byI ky kx = by0 at *
        obtain ⟨p, q⟩ := kx
        have LL := lnbox_load wr (p, q)
        have HB1 := Lib.hid (hb.trans (((Below.refl _ wr).alloc (Nat.le_refl _) (.cells #[.int .i64 p, .int .i64 q] 49)).mono hb.size))
        dsimp only at LL HST HAF HAT D1 D2
        have HGE := Lib.hid (show wr.heap.size ≤ (wr.alloc (.cells #[.int .i64 p, .int .i64 q] 49)).heap.size by simp)
        cases hlb : lnB (p, q) with
        | false =>
          rw [hlb] at HR
          have HF := Lib.hid (HAF.out (by rw [HST.out, hlb]; rfl))
          clear HAF HAT HST HBN
          go_wp2
          generalize hW : wr.alloc _ = W1 at *
          refine wp_region_below W1 (by kernel_rfl) (by kernel_rfl) (Below.refl _ _) ?_
          repeat (first
            | go_big_quiet_skip
            | (go_big_quiet_want
               first
                 | (refine q_load 49 _ _ _ rfl rfl LL ?_; simp only [Act.put, List.setIfInBounds_toArray, List.set_cons_zero, List.set_cons_succ]; go_big_quiet_on)
                 | (go_big_quiet_op; go_big_quiet_on)
                 | (go_big_quiet_op; refine ⟨_, fun _ _ => rfl, ?_⟩; go_big_quiet_on)
                 | (go_big_quiet_op; apply Exists.intro; refine ⟨fun w' hw' => ?_, ?_⟩
                    · first
                      | (with_reducible refine (HR.out w').mono ?_
                         rintro e w2 ⟨rfl, hb2⟩
                         exact ⟨rfl, hw'.trans (hb2.mono hw'.size)⟩)
                    go_big_quiet_on)
                 | (go_big_quiet_op; refine ⟨_, fun _ _ _ => rfl, ?_⟩; go_big_quiet_on)))
          refine wpQuiet_nil ?_
          intro w2 hb2
          replace hb2 := HB1.out.trans (hb2.mono HB1.out.size)
          go_wp2
          go_ret
          exact ⟨by rw [HF.out]; rfl, hb2⟩
        | true =>
          rw [hlb] at HR
          by_cases hk0 : k = 0
          · subst hk0
            have HT := Lib.hid (HAT.out (by rw [HST.out, hlb]; rfl))
            have y0 : ¬ (0 : Int) < ((0 : Nat) : Int) := by omega
            have e3 : decide ((0 : Int) < ((0 : Nat) : Int)) = false := decide_eq_false y0
            clear HAF HAT HST HPREV HBN
            simp only [Nat.zero_mul, Nat.add_zero] at D1 D2
            go_wp2
            generalize hW : wr.alloc _ = W1 at *
            refine wp_region_below W1 (by kernel_rfl) (by kernel_rfl) (Below.refl _ _) ?_
            repeat (first
              | go_big_quiet_skip
              | (go_big_quiet_want
                 first
                   | (refine q_load 49 _ _ _ rfl rfl LL ?_; simp only [Act.put, List.setIfInBounds_toArray, List.set_cons_zero, List.set_cons_succ]; go_big_quiet_on)
                   | (go_big_quiet_op; go_big_quiet_on)
                   | (go_big_quiet_op; refine ⟨_, fun _ _ => rfl, ?_⟩; go_big_quiet_on)
                   | (go_big_quiet_op; apply Exists.intro; refine ⟨fun w' hw' => ?_, ?_⟩
                      · first
                        | (with_reducible refine (HR.out w').mono ?_
                           rintro e w2 ⟨rfl, hb2⟩
                           exact ⟨rfl, hw'.trans (hb2.mono hw'.size)⟩)
                      go_big_quiet_on)
                   | (go_big_quiet_op; refine ⟨_, fun _ _ _ => rfl, ?_⟩; go_big_quiet_on)))
            refine wpQuiet_nil ?_
            intro w2 hb2
            replace hb2 := HB1.out.trans (hb2.mono HB1.out.size)
            clear HB1 LL HA HR
            go_wp2
            exact ⟨⟨0 + 1, by omega, by go_num, HT.out, hb2⟩, by simp [intOf]; omega⟩
          · have y0 : (0 : Int) < (k : Int) := by omega
            have e3 : decide ((0 : Int) < (k : Int)) = true := decide_eq_true y0
            have yk : 0 < k := by omega
            have e4 : decide (0 < k) = true := decide_eq_true yk
            have y1 : (0 : Int) ≤ (k : Int) - 1 := by omega
            have y2 : (k : Int) - 1 < (ks.length : Int) := by omega
            have ew : IntKind.i64.wrap ((k : Int) - 1) = (k : Int) - 1 := IntWalk.i64_in _ (by omega)
            have et : ((k : Int) - 1).toNat = k - 1 := by omega
            have cp := HPREV.out (by omega)
            have LY : ∀ w', Below wr.heap.size wr w' → (loadVar 49 ⟨g, off + (k - 1) * 2, none⟩).run Try.prog w' = .ok (kv ky) w' := fun w' h => link_load cp hg (hb.trans (h.mono hb.size))
            have hk00 : decide (k = 0) = false := by simpa using hk0
            clear cp HPREV
            cases hah : aheadB ky (p, q) with
            | false =>
              have q0 : (0 : Int) ≤ by0 := by
                have := HBN.out
                rw [hah] at this
                have : ¬ by0 < 0 := fun h => by have := this.1 h; cases this
                omega
              have q1 : decide ((0 : Int) ≤ by0) = true := decide_eq_true q0
              have HF := Lib.hid (HAF.out (by rw [HST.out, hlb, hah, hk00]; rfl))
              clear HAF HAT HST hah hk00 HBN
              go_wp2
              have LZ : ∀ w', Below (wr.alloc (.cells #[.int .i64 p, .int .i64 q] 49)).heap.size (wr.alloc (.cells #[.int .i64 p, .int .i64 q] 49)) w' → (loadVar 49 ⟨g, off + (k - 1) * 2, none⟩).run Try.prog w' = .ok (kv ky) w' := fun w' h => LY w' (((Below.refl _ wr).alloc (Nat.le_refl _) _).trans (h.mono HGE.out))
              clear LY
              generalize hW : wr.alloc _ = W1 at *
              refine wp_region_below W1 (by kernel_rfl) (by kernel_rfl) (Below.refl _ _) ?_
              repeat (first
                | go_big_quiet_skip
                | (go_big_quiet_want
                   first
                     | (refine q_load 49 _ _ _ rfl rfl LL ?_; simp only [Act.put, List.setIfInBounds_toArray, List.set_cons_zero, List.set_cons_succ]; go_big_quiet_on)
                     | (refine q_load 49 _ _ _ rfl rfl LZ ?_; simp only [Act.put, List.setIfInBounds_toArray, List.set_cons_zero, List.set_cons_succ]; go_big_quiet_on)
                     | (go_big_quiet_op; go_big_quiet_on)
                     | (go_big_quiet_op; refine ⟨_, fun _ _ => rfl, ?_⟩; go_big_quiet_on)
                     | (go_big_quiet_op; apply Exists.intro; refine ⟨fun w' hw' => ?_, ?_⟩
                        · first
                          | (with_reducible refine (HR.out w').mono ?_
                             rintro e w2 ⟨rfl, hb2⟩
                             exact ⟨rfl, hw'.trans (hb2.mono hw'.size)⟩)
                          | (with_reducible refine (HA.out w').mono ?_
                             rintro e w2 ⟨rfl, hb2⟩
                             exact ⟨rfl, hw'.trans (hb2.mono hw'.size)⟩)
                        go_big_quiet_on)
                     | (go_big_quiet_op; refine ⟨_, fun _ _ _ => rfl, ?_⟩; go_big_quiet_on)))
              refine wpQuiet_nil ?_
              intro w2 hb2
              replace hb2 := HB1.out.trans (hb2.mono HB1.out.size)
              go_wp2
              go_ret
              exact ⟨by rw [HF.out]; rfl, hb2⟩
            | true =>
              have q0 : ¬ (0 : Int) ≤ by0 := by
                have := HBN.out.2 hah
                omega
              have q1 : decide ((0 : Int) ≤ by0) = false := decide_eq_false q0
              have HT := Lib.hid (HAT.out (by rw [HST.out, hlb, hah]; simp))
              clear HAF HAT HST hah hk00 HBN
              go_wp2
              have LZ : ∀ w', Below (wr.alloc (.cells #[.int .i64 p, .int .i64 q] 49)).heap.size (wr.alloc (.cells #[.int .i64 p, .int .i64 q] 49)) w' → (loadVar 49 ⟨g, off + (k - 1) * 2, none⟩).run Try.prog w' = .ok (kv ky) w' := fun w' h => LY w' (((Below.refl _ wr).alloc (Nat.le_refl _) _).trans (h.mono HGE.out))
              clear LY
              generalize hW : wr.alloc _ = W1 at *
              refine wp_region_below W1 (by kernel_rfl) (by kernel_rfl) (Below.refl _ _) ?_
              repeat (first
                | go_big_quiet_skip
                | (go_big_quiet_want
                   first
                     | (refine q_load 49 _ _ _ rfl rfl LL ?_; simp only [Act.put, List.setIfInBounds_toArray, List.set_cons_zero, List.set_cons_succ]; go_big_quiet_on)
                     | (refine q_load 49 _ _ _ rfl rfl LZ ?_; simp only [Act.put, List.setIfInBounds_toArray, List.set_cons_zero, List.set_cons_succ]; go_big_quiet_on)
                     | (go_big_quiet_op; go_big_quiet_on)
                     | (go_big_quiet_op; refine ⟨_, fun _ _ => rfl, ?_⟩; go_big_quiet_on)
                     | (go_big_quiet_op; apply Exists.intro; refine ⟨fun w' hw' => ?_, ?_⟩
                        · first
                          | (with_reducible refine (HR.out w').mono ?_
                             rintro e w2 ⟨rfl, hb2⟩
                             exact ⟨rfl, hw'.trans (hb2.mono hw'.size)⟩)
                          | (with_reducible refine (HA.out w').mono ?_
                             rintro e w2 ⟨rfl, hb2⟩
                             exact ⟨rfl, hw'.trans (hb2.mono hw'.size)⟩)
                        go_big_quiet_on)
                     | (go_big_quiet_op; refine ⟨_, fun _ _ _ => rfl, ?_⟩; go_big_quiet_on)))
              refine wpQuiet_nil ?_
              intro w2 hb2
              replace hb2 := HB1.out.trans (hb2.mono HB1.out.size)
              clear LZ
              clear HB1 LL HA HR
              go_wp2
              exact ⟨⟨k + 1, by omega, by go_num, HT.out, hb2⟩, by simp [intOf]; omega⟩
      · obtain rfl : k = ks.length := by omega
        have HF := Lib.hid (show lnsB ks = true by rw [HL.out]; exact hall)
        clear HL
        go_wp2
        go_ret
        exact ⟨by rw [HF.out]; rfl, hb⟩
  · have HF := Lib.hid (lnsB_big (ks := ks) (by omega))
    have hb30 : (30 : Int) < (ks.length : Int) := by omega
    go_enter Try.func22, Try.ntmps22
    go_wp2
    go_ret
    exact ⟨by rw [HF.out]; rfl, Below.refl _ _⟩
end Go.Proofs.Ytpfnpinoamjcjaa
namespace Go.Proofs.Ytpfnpinoamjcjaa
open Go.ChangeShapes Go.WideShapes Go.ChangeAt Go.RowKit Go.BigFrame
set_option linter.unusedVariables false
set_option linter.unusedSimpArgs false

set_option maxRecDepth 100000 in
theorem iother_any (k : K2) (id : Int) (w : World) : Calls Try.prog 68 #[kv k, .int .i64 id] w fun e w' => e = .returned (.tuple #[.int .i64 ((nrF id k).getD 0), .bool (nrF id k).isSome]) ∧ Below w.heap.size w w' := by
  obtain ⟨p, q⟩ := k
  have HB := Lib.hid ((Below.refl w.heap.size w).alloc (Nat.le_refl _) (.cells #[.int .i64 p, .int .i64 q] 49))
  unfold kv nrF
  dsimp only
  by_cases h1 : p = id
  · rw [if_pos h1]
    subst h1
    go_enter Try.func68, Try.ntmps68
    go_wp2
    go_ret2
    exact ⟨rfl, HB.out⟩
  · rw [if_neg h1]
    have h1' : ¬ id = p := fun e => h1 e.symm
    by_cases h2 : q = id
    · rw [if_pos h2]
      subst h2
      go_enter Try.func68, Try.ntmps68
      go_wp2
      go_ret2
      exact ⟨rfl, HB.out⟩
    · rw [if_neg h2]
      have h2' : ¬ id = q := fun e => h2 e.symm
      go_enter Try.func68, Try.ntmps68
      go_wp2
      go_ret2
      exact ⟨rfl, HB.out⟩
theorem nr_succ (ks : List K2) (id : Int) (k : Nat) (hk : k < ks.length) : (ks.take (k + 1)).filterMap (nrF id) = (ks.take k).filterMap (nrF id) ++ (nrF id (ks.getD k (0, 0))).toList := by
  rw [List.take_add_one, List.filterMap_append]
  congr 1
  have e1 : ks[k]?.toList = [ks[k]] := by simp [hk]
  have e2 : ks.getD k (0, 0) = ks[k] := by simp [List.getD, hk]
  rw [e1, e2, List.filterMap_cons]
  cases nrF id ks[k] <;> rfl
theorem nr_len (ks : List K2) (id : Int) (k : Nat) : ((ks.take k).filterMap (nrF id)).length ≤ k := by
  have h1 := List.length_filterMap_le (nrF id) (ks.take k)
  rw [List.length_take] at h1
  omega
set_option maxRecDepth 100000 in
set_option maxHeartbeats 2000000 in
theorem inear1_any (bx : Nat) (v : Value) (ks : List K2) (id : Int) (w : World) (h : keysAt w v ks) (hr : w.heap[bx]? = some (.cells #[v] 24 (0, 0))) (hs : ks.length ≤ 100000) :
    Calls Try.prog 67 #[.int .i64 id, .pointer (some ⟨bx, 0, none⟩)] w fun e w' => ∃ v', e = .returned v' ∧ IlD w w' v' (ks.filterMap (nrF id)) := by
  obtain ⟨a, cap, rfl, hcap, hcells⟩ := h
  have c0 : w.cell? ⟨bx, 0, none⟩ = some (.slice a ks.length cap) := by rw [cell_of_row _ _ _ _ _ _ hr]; rfl
  have hL0 := IlD.nil w
  go_enter Try.func67, Try.ntmps67
  go_wp2
  go_loopw [4, 11] (fun ov i wr => ∃ (k : Nat) (v0 : Value), v0 = ov ∧ k ≤ ks.length ∧ i = .int .i64 k ∧ IlD w wr ov ((ks.take k).filterMap (nrF id))) (fun _ i _ => ks.length - (intOf i).toNat)
  case atStart => exact ⟨0, _, rfl, Nat.zero_le _, rfl, hL0⟩
  case round =>
    obtain ⟨k, ov, rfl, hk, rfl, hL⟩ := hrel
    clear hL0
    by_cases hlt : k < ks.length
    · obtain ⟨g, off, rfl, hg, hcs⟩ := hcells.resolve_left (by omega)
      have hc := hcs k hlt
      have HSU := Lib.hid (nr_succ ks id k hlt)
      have HLN := Lib.hid (nr_len ks id k)
      have D1 : wr.cell? ⟨g, off + k * 2, none⟩ = some (.int .i64 (ks.getD k (0, 0)).1) := by rw [hL.below.cell (p := ⟨g, off + k * 2, none⟩) hg]; exact hc.1
      have D2 : wr.cell? ⟨g, off + k * 2 + 1, none⟩ = some (.int .i64 (ks.getD k (0, 0)).2) := by rw [hL.below.cell (p := ⟨g, off + k * 2 + 1, none⟩) hg]; exact hc.2
      clear hcs hcells hc
      generalize ks.getD k (0, 0) = x at *
      generalize (ks.take k).filterMap (nrF id) = o at *
      have HO := Lib.hid (fun wx => iother_any x id wx)
      obtain ⟨p, q⟩ := x
      dsimp only at *
      have z0 : (0 : Int) ≤ (k : Int) := by omega
      have z1 : (k : Int) < (ks.length : Int) := by omega
      have HL1 := Lib.hid (hL.alloc (.cells #[.int .i64 p, .int .i64 q] 49))
      have hol : o.length ≤ 100000 := by have := HLN.out; omega
      obtain ⟨oa0, oc0, rfl⟩ := hL.shape
      clear hL HLN
      cases hn : nrF id (p, q) with
      | none =>
        rw [hn] at HO HSU
        have HS2 := Lib.hid (show (ks.take (k + 1)).filterMap (nrF id) = o by rw [HSU.out]; simp)
        clear hn HSU
        go_wp2_with fail
        refine (HO.out _).mono ?_
        rintro e w2 ⟨rfl, hb2⟩
        have HL2 := Lib.hid (HL1.out.next hb2)
        clear hb2 HL1 HO D1 D2
        go_wp2
        exact ⟨⟨k + 1, _, rfl, by omega, by go_num, by rw [HS2.out]; exact HL2.out⟩, by simp [intOf]; omega⟩
      | some y =>
        rw [hn] at HO HSU
        have HS2 := Lib.hid (show (ks.take (k + 1)).filterMap (nrF id) = o ++ [y] by rw [HSU.out]; rfl)
        clear hn HSU
        go_wp2_with fail
        refine (HO.out _).mono ?_
        rintro e w2 ⟨rfl, hb2⟩
        simp only [Option.getD_some, Option.isSome_some]
        have HL2 := Lib.hid (HL1.out.next hb2)
        clear hb2 HL1 HO D1 D2
        have HA3 := Lib.hid (HL2.out.alloc (.cells #[.int .i64 y] 3))
        go_wp2_with (at_builtin; refine wpList_append_in1 rfl (.tmp 22) (.tmp 24) rfl HA3.out.own (w2.heap.size) y (heap_alloc_new _ _) rfl rfl (by omega) HA3.out.below.size ?_; intro v3 w3 ho3 hg3; have HL3 := Lib.hid (HA3.out.push ho3 hg3); clear HA3 ho3 hg3)
        exact ⟨⟨k + 1, _, rfl, by omega, by go_num, by rw [HS2.out]; exact HL3.out⟩, by simp [intOf]; omega⟩
    · obtain rfl : k = ks.length := by omega
      rw [List.take_length] at hL
      clear hcells
      go_wp2
      go_ret
      exact ⟨_, rfl, hL⟩
theorem IlD.base {w0 w00 wr : World} {v : Value} {xs : List Int} (h : IlD w0 wr v xs) (hb : Below w00.heap.size w00 w0) : IlD w00 wr v xs := ⟨own_base h.1 hb.size, hb.trans (h.2.mono hb.size)⟩
theorem inearby_any (a : Option Addr) (n cap : Nat) (w : World) : Calls Try.prog 55 #[.slice a n cap] w fun e w' => e = .returned (.func (.func 67) #[] #[.pointer (some ⟨w.heap.size, 0, none⟩)]) ∧ w' = w.alloc (.cells #[.slice a n cap] 24) := by
  go_enter Try.func55, Try.ntmps55
  go_wp2
  go_ret
  exact ⟨rfl, rfl⟩
set_option maxRecDepth 100000 in
set_option maxHeartbeats 1000000 in
theorem inear_any (v : Value) (ks : List K2) (id : Int) (w : World) (h : keysAt w v ks) (hs : ks.length ≤ 2000000) :
    Calls Try.prog 24 #[v, .int .i64 id] w fun e w' => ∃ v', e = .returned v' ∧ IlD w w' v' (nearM ks id) := by
  have HLK := Lib.hid (ilinksok_any v ks w h hs)
  have HK := Lib.hid (fun wx (hb : Below w.heap.size w wx) => keysAt_below h hb)
  unfold nearM
  cases hl : lnsB ks with
  | false =>
    rw [if_neg (by simp)]
    rw [hl] at HLK
    obtain ⟨a, cap, rfl, -, -⟩ := h
    clear hl
    go_enter Try.func24, Try.ntmps24
    go_wp2_with fail
    refine HLK.out.mono ?_
    rintro e w1 ⟨rfl, hb1⟩
    have HB1 := Lib.hid hb1
    clear hb1 HLK HK
    go_wp2
    go_ret
    exact ⟨_, rfl, World.ownsRow_nil _ _ _ _, HB1.out⟩
  | true =>
    rw [if_pos rfl]
    rw [hl] at HLK
    have hlen := ((lns_iff ks).1 hl).1
    have HN := Lib.hid (fun bx wx (hr : wx.heap[bx]? = some (.cells #[v] 24 (0, 0))) (hk : keysAt wx v ks) => inear1_any bx v ks id wx hk hr (by omega))
    obtain ⟨a, cap, rfl, -, -⟩ := h
    clear hl
    go_enter Try.func24, Try.ntmps24
    go_wp2_with fail
    refine HLK.out.mono ?_
    rintro e w1 ⟨rfl, hb1⟩
    have HB1 := Lib.hid hb1
    clear hb1 HLK
    go_wp2_with fail
    refine (inearby_any _ _ _ _).mono ?_
    rintro e w2 ⟨rfl, rfl⟩
    have hb2 := (Below.refl w1.heap.size w1).alloc (Nat.le_refl _) (.cells #[.slice a ks.length cap] 24)
    have HB2 := Lib.hid (HB1.out.trans (hb2.mono HB1.out.size))
    have HR := Lib.hid (heap_alloc_new w1 (.cells #[.slice a ks.length cap] 24))
    generalize w1.alloc (.cells #[.slice a ks.length cap] 24) = w3 at *
    go_wp2_with fail
    refine (HN.out _ _ HR.out (HK.out _ HB2.out)).mono ?_
    rintro e w4 ⟨v4, rfl, hL4⟩
    have HL4 := Lib.hid (hL4.base HB2.out)
    clear hL4 HN HK HR HB1 hb2
    go_wp2
    go_ret
    exact ⟨_, rfl, HL4.out⟩
end Go.Proofs.Ytpfnpinoamjcjaa
namespace Go.Proofs.Ytpfnpinoamjcjaa
open Go.ChangeShapes Go.WideShapes Go.ChangeAt Go.RowKit Go.BigFrame
set_option linter.unusedVariables false
set_option linter.unusedSimpArgs false

theorem nrF_lt {id x y : Int} {a b : K2} (ha : lnB a = true) (hb : lnB b = true) (h : aheadB a b = true) (hx : nrF id a = some x) (hy : nrF id b = some y) : x < y := by
  rw [lnB_iff] at ha hb
  rw [ahead_iff] at h
  unfold nrF at hx hy
  split at hx
  · cases hx
    split at hy
    · cases hy; omega
    · split at hy
      · cases hy; omega
      · cases hy
  · split at hx
    · cases hx
      split at hy
      · cases hy; omega
      · split at hy
        · cases hy; omega
        · cases hy
    · cases hx
theorem nr_rising {ks : List K2} (h : lnsB ks = true) (id : Int) : IRis (ks.filterMap (nrF id)) := by
  obtain ⟨-, h2, h3⟩ := (lns_iff ks).1 h
  unfold IRis
  rw [List.pairwise_filterMap]
  unfold Rising at h3
  exact List.Pairwise.imp_of_mem (fun {a b} ma mb hab x hx y hy => nrF_lt (h2 a ma) (h2 b mb) hab hx hy) h3
end Go.Proofs.Ytpfnpinoamjcjaa
namespace Go.Proofs.Ytpfnpinoamjcjaa
open Go.ChangeShapes Go.WideShapes Go.ChangeAt Go.RowKit Go.BigFrame
set_option linter.unusedVariables false

theorem addr_plusK (g off j : Nat) : (⟨g, off, none⟩ : Addr).add j = ⟨g, off + j, none⟩ := by
  unfold Addr.add
  split
  · rename_i h; simp [h]
  · rfl
theorem kyCells_one (ks : List K2) : ∀ u ∈ keyCells ks, u.oneCell' = true := by
  intro u hu
  simp only [keyCells, List.mem_flatMap, List.mem_cons, List.not_mem_nil, or_false] at hu
  obtain ⟨k, _, rfl | rfl⟩ := hu <;> rfl
theorem kyCells_at {w : World} {g off : Nat} {ks : List K2} (h : ∀ i, i < ks.length → w.cell? ⟨g, off + i * 2, none⟩ = some (.int .i64 (ks.getD i (0, 0)).1) ∧ w.cell? ⟨g, off + i * 2 + 1, none⟩ = some (.int .i64 (ks.getD i (0, 0)).2)) :
    ∀ j u, (keyCells ks)[j]? = some u → w.cell? ((⟨g, off, none⟩ : Addr).add j) = some u := by
  intro j u hu
  have hj : j < ks.length * 2 := by rw [← keyCells_len]; exact (List.getElem?_eq_some_iff.1 hu).1
  have hc := keyCells_get ks (j / 2) (by omega)
  have hw := h (j / 2) (by omega)
  rw [addr_plusK]
  rcases (by omega : j = j / 2 * 2 ∨ j = j / 2 * 2 + 1) with e | e
  · rw [← e] at hc
    rw [show off + j / 2 * 2 = off + j by omega] at hw
    rw [hc.1] at hu; cases hu
    exact hw.1
  · rw [← e] at hc
    rw [show off + j / 2 * 2 + 1 = off + j by omega] at hw
    rw [hc.2] at hu; cases hu
    exact hw.2
end Go.Proofs.Ytpfnpinoamjcjaa
namespace Go.Proofs.Ytpfnpinoamjcjaa
open Go.ChangeShapes Go.WideShapes Go.ChangeAt Go.RowKit Go.BigFrame
set_option linter.unusedVariables false
set_option linter.unusedSimpArgs false

theorem ln_append_none {w : World} {base n : Nat} {v : Value} {xs : List Value} (h : w.ownsRow base 49 2 v n xs) (ar : Option Addr) (cr : Nat) (ty : TypeId) :
    (Builtin.append_ #[24, 24] ty #[v, .slice ar 0 cr]).run Try.prog w = .ok v w := by
  obtain ⟨i0, hi, hz0, hz1, hz2⟩ := info_parts infoLn
  have u := Try.underlying24
  rcases h.2 with ⟨rfl, h0⟩ | ⟨g, cap, cur, rfl, _, _, hn, _⟩
  · cases ar <;> simp [Builtin.append_, run_underlying u, sizeOf, typeInfo, hi, storeCells, go_sem]
  · cases ar <;> simp [Builtin.append_, run_underlying u, sizeOf, typeInfo, hi, storeCells, hn, go_sem]
theorem run_append_ln {w : World} {base n : Nat} {v : Value} {xs : List Value} (hown : w.ownsRow base 49 2 v n xs) (u : Value) (ks : List K2) (hu : keysAt w u ks) (ty : TypeId) (hn : n + ks.length ≤ 4000000) (hbase : base ≤ w.heap.size) :
    ∃ v' w', (Builtin.append_ #[24, 24] ty #[v, u]).run Try.prog w = .ok v' w' ∧ w'.ownsRow base 49 2 v' (n + ks.length) (xs ++ keyCells ks) ∧ w.grownBy w' v.ownBlock ∧ (v'.ownBlock = v.ownBlock ∨ v'.ownBlock = some w.heap.size) := by
  obtain ⟨i0, hi, hz0, hz1, hz2⟩ := info_parts infoLn
  obtain ⟨a, cap, rfl, hcap, hcells⟩ := hu
  by_cases h0 : ks.length = 0
  · obtain rfl : ks = [] := List.length_eq_zero_iff.1 h0
    exact ⟨v, w, ln_append_none hown a cap ty, by simpa [keyCells] using hown, World.grownBy.refl _ _, .inl rfl⟩
  · obtain ⟨g, off, rfl, hg, hcs⟩ := hcells.resolve_left h0
    obtain ⟨v', w', hr, h2, h3, h4, h5⟩ := run_append_own_at (P := Try.prog) w base 24 ty 49 i0 (.agg #[.int .i64 0, .int .i64 0]) 2 16 Try.underlying24 hi hz0 hz1 hz2 rfl (by decide) v n xs hown ⟨g, off, none⟩ ks.length cap (keyCells ks) (keyCells_len ks) (kyCells_at hcs) (kyCells_one ks) (by unfold maxLen; omega) (by omega) hbase
    exact ⟨v', w', hr, h2, h3, h5⟩
theorem wpList_append_ln {ops : Array Oper} {rest : List Oper} {o : Oper} {a : Act} {w : World} {Q : Exit → Act → World → Prop} (hgd : o.guard = none) (s x : Operand)
    (ho : o.op = .call { callee := .builtin .append, args := #[s, x], argTypes := #[24, 24] })
    {base n : Nat} {v : Value} {xs : List Value} (hown : w.ownsRow base 49 2 v n xs) (u : Value) (ks : List K2) (hu : keysAt w u ks) (hs : a.eval s = v) (hx : a.eval x = u) (hn : n + ks.length ≤ 4000000) (hbase : base ≤ w.heap.size)
    (h : ∀ v' w', w'.ownsRow base 49 2 v' (n + ks.length) (xs ++ keyCells ks) → w.grownBy w' v.ownBlock → (v'.ownBlock = v.ownBlock ∨ v'.ownBlock = some w.heap.size) → wpList Try.prog ops Q rest (a.put o.dst v') w') : wpList Try.prog ops Q (o :: rest) a w := by
  refine wpList_plain hgd fun K hK => ?_
  obtain ⟨v', w', hr, h2, h3, h5⟩ := run_append_ln hown u ks hu o.type hn hbase
  unfold Oper.wp execOp
  simp only [ho, resolve, invoke, builtin, Sem.run_bind, Sem.run_pure, Result.andThen_ok, List.map_toArray, List.map_cons, List.map_nil, hs, hx, hr]
  exact hK _ _ (h v' w' h2 h3 h5)
section
variable {P : Program} {C : World → Prop} {a : Act} {o : Oper} {K : Act → Prop}
theorem q_slice_lo (ty et : TypeId) (hu : P.underlying ty = some (.slice et)) (x y : Operand) (u v z : Value) (ho : o.op = .slice ty x (some y) none none) (hx : a.eval x = u) (hy : a.eval y = v) (hs : ∀ w, (Instr.slice ty u (some v) none none).run P w = .ok z w) (hk : K (a.put o.dst z)) : o.quiet P a C K := by
  refine ⟨z, fun w hw => ?_, hk⟩
  unfold Oper.quietAt execOp
  simp only [ho, hx, hy, Option.map_some, Option.map_none, Instr.sliceAt, Sem.run_bind, run_underlying hu, hs w, Result.andThen_ok, Sem.run_pure]
  exact ⟨rfl, rfl⟩
theorem q_slice_hi (ty et : TypeId) (hu : P.underlying ty = some (.slice et)) (x y : Operand) (u v z : Value) (ho : o.op = .slice ty x none (some y) none) (hx : a.eval x = u) (hy : a.eval y = v) (hs : ∀ w, (Instr.slice ty u none (some v) none).run P w = .ok z w) (hk : K (a.put o.dst z)) : o.quiet P a C K := by
  refine ⟨z, fun w hw => ?_, hk⟩
  unfold Oper.quietAt execOp
  simp only [ho, hx, hy, Option.map_some, Option.map_none, Instr.sliceAt, Sem.run_bind, run_underlying hu, hs w, Result.andThen_ok, Sem.run_pure]
  exact ⟨rfl, rfl⟩
end
end Go.Proofs.Ytpfnpinoamjcjaa
namespace Go.Proofs.Ytpfnpinoamjcjaa
open Go.ChangeShapes Go.WideShapes Go.ChangeAt Go.RowKit Go.BigFrame
set_option linter.unusedVariables false
set_option linter.unusedSimpArgs false

/-- links of one's own, while they are put together -/
def LlD (w0 wr : World) (v : Value) (ks : List K2) : Prop := wr.ownsRow w0.heap.size 49 2 v ks.length (keyCells ks) ∧ Below w0.heap.size w0 wr
theorem LlD.own {w0 wr : World} {v : Value} {ks : List K2} (h : LlD w0 wr v ks) : wr.ownsRow w0.heap.size 49 2 v ks.length (keyCells ks) := h.1
theorem LlD.below {w0 wr : World} {v : Value} {ks : List K2} (h : LlD w0 wr v ks) : Below w0.heap.size w0 wr := h.2
theorem LlD.at {w0 wr : World} {v : Value} {ks : List K2} (h : LlD w0 wr v ks) : keysAt wr v ks := linksAt_own h.1
theorem LlD.next {w0 wr w1 : World} {v : Value} {ks : List K2} (h : LlD w0 wr v ks) (hb : Below wr.heap.size wr w1) : LlD w0 w1 v ks := ⟨own_below h.1 hb, h.2.trans (hb.mono h.2.size)⟩
theorem LlD.alloc {w0 wr : World} {v : Value} {ks : List K2} (h : LlD w0 wr v ks) (o : Obj) : LlD w0 (wr.alloc o) v ks := h.next ((Below.refl _ _).alloc (Nat.le_refl _) _)
theorem LlD.push {w0 wr w1 : World} {v v' : Value} {ks ls : List K2} (h : LlD w0 wr v ks) (ho : w1.ownsRow w0.heap.size 49 2 v' ls.length (keyCells ls)) (hg : wr.grownBy w1 v.ownBlock) : LlD w0 w1 v' ls :=
  ⟨ho, h.2.grown hg h.2.size (fun g hg => (h.1.lt g hg).1)⟩
theorem LlD.nil {w0 w : World} (hb : Below w0.heap.size w0 w) : LlD w0 w (.slice none 0 0) [] := ⟨World.ownsRow_nil _ _ _ _, hb⟩
theorem LlD.litAt {w0 w : World} (hb : Below w0.heap.size w0 w) : LlD w0 (w.alloc (.cells #[] 49)) (.slice (some ⟨w.heap.size, 0, none⟩) 0 0) [] :=
  ⟨World.ownsRow_lit (base := w0.heap.size) (e := 49) (size := 2) w #[] 0 hb.size (by unfold maxLen; omega) rfl, hb.alloc hb.size _⟩
theorem LlD.base {w0 w00 wr : World} {v : Value} {ks : List K2} (h : LlD w0 wr v ks) (hb : Below w00.heap.size w00 w0) : LlD w00 wr v ks := ⟨own_base h.1 hb.size, hb.trans (h.2.mono hb.size)⟩
theorem LlD.shape {w0 wr : World} {v : Value} {ks : List K2} (h : LlD w0 wr v ks) : ∃ a c, v = .slice a ks.length c := by
  rcases ownsRow_shape0 h.1 with ⟨rfl, h0⟩ | ⟨g, c, rfl⟩
  · exact ⟨none, 0, by rw [h0]⟩
  · exact ⟨_, c, rfl⟩
theorem keysAt_row {w : World} {g : Nat} {p q : Int} (h : w.heap[g]? = some (.cells #[.int .i64 p, .int .i64 q] 49 (0, 0))) : keysAt w (.slice (some ⟨g, 0, none⟩) 1 1) [(p, q)] :=
  ⟨_, 1, rfl, by simp, .inr ⟨g, 0, rfl, (Array.getElem?_eq_some_iff.1 h).1, fun i hi => by
    obtain rfl : i = 0 := by simpa using hi
    rw [cell_of_row _ _ _ _ _ _ h, cell_of_row _ _ _ _ _ _ h]
    exact ⟨rfl, rfl⟩⟩⟩
theorem keyCells_appL (a b : List K2) : keyCells (a ++ b) = keyCells a ++ keyCells b := by simp [keyCells]
theorem wpList_append_lnD {ops : Array Oper} {rest : List Oper} {o : Oper} {a : Act} {w : World} {Q : Exit → Act → World → Prop} (hgd : o.guard = none) (s x : Operand)
    (ho : o.op = .call { callee := .builtin .append, args := #[s, x], argTypes := #[24, 24] })
    {w0 : World} {v : Value} {L : List K2} (hV : LlD w0 w v L) (u : Value) (ks : List K2) (hu : keysAt w u ks) (hs : a.eval s = v) (hx : a.eval x = u) (hn : L.length + ks.length ≤ 4000000)
    (h : ∀ v' w', LlD w0 w' v' (L ++ ks) → w.grownBy w' v.ownBlock → (v'.ownBlock = v.ownBlock ∨ v'.ownBlock = some w.heap.size) → wpList Try.prog ops Q rest (a.put o.dst v') w') : wpList Try.prog ops Q (o :: rest) a w :=
  wpList_append_ln hgd s x ho hV.own u ks hu hs hx hn hV.below.size fun v' w' h1 h2 h3 => h v' w' (hV.push (by rw [List.length_append, keyCells_appL]; exact h1) h2) h2 h3
end Go.Proofs.Ytpfnpinoamjcjaa
namespace Go.Proofs.Ytpfnpinoamjcjaa
open Go.ChangeShapes Go.WideShapes Go.ChangeAt Go.RowKit Go.BigFrame
set_option linter.unusedVariables false
set_option linter.unusedSimpArgs false

theorem mem_near {ks : List K2} {x y : Int} : y ∈ nearM ks x ↔ lnsB ks = true ∧ ∃ k ∈ ks, nrF x k = some y := by
  unfold nearM
  split
  · rename_i h
    rw [List.mem_filterMap]
    exact ⟨fun e => ⟨h, e⟩, fun e => e.2⟩
  · rename_i h
    exact ⟨fun e => by simp at e, fun e => absurd e.1 h⟩
theorem nrF_sym {k : K2} {x y : Int} (hk : lnB k = true) (h : nrF x k = some y) : nrF y k = some x ∧ k = lnOf x y ∧ x ≠ y := by
  have hl := ((lnB_iff k).1 hk).2.1
  obtain ⟨p, q⟩ := k
  dsimp only at hl
  unfold nrF at *
  dsimp only at *
  split at h
  · rename_i h1
    cases h
    subst h1
    refine ⟨by rw [if_neg (by omega), if_pos rfl], ?_, by omega⟩
    unfold lnOf
    rw [if_neg (by omega)]
  · split at h
    · rename_i h1 h2
      cases h
      subst h2
      refine ⟨by rw [if_pos rfl], ?_, by omega⟩
      unfold lnOf
      rw [if_pos (by omega)]
    · cases h
theorem near_sym {ks : List K2} {x y : Int} (h : y ∈ nearM ks x) : x ∈ nearM ks y ∧ 0 ≤ atL ks x y := by
  obtain ⟨h1, k, hk, h2⟩ := mem_near.1 h
  obtain ⟨h3, h4, h5⟩ := nrF_sym (((lns_iff ks).1 h1).2.1 k hk) h2
  refine ⟨mem_near.2 ⟨h1, k, hk, h3⟩, ?_⟩
  rcases firstP_cases (fun k => k == lnOf x y) ks with ⟨-, h6⟩ | ⟨j, hj, h6, -⟩
  · have := h6 k hk
    rw [h4] at this
    simp at this
  · unfold atL
    rw [h6]
    omega
theorem near_rising (ks : List K2) (x : Int) : IRis (nearM ks x) := by
  unfold nearM
  split
  · rename_i h
    exact nr_rising h x
  · exact List.Pairwise.nil
end Go.Proofs.Ytpfnpinoamjcjaa
namespace Go.Proofs.Ytpfnpinoamjcjaa

inductive Rch (ks : List K2) (a : Int) : Int → Prop
  | refl : Rch ks a a
  | step {x y : Int} : Rch ks a x → y ∈ nearM ks x → Rch ks a y
theorem Rch.trans {ks : List K2} {a b c : Int} (h1 : Rch ks a b) (h2 : Rch ks b c) : Rch ks a c := by
  induction h2 with
  | refl => exact h1
  | step _ hy ih => exact ih.step hy
theorem Rch.one {ks : List K2} {a b : Int} (h : b ∈ nearM ks a) : Rch ks a b := Rch.refl.step h
theorem Rch.symm {ks : List K2} {a b : Int} (h : Rch ks a b) : Rch ks b a := by
  induction h with
  | refl => exact .refl
  | step _ hy ih => exact (Rch.one (near_sym hy).1).trans ih
/-- the answer: rising, all that can be come to but itself -/
def RL (ks : List K2) (id : Int) (L : List Int) : Prop := IRis L ∧ ∀ y, y ∈ L ↔ (y ≠ id ∧ Rch ks id y)
theorem RL.ext {ks : List K2} {id : Int} {L M : List Int} (h : RL ks id L) (k : RL ks id M) : L = M := iris_ext L M h.1 k.1 fun y => (h.2 y).trans (k.2 y).symm
theorem near_in {ks : List K2} {x y : Int} (h : y ∈ nearM ks x) : 0 ≤ y ∧ y ≤ 20 := by
  obtain ⟨h1, k, hk, h2⟩ := mem_near.1 h
  have hl := (lnB_iff k).1 (((lns_iff ks).1 h1).2.1 k hk)
  unfold nrF at h2
  split at h2
  · cases h2; omega
  · split at h2
    · cases h2; omega
    · cases h2
theorem Rch.in {ks : List K2} {a y : Int} (h : Rch ks a y) (hne : y ≠ a) : 0 ≤ y ∧ y ≤ 20 := by
  cases h with
  | refl => exact absurd rfl hne
  | step _ hy => exact near_in hy
theorem foldput_ok : ∀ (l acc : List Int), IRis acc → IRis (l.foldl putF acc) ∧ ∀ y, y ∈ l.foldl putF acc ↔ y ∈ acc ∨ y ∈ l
  | [], acc, h => ⟨h, fun y => by simp⟩
  | x :: r, acc, h => by
    obtain ⟨h1, h2⟩ := putF_ok h x
    obtain ⟨h3, h4⟩ := foldput_ok r (putF acc x) h1
    refine ⟨h3, fun y => ?_⟩
    rw [List.foldl_cons, h4, h2, List.mem_cons]
    constructor
    · rintro ((h | h) | h)
      · exact .inr (.inl h)
      · exact .inl h
      · exact .inr (.inr h)
    · rintro (h | h | h)
      · exact .inl (.inr h)
      · exact .inl (.inl h)
      · exact .inr h
theorem ints21_mem (y : Int) : y ∈ (List.range 21).map (fun n : Nat => (n : Int)) ↔ 0 ≤ y ∧ y ≤ 20 := by
  rw [List.mem_map]
  constructor
  · rintro ⟨n, hn, rfl⟩
    have := List.mem_range.1 hn
    omega
  · intro h
    exact ⟨y.toNat, List.mem_range.2 (by omega), by omega⟩
open Classical in
theorem reach_exists (ks : List K2) (id : Int) : ∃ L, RL ks id L := by
  obtain ⟨h1, h2⟩ := foldput_ok (((List.range 21).map (fun n : Nat => (n : Int))).filter fun y => decide (y ≠ id ∧ Rch ks id y)) [] List.Pairwise.nil
  refine ⟨_, h1, fun y => ?_⟩
  rw [h2, List.mem_filter, decide_eq_true_eq]
  constructor
  · rintro (h | ⟨-, h⟩)
    · simp at h
    · exact h
  · intro h
    exact .inr ⟨(ints21_mem y).2 (h.2.in h.1), h⟩
theorem nodup_len21 : ∀ (n : Nat) (L : List Int), L.Nodup → (∀ y ∈ L, 0 ≤ y ∧ y < (n : Int)) → L.length ≤ n
  | 0, L, _, h => by
    cases L with
    | nil => simp
    | cons x r => have := h x (by simp); omega
  | n + 1, L, hn, h => by
    have h1 := nodup_len21 n (L.filter fun y => decide (y < (n : Int))) (List.Pairwise.filter _ hn) (fun y hy => by
      rw [List.mem_filter, decide_eq_true_eq] at hy
      exact ⟨(h y hy.1).1, hy.2⟩)
    have h2 : L.length ≤ (L.filter fun y => decide (y < (n : Int))).length + 1 := by
      clear h1
      induction L with
      | nil => simp
      | cons x r ih =>
        obtain ⟨hx, hr⟩ := List.nodup_cons.1 hn
        have h3 := h x (by simp)
        by_cases h4 : x < (n : Int)
        · rw [List.filter_cons_of_pos (by simpa using h4)]
          have := ih hr (fun y hy => h y (by simp [hy]))
          simp only [List.length_cons]
          omega
        · have e : r.filter (fun y => decide (y < (n : Int))) = r := by
            rw [List.filter_eq_self]
            intro y hy
            have := h y (by simp [hy])
            have hne : y ≠ x := fun e => hx (e ▸ hy)
            simp
            omega
          rw [List.filter_cons_of_neg (by simpa using h4), e]
          simp
    omega
theorem reach_few {ks : List K2} {id : Int} {L : List Int} (hn : L.Nodup) (h : ∀ y ∈ L, Rch ks id y) : L.length ≤ 22 := by
  have h1 : (L.filter fun y => decide (y ≠ id)).length ≤ 21 := nodup_len21 21 _ (List.Pairwise.filter _ hn) (fun y hy => by
    rw [List.mem_filter, decide_eq_true_eq] at hy
    have := (h y hy.1).in hy.2
    omega)
  have h2 : L.length ≤ (L.filter fun y => decide (y ≠ id)).length + 1 := by
    clear h1 h
    induction L with
    | nil => simp
    | cons x r ih =>
      obtain ⟨hx, hr⟩ := List.nodup_cons.1 hn
      by_cases h4 : x = id
      · have e : r.filter (fun y => decide (y ≠ id)) = r := by
          rw [List.filter_eq_self]
          intro y hy
          have hne : y ≠ x := fun e => hx (e ▸ hy)
          simpa [← h4] using hne
        rw [List.filter_cons_of_neg (by simpa using h4), e]
        simp
      · rw [List.filter_cons_of_pos (by simpa using h4)]
        have := ih hr
        simp only [List.length_cons]
        omega
  omega
theorem RL.len {ks : List K2} {id : Int} {L : List Int} (h : RL ks id L) : L.length ≤ 22 :=
  reach_few (ks := ks) (id := id) (h.1.imp fun {a b} hab => by omega) fun y hy => ((h.2 y).1 hy).2
/-- what is closed holds all that can be come to -/
theorem closed_all {ks : List K2} {id : Int} {S : List Int} (h0 : id ∈ S) (hc : ∀ x ∈ S, ∀ y ∈ nearM ks x, y ∈ S) {y : Int} (h : Rch ks id y) : y ∈ S := by
  induction h with
  | refl => exact h0
  | step _ hy ih => exact hc _ ih _ hy
end Go.Proofs.Ytpfnpinoamjcjaa
namespace Go.Proofs.Ytpfnpinoamjcjaa
open Go.RowKit
set_option linter.unusedVariables false

/-- number i for number j, and number j for number i -/
def swpL (xs : List Int) (i j : Nat) : List Int := (xs.set i (xs[j]?.getD 0)).set j (xs[i]?.getD 0)
theorem swpL_len (xs : List Int) (i j : Nat) : (swpL xs i j).length = xs.length := by simp [swpL]
theorem swpL_get (xs : List Int) (i j k : Nat) (hi : i < xs.length) (hj : j < xs.length) :
    (swpL xs i j)[k]?.getD 0 = if k = j then xs[i]?.getD 0 else if k = i then xs[j]?.getD 0 else xs[k]?.getD 0 := by
  unfold swpL
  rw [List.getElem?_set, List.getElem?_set]
  by_cases h1 : k = j
  · subst h1; simp [hj]
  · by_cases h2 : k = i
    · subst h2; rw [if_neg (by omega), if_pos rfl]; simp [hi, h1]
    · rw [if_neg (by omega), if_neg (by omega)]; simp [h1, h2]
end Go.Proofs.Ytpfnpinoamjcjaa
namespace Go.Proofs.Ytpfnpinoamjcjaa
open Go.ChangeShapes Go.WideShapes Go.ChangeAt Go.RowKit Go.BigFrame
set_option linter.unusedVariables false
set_option linter.unusedSimpArgs false

/-- all old blocks are as they were, but those of X -/
structure KeepX (X : Nat → Prop) (w w' : World) : Prop where
  os : w'.os = w.os
  tape : w'.tape = w.tape
  output : w'.output = w.output
  size : w.heap.size ≤ w'.heap.size
  block : ∀ k, k < w.heap.size → ¬ X k → w'.heap[k]? = w.heap[k]?
theorem KeepX.refl (X : Nat → Prop) (w : World) : KeepX X w w := ⟨rfl, rfl, rfl, Nat.le_refl _, fun _ _ _ => rfl⟩
theorem KeepX.trans {X : Nat → Prop} {a b c : World} (h : KeepX X a b) (k : KeepX X b c) : KeepX X a c :=
  ⟨k.os.trans h.os, k.tape.trans h.tape, k.output.trans h.output, Nat.le_trans h.size k.size, fun j hj hx => (k.block j (Nat.lt_of_lt_of_le hj h.size) hx).trans (h.block j hj hx)⟩
theorem KeepX.below {X : Nat → Prop} {a b : World} (h : Below a.heap.size a b) : KeepX X a b := ⟨h.os, h.tape, h.output, h.size, fun k hk _ => h.block k hk⟩
theorem KeepX.grown {X : Nat → Prop} {a b : World} {row : Option Nat} (h : a.grownBy b row) (hx : ∀ k, row = some k → X k) : KeepX X a b := ⟨h.os, h.tape, h.output, h.size, fun k hk hn => h.block k hk (fun e => hn (hx k e.symm))⟩
/-- new blocks, and blocks of X that are not old for base -/
theorem KeepX.set {X : Nat → Prop} {a b : World} (h : KeepX X a b) (k i : Nat) (v : Value) (hx : X k) : KeepX X a (b.setCell ⟨k, i, none⟩ v) := h.trans (KeepX.grown (Lib.grownBy_setCell b k i v) (fun j e => Option.some.inj e ▸ hx))
theorem KeepX.toBelow {X : Nat → Prop} {B : Nat} {w0 a b : World} (h : KeepX X a b) (h0 : Below B w0 a) (hB : B ≤ a.heap.size) (hx : ∀ k, X k → B ≤ k) : Below B w0 b :=
  ⟨h.os.trans h0.os, h.tape.trans h0.tape, h.output.trans h0.output, Nat.le_trans h0.size h.size, fun k hk => (h.block k (Nat.lt_of_lt_of_le hk hB) (fun x => by have := hx k x; omega)).trans (h0.block k hk)⟩
theorem own_block {w w' : World} {base n : Nat} {e : TypeId} {size : Nat} {v : Value} {xs : List Value} (h : w.ownsRow base e size v n xs) (hb : ∀ g, v.ownBlock = some g → w'.heap[g]? = w.heap[g]?) : w'.ownsRow base e size v n xs := by
  refine ⟨h.1, ?_⟩
  rcases h.2 with h1 | ⟨g, cap, cur, rfl, h2, h3, h4, h5, h6⟩
  · exact .inl h1
  · exact .inr ⟨g, cap, cur, rfl, h2, (hb g rfl).trans h3, h4, h5, h6⟩
theorem KeepX.own {X : Nat → Prop} {w w' : World} (h : KeepX X w w') {base n : Nat} {e : TypeId} {size : Nat} {v : Value} {xs : List Value} (ho : w.ownsRow base e size v n xs) (hx : ∀ g, v.ownBlock = some g → ¬ X g) : w'.ownsRow base e size v n xs :=
  own_block ho fun g hg => h.block g (ho.lt g hg).2 (hx g hg)
theorem KeepX.row {X : Nat → Prop} {w w' : World} (h : KeepX X w w') {b : Nat} {o : Obj} (hr : w.heap[b]? = some o) (hx : ¬ X b) : w'.heap[b]? = some o := (h.block b (Array.getElem?_eq_some_iff.1 hr).1 hx).trans hr
end Go.Proofs.Ytpfnpinoamjcjaa
namespace Go.Proofs.Ytpfnpinoamjcjaa
open Go.RowKit
set_option linter.unusedVariables false

/-- the first n of them exchanged among themselves -/
def SwN (n : Nat) (H H' : List Int) : Prop := H'.length = H.length ∧ (∀ y, y ∈ H'.take n ↔ y ∈ H.take n) ∧ H'.drop n = H.drop n
theorem SwN.refl (n : Nat) (H : List Int) : SwN n H H := ⟨rfl, fun _ => Iff.rfl, rfl⟩
theorem SwN.trans {n : Nat} {A B C : List Int} (h : SwN n A B) (k : SwN n B C) : SwN n A C := ⟨k.1.trans h.1, fun y => (k.2.1 y).trans (h.2.1 y), k.2.2.trans h.2.2⟩
theorem mem_ix {l : List Int} {y : Int} : y ∈ l ↔ ∃ k, k < l.length ∧ l[k]?.getD 0 = y := by
  constructor
  · intro h
    obtain ⟨k, hk, rfl⟩ := List.getElem_of_mem h
    exact ⟨k, hk, by simp [hk]⟩
  · rintro ⟨k, hk, rfl⟩
    simp [hk]
theorem swp_mem {l : List Int} {i j : Nat} (hi : i < l.length) (hj : j < l.length) (y : Int) : y ∈ swpL l i j ↔ y ∈ l := by
  rw [mem_ix, mem_ix]
  rw [swpL_len]
  constructor
  · rintro ⟨k, hk, h⟩
    rw [swpL_get l i j k hi hj] at h
    split at h
    · exact ⟨i, hi, h⟩
    · split at h
      · exact ⟨j, hj, h⟩
      · exact ⟨k, hk, h⟩
  · rintro ⟨k, hk, h⟩
    by_cases h1 : k = i
    · exact ⟨j, hj, by rw [swpL_get l i j j hi hj, if_pos rfl, ← h1]; exact h⟩
    · by_cases h2 : k = j
      · refine ⟨i, hi, ?_⟩
        rw [swpL_get l i j i hi hj]
        by_cases h3 : i = j
        · rw [if_pos h3, h3, ← h2]; exact h
        · rw [if_neg h3, if_pos rfl, ← h2]; exact h
      · exact ⟨k, hk, by rw [swpL_get l i j k hi hj, if_neg h2, if_neg h1]; exact h⟩
theorem swp_swn {n : Nat} {l : List Int} {i j : Nat} (hn : n ≤ l.length) (hi : i < n) (hj : j < n) : SwN n l (swpL l i j) := by
  have ht : (swpL l i j).take n = swpL (l.take n) i j := by
    unfold swpL
    rw [List.take_set, List.take_set]
    congr 2
    · congr 1
      rw [List.getElem?_take_of_lt hj]
    · rw [List.getElem?_take_of_lt hi]
  have hl : (l.take n).length = n := by rw [List.length_take]; omega
  refine ⟨swpL_len _ _ _, fun y => ?_, ?_⟩
  · rw [ht]
    exact swp_mem (by omega) (by omega) y
  · unfold swpL
    rw [List.drop_set_of_lt hj, List.drop_set_of_lt hi]
theorem SwN.all {l l' : List Int} {n : Nat} (h : SwN n l l') (hn : n = l.length) (y : Int) : y ∈ l' ↔ y ∈ l := by
  have := h.2.1 y
  rwa [List.take_of_length_le (by rw [h.1]; omega), List.take_of_length_le (by omega)] at this
/-- the first and the last exchanged, those ahead of the last mixed: the last is one of them, the others are the rest -/
theorem pop_mem {H H2 : List Int} {m : Nat} (hl : H.length = m + 1) (h : SwN m (swpL H 0 m) H2) : H2.length = m + 1 ∧ ∀ y, y ∈ H ↔ y = H2[m]?.getD 0 ∨ y ∈ H2.take m := by
  have hl1 : (swpL H 0 m).length = m + 1 := by rw [swpL_len, hl]
  have hl2 : H2.length = m + 1 := h.1.trans hl1
  refine ⟨hl2, fun y => ?_⟩
  have hlast : H2[m]?.getD 0 = (swpL H 0 m)[m]?.getD 0 := by
    have h1 : (H2.drop m)[0]? = ((swpL H 0 m).drop m)[0]? := by rw [h.2.2]
    rw [List.getElem?_drop, List.getElem?_drop, Nat.add_zero] at h1
    rw [h1]
  rw [hlast, h.2.1 y, ← swp_mem (l := H) (i := 0) (j := m) (by omega) (by omega) y]
  generalize swpL H 0 m = S at *
  have e : S = S.take m ++ [S[m]?.getD 0] := by
    have h2 : S.drop m = [S[m]?.getD 0] := by
      rw [List.drop_eq_getElem_cons (by omega), List.drop_eq_nil_of_le (by omega)]
      simp [show m < S.length by omega]
    rw [← h2, List.take_append_drop]
  constructor
  · intro hy
    rw [e, List.mem_append, List.mem_singleton] at hy
    exact hy.symm
  · intro hy
    rw [e, List.mem_append, List.mem_singleton]
    exact hy.symm
/-- the heap in its box B, its numbers in v's row -/
structure HpS (b0 : Nat) (w : World) (B : Nat) (v : Value) (H : List Int) : Prop where
  box : w.heap[B]? = some (.cells #[v] 79 (0, 0))
  own : w.ownsRow b0 3 1 v H.length (intsV H)
  ne : v.ownBlock ≠ some B
theorem HpS.next {b0 : Nat} {w w1 : World} {B : Nat} {v : Value} {H : List Int} (h : HpS b0 w B v H) (hb : Below w.heap.size w w1) : HpS b0 w1 B v H :=
  ⟨(hb.block _ (Array.getElem?_eq_some_iff.1 h.box).1).trans h.box, own_below h.own hb, h.ne⟩
theorem HpS.keep {b0 : Nat} {w w1 : World} {B : Nat} {v : Value} {H : List Int} {X : Nat → Prop} (h : HpS b0 w B v H) (hk : KeepX X w w1) (h1 : ¬ X B) (h2 : ∀ b, v.ownBlock = some b → ¬ X b) : HpS b0 w1 B v H :=
  ⟨hk.row h.box h1, hk.own h.own h2, h.ne⟩
theorem HpS.shape {b0 : Nat} {w : World} {B : Nat} {v : Value} {H : List Int} (h : HpS b0 w B v H) : ∃ a c, v = .slice a H.length c := by
  rcases ownsRow_shape0 h.own with ⟨rfl, h0⟩ | ⟨g, c, rfl⟩
  · exact ⟨none, 0, by rw [h0]⟩
  · exact ⟨_, c, rfl⟩
theorem HpS.cell {b0 : Nat} {w : World} {B : Nat} {v : Value} {H : List Int} (h : HpS b0 w B v H) : w.cell? ⟨B, 0, none⟩ = some v ∧ w.frozen? ⟨B, 0, none⟩ = false := ⟨by rw [cell_of_row _ _ _ _ _ _ h.box]; rfl, frozen_of_row _ _ _ _ _ h.box⟩
end Go.Proofs.Ytpfnpinoamjcjaa
namespace Go.Proofs.Ytpfnpinoamjcjaa
open Go.ChangeShapes Go.WideShapes Go.ChangeAt Go.RowKit Go.BigFrame
set_option linter.unusedVariables false
set_option linter.unusedSimpArgs false

abbrev hpV (B : Nat) : Value := .iface 78 (.pointer (some ⟨B, 0, none⟩))
theorem hlen_any (a : Option Addr) (n c : Nat) (w : World) : Calls Try.prog 69 #[.slice a n c] w fun e w' => e = .returned (.int .i64 n) ∧ w' = w := by
  go_enter Try.func69, Try.ntmps69
  go_wp2
  go_ret
  exact ⟨rfl, rfl⟩
theorem hp_cell {w : World} {b0 g n cap : Nat} {H : List Int} (h : w.ownsRow b0 3 1 (.slice (some ⟨g, 0, none⟩) n cap) n (intsV H)) (j : Nat) (hj : j < n) : w.cell? ⟨g, j, none⟩ = some (.int .i64 (H[j]?.getD 0)) ∧ w.frozen? ⟨g, j, none⟩ = false :=
  ⟨own_int h j hj, (own_cell h j (by have := h.1; rw [intsV_len] at this; omega)).2⟩
set_option maxRecDepth 100000 in
theorem hless_any (b0 g cap i j : Nat) (H : List Int) (w : World) (h : w.ownsRow b0 3 1 (.slice (some ⟨g, 0, none⟩) H.length cap) H.length (intsV H)) (hi : i < H.length) (hj : j < H.length) (hs : H.length ≤ 1000000) :
    Calls Try.prog 101 #[.slice (some ⟨g, 0, none⟩) H.length cap, .int .i64 i, .int .i64 j] w fun e w' => (∃ b, e = .returned (.bool b)) ∧ Below w.heap.size w w' := by
  obtain ⟨c1, -⟩ := hp_cell h i hi
  obtain ⟨c2, -⟩ := hp_cell h j hj
  generalize H[i]?.getD 0 = x at *
  generalize H[j]?.getD 0 = y at *
  generalize H.length = n at *
  have z0 : (0 : Int) ≤ (i : Int) := by omega
  have z1 : (i : Int) < (n : Int) := by omega
  have z2 : (0 : Int) ≤ (j : Int) := by omega
  have z3 : (j : Int) < (n : Int) := by omega
  clear h
  go_enter Try.func101, Try.ntmps101
  go_wp2
  go_region
  go_wp2
  go_ret
  exact ⟨⟨_, rfl⟩, (Below.refl _ _).drew⟩
set_option maxRecDepth 100000 in
set_option maxHeartbeats 2000000 in
theorem hswap_any (b0 g cap i j : Nat) (H : List Int) (w : World) (h : w.ownsRow b0 3 1 (.slice (some ⟨g, 0, none⟩) H.length cap) H.length (intsV H)) (hi : i < H.length) (hj : j < H.length) (hs : H.length ≤ 1000000) :
    Calls Try.prog 104 #[.slice (some ⟨g, 0, none⟩) H.length cap, .int .i64 i, .int .i64 j] w fun e w' => e = .returned (.tuple #[]) ∧ w'.ownsRow b0 3 1 (.slice (some ⟨g, 0, none⟩) H.length cap) H.length (intsV (swpL H i j)) ∧ w.grownBy w' (some g) := by
  obtain ⟨s1, s2⟩ := hp_cell h i hi
  obtain ⟨s3, s4⟩ := hp_cell h j hj
  have st := (h.stored i (.int .i64 (H[j]?.getD 0))).1.stored j (.int .i64 (H[i]?.getD 0))
  rw [intsV_set, intsV_set] at st
  have hgr := grownT (Lib.grownBy_setCell w g i (.int .i64 (H[j]?.getD 0))) (Lib.grownBy_setCell (w.setCell ⟨g, i, none⟩ (.int .i64 (H[j]?.getD 0))) g j (.int .i64 (H[i]?.getD 0)))
  have R := Lib.hid (And.intro st.1 hgr)
  obtain ⟨v1, hv1⟩ := cell?_setCell_some (w := w) (p := ⟨g, i, none⟩) (x := .int .i64 (H[j]?.getD 0)) (q := ⟨g, j, none⟩) (v := .int .i64 (H[j]?.getD 0)) s3
  have HS := Lib.hid (show (H.set i (H[j]?.getD 0)).set j (H[i]?.getD 0) = swpL H i j from rfl)
  generalize swpL H i j = S at *
  generalize H[i]?.getD 0 = x at *
  generalize H[j]?.getD 0 = y at *
  have HL := Lib.hid h.1
  generalize H.length = n at *
  have z0 : (0 : Int) ≤ (i : Int) := by omega
  have z1 : (i : Int) < (n : Int) := by omega
  have z2 : (0 : Int) ≤ (j : Int) := by omega
  have z3 : (j : Int) < (n : Int) := by omega
  clear h st hgr
  go_enter Try.func104, Try.ntmps104
  go_wp2
  go_region
  go_wp2
  go_end0
  exact ⟨rfl, by rw [← HS.out]; exact R.out.1.drew, grownT R.out.2 ⟨rfl, rfl, rfl, Nat.le_refl _, fun _ _ _ => rfl⟩⟩
end Go.Proofs.Ytpfnpinoamjcjaa
namespace Go.Proofs.Ytpfnpinoamjcjaa
open Go.ChangeShapes Go.WideShapes Go.ChangeAt Go.RowKit Go.BigFrame
set_option linter.unusedVariables false
set_option linter.unusedSimpArgs false

theorem hp_load {w : World} {B : Nat} {v : Value} (h : w.cell? ⟨B, 0, none⟩ = some v) : (loadVar 79 ⟨B, 0, none⟩).run Try.prog w = .ok v w := load_oneQ (fun w => by simp [isAgg, underlying, Try.underlying79]) h
theorem wrapchk (t ty : TypeId) (a : Addr) (x y : String) (w : World) : (Builtin.ssaWrapNilChk_ #[t] ty #[.pointer (some a), strVal x, strVal y]).run Try.prog w = .ok (.pointer (some a)) w := rfl
theorem hmeth (name : String) (f : FuncId) (hm : ((Try.prog.info? 78).bind fun i => (i.methods.find? fun m => m.name == name).map fun m => (m.path, m.func)) = some (#[], some (f, false))) (n B : Nat) (v : Value) (w : World) (hn : 0 < n) (h : w.cell? ⟨B, 0, none⟩ = some v) :
    (method n 78 (.pointer (some ⟨B, 0, none⟩)) name).run Try.prog w = .ok (f, v) w := by
  obtain ⟨k, rfl⟩ : ∃ k, n = k + 1 := ⟨n - 1, by omega⟩
  have hu : Try.prog.underlying 78 = some (.pointer 79) := Try.underlying78
  rw [Option.bind_eq_some_iff] at hm
  obtain ⟨i, h1, h2⟩ := hm
  rw [Option.map_eq_some_iff] at h2
  obtain ⟨m, h3, h4⟩ := h2
  have h5 := congrArg Prod.fst h4
  have h6 := congrArg Prod.snd h4
  dsimp only at h5 h6
  have hl := hp_load h
  simp [method, typeInfo, h1, h3, h5, h6, follow, receiverAt, run_underlying hu, Place.get, wrapchk, asAddr, hl, Result.andThen]
theorem hmethP (name : String) (f : FuncId) (hm : ((Try.prog.info? 78).bind fun i => (i.methods.find? fun m => m.name == name).map fun m => (m.path, m.func)) = some (#[], some (f, true))) (n B : Nat) (w : World) (hn : 0 < n) :
    (method n 78 (.pointer (some ⟨B, 0, none⟩)) name).run Try.prog w = .ok (f, .pointer (some ⟨B, 0, none⟩)) w := by
  obtain ⟨k, rfl⟩ : ∃ k, n = k + 1 := ⟨n - 1, by omega⟩
  have hu : Try.prog.underlying 78 = some (.pointer 79) := Try.underlying78
  rw [Option.bind_eq_some_iff] at hm
  obtain ⟨i, h1, h2⟩ := hm
  rw [Option.map_eq_some_iff] at h2
  obtain ⟨m, h3, h4⟩ := h2
  have h5 := congrArg Prod.fst h4
  have h6 := congrArg Prod.snd h4
  dsimp only at h5 h6
  simp [method, typeInfo, h1, h3, h5, h6, follow, receiverAt, run_underlying hu, Place.get, Result.andThen]
theorem hm_len (n B : Nat) (v : Value) (w : World) (hn : 0 < n) (h : w.cell? ⟨B, 0, none⟩ = some v) : (method n 78 (.pointer (some ⟨B, 0, none⟩)) "Len").run Try.prog w = .ok (69, v) w := hmeth "Len" _ (by kernel_rfl) n B v w hn h
theorem hm_less (n B : Nat) (v : Value) (w : World) (hn : 0 < n) (h : w.cell? ⟨B, 0, none⟩ = some v) : (method n 78 (.pointer (some ⟨B, 0, none⟩)) "Less").run Try.prog w = .ok (101, v) w := hmeth "Less" _ (by kernel_rfl) n B v w hn h
theorem hm_swap (n B : Nat) (v : Value) (w : World) (hn : 0 < n) (h : w.cell? ⟨B, 0, none⟩ = some v) : (method n 78 (.pointer (some ⟨B, 0, none⟩)) "Swap").run Try.prog w = .ok (104, v) w := hmeth "Swap" _ (by kernel_rfl) n B v w hn h
theorem hm_pop (n B : Nat) (w : World) (hn : 0 < n) : (method n 78 (.pointer (some ⟨B, 0, none⟩)) "Pop").run Try.prog w = .ok (102, .pointer (some ⟨B, 0, none⟩)) w := hmethP "Pop" _ (by kernel_rfl) n B w hn
theorem hm_push (n B : Nat) (w : World) (hn : 0 < n) : (method n 78 (.pointer (some ⟨B, 0, none⟩)) "Push").run Try.prog w = .ok (103, .pointer (some ⟨B, 0, none⟩)) w := hmethP "Push" _ (by kernel_rfl) n B w hn
end Go.Proofs.Ytpfnpinoamjcjaa
namespace Go.Proofs.Ytpfnpinoamjcjaa
open Go.ChangeShapes Go.WideShapes Go.ChangeAt Go.RowKit Go.BigFrame
set_option linter.unusedVariables false
set_option linter.unusedSimpArgs false

/-- the heap between the steps of up and down: exchanges among the first m alone, in its own row -/
structure HpT (b0 : Nat) (w w' : World) (B : Nat) (v : Value) (m : Nat) (H H' : List Int) : Prop where
  hp : HpS b0 w' B v H'
  sw : SwN m H H'
  gr : w.grownBy w' v.ownBlock
theorem HpT.start {b0 : Nat} {w : World} {B : Nat} {v : Value} {H : List Int} (m : Nat) (h : HpS b0 w B v H) : HpT b0 w w B v m H H := ⟨h, .refl _ _, World.grownBy.refl _ _⟩
theorem HpT.next {b0 : Nat} {w w1 w2 : World} {B : Nat} {v : Value} {m : Nat} {H H' : List Int} (h : HpT b0 w w1 B v m H H') (hb : Below w1.heap.size w1 w2) : HpT b0 w w2 B v m H H' :=
  ⟨h.hp.next hb, h.sw, grownT h.gr (grown_of_below' hb _)⟩
theorem HpT.len {b0 : Nat} {w w' : World} {B : Nat} {v : Value} {m : Nat} {H H' : List Int} (h : HpT b0 w w' B v m H H') : H'.length = H.length := h.sw.1
theorem HpT.swap {b0 : Nat} {w w1 w2 : World} {B g cap : Nat} {m n i j : Nat} {H H' : List Int} (h : HpT b0 w w1 B (.slice (some ⟨g, 0, none⟩) n cap) m H H') (hm : m ≤ H'.length) (hi : i < m) (hj : j < m)
    (ho : w2.ownsRow b0 3 1 (.slice (some ⟨g, 0, none⟩) n cap) H'.length (intsV (swpL H' i j))) (hg : w1.grownBy w2 (some g)) : HpT b0 w w2 B (.slice (some ⟨g, 0, none⟩) n cap) m H (swpL H' i j) :=
  ⟨⟨(hg.block B (Array.getElem?_eq_some_iff.1 h.hp.box).1 (fun e => h.hp.ne e.symm)).trans h.hp.box, by rw [swpL_len]; exact ho, h.hp.ne⟩, h.sw.trans (swp_swn hm hi hj), grownT h.gr hg⟩
set_option maxRecDepth 100000 in
set_option maxHeartbeats 4000000 in
theorem hup_any (b0 B j0 : Nat) (v : Value) (H : List Int) (w : World) (h : HpS b0 w B v H) (hj : j0 < H.length) (hs : H.length ≤ 1000) :
    Calls Try.prog 81 #[hpV B, .int .i64 j0] w fun e w' => e = .returned (.tuple #[]) ∧ ∃ H', HpT b0 w w' B v H.length H H' := by
  obtain ⟨g, cap, hv⟩ := ownsRow_shape1 h.own (by omega)
  subst hv
  have HT0 := Lib.hid (HpT.start H.length h)
  clear h
  go_enter Try.func81, Try.ntmps81
  go_wp2
  go_loopw [1] (fun jv wr => ∃ (j : Nat) (H' : List Int), jv = .int .i64 j ∧ j < H.length ∧ HpT b0 w wr B (.slice (some ⟨g, 0, none⟩) H.length cap) H.length H H') (fun jv _ => (intOf jv).toNat)
  case atStart => exact ⟨j0, H, rfl, hj, HT0.out⟩
  case round =>
    obtain ⟨j, H', rfl, hjl, hT⟩ := hrel
    have HT := Lib.hid hT
    clear hT HT0 hj
    have hl := HT.out.len
    by_cases hj0 : j = 0
    · subst hj0
      have e1 : IntKind.i64.wrap (((0 : Nat) : Int) - 1) = -1 := rfl
      have e2 : ((-1 : Int)).tdiv 2 = 0 := rfl
      go_wp2
      go_end0
      exact ⟨rfl, _, HT.out⟩
    · obtain ⟨i, hi⟩ : ∃ i, i = (j - 1) / 2 := ⟨_, rfl⟩
      have e1 : IntKind.i64.wrap ((j : Int) - 1) = (j : Int) - 1 := IntWalk.i64_in _ (by omega)
      have e2 : ((j : Int) - 1).tdiv 2 = (i : Int) := by rw [Int.tdiv_eq_ediv_of_nonneg (by omega)]; omega
      have e3 : IntKind.i64.wrap (i : Int) = (i : Int) := IntWalk.i64_in _ (by omega)
      have hij : i < j := by omega
      have d1 : ¬ (i : Int) = (j : Int) := by omega
      have hbx := HT.out.hp.cell.1
      have hMl := fun n hn => hm_less n B (.slice (some ⟨g, 0, none⟩) H.length cap) wr hn hbx
      have HLS := Lib.hid (hless_any b0 g cap j i H' wr (by rw [hl]; have := HT.out.hp.own; rwa [hl] at this) (by omega) (by omega) (by omega))
      rw [hl] at HLS
      clear hi
      go_wp2_with fail
      refine HLS.out.mono ?_
      rintro e w2 ⟨⟨b, rfl⟩, hb2⟩
      have HT2 := Lib.hid (HT.out.next hb2)
      clear hb2 HLS hMl hbx HT
      cases b with
      | false =>
        go_wp2
        go_end0
        exact ⟨rfl, _, HT2.out⟩
      | true =>
        have hbx2 := HT2.out.hp.cell.1
        have hMs := fun n hn => hm_swap n B (.slice (some ⟨g, 0, none⟩) H.length cap) w2 hn hbx2
        have HSW := Lib.hid (hswap_any b0 g cap i j H' w2 (by rw [hl]; have := HT2.out.hp.own; rwa [hl] at this) (by omega) (by omega) (by omega))
        rw [hl] at HSW
        go_wp2_with fail
        refine HSW.out.mono ?_
        rintro e w3 ⟨rfl, ho3, hg3⟩
        have HT3 := Lib.hid (HT2.out.swap (i := i) (j := j) (by omega) (by omega) hjl (by rw [hl]; exact ho3) hg3)
        clear ho3 hg3 HSW hMs hbx2 HT2
        go_wp2
        exact ⟨⟨i, _, rfl, by omega, HT3.out⟩, by simp [intOf]; omega⟩
set_option maxRecDepth 100000 in
set_option maxHeartbeats 4000000 in
theorem hdown_any (b0 B n : Nat) (v : Value) (H : List Int) (w : World) (h : HpS b0 w B v H) (hn : n < H.length) (hs : H.length ≤ 1000) :
    Calls Try.prog 76 #[hpV B, .int .i64 0, .int .i64 n] w fun e w' => (∃ b, e = .returned (.bool b)) ∧ ∃ H', HpT b0 w w' B v n H H' := by
  obtain ⟨g, cap, hv⟩ := ownsRow_shape1 h.own (by omega)
  subst hv
  have HT0 := Lib.hid (HpT.start n h)
  clear h
  go_enter Try.func76, Try.ntmps76
  go_wp2
  go_loopw [7] (fun iv wr => ∃ (i : Nat) (H' : List Int), iv = .int .i64 i ∧ (i = 0 ∨ i < n) ∧ HpT b0 w wr B (.slice (some ⟨g, 0, none⟩) H.length cap) n H H') (fun iv _ => n - (intOf iv).toNat)
  case atStart => exact ⟨0, H, rfl, .inl rfl, HT0.out⟩
  case round =>
    obtain ⟨i, H', rfl, hin, hT⟩ := hrel
    have HT := Lib.hid hT
    clear hT HT0
    have hl := HT.out.len
    have e0 : IntKind.i64.wrap (2 * (i : Int)) = 2 * (i : Int) := IntWalk.i64_in _ (by omega)
    have e1 : IntKind.i64.wrap (2 * (i : Int) + 1) = ((2 * i + 1 : Nat) : Int) := by rw [IntWalk.i64_in _ (by omega)]; omega
    obtain ⟨j, hj⟩ : ∃ j, j = 2 * i + 1 := ⟨_, rfl⟩
    rw [← hj] at e1
    by_cases hjn : n ≤ j
    · have d1 : (n : Int) ≤ (j : Int) := by omega
      clear hj
      go_wp2
      go_ret
      exact ⟨⟨_, rfl⟩, _, HT.out⟩
    · have d1 : ¬ (n : Int) ≤ (j : Int) := by omega
      have d2 : ¬ (j : Int) < 0 := by omega
      have e2 : IntKind.i64.wrap ((j : Int) + 1) = ((j + 1 : Nat) : Int) := by rw [IntWalk.i64_in _ (by omega)]; omega
      have hij : i < j := by omega
      have hown := Lib.hid (show wr.ownsRow b0 3 1 (.slice (some ⟨g, 0, none⟩) H'.length cap) H'.length (intsV H') by rw [hl]; have := HT.out.hp.own; rwa [hl] at this)
      have hbx := HT.out.hp.cell.1
      have hMl := fun n hn => hm_less n B (.slice (some ⟨g, 0, none⟩) H.length cap) wr hn hbx
      clear hj
      by_cases hj2 : j + 1 < n
      · have d3 : ((j + 1 : Nat) : Int) < (n : Int) := by omega
        have HLS := Lib.hid (hless_any b0 g cap (j + 1) j H' wr hown.out (by omega) (by omega) (by omega))
        rw [hl] at HLS
        go_wp2_with fail
        refine HLS.out.mono ?_
        rintro e w2 ⟨⟨b, rfl⟩, hb2⟩
        have HT2 := Lib.hid (HT.out.next hb2)
        clear hb2 HLS hMl hbx HT hown
        have hown := Lib.hid (show w2.ownsRow b0 3 1 (.slice (some ⟨g, 0, none⟩) H'.length cap) H'.length (intsV H') by rw [hl]; have := HT2.out.hp.own; rwa [hl] at this)
        have hbx := HT2.out.hp.cell.1
        have hMl := fun n hn => hm_less n B (.slice (some ⟨g, 0, none⟩) H.length cap) w2 hn hbx
        cases b with
        | true =>
          have HLT := Lib.hid (hless_any b0 g cap (j + 1) i H' w2 hown.out (by omega) (by omega) (by omega))
          rw [hl] at HLT
          go_wp2_with fail
          refine HLT.out.mono ?_
          rintro e w4 ⟨⟨b, rfl⟩, hb4⟩
          have HT4 := Lib.hid (HT2.out.next hb4)
          clear hb4 HLT hMl hbx hown
          cases b with
          | false =>
            go_wp2
            go_ret
            exact ⟨⟨_, rfl⟩, _, HT4.out⟩
          | true =>
            have hbx4 := HT4.out.hp.cell.1
            have hMs := fun n hn => hm_swap n B (.slice (some ⟨g, 0, none⟩) H.length cap) w4 hn hbx4
            have HSW := Lib.hid (hswap_any b0 g cap i (j + 1) H' w4 (by rw [hl]; have := HT4.out.hp.own; rwa [hl] at this) (by omega) (by omega) (by omega))
            rw [hl] at HSW
            go_wp2_with fail
            refine HSW.out.mono ?_
            rintro e w5 ⟨rfl, ho5, hg5⟩
            have HT5 := Lib.hid (HT4.out.swap (i := i) (j := j + 1) (by omega) (by omega) (by omega) (by rw [hl]; exact ho5) hg5)
            clear ho5 hg5 HSW hMs hbx4 HT4
            go_wp2
            exact ⟨⟨j + 1, _, rfl, .inr (by omega), HT5.out⟩, by simp [intOf]; omega⟩
        | false =>
          have HLT := Lib.hid (hless_any b0 g cap (j) i H' w2 hown.out (by omega) (by omega) (by omega))
          rw [hl] at HLT
          go_wp2_with fail
          refine HLT.out.mono ?_
          rintro e w4 ⟨⟨b, rfl⟩, hb4⟩
          have HT4 := Lib.hid (HT2.out.next hb4)
          clear hb4 HLT hMl hbx hown
          cases b with
          | false =>
            go_wp2
            go_ret
            exact ⟨⟨_, rfl⟩, _, HT4.out⟩
          | true =>
            have hbx4 := HT4.out.hp.cell.1
            have hMs := fun n hn => hm_swap n B (.slice (some ⟨g, 0, none⟩) H.length cap) w4 hn hbx4
            have HSW := Lib.hid (hswap_any b0 g cap i (j) H' w4 (by rw [hl]; have := HT4.out.hp.own; rwa [hl] at this) (by omega) (by omega) (by omega))
            rw [hl] at HSW
            go_wp2_with fail
            refine HSW.out.mono ?_
            rintro e w5 ⟨rfl, ho5, hg5⟩
            have HT5 := Lib.hid (HT4.out.swap (i := i) (j := j) (by omega) (by omega) (by omega) (by rw [hl]; exact ho5) hg5)
            clear ho5 hg5 HSW hMs hbx4 HT4
            go_wp2
            exact ⟨⟨j, _, rfl, .inr (by omega), HT5.out⟩, by simp [intOf]; omega⟩
      · have d3 : ¬ ((j + 1 : Nat) : Int) < (n : Int) := by omega
        have HLT := Lib.hid (hless_any b0 g cap (j) i H' wr hown.out (by omega) (by omega) (by omega))
        rw [hl] at HLT
        go_wp2_with fail
        refine HLT.out.mono ?_
        rintro e w4 ⟨⟨b, rfl⟩, hb4⟩
        have HT4 := Lib.hid (HT.out.next hb4)
        clear hb4 HLT hMl hbx hown
        cases b with
        | false =>
          go_wp2
          go_ret
          exact ⟨⟨_, rfl⟩, _, HT4.out⟩
        | true =>
          have hbx4 := HT4.out.hp.cell.1
          have hMs := fun n hn => hm_swap n B (.slice (some ⟨g, 0, none⟩) H.length cap) w4 hn hbx4
          have HSW := Lib.hid (hswap_any b0 g cap i (j) H' w4 (by rw [hl]; have := HT4.out.hp.own; rwa [hl] at this) (by omega) (by omega) (by omega))
          rw [hl] at HSW
          go_wp2_with fail
          refine HSW.out.mono ?_
          rintro e w5 ⟨rfl, ho5, hg5⟩
          have HT5 := Lib.hid (HT4.out.swap (i := i) (j := j) (by omega) (by omega) (by omega) (by rw [hl]; exact ho5) hg5)
          clear ho5 hg5 HSW hMs hbx4 HT4
          go_wp2
          exact ⟨⟨j, _, rfl, .inr (by omega), HT5.out⟩, by simp [intOf]; omega⟩
end Go.Proofs.Ytpfnpinoamjcjaa
namespace Go.Proofs.Ytpfnpinoamjcjaa
open Go
section
variable {P : Program} {ops : Array Oper} {Q : Exit → Act → World → Prop} {md : Region.Mode} {S : World → Prop} {E : List Nat}
/-- an operation that each other stands ahead of or behind -/
def lastQ (md : Region.Mode) (ops : Array Oper) (E : List Nat) (i : Nat) : Prop := ∃ o, ops[i]? = some o ∧ ∀ k ok, ops[k]? = some ok → k ≠ i → k ∉ E → (∃ e ∈ o.after, Region.binds md e = true ∧ e.on = k) ∨ ∃ e ∈ ok.after, Region.binds md e = true ∧ e.on = i
def lastQB (md : Region.Mode) (ops : Array Oper) (E : List Nat) (i : Nat) : Bool := match ops[i]? with
  | some o => (List.range ops.size).all fun k => k == i || E.contains k || (o.after.any fun e => Region.binds md e && e.on == k) || (match ops[k]? with | some ok => ok.after.any fun e => Region.binds md e && e.on == i | none => false)
  | none => false
theorem lastQ_of {i : Nat} (h : lastQB md ops E i = true) : lastQ md ops E i := by
  unfold lastQB at h
  split at h
  · rename_i o ho
    refine ⟨o, ho, fun k ok hok hne hkE => ?_⟩
    have h1 := List.all_eq_true.1 h k (List.mem_range.2 (Array.getElem?_eq_some_iff.1 hok).1)
    rw [hok] at h1
    simp only [Bool.or_eq_true, beq_iff_eq] at h1
    rcases h1 with ((h1 | h1) | h1) | h1
    · exact absurd h1 hne
    · exact absurd (by simpa using h1) hkE
    · obtain ⟨j, hj, h2⟩ := Array.any_eq_true.1 h1
      simp only [Bool.and_eq_true, beq_iff_eq] at h2
      exact .inl ⟨_, Array.getElem_mem hj, h2.1, h2.2⟩
    · obtain ⟨j, hj, h2⟩ := Array.any_eq_true.1 h1
      simp only [Bool.and_eq_true, beq_iff_eq] at h2
      exact .inr ⟨_, Array.getElem_mem hj, h2.1, h2.2⟩
  · cases h
/-- whatever order is picked from here on; behind each operation a sharper condition holds, or any behind one that each other stands ahead of or behind -/
def wpL (P : Program) (md : Region.Mode) (ops : Array Oper) (Q : Exit → Act → World → Prop) (E : List Nat) : Nat → (World → Prop) → Array Bool → Act → World → Prop
  | 0, _, listed, a, w => Region.ready md ops listed = [] ∧ Q .normal a w
  | fuel + 1, S, listed, a, w =>
    (Region.ready md ops listed = [] → Q .normal a w) ∧
    ∀ i ∈ Region.ready md ops listed, wpOp P ops Q i (fun a' w' => ∃ S' : World → Prop, ((∀ x, S' x → S x) ∨ lastQ md ops E i) ∧ S' w' ∧ wpL P md ops Q E fuel S' (listed.setIfInBounds i true) a' w') a w

theorem wpAny_of_L : ∀ (fuel : Nat) (S : World → Prop) (listed : Array Bool) (a : Act) (w : World), wpL P md ops Q E fuel S listed a w → wpAny P md ops Q fuel listed a w
  | 0, _, _, _, _, h => h
  | fuel + 1, S, _, _, _, h => ⟨h.1, fun i hi => wpOp_mono (fun a' w' h' => by
      obtain ⟨S', _, _, h'⟩ := h'
      exact wpAny_of_L fuel S' _ a' w' h') (h.2 i hi)⟩

theorem wpL_first {i : Nat} {oi : Oper} {v : Value} (hiE : i ∉ E) (hi : ops[i]? = some oi) (hsel : ∀ (j : Nat) (o : Oper) cs b, ops[j]? = some o → o.op ≠ .select cs b)
    (hQ : ∀ c a w, Q (.panic c) (a.put oi.dst v) w → Q (.panic c) a w) :
    ∀ (fuel : Nat) (S : World → Prop) (listed : Array Bool) (a : Act) (w : World),
      (∀ j oj, ops[j]? = some oj → j ≠ i → listed.getD j true = false → (∀ e ∈ oj.after, Region.binds md e = true → e.on ≠ i) → oi.apart ops oj = true) →
      i ∈ Region.ready md ops listed → YieldsIf P ops S oi v a → S w →
      wpL P md ops Q E fuel S (listed.setIfInBounds i true) (a.put oi.dst v) w → wpL P md ops Q E (fuel + 1) S listed a w := by
  intro fuel
  induction fuel with
  | zero =>
    intro S listed a w _ hr hy hS H
    refine ⟨fun h => (by rw [h] at hr; cases hr), fun j hj => ?_⟩
    by_cases hji : j = i
    · subst hji; exact hy.wpOp hi hS ⟨S, .inl (fun _ h => h), hS, H⟩
    · have := ready_mono hj hji
      rw [H.1] at this
      cases this
  | succ fuel ih =>
    intro S listed a w hfree hr hy hS H
    refine ⟨fun h => (by rw [h] at hr; cases hr), fun j hj => ?_⟩
    by_cases hji : j = i
    · subst hji; exact hy.wpOp hi hS ⟨S, .inl (fun _ h => h), hS, H⟩
    · have h1 := H.2 j (ready_mono hj hji)
      obtain ⟨hjun, oj, hoj, hall⟩ := mem_ready.1 hj
      have hnot : ∀ e ∈ oj.after, Region.binds md e = true → e.on ≠ i := fun e he hb heq => by
        have h1 := hall e he hb
        have h0 := (mem_ready.1 hr).1
        rw [heq] at h1
        rcases Nat.lt_or_ge i listed.size with h' | h'
        · simp [h'] at h0 h1; rw [h0] at h1; cases h1
        · simp [Array.getElem?_eq_none h'] at h1
      have h2 := wpOp_putIf hoj (hfree j oj hoj hji hjun hnot) (fun cs b => hsel i oi cs b hi) (fun cs b => hsel j oj cs b hoj) hQ hy h1
      have hfree' : ∀ k ok, ops[k]? = some ok → k ≠ i → (listed.setIfInBounds j true).getD k true = false →
          (∀ e ∈ ok.after, Region.binds md e = true → e.on ≠ i) → oi.apart ops ok = true := fun k ok hk hki hun hno => by
        refine hfree k ok hk hki ?_ hno
        by_cases hjk : j = k
        · subst hjk; exact hjun
        · rw [getD_set_ne true hjk] at hun; exact hun
      refine wpOp_mono (fun a' w' h3 => ?_) h2
      obtain ⟨hy3, h3⟩ := h3
      obtain ⟨S', hs, hs2, h4⟩ := h3
      have hs : ∀ x, S' x → S x := by
        rcases hs with hs | ⟨o5, h5, h6⟩
        · exact hs
        · rw [hoj] at h5
          cases h5
          rcases h6 i oi hi (Ne.symm hji) hiE with ⟨e, he, hb, heq⟩ | ⟨e, he, hb, heq⟩
          · exact absurd heq (hnot e he hb)
          · obtain ⟨_, oi2, hoi2, hall2⟩ := mem_ready.1 hr
            rw [hi] at hoi2
            cases hoi2
            have h1 := hall2 e he hb
            rw [heq] at h1
            rcases Nat.lt_or_ge j listed.size with h' | h'
            · simp [h'] at hjun h1; rw [hjun] at h1; cases h1
            · simp [Array.getElem?_eq_none h'] at h1
      refine ⟨S', .inl hs, hs2, ih S' (listed.setIfInBounds j true) a' w' hfree' (ready_mono hr (Ne.symm hji)) (YieldsIf.sharper hs hy3) hs2 ?_⟩
      rw [Array.setIfInBounds_comm _ _ hji]
      exact h4

/-- none of those that are taken is an exception -/
def avoidB (E : List Nat) : List Bool → Nat → Bool
  | [], _ => true
  | b :: m, i => (!b || !E.contains i) && avoidB E m (i + 1)
theorem takes_L {l : List Oper} (hs : Region.noSelect l.toArray = true) (hQ : ∀ c a d v w, Q (.panic c) (Act.put a d v) w → Q (.panic c) a w) {S : World → Prop} {w : World} (hS : S w) {R : Act → Prop} :
    ∀ (m : List Bool) (i fuel : Nat) (listed : Array Bool) (a : Act), takesB md l m i listed = true → avoidB E m i = true → m.length + i ≤ l.length →
      (∀ a', R a' → wpL P md l.toArray Q E fuel S (takenL m i listed) a' w) → wpQuiet P l.toArray S R (maskRows m (l.drop i)) a → wpL P md l.toArray Q E (fuel + countT m) S listed a w
  | [], i, fuel, listed, a, _, _, _, hk, h => hk a (by simpa [maskRows, wpQuiet] using h)
  | false :: m, i, fuel, listed, a, hb, hav, hl, hk, h => by
    have hav : avoidB E m (i + 1) = true := by simpa [avoidB] using hav
    have hlt : i < l.length := by simp only [List.length_cons] at hl; omega
    rw [List.drop_eq_getElem_cons hlt] at h
    exact takes_L hs hQ hS m (i + 1) fuel listed a hb hav (by simp only [List.length_cons] at hl; omega) hk h
  | true :: m, i, fuel, listed, a, hb, hav, hl, hk, h => by
    have hav : i ∉ E ∧ avoidB E m (i + 1) = true := by simpa [avoidB] using hav
    have hlt : i < l.length := by simp only [List.length_cons] at hl; omega
    rw [List.drop_eq_getElem_cons hlt] at h
    simp only [takesB, Bool.and_eq_true] at hb
    obtain ⟨⟨⟨hv, hf⟩, hr⟩, hb⟩ := hb
    have ho : l.toArray[i]? = some l[i] := by simp [hlt]
    rw [show l[i]? = some l[i] from by simp [hlt]] at hv
    dsimp only at hv
    simp only [maskRows, wpQuiet] at h
    have hin : i ∈ Region.ready md l.toArray listed := by simpa using hr
    show wpL P md l.toArray Q E (fuel + countT m + 1) S listed a w
    by_cases hw : Region.wanted l[i] (yielded l.toArray a.tmps) = true
    · rw [if_pos hw] at h
      obtain ⟨v, h1, h2⟩ := h
      exact wpL_first hav.1 ho (Region.noSelect_spec hs) (fun c a w => hQ c a _ _ w) _ S listed a w (Region.free_spec ho hf) hin (yields_of_quiet hv hw h1) hS
        (takes_L hs hQ hS m (i + 1) fuel _ _ hb hav.2 (by simp only [List.length_cons] at hl; omega) hk h2)
    · rw [if_neg hw] at h
      exact wpL_first hav.1 ho (Region.noSelect_spec hs) (fun c a w => hQ c a _ _ w) _ S listed a w (Region.free_spec ho hf) hin (.inr ⟨by simpa using hw, rfl⟩) hS
        (takes_L hs hQ hS m (i + 1) fuel _ _ hb hav.2 (by simp only [List.length_cons] at hl; omega) hk h)
theorem wpL_done {listed : Array Bool} {a : Act} {w : World} (hr : Region.ready md ops listed = []) (h : Q .normal a w) : ∀ fuel, wpL P md ops Q E fuel S listed a w
  | 0 => ⟨hr, h⟩
  | _ + 1 => ⟨fun _ => h, by rw [hr]; simp⟩
/-- what reads is taken; then one after another of what is ready is tried -/
theorem wpL_seg {l : List Oper} (m : List Bool) (rd : List Nat) (fuel' : Nat) {fuel : Nat} {listed : Array Bool} {a : Act} {w : World} (hs : Region.noSelect l.toArray = true)
    (hQ : ∀ c a d v w, Q (.panic c) (Act.put a d v) w → Q (.panic c) a w) (hb : segtB md l m rd fuel fuel' listed = true) (hav : avoidB E m 0 = true) (hS : S w)
    (h : wpQuiet P l.toArray S (fun a' => ∀ i ∈ rd, wpOp P l.toArray Q i (fun a'' w'' => ∃ S' : World → Prop, ((∀ x, S' x → S x) ∨ lastQ md l.toArray E i) ∧ S' w'' ∧ wpL P md l.toArray Q E fuel' S' ((takenL m 0 listed).setIfInBounds i true) a'' w'') a' w) (maskRows m l) a) :
    wpL P md l.toArray Q E fuel S listed a w := by
  simp only [segtB, Bool.and_eq_true, decide_eq_true_eq, Bool.not_eq_true'] at hb
  obtain ⟨⟨⟨⟨h1, h2⟩, h3⟩, h4⟩, h5⟩ := hb
  subst h1
  refine takes_L (P := P) (md := md) hs hQ hS (R := fun a' => ∀ i ∈ rd, wpOp P l.toArray Q i (fun a'' w'' => ∃ S' : World → Prop, ((∀ x, S' x → S x) ∨ lastQ md l.toArray E i) ∧ S' w'' ∧ wpL P md l.toArray Q E fuel' S' ((takenL m 0 listed).setIfInBounds i true) a'' w'') a' w) m 0 (fuel' + 1) listed a h3 hav (by omega) (fun a' hq => ?_) (by simpa using h)
  refine ⟨fun h0 => (by rw [h4] at h0; rw [h0] at h5; cases h5), fun j hj => ?_⟩
  rw [h4] at hj
  exact hq j hj
theorem wpL_end {l : List Oper} (m : List Bool) {fuel : Nat} {listed : Array Bool} {a : Act} {w : World} (hs : Region.noSelect l.toArray = true)
    (hQ : ∀ c a d v w, Q (.panic c) (Act.put a d v) w → Q (.panic c) a w) (hb : segeB md l m fuel listed = true) (hav : avoidB E m 0 = true) (hS : S w)
    (h : wpQuiet P l.toArray S (fun a' => Q .normal a' w) (maskRows m l) a) : wpL P md l.toArray Q E fuel S listed a w := by
  simp only [segeB, Bool.and_eq_true, decide_eq_true_eq] at hb
  obtain ⟨⟨⟨h1, h2⟩, h3⟩, h4⟩ := hb
  have := takes_L (P := P) (md := md) hs hQ hS (R := fun a' => Q .normal a' w) m 0 (fuel - countT m) listed a h3 hav (by omega) (fun a' hq => wpL_done h4 hq _) (by simpa using h)
  rwa [Nat.sub_add_cancel h1] at this
theorem wp_region_L {id : Nat} {a : Act} {w : World} {l : List Oper} (E : List Nat) (S : World → Prop) (hm : P.follows .mixedOrders = true) (h : wpL P .any l.toArray Q E l.length S (Array.replicate l.length false) a w.drew) :
    (Code.region id l.toArray true).wp P Q a w := wp_region_any hm (wpAny_of_L _ _ _ _ _ (by simpa using h))
/-- one that is carried out -/
theorem segl_run {l : List Oper} {fuel : Nat} {listed : Array Bool} {i : Nat} {o : Oper} {a : Act} {w : World} (ho : l.toArray[i]? = some o) (hw : Region.wanted o (yielded l.toArray a.tmps) = true)
    (h : ∀ K : Act → World → Prop, (∀ a' w', (∃ S' : World → Prop, ((∀ x, S' x → S x) ∨ lastQ md l.toArray E i) ∧ S' w' ∧ wpL P md l.toArray Q E fuel S' listed a' w') → K a' w') → o.wp P a w K Q) :
    wpOp P l.toArray Q i (fun a'' w'' => ∃ S' : World → Prop, ((∀ x, S' x → S x) ∨ lastQ md l.toArray E i) ∧ S' w'' ∧ wpL P md l.toArray Q E fuel S' listed a'' w'') a w := by
  unfold wpOp
  simp only [ho, hw, if_true]
  exact .inl (h _ fun _ _ h => h)
end
end Go.Proofs.Ytpfnpinoamjcjaa
namespace Go.Proofs.Ytpfnpinoamjcjaa
open Go.ChangeShapes Go.WideShapes Go.ChangeAt Go.RowKit Go.BigFrame
set_option linter.unusedVariables false
set_option linter.unusedSimpArgs false

theorem wp_append_hp {o : Oper} {a : Act} {w : World} {Kn : Act → World → Prop} {Q : Exit → Act → World → Prop} (s x : Operand)
    (ho : o.op = .call { callee := .builtin .append, args := #[s, x], argTypes := #[79, 79] })
    {base : Nat} {v : Value} {xs : List Int} (hown : w.ownsRow base 3 1 v xs.length (intsV xs)) (g : Nat) (z : Int) (hu : w.heap[g]? = some (.cells #[.int .i64 z] 3 (0, 0))) (hs : a.eval s = v) (hx : a.eval x = .slice (some ⟨g, 0, none⟩) 1 1) (hn : xs.length ≤ 1000000) (hbase : base ≤ w.heap.size)
    (h : ∀ v' w', w'.ownsRow base 3 1 v' (xs ++ [z]).length (intsV (xs ++ [z])) → w.grownBy w' v.ownBlock → (v'.ownBlock = v.ownBlock ∨ v'.ownBlock = some w.heap.size) → Kn (a.put o.dst v') w') : o.wp Try.prog a w Kn Q := by
  obtain ⟨i0, hi, hz0, hz1, hz2⟩ := info_parts infoInt
  obtain ⟨v', w', hr, h2, h3, h4, h5⟩ := run_append_own_at (P := Try.prog) w base 79 o.type 3 i0 (.int .i64 0) 1 8 Try.underlying79 hi hz0 hz1 hz2 rfl (by decide) v xs.length (intsV xs) hown ⟨g, 0, none⟩ 1 1 [.int .i64 z] rfl
    (fun j u hj => by
      have hadd : (⟨g, 0, none⟩ : Addr).add j = ⟨g, j, none⟩ := by unfold Addr.add; split <;> simp_all
      rw [hadd, cell_of_row _ _ _ _ _ _ hu]
      simpa using hj) (fun u hu => by rcases List.mem_singleton.1 hu with rfl; rfl) (by unfold maxLen; omega) (by omega) hbase
  unfold Oper.wp execOp
  simp only [ho, resolve, invoke, builtin, Sem.run_bind, Sem.run_pure, Result.andThen_ok, List.map_toArray, List.map_cons, List.map_nil, hs, hx, hr]
  refine h v' w' ?_ h3 h5
  rw [List.length_append, intsV_app]
  exact h2
set_option maxRecDepth 100000 in
set_option maxHeartbeats 4000000 in
theorem hpushm_any (b0 B : Nat) (v : Value) (H : List Int) (x : Int) (w : World) (h : HpS b0 w B v H) (hs : H.length ≤ 1000) (hb : b0 ≤ w.heap.size) :
    Calls Try.prog 103 #[.pointer (some ⟨B, 0, none⟩), .iface 3 (.int .i64 x)] w fun e w' => e = .returned (.tuple #[]) ∧ ∃ v', HpS b0 w' B v' (H ++ [x]) ∧ (v'.ownBlock = v.ownBlock ∨ ∀ b, v'.ownBlock = some b → w.heap.size ≤ b) ∧ KeepX (fun j => j = B ∨ v.ownBlock = some j) w w' := by
  obtain ⟨va, vc, hvs⟩ := h.shape
  subst hvs
  generalize hv : Value.slice va H.length vc = v at *
  have HVS := Lib.hid hv
  subst hv
  have HP := Lib.hid (show HpS b0 w.drew B (.slice va H.length vc) H from ⟨h.box, h.own.drew, h.ne⟩)
  have HK := Lib.hid (show KeepX (fun j => j = B ∨ (Value.slice va H.length vc).ownBlock = some j) w w.drew from KeepX.below (Below.refl _ _).drew)
  have LB : ∀ wx : World, wx.heap[B]? = some (.cells #[.slice va H.length vc] 79 (0, 0)) → (loadVar 79 ⟨B, 0, none⟩).run Try.prog wx = .ok (.slice va H.length vc) wx := fun wx hx => hp_load (by rw [cell_of_row _ _ _ _ _ _ hx]; rfl)
  clear h HVS
  go_enter Try.func103, Try.ntmps103
  go_upto_region 0 with (fail)
  refine wp_region_L [] (fun wx => wx.heap[B]? = some (.cells #[.slice va H.length vc] 79 (0, 0))) (by kernel_rfl) ?_
  generalize (w).drew = wD0 at *
  refine wpL_seg [true, true, false, false, true] [2, 5] 6 (by kernel_rfl) (by intro c a d v w h; cases d <;> exact h) (by kernel_rfl) (by kernel_rfl) (by first | exact HP.out.box | exact HP.out.1) ?_
  try simp only [maskRows]
  repeat (first
    | go_big_quiet_skip
    | (go_big_quiet_want
       first
         | (go_big_quiet_op; go_big_quiet_on)
         | (refine q_load 79 _ _ _ rfl rfl LB ?_; simp only [Act.put, List.setIfInBounds_toArray, List.set_cons_zero, List.set_cons_succ]; go_big_quiet_on)
         | (go_big_quiet_op; refine ⟨_, fun _ _ => rfl, ?_⟩; go_big_quiet_on)
         | (go_big_quiet_op; refine ⟨_, fun _ _ _ => rfl, ?_⟩; go_big_quiet_on)
         | (go_big_quiet_op; refine ⟨_, fun _ _ _ _ => rfl, ?_⟩; go_big_quiet_on)))
  refine wpQuiet_nil ?_
  refine List.forall_mem_cons.2 ⟨?_, List.forall_mem_singleton.2 ?_⟩
  · refine segl_run rfl (by rfl) (fun K hK => ?_)
    go_simp
    refine hK _ _ ⟨_, .inl (fun _ h => h), (by first | exact HP.out.box | exact HP.out.1), ?_⟩
    clear hK K
    try simp only [Act.put, List.setIfInBounds_toArray, List.set_cons_zero, List.set_cons_succ]
    refine wpL_seg [false, false, false, true] [5] 4 (by kernel_rfl) (by intro c a d v w h; cases d <;> exact h) (by kernel_rfl) (by kernel_rfl) (by first | exact HP.out.box | exact HP.out.1) ?_
    try simp only [maskRows]
    repeat (first
      | go_big_quiet_skip
      | (go_big_quiet_want
         first
           | (go_big_quiet_op; go_big_quiet_on)
           | (refine q_load 79 _ _ _ rfl rfl LB ?_; simp only [Act.put, List.setIfInBounds_toArray, List.set_cons_zero, List.set_cons_succ]; go_big_quiet_on)
           | (go_big_quiet_op; refine ⟨_, fun _ _ => rfl, ?_⟩; go_big_quiet_on)
           | (go_big_quiet_op; refine ⟨_, fun _ _ _ => rfl, ?_⟩; go_big_quiet_on)
           | (go_big_quiet_op; refine ⟨_, fun _ _ _ _ => rfl, ?_⟩; go_big_quiet_on)))
    refine wpQuiet_nil ?_
    refine List.forall_mem_singleton.2 ?_
    refine segl_run rfl (by rfl) (fun K hK => ?_)
    go_simp
    refine hK _ _ ⟨_, .inl (fun _ h => h), (by first | exact HP.out.box | exact HP.out.1), ?_⟩
    clear hK K
    try simp only [Act.put, List.setIfInBounds_toArray, List.set_cons_zero, List.set_cons_succ]
    refine wpL_seg [] [6] 3 (by kernel_rfl) (by intro c a d v w h; cases d <;> exact h) (by kernel_rfl) (by kernel_rfl) (by first | exact HP.out.box | exact HP.out.1) ?_
    try simp only [maskRows]
    refine wpQuiet_nil ?_
    refine List.forall_mem_singleton.2 ?_
    refine segl_run rfl (by rfl) (fun K hK => ?_)
    go_simp
    have HR := Lib.hid (heap_alloc_new wD0 (.cells #[.int .i64 x] 3))
    have hbn := (Below.refl wD0.heap.size wD0).alloc (Nat.le_refl _) (.cells #[.int .i64 x] 3)
    replace HP := Lib.hid (HP.out.next hbn)
    replace HK := Lib.hid (HK.out.trans (KeepX.below hbn))
    clear hbn
    generalize World.alloc wD0 (.cells #[.int .i64 x] 3) = w1_ at *
    generalize wD0.heap.size = B6 at *
    refine hK _ _ ⟨_, .inl (fun _ h => h), (by first | exact HP.out.box | exact HP.out.1), ?_⟩
    clear hK K
    try simp only [Act.put, List.setIfInBounds_toArray, List.set_cons_zero, List.set_cons_succ]
    refine wpL_seg [] [7] 2 (by kernel_rfl) (by intro c a d v w h; cases d <;> exact h) (by kernel_rfl) (by kernel_rfl) (by first | exact HP.out.box | exact HP.out.1) ?_
    try simp only [maskRows]
    refine wpQuiet_nil ?_
    refine List.forall_mem_singleton.2 ?_
    refine segl_run rfl (by rfl) (fun K hK => ?_)
    refine wp_append_hp (.tmp 7) (.tmp 10) rfl HP.out.own B6 x HR.out rfl rfl (by omega) (by have := HK.out.size; omega) ?_
    intro v7 w2_ ho hg hv
    obtain ⟨g7, c7, h7⟩ := ownsRow_shape1 ho (by simp)
    rw [show (H ++ [x]).length = H.length + 1 by simp] at h7
    subst h7
    have hbx := (hg.block B (Array.getElem?_eq_some_iff.1 HP.out.box).1 (fun e => HP.out.ne e.symm)).trans HP.out.box
    have hne : (Value.slice (some ⟨g7, 0, none⟩) (H.length + 1) c7).ownBlock ≠ some B := fun e => by
      rcases hv with h | h
      · exact HP.out.ne (h.symm.trans e)
      · have h1 := Option.some.inj (h.symm.trans e); have h2 := (Array.getElem?_eq_some_iff.1 HP.out.box).1; omega
    have HNW := Lib.hid (show (Value.slice (some ⟨g7, 0, none⟩) (H.length + 1) c7).ownBlock = (Value.slice va H.length vc).ownBlock ∨ ∀ b, (Value.slice (some ⟨g7, 0, none⟩) (H.length + 1) c7).ownBlock = some b → w.heap.size ≤ b from by
      rcases hv with h | h
      · exact .inl h
      · exact .inr fun b e => by have h1 := Option.some.inj (h.symm.trans e); have h2 := HK.out.size; omega)
    replace HK := Lib.hid (HK.out.trans (KeepX.grown hg (fun j e => .inr e)))
    clear HP HR
    have HP := Lib.hid (And.intro hbx (And.intro ho hne))
    clear hbx ho hne hg hv
    go_simp
    refine hK _ _ ⟨_, .inl (fun _ h => h), (by first | exact HP.out.box | exact HP.out.1), ?_⟩
    clear hK K
    try simp only [Act.put, List.setIfInBounds_toArray, List.set_cons_zero, List.set_cons_succ]
    refine wpL_seg [] [8] 1 (by kernel_rfl) (by intro c a d v w h; cases d <;> exact h) (by kernel_rfl) (by kernel_rfl) (by first | exact HP.out.box | exact HP.out.1) ?_
    try simp only [maskRows]
    refine wpQuiet_nil ?_
    refine List.forall_mem_singleton.2 ?_
    refine segl_run rfl (by rfl) (fun K hK => ?_)
    go_simp
    refine hK _ _ ⟨_, .inl (fun _ h => h), (by first | exact HP.out.box | exact HP.out.1), ?_⟩
    clear hK K
    try simp only [Act.put, List.setIfInBounds_toArray, List.set_cons_zero, List.set_cons_succ]
    refine wpL_seg [] [9] 0 (by kernel_rfl) (by intro c a d v w h; cases d <;> exact h) (by kernel_rfl) (by kernel_rfl) (by first | exact HP.out.box | exact HP.out.1) ?_
    try simp only [maskRows]
    refine wpQuiet_nil ?_
    refine List.forall_mem_singleton.2 ?_
    have c0 : w2_.cell? ⟨B, 0, none⟩ = some (.slice va H.length vc) := by rw [cell_of_row _ _ _ _ _ _ HP.out.1]; rfl
    have f0 : w2_.frozen? ⟨B, 0, none⟩ = false := frozen_of_row _ _ _ _ _ HP.out.1
    have HF := Lib.hid (show HpS b0 (w2_.setCell ⟨B, 0, none⟩ (.slice (some ⟨g7, 0, none⟩) (H.length + 1) c7)) B (.slice (some ⟨g7, 0, none⟩) (H.length + 1) c7) (H ++ [x]) from ⟨set_cells (.slice (some ⟨g7, 0, none⟩) (H.length + 1) c7) HP.out.1, HP.out.2.1.kept (Lib.grownBy_setCell w2_ B 0 (.slice (some ⟨g7, 0, none⟩) (H.length + 1) c7)) (.inr HP.out.2.2), HP.out.2.2⟩)
    have HKF := Lib.hid (HK.out.set B 0 (.slice (some ⟨g7, 0, none⟩) (H.length + 1) c7) (.inl rfl))
    refine segl_run rfl (by rfl) (fun K hK => ?_)
    go_simp
    clear c0 f0
    refine hK _ _ ⟨fun _ => True, .inr (lastQ_of (by kernel_rfl)), trivial, ?_⟩
    clear hK K
    try simp only [Act.put, List.setIfInBounds_toArray, List.set_cons_zero, List.set_cons_succ]
    refine wpL_end [] (by kernel_rfl) (by intro c a d v w h; cases d <;> exact h) (by kernel_rfl) (by kernel_rfl) trivial ?_
    try simp only [maskRows]
    refine wpQuiet_nil ?_
    go_wp2
    go_end0
    exact ⟨rfl, _, HF.out, HNW.out, HKF.out⟩
  · refine segl_run rfl (by rfl) (fun K hK => ?_)
    go_simp
    refine hK _ _ ⟨_, .inl (fun _ h => h), (by first | exact HP.out.box | exact HP.out.1), ?_⟩
    clear hK K
    try simp only [Act.put, List.setIfInBounds_toArray, List.set_cons_zero, List.set_cons_succ]
    refine wpL_seg [] [2, 6] 5 (by kernel_rfl) (by intro c a d v w h; cases d <;> exact h) (by kernel_rfl) (by kernel_rfl) (by first | exact HP.out.box | exact HP.out.1) ?_
    try simp only [maskRows]
    refine wpQuiet_nil ?_
    refine List.forall_mem_cons.2 ⟨?_, List.forall_mem_singleton.2 ?_⟩
    · refine segl_run rfl (by rfl) (fun K hK => ?_)
      go_simp
      refine hK _ _ ⟨_, .inl (fun _ h => h), (by first | exact HP.out.box | exact HP.out.1), ?_⟩
      clear hK K
      try simp only [Act.put, List.setIfInBounds_toArray, List.set_cons_zero, List.set_cons_succ]
      refine wpL_seg [false, false, false, true] [6] 3 (by kernel_rfl) (by intro c a d v w h; cases d <;> exact h) (by kernel_rfl) (by kernel_rfl) (by first | exact HP.out.box | exact HP.out.1) ?_
      try simp only [maskRows]
      repeat (first
        | go_big_quiet_skip
        | (go_big_quiet_want
           first
             | (go_big_quiet_op; go_big_quiet_on)
             | (refine q_load 79 _ _ _ rfl rfl LB ?_; simp only [Act.put, List.setIfInBounds_toArray, List.set_cons_zero, List.set_cons_succ]; go_big_quiet_on)
             | (go_big_quiet_op; refine ⟨_, fun _ _ => rfl, ?_⟩; go_big_quiet_on)
             | (go_big_quiet_op; refine ⟨_, fun _ _ _ => rfl, ?_⟩; go_big_quiet_on)
             | (go_big_quiet_op; refine ⟨_, fun _ _ _ _ => rfl, ?_⟩; go_big_quiet_on)))
      refine wpQuiet_nil ?_
      refine List.forall_mem_singleton.2 ?_
      refine segl_run rfl (by rfl) (fun K hK => ?_)
      go_simp
      have HR := Lib.hid (heap_alloc_new wD0 (.cells #[.int .i64 x] 3))
      have hbn := (Below.refl wD0.heap.size wD0).alloc (Nat.le_refl _) (.cells #[.int .i64 x] 3)
      replace HP := Lib.hid (HP.out.next hbn)
      replace HK := Lib.hid (HK.out.trans (KeepX.below hbn))
      clear hbn
      generalize World.alloc wD0 (.cells #[.int .i64 x] 3) = w1_ at *
      generalize wD0.heap.size = B6 at *
      refine hK _ _ ⟨_, .inl (fun _ h => h), (by first | exact HP.out.box | exact HP.out.1), ?_⟩
      clear hK K
      try simp only [Act.put, List.setIfInBounds_toArray, List.set_cons_zero, List.set_cons_succ]
      refine wpL_seg [] [7] 2 (by kernel_rfl) (by intro c a d v w h; cases d <;> exact h) (by kernel_rfl) (by kernel_rfl) (by first | exact HP.out.box | exact HP.out.1) ?_
      try simp only [maskRows]
      refine wpQuiet_nil ?_
      refine List.forall_mem_singleton.2 ?_
      refine segl_run rfl (by rfl) (fun K hK => ?_)
      refine wp_append_hp (.tmp 7) (.tmp 10) rfl HP.out.own B6 x HR.out rfl rfl (by omega) (by have := HK.out.size; omega) ?_
      intro v7 w2_ ho hg hv
      obtain ⟨g7, c7, h7⟩ := ownsRow_shape1 ho (by simp)
      rw [show (H ++ [x]).length = H.length + 1 by simp] at h7
      subst h7
      have hbx := (hg.block B (Array.getElem?_eq_some_iff.1 HP.out.box).1 (fun e => HP.out.ne e.symm)).trans HP.out.box
      have hne : (Value.slice (some ⟨g7, 0, none⟩) (H.length + 1) c7).ownBlock ≠ some B := fun e => by
        rcases hv with h | h
        · exact HP.out.ne (h.symm.trans e)
        · have h1 := Option.some.inj (h.symm.trans e); have h2 := (Array.getElem?_eq_some_iff.1 HP.out.box).1; omega
      have HNW := Lib.hid (show (Value.slice (some ⟨g7, 0, none⟩) (H.length + 1) c7).ownBlock = (Value.slice va H.length vc).ownBlock ∨ ∀ b, (Value.slice (some ⟨g7, 0, none⟩) (H.length + 1) c7).ownBlock = some b → w.heap.size ≤ b from by
        rcases hv with h | h
        · exact .inl h
        · exact .inr fun b e => by have h1 := Option.some.inj (h.symm.trans e); have h2 := HK.out.size; omega)
      replace HK := Lib.hid (HK.out.trans (KeepX.grown hg (fun j e => .inr e)))
      clear HP HR
      have HP := Lib.hid (And.intro hbx (And.intro ho hne))
      clear hbx ho hne hg hv
      go_simp
      refine hK _ _ ⟨_, .inl (fun _ h => h), (by first | exact HP.out.box | exact HP.out.1), ?_⟩
      clear hK K
      try simp only [Act.put, List.setIfInBounds_toArray, List.set_cons_zero, List.set_cons_succ]
      refine wpL_seg [] [8] 1 (by kernel_rfl) (by intro c a d v w h; cases d <;> exact h) (by kernel_rfl) (by kernel_rfl) (by first | exact HP.out.box | exact HP.out.1) ?_
      try simp only [maskRows]
      refine wpQuiet_nil ?_
      refine List.forall_mem_singleton.2 ?_
      refine segl_run rfl (by rfl) (fun K hK => ?_)
      go_simp
      refine hK _ _ ⟨_, .inl (fun _ h => h), (by first | exact HP.out.box | exact HP.out.1), ?_⟩
      clear hK K
      try simp only [Act.put, List.setIfInBounds_toArray, List.set_cons_zero, List.set_cons_succ]
      refine wpL_seg [] [9] 0 (by kernel_rfl) (by intro c a d v w h; cases d <;> exact h) (by kernel_rfl) (by kernel_rfl) (by first | exact HP.out.box | exact HP.out.1) ?_
      try simp only [maskRows]
      refine wpQuiet_nil ?_
      refine List.forall_mem_singleton.2 ?_
      have c0 : w2_.cell? ⟨B, 0, none⟩ = some (.slice va H.length vc) := by rw [cell_of_row _ _ _ _ _ _ HP.out.1]; rfl
      have f0 : w2_.frozen? ⟨B, 0, none⟩ = false := frozen_of_row _ _ _ _ _ HP.out.1
      have HF := Lib.hid (show HpS b0 (w2_.setCell ⟨B, 0, none⟩ (.slice (some ⟨g7, 0, none⟩) (H.length + 1) c7)) B (.slice (some ⟨g7, 0, none⟩) (H.length + 1) c7) (H ++ [x]) from ⟨set_cells (.slice (some ⟨g7, 0, none⟩) (H.length + 1) c7) HP.out.1, HP.out.2.1.kept (Lib.grownBy_setCell w2_ B 0 (.slice (some ⟨g7, 0, none⟩) (H.length + 1) c7)) (.inr HP.out.2.2), HP.out.2.2⟩)
      have HKF := Lib.hid (HK.out.set B 0 (.slice (some ⟨g7, 0, none⟩) (H.length + 1) c7) (.inl rfl))
      refine segl_run rfl (by rfl) (fun K hK => ?_)
      go_simp
      clear c0 f0
      refine hK _ _ ⟨fun _ => True, .inr (lastQ_of (by kernel_rfl)), trivial, ?_⟩
      clear hK K
      try simp only [Act.put, List.setIfInBounds_toArray, List.set_cons_zero, List.set_cons_succ]
      refine wpL_end [] (by kernel_rfl) (by intro c a d v w h; cases d <;> exact h) (by kernel_rfl) (by kernel_rfl) trivial ?_
      try simp only [maskRows]
      refine wpQuiet_nil ?_
      go_wp2
      go_end0
      exact ⟨rfl, _, HF.out, HNW.out, HKF.out⟩
    · refine segl_run rfl (by rfl) (fun K hK => ?_)
      go_simp
      have HR := Lib.hid (heap_alloc_new wD0 (.cells #[.int .i64 x] 3))
      have hbn := (Below.refl wD0.heap.size wD0).alloc (Nat.le_refl _) (.cells #[.int .i64 x] 3)
      replace HP := Lib.hid (HP.out.next hbn)
      replace HK := Lib.hid (HK.out.trans (KeepX.below hbn))
      clear hbn
      generalize World.alloc wD0 (.cells #[.int .i64 x] 3) = w1_ at *
      generalize wD0.heap.size = B6 at *
      refine hK _ _ ⟨_, .inl (fun _ h => h), (by first | exact HP.out.box | exact HP.out.1), ?_⟩
      clear hK K
      try simp only [Act.put, List.setIfInBounds_toArray, List.set_cons_zero, List.set_cons_succ]
      refine wpL_seg [] [2] 4 (by kernel_rfl) (by intro c a d v w h; cases d <;> exact h) (by kernel_rfl) (by kernel_rfl) (by first | exact HP.out.box | exact HP.out.1) ?_
      try simp only [maskRows]
      refine wpQuiet_nil ?_
      refine List.forall_mem_singleton.2 ?_
      refine segl_run rfl (by rfl) (fun K hK => ?_)
      go_simp
      refine hK _ _ ⟨_, .inl (fun _ h => h), (by first | exact HP.out.box | exact HP.out.1), ?_⟩
      clear hK K
      try simp only [Act.put, List.setIfInBounds_toArray, List.set_cons_zero, List.set_cons_succ]
      refine wpL_seg [false, false, false, true] [7] 2 (by kernel_rfl) (by intro c a d v w h; cases d <;> exact h) (by kernel_rfl) (by kernel_rfl) (by first | exact HP.out.box | exact HP.out.1) ?_
      try simp only [maskRows]
      repeat (first
        | go_big_quiet_skip
        | (go_big_quiet_want
           first
             | (go_big_quiet_op; go_big_quiet_on)
             | (refine q_load 79 _ _ _ rfl rfl LB ?_; simp only [Act.put, List.setIfInBounds_toArray, List.set_cons_zero, List.set_cons_succ]; go_big_quiet_on)
             | (go_big_quiet_op; refine ⟨_, fun _ _ => rfl, ?_⟩; go_big_quiet_on)
             | (go_big_quiet_op; refine ⟨_, fun _ _ _ => rfl, ?_⟩; go_big_quiet_on)
             | (go_big_quiet_op; refine ⟨_, fun _ _ _ _ => rfl, ?_⟩; go_big_quiet_on)))
      refine wpQuiet_nil ?_
      refine List.forall_mem_singleton.2 ?_
      refine segl_run rfl (by rfl) (fun K hK => ?_)
      refine wp_append_hp (.tmp 7) (.tmp 10) rfl HP.out.own B6 x HR.out rfl rfl (by omega) (by have := HK.out.size; omega) ?_
      intro v7 w2_ ho hg hv
      obtain ⟨g7, c7, h7⟩ := ownsRow_shape1 ho (by simp)
      rw [show (H ++ [x]).length = H.length + 1 by simp] at h7
      subst h7
      have hbx := (hg.block B (Array.getElem?_eq_some_iff.1 HP.out.box).1 (fun e => HP.out.ne e.symm)).trans HP.out.box
      have hne : (Value.slice (some ⟨g7, 0, none⟩) (H.length + 1) c7).ownBlock ≠ some B := fun e => by
        rcases hv with h | h
        · exact HP.out.ne (h.symm.trans e)
        · have h1 := Option.some.inj (h.symm.trans e); have h2 := (Array.getElem?_eq_some_iff.1 HP.out.box).1; omega
      have HNW := Lib.hid (show (Value.slice (some ⟨g7, 0, none⟩) (H.length + 1) c7).ownBlock = (Value.slice va H.length vc).ownBlock ∨ ∀ b, (Value.slice (some ⟨g7, 0, none⟩) (H.length + 1) c7).ownBlock = some b → w.heap.size ≤ b from by
        rcases hv with h | h
        · exact .inl h
        · exact .inr fun b e => by have h1 := Option.some.inj (h.symm.trans e); have h2 := HK.out.size; omega)
      replace HK := Lib.hid (HK.out.trans (KeepX.grown hg (fun j e => .inr e)))
      clear HP HR
      have HP := Lib.hid (And.intro hbx (And.intro ho hne))
      clear hbx ho hne hg hv
      go_simp
      refine hK _ _ ⟨_, .inl (fun _ h => h), (by first | exact HP.out.box | exact HP.out.1), ?_⟩
      clear hK K
      try simp only [Act.put, List.setIfInBounds_toArray, List.set_cons_zero, List.set_cons_succ]
      refine wpL_seg [] [8] 1 (by kernel_rfl) (by intro c a d v w h; cases d <;> exact h) (by kernel_rfl) (by kernel_rfl) (by first | exact HP.out.box | exact HP.out.1) ?_
      try simp only [maskRows]
      refine wpQuiet_nil ?_
      refine List.forall_mem_singleton.2 ?_
      refine segl_run rfl (by rfl) (fun K hK => ?_)
      go_simp
      refine hK _ _ ⟨_, .inl (fun _ h => h), (by first | exact HP.out.box | exact HP.out.1), ?_⟩
      clear hK K
      try simp only [Act.put, List.setIfInBounds_toArray, List.set_cons_zero, List.set_cons_succ]
      refine wpL_seg [] [9] 0 (by kernel_rfl) (by intro c a d v w h; cases d <;> exact h) (by kernel_rfl) (by kernel_rfl) (by first | exact HP.out.box | exact HP.out.1) ?_
      try simp only [maskRows]
      refine wpQuiet_nil ?_
      refine List.forall_mem_singleton.2 ?_
      have c0 : w2_.cell? ⟨B, 0, none⟩ = some (.slice va H.length vc) := by rw [cell_of_row _ _ _ _ _ _ HP.out.1]; rfl
      have f0 : w2_.frozen? ⟨B, 0, none⟩ = false := frozen_of_row _ _ _ _ _ HP.out.1
      have HF := Lib.hid (show HpS b0 (w2_.setCell ⟨B, 0, none⟩ (.slice (some ⟨g7, 0, none⟩) (H.length + 1) c7)) B (.slice (some ⟨g7, 0, none⟩) (H.length + 1) c7) (H ++ [x]) from ⟨set_cells (.slice (some ⟨g7, 0, none⟩) (H.length + 1) c7) HP.out.1, HP.out.2.1.kept (Lib.grownBy_setCell w2_ B 0 (.slice (some ⟨g7, 0, none⟩) (H.length + 1) c7)) (.inr HP.out.2.2), HP.out.2.2⟩)
      have HKF := Lib.hid (HK.out.set B 0 (.slice (some ⟨g7, 0, none⟩) (H.length + 1) c7) (.inl rfl))
      refine segl_run rfl (by rfl) (fun K hK => ?_)
      go_simp
      clear c0 f0
      refine hK _ _ ⟨fun _ => True, .inr (lastQ_of (by kernel_rfl)), trivial, ?_⟩
      clear hK K
      try simp only [Act.put, List.setIfInBounds_toArray, List.set_cons_zero, List.set_cons_succ]
      refine wpL_end [] (by kernel_rfl) (by intro c a d v w h; cases d <;> exact h) (by kernel_rfl) (by kernel_rfl) trivial ?_
      try simp only [maskRows]
      refine wpQuiet_nil ?_
      go_wp2
      go_end0
      exact ⟨rfl, _, HF.out, HNW.out, HKF.out⟩
end Go.Proofs.Ytpfnpinoamjcjaa
namespace Go.Proofs.Ytpfnpinoamjcjaa
open Go.ChangeShapes Go.WideShapes Go.ChangeAt Go.RowKit Go.BigFrame
set_option linter.unusedVariables false
set_option linter.unusedSimpArgs false

theorem HpS.take {b0 : Nat} {w : World} {B g cap m : Nat} {H : List Int} (h : HpS b0 w B (.slice (some ⟨g, 0, none⟩) (m + 1) cap) H) (hl : H.length = m + 1) : HpS b0 (w.setCell ⟨B, 0, none⟩ (.slice (some ⟨g, 0, none⟩) m cap)) B (.slice (some ⟨g, 0, none⟩) m cap) (H.take m) := by
  refine ⟨set_cells _ h.box, ?_, h.ne⟩
  have hk : (w.setCell ⟨B, 0, none⟩ (.slice (some ⟨g, 0, none⟩) m cap)).ownsRow b0 3 1 (.slice (some ⟨g, 0, none⟩) (m + 1) cap) H.length (intsV H) := h.own.kept (Lib.grownBy_setCell w B 0 _) (.inr h.ne)
  rcases hk.2 with ⟨h0, -⟩ | ⟨g', cap', cur, hv, h1, h2, h3, h4, h5, h6⟩
  · cases h0
  · rw [hl] at hv
    cases hv
    have htl : (H.take m).length = m := by rw [List.length_take]; omega
    refine ⟨by rw [intsV_len, htl]; omega, .inr ⟨g, cap, cur, by rw [htl], h1, h2, by rw [htl]; omega, h4, h5, ?_⟩⟩
    rw [htl]
    have e : intsV (H.take m) = (intsV H).take m := by simp [intsV, List.map_take]
    rw [e, ← h6, List.take_take]
    congr 1
    omega
set_option maxRecDepth 100000 in
set_option maxHeartbeats 2000000 in
theorem hpopm_any (b0 B m : Nat) (v : Value) (H : List Int) (w : World) (h : HpS b0 w B v H) (hl : H.length = m + 1) (hs : H.length ≤ 1000) :
    Calls Try.prog 102 #[.pointer (some ⟨B, 0, none⟩)] w fun e w' => e = .returned (.iface 3 (.int .i64 (H[m]?.getD 0))) ∧ ∃ v', HpS b0 w' B v' (H.take m) ∧ v'.ownBlock = v.ownBlock ∧ w.grownBy w' (some B) := by
  obtain ⟨g, cap, hv⟩ := ownsRow_shape1 h.own (by omega)
  rw [hl] at hv
  subst hv
  have HT := Lib.hid (h.take hl)
  obtain ⟨c0, f0⟩ := h.cell
  have c1 := own_int (by have := h.own; rwa [hl] at this) m (by omega) (xs := H)
  have hcap : (m : Int) ≤ (cap : Int) := by
    rcases h.own.2 with ⟨h0, -⟩ | ⟨g', cap', cur, hv, h1, h2, h3, h4, h5, h6⟩
    · cases h0
    · rw [hl] at hv h3; cases hv; omega
  have HG := Lib.hid (Lib.grownBy_setCell w B 0 (.slice (some ⟨g, 0, none⟩) m cap))
  have e1 : IntKind.i64.wrap (((m + 1 : Nat) : Int) - 1) = (m : Int) := by rw [IntWalk.i64_in _ (by omega)]; omega
  have e2 : wrap64 (((m + 1 : Nat) : Int) - 1) = (m : Int) := by rw [IntWalk.wrap64_in _ (by omega)]; omega
  have z0 : (0 : Int) ≤ (m : Int) := by omega
  have z1 : (m : Int) < ((m + 1 : Nat) : Int) := by omega
  generalize H[m]?.getD 0 = x at *
  clear h
  go_enter Try.func102, Try.ntmps102
  go_wp2
  go_ret
  exact ⟨rfl, _, HT.out, rfl, HG.out⟩
set_option maxRecDepth 100000 in
set_option maxHeartbeats 4000000 in
theorem hpop_any (b0 B m : Nat) (v : Value) (H : List Int) (w : World) (h : HpS b0 w B v H) (hl : H.length = m + 1) (hs : H.length ≤ 1000) :
    Calls Try.prog 70 #[hpV B] w fun e w' => ∃ (x : Int) (v' : Value) (H' : List Int), e = .returned (.iface 3 (.int .i64 x)) ∧ (H'.length = m ∧ ∀ y, y ∈ H ↔ y = x ∨ y ∈ H') ∧ HpS b0 w' B v' H' ∧ v'.ownBlock = v.ownBlock ∧ KeepX (fun j => j = B ∨ v.ownBlock = some j) w w' := by
  obtain ⟨g, cap, hv⟩ := ownsRow_shape1 h.own (by omega)
  have hv0 := hv
  rw [hl] at hv
  subst hv
  have hbx := h.cell.1
  have HP := Lib.hid h
  have hMl := fun n hn => hm_len n B (.slice (some ⟨g, 0, none⟩) (m + 1) cap) w hn hbx
  have hMs := fun n hn => hm_swap n B (.slice (some ⟨g, 0, none⟩) (m + 1) cap) w hn hbx
  have e1 : IntKind.i64.wrap (((m + 1 : Nat) : Int) - 1) = (m : Int) := by rw [IntWalk.i64_in _ (by omega)]; omega
  have e2 : wrap64 (((m + 1 : Nat) : Int) - 1) = (m : Int) := by rw [IntWalk.wrap64_in _ (by omega)]; omega
  have HSW := Lib.hid (hswap_any b0 g cap 0 m H w (by have := h.own; rwa [hl] at this ⊢) (by omega) (by omega) (by omega))
  rw [hl] at HSW
  clear h hv0
  go_enter Try.func70, Try.ntmps70
  go_wp2_with fail
  refine (hlen_any _ _ _ _).mono ?_
  rintro e w1 ⟨rfl, rfl⟩
  go_wp2_with fail
  refine HSW.out.mono ?_
  rintro e w2 ⟨rfl, ho2, hg2⟩
  have HP2 := Lib.hid (show HpS b0 w2 B (.slice (some ⟨g, 0, none⟩) (m + 1) cap) (swpL H 0 m) from
    ⟨(hg2.block B (Array.getElem?_eq_some_iff.1 HP.out.box).1 (fun e => HP.out.ne e.symm)).trans HP.out.box, by rw [swpL_len, hl]; exact ho2, HP.out.ne⟩)
  have HK2 := Lib.hid (show KeepX (fun j => j = B ∨ some g = some j) w1 w2 from KeepX.grown hg2 (fun k e => .inr e))
  clear ho2 hg2 HSW hMs hMl hbx HP
  go_wp2_with fail
  refine (hdown_any b0 B m _ (swpL H 0 m) _ HP2.out (by rw [swpL_len]; omega) (by rw [swpL_len]; omega)).mono ?_
  rintro e w3 ⟨⟨b, rfl⟩, H2, hT⟩
  have HPM := Lib.hid (pop_mem hl hT.sw)
  have HP3 := Lib.hid hT.hp
  have HK3 := Lib.hid (HK2.out.trans (show KeepX (fun j => j = B ∨ some g = some j) w2 w3 from KeepX.grown hT.gr (fun k e => .inr e)))
  clear hT HP2 HK2
  have hMp := fun n hn => hm_pop n B w3 hn
  go_wp2_with fail
  refine (hpopm_any b0 B m _ H2 _ HP3.out HPM.out.1 (by rw [HPM.out.1]; omega)).mono ?_
  rintro e w4 ⟨rfl, v4, hp4, hb4, hg4⟩
  have HF := Lib.hid (And.intro hp4 hb4)
  have HKF := Lib.hid (HK3.out.trans (show KeepX (fun j => j = B ∨ some g = some j) w3 w4 from KeepX.grown hg4 (fun k e => .inl (Option.some.inj e).symm)))
  clear hp4 hb4 hg4 HK3 HP3 hMp
  go_wp2
  go_ret
  exact ⟨_, v4, H2.take m, rfl, ⟨by rw [List.length_take, HPM.out.1]; omega, HPM.out.2⟩, HF.out.1, HF.out.2, HKF.out⟩
set_option maxRecDepth 100000 in
set_option maxHeartbeats 4000000 in
theorem hpush_any (b0 B : Nat) (v : Value) (H : List Int) (x : Int) (w : World) (h : HpS b0 w B v H) (hs : H.length ≤ 900) (hb : b0 ≤ w.heap.size) :
    Calls Try.prog 73 #[hpV B, .iface 3 (.int .i64 x)] w fun e w' => e = .returned (.tuple #[]) ∧ ∃ (v' : Value) (H' : List Int), (H'.length = H.length + 1 ∧ ∀ y, y ∈ H' ↔ y = x ∨ y ∈ H) ∧ HpS b0 w' B v' H' ∧ (v'.ownBlock = v.ownBlock ∨ ∀ b, v'.ownBlock = some b → w.heap.size ≤ b) ∧ KeepX (fun j => j = B ∨ v.ownBlock = some j) w w' := by
  have hMp := fun n hn => hm_push n B w hn
  have HPU := Lib.hid (hpushm_any b0 B v H x w h (by omega) hb)
  clear h
  go_enter Try.func73, Try.ntmps73
  go_wp2_with fail
  refine HPU.out.mono ?_
  rintro e w1 ⟨rfl, v1, hp1, hn1, hk1⟩
  have HP1 := Lib.hid hp1
  have HN1 := Lib.hid hn1
  have HK1 := Lib.hid hk1
  obtain ⟨g, cap, hv⟩ := ownsRow_shape1 hp1.own (by simp)
  rw [show (H ++ [x]).length = H.length + 1 by simp] at hv
  subst hv
  have hbx := HP1.out.cell.1
  have hMl := fun n hn => hm_len n B (.slice (some ⟨g, 0, none⟩) (H.length + 1) cap) w1 hn hbx
  have e1 : IntKind.i64.wrap (((H.length + 1 : Nat) : Int) - 1) = (H.length : Int) := by rw [IntWalk.i64_in _ (by omega)]; omega
  have e2 : wrap64 (((H.length + 1 : Nat) : Int) - 1) = (H.length : Int) := by rw [IntWalk.wrap64_in _ (by omega)]; omega
  clear hp1 hn1 hk1 HPU hMp
  go_wp2_with fail
  refine (hlen_any _ _ _ _).mono ?_
  rintro e w2 ⟨rfl, rfl⟩
  go_wp2_with fail
  refine (hup_any b0 B H.length _ (H ++ [x]) _ HP1.out (by simp) (by simp; omega)).mono ?_
  rintro e w3 ⟨rfl, H3, hT⟩
  have HF := Lib.hid (show (H3.length = H.length + 1 ∧ ∀ y, y ∈ H3 ↔ y = x ∨ y ∈ H) from ⟨by rw [hT.len]; simp, fun y => by rw [hT.sw.all rfl y, List.mem_append, List.mem_singleton]; exact Or.comm⟩)
  have HP3 := Lib.hid hT.hp
  have HK3 := Lib.hid (show ∀ j, j < w2.heap.size → ¬ (some j = (Value.slice (some ⟨g, 0, none⟩) (H.length + 1) cap).ownBlock) → w3.heap[j]? = w2.heap[j]? from fun j hj hn => hT.gr.block j hj hn)
  have HGR := Lib.hid hT.gr
  clear hT hMl hbx
  go_wp2
  go_end0
  refine ⟨rfl, _, H3, HF.out, HP3.out, HN1.out, ⟨HGR.out.os.trans HK1.out.os, HGR.out.tape.trans HK1.out.tape, HGR.out.output.trans HK1.out.output, Nat.le_trans HK1.out.size HGR.out.size, fun j hj hx => ?_⟩⟩
  refine (HGR.out.block j (Nat.lt_of_lt_of_le hj HK1.out.size) (fun e => ?_)).trans (HK1.out.block j hj hx)
  rcases HN1.out with h | h
  · exact hx (.inr (h.symm.trans e.symm))
  · have := h j e.symm
    omega
end Go.Proofs.Ytpfnpinoamjcjaa
namespace Go.Proofs.Ytpfnpinoamjcjaa
open Go.ChangeShapes Go.WideShapes Go.ChangeAt Go.RowKit Go.BigFrame
set_option linter.unusedVariables false
set_option linter.unusedSimpArgs false

theorem row_setCells {g : Nat} {t : TypeId} : ∀ (vs : List Value) (o : Nat) (w : World) (cur : Array Value), w.heap[g]? = some (.cells cur t (0, 0)) → o + vs.length ≤ cur.size →
    ∃ cur' : Array Value, (w.setCells g o vs).heap[g]? = some (.cells cur' t (0, 0)) ∧ cur'.size = cur.size ∧ ∀ j, j < cur.size → cur'[j]? = if o ≤ j ∧ j < o + vs.length then vs[j - o]? else cur[j]?
  | [], o, w, cur, h, _ => ⟨cur, h, rfl, fun j hj => by rw [if_neg (by simp)]⟩
  | v :: r, o, w, cur, h, hl => by
    simp only [List.length_cons] at hl
    obtain ⟨cur', h1, h2, h3⟩ := row_setCells r (o + 1) (w.setCell ⟨g, o, none⟩ v) (cur.setIfInBounds o v) (set_cells v h) (by simp; omega)
    refine ⟨cur', h1, by rw [h2]; simp, fun j hj => ?_⟩
    rw [h3 j (by simpa using hj)]
    by_cases h4 : j = o
    · subst h4
      rw [if_neg (by omega), if_pos (by simp), Nat.sub_self, Array.getElem?_setIfInBounds_self_of_lt hj]
      rfl
    · rw [Array.getElem?_setIfInBounds_ne (fun e => h4 e.symm)]
      by_cases h5 : o + 1 ≤ j ∧ j < o + 1 + r.length
      · rw [if_pos h5, if_pos (by simp only [List.length_cons]; omega), show j - o = (j - (o + 1)) + 1 by omega, List.getElem?_cons_succ]
      · rw [if_neg h5, if_neg (by simp only [List.length_cons]; omega)]
theorem cells_of_row {w : World} {g : Nat} {t : TypeId} {cur : Array Value} (h : w.heap[g]? = some (.cells cur t (0, 0))) (j : Nat) : w.cell? ⟨g, j, none⟩ = cur[j]? := cell_of_row _ _ _ _ _ _ h
theorem frozen_row {w : World} {g : Nat} {t : TypeId} {cur : Array Value} (h : w.heap[g]? = some (.cells cur t (0, 0))) (j : Nat) : w.frozen? ⟨g, j, none⟩ = false := frozen_of_row _ _ _ _ _ h
/-- links of one's own at the row -/
def LRow (w0 w : World) (g n cap : Nat) (ks : List K2) (cur : Array Value) : Prop :=
  ks.length = n ∧ w0.heap.size ≤ g ∧ w.heap[g]? = some (.cells cur 49 (0, 0)) ∧ n ≤ cap ∧ cap ≤ maxLen ∧ cur.size = cap * 2 ∧ cur.toList.take (n * 2) = keyCells ks ∧ Below w0.heap.size w0 w
theorem LlD.row {w0 w : World} {v : Value} {ks : List K2} (h : LlD w0 w v ks) : (v = .slice none 0 0 ∧ ks = []) ∨ ∃ g cap cur, v = .slice (some ⟨g, 0, none⟩) ks.length cap ∧ LRow w0 w g ks.length cap ks cur := by
  rcases h.1.2 with ⟨h1, h2⟩ | ⟨g, cap, cur, h1, h2, h3, h4, h5, h6, h7⟩
  · exact .inl ⟨h1, List.length_eq_zero_iff.1 h2⟩
  · exact .inr ⟨g, cap, cur, h1, rfl, h2, h3, h4, h5, h6, h7, h.2⟩
theorem LRow.llD {w0 w : World} {g n cap : Nat} {ks : List K2} {cur : Array Value} (h : LRow w0 w g n cap ks cur) : LlD w0 w (.slice (some ⟨g, 0, none⟩) n cap) ks := by
  obtain ⟨rfl, h2, h3, h4, h5, h6, h7, h8⟩ := h
  exact ⟨⟨keyCells_len ks, .inr ⟨g, cap, cur, rfl, h2, h3, h4, h5, h6, h7⟩⟩, h8⟩
theorem LRow.get {w0 w : World} {g n cap : Nat} {ks : List K2} {cur : Array Value} (h : LRow w0 w g n cap ks cur) (j : Nat) (hj : j < n * 2) : cur[j]? = (keyCells ks)[j]? := by
  obtain ⟨h1, h2, h3, h4, h5, h6, h7, h8⟩ := h
  rw [← h7, List.getElem?_take_of_lt hj, Array.getElem?_toList]
theorem LRow.drew {w0 w : World} {g n cap : Nat} {ks : List K2} {cur : Array Value} (h : LRow w0 w g n cap ks cur) : LRow w0 w.drew g n cap ks cur := ⟨h.1, h.2.1, h.2.2.1, h.2.2.2.1, h.2.2.2.2.1, h.2.2.2.2.2.1, h.2.2.2.2.2.2.1, h.2.2.2.2.2.2.2.drew⟩
/-- what is written into the row: the links become others -/
theorem LRow.write {w0 w : World} {g n m cap : Nat} {ks ls : List K2} {cur : Array Value} (h : LRow w0 w g n cap ks cur) (o : Nat) (vs : List Value) (ho : o + vs.length ≤ cap * 2) (hm : ls.length = m) (hmc : m ≤ cap)
    (hl : ∀ j, j < m * 2 → (keyCells ls)[j]? = if o ≤ j ∧ j < o + vs.length then vs[j - o]? else cur[j]?) : ∃ cur', LRow w0 (w.setCells g o vs) g m cap ls cur' ∧ ∀ j, j < cur.size → cur'[j]? = if o ≤ j ∧ j < o + vs.length then vs[j - o]? else cur[j]? := by
  obtain ⟨h1, h2, h3, h4, h5, h6, h7, h8⟩ := h
  obtain ⟨cur', c1, c2, c3⟩ := row_setCells vs o w cur h3 (by rw [h6]; exact ho)
  refine ⟨cur', ⟨hm, h2, c1, hmc, h5, by rw [c2, h6], ?_, Lib.below_setCells g h2 vs o h8⟩, c3⟩
  have hkl := keyCells_len ls
  rw [hm] at hkl
  apply List.ext_getElem?
  intro j
  by_cases hj : j < m * 2
  · rw [List.getElem?_take_of_lt hj, Array.getElem?_toList, c3 j (by omega), hl j hj]
  · rw [List.getElem?_eq_none (by simp; omega), List.getElem?_eq_none (by omega)]
theorem keyCells_take (ks : List K2) (i : Nat) : keyCells (ks.take i) = (keyCells ks).take (i * 2) := by
  have e : keyCells ks = keyCells (ks.take i) ++ keyCells (ks.drop i) := by rw [← keyCells_appL, List.take_append_drop]
  have hl := keyCells_len (ks.take i)
  rw [List.length_take] at hl
  by_cases hi : i ≤ ks.length
  · rw [e, List.take_left' (by rw [hl]; omega)]
  · rw [List.take_of_length_le (by omega), List.take_of_length_le (by rw [keyCells_len]; omega)]
theorem keyCells_drop (ks : List K2) (i : Nat) : keyCells (ks.drop i) = (keyCells ks).drop (i * 2) := by
  have e : keyCells ks = keyCells (ks.take i) ++ keyCells (ks.drop i) := by rw [← keyCells_appL, List.take_append_drop]
  have hl := keyCells_len (ks.take i)
  rw [List.length_take] at hl
  by_cases hi : i ≤ ks.length
  · rw [e, List.drop_left' (by rw [hl]; omega)]
  · rw [List.drop_eq_nil_of_le (by omega), List.drop_eq_nil_of_le (by rw [keyCells_len]; omega)]; rfl
theorem slice_hi_own (g n cap i : Nat) (hi : i ≤ n) (hc : n ≤ cap) (h63 : cap ≤ 9223372036854775807) (w : World) : (Instr.slice 24 (.slice (some ⟨g, 0, none⟩) n cap) none (some (.int .i64 i)) none).run Try.prog w = .ok (.slice (some ⟨g, 0, none⟩) i cap) w := by
  have u := Try.underlying24
  obtain ⟨i0, hin, hz0, hz1, hz2⟩ := info_parts infoLn
  have h2 : (i : Int) ≤ (cap : Int) := by omega
  have h4 : (0 : Int) ≤ (i : Int) := by omega
  go_simp
theorem slice_lo_own (g n cap i : Nat) (hi : i ≤ n) (hc : n ≤ cap) : ∃ o, (cap - i = 0 ∨ o = i * 2) ∧ ∀ w : World, (Instr.slice 24 (.slice (some ⟨g, 0, none⟩) n cap) (some (.int .i64 i)) none none).run Try.prog w = .ok (.slice (some ⟨g, o, none⟩) (n - i) (cap - i)) w := by
  have u := Try.underlying24
  obtain ⟨i0, hin, hz0, hz1, hz2⟩ := info_parts infoLn
  have h2 : (i : Int) ≤ (n : Int) := by omega
  have h3 : (n : Int) ≤ (cap : Int) := by omega
  have h4 : (0 : Int) ≤ (i : Int) := by omega
  by_cases h : cap - i = 0
  · refine ⟨0, .inl h, fun w => ?_⟩
    go_simp
    omega
  · refine ⟨i * 2, .inr rfl, fun w => ?_⟩
    go_simp
    omega
theorem wp_append_roomL {o : Oper} {a : Act} {w : World} {K : Act → World → Prop} {Q : Exit → Act → World → Prop} (hg : o.guard = none) (s x : Operand)
    (hop : o.op = Op.call { callee := Callee.builtin Builtin.append, args := #[s, x], argTypes := #[24, 24] })
    (b n cap : Nat) (hs : a.eval s = .slice (some ⟨b, 0, none⟩) n cap) (ad : Addr) (m c : Nat) (news : List Value) (hx : a.eval x = .slice (some ad) m c) (hn : news.length = m * 2) (hc : ∀ j u, news[j]? = some u → w.cell? (ad.add j) = some u) (h1c : ∀ u ∈ news, u.oneCell' = true)
    (hroom : n + m ≤ cap) (hspare : ∀ j, j < news.length → (w.cell? ⟨b, 0 + n * 2 + j, none⟩).isSome = true ∧ w.frozen? ⟨b, 0 + n * 2 + j, none⟩ = false)
    (hK : K (a.put o.dst (.slice (some ⟨b, 0, none⟩) (n + m) cap)) (w.setCells b (0 + n * 2) news)) : o.wp Try.prog a w K Q := by
  obtain ⟨i0, hin, hz0, hz1, hz2⟩ := info_parts infoLn
  have := step_append_room (P := Try.prog) (ops := #[]) (Q := Q) (E := True) hg s x 24 hop 49 i0 2 Try.underlying24 hin hz1 b 0 n cap hs ad m c news hx hn hc h1c hroom hspare hK
  rwa [if_pos (by simp [Region.wanted, hg])] at this
end Go.Proofs.Ytpfnpinoamjcjaa
namespace Go.Proofs.Ytpfnpinoamjcjaa
open Go.ChangeShapes Go.WideShapes Go.ChangeAt Go.RowKit Go.BigFrame
set_option linter.unusedVariables false
set_option linter.unusedSimpArgs false

set_option maxRecDepth 100000 in
theorem ijoins_any (k : K2) (x y : Int) (w : World) : Calls Try.prog 51 #[kv k, .int .i64 x, .int .i64 y] w fun e w' => e = .returned (.bool (joinB x y k)) ∧ Below w.heap.size w w' := by
  have h1 := fun w => link_eql k (x, y) w
  have h2 := fun w => link_eql k (y, x) w
  have g1 := fun op a b w => link_guard op a b k (x, y) w
  have g2 := fun op a b w => link_guard op a b k (y, x) w
  have HJ := Lib.hid (show joinB x y k = ((k == (x, y)) || (k == (y, x))) from rfl)
  generalize joinB x y k = J at *
  generalize hb1 : (k == (x, y)) = b1 at *
  generalize hb2 : (k == (y, x)) = b2 at *
  obtain ⟨p, q⟩ := k
  have HB := Lib.hid ((Below.refl w.heap.size w).alloc (Nat.le_refl _) (.cells #[.int .i64 p, .int .i64 q] 49))
  unfold kv at *
  dsimp only at *
  clear hb1 hb2
  cases b1 with
  | true =>
    go_enter Try.func51, Try.ntmps51
    go_wp2
    go_ret
    exact ⟨by rw [HJ.out]; rfl, HB.out⟩
  | false =>
    go_enter Try.func51, Try.ntmps51
    go_wp2
    go_ret
    exact ⟨by rw [HJ.out]; rfl, HB.out⟩
set_option maxRecDepth 100000 in
theorem ijoin1_any (k : K2) (x y : Int) (bx by' : Nat) (w : World) (hx : w.heap[bx]? = some (.cells #[.int .i64 x] 3 (0, 0))) (hy : w.heap[by']? = some (.cells #[.int .i64 y] 3 (0, 0))) :
    Calls Try.prog 50 #[kv k, .pointer (some ⟨bx, 0, none⟩), .pointer (some ⟨by', 0, none⟩)] w fun e w' => e = .returned (.bool (joinB x y k)) ∧ Below w.heap.size w w' := by
  have HJ := Lib.hid (fun w => ijoins_any k x y w)
  obtain ⟨p, q⟩ := k
  have hb := (Below.refl w.heap.size w).alloc (Nat.le_refl _) (.cells #[.int .i64 p, .int .i64 q] 49)
  have x0 : (w.alloc (.cells #[.int .i64 p, .int .i64 q] 49)).cell? ⟨bx, 0, none⟩ = some (.int .i64 x) := by rw [hb.cell (p := ⟨bx, 0, none⟩) (Array.getElem?_eq_some_iff.1 hx).1, cell_of_row _ _ _ _ _ _ hx]; rfl
  have y0 : (w.alloc (.cells #[.int .i64 p, .int .i64 q] 49)).cell? ⟨by', 0, none⟩ = some (.int .i64 y) := by rw [hb.cell (p := ⟨by', 0, none⟩) (Array.getElem?_eq_some_iff.1 hy).1, cell_of_row _ _ _ _ _ _ hy]; rfl
  have HB := Lib.hid hb
  unfold kv at *
  dsimp only at *
  clear hb
  go_enter Try.func50, Try.ntmps50
  go_wp2_with fail
  refine (HJ.out _).mono ?_
  rintro e w1 ⟨rfl, hb1⟩
  have HB1 := Lib.hid (HB.out.trans (hb1.mono HB.out.size))
  clear hb1 HB
  go_wp2
  go_ret
  exact ⟨rfl, HB1.out⟩
set_option maxRecDepth 100000 in
set_option maxHeartbeats 2000000 in
theorem iindexfunc_any (v : Value) (ks : List K2) (x y : Int) (bx by' : Nat) (w : World) (h : keysAt w v ks) (hx : w.heap[bx]? = some (.cells #[.int .i64 x] 3 (0, 0))) (hy : w.heap[by']? = some (.cells #[.int .i64 y] 3 (0, 0))) (hs : ks.length ≤ 2000000) :
    Calls Try.prog 49 #[v, .func (.func 50) #[] #[.pointer (some ⟨bx, 0, none⟩), .pointer (some ⟨by', 0, none⟩)]] w fun e w' => e = .returned (.int .i64 (atE ks x y)) ∧ Below w.heap.size w w' := by
  have HC := Lib.hid (fun k wx (hb : Below w.heap.size w wx) => ijoin1_any k x y bx by' wx ((hb.block _ (Array.getElem?_eq_some_iff.1 hx).1).trans hx) ((hb.block _ (Array.getElem?_eq_some_iff.1 hy).1).trans hy))
  have HAT := Lib.hid (show ∀ k : Nat, k < ks.length → joinB x y (ks.getD k (0, 0)) = true → (∀ j, j < k → joinB x y (ks.getD j (0, 0)) = false) → atE ks x y = k from fun k hk h1 h2 => firstP_at (p := joinB x y) hk h1 h2)
  have HNO := Lib.hid (show (∀ j, j < ks.length → joinB x y (ks.getD j (0, 0)) = false) → atE ks x y = -1 from fun h => firstP_none (p := joinB x y) h)
  obtain ⟨a, cap, rfl, hcap, hcells⟩ := h
  clear hx hy
  go_enter Try.func49, Try.ntmps49
  go_wp2
  go_loopw [8] (fun i wr => ∃ k : Nat, k ≤ ks.length ∧ i = .int .i64 k ∧ (∀ j, j < k → joinB x y (ks.getD j (0, 0)) = false) ∧ Below w.heap.size w wr) (fun i _ => ks.length - (intOf i).toNat)
  case atStart => exact ⟨0, Nat.zero_le _, rfl, fun j hj => by omega, Below.refl _ _⟩
  case round =>
    obtain ⟨k, hk, rfl, hall, hb⟩ := hrel
    by_cases hlt : k < ks.length
    · obtain ⟨g, off, rfl, hg, hcs⟩ := hcells.resolve_left (by omega)
      have z0 : (0 : Int) ≤ (k : Int) := by omega
      have z1 : (k : Int) < (ks.length : Int) := by omega
      have c1 := hcs k hlt
      have C1 := (hb.cell (p := ⟨g, off + k * 2, none⟩) hg).trans c1.1
      have C2 := (hb.cell (p := ⟨g, off + k * 2 + 1, none⟩) hg).trans c1.2
      have HK := Lib.hid (HAT.out k hlt)
      have HN := Lib.hid (show joinB x y (ks.getD k (0, 0)) = false → ∀ j, j < k + 1 → joinB x y (ks.getD j (0, 0)) = false from fun h j hj => by
        rcases (by omega : j < k ∨ j = k) with h1 | rfl
        · exact hall j h1
        · exact h)
      have HALL := Lib.hid hall
      have HX := Lib.hid (HC.out (ks.getD k (0, 0)) _ hb)
      have HB := Lib.hid hb
      clear hcs hcells c1 HAT HNO hall hb HC
      generalize ks.getD k (0, 0) = kx at *
      cases he : joinB x y kx with
      | true =>
        rw [he] at HX
        have HA := Lib.hid (HK.out he HALL.out)
        clear HK HN HALL he
        obtain ⟨p, q⟩ := kx
        unfold kv at HX
        dsimp only at *
        go_wp2_with fail
        refine HX.out.mono ?_
        rintro e w2 ⟨rfl, hb2⟩
        have HB2 := Lib.hid (HB.out.trans (hb2.mono HB.out.size))
        clear hb2 HX C1 C2 HB
        go_wp2
        go_ret
        exact ⟨by rw [HA.out]; rfl, HB2.out⟩
      | false =>
        rw [he] at HX
        have HA := Lib.hid (HN.out he)
        clear HK HN HALL he
        obtain ⟨p, q⟩ := kx
        unfold kv at HX
        dsimp only at *
        go_wp2_with fail
        refine HX.out.mono ?_
        rintro e w2 ⟨rfl, hb2⟩
        have HB2 := Lib.hid (HB.out.trans (hb2.mono HB.out.size))
        clear hb2 HX C1 C2 HB
        go_wp2
        exact ⟨⟨k + 1, by omega, by go_num, HA.out, HB2.out⟩, by simp [intOf]; omega⟩
    · obtain rfl : k = ks.length := by omega
      have HA := Lib.hid (HNO.out hall)
      clear HNO HAT hall hcells
      go_wp2
      go_ret
      exact ⟨by rw [HA.out]; rfl, hb⟩
set_option maxRecDepth 100000 in
theorem ilinkat_any (v : Value) (ks : List K2) (x y : Int) (w : World) (h : keysAt w v ks) (hs : ks.length ≤ 2000000) :
    Calls Try.prog 19 #[v, .int .i64 x, .int .i64 y] w fun e w' => e = .returned (.int .i64 (atE ks x y)) ∧ Below w.heap.size w w' := by
  have hA := heap_first w (.cells #[.int .i64 y] 3) (.cells #[.int .i64 x] 3)
  have hB := heap_alloc_new (w.alloc (.cells #[.int .i64 x] 3)) (.cells #[.int .i64 y] 3)
  rw [show (w.alloc (.cells #[.int .i64 x] 3)).heap.size = w.heap.size + 1 by simp] at hB
  have hW := ((Below.refl w.heap.size w).alloc (Nat.le_refl _) (.cells #[.int .i64 x] 3)).alloc (by simp) (.cells #[.int .i64 y] 3)
  have HI := Lib.hid (iindexfunc_any v ks x y _ _ _ (keysAt_below h hW) hA hB hs)
  have HW := Lib.hid hW
  obtain ⟨a, cap, rfl, -, -⟩ := h
  clear hA hB hW
  go_enter Try.func19, Try.ntmps19
  go_wp2_with fail
  refine HI.out.mono ?_
  rintro e w1 ⟨rfl, hb1⟩
  have HB1 := Lib.hid (HW.out.trans (hb1.mono HW.out.size))
  clear hb1 HW HI
  go_wp2
  go_ret
  exact ⟨rfl, HB1.out⟩
set_option maxRecDepth 100000 in
theorem icopylinks_any (v : Value) (ks : List K2) (w : World) (h : keysAt w v ks) (hs : ks.length ≤ 1500000) :
    Calls Try.prog 45 #[v] w fun e w' => ∃ v', e = .returned v' ∧ LlD w w' v' ks := by
  have HV := Lib.hid (LlD.nil (Below.refl w.heap.size w))
  have HK := Lib.hid h
  obtain ⟨a, cap, rfl, -, -⟩ := h
  go_enter Try.func45, Try.ntmps45
  go_wp2_with (at_builtin; refine wpList_append_lnD rfl (.const (.slice none 0 0)) (.tmp 3) rfl HV.out _ ks HK.out rfl rfl (by simp; omega) ?_; intro v3 w3 hV3 hg3 hv3; have HV3 := Lib.hid hV3; clear hV3 hg3 hv3)
  go_ret
  exact ⟨_, rfl, by simpa using HV3.out⟩
end Go.Proofs.Ytpfnpinoamjcjaa
namespace Go.Proofs.Ytpfnpinoamjcjaa
open Go.ChangeShapes Go.WideShapes Go.ChangeAt Go.RowKit Go.BigFrame
set_option linter.unusedVariables false
set_option linter.unusedSimpArgs false

theorem zero_ln (w : World) : (zeroValue 49).run Try.prog w = .ok (.agg #[.int .i64 0, .int .i64 0]) w := by
  obtain ⟨i0, hin, hz0, hz1, hz2⟩ := info_parts infoLn
  simp [zeroValue, typeInfo, hin, hz0]
theorem clear_one_ln {w0 w : World} {g n cap : Nat} {ks : List K2} {cur : Array Value} (h : LRow w0 w g n cap ks cur) (ty : TypeId) (hn : n + 1 ≤ cap) : (Builtin.clear_ #[24] ty #[.slice (some ⟨g, n * 2, none⟩) 1 (cap - n)]).run Try.prog w = .ok (.tuple #[]) (w.setCells g (n * 2) [.int .i64 0, .int .i64 0]) := by
  have u := Try.underlying24
  obtain ⟨h1, h2, h3, h4, h5, h6, h7, h8⟩ := h
  have hst := run_storeCells_cells (P := Try.prog) g (n * 2) [.int .i64 0, .int .i64 0] 0 w (fun j hj => by
    rw [cells_of_row h3, Array.getElem?_eq_getElem (by simp at hj; omega)]; rfl) (fun j hj => frozen_row h3 _) (by intro v hv; simp at hv; subst hv; rfl)
  simp only [Nat.add_zero] at hst
  have hzc : (Builtin.zeroCells #[Value.int .i64 0, .int .i64 0] 1).toList = [.int .i64 0, .int .i64 0] := by simp [Builtin.zeroCells, List.range_succ]
  simp [Builtin.clear_, run_underlying u, zero_ln, Value.cells, hzc, hst]
theorem slice_end_ln (g n cap : Nat) (hn : n + 1 ≤ cap) (h63 : cap ≤ 9223372036854775807) (w : World) : (Instr.slice 24 (.slice (some ⟨g, 0, none⟩) n cap) (some (.int .i64 n)) (some (.int .i64 ((n + 1 : Nat) : Int))) none).run Try.prog w = .ok (.slice (some ⟨g, n * 2, none⟩) 1 (cap - n)) w := by
  have u := Try.underlying24
  obtain ⟨i0, hin, hz0, hz1, hz2⟩ := info_parts infoLn
  have h2 : ((n + 1 : Nat) : Int) ≤ (cap : Int) := by omega
  have h4 : (0 : Int) ≤ (n : Int) := by omega
  have h5 : (n : Int) ≤ ((n + 1 : Nat) : Int) := by omega
  have h6 : ¬ cap - n = 0 := by omega
  have h7 : n + 1 - n = 1 := by omega
  go_simp
  rw [if_pos ⟨by omega, by omega⟩, if_neg (by omega)]
theorem erase_cells {w0 w : World} {g n cap i : Nat} {ks : List K2} {cur : Array Value} (h : LRow w0 w g n cap ks cur) (hi : i < n) : ∃ cur', LRow w0 (w.setCells g (i * 2) (keyCells (ks.drop (i + 1)))) g (n - 1) cap (ks.eraseIdx i) cur' ∧ True := by
  have h1 := h.1
  have hc := h.2.2.2.1
  have hdl : (keyCells (ks.drop (i + 1))).length = (n - (i + 1)) * 2 := by rw [keyCells_len, List.length_drop, h1]
  have htl : (keyCells (ks.take i)).length = i * 2 := by rw [keyCells_len, List.length_take]; omega
  obtain ⟨cur', hw, -⟩ := h.write (i * 2) (keyCells (ks.drop (i + 1))) (m := n - 1) (ls := ks.eraseIdx i) (by rw [hdl]; omega) (by rw [List.length_eraseIdx, if_pos (by omega), h1]) (by omega) (fun j hj => by
    rw [List.eraseIdx_eq_take_drop_succ, keyCells_appL]
    by_cases h2 : j < i * 2
    · rw [if_neg (by omega), List.getElem?_append_left (by omega), keyCells_take, List.getElem?_take_of_lt h2]
      exact (h.get j (by omega)).symm
    · rw [if_pos (by rw [hdl]; omega), List.getElem?_append_right (by omega), htl])
  exact ⟨cur', hw, trivial⟩
set_option maxRecDepth 100000 in
set_option maxHeartbeats 4000000 in
theorem idelete_any (v : Value) (ks : List K2) (i : Nat) (w0 w : World) (hV : LlD w0 w v ks) (hi : i < ks.length) (hs : ks.length ≤ 1500000) :
    Calls Try.prog 46 #[v, .int .i64 i, .int .i64 ((i + 1 : Nat) : Int)] w fun e w' => ∃ v', e = .returned v' ∧ LlD w0 w' v' (ks.eraseIdx i) := by
  rcases hV.row with ⟨rfl, rfl⟩ | ⟨g, cap, cur, rfl, hrow⟩
  · simp at hi
  · obtain ⟨n, hn⟩ : ∃ n, n = ks.length := ⟨_, rfl⟩
    rw [← hn] at hrow hi hs ⊢
    have hcap := hrow.2.2.2.1
    have hcm := hrow.2.2.2.2.1
    unfold maxLen at hcm
    have HRW := Lib.hid hrow
    have HRX := Lib.hid (erase_cells hrow.drew hi)
    have HS1 := slice_hi_own g n cap i (by omega) hcap (by omega)
    obtain ⟨o1, ho1, HS2⟩ := slice_lo_own g n cap (i + 1) (by omega) hcap
    have HS6 := Lib.hid (show ∀ w, _ from slice_end_ln g (n - 1) cap (by omega) (by omega))
    rw [show n - 1 + 1 = n by omega] at HS6
    have HN1 := Lib.hid (show ∀ (j : Nat) (u : Value), (keyCells (ks.drop (i + 1)))[j]? = some u → w.drew.cell? ((⟨g, o1, none⟩ : Addr).add j) = some u from fun j u hu => by
      have hj : j < (n - (i + 1)) * 2 := by
        have := (List.getElem?_eq_some_iff.1 hu).1
        rw [keyCells_len, List.length_drop, hrow.1] at this
        exact this
      obtain rfl : o1 = (i + 1) * 2 := by rcases ho1 with h | h <;> omega
      rw [addr_plusK, cells_of_row hrow.drew.2.2.1, hrow.drew.get _ (by omega)]
      rw [keyCells_drop, List.getElem?_drop] at hu
      exact hu)
    have HN2 := Lib.hid (show ∀ j, j < (keyCells (ks.drop (i + 1))).length → (w.drew.cell? ⟨g, 0 + i * 2 + j, none⟩).isSome = true ∧ w.drew.frozen? ⟨g, 0 + i * 2 + j, none⟩ = false from fun j hj => by
      rw [keyCells_len, List.length_drop, hrow.1] at hj
      exact ⟨by rw [cells_of_row hrow.drew.2.2.1, Array.getElem?_eq_getElem (by rw [hrow.2.2.2.2.2.1]; omega)]; rfl, frozen_row hrow.drew.2.2.1 _⟩)
    clear hrow ho1 hV hn
    have z1 : (i : Int) ≤ ((i + 1 : Nat) : Int) := by omega
    have z2 : ((i + 1 : Nat) : Int) ≤ (n : Int) := by omega
    have z3 : (n : Int) ≤ (cap : Int) := by omega
    have z4 : ¬ (i : Int) = ((i + 1 : Nat) : Int) := by omega
    have z5 : i + (n - (i + 1)) = n - 1 := by omega
    go_enter Try.func46, Try.ntmps46
    go_upto_region 5 with (fail)
    refine wp_region_G (fun wx => True) (by kernel_rfl) ?_
    generalize (w).drew = wD0 at *
    refine wpG_seg [true, true, true, true, true, true] [6] 1 (by kernel_rfl) (by intro c a d v w h; cases d <;> exact h) (by kernel_rfl) trivial ?_
    try simp only [maskRows]
    repeat (first
      | go_big_quiet_skip
      | (go_big_quiet_want
         first
           | (refine q_slice_hi 24 49 Try.underlying24 _ _ _ _ _ rfl rfl rfl HS1 ?_; simp only [Act.put, List.setIfInBounds_toArray, List.set_cons_zero, List.set_cons_succ]; go_big_quiet_on)
           | (refine q_slice_lo 24 49 Try.underlying24 _ _ _ _ _ rfl rfl rfl HS2 ?_; simp only [Act.put, List.setIfInBounds_toArray, List.set_cons_zero, List.set_cons_succ]; go_big_quiet_on)
           | (go_big_quiet_op; go_big_quiet_on)
           | (go_big_quiet_op; refine ⟨_, fun _ _ => rfl, ?_⟩; go_big_quiet_on)
           | (go_big_quiet_op; refine ⟨_, fun _ _ _ => rfl, ?_⟩; go_big_quiet_on)
           | (go_big_quiet_op; refine ⟨_, fun _ _ _ _ => rfl, ?_⟩; go_big_quiet_on)))
    refine wpQuiet_nil ?_
    refine List.forall_mem_singleton.2 ?_
    refine segt_run rfl (by rfl) (fun K hK => ?_)
    refine wp_append_roomL rfl (.tmp 22) (.tmp 25) rfl g i cap rfl ⟨g, o1, none⟩ (n - (i + 1)) (cap - (i + 1)) (keyCells (ks.drop (i + 1))) rfl (by rw [keyCells_len, List.length_drop, HRW.out.1]) HN1.out (kyCells_one _) (by omega) HN2.out ?_
    go_simp
    have HRW1 := Lib.hid (HRX.out)
    obtain ⟨cur1, hrw1, -⟩ := HRW1.out
    clear HRX HRW1 HN1 HN2
    have HRW1 := Lib.hid hrw1
    clear hrw1
    generalize World.setCells wD0 g (i * 2) (keyCells (ks.drop (i + 1))) = W1 at *
    have HB := Lib.hid (trivial)
    refine hK _ _ ⟨_, fun _ h => h, trivial, ?_⟩
    clear hK K
    try simp only [Act.put, List.setIfInBounds_toArray, List.set_cons_zero, List.set_cons_succ]
    refine wpG_end [false, false, false, false, false, false, false, true] (by kernel_rfl) (by intro c a d v w h; cases d <;> exact h) (by kernel_rfl) trivial ?_
    try simp only [maskRows]
    repeat (first
      | go_big_quiet_skip
      | (go_big_quiet_want
         first
           | (refine q_slice_hi 24 49 Try.underlying24 _ _ _ _ _ rfl rfl rfl HS1 ?_; simp only [Act.put, List.setIfInBounds_toArray, List.set_cons_zero, List.set_cons_succ]; go_big_quiet_on)
           | (refine q_slice_lo 24 49 Try.underlying24 _ _ _ _ _ rfl rfl rfl HS2 ?_; simp only [Act.put, List.setIfInBounds_toArray, List.set_cons_zero, List.set_cons_succ]; go_big_quiet_on)
           | (go_big_quiet_op; go_big_quiet_on)
           | (go_big_quiet_op; refine ⟨_, fun _ _ => rfl, ?_⟩; go_big_quiet_on)
           | (go_big_quiet_op; refine ⟨_, fun _ _ _ => rfl, ?_⟩; go_big_quiet_on)
           | (go_big_quiet_op; refine ⟨_, fun _ _ _ _ => rfl, ?_⟩; go_big_quiet_on)))
    refine wpQuiet_nil ?_
    have hcl := fun ty => clear_one_ln HRW1.out ty (by omega)
    have hs6 := HS6.out
    go_wp2
    go_ret
    obtain ⟨cur2, hrw2, -⟩ := HRW1.out.write ((n - 1) * 2) [.int .i64 0, .int .i64 0] (by simp; omega) HRW1.out.1 (by omega) (fun j hj => by rw [if_neg (by omega)]; exact (HRW1.out.get j hj).symm)
    exact ⟨_, rfl, hrw2.llD⟩
theorem downM_eq {ks : List K2} (x y : Int) : downM ks x y = if lnsB ks = true ∧ 0 ≤ atE ks x y then ks.eraseIdx (atE ks x y).toNat else ks := by
  unfold downM
  by_cases h : lnsB ks = true
  · rw [atE_eq x y h]
  · rw [if_neg (fun e => h e.1), if_neg (fun e => h e.1)]
set_option maxRecDepth 100000 in
set_option maxHeartbeats 2000000 in
theorem ilinkdown_any (v : Value) (ks : List K2) (x y : Int) (w : World) (h : keysAt w v ks) (hs : ks.length ≤ 1500000) :
    Calls Try.prog 15 #[v, .int .i64 x, .int .i64 y] w fun e w' => ∃ v', e = .returned v' ∧ LlD w w' v' (downM ks x y) := by
  have HLK := Lib.hid (fun wx (hb : Below w.heap.size w wx) => ilinksok_any v ks wx (keysAt_below h hb) (by omega))
  have HAT := Lib.hid (ilinkat_any v ks x y w h (by omega))
  have HCP := Lib.hid (fun wx (hb : Below w.heap.size w wx) => icopylinks_any v ks wx (keysAt_below h hb) hs)
  have hcs := firstP_cases (joinB x y) ks
  have HDM := Lib.hid (downM_eq (ks := ks) x y)
  have hcs2 : (atE ks x y = -1) ∨ ∃ i : Nat, i < ks.length ∧ atE ks x y = i := by
    rcases hcs with ⟨h, -⟩ | ⟨i, hi, h, -⟩
    · exact .inl h
    · exact .inr ⟨i, hi, h⟩
  clear hcs
  generalize atE ks x y = z at *
  generalize downM ks x y = M at *
  obtain ⟨a, cap, rfl, -, -⟩ := h
  cases hl : lnsB ks with
  | false =>
    have HM := Lib.hid (show M = ks by rw [HDM.out, hl]; simp)
    rw [hl] at HLK
    clear hl HDM
    go_enter Try.func15, Try.ntmps15
    go_wp2_with fail
    refine HAT.out.mono ?_
    rintro e w1 ⟨rfl, hb1⟩
    have HB1 := Lib.hid hb1
    clear hb1 HAT
    go_wp2_with fail
    refine (HLK.out _ HB1.out).mono ?_
    rintro e w2 ⟨rfl, hb2⟩
    have HW := Lib.hid (HB1.out.trans (hb2.mono HB1.out.size))
    clear hb2 HLK HB1
    go_wp2_with fail
    refine (HCP.out _ HW.out).mono ?_
    rintro e w3 ⟨v3, rfl, hV3⟩
    have HV3 := Lib.hid (hV3.base HW.out)
    clear hV3 HCP
    go_wp2
    go_ret
    exact ⟨_, rfl, by rw [HM.out]; exact HV3.out⟩
  | true =>
    rw [hl] at HLK
    rcases hcs2 with rfl | ⟨i, hi, rfl⟩
    · have HM := Lib.hid (show M = ks by rw [HDM.out]; simp)
      clear hl HDM
      go_enter Try.func15, Try.ntmps15
      go_wp2_with fail
      refine HAT.out.mono ?_
      rintro e w1 ⟨rfl, hb1⟩
      have HB1 := Lib.hid hb1
      clear hb1 HAT
      go_wp2_with fail
      refine (HLK.out _ HB1.out).mono ?_
      rintro e w2 ⟨rfl, hb2⟩
      have HW := Lib.hid (HB1.out.trans (hb2.mono HB1.out.size))
      clear hb2 HLK HB1
      go_wp2_with fail
      refine (HCP.out _ HW.out).mono ?_
      rintro e w3 ⟨v3, rfl, hV3⟩
      have HV3 := Lib.hid (hV3.base HW.out)
      clear hV3 HCP
      go_wp2
      go_ret
      exact ⟨_, rfl, by rw [HM.out]; exact HV3.out⟩
    · replace HDM := Lib.hid (show M = ks.eraseIdx i by rw [HDM.out, hl]; simp)
      have z0 : ¬ (i : Int) < 0 := by omega
      have ei : IntKind.i64.wrap ((i : Int) + 1) = ((i + 1 : Nat) : Int) := by rw [IntWalk.i64_in _ (by omega)]; omega
      have ei2 : wrap64 ((i : Int) + 1) = ((i + 1 : Nat) : Int) := by rw [IntWalk.wrap64_in _ (by omega)]; omega
      clear hl
      go_enter Try.func15, Try.ntmps15
      go_wp2_with fail
      refine HAT.out.mono ?_
      rintro e w1 ⟨rfl, hb1⟩
      have HB1 := Lib.hid hb1
      clear hb1 HAT
      go_wp2_with fail
      refine (HLK.out _ HB1.out).mono ?_
      rintro e w2 ⟨rfl, hb2⟩
      have HW := Lib.hid (HB1.out.trans (hb2.mono HB1.out.size))
      clear hb2 HLK HB1
      go_wp2_with fail
      refine (HCP.out _ HW.out).mono ?_
      rintro e w3 ⟨v3, rfl, hV3⟩
      have HV3 := Lib.hid (hV3.base HW.out)
      clear hV3 HCP
      have HDE := Lib.hid (idelete_any v3 ks i w w3 HV3.out hi hs)
      obtain ⟨a3, c3, rfl⟩ := HV3.out.shape
      go_wp2_with fail
      refine HDE.out.mono ?_
      rintro e w4 ⟨v4, rfl, hV4⟩
      have HV4 := Lib.hid hV4
      clear hV4 HDE HV3
      go_wp2
      go_ret
      exact ⟨_, rfl, by rw [HDM.out]; exact HV4.out⟩
end Go.Proofs.Ytpfnpinoamjcjaa
namespace Go.Proofs.Ytpfnpinoamjcjaa
open Go.ChangeShapes Go.WideShapes Go.ChangeAt Go.RowKit Go.BigFrame
set_option linter.unusedVariables false
set_option linter.unusedSimpArgs false

set_option maxRecDepth 100000 in
set_option maxHeartbeats 4000000 in
theorem ibsf_any (v : Value) (ks : List K2) (l : K2) (w : World) (h : keysAt w v ks) (hs : ks.length ≤ 2000000) :
    Calls Try.prog 42 #[v, kv l, .func (.func 43) #[] #[]] w fun e w' => ∃ (i : Nat) (f : Bool), e = .returned (.tuple #[.int .i64 i, .bool f]) ∧ spotK ks l i ∧ Below w.heap.size w w' := by
  obtain ⟨a, cap, rfl, hcap, hcells⟩ := h
  have HC := Lib.hid (fun k w => ibyboth_any k l w)
  have HBN := Lib.hid (fun k => byI_lt k l)
  obtain ⟨p, q⟩ := l
  have HB0 := Lib.hid ((Below.refl w.heap.size w).alloc (Nat.le_refl _) (.cells #[.int .i64 p, .int .i64 q] 49))
  have LB := lnbox_load w (p, q)
  unfold kv
  dsimp only at LB ⊢
  go_enter Try.func42, Try.ntmps42
  go_wp2
  generalize w.alloc (.cells #[.int .i64 p, .int .i64 q] 49) = W1 at *
  go_loopw [9, 10] (fun s7 s8 wr => ∃ lo hi : Nat, s7 = .int .i64 lo ∧ s8 = .int .i64 hi ∧ lo ≤ hi ∧ hi ≤ ks.length ∧ (lo = 0 ∨ aheadB (ks.getD (lo - 1) (0, 0)) (p, q) = true) ∧ (hi = ks.length ∨ aheadB (ks.getD hi (0, 0)) (p, q) = false) ∧ Below W1.heap.size W1 wr) (fun s7 s8 _ => (intOf s8).toNat - (intOf s7).toNat)
  case atStart => exact ⟨0, ks.length, rfl, rfl, Nat.zero_le _, Nat.le_refl _, .inl rfl, .inl rfl, Below.refl _ _⟩
  case round =>
    obtain ⟨lo, hi, rfl, rfl, hlh, hin, h1, h2, hb⟩ := hrel
    have H1 := Lib.hid h1
    have H2 := Lib.hid h2
    clear h1 h2
    by_cases hlt : lo < hi
    · obtain ⟨g, off, rfl, hg, hcs⟩ := hcells.resolve_left (by omega)
      obtain ⟨m, hm⟩ : ∃ m, m = (lo + hi) / 2 := ⟨_, rfl⟩
      have em : ((lo : Int) + (hi : Int)) / 2 = (m : Int) := by omega
      have hml : m < ks.length := by omega
      have hmlo : lo ≤ m := by omega
      have hmhi : m < hi := by omega
      have zl : (lo : Int) < (hi : Int) := by omega
      have z0 : (0 : Int) ≤ (m : Int) := by omega
      have z1 : (m : Int) < (ks.length : Int) := by omega
      have c1 := hcs m hml
      have LE : ∀ wx, Below W1.heap.size W1 wx → (loadVar 49 ⟨g, off + m * 2, none⟩).run Try.prog wx = .ok (kv (ks.getD m (0, 0))) wx := fun wx h => link_load c1 hg (HB0.out.trans (h.mono HB0.out.size))
      have HX := Lib.hid (HC.out (ks.getD m (0, 0)))
      have hbn := HBN.out (ks.getD m (0, 0))
      generalize byI (ks.getD m (0, 0)) (p, q) = z at *
      clear c1 hcs hcells HC HBN hm
      cases hah : aheadB (ks.getD m (0, 0)) (p, q) with
      | true =>
        have hz : z < 0 := hbn.2 hah
        have hzd : decide (z < 0) = true := decide_eq_true hz
        have HN := Lib.hid (show m + 1 = 0 ∨ aheadB (ks.getD (m + 1 - 1) (0, 0)) (p, q) = true from .inr hah)
        clear hah hbn
        generalize ks.getD m (0, 0) = km at *
        go_wp2
        refine wp_region_below W1 (by kernel_rfl) (by kernel_rfl) hb ?_
        repeat (first
          | go_big_quiet_skip
          | (go_big_quiet_want
             first
               | (refine q_load 49 _ _ _ rfl rfl LE ?_; simp only [Act.put, List.setIfInBounds_toArray, List.set_cons_zero, List.set_cons_succ]; go_big_quiet_on)
               | (refine q_load 49 _ _ _ rfl rfl LB ?_; simp only [Act.put, List.setIfInBounds_toArray, List.set_cons_zero, List.set_cons_succ]; go_big_quiet_on)
               | (go_big_quiet_op; go_big_quiet_on)
               | (go_big_quiet_op; refine ⟨_, fun _ _ => rfl, ?_⟩; go_big_quiet_on)
               | (go_big_quiet_op; apply Exists.intro; refine ⟨fun w' hw' => ?_, ?_⟩
                  · first
                    | (with_reducible refine (HX.out w').mono ?_
                       rintro e w2 ⟨rfl, hb2⟩
                       exact ⟨rfl, hw'.trans (hb2.mono hw'.size)⟩)
                  go_big_quiet_on)
               | (go_big_quiet_op; refine ⟨_, fun _ _ _ => rfl, ?_⟩; go_big_quiet_on)))
        refine wpQuiet_nil ?_
        intro w2 hb2
        clear LE LB HX hb
        go_wp2
        exact ⟨⟨m + 1, hi, by go_num, rfl, by omega, hin, HN.out, H2.out, hb2⟩, by simp [intOf]; omega⟩
      | false =>
        have hz : ¬ z < 0 := fun hz => by rw [hbn.1 hz] at hah; cases hah
        have hzd : decide (z < 0) = false := decide_eq_false hz
        have HN := Lib.hid (show m = ks.length ∨ aheadB (ks.getD m (0, 0)) (p, q) = false from .inr hah)
        clear hah hbn
        generalize ks.getD m (0, 0) = km at LE HX
        go_wp2
        refine wp_region_below W1 (by kernel_rfl) (by kernel_rfl) hb ?_
        repeat (first
          | go_big_quiet_skip
          | (go_big_quiet_want
             first
               | (refine q_load 49 _ _ _ rfl rfl LE ?_; simp only [Act.put, List.setIfInBounds_toArray, List.set_cons_zero, List.set_cons_succ]; go_big_quiet_on)
               | (refine q_load 49 _ _ _ rfl rfl LB ?_; simp only [Act.put, List.setIfInBounds_toArray, List.set_cons_zero, List.set_cons_succ]; go_big_quiet_on)
               | (go_big_quiet_op; go_big_quiet_on)
               | (go_big_quiet_op; refine ⟨_, fun _ _ => rfl, ?_⟩; go_big_quiet_on)
               | (go_big_quiet_op; apply Exists.intro; refine ⟨fun w' hw' => ?_, ?_⟩
                  · first
                    | (with_reducible refine (HX.out w').mono ?_
                       rintro e w2 ⟨rfl, hb2⟩
                       exact ⟨rfl, hw'.trans (hb2.mono hw'.size)⟩)
                  go_big_quiet_on)
               | (go_big_quiet_op; refine ⟨_, fun _ _ _ => rfl, ?_⟩; go_big_quiet_on)))
        refine wpQuiet_nil ?_
        intro w2 hb2
        clear LE LB HX hb
        go_wp2
        exact ⟨⟨lo, m, rfl, rfl, by omega, by omega, H1.out, HN.out, hb2⟩, by simp [intOf]; omega⟩
    · obtain rfl : hi = lo := by omega
      have HSP := Lib.hid (show spotK ks (p, q) hi from ⟨hin, H1.out, H2.out⟩)
      clear H1 H2
      by_cases hn : hi < ks.length
      · obtain ⟨g, off, rfl, hg, hcs⟩ := hcells.resolve_left (by omega)
        have z0 : (0 : Int) ≤ (hi : Int) := by omega
        have z1 : (hi : Int) < (ks.length : Int) := by omega
        have dk : decide ((hi : Int) < (ks.length : Int)) = true := decide_eq_true z1
        have dk2 : decide (hi < ks.length) = true := decide_eq_true hn
        have c1 := hcs hi hn
        have LE : ∀ wx, Below W1.heap.size W1 wx → (loadVar 49 ⟨g, off + hi * 2, none⟩).run Try.prog wx = .ok (kv (ks.getD hi (0, 0))) wx := fun wx h => link_load c1 hg (HB0.out.trans (h.mono HB0.out.size))
        have HX := Lib.hid (HC.out (ks.getD hi (0, 0)))
        generalize byI (ks.getD hi (0, 0)) (p, q) = z at *
        clear c1 hcs hcells HC HBN
        generalize ks.getD hi (0, 0) = km at LE HX
        go_wp2
        refine wp_region_below W1 (by kernel_rfl) (by kernel_rfl) hb ?_
        repeat (first
          | go_big_quiet_skip
          | (go_big_quiet_want
             first
               | (refine q_load 49 _ _ _ rfl rfl LE ?_; simp only [Act.put, List.setIfInBounds_toArray, List.set_cons_zero, List.set_cons_succ]; go_big_quiet_on)
               | (refine q_load 49 _ _ _ rfl rfl LB ?_; simp only [Act.put, List.setIfInBounds_toArray, List.set_cons_zero, List.set_cons_succ]; go_big_quiet_on)
               | (go_big_quiet_op; go_big_quiet_on)
               | (go_big_quiet_op; refine ⟨_, fun _ _ => rfl, ?_⟩; go_big_quiet_on)
               | (go_big_quiet_op; apply Exists.intro; refine ⟨fun w' hw' => ?_, ?_⟩
                  · first
                    | (with_reducible refine (HX.out w').mono ?_
                       rintro e w2 ⟨rfl, hb2⟩
                       exact ⟨rfl, hw'.trans (hb2.mono hw'.size)⟩)
                  go_big_quiet_on)
               | (go_big_quiet_op; refine ⟨_, fun _ _ _ => rfl, ?_⟩; go_big_quiet_on)))
        refine wpQuiet_nil ?_
        intro w2 hb2
        clear LE LB HX hb
        go_wp2
        go_ret2
        exact ⟨_, _, rfl, HSP.out, HB0.out.trans (hb2.mono HB0.out.size)⟩
      · have dk : decide ((hi : Int) < (ks.length : Int)) = false := decide_eq_false (by omega)
        have dk2 : decide (hi < ks.length) = false := decide_eq_false (by omega)
        clear hcells HC HBN
        go_wp2
        refine wp_region_below W1 (by kernel_rfl) (by kernel_rfl) hb ?_
        repeat (first
          | go_big_quiet_skip
          | (go_big_quiet_want
             first
               | (refine q_load 49 _ _ _ rfl rfl LB ?_; simp only [Act.put, List.setIfInBounds_toArray, List.set_cons_zero, List.set_cons_succ]; go_big_quiet_on)
               | (go_big_quiet_op; go_big_quiet_on)
               | (go_big_quiet_op; refine ⟨_, fun _ _ => rfl, ?_⟩; go_big_quiet_on)
               | (go_big_quiet_op; go_big_quiet_on)))
        refine wpQuiet_nil ?_
        intro w2 hb2
        clear LB hb
        go_wp2
        go_ret2
        exact ⟨_, _, rfl, HSP.out, HB0.out.trans (hb2.mono HB0.out.size)⟩
end Go.Proofs.Ytpfnpinoamjcjaa
namespace Go.Proofs.Ytpfnpinoamjcjaa
open Go.ChangeShapes Go.WideShapes Go.ChangeAt Go.RowKit Go.BigFrame
set_option linter.unusedVariables false
set_option linter.unusedSimpArgs false

theorem kc_ins (A B : List K2) (x : K2) (i j : Nat) (hA : A.length = i) : (keyCells (A ++ x :: B))[j]? = if j < i * 2 then (keyCells A)[j]? else if j < (i + 1) * 2 then ([.int .i64 x.1, .int .i64 x.2] : List Value)[j - i * 2]? else (keyCells B)[j - (i + 1) * 2]? := by
  have e : keyCells (A ++ x :: B) = keyCells A ++ ([.int .i64 x.1, .int .i64 x.2] ++ keyCells B) := by simp [keyCells]
  have hl : (keyCells A).length = i * 2 := by rw [keyCells_len, hA]
  rw [e]
  by_cases h1 : j < i * 2
  · rw [if_pos h1, List.getElem?_append_left (by omega)]
  · rw [if_neg h1, List.getElem?_append_right (by omega), hl]
    by_cases h2 : j < (i + 1) * 2
    · rw [if_pos h2, List.getElem?_append_left (by simp; omega)]
    · rw [if_neg h2, List.getElem?_append_right (by simp; omega)]
      simp only [List.length_cons, List.length_nil]
      rw [show j - i * 2 - (0 + 1 + 1) = j - (i + 1) * 2 by omega]
theorem write_tail {w0 w : World} {g n m cap i : Nat} {A B C : List K2} {x : K2} {cur : Array Value} (h : LRow w0 w g n cap (A ++ x :: B) cur) (hA : A.length = i) (hm : i + 1 + C.length = m) (hmc : m ≤ cap) : ∃ cur', LRow w0 (w.setCells g ((i + 1) * 2) (keyCells C)) g m cap (A ++ x :: C) cur' := by
  have hn : i + 1 + B.length = n := by rw [← h.1, ← hA]; simp; omega
  obtain ⟨cur', hw, -⟩ := h.write ((i + 1) * 2) (keyCells C) (m := m) (ls := A ++ x :: C) (by rw [keyCells_len]; omega) (by rw [← hm, ← hA]; simp; omega) hmc (fun j hj => by
    rw [kc_ins A C x i j hA]
    by_cases h1 : j < (i + 1) * 2
    · have h2 : ¬ ((i + 1) * 2 ≤ j ∧ j < (i + 1) * 2 + (keyCells C).length) := by omega
      have := h.get j (by omega)
      rw [kc_ins A B x i j hA] at this
      rw [if_neg h2, this]
      simp only [if_pos h1]
    · rw [if_neg (by omega), if_neg h1, if_pos (by rw [keyCells_len]; omega)])
  exact ⟨cur', hw⟩
theorem write_mid {w0 w : World} {g m cap i : Nat} {A B : List K2} {x y : K2} {cur : Array Value} (h : LRow w0 w g m cap (A ++ x :: B) cur) (hA : A.length = i) : ∃ cur', LRow w0 (w.setCells g (i * 2) [.int .i64 y.1, .int .i64 y.2]) g m cap (A ++ y :: B) cur' := by
  have hn : i + 1 + B.length = m := by rw [← h.1, ← hA]; simp; omega
  have hc := h.2.2.2.1
  obtain ⟨cur', hw, -⟩ := h.write (i * 2) [.int .i64 y.1, .int .i64 y.2] (m := m) (ls := A ++ y :: B) (by simp; omega) (by rw [← hn, ← hA]; simp; omega) hc (fun j hj => by
    rw [kc_ins A B y i j hA]
    have := h.get j hj
    rw [kc_ins A B x i j hA] at this
    by_cases h1 : j < i * 2
    · rw [if_pos h1, if_neg (by omega), this, if_pos h1]
    · by_cases h2 : j < (i + 1) * 2
      · rw [if_neg h1, if_pos h2, if_pos (by simp; omega)]
      · rw [if_neg h1, if_neg h2, if_neg (by simp; omega), this, if_neg h1, if_neg h2])
  exact ⟨cur', hw⟩
theorem run_copy_ln (w : World) (ty : TypeId) (b o dLen dCap : Nat) (a : Addr) (sLen sCap k : Nat) (cs : List Value) (hk : k = Nat.min sLen dLen) (hn : cs.length = k * 2)
    (hsrc : ∀ j v, cs[j]? = some v → w.cell? (a.add j) = some v) (hc : ∀ j, j < cs.length → (w.cell? ⟨b, o + j, none⟩).isSome = true) (hf : ∀ j, j < cs.length → w.frozen? ⟨b, o + j, none⟩ = false) (h1 : ∀ v ∈ cs, v.oneCell' = true) :
    (Builtin.copy_ #[24, 24] ty #[.slice (some ⟨b, o, none⟩) dLen dCap, .slice (some a) sLen sCap]).run Try.prog w = .ok (goInt k) (w.setCells b o cs) := by
  have u := Try.underlying24
  obtain ⟨i0, hin, hz0, hz1, hz2⟩ := info_parts infoLn
  have hl := run_firstCells_some (P := Try.prog) w 2 k a sLen sCap cs hn hsrc
  have hst := run_storeCells_cells (P := Try.prog) b o cs 0 w (by simpa using hc) (by simpa using hf) h1
  simp only [Nat.add_zero] at hst
  simp [Builtin.copy_, run_underlying u, Builtin.lenOf, sizeOf, typeInfo, hin, hz1, ← hk, hl, hst]
theorem LRow.copyOk {w0 w : World} {g n cap : Nat} {ks : List K2} {cur : Array Value} (h : LRow w0 w g n cap ks cur) (o k : Nat) (ho : o + k ≤ cap * 2) : (∀ j, j < k → (w.cell? ⟨g, o + j, none⟩).isSome = true) ∧ ∀ j, j < k → w.frozen? ⟨g, o + j, none⟩ = false :=
  ⟨fun j hj => by rw [cells_of_row h.2.2.1, Array.getElem?_eq_getElem (by rw [h.2.2.2.2.2.1]; omega)]; rfl, fun j hj => frozen_row h.2.2.1 _⟩
theorem LRow.srcOk {w0 w : World} {g n cap : Nat} {ks : List K2} {cur : Array Value} (h : LRow w0 w g n cap ks cur) (i : Nat) (hi : i ≤ n) : ∀ (j : Nat) (v : Value), (keyCells (ks.drop i))[j]? = some v → w.cell? ((⟨g, i * 2, none⟩ : Addr).add j) = some v := fun j v hj => by
  have hjl : j < (n - i) * 2 := by
    have := (List.getElem?_eq_some_iff.1 hj).1
    rwa [keyCells_len, List.length_drop, h.1] at this
  rw [addr_plusK, cells_of_row h.2.2.1, h.get _ (by omega)]
  rwa [keyCells_drop, List.getElem?_drop] at hj
theorem grown_row {w0 w : World} {g n cap : Nat} {ks : List K2} {cur : Array Value} (h : LRow w0 w g n cap ks cur) (i G : Nat) (hi : i ≤ n) (hG : n + 1 ≤ G) (hGm : G ≤ maxLen) :
    LRow w0 (w.drew.alloc (.cells (((keyCells ks).take (i * 2)).toArray ++ Builtin.zeroCells #[.int .i64 0, .int .i64 0] (n + 1 - i) ++ Builtin.zeroCells #[.int .i64 0, .int .i64 0] (G - (n + 1))) 49)) w.heap.size (n + 1) G (ks.take i ++ (0, 0) :: List.replicate (n - i) (0, 0)) (((keyCells ks).take (i * 2)).toArray ++ Builtin.zeroCells #[.int .i64 0, .int .i64 0] (n + 1 - i) ++ Builtin.zeroCells #[.int .i64 0, .int .i64 0] (G - (n + 1))) := by
  have h1 := h.1
  have hb := h.2.2.2.2.2.2.2
  have hzs : ∀ k, (Builtin.zeroCells #[Value.int .i64 0, .int .i64 0] k).size = k * 2 := fun k => by simp [Builtin.zeroCells, Nat.mul_comm]
  have hkl : ((keyCells ks).take (i * 2)).length = i * 2 := by rw [List.length_take, keyCells_len]; omega
  have hzl : (Builtin.zeroCells #[Value.int .i64 0, .int .i64 0] (n + 1 - i)).toList = keyCells ((0, 0) :: List.replicate (n - i) (0, 0)) := by
    apply List.ext_getElem
    · rw [keyCells_len]
      simp [hzs]
      omega
    · intro j hj1 hj2
      rw [keyCells_len, List.length_cons, List.length_replicate] at hj2
      have hg := keyCells_get ((0, 0) :: List.replicate (n - i) (0, 0) : List K2) (j / 2) (by simp; omega)
      have hd : ((0, 0) :: List.replicate (n - i) (0, 0) : List K2).getD (j / 2) (0, 0) = (0, 0) := by
        rw [show ((0, 0) :: List.replicate (n - i) (0, 0) : List K2) = List.replicate (n - i + 1) (0, 0) from rfl, List.getD_eq_getElem?_getD, List.getElem?_replicate]
        split <;> rfl
      rw [hd] at hg
      have hr : (keyCells ((0, 0) :: List.replicate (n - i) (0, 0) : List K2))[j]? = some (.int .i64 0) := by
        rcases (by omega : j = j / 2 * 2 ∨ j = j / 2 * 2 + 1) with e | e
        · rw [← e] at hg; exact hg.1
        · rw [← e] at hg; exact hg.2
      obtain ⟨hh, hr2⟩ := List.getElem?_eq_some_iff.1 hr
      rw [hr2]
      simp [Builtin.zeroCells]
      rcases (by omega : j % 2 = 0 ∨ j % 2 = 1) with e | e <;> simp [e]
  refine ⟨by simp; omega, Nat.le_trans hb.size (Nat.le_refl _), heap_alloc_new _ _, hG, hGm, ?_, ?_, hb.drew.alloc hb.size _⟩
  · simp only [Array.size_append, List.size_toArray, hkl, hzs]
    omega
  · simp only [Array.toList_append, List.toList_toArray, hzl]
    rw [keyCells_appL, keyCells_take, List.take_append_of_le_length (by simp [hkl, keyCells_len]; omega), List.take_of_length_le (by simp [hkl, keyCells_len]; omega)]
theorem insK_nth (ks : List K2) (i : Nat) (hi : i < ks.length) : ks = ks.take i ++ ks.getD i (0, 0) :: ks.drop (i + 1) := by
  have e : ks.getD i (0, 0) = ks[i] := by simp [List.getD, hi]
  rw [e, ← List.drop_eq_getElem_cons hi, List.take_append_drop]
set_option maxRecDepth 100000 in
set_option maxHeartbeats 4000000 in
/-- there is room: in place -/
theorem iinsert_room (g n cap i gl : Nat) (ks : List K2) (p q : Int) (cur : Array Value) (w0 w : World) (hrow : LRow w0 w g n cap ks cur) (hl : w.heap[gl]? = some (.cells #[.int .i64 p, .int .i64 q] 49 (0, 0))) (hne : gl ≠ g) (hi : i < n) (hroom : n + 1 ≤ cap) :
    Calls Try.prog 44 #[.slice (some ⟨g, 0, none⟩) n cap, .int .i64 i, .slice (some ⟨gl, 0, none⟩) 1 1] w fun e w' => ∃ v', e = .returned v' ∧ LlD w0 w' v' (insK ks (p, q) i) := by
  have u := Try.underlying24
  have hcm := hrow.2.2.2.2.1
  unfold maxLen at hcm
  have hk1 := hrow.1
  have hov : ∀ lb cb, (callFunc 63 #[.slice (some ⟨gl, 0, none⟩) 1 1, .slice (some ⟨g, (i + 1) * 2, none⟩) lb cb]).run Try.prog w = .ok (.value (.bool false)) w := fun lb cb => by
    rw [run_callFunc_extern Try.func63 (by kernel_rfl) (by kernel_rfl) (by kernel_rfl) (e := Extern.SlicesOverlaps.overlaps #[24, 24] #[4]) (by kernel_rfl),
      Lib.run_overlaps_apart w 24 4 49 u 2 (fun w => by obtain ⟨i0, hin, hz0, hz1, hz2⟩ := info_parts infoLn; simp [sizeOf, typeInfo, hin, hz1]) ⟨gl, 0, none⟩ ⟨g, (i + 1) * 2, none⟩ 1 1 lb cb hne 49 49 2 cur.size (by simp [World.shape?, hl]) (by simp [World.shape?, hrow.2.2.1]) (by rw [hrow.2.2.2.2.2.1]; omega) (frozen_row hl _) (frozen_row hl _)]
    rfl
  have hA : (ks.take i).length = i := by rw [List.length_take]; omega
  have hdl : (keyCells (ks.drop i)).length = (n - i) * 2 := by rw [keyCells_len, List.length_drop, hk1]
  have hsp := hrow.drew.copyOk ((i + 1) * 2) ((n - i) * 2) (by omega)
  have hcp1 : ∀ ty dl dc sl sc, n - i = Nat.min sl dl → (Builtin.copy_ #[24, 24] ty #[.slice (some ⟨g, (i + 1) * 2, none⟩) dl dc, .slice (some ⟨g, i * 2, none⟩) sl sc]).run Try.prog w.drew = .ok (goInt (n - i : Nat)) (w.drew.setCells g ((i + 1) * 2) (keyCells (ks.drop i))) := fun ty dl dc sl sc hmin =>
    run_copy_ln w.drew ty g ((i + 1) * 2) _ dc ⟨g, i * 2, none⟩ _ sc (n - i) _ hmin hdl (hrow.drew.srcOk i (by omega)) (fun j hj => hsp.1 j (by omega)) (fun j hj => hsp.2 j (by omega)) (kyCells_one _)
  have hrd := hrow.drew
  have hW1r : ∃ cur1, LRow w0 (w.drew.setCells g ((i + 1) * 2) (keyCells (ks.drop i))) g (n + 1) cap (ks.take i ++ ks.getD i (0, 0) :: ks.drop i) cur1 := by
    rw [insK_nth ks i (by omega)] at hrd
    have := write_tail (m := n + 1) (C := ks.drop i) hrd hA (by rw [List.length_drop]; omega) hroom
    exact this
  have hlt := (Array.getElem?_eq_some_iff.1 hl).1
  have hl1 : (w.drew.setCells g ((i + 1) * 2) (keyCells (ks.drop i))).heap[gl]? = some (.cells #[.int .i64 p, .int .i64 q] 49 (0, 0)) := (World.heap_setCells_other w.drew g _ _ hlt hne).trans hl
  obtain ⟨W1, hW1⟩ : ∃ W1, W1 = w.drew.setCells g ((i + 1) * 2) (keyCells (ks.drop i)) := ⟨_, rfl⟩
  rw [← hW1] at hcp1 hW1r hl1
  obtain ⟨cur1, hr1⟩ := hW1r
  have hc2 := hr1.copyOk (i * 2) 2 (by omega)
  have hcp2 : ∀ ty dl dc, 1 = Nat.min 1 dl → (Builtin.copy_ #[24, 24] ty #[.slice (some ⟨g, i * 2, none⟩) dl dc, .slice (some ⟨gl, 0, none⟩) 1 1]).run Try.prog W1 = .ok (goInt (1 : Nat)) (W1.setCells g (i * 2) [.int .i64 p, .int .i64 q]) := fun ty dl dc hmin =>
    run_copy_ln W1 ty g (i * 2) _ dc ⟨gl, 0, none⟩ _ 1 1 _ hmin rfl (fun j v hj => by rw [addr_plusK, cells_of_row hl1, Nat.zero_add]; simpa using hj) hc2.1 hc2.2 (by intro v hv; simp at hv; rcases hv with rfl | rfl <;> rfl)
  obtain ⟨cur2, hr2⟩ := write_mid (y := (p, q)) hr1 hA
  have HFIN := Lib.hid (show LlD w0 (W1.setCells g (i * 2) [.int .i64 p, .int .i64 q]) (.slice (some ⟨g, 0, none⟩) (n + 1) cap) (insK ks (p, q) i) from hr2.llD)
  have mixed : Try.prog.follows .mixedOrders = true := by kernel_rfl
  have z11 : (i : Int) ≤ (n : Int) + 1 := by omega
  have z1 : ¬ (i : Int) = (n : Int) := by omega
  have z2 : ¬ (cap : Int) < (n : Int) + 1 := by omega
  have z3 : (n : Int) + 1 ≤ (cap : Int) := by omega
  have z4 : (i : Int) ≤ (n : Int) := by omega
  have z5 : (i : Int) + 1 ≤ (n : Int) + 1 := by omega
  have z6 : ¬ cap = i := by omega
  have z7 : ¬ cap = i + 1 := by omega
  have z8 : (0 : Int) ≤ (i : Int) + 1 := by omega
  have z9 : ((i : Int) + 1).toNat = i + 1 := by omega
  have z10 : ((n : Int) + 1).toNat = n + 1 := by omega
  have w1 : IntKind.i64.wrap ((n : Int) + 1) = (n : Int) + 1 := IntWalk.i64_in _ (by omega)
  have w2 : IntKind.i64.wrap ((i : Int) + 1) = (i : Int) + 1 := IntWalk.i64_in _ (by omega)
  clear hr2 hr1 hc2 hl1 hrd hsp hdl hA hrow hl hlt hk1 hW1
  go_enter Try.func44, Try.ntmps44
  go_wp2_with (simp only [hov])
  go_region_law_o (refine step_copy_runI rfl _ _ 24 24 rfl (.slice (some ⟨g, (i + 1) * 2, none⟩) (n + 1 - (i + 1)) (cap - (i + 1))) (.slice (some ⟨g, i * 2, none⟩) (n + 1 - i) (cap - i)) (by simp [Act.eval, Act.put]) (by simp [Act.eval, Act.put]) (hcp1 3 (n + 1 - (i + 1)) (cap - (i + 1)) (n + 1 - i) (cap - i) (by simp only [Nat.min_def]; split <;> omega)) ?_)
  have hcp2x := hcp2 3 (n + 1 - i) (cap - i) (by simp only [Nat.min_def]; split <;> omega)
  clear hcp2 hcp1 hov
  go_wp2
  go_ret
  exact ⟨_, rfl, HFIN.out⟩
set_option maxRecDepth 100000 in
set_option maxHeartbeats 4000000 in
/-- there is no room: a new row -/
theorem iinsert_grow (g n cap i gl : Nat) (ks : List K2) (p q : Int) (cur : Array Value) (w0 w : World) (hrow : LRow w0 w g n cap ks cur) (hl : w.heap[gl]? = some (.cells #[.int .i64 p, .int .i64 q] 49 (0, 0))) (hi : i < n) (hn : n ≤ 1500000) (hroom : ¬ n + 1 ≤ cap) :
    Calls Try.prog 44 #[.slice (some ⟨g, 0, none⟩) n cap, .int .i64 i, .slice (some ⟨gl, 0, none⟩) 1 1] w fun e w' => ∃ v', e = .returned v' ∧ LlD w0 w' v' (insK ks (p, q) i) := by
  have u := Try.underlying24
  have ui := Try.underlying3
  obtain ⟨i0, hin, hz0, hz1, hz2⟩ := info_parts infoLn
  have hnc := hrow.2.2.2.1
  obtain rfl : cap = n := by omega
  have hk1 := hrow.1
  have hbw := (Array.getElem?_eq_some_iff.1 hrow.2.2.1).1
  have hlt := (Array.getElem?_eq_some_iff.1 hl).1
  have hA : (ks.take i).length = i := by rw [List.length_take]; omega
  have hold : (Builtin.firstCells i0.size i (.slice (some ⟨g, 0, none⟩) i cap)).run Try.prog w.drew = .ok ((keyCells ks).take (i * 2)).toArray w.drew := by
    rw [hz1]
    exact run_firstCells_some (P := Try.prog) w.drew 2 i ⟨g, 0, none⟩ i cap ((keyCells ks).take (i * 2)) (by rw [List.length_take, keyCells_len, hk1]; omega) (fun j v hj => by
      rw [addr_plusK, Nat.zero_add, cells_of_row hrow.drew.2.2.1]
      rw [List.getElem?_take] at hj
      split at hj
      · rw [hrow.drew.get _ (by omega)]; exact hj
      · cases hj)
  obtain ⟨G, hG⟩ : ∃ G, G = grownCap w (cap + 1) cap 49 := ⟨_, rfl⟩
  have hGn : cap + 1 ≤ G := by rw [hG]; exact grownCap_ge w _ _ _
  have hGm : G ≤ maxLen := by rw [hG]; exact grownCap_le_maxLen w _ _ _ (by unfold maxLen; omega)
  obtain ⟨ROW, hROW⟩ : ∃ ROW : Array Value, ROW = ((keyCells ks).take (i * 2)).toArray ++ Builtin.zeroCells #[.int .i64 0, .int .i64 0] (cap + 1 - i) ++ Builtin.zeroCells #[.int .i64 0, .int .i64 0] (G - (cap + 1)) := ⟨_, rfl⟩
  have hrz : ∀ ty, (Builtin.append_ #[24, 3] ty #[.slice (some ⟨g, 0, none⟩) i cap, .int .i64 ((cap : Int) + 1 - (i : Int))]).run Try.prog w = .ok (.slice (some ⟨w.heap.size, 0, none⟩) (cap + 1) G) (w.drew.alloc (.cells ROW 49)) := fun ty => by
    have h := Lib.run_append_grow_zeros (P := Try.prog) w 24 3 ty 49 i0 _ .i64 .i64 u ui hin hz0 (some ⟨g, 0, none⟩) i cap ((keyCells ks).take (i * 2)) hold (cap + 1 - i) (by omega) (by rw [hz1]; omega) (by omega) (by omega) (by rw [hz2]; omega) (by rw [hz2, show i + (cap + 1 - i) = cap + 1 by omega]; exact growslice_fits (by omega) (by omega))
    rw [show i + (cap + 1 - i) = cap + 1 by omega, ← hG] at h
    rw [show (cap : Int) + 1 - (i : Int) = ((cap + 1 - i : Nat) : Int) by omega, hROW]
    exact h
  have hg1 := grown_row hrow i G (by omega) hGn hGm
  rw [← hROW] at hg1
  obtain ⟨W1, hW1⟩ : ∃ W1, W1 = w.drew.alloc (.cells ROW 49) := ⟨_, rfl⟩
  obtain ⟨B, hB⟩ : ∃ B, B = w.heap.size := ⟨_, rfl⟩
  have hl1 : W1.heap[gl]? = some (.cells #[.int .i64 p, .int .i64 q] 49 (0, 0)) := by rw [hW1]; exact (Below.heap_alloc w.drew _ _ hlt).trans hl
  have hs1 : LRow w0 W1 g cap cap ks cur := by
    obtain ⟨r1, r2, r3, r4, r5, r6, r7, r8⟩ := hrow.drew
    exact ⟨r1, r2, by rw [hW1]; exact (Below.heap_alloc w.drew _ _ hbw).trans r3, r4, r5, r6, r7, by rw [hW1]; exact r8.alloc r8.size _⟩
  rw [← hW1] at hrz hg1
  rw [← hB] at hrz hg1
  have hBg : g ≠ B := by omega
  have hBl : gl ≠ B := by omega
  have hc1 := hg1.copyOk (i * 2) 2 (by omega)
  have hcpA : ∀ ty dl dc, 1 = Nat.min 1 dl → (Builtin.copy_ #[24, 24] ty #[.slice (some ⟨B, i * 2, none⟩) dl dc, .slice (some ⟨gl, 0, none⟩) 1 1]).run Try.prog W1 = .ok (goInt (1 : Nat)) (W1.setCells B (i * 2) [.int .i64 p, .int .i64 q]) := fun ty dl dc hmin =>
    run_copy_ln W1 ty B (i * 2) _ dc ⟨gl, 0, none⟩ _ 1 1 _ hmin rfl (fun j v hj => by rw [addr_plusK, cells_of_row hl1, Nat.zero_add]; simpa using hj) hc1.1 hc1.2 (by intro v hv; simp at hv; rcases hv with rfl | rfl <;> rfl)
  obtain ⟨cur2, hg2⟩ := write_mid (y := (p, q)) hg1 hA
  have hs2 : (W1.setCells B (i * 2) [.int .i64 p, .int .i64 q]).heap[g]? = W1.heap[g]? := World.heap_setCells_other W1 B _ _ (Array.getElem?_eq_some_iff.1 hs1.2.2.1).1 hBg
  obtain ⟨W2, hW2⟩ : ∃ W2, W2 = W1.setCells B (i * 2) [.int .i64 p, .int .i64 q] := ⟨_, rfl⟩
  dsimp only at hg2
  rw [← hW2] at hcpA hg2 hs2
  have hs3 : LRow w0 W2 g cap cap ks cur := ⟨hs1.1, hs1.2.1, hs2.trans hs1.2.2.1, hs1.2.2.2.1, hs1.2.2.2.2.1, hs1.2.2.2.2.2.1, hs1.2.2.2.2.2.2.1, hg2.2.2.2.2.2.2.2⟩
  have hdl : (keyCells (ks.drop i)).length = (cap - i) * 2 := by rw [keyCells_len, List.length_drop, hk1]
  have hc3 := hg2.drew.copyOk ((i + 1) * 2) ((cap - i) * 2) (by omega)
  have hcpB : ∀ ty dl dc sl sc, cap - i = Nat.min sl dl → (Builtin.copy_ #[24, 24] ty #[.slice (some ⟨B, (i + 1) * 2, none⟩) dl dc, .slice (some ⟨g, i * 2, none⟩) sl sc]).run Try.prog W2.drew = .ok (goInt (cap - i : Nat)) (W2.drew.setCells B ((i + 1) * 2) (keyCells (ks.drop i))) := fun ty dl dc sl sc hmin =>
    run_copy_ln W2.drew ty B ((i + 1) * 2) _ dc ⟨g, i * 2, none⟩ _ sc (cap - i) _ hmin hdl (hs3.drew.srcOk i (by omega)) (fun j hj => hc3.1 j (by omega)) (fun j hj => hc3.2 j (by omega)) (kyCells_one _)
  obtain ⟨cur3, hg3⟩ := write_tail (m := cap + 1) (C := ks.drop i) hg2.drew hA (by rw [List.length_drop]; omega) hGn
  have HFIN := Lib.hid (show LlD w0 (W2.drew.setCells B ((i + 1) * 2) (keyCells (ks.drop i))) (.slice (some ⟨B, 0, none⟩) (cap + 1) G) (insK ks (p, q) i) from hg3.llD)
  have mixed : Try.prog.follows .mixedOrders = true := by kernel_rfl
  have hcm : G ≤ 9223372036854775807 := by unfold maxLen at hGm; omega
  have z11 : (i : Int) ≤ (cap : Int) + 1 := by omega
  have z1 : ¬ (i : Int) = (cap : Int) := by omega
  have z2 : (cap : Int) < (cap : Int) + 1 := by omega
  have z3 : (cap : Int) + 1 ≤ (G : Int) := by omega
  have z4 : (i : Int) ≤ (cap : Int) := by omega
  have z5 : (i : Int) + 1 ≤ (cap : Int) + 1 := by omega
  have z6 : ¬ cap = i := by omega
  have z7 : ¬ G = i + 1 := by omega
  have z7b : ¬ G = i := by omega
  have z8 : (0 : Int) ≤ (i : Int) + 1 := by omega
  have z9 : ((i : Int) + 1).toNat = i + 1 := by omega
  have w1 : IntKind.i64.wrap ((cap : Int) + 1) = (cap : Int) + 1 := IntWalk.i64_in _ (by omega)
  have w2 : IntKind.i64.wrap ((i : Int) + 1) = (i : Int) + 1 := IntWalk.i64_in _ (by omega)
  have w3 : IntKind.i64.wrap ((cap : Int) + 1 - (i : Int)) = (cap : Int) + 1 - (i : Int) := IntWalk.i64_in _ (by omega)
  clear hg3 hc3 hdl hs3 hW2 hs2 hg2 hc1 hs1 hl1 hW1 hg1 hROW hold hA hlt hbw hrow hl hk1 hG hGm hB hnc hroom
  go_enter Try.func44, Try.ntmps44
  have hcpx := hcpA 3 (cap + 1 - i) (G - i) (by simp only [Nat.min_def]; split <;> omega)
  clear hcpA
  go_wp2_with (at_builtin; refine Lib.wpList_append_run _ rfl _ _ _ _ rfl _ _ rfl rfl _ _ (hrz _) ?_)
  go_region_law_o (refine step_copy_runI rfl _ _ 24 24 rfl (.slice (some ⟨B, (i + 1) * 2, none⟩) (cap + 1 - (i + 1)) (G - (i + 1))) (.slice (some ⟨g, i * 2, none⟩) (cap - i) (cap - i)) (by simp [Act.eval, Act.put]) (by simp [Act.eval, Act.put]) (hcpB 3 (cap + 1 - (i + 1)) (G - (i + 1)) (cap - i) (cap - i) (by simp only [Nat.min_def]; split <;> omega)) ?_)
  go_wp2
  go_ret
  exact ⟨_, rfl, HFIN.out⟩
end Go.Proofs.Ytpfnpinoamjcjaa
