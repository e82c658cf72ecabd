/- What the laws lean on (own lemmas and walks of the called functions). -/
import Derived.StillTail
import Derived.OrdersIn
import Derived.RangeFuncCalls
import Derived.Deep.RegionHeld3
import Derived.KernelRfl
import Derived.Test.YtbbjpjkclealfaaRows
import Derived.WalkKit
import Derived.ProofKit
import Derived.OpenShut
import Derived.ShutString
import Derived.Below
import Derived.Outline
import Derived.WalkSpells
import Derived.WalkLawsBesides
import Derived.Deep.AppendLies
import Derived.StillTactics
import Derived.Laws.BytesArg
import Derived.Laws.OwnMore
import Derived.Maps.AppendAt
import Derived.Lib.Hide
import Derived.BigQuiet
import Derived.Deep.MidRow
import Derived.Laws.StructEq
import Derived.Deep.WholeRow
import Derived.Deep.QuietTactic
import Derived.RangeFuncBox
import Derived.Lib.SmallJoins
import Derived.Lib.Bytealg
import Derived.Lib.BufferWrite
import Derived.Lib.SlBuf
import Derived.Laws.CopyOwn
import Derived.Stop.BytesEq
import Derived.Maps.OwnSet
import Derived.Maps.Views
import Derived.DeepKeys4
import Derived.Deep.RegionLaw
import Derived.WideKeyEntry
import Derived.RangeFuncNested
import Derived.RangeFuncLeaves
import Derived.Shelf.Abstract
import Derived.OwnWalkIn
import Derived.TacticsInMore
import Derived.LoopNIn
import Derived.LoopIn
import Derived.OrdersHeld
import Derived.Deep.Quiet
import Derived.Maps.OwnIn
import Derived.Great.BuildSlice
import Derived.Deep.Upon
import Derived.Deep.DeepCutAuto
import Derived.Test.YtbbjpjkclealfaaShelf
import Derived.Lib.SortBridge
import Derived.Deep.SlicePairs
set_option linter.unusedVariables false
set_option linter.unusedSimpArgs false
namespace Go.Proofs.Ytbbjpjkclealfaa
open Go
section
variable {P : Program} {ops : Array Oper} {md : Region.Mode} {w : World}

def maskRows : List Bool → List Oper → List Oper
  | true :: m, o :: l => o :: maskRows m l
  | false :: m, _ :: l => maskRows m l
  | _, _ => []

end
end Go.Proofs.Ytbbjpjkclealfaa
namespace Go.Proofs.Ytbbjpjkclealfaa
open Go.ChangeShapes Go.WideShapes Go.ChangeAt Go.RowKit
set_option linter.unusedVariables false

theorem grown_of_below' {A B : World} (h : Below A.heap.size A B) (row : Option Nat) : A.grownBy B row := ⟨h.os, h.tape, h.output, h.size, fun k hk _ => h.block k hk⟩
theorem grown_trans {A B C : World} {row : Option Nat} (h : A.grownBy B row) (k : B.grownBy C row) : A.grownBy C row :=
  ⟨k.os.trans h.os, k.tape.trans h.tape, k.output.trans h.output, Nat.le_trans h.size k.size, fun j hj hr => (k.block j (Nat.lt_of_lt_of_le hj h.size) hr).trans (h.block j hj hr)⟩
end Go.Proofs.Ytbbjpjkclealfaa
namespace Go.Proofs.Ytbbjpjkclealfaa
open Go.ChangeShapes Go.WideShapes Go.ChangeAt Go.RowKit
set_option linter.unusedVariables false

abbrev K2 := Int × Int
def kv (k : K2) : Value := .agg #[.int .i64 k.1, .int .i64 k.2]
def keyOkB (k : K2) : Bool := (decide (1 ≤ k.1) && decide (k.1 ≤ 20)) && (decide (1 ≤ k.2) && decide (k.2 ≤ 99))
def aheadB (a b : K2) : Bool := if a.1 = b.1 then decide (a.2 < b.2) else decide (a.1 < b.1)
/-- the slice value v leads to the keys ks -/
def keysAt (w : World) (v : Value) (ks : List K2) : Prop :=
  ∃ a cap, v = .slice a ks.length cap ∧ ks.length ≤ cap ∧ (ks.length = 0 ∨ ∃ g off, a = some ⟨g, off, none⟩ ∧ g < w.heap.size ∧
    ∀ i, i < ks.length → w.cell? ⟨g, off + i * 2, none⟩ = some (.int .i64 (ks.getD i (0, 0)).1) ∧ w.cell? ⟨g, off + i * 2 + 1, none⟩ = some (.int .i64 (ks.getD i (0, 0)).2))
theorem keysAt_below {w w' : World} {v : Value} {ks : List K2} (h : keysAt w v ks) (hb : Below w.heap.size w w') : keysAt w' v ks := by
  obtain ⟨a, cap, h1, h2, h3⟩ := h
  refine ⟨a, cap, h1, h2, h3.imp_right ?_⟩
  rintro ⟨g, off, h4, h5, h6⟩
  refine ⟨g, off, h4, Nat.lt_of_lt_of_le h5 hb.size, fun i hi => ?_⟩
  rw [hb.cell (p := ⟨g, off + i * 2, none⟩) h5, hb.cell (p := ⟨g, off + i * 2 + 1, none⟩) h5]
  exact h6 i hi
end Go.Proofs.Ytbbjpjkclealfaa
namespace Go.Proofs.Ytbbjpjkclealfaa
open Go.ChangeShapes Go.WideShapes Go.ChangeAt Go.RowKit
set_option linter.unusedVariables false

theorem sin_any (x a b : Int) (w : World) : Calls Try.prog 100 #[.int .i64 x, .int .i64 a, .int .i64 b] w fun e w' => e = .returned (.bool (decide (a ≤ x) && decide (x ≤ b))) ∧ w' = w := by
  by_cases h1 : a ≤ x <;> by_cases h2 : x ≤ b
  all_goals
    go_enter Try.func100, Try.ntmps100
    go_wp2
    go_ret
    simp [h1, h2]
end Go.Proofs.Ytbbjpjkclealfaa
namespace Go.Proofs.Ytbbjpjkclealfaa
open Go.BigFrame Go.RowKit Go.ChangeShapes Go.WideShapes
section
variable {P : Program} {ops : Array Oper} {C : World → Prop} {Q : Act → Prop} {a : Act} {o : Oper} {rest : List Oper} {K : Act → Prop}
theorem q_load (ty : TypeId) (x : Operand) (p : Addr) (v : Value) (ho : o.op = .load ty x) (hx : a.eval x = .pointer (some p)) (hl : ∀ w, C w → (loadVar ty p).run P w = .ok v w) (hk : K (a.put o.dst v)) : o.quiet P a C K := by
  refine ⟨v, fun w hw => ?_, hk⟩
  unfold Oper.quietAt execOp
  simp only [ho, hx, Instr.loadAt, Instr.sureAddr, Sem.run_bind, Sem.run_pure, Result.andThen_ok, hl w hw]
  exact ⟨rfl, rfl⟩
theorem q_bin (op : BinOp) (t ty : TypeId) (x y : Operand) (u v z : Value) (ho : o.op = .binOp op t x y ty) (hx : a.eval x = u) (hy : a.eval y = v) (hg : ∀ w, (eqGuard op t x y u v).run P w = .ok () w) (hb : ∀ w, (binOp op t u v).run P w = .ok z w)
    (hk : K (a.put o.dst z)) : o.quiet P a C K := by
  refine ⟨z, fun w hw => ?_, hk⟩
  unfold Oper.quietAt execOp
  simp only [ho, hx, hy, Sem.run_bind, hg w, hb w, Result.andThen_ok, Sem.run_pure]
  exact ⟨rfl, rfl⟩
end
/-- the class: new blocks alone -/
theorem wp_region_below {P : Program} {id : Nat} {Q : Exit → Act → World → Prop} {a : Act} {w : World} {l : List Oper} (w0 : World) (hm : P.follows .mixedOrders = true) (hB : Region.lexB .any l.toArray = true) (h0 : Below w0.heap.size w0 w)
    (h : wpQuiet P l.toArray (fun w' => Below w0.heap.size w0 w') (fun a' => ∀ w', Below w0.heap.size w0 w' → Q .normal a' w') l a) : (Code.region id l.toArray true).wp P Q a w :=
  wp_region_quiet (C := fun w' => Below w0.heap.size w0 w') hm hB h0.drew (by simpa using h)
end Go.Proofs.Ytbbjpjkclealfaa
namespace Go.Proofs.Ytbbjpjkclealfaa
open Go.ChangeShapes Go.WideShapes Go.ChangeAt Go.RowKit Go.BigFrame
set_option linter.unusedVariables false

theorem skeyok_any (k : K2) (w : World) : Calls Try.prog 69 #[kv k] w fun e w' => e = .returned (.bool (keyOkB k)) ∧ Below w.heap.size w w' := by
  obtain ⟨n, s⟩ := k
  unfold keyOkB kv
  dsimp only
  have hb : ∀ o, Below w.heap.size w (w.alloc o) := fun o => (Below.refl _ _).alloc (Nat.le_refl _) _
  generalize hp : (decide (1 ≤ n) && decide (n ≤ 20)) = p
  generalize hq : (decide (1 ≤ s) && decide (s ≤ 99)) = q
  have H1 := fun w => sin_any n 1 20 w
  have H2 := fun w => sin_any s 1 99 w
  rw [hp] at H1; rw [hq] at H2
  clear hp hq
  go_enter Try.func69, Try.ntmps69
  cases p with
  | false =>
    go_wp2_with (go_at_call 100; refine (H1 _).mono ?_; rintro e w1 ⟨rfl, rfl⟩)
    go_ret
    exact ⟨by simp, hb _⟩
  | true =>
    go_wp2_with fail
    refine (H1 _).mono ?_
    rintro e w1 ⟨rfl, rfl⟩
    go_wp2_with fail
    refine (H2 _).mono ?_
    rintro e w1 ⟨rfl, rfl⟩
    go_wp2
    go_ret
    exact ⟨by simp, hb _⟩
theorem sahead_any (a b : K2) (w : World) : Calls Try.prog 94 #[kv a, kv b] w fun e w' => e = .returned (.bool (aheadB a b)) ∧ Below w.heap.size w w' := by
  obtain ⟨n, s⟩ := a
  obtain ⟨m, t⟩ := b
  have hb : ∀ o o', Below w.heap.size w ((w.alloc o).alloc o') := fun o o' => ((Below.refl _ _).alloc (Nat.le_refl _) _).alloc (by simp) _
  by_cases h : n = m
  · have ha : aheadB (n, s) (m, t) = decide (s < t) := by unfold aheadB; rw [if_pos h]
    rw [ha]
    unfold kv
    dsimp only
    subst h
    go_enter Try.func94, Try.ntmps94
    go_wp2
    go_ret
    exact ⟨rfl, hb _ _⟩
  · have ha : aheadB (n, s) (m, t) = decide (n < m) := by unfold aheadB; rw [if_neg h]
    rw [ha]
    unfold kv
    dsimp only
    go_enter Try.func94, Try.ntmps94
    go_wp2
    go_ret
    exact ⟨rfl, hb _ _⟩

theorem key_load {w : World} {g o : Nat} {k : K2} (hc : w.cell? ⟨g, o, none⟩ = some (.int .i64 k.1) ∧ w.cell? ⟨g, o + 1, none⟩ = some (.int .i64 k.2)) {w' : World} (hg : g < w.heap.size) (hb : Below w.heap.size w w') :
    (loadVar 41 ⟨g, o, none⟩).run Try.prog w' = .ok (kv k) w' := by
  refine run_loadVar_mid w' g o 41 [.int .i64 k.1, .int .i64 k.2] _ (fun j v hj => ?_) Try.underlying41 rfl (by kernel_rfl)
  have hj2 : j < 2 := by have := (List.getElem?_eq_some_iff.1 hj).1; simpa using this
  rcases (by omega : j = 0 ∨ j = 1) with rfl | rfl
  · rw [hb.cell (p := ⟨g, o + 0, none⟩) hg]
    simpa using hc.1.trans (by simpa using hj)
  · rw [hb.cell (p := ⟨g, o + 1, none⟩) hg]
    simpa using hc.2.trans (by simpa using hj)
end Go.Proofs.Ytbbjpjkclealfaa
namespace Go.Proofs.Ytbbjpjkclealfaa
open Go.ChangeShapes Go.WideShapes Go.ChangeAt Go.RowKit Go.BigFrame
set_option linter.unusedVariables false
theorem key_equal (p q : K2) (w : World) : (Op.equalIn 10000 41 (kv p) (kv q)).run Try.prog w = .ok (p == q) w := by
  obtain ⟨a, b⟩ := p; obtain ⟨c, d⟩ := q
  have u3 := Try.underlying3
  have hS : Try.prog.underlying 41 = some (.struct (Try.prog.fieldsOf 41)) := by kernel_rfl
  unfold kv
  rw [show (10000 : Nat) = 9999 + 1 from rfl, run_equalIn_agg w 9999 41 _ _ hS (by kernel_rfl)]
  simp only [Program.fieldsOf, Try.underlying41]
  go_simp
  by_cases h1 : a = c <;> by_cases h2 : b = d <;> simp [h1, h2]
theorem key_eql (p q : K2) (w : World) : (binOp .eql 41 (kv p) (kv q)).run Try.prog w = .ok (.bool (p == q)) w := by
  have := key_equal p q w
  unfold kv at *
  rw [run_eql_struct, this]; rfl
theorem key_neq (p q : K2) (w : World) : (binOp .neq 41 (kv p) (kv q)).run Try.prog w = .ok (.bool (!(p == q))) w := by
  have := key_equal p q w
  unfold kv at *
  rw [run_neq_struct, this]; rfl
theorem key_guard (op : BinOp) (x y : Operand) (p q : K2) (w : World) : (eqGuard op 41 x y (kv p) (kv q)).run Try.prog w = .ok () w := by
  unfold kv
  exact run_eqGuard_agg w op 41 x y _ _ (by kernel_rfl)
end Go.Proofs.Ytbbjpjkclealfaa
namespace Go.Proofs.Ytbbjpjkclealfaa
open Go.ChangeShapes Go.WideShapes Go.ChangeAt Go.RowKit Go.BigFrame
set_option linter.unusedVariables false

theorem infoK : (Try.prog.info? 41).map (fun i => (i.zero, i.size, i.bytes)) = some (some (.agg #[.int .i64 0, .int .i64 0]), 2, 16) := by kernel_rfl
def keyCells (ks : List K2) : List Value := ks.flatMap fun k => [.int .i64 k.1, .int .i64 k.2]
theorem keyCells_len : ∀ ks : List K2, (keyCells ks).length = ks.length * 2
  | [] => rfl
  | k :: r => by
    have := keyCells_len r
    simp only [keyCells, List.flatMap_cons, List.length_append, List.length_cons, List.length_nil] at *
    omega
theorem keyCells_snoc (ks : List K2) (k : K2) : keyCells (ks ++ [k]) = keyCells ks ++ [.int .i64 k.1, .int .i64 k.2] := by simp [keyCells]
theorem keyCells_get : ∀ (ks : List K2) (i : Nat), i < ks.length → (keyCells ks)[i * 2]? = some (.int .i64 (ks.getD i (0, 0)).1) ∧ (keyCells ks)[i * 2 + 1]? = some (.int .i64 (ks.getD i (0, 0)).2)
  | [], _, h => by simp at h
  | k :: r, 0, _ => by simp [keyCells]
  | k :: r, i + 1, h => by
    have ih := keyCells_get r i (by simpa using h)
    have e1 : (i + 1) * 2 = i * 2 + 1 + 1 := by omega
    have e2 : (i + 1) * 2 + 1 = i * 2 + 1 + 1 + 1 := by omega
    rw [e1]
    simp only [keyCells, List.flatMap_cons, List.cons_append, List.nil_append, List.getElem?_cons_succ, List.getD_cons_succ] at *
    exact ih
/-- what is owned leads to its keys -/
theorem keysAt_own {w : World} {base : Nat} {v : Value} {ks : List K2} (h : w.ownsRow base 41 2 v ks.length (keyCells ks)) : keysAt w v ks := by
  rcases h.2 with ⟨rfl, h0⟩ | ⟨g, cap, cur, rfl, hb, hg, hn, hm, hs, ht⟩
  · exact ⟨none, 0, by rw [h0], by omega, .inl h0⟩
  · refine ⟨_, cap, rfl, hn, .inr ⟨g, 0, rfl, (Array.getElem?_eq_some_iff.1 hg).1, fun i hi => ?_⟩⟩
    have hc := keyCells_get ks i hi
    rw [Nat.zero_add, h.cellAt (i * 2) (by omega), h.cellAt (i * 2 + 1) (by omega)]
    exact hc
theorem own_below {w w' : World} {base n : Nat} {e : TypeId} {size : Nat} {v : Value} {xs : List Value} (h : w.ownsRow base e size v n xs) (hb : Below w.heap.size w w') : w'.ownsRow base e size v n xs :=
  h.kept (grown_of_below' hb none) (by cases hv : v.ownBlock <;> simp)

def mergeL (both : Bool) : List K2 → List K2 → List K2
  | a, [] => a
  | [], b => b
  | x :: a, y :: b => if aheadB x y then x :: mergeL both a (y :: b) else if aheadB y x then y :: mergeL both (x :: a) b else (if both then [x] else []) ++ mergeL both a b
termination_by a b => a.length + b.length
theorem mergeL_nil_r (both : Bool) (a : List K2) : mergeL both a [] = a := by unfold mergeL; cases a <;> rfl
theorem mergeL_nil_l (both : Bool) (b : List K2) : mergeL both [] b = b := by cases b <;> simp [mergeL]
theorem mergeL_cons (both : Bool) (x : K2) (a : List K2) (y : K2) (b : List K2) : mergeL both (x :: a) (y :: b) =
    if aheadB x y then x :: mergeL both a (y :: b) else if aheadB y x then y :: mergeL both (x :: a) b else (if both then [x] else []) ++ mergeL both a b := by rw [mergeL]
theorem mergeL_len (both : Bool) : ∀ (a b : List K2), (mergeL both a b).length ≤ a.length + b.length
  | a, [] => by rw [mergeL_nil_r]; simp
  | [], b => by rw [mergeL_nil_l]; simp
  | x :: a, y :: b => by
    rw [mergeL_cons]
    split
    · have := mergeL_len both a (y :: b); simp only [List.length_cons] at *; omega
    · split
      · have := mergeL_len both (x :: a) b; simp only [List.length_cons] at *; omega
      · have := mergeL_len both a b
        cases both <;> simp only [List.length_append, List.length_cons, List.length_nil, if_true, Bool.false_eq_true, if_false] at * <;> omega
termination_by a b => a.length + b.length
theorem drop_at (a : List K2) (i : Nat) (h : i < a.length) : a.drop i = a.getD i (0, 0) :: a.drop (i + 1) := by
  rw [List.drop_eq_getElem_cons h]
  simp [List.getD, h]
end Go.Proofs.Ytbbjpjkclealfaa
namespace Go.Proofs.Ytbbjpjkclealfaa

def stepB (ks : List K2) (i : Nat) : Bool := keyOkB (ks.getD i (0, 0)) && (decide (i = 0) || aheadB (ks.getD (i - 1) (0, 0)) (ks.getD i (0, 0)))
def keysOkR (ks : List K2) : Bool := (List.range ks.length).all (stepB ks)
theorem stepB_false {ks : List K2} {k : Nat} (hk : k < ks.length) (h : stepB ks k = false) : keysOkR ks = false := by
  unfold keysOkR
  rw [List.all_eq_false]
  exact ⟨k, List.mem_range.2 hk, by simp [h]⟩
theorem keysR_succ (ks : List K2) (k : Nat) : (List.range (k + 1)).all (stepB ks) = ((List.range k).all (stepB ks) && stepB ks k) := by
  rw [List.range_succ, List.all_append]
  simp
end Go.Proofs.Ytbbjpjkclealfaa
namespace Go.Proofs.Ytbbjpjkclealfaa

theorem ahead_iff (a b : K2) : aheadB a b = true ↔ (a.1 < b.1 ∨ (a.1 = b.1 ∧ a.2 < b.2)) := by
  unfold aheadB
  by_cases h : a.1 = b.1
  · rw [if_pos h]; simp; omega
  · rw [if_neg h]; simp; omega
theorem ahead_irrefl (a : K2) : aheadB a a = false := by
  cases h : aheadB a a with
  | false => rfl
  | true => rw [ahead_iff] at h; omega
theorem ahead_trans {a b c : K2} (h1 : aheadB a b = true) (h2 : aheadB b c = true) : aheadB a c = true := by
  rw [ahead_iff] at *; omega
theorem ahead_asymm {a b : K2} (h1 : aheadB a b = true) : aheadB b a = false := by
  cases h : aheadB b a with
  | false => rfl
  | true => rw [ahead_iff] at *; omega
theorem ahead_total {a b : K2} (h1 : aheadB a b = false) (h2 : aheadB b a = false) : a = b := by
  have n1 : ¬ aheadB a b = true := by rw [h1]; exact Bool.false_ne_true
  have n2 : ¬ aheadB b a = true := by rw [h2]; exact Bool.false_ne_true
  rw [ahead_iff] at n1 n2
  obtain ⟨x, y⟩ := a; obtain ⟨z, u⟩ := b
  simp only at n1 n2
  have e1 : x = z := by omega
  have e2 : y = u := by omega
  rw [e1, e2]
def Rising (l : List K2) : Prop := l.Pairwise fun a b => aheadB a b = true
theorem keysR_iff (ks : List K2) : keysOkR ks = true ↔ (∀ k ∈ ks, keyOkB k = true) ∧ Rising ks := by
  unfold keysOkR
  rw [List.all_eq_true]
  constructor
  · intro h
    have hs : ∀ i, i < ks.length → keyOkB (ks.getD i (0, 0)) = true ∧ (i = 0 ∨ aheadB (ks.getD (i - 1) (0, 0)) (ks.getD i (0, 0)) = true) := by
      intro i hi
      have := h i (List.mem_range.2 hi)
      simpa [stepB] using this
    refine ⟨fun k hk => ?_, ?_⟩
    · obtain ⟨i, hi, rfl⟩ := List.getElem_of_mem hk
      have := (hs i hi).1
      simpa [List.getD, hi] using this
    · have hd : ∀ d i, i + d + 1 < ks.length → aheadB (ks.getD i (0, 0)) (ks.getD (i + d + 1) (0, 0)) = true := by
        intro d
        induction d with
        | zero =>
          intro i hi
          have := (hs (i + 1) (by omega)).2.resolve_left (by omega)
          simpa using this
        | succ d ih =>
          intro i hi
          have h1 := ih i (by omega)
          have h2 := (hs (i + (d + 1) + 1) hi).2.resolve_left (by omega)
          rw [show i + (d + 1) + 1 - 1 = i + d + 1 by omega] at h2
          exact ahead_trans h1 h2
      unfold Rising
      rw [List.pairwise_iff_getElem]
      intro i j hi hj hij
      have := hd (j - i - 1) i (by omega)
      rw [show i + (j - i - 1) + 1 = j by omega] at this
      simpa [List.getD, hi, hj] using this
  · rintro ⟨h1, h2⟩ i hi
    have hi2 := List.mem_range.1 hi
    unfold stepB
    have e : ks.getD i (0, 0) = ks[i] := by simp [List.getD, hi2]
    rw [e, h1 _ (List.getElem_mem hi2)]
    by_cases h0 : i = 0
    · simp [h0]
    · have e2 : ks.getD (i - 1) (0, 0) = ks[i - 1] := by simp [List.getD, show i - 1 < ks.length by omega]
      rw [e2]
      unfold Rising at h2
      rw [List.pairwise_iff_getElem] at h2
      simp [h2 (i - 1) i (by omega) hi2 (by omega)]
/-- of two rising lists of the same keys one is the other -/
theorem rising_ext : ∀ (a b : List K2), Rising a → Rising b → (∀ k, k ∈ a ↔ k ∈ b) → a = b
  | [], [], _, _, _ => rfl
  | [], y :: b, _, _, h => by have := (h y).2 (by simp); simp at this
  | x :: a, [], _, _, h => by have := (h x).1 (by simp); simp at this
  | x :: a, y :: b, ha, hb, h => by
    have ha' := List.pairwise_cons.1 ha
    have hb' := List.pairwise_cons.1 hb
    have hxy : x = y := by
      rcases List.mem_cons.1 ((h x).1 (by simp)) with h1 | h1
      · exact h1
      · rcases List.mem_cons.1 ((h y).2 (by simp)) with h2 | h2
        · exact h2.symm
        · have e1 := hb'.1 x h1
          have e2 := ha'.1 y h2
          rw [ahead_asymm e1] at e2; cases e2
    subst hxy
    congr 1
    refine rising_ext a b ha'.2 hb'.2 fun k => ⟨fun hk => ?_, fun hk => ?_⟩
    · rcases List.mem_cons.1 ((h k).1 (by simp [hk])) with h1 | h1
      · subst h1
        have := ha'.1 k hk
        rw [ahead_irrefl] at this; cases this
      · exact h1
    · rcases List.mem_cons.1 ((h k).2 (by simp [hk])) with h1 | h1
      · subst h1
        have := hb'.1 k hk
        rw [ahead_irrefl] at this; cases this
      · exact h1
/-- what merging makes: rising, and of which keys -/
theorem merge_spec (both : Bool) : ∀ (a b : List K2), Rising a → Rising b → Rising (mergeL both a b) ∧ ∀ k, k ∈ mergeL both a b ↔ ((k ∈ a ∨ k ∈ b) ∧ (both = true ∨ ¬ (k ∈ a ∧ k ∈ b)))
  | a, [], ha, _ => by rw [mergeL_nil_r]; exact ⟨ha, fun k => by simp⟩
  | [], b, _, hb => by rw [mergeL_nil_l]; exact ⟨hb, fun k => by simp⟩
  | x :: a, y :: b, ha, hb => by
    have ha' := List.pairwise_cons.1 ha
    have hb' := List.pairwise_cons.1 hb
    rw [mergeL_cons]
    have nxa : x ∉ a := fun h => by have := ha'.1 x h; rw [ahead_irrefl] at this; cases this
    have nyb : y ∉ b := fun h => by have := hb'.1 y h; rw [ahead_irrefl] at this; cases this
    by_cases hxy : aheadB x y = true
    · rw [if_pos hxy]
      obtain ⟨r1, r2⟩ := merge_spec both a (y :: b) ha'.2 hb
      have hlow : ∀ z, z ∈ y :: b → aheadB x z = true := by
        intro z hz
        rcases List.mem_cons.1 hz with rfl | h
        · exact hxy
        · exact ahead_trans hxy (hb'.1 z h)
      have nxb : x ∉ y :: b := fun h => by have := hlow x h; rw [ahead_irrefl] at this; cases this
      refine ⟨List.pairwise_cons.2 ⟨fun z hz => ?_, r1⟩, fun k => ?_⟩
      · rcases ((r2 z).1 hz).1 with h | h
        · exact ha'.1 z h
        · exact hlow z h
      · rw [List.mem_cons, r2 k]
        by_cases hk : k = x
        · subst hk
          simp [nxb]
        · simp [hk]
    · rw [if_neg hxy]
      by_cases hyx : aheadB y x = true
      · rw [if_pos hyx]
        obtain ⟨r1, r2⟩ := merge_spec both (x :: a) b ha hb'.2
        have hlow : ∀ z, z ∈ x :: a → aheadB y z = true := by
          intro z hz
          rcases List.mem_cons.1 hz with rfl | h
          · exact hyx
          · exact ahead_trans hyx (ha'.1 z h)
        have nya : y ∉ x :: a := fun h => by have := hlow y h; rw [ahead_irrefl] at this; cases this
        refine ⟨List.pairwise_cons.2 ⟨fun z hz => ?_, r1⟩, fun k => ?_⟩
        · rcases ((r2 z).1 hz).1 with h | h
          · exact hlow z h
          · exact hb'.1 z h
        · rw [List.mem_cons, r2 k]
          by_cases hk : k = y
          · subst hk
            simp [nya]
          · simp [hk]
      · rw [if_neg hyx]
        have e := ahead_total (Bool.eq_false_iff.2 hxy) (Bool.eq_false_iff.2 hyx)
        subst e
        obtain ⟨r1, r2⟩ := merge_spec both a b ha'.2 hb'.2
        cases both with
        | true =>
          rw [if_pos rfl]
          refine ⟨List.pairwise_cons.2 ⟨fun z hz => ?_, r1⟩, fun k => ?_⟩
          · rcases ((r2 z).1 hz).1 with h | h
            · exact ha'.1 z h
            · exact hb'.1 z h
          · show k ∈ x :: mergeL true a b ↔ _
            rw [List.mem_cons, r2 k]
            by_cases hk : k = x <;> simp [hk]
        | false =>
          rw [if_neg (by decide), List.nil_append]
          refine ⟨r1, fun k => ?_⟩
          rw [r2 k]
          by_cases hk : k = x
          · subst hk
            simp [nxa, nyb]
          · simp [hk]
termination_by a b => a.length + b.length
theorem merge_ok (both : Bool) (a b : List K2) (ha : keysOkR a = true) (hb : keysOkR b = true) : keysOkR (mergeL both a b) = true := by
  rw [keysR_iff] at *
  obtain ⟨r1, r2⟩ := merge_spec both a b ha.2 hb.2
  refine ⟨fun k hk => ?_, r1⟩
  rcases ((r2 k).1 hk).1 with h | h
  · exact ha.1 k h
  · exact hb.1 k h
theorem merge_mem {both : Bool} {a b : List K2} (ha : keysOkR a = true) (hb : keysOkR b = true) (k : K2) : k ∈ mergeL both a b ↔ ((k ∈ a ∨ k ∈ b) ∧ (both = true ∨ ¬ (k ∈ a ∧ k ∈ b))) :=
  (merge_spec both a b ((keysR_iff a).1 ha).2 ((keysR_iff b).1 hb).2).2 k
end Go.Proofs.Ytbbjpjkclealfaa
namespace Go.Proofs.Ytbbjpjkclealfaa
open Go

def mergeV (both : Bool) (a b : List K2) : List K2 := if keysOkR a && keysOkR b then mergeL both a b else []
def hasKeyB (ks : List K2) (k : K2) : Bool := ks.any fun x => x == k
end Go.Proofs.Ytbbjpjkclealfaa
namespace Go.Proofs.Ytbbjpjkclealfaa
set_option linter.unusedVariables false
set_option linter.unusedSimpArgs false

/-- what adds up, each with itself to nothing -/
structure Grp (V : Type) where
  add : V → V → V
  zero : V
  comm : ∀ x y, add x y = add y x
  assoc : ∀ x y z, add (add x y) z = add x (add y z)
  self : ∀ x, add x x = zero
  zl : ∀ x, add zero x = x
namespace Grp
variable {V : Type} (G : Grp V)
theorem zr (x : V) : G.add x G.zero = x := by rw [G.comm, G.zl]
theorem back (x y : V) : G.add x (G.add x y) = y := by rw [← G.assoc, G.self, G.zl]
theorem left (x y z : V) : G.add x (G.add y z) = G.add y (G.add x z) := by rw [← G.assoc, G.comm x y, G.assoc]
end Grp
inductive Span {V : Type} (G : Grp V) (S : V → Prop) : V → Prop
  | zero : Span G S G.zero
  | step {x y : V} : S x → Span G S y → Span G S (G.add x y)
namespace Span
variable {V : Type} {G : Grp V} {S T : V → Prop}
theorem of {x : V} (h : S x) : Span G S x := by have := Span.step (G := G) h .zero; rwa [G.zr] at this
theorem plus {x y : V} (hx : Span G S x) (hy : Span G S y) : Span G S (G.add x y) := by
  induction hx with
  | zero => rwa [G.zl]
  | step h _ ih => rw [G.assoc]; exact .step h ih
theorem le (h : ∀ x, S x → Span G T x) {y : V} (hy : Span G S y) : Span G T y := by
  induction hy with
  | zero => exact .zero
  | step h1 _ ih => exact (h _ h1).plus ih
theorem mono (h : ∀ x, S x → T x) {y : V} (hy : Span G S y) : Span G T y := hy.le fun x hx => .of (h x hx)
theorem only {f : V → Bool} (h0 : f G.zero = false) (hf : ∀ x y, f (G.add x y) = (f x != f y)) (h : ∀ x, S x → f x = false) {y : V} (hy : Span G S y) : f y = false := by
  induction hy with
  | zero => exact h0
  | step h1 _ ih => rw [hf, h _ h1, ih]; rfl
end Span
end Go.Proofs.Ytbbjpjkclealfaa
namespace Go.Proofs.Ytbbjpjkclealfaa
set_option linter.unusedVariables false
set_option linter.unusedSimpArgs false

theorem nodup_le {K : Type} [DecidableEq K] : ∀ (l m : List K), l.Nodup → (∀ x ∈ l, x ∈ m) → l.length ≤ m.length
  | [], m, _, _ => by simp
  | a :: l, m, h, hm => by
    obtain ⟨h1, h2⟩ := List.nodup_cons.1 h
    have ha := hm a (List.mem_cons_self ..)
    have ih := nodup_le l (m.erase a) h2 fun x hx => (List.mem_erase_of_ne (fun e => h1 (by rw [← e]; exact hx))).2 (hm x (List.mem_cons_of_mem _ hx))
    rw [List.length_erase_of_mem ha] at ih
    have := List.length_pos_of_mem ha
    simp only [List.length_cons]
    omega
end Go.Proofs.Ytbbjpjkclealfaa
namespace Go.Proofs.Ytbbjpjkclealfaa
open Go
set_option linter.unusedVariables false
set_option linter.unusedSimpArgs false

abbrev S2 := K2 × K2
def setOkB (s : S2) : Bool := keyOkB s.1 && keyOkB s.2
inductive Rch (S : List S2) (K : List K2) : K2 → Prop
  | known {k : K2} (h : k ∈ K) : Rch S K k
  | left {s : S2} (hs : s ∈ S) (h : Rch S K s.1) : Rch S K s.2
  | right {s : S2} (hs : s ∈ S) (h : Rch S K s.2) : Rch S K s.1
def clGood (S : List S2) (K : List K2) : Bool := keysOkR K && S.all setOkB
structure IsCl (S : List S2) (K M : List K2) : Prop where
  bad : clGood S K = false → M = []
  ok : clGood S K = true → keysOkR M = true ∧ ∀ k, k ∈ M ↔ Rch S K k
theorem IsCl.one {S : List S2} {K M N : List K2} (h : IsCl S K M) (h' : IsCl S K N) : M = N := by
  cases hg : clGood S K with
  | false => rw [h.bad hg, h'.bad hg]
  | true =>
    obtain ⟨h1, h2⟩ := h.ok hg
    obtain ⟨h3, h4⟩ := h'.ok hg
    exact rising_ext _ _ ((keysR_iff _).1 h1).2 ((keysR_iff _).1 h3).2 fun k => (h2 k).trans (h4 k).symm
theorem setsOk_mem {S : List S2} (h : S.all setOkB = true) {s : S2} (hs : s ∈ S) : keyOkB s.1 = true ∧ keyOkB s.2 = true := by
  have := List.all_eq_true.1 h s hs
  unfold setOkB at this
  simpa using this
theorem Rch.ok {S : List S2} {K : List K2} (hK : keysOkR K = true) (hS : S.all setOkB = true) {k : K2} (h : Rch S K k) : keyOkB k = true := by
  cases h with
  | known h => exact ((keysR_iff _).1 hK).1 _ h
  | left hs _ => exact (setsOk_mem hS hs).2
  | right hs _ => exact (setsOk_mem hS hs).1
/-- the model's list on its way -/
structure ClW (S : List S2) (K M : List K2) : Prop where
  ok : keysOkR M = true
  sub : ∀ k ∈ K, k ∈ M
  rch : ∀ k ∈ M, Rch S K k
theorem ClW.start {S : List S2} {K : List K2} (h : keysOkR K = true) : ClW S K K := ⟨h, fun k hk => hk, fun k hk => .known hk⟩
theorem keysOk_single {k : K2} (h : keyOkB k = true) : keysOkR [k] = true := (keysR_iff _).2 ⟨fun x hx => by rw [List.mem_singleton.1 hx]; exact h, List.pairwise_singleton ..⟩
theorem mergeV_one {M : List K2} {k : K2} (hM : keysOkR M = true) (hk : keyOkB k = true) : keysOkR (mergeV true M [k]) = true ∧ ∀ x, x ∈ mergeV true M [k] ↔ x ∈ M ∨ x = k := by
  have h1 := keysOk_single hk
  unfold mergeV
  rw [hM, h1]
  refine ⟨merge_ok true _ _ hM h1, fun x => ?_⟩
  show x ∈ mergeL true M [k] ↔ _
  rw [merge_mem hM h1]
  simp
theorem rising_nodup {M : List K2} (h : keysOkR M = true) : M.Nodup := by
  refine List.Pairwise.imp (fun {a b} hab e => ?_) ((keysR_iff _).1 h).2
  subst e
  rw [ahead_irrefl] at hab; cases hab
/-- a step: of a set just one key is there: both are there then -/
theorem ClW.step {S : List S2} {K M : List K2} (h : ClW S K M) {s : S2} (hs : s ∈ S) (hS : S.all setOkB = true) (hne : hasKeyB M s.1 ≠ hasKeyB M s.2) :
    ClW S K (mergeV true (mergeV true M [s.1]) [s.2]) ∧ M.length < (mergeV true (mergeV true M [s.1]) [s.2]).length ∧ ∀ x ∈ M, x ∈ mergeV true (mergeV true M [s.1]) [s.2] := by
  obtain ⟨ha, hb⟩ := setsOk_mem hS hs
  obtain ⟨h1, h2⟩ := mergeV_one h.ok ha
  obtain ⟨h3, h4⟩ := mergeV_one h1 hb
  have hmem : ∀ x, x ∈ mergeV true (mergeV true M [s.1]) [s.2] ↔ (x ∈ M ∨ x = s.1) ∨ x = s.2 := fun x => by rw [h4, h2]
  have hhas : ∀ k, hasKeyB M k = decide (k ∈ M) := fun k => by
    unfold hasKeyB
    rw [Bool.eq_iff_iff, List.any_eq_true, decide_eq_true_eq]
    exact ⟨fun ⟨x, hx, e⟩ => by rw [← eq_of_beq e]; exact hx, fun hk => ⟨k, hk, by simp⟩⟩
  rw [hhas, hhas] at hne
  have hboth : Rch S K s.1 ∧ Rch S K s.2 := by
    by_cases m1 : s.1 ∈ M
    · exact ⟨h.rch _ m1, .left hs (h.rch _ m1)⟩
    · by_cases m2 : s.2 ∈ M
      · exact ⟨.right hs (h.rch _ m2), h.rch _ m2⟩
      · exact absurd (by rw [decide_eq_false m1, decide_eq_false m2]) hne
  refine ⟨⟨h3, fun k hk => (hmem k).2 (.inl (.inl (h.sub k hk))), fun k hk => ?_⟩, ?_, fun x hx => (hmem x).2 (.inl (.inl hx))⟩
  · rcases (hmem k).1 hk with (hk | rfl) | rfl
    · exact h.rch k hk
    · exact hboth.1
    · exact hboth.2
  · have hex : ∃ y, y ∉ M ∧ (y = s.1 ∨ y = s.2) := by
      by_cases m1 : s.1 ∈ M
      · by_cases m2 : s.2 ∈ M
        · exact absurd (by rw [decide_eq_true m1, decide_eq_true m2]) hne
        · exact ⟨_, m2, .inr rfl⟩
      · exact ⟨_, m1, .inl rfl⟩
    obtain ⟨y, hy, hy2⟩ := hex
    have := nodup_le (y :: M) (mergeV true (mergeV true M [s.1]) [s.2]) (List.nodup_cons.2 ⟨hy, rising_nodup h.ok⟩) (fun x hx => by
      rcases List.mem_cons.1 hx with rfl | hx
      · rcases hy2 with rfl | rfl
        · exact (hmem _).2 (.inl (.inr rfl))
        · exact (hmem _).2 (.inr rfl)
      · exact (hmem _).2 (.inl (.inl hx)))
    exact Nat.lt_of_succ_le (by simpa using this)
theorem ClW.end {S : List S2} {K M : List K2} (h : ClW S K M) (hg : clGood S K = true) (hc : ∀ s ∈ S, hasKeyB M s.1 = hasKeyB M s.2 ∨ s.1 = s.2) : IsCl S K M := by
  have hhas : ∀ k, hasKeyB M k = decide (k ∈ M) := fun k => by
    unfold hasKeyB
    rw [Bool.eq_iff_iff, List.any_eq_true, decide_eq_true_eq]
    exact ⟨fun ⟨x, hx, e⟩ => by rw [← eq_of_beq e]; exact hx, fun hk => ⟨k, hk, by simp⟩⟩
  have hc2 : ∀ s ∈ S, s.1 ∈ M ↔ s.2 ∈ M := by
    intro s hs
    rcases hc s hs with e | e
    · rw [hhas, hhas] at e
      have := Bool.eq_iff_iff.1 e
      simpa using this
    · rw [e]
  refine ⟨fun hb => (by rw [hg] at hb; cases hb), fun _ => ⟨h.ok, fun k => ⟨h.rch k, fun hr => ?_⟩⟩⟩
  induction hr with
  | known h1 => exact h.sub _ h1
  | left hs _ ih => exact (hc2 _ hs).1 ih
  | right hs _ ih => exact (hc2 _ hs).2 ih
/-! the program's way: those that come, one after another -/
/-- those that stand in a set with a key, in order -/
def othersM (S : List S2) (k : K2) : List K2 := S.flatMap fun s => (if s.1 = k then [s.2] else []) ++ (if s.2 = k then [s.1] else [])
theorem others_snoc (S : List S2) (s : S2) (k : K2) : othersM (S ++ [s]) k = (othersM S k ++ (if s.1 = k then [s.2] else [])) ++ (if s.2 = k then [s.1] else []) := by
  unfold othersM
  rw [List.flatMap_append]
  simp
theorem others_len (S : List S2) (k : K2) : (othersM S k).length ≤ 2 * S.length := by
  induction S with
  | nil => simp [othersM]
  | cons s S ih =>
    have e : othersM (s :: S) k = ((if s.1 = k then [s.2] else []) ++ (if s.2 = k then [s.1] else [])) ++ othersM S k := by simp [othersM]
    rw [e, List.length_append, List.length_append, List.length_cons]
    have h1 : (if s.1 = k then [s.2] else []).length ≤ 1 := by split <;> simp
    have h2 : (if s.2 = k then [s.1] else []).length ≤ 1 := by split <;> simp
    omega
theorem others_mem (S : List S2) (k b : K2) : b ∈ othersM S k ↔ ∃ s ∈ S, (s.1 = k ∧ s.2 = b) ∨ (s.2 = k ∧ s.1 = b) := by
  unfold othersM
  rw [List.mem_flatMap]
  constructor
  · rintro ⟨s, hs, hb⟩
    refine ⟨s, hs, ?_⟩
    rcases List.mem_append.1 hb with hb | hb
    · split at hb
      · rename_i e; exact .inl ⟨e, (List.mem_singleton.1 hb).symm⟩
      · cases hb
    · split at hb
      · rename_i e; exact .inr ⟨e, (List.mem_singleton.1 hb).symm⟩
      · cases hb
  · rintro ⟨s, hs, (⟨e1, e2⟩ | ⟨e1, e2⟩)⟩
    · exact ⟨s, hs, List.mem_append_left _ (by rw [if_pos e1, e2]; simp)⟩
    · exact ⟨s, hs, List.mem_append_right _ (by rw [if_pos e1, e2]; simp)⟩
/-- L: those that are in, C: those that come -/
structure ClI (S : List S2) (K L C : List K2) : Prop where
  nodup : L.Nodup
  rch : ∀ k, k ∈ L ∨ k ∈ C → Rch S K k
  sub : ∀ k ∈ K, k ∈ L ∨ k ∈ C
  out : ∀ k ∈ L, ∀ b ∈ othersM S k, b ∈ L ∨ b ∈ C
  len : C.length ≤ K.length + 2 * S.length * L.length
theorem ClI.start (S : List S2) (K : List K2) : ClI S K [] K :=
  ⟨List.nodup_nil, fun k h => .known (by simpa using h), fun k h => .inr h, fun k h => (by cases h), by simp⟩
theorem ClI.skip {S : List S2} {K L C : List K2} {k : K2} (h : ClI S K L (k :: C)) (hk : k ∈ L) : ClI S K L C := by
  have hm : ∀ x, x ∈ L ∨ x ∈ k :: C → x ∈ L ∨ x ∈ C := by
    rintro x (hx | hx)
    · exact .inl hx
    · rcases List.mem_cons.1 hx with rfl | hx
      · exact .inl hk
      · exact .inr hx
  exact ⟨h.nodup, fun x hx => h.rch x (hx.imp_right (List.mem_cons_of_mem _)), fun x hx => hm x (h.sub x hx), fun x hx b hb => hm b (h.out x hx b hb), by have := h.len; simp at this; omega⟩
theorem ClI.take {S : List S2} {K L C : List K2} {k : K2} (h : ClI S K L (k :: C)) (hk : k ∉ L) : ClI S K (L ++ [k]) (C ++ othersM S k) := by
  have hm : ∀ x, x ∈ L ∨ x ∈ k :: C → x ∈ L ++ [k] ∨ x ∈ C ++ othersM S k := by
    rintro x (hx | hx)
    · exact .inl (List.mem_append_left _ hx)
    · rcases List.mem_cons.1 hx with rfl | hx
      · exact .inl (by simp)
      · exact .inr (List.mem_append_left _ hx)
  have hkr : Rch S K k := h.rch k (.inr (by simp))
  refine ⟨List.nodup_append.2 ⟨h.nodup, by simp, fun a ha b hb e => ?_⟩, fun x hx => ?_, fun x hx => hm x (h.sub x hx), fun x hx b hb => ?_, ?_⟩
  · rw [List.mem_singleton.1 hb] at e; subst e; exact hk ha
  · rcases hx with hx | hx
    · rcases List.mem_append.1 hx with hx | hx
      · exact h.rch x (.inl hx)
      · rw [List.mem_singleton.1 hx]; exact hkr
    · rcases List.mem_append.1 hx with hx | hx
      · exact h.rch x (.inr (List.mem_cons_of_mem _ hx))
      · obtain ⟨s, hs, (⟨e1, e2⟩ | ⟨e1, e2⟩)⟩ := (others_mem S k x).1 hx
        · rw [← e2]; exact .left hs (by rw [e1]; exact hkr)
        · rw [← e2]; exact .right hs (by rw [e1]; exact hkr)
  · rcases List.mem_append.1 hx with hx | hx
    · exact hm b (h.out x hx b hb)
    · rw [List.mem_singleton.1 hx] at hb
      exact .inr (List.mem_append_right _ hb)
  · have h1 := h.len
    have h2 := others_len S k
    rw [List.length_cons] at h1
    rw [List.length_append, List.length_append, List.length_singleton, Nat.mul_succ]
    omega
theorem ClI.end {S : List S2} {K L : List K2} (h : ClI S K L []) (k : K2) : k ∈ L ↔ Rch S K k := by
  constructor
  · exact fun hk => h.rch k (.inl hk)
  · intro hr
    induction hr with
    | known h1 => rcases h.sub _ h1 with h2 | h2; exact h2; cases h2
    | left hs _ ih => rcases h.out _ ih _ ((others_mem _ _ _).2 ⟨_, hs, .inl ⟨rfl, rfl⟩⟩) with h2 | h2; exact h2; cases h2
    | right hs _ ih => rcases h.out _ ih _ ((others_mem _ _ _).2 ⟨_, hs, .inr ⟨rfl, rfl⟩⟩) with h2 | h2; exact h2; cases h2
end Go.Proofs.Ytbbjpjkclealfaa
namespace Go.Proofs.Ytbbjpjkclealfaa
open Go.ChangeShapes Go.WideShapes Go.ChangeAt Go.RowKit
set_option linter.unusedVariables false
theorem results_cell {fn : Func} {p : Tmp} {ty : TypeId} (h : fn.results = #[.cell p ty]) (tmps : Array Value) (P : Program) (w : World) :
    (results fn tmps).run P w = ((asAddr (tmps.getD p undef)).run P w).andThen fun a w₁ => (loadVar ty a).run P w₁ := by
  simp only [results, h]
  simp [Sem.run_bind]
theorem heap_mid (w : World) (a b c : Obj) : (((w.alloc a).alloc b).alloc c).heap[w.heap.size + 1]? = some b := by
  show (((w.heap.push a).push b).push c)[w.heap.size + 1]? = some b
  rw [Array.getElem?_push, if_neg (by simp), Array.getElem?_push, if_pos (by simp)]
end Go.Proofs.Ytbbjpjkclealfaa
namespace Go.Proofs.Ytbbjpjkclealfaa
open Go.ChangeShapes Go.WideShapes Go.ChangeAt Go.RowKit
set_option linter.unusedVariables false

theorem grownT {A B C : World} {row : Option Nat} (h : A.grownBy B row) (k : B.grownBy C row) : A.grownBy C row :=
  ⟨k.os.trans h.os, k.tape.trans h.tape, k.output.trans h.output, Nat.le_trans h.size k.size, fun j hj hr => (k.block j (Nat.lt_of_lt_of_le hj h.size) hr).trans (h.block j hj hr)⟩
end Go.Proofs.Ytbbjpjkclealfaa
namespace Go.Proofs.Ytbbjpjkclealfaa
open Go.ChangeShapes Go.WideShapes Go.ChangeAt Go.RowKit Go.BigFrame
set_option linter.unusedVariables false

theorem ikeyok_any (k : K2) (w : World) : Calls Try.prog 89 #[kv k] w fun e w' => e = .returned (.bool (keyOkB k)) ∧ Below w.heap.size w w' := by
  obtain ⟨n, s⟩ := k
  unfold keyOkB kv
  dsimp only
  have hb : ∀ o, Below w.heap.size w (w.alloc o) := fun o => (Below.refl _ _).alloc (Nat.le_refl _) _
  by_cases h1 : 1 ≤ n
  · by_cases h2 : n ≤ 20
    · by_cases h3 : 1 ≤ s
      · by_cases h4 : s ≤ 99
        · go_enter Try.func89, Try.ntmps89
          go_wp2
          go_ret
          exact ⟨by simp [h1, h2, h3, h4], hb _⟩
        · go_enter Try.func89, Try.ntmps89
          go_wp2
          go_ret
          exact ⟨by simp [h1, h2, h3, h4], hb _⟩
      · go_enter Try.func89, Try.ntmps89
        go_wp2
        go_ret
        exact ⟨by simp [h1, h2, h3]; omega, hb _⟩
    · go_enter Try.func89, Try.ntmps89
      go_wp2
      go_ret
      exact ⟨by simp [h1, h2]; omega, hb _⟩
  · go_enter Try.func89, Try.ntmps89
    go_wp2
    go_ret
    exact ⟨by simp [h1]; omega, hb _⟩
theorem iahead_any (a b : K2) (w : World) : Calls Try.prog 90 #[kv a, kv b] w fun e w' => e = .returned (.bool (aheadB a b)) ∧ Below w.heap.size w w' := by
  obtain ⟨n, s⟩ := a
  obtain ⟨m, t⟩ := b
  have hb : ∀ o o', Below w.heap.size w ((w.alloc o).alloc o') := fun o o' => ((Below.refl _ _).alloc (Nat.le_refl _) _).alloc (by simp) _
  by_cases h : n = m
  · have ha : aheadB (n, s) (m, t) = decide (s < t) := by unfold aheadB; rw [if_pos h]
    rw [ha]
    unfold kv
    dsimp only
    subst h
    go_enter Try.func90, Try.ntmps90
    go_wp2
    go_ret
    exact ⟨rfl, hb _ _⟩
  · have ha : aheadB (n, s) (m, t) = decide (n < m) := by unfold aheadB; rw [if_neg h]
    rw [ha]
    unfold kv
    dsimp only
    go_enter Try.func90, Try.ntmps90
    go_wp2
    go_ret
    exact ⟨rfl, hb _ _⟩
set_option maxRecDepth 100000 in
theorem ikeysok_any (v : Value) (ks : List K2) (w : World) (h : keysAt w v ks) (hs : ks.length ≤ 2000000) : Calls Try.prog 47 #[v] w fun e w' => e = .returned (.bool (keysOkR ks)) ∧ Below w.heap.size w w' := by
  obtain ⟨a, cap, rfl, hcap, hcells⟩ := h
  go_enter Try.func47, Try.ntmps47
  go_wp2
  go_loopw [7] (fun i wr => ∃ k : Nat, k ≤ ks.length ∧ i = .int .i64 k ∧ (List.range k).all (stepB ks) = true ∧ Below w.heap.size w wr) (fun i _ => ks.length - (intOf i).toNat)
  case atStart => exact ⟨0, Nat.zero_le _, rfl, rfl, Below.refl _ _⟩
  case round =>
    obtain ⟨k, hk, rfl, hall, hb⟩ := hrel
    by_cases hlt : k < ks.length
    · obtain ⟨g, off, rfl, hg, hcs⟩ := hcells.resolve_left (by omega)
      have z0 : (0 : Int) ≤ (k : Int) := by omega
      have z1 : (k : Int) < (ks.length : Int) := by omega
      have c1 := hcs k hlt
      have hst : stepB ks k = (keyOkB (ks.getD k (0, 0)) && (decide (k = 0) || aheadB (ks.getD (k - 1) (0, 0)) (ks.getD k (0, 0)))) := rfl
      have hsu := keysR_succ ks k
      rw [hst, hall] at hsu
      have HF := Lib.hid (fun (h : stepB ks k = false) => stepB_false hlt h)
      rw [hst] at HF
      have c0 : 0 < k → _ := fun h => hcs (k - 1) (by omega)
      rename_i wr
      have C1 : wr.cell? ⟨g, off + k * 2, none⟩ = some (.int .i64 (ks.getD k (0, 0)).1) := (hb.cell (p := ⟨g, off + k * 2, none⟩) hg).trans c1.1
      have C2 : wr.cell? ⟨g, off + k * 2 + 1, none⟩ = some (.int .i64 (ks.getD k (0, 0)).2) := (hb.cell (p := ⟨g, off + k * 2 + 1, none⟩) hg).trans c1.2
      generalize ks.getD k (0, 0) = kx at *
      obtain ⟨p, q⟩ := kx
      dsimp only at C1 C2
      have hb1 : Below w.heap.size w (wr.alloc (.cells #[.int .i64 p, .int .i64 q] 41)) := hb.alloc hb.size _
      have LK : ∀ w', Below (wr.heap.size + 1) (wr.alloc (.cells #[.int .i64 p, .int .i64 q] 41)) w' → (loadVar 41 ⟨wr.heap.size, 0, none⟩).run Try.prog w' = .ok (kv (p, q)) w' := fun w' hb' =>
        key_load (k := (p, q)) (w := wr.alloc (.cells #[.int .i64 p, .int .i64 q] 41)) (g := wr.heap.size) (o := 0) ⟨by simp, by simp⟩ (by simp) (by simpa using hb')
      have LK0 := Lib.hid LK; clear LK
      have HSU := Lib.hid hsu; have C0 := Lib.hid c0; clear hsu c0 hst c1 hcells hcs
      have HK := Lib.hid (fun w => ikeyok_any (p, q) w)
      have HB1 := Lib.hid hb1; clear hb1
      go_wp2_with fail
      refine (HK.out _).mono ?_
      rintro e w2 ⟨rfl, hb2⟩
      have hbw2 := HB1.out.trans (hb2.mono HB1.out.size)
      have LK : ∀ w', Below w2.heap.size w2 w' → (loadVar 41 ⟨wr.heap.size, 0, none⟩).run Try.prog w' = .ok (kv (p, q)) w' := fun w' hb' => LK0.out w' ((by simpa using hb2 : Below (wr.heap.size + 1) _ w2).trans (hb'.mono (by have := hb2.size; simp at this; omega)))
      clear LK0 C1 C2 HK hb2 HB1
      cases hko : keyOkB (p, q) with
      | false =>
        rw [hko] at HF
        go_wp2
        go_ret
        exact ⟨by rw [HF.out rfl]; rfl, hbw2⟩
      | true =>
        rw [hko] at HF HSU
        by_cases hk0 : k = 0
        · subst hk0
          have y0 : ¬ (0 : Int) < ((0 : Nat) : Int) := by omega
          clear HF C0
          go_wp2
          refine wp_region_below w2 (by kernel_rfl) (by kernel_rfl) (Below.refl _ _) ?_
          repeat (first
            | go_big_quiet_skip
            | (go_big_quiet_want
               first
                 | (go_big_quiet_op; go_big_quiet_on)
                 | (refine q_load 41 _ _ _ rfl rfl LK ?_; simp only [Act.put, List.setIfInBounds_toArray, List.set_cons_zero, List.set_cons_succ]; go_big_quiet_on)
                 | (go_big_quiet_op; refine ⟨_, fun _ _ => rfl, ?_⟩; go_big_quiet_on)
                 | (go_big_quiet_op; go_big_quiet_on)))
          refine wpQuiet_nil ?_
          intro w3 hb3
          have hbw3 := hbw2.trans (hb3.mono hbw2.size)
          clear LK
          go_wp2
          exact ⟨⟨1, by omega, by go_num, by rw [HSU.out]; rfl, hbw3⟩, by simp [intOf]; omega⟩
        · have ha := C0.out (by omega)
          have L2 : ∀ w', Below w2.heap.size w2 w' → (loadVar 41 ⟨g, off + (k - 1) * 2, none⟩).run Try.prog w' = .ok (kv (ks.getD (k - 1) (0, 0))) w' := fun w' hb' => key_load ha hg (hbw2.trans (hb'.mono hbw2.size))
          generalize ks.getD (k - 1) (0, 0) = ky at *
          have HA := Lib.hid (fun w => iahead_any ky (p, q) w)
          have d0 : decide (k = 0) = false := by simpa using hk0
          rw [d0] at HF HSU
          have y0 : (0 : Int) < (k : Int) := by omega
          have yk : 0 < k := by omega
          have y1 : (0 : Int) ≤ (k : Int) - 1 := by omega
          have y2 : (k : Int) - 1 < (ks.length : Int) := by omega
          have ew : IntKind.i64.wrap ((k : Int) - 1) = (k : Int) - 1 := IntWalk.i64_in _ (by omega)
          have et : ((k : Int) - 1).toNat = k - 1 := by omega
          clear C0 ha
          cases hah : aheadB ky (p, q) with
          | false =>
            rw [hah] at HA HF
            have HF2 := HF.out rfl
            have HF3 := Lib.hid HF2; clear HF2 HF HSU
            go_wp2
            refine wp_region_below w2 (by kernel_rfl) (by kernel_rfl) (Below.refl _ _) ?_
            repeat (first
              | go_big_quiet_skip
              | (go_big_quiet_want
                 first
                   | (go_big_quiet_op; go_big_quiet_on)
                   | (refine q_load 41 _ _ _ rfl rfl L2 ?_; simp only [Act.put, List.setIfInBounds_toArray, List.set_cons_zero, List.set_cons_succ]; go_big_quiet_on)
                   | (refine q_load 41 _ _ _ rfl rfl LK ?_; simp only [Act.put, List.setIfInBounds_toArray, List.set_cons_zero, List.set_cons_succ]; go_big_quiet_on)
                   | (go_big_quiet_op; refine ⟨_, fun _ _ => rfl, ?_⟩; go_big_quiet_on)
                   | (go_big_quiet_op; apply Exists.intro; refine ⟨fun w' hw' => ?_, ?_⟩
                      · first
                        | (with_reducible refine (HA.out w').mono ?_
                           rintro e w2 ⟨rfl, hb2⟩
                           exact ⟨rfl, hw'.trans (hb2.mono hw'.size)⟩)
                      go_big_quiet_on)))
            refine wpQuiet_nil ?_
            intro w3 hb3
            have hbw3 := hbw2.trans (hb3.mono hbw2.size)
            clear LK L2 HA
            go_wp2
            go_ret
            exact ⟨by rw [HF3.out]; rfl, hbw3⟩
          | true =>
            rw [hah] at HA HSU
            clear HF
            go_wp2
            refine wp_region_below w2 (by kernel_rfl) (by kernel_rfl) (Below.refl _ _) ?_
            repeat (first
              | go_big_quiet_skip
              | (go_big_quiet_want
                 first
                   | (go_big_quiet_op; go_big_quiet_on)
                   | (refine q_load 41 _ _ _ rfl rfl L2 ?_; simp only [Act.put, List.setIfInBounds_toArray, List.set_cons_zero, List.set_cons_succ]; go_big_quiet_on)
                   | (refine q_load 41 _ _ _ rfl rfl LK ?_; simp only [Act.put, List.setIfInBounds_toArray, List.set_cons_zero, List.set_cons_succ]; go_big_quiet_on)
                   | (go_big_quiet_op; refine ⟨_, fun _ _ => rfl, ?_⟩; go_big_quiet_on)
                   | (go_big_quiet_op; apply Exists.intro; refine ⟨fun w' hw' => ?_, ?_⟩
                      · first
                        | (with_reducible refine (HA.out w').mono ?_
                           rintro e w2 ⟨rfl, hb2⟩
                           exact ⟨rfl, hw'.trans (hb2.mono hw'.size)⟩)
                      go_big_quiet_on)))
            refine wpQuiet_nil ?_
            intro w3 hb3
            have hbw3 := hbw2.trans (hb3.mono hbw2.size)
            clear LK L2 HA
            go_wp2
            exact ⟨⟨k + 1, by omega, by go_num, by rw [HSU.out]; rfl, hbw3⟩, by simp [intOf]; omega⟩
    · obtain rfl : k = ks.length := by omega
      have HF := Lib.hid hall
      go_wp2
      go_ret
      exact ⟨by unfold keysOkR; rw [HF.out]; rfl, hb⟩
end Go.Proofs.Ytbbjpjkclealfaa
namespace Go.Proofs.Ytbbjpjkclealfaa
open Go.ChangeShapes Go.WideShapes Go.ChangeAt Go.RowKit Go.BigFrame
set_option linter.unusedVariables false

theorem tokey_any (k : K2) (w : World) : Calls Try.prog 73 #[kv k] w fun e w' => e = .returned (kv k) ∧ Below w.heap.size w w' := by
  obtain ⟨n, s⟩ := k
  unfold kv
  dsimp only
  have hB : ∀ o1 o2 o3, Below w.heap.size w (((w.alloc o1).alloc o2).alloc o3) := fun o1 o2 o3 => (((Below.refl _ _).alloc (Nat.le_refl _) _).alloc (by simp) _).alloc (by simp; omega) _
  have HB := Lib.hid hB; clear hB
  go_enter Try.func73, Try.ntmps73
  go_wp2
  refine bodyPost_ret (v := .agg #[.int .i64 n, .int .i64 s]) ?_ rfl ⟨rfl, HB.out _ _ _⟩
  rw [results_cell (p := 2) (ty := 41) (by kernel_rfl)]
  have hl := run_loadVar_row (P := Try.prog) (((w.alloc (.cells #[.int .i64 n, .int .i64 s] 111)).alloc (.cells #[.int .i64 n, .int .i64 s] 41)).alloc (.cells #[.int .i64 n, .int .i64 s] 41)) (w.heap.size + 1) 41 41 #[.int .i64 n, .int .i64 s] (0, 0) _ (heap_mid w _ _ _) Try.underlying41 rfl (by kernel_rfl)
  simp [asAddr, Result.andThen, hl]
theorem eqkey_any (p q : K2) (w : World) : Calls Try.prog 79 #[kv p, kv q] w fun e w' => e = .returned (.bool (p == q)) ∧ Below w.heap.size w w' := by
  obtain ⟨a, b⟩ := p; obtain ⟨c, d⟩ := q
  have hB : ∀ o o', Below w.heap.size w ((w.alloc o).alloc o') := fun o o' => ((Below.refl _ _).alloc (Nat.le_refl _) _).alloc (by simp) _
  have HB := Lib.hid hB; clear hB
  by_cases h1 : a = c
  · by_cases h2 : b = d
    · have he : ((a, b) == (c, d)) = true := by simp [h1, h2]
      rw [he]
      unfold kv
      dsimp only
      subst h1; subst h2
      go_enter Try.func79, Try.ntmps79
      go_wp2
      go_ret
      exact ⟨rfl, HB.out _ _⟩
    · have he : ((a, b) == (c, d)) = false := by simp [h1, h2]
      rw [he]
      unfold kv
      dsimp only
      subst h1
      go_enter Try.func79, Try.ntmps79
      go_wp2
      go_ret
      exact ⟨rfl, HB.out _ _⟩
  · have he : ((a, b) == (c, d)) = false := by simp [h1]
    rw [he]
    unfold kv
    dsimp only
    go_enter Try.func79, Try.ntmps79
    go_wp2
    go_ret
    exact ⟨rfl, HB.out _ _⟩
end Go.Proofs.Ytbbjpjkclealfaa
namespace Go.Proofs.Ytbbjpjkclealfaa
open Go.ChangeShapes Go.WideShapes Go.ChangeAt Go.RowKit Go.BigFrame
set_option linter.unusedVariables false
theorem own_cell {w : World} {base g n cap : Nat} {e : TypeId} {size : Nat} {xs : List Value} (h : w.ownsRow base e size (.slice (some ⟨g, 0, none⟩) n cap) n xs) (j : Nat) (hj : j < n * size) :
    w.cell? ⟨g, j, none⟩ = some (xs.getD j undef) ∧ w.frozen? ⟨g, j, none⟩ = false := by
  have hl : xs.length = n * size := h.1
  refine ⟨?_, ?_⟩
  · rw [h.cellAt j hj]
    simp [List.getD, show j < xs.length by omega]
  · rcases h.2 with ⟨h1, _⟩ | ⟨g', cap', cur, h1, _, hg, _⟩
    · simp at h1
    · simp only [Value.slice.injEq, Option.some.injEq, Addr.mk.injEq, and_true, true_and] at h1
      obtain ⟨rfl, rfl⟩ := h1
      simp [World.frozen?, hg]
theorem ownsRowK_shape {w : World} {base n : Nat} {e : TypeId} {v : Value} {size : Nat} {xs : List Value} (h : w.ownsRow base e size v n xs) :
    (v = .slice none 0 0 ∧ n = 0) ∨ ∃ g cap, v = .slice (some ⟨g, 0, none⟩) n cap ∧ n ≤ cap ∧ cap ≤ maxLen ∧ base ≤ g ∧ g < w.heap.size := by
  rcases h.2 with h1 | ⟨g, cap, cur, rfl, h2, h3, h4, h5, _⟩
  · exact .inl h1
  · exact .inr ⟨g, cap, rfl, h4, h5, h2, (Array.getElem?_eq_some_iff.1 h3).1⟩
theorem own_base {w : World} {base base' n : Nat} {e : TypeId} {size : Nat} {v : Value} {xs : List Value} (h : w.ownsRow base' e size v n xs) (hb : base ≤ base') : w.ownsRow base e size v n xs := by
  refine ⟨h.1, h.2.imp_right ?_⟩
  rintro ⟨g, cap, cur, h1, h2, h3⟩
  exact ⟨g, cap, cur, h1, Nat.le_trans hb h2, h3⟩
end Go.Proofs.Ytbbjpjkclealfaa
namespace Go.Proofs.Ytbbjpjkclealfaa
open Go.ChangeShapes Go.WideShapes Go.ChangeAt Go.RowKit Go.BigFrame Go.Maps
set_option linter.unusedVariables false

theorem laidOutR : laidOutB Try.prog = true := by kernel_rfl
theorem keyLawR : Keyed Try.prog 41 := Keyed.of_law (deep_law_laid laidOutR (m := 3) (by omega) (of_decide_eq_true (by kernel_rfl)) (by kernel_rfl) (by kernel_rfl))
def klit (k : K2) : Lit := .string (keyBytes [.int .i64 k.1, .int .i64 k.2])
theorem keyR_of (k : K2) (h1 : (Lit.int .i64 k.1).wf = true) (h2 : (Lit.int .i64 k.2).wf = true) : keyOf Try.prog 41 (kv k) = some (klit k) := by
  obtain ⟨n, hn⟩ : ∃ n, Try.prog.types.size = n + 1 := ⟨Try.prog.types.size - 1, by have : 1 ≤ Try.prog.types.size := of_decide_eq_true (by kernel_rfl); omega⟩
  have hkt : Try.prog.keyType 41 = true := by kernel_rfl
  have hc : Try.prog.cellsOf 41 = 2 := by kernel_rfl
  have hc1 : Try.prog.cellsOf 3 = 1 := by kernel_rfl
  have hf : (kv k).formed Try.prog 41 = true := by
    unfold kv Value.formed
    rw [Try.underlying41, hc]; rfl
  unfold keyOf
  rw [Try.underlying41]
  simp only [hkt, hf, Bool.and_self, if_true]
  rw [hn]
  unfold Program.keyLits
  rw [Try.underlying41]
  simp [kv, Value.cells, hc, hc1, Program.keyLits, Try.underlying3, h1, h2, klit]
theorem klit_inj {a b : K2} (ha1 : (Lit.int .i64 a.1).wf = true) (ha2 : (Lit.int .i64 a.2).wf = true) (hb1 : (Lit.int .i64 b.1).wf = true) (hb2 : (Lit.int .i64 b.2).wf = true) (h : klit a = klit b) : a = b := by
  have h1 := keyR_of a ha1 ha2
  have h2 := keyR_of b hb1 hb2
  rw [← h] at h2
  have := keyLawR.inj h1 h2
  unfold kv at this
  obtain ⟨x, y⟩ := a; obtain ⟨z, u⟩ := b
  simpa using this
theorem keyWf {k : K2} (h : keyOkB k = true) : (Lit.int .i64 k.1).wf = true ∧ (Lit.int .i64 k.2).wf = true := by
  simp only [keyOkB, Bool.and_eq_true, decide_eq_true_eq] at h
  refine ⟨?_, ?_⟩ <;> simp [Lit.wf, IntKind.min, IntKind.max, IntKind.signed, IntKind.bits] <;> omega
theorem klit_key (x : K2) (hx : keyOkB x = true) : WideAt.IsKeyLit (klit x) := keyLawR.key (keyR_of x (keyWf hx).1 (keyWf hx).2)
end Go.Proofs.Ytbbjpjkclealfaa
namespace Go.Proofs.Ytbbjpjkclealfaa
open Go.ChangeShapes Go.WideShapes Go.ChangeAt Go.RowKit Go.BigFrame
set_option linter.unusedVariables false

theorem addr_plusK (g off j : Nat) : (⟨g, off, none⟩ : Addr).add j = ⟨g, off + j, none⟩ := by
  unfold Addr.add
  split
  · rename_i h; simp [h]
  · rfl
theorem kyCells_one (ks : List K2) : ∀ u ∈ keyCells ks, u.oneCell' = true := by
  intro u hu
  simp only [keyCells, List.mem_flatMap, List.mem_cons, List.not_mem_nil, or_false] at hu
  obtain ⟨k, _, rfl | rfl⟩ := hu <;> rfl
theorem kyCells_at {w : World} {g off : Nat} {ks : List K2} (h : ∀ i, i < ks.length → w.cell? ⟨g, off + i * 2, none⟩ = some (.int .i64 (ks.getD i (0, 0)).1) ∧ w.cell? ⟨g, off + i * 2 + 1, none⟩ = some (.int .i64 (ks.getD i (0, 0)).2)) :
    ∀ j u, (keyCells ks)[j]? = some u → w.cell? ((⟨g, off, none⟩ : Addr).add j) = some u := by
  intro j u hu
  have hj : j < ks.length * 2 := by rw [← keyCells_len]; exact (List.getElem?_eq_some_iff.1 hu).1
  have hc := keyCells_get ks (j / 2) (by omega)
  have hw := h (j / 2) (by omega)
  rw [addr_plusK]
  rcases (by omega : j = j / 2 * 2 ∨ j = j / 2 * 2 + 1) with e | e
  · rw [← e] at hc
    rw [show off + j / 2 * 2 = off + j by omega] at hw
    rw [hc.1] at hu; cases hu
    exact hw.1
  · rw [← e] at hc
    rw [show off + j / 2 * 2 + 1 = off + j by omega] at hw
    rw [hc.2] at hu; cases hu
    exact hw.2
theorem key_append_none {w : World} {base n : Nat} {v : Value} {xs : List Value} (h : w.ownsRow base 41 2 v n xs) (ar : Option Addr) (cr : Nat) (ty : TypeId) :
    (Builtin.append_ #[25, 25] ty #[v, .slice ar 0 cr]).run Try.prog w = .ok v w := by
  obtain ⟨i0, hi, hz0, hz1, hz2⟩ := info_parts infoK
  have u := Try.underlying25
  rcases h.2 with ⟨rfl, h0⟩ | ⟨g, cap, cur, rfl, _, _, hn, _⟩
  · cases ar <;> simp [Builtin.append_, run_underlying u, sizeOf, typeInfo, hi, storeCells, go_sem]
  · cases ar <;> simp [Builtin.append_, run_underlying u, sizeOf, typeInfo, hi, storeCells, hn, go_sem]
theorem run_append_key {w : World} {base n : Nat} {v : Value} {xs : List Value} (hown : w.ownsRow base 41 2 v n xs) (u : Value) (ks : List K2) (hu : keysAt w u ks) (ty : TypeId) (hn : n + ks.length ≤ 4000000) (hbase : base ≤ w.heap.size) :
    ∃ v' w', (Builtin.append_ #[25, 25] ty #[v, u]).run Try.prog w = .ok v' w' ∧ w'.ownsRow base 41 2 v' (n + ks.length) (xs ++ keyCells ks) ∧ w.grownBy w' v.ownBlock ∧ (v'.ownBlock = v.ownBlock ∨ v'.ownBlock = some w.heap.size) := by
  obtain ⟨i0, hi, hz0, hz1, hz2⟩ := info_parts infoK
  obtain ⟨a, cap, rfl, hcap, hcells⟩ := hu
  by_cases h0 : ks.length = 0
  · obtain rfl : ks = [] := List.length_eq_zero_iff.1 h0
    exact ⟨v, w, key_append_none hown a cap ty, by simpa [keyCells] using hown, World.grownBy.refl _ _, .inl rfl⟩
  · obtain ⟨g, off, rfl, hg, hcs⟩ := hcells.resolve_left h0
    obtain ⟨v', w', hr, h2, h3, h4, h5⟩ := run_append_own_at (P := Try.prog) w base 25 ty 41 i0 (.agg #[.int .i64 0, .int .i64 0]) 2 16 Try.underlying25 hi hz0 hz1 hz2 rfl (by decide) v n xs hown ⟨g, off, none⟩ ks.length cap (keyCells ks) (keyCells_len ks) (kyCells_at hcs) (kyCells_one ks) (by unfold maxLen; omega) (by omega) hbase
    exact ⟨v', w', hr, h2, h3, h5⟩
theorem wpList_append_key {ops : Array Oper} {rest : List Oper} {o : Oper} {a : Act} {w : World} {Q : Exit → Act → World → Prop} (hgd : o.guard = none) (s x : Operand)
    (ho : o.op = .call { callee := .builtin .append, args := #[s, x], argTypes := #[25, 25] })
    {base n : Nat} {v : Value} {xs : List Value} (hown : w.ownsRow base 41 2 v n xs) (u : Value) (ks : List K2) (hu : keysAt w u ks) (hs : a.eval s = v) (hx : a.eval x = u) (hn : n + ks.length ≤ 4000000) (hbase : base ≤ w.heap.size)
    (h : ∀ v' w', w'.ownsRow base 41 2 v' (n + ks.length) (xs ++ keyCells ks) → w.grownBy w' v.ownBlock → (v'.ownBlock = v.ownBlock ∨ v'.ownBlock = some w.heap.size) → wpList Try.prog ops Q rest (a.put o.dst v') w') : wpList Try.prog ops Q (o :: rest) a w := by
  refine wpList_plain hgd fun K hK => ?_
  obtain ⟨v', w', hr, h2, h3, h5⟩ := run_append_key hown u ks hu o.type hn hbase
  unfold Oper.wp execOp
  simp only [ho, resolve, invoke, builtin, Sem.run_bind, Sem.run_pure, Result.andThen_ok, List.map_toArray, List.map_cons, List.map_nil, hs, hx, hr]
  exact hK _ _ (h v' w' h2 h3 h5)
/-- a list of one key, as it is made -/
theorem own_one {w : World} {base : Nat} (p q : Int) (hb : base ≤ w.heap.size) : (w.alloc (.cells #[.int .i64 p, .int .i64 q] 41)).ownsRow base 41 2 (.slice (some ⟨w.heap.size, 0, none⟩) 1 1) 1 (keyCells [(p, q)]) :=
  ⟨by simp [keyCells], .inr ⟨w.heap.size, 1, #[.int .i64 p, .int .i64 q], rfl, hb, heap_alloc_new w _, Nat.le_refl _, by unfold maxLen; omega, rfl, by simp [keyCells]⟩⟩
end Go.Proofs.Ytbbjpjkclealfaa
namespace Go.Proofs.Ytbbjpjkclealfaa
open Go.ChangeShapes Go.WideShapes Go.ChangeAt Go.RowKit Go.BigFrame Go.Maps
set_option linter.unusedVariables false
set_option linter.unusedSimpArgs false

/-- how a list's own slice value reads -/
def hdE : Value → Option (DataW Unit × List MemPlace)
  | .slice (some ⟨b, o, none⟩) n c => some (.agg [.lit (.int .i64 b), .lit (.int .i64 o), .lit (.int .i64 n), .lit (.int .i64 c)], [])
  | .slice none 0 0 => some (.nil, [])
  | _ => none
theorem hdE_places {v : Value} {d : DataW Unit} {ps : List MemPlace} (h : hdE v = some (d, ps)) : ps = [] := by
  unfold hdE at h
  split at h
  · cases h; rfl
  · cases h; rfl
  · cases h
theorem hdE_inj {u v : Value} {d : DataW Unit} (hu : hdE u = some (d, [])) (hv : hdE v = some (d, [])) : u = v := by
  unfold hdE at hu hv
  split at hu
  · cases hu
    split at hv
    · simp only [Option.some.injEq, Prod.mk.injEq, DataW.agg.injEq, List.cons.injEq, DataW.lit.injEq, Lit.int.injEq, true_and, and_true, Int.natCast_inj] at hv
      obtain ⟨h1, h2, h3, h4⟩ := hv
      subst h1; subst h2; subst h3; subst h4
      rfl
    · cases hv
    · cases hv
  · cases hu
    split at hv
    · cases hv
    · rfl
    · cases hv
  · cases hu
theorem hdE_own {w : World} {base n : Nat} {e : TypeId} {size : Nat} {v : Value} {xs : List Value} (h : w.ownsRow base e size v n xs) : ∃ d, hdE v = some (d, []) := by
  rcases h.2 with ⟨rfl, -⟩ | ⟨g, cap, cur, rfl, -⟩
  · exact ⟨_, rfl⟩
  · exact ⟨_, rfl⟩
theorem zeroS (w : World) : (zeroValue 25).run Try.prog w = .ok (.slice none 0 0) w := by kernel_rfl
theorem keyLawK : WideMaps.KeyLaw Try.prog 41 := deep_law_laid laidOutR (m := 3) (by omega) (of_decide_eq_true (by kernel_rfl)) (by kernel_rfl) (by kernel_rfl)
theorem group_entry {w : World} {b n : Nat} {D : DataW Unit} (h : w.ownsMap Try.prog 41 hdE b n D) (hn : n < maxLen) {key : Value} {kl : Lit} (hkey : keyOf Try.prog 41 key = some kl) :
    ∃ (v0 : Value) (st : Nat) (w1 : World), (Instr.mapEntry 115 (.map (some b)) key).run Try.prog w = .ok (.tuple #[v0, goInt st]) w1 ∧ hdE v0 = some (D.atKey kl .nil, []) ∧ w.grownBy w1 (some b) ∧
      ∀ (w2 : World) (val : Value) (d : DataW Unit), w2.heap[b]? = w1.heap[b]? → hdE val = some (d, []) →
        ∃ w3, (Instr.entryStore 115 (.map (some b)) (goInt st) val).run Try.prog w2 = .ok () w3 ∧ w3.ownsMap Try.prog 41 hdE b (n + 1) (D.put kl d) ∧ w2.grownBy w3 (some b) := by
  have hall := h
  obtain ⟨es, clock, hb, F, hs, hD⟩ := h
  obtain ⟨v0, st, es1, clock1, hrun, hv0, hst⟩ := WideElems.entry_then_store keyLawK Try.underlying115 zeroS hb F hkey
  refine ⟨v0, st, _, hrun, ?_, ⟨rfl, rfl, rfl, by simp [ChangeMaps.setBlock], fun i _ hi => ChangeMaps.heap_setBlock_other hb _ (fun e => hi (by rw [e]))⟩, fun w2 val d hw2 hval => ?_⟩
  · have hfl := Maps.fit_look false keyLawR Try.underlying115 (zeroS w) hb F hkey
    rw [← hD] at hfl
    rcases hv0 with ⟨e0, he0, hk0, rfl⟩ | ⟨hno, rfl⟩
    · rcases hfl with ⟨-, h2, -⟩ | ⟨e1, y, he1, hk1, -, hR, hat, -⟩
      · exact absurd hk0 (h2 e0 he0)
      · have hee : e0 = e1 := by
          obtain ⟨i, hi, rfl⟩ := List.getElem_of_mem he0
          obtain ⟨j, hj, rfl⟩ := List.getElem_of_mem he1
          have hnd := F.stamped.2.2
          have h3 : (es.toList.map (·.key))[i]'(by simpa using hi) = (es.toList.map (·.key))[j]'(by simpa using hj) := by rw [List.getElem_map, List.getElem_map]; exact hk0.trans hk1.symm
          have := (List.getElem_inj hnd).1 h3
          subst this
          rfl
        rw [hee, hR, hat, ← hdE_places (v := e1.val) (d := y.1) (ps := y.2) hR]
    · rcases hfl with ⟨-, -, hat⟩ | ⟨e1, y, he1, hk1, -⟩
      · rw [hat]; rfl
      · exact absurd hk1 (hno e1 he1)
  · rw [ChangeMaps.heap_setBlock_same hb] at hw2
    obtain ⟨es', clock', hr2, hup⟩ := hst w2 val hw2
    obtain ⟨w', hup2, hmap, -⟩ := World.ownsMap.update hall keyLawR Try.underlying115 hn hkey hval
    rw [hup] at hup2
    cases hup2
    refine ⟨_, hr2, ?_, ⟨rfl, rfl, rfl, by simp [ChangeMaps.setBlock], fun i _ hi => ChangeMaps.heap_setBlock_other hw2 _ (fun e => hi (by rw [e]))⟩⟩
    obtain ⟨es2, clock2, hb2, F2, hs2, hD2⟩ := hmap
    rw [ChangeMaps.heap_setBlock_same hb] at hb2
    cases hb2
    exact ⟨es', clock', ChangeMaps.heap_setBlock_same hw2 _, F2, hs2, hD2⟩
/-- the map of others, after some sets -/
structure GrI (w0 W : World) (b n : Nat) (hd : K2 → Value) (O : K2 → List K2) : Prop where
  below : Below w0.heap.size w0 W
  ge : w0.heap.size ≤ b
  map : ∃ D, Maps.IsMap D ∧ W.ownsMap Try.prog 41 hdE b n D ∧ ∀ k, keyOkB k = true → hdE (hd k) = some (D.atKey (klit k) .nil, [])
  own : ∀ k, keyOkB k = true → W.ownsRow w0.heap.size 41 2 (hd k) (O k).length (keyCells (O k))
  ne : ∀ k, keyOkB k = true → (hd k).ownBlock ≠ some b
  apart : ∀ k k', keyOkB k = true → keyOkB k' = true → k ≠ k' → ∀ g, (hd k).ownBlock = some g → (hd k').ownBlock ≠ some g
theorem GrI.start (w : World) : GrI w (w.alloc (.map #[] 0)) w.heap.size 0 (fun _ => .slice none 0 0) (fun _ => []) :=
  ⟨(Below.refl _ _).alloc (Nat.le_refl _) _, Nat.le_refl _, ⟨.map [], ⟨[], rfl⟩, World.ownsMap_made (H := Unit) w Try.prog 41 hdE, fun k _ => rfl⟩, fun k _ => World.ownsRow_nil _ _ _ _, fun k _ => (by intro e; cases e), fun k k' _ _ _ g e => (by cases e)⟩
theorem GrI.next {w0 W W' : World} {b n : Nat} {hd : K2 → Value} {O : K2 → List K2} (h : GrI w0 W b n hd O) (hb : Below W.heap.size W W') : GrI w0 W' b n hd O := by
  obtain ⟨D, h1, h2, h3⟩ := h.map
  exact ⟨h.below.trans (hb.mono h.below.size), h.ge, ⟨D, h1, h2.kept (grown_of_below' hb none) (by simp), h3⟩, fun k hk => own_below (h.own k hk) hb, h.ne, h.apart⟩
def updF {A : Type} (f : K2 → A) (k : K2) (a : A) : K2 → A := fun x => if x = k then a else f x
theorem updF_same {A : Type} (f : K2 → A) (k : K2) (a : A) : updF f k a k = a := if_pos rfl
theorem updF_other {A : Type} (f : K2 → A) {k x : K2} (a : A) (h : x ≠ k) : updF f k a x = f x := if_neg h
/-- one key more in a key's list: the entry, then the append, then the store -/
theorem GrI.entry {w0 W : World} {b n : Nat} {hd : K2 → Value} {O : K2 → List K2} (h : GrI w0 W b n hd O) (hn : n < maxLen) (k : K2) (hk : keyOkB k = true) :
    ∃ (st : Nat) (W1 : World), (Instr.mapEntry 115 (.map (some b)) (.agg #[.int .i64 k.1, .int .i64 k.2])).run Try.prog W = .ok (.tuple #[hd k, goInt st]) W1 ∧ W.grownBy W1 (some b) ∧
      W1.ownsRow w0.heap.size 41 2 (hd k) (O k).length (keyCells (O k)) ∧
      ∀ (W2 : World) (v' : Value) (ks : List K2), W1.grownBy W2 (hd k).ownBlock → W2.ownsRow w0.heap.size 41 2 v' ks.length (keyCells ks) → (v'.ownBlock = (hd k).ownBlock ∨ v'.ownBlock = some W1.heap.size) →
        ∃ W3, (Instr.entryStore 115 (.map (some b)) (goInt st) v').run Try.prog W2 = .ok () W3 ∧ GrI w0 W3 b (n + 1) (updF hd k v') (updF O k ks) ∧ W2.grownBy W3 (some b) := by
  obtain ⟨D, hD, hmap, hat⟩ := h.map
  have hkey := keyR_of k (keyWf hk).1 (keyWf hk).2
  obtain ⟨v0, st, W1, hrun, hv0, hg1, hst⟩ := group_entry hmap hn hkey
  have hv : v0 = hd k := hdE_inj hv0 (hat k hk)
  subst hv
  have hbl : b < W.heap.size := hmap.lt
  have hown1 : ∀ x, keyOkB x = true → W1.ownsRow w0.heap.size 41 2 (hd x) (O x).length (keyCells (O x)) := fun x hx => (h.own x hx).kept hg1 (by
    cases e : (hd x).ownBlock with
    | none => exact .inl rfl
    | some g => exact .inr fun e2 => h.ne x hx (e.trans e2))
  refine ⟨st, W1, hrun, hg1, hown1 k hk, fun W2 v' ks hg2 hv' hloc => ?_⟩
  have hb2 : W2.heap[b]? = W1.heap[b]? := hg2.block b (Nat.lt_of_lt_of_le hbl hg1.size) (fun e => h.ne k hk e.symm)
  obtain ⟨d, hd'⟩ := hdE_own hv'
  obtain ⟨W3, hr3, hm3, hg3⟩ := hst W2 v' d hb2 hd'
  have hsz1 := h.below.size
  have hnb : v'.ownBlock ≠ some b := by
    rcases hloc with e | e
    · rw [e]; exact h.ne k hk
    · rw [e]; intro e2; have := Option.some.inj e2; have := hg1.size; omega
  have hlt1 : ∀ x, keyOkB x = true → ∀ g, (hd x).ownBlock = some g → g < W1.heap.size := fun x hx g e => ((hown1 x hx).lt g e).2
  refine ⟨W3, hr3, ⟨?_, h.ge, ⟨_, hD.put _ _, hm3, fun x hx => ?_⟩, fun x hx => ?_, fun x hx => ?_, fun x y hx hy hxy g e => ?_⟩, hg3⟩
  · have b1 := h.below.grown hg1 h.below.size (fun j e => by cases e; exact h.ge)
    have b2 := b1.grown hg2 b1.size (fun j e => ((hown1 k hk).lt j e).1)
    exact b2.grown hg3 b2.size (fun j e => by cases e; exact h.ge)
  · by_cases e : x = k
    · subst e
      rw [updF_same, Maps.atKey_put_same hD (klit_key _ hx)]; exact hd'
    · rw [updF_other _ _ e, Maps.atKey_put_other (fun e2 => e (klit_inj (keyWf hx).1 (keyWf hx).2 (keyWf hk).1 (keyWf hk).2 e2))]
      exact hat x hx
  · by_cases e : x = k
    · subst e
      rw [updF_same, updF_same]
      exact hv'.kept hg3 (.inr hnb)
    · rw [updF_other _ _ e, updF_other _ _ e]
      have h2 := (hown1 x hx).kept hg2 (by
        cases e1 : (hd x).ownBlock with
        | none => exact .inl rfl
        | some g => exact .inr fun e2 => h.apart x k hx hk e g e1 e2.symm)
      exact h2.kept hg3 (.inr (h.ne x hx))
  · by_cases e : x = k
    · subst e; rw [updF_same]; exact hnb
    · rw [updF_other _ _ e]; exact h.ne x hx
  · by_cases e1 : x = k
    · subst e1
      rw [updF_same] at e
      rw [updF_other _ _ (Ne.symm hxy)]
      intro e2
      rcases hloc with e3 | e3
      · rw [e3] at e; exact h.apart x y hx hy hxy g e e2
      · rw [e3] at e; have := hlt1 y hy g e2; have := Option.some.inj e; omega
    · rw [updF_other _ _ e1] at e
      by_cases e4 : y = k
      · subst e4
        rw [updF_same]
        intro e2
        rcases hloc with e3 | e3
        · rw [e3] at e2; exact h.apart x y hx hy hxy g e e2
        · rw [e3] at e2; have := hlt1 x hx g e; have := Option.some.inj e2; omega
      · rw [updF_other _ _ e4]; exact h.apart x y hx hy hxy g e
theorem GrI.look {w0 W : World} {b n : Nat} {hd : K2 → Value} {O : K2 → List K2} (h : GrI w0 W b n hd O) (k : K2) (hk : keyOkB k = true) :
    (Instr.lookup 115 (.map (some b)) (.agg #[.int .i64 k.1, .int .i64 k.2]) false).run Try.prog W = .ok (hd k) W := by
  obtain ⟨D, hD, hmap, hat⟩ := h.map
  obtain ⟨v, ps, hr, hv⟩ := hmap.lookup keyLawR Try.underlying115 (zeroS W) (zd := .nil) (zp := []) rfl (keyR_of k (keyWf hk).1 (keyWf hk).2)
  have hps := hdE_places hv
  subst hps
  have := hdE_inj hv (hat k hk)
  subst this
  exact hr
end Go.Proofs.Ytbbjpjkclealfaa
namespace Go.Proofs.Ytbbjpjkclealfaa
open Go
set_option linter.unusedVariables false

/-- a word: its keys, its load -/
abbrev C2 := List K2 × ByteArray
end Go.Proofs.Ytbbjpjkclealfaa
namespace Go.Proofs.Ytbbjpjkclealfaa
open Go
set_option linter.unusedVariables false
set_option linter.unusedSimpArgs false

/-- a word whose keys are right and rise and whose load is four bytes -/
def wOk (x : C2) : Prop := keysOkR x.1 = true ∧ x.2.size = 4
abbrev W2 := { x : C2 // wOk x }
end Go.Proofs.Ytbbjpjkclealfaa
namespace Go.Proofs.Ytbbjpjkclealfaa
open Go
set_option linter.unusedVariables false
set_option linter.unusedSimpArgs false

def placeK (k : K2) : Nat := ((k.1 - 1) * 99 + k.2 - 1).toNat
def keyP (p : Nat) : K2 := (((p / 99 : Nat) : Int) + 1, ((p % 99 : Nat) : Int) + 1)
theorem keyOk_iff (k : K2) : keyOkB k = true ↔ (1 ≤ k.1 ∧ k.1 ≤ 20) ∧ 1 ≤ k.2 ∧ k.2 ≤ 99 := by
  unfold keyOkB
  simp
theorem place_lt {k : K2} (h : keyOkB k = true) : placeK k < 1980 := by
  obtain ⟨⟨h1, h2⟩, h3, h4⟩ := (keyOk_iff k).1 h
  unfold placeK; omega
theorem place_key {k : K2} (h : keyOkB k = true) : keyP (placeK k) = k := by
  obtain ⟨⟨h1, h2⟩, h3, h4⟩ := (keyOk_iff k).1 h
  obtain ⟨a, b⟩ := k
  dsimp only at h1 h2 h3 h4
  unfold keyP placeK
  dsimp only
  refine Prod.ext ?_ ?_
  · dsimp only; omega
  · dsimp only; omega
theorem key_lt {a b : K2} (ha : keyOkB a = true) (hb : keyOkB b = true) : aheadB a b = true ↔ placeK a < placeK b := by
  obtain ⟨⟨h1, h2⟩, h3, h4⟩ := (keyOk_iff a).1 ha
  obtain ⟨⟨g1, g2⟩, g3, g4⟩ := (keyOk_iff b).1 hb
  rw [ahead_iff]
  unfold placeK
  omega
end Go.Proofs.Ytbbjpjkclealfaa
namespace Go.Proofs.Ytbbjpjkclealfaa
open Go.RowKit Go.Shelf
attribute [local go_sem] Oper.semAt_some
set_option linter.unusedVariables false

/-- a right key -/
abbrev RK := { k : K2 // keyOkB k = true }
def rk0 : RK := ⟨(1, 1), by decide⟩
theorem rk_get (ks : List RK) (k : Nat) (hk : k < ks.length) : (ks.map (·.1)).getD k (0, 0) = (ks.getD k rk0).1 := by simp [List.getD, hk]
end Go.Proofs.Ytbbjpjkclealfaa
namespace Go.Proofs.Ytbbjpjkclealfaa
open Go
section
variable {P : Program} {ops : Array Oper} {Q : Exit → Act → World → Prop} {md : Region.Mode} {S : World → Prop}

/-- whatever order is picked from here on; behind each operation a sharper condition holds -/
def wpG (P : Program) (md : Region.Mode) (ops : Array Oper) (Q : Exit → Act → World → Prop) : Nat → (World → Prop) → Array Bool → Act → World → Prop
  | 0, _, listed, a, w => Region.ready md ops listed = [] ∧ Q .normal a w
  | fuel + 1, S, listed, a, w =>
    (Region.ready md ops listed = [] → Q .normal a w) ∧
    ∀ i ∈ Region.ready md ops listed, wpOp P ops Q i (fun a' w' => ∃ S' : World → Prop, (∀ x, S' x → S x) ∧ S' w' ∧ wpG P md ops Q fuel S' (listed.setIfInBounds i true) a' w') a w

theorem wpAny_of_G : ∀ (fuel : Nat) (S : World → Prop) (listed : Array Bool) (a : Act) (w : World), wpG P md ops Q fuel S listed a w → wpAny P md ops Q fuel listed a w
  | 0, _, _, _, _, h => h
  | fuel + 1, S, _, _, _, h => ⟨h.1, fun i hi => wpOp_mono (fun a' w' ⟨S', _, _, h'⟩ => wpAny_of_G fuel S' _ a' w' h') (h.2 i hi)⟩

theorem YieldsIf.sharper {S' : World → Prop} {o : Oper} {v : Value} {a : Act} (h : ∀ x, S' x → S x) (hy : YieldsIf P ops S o v a) : YieldsIf P ops S' o v a :=
  hy.imp (fun ⟨hw, hv⟩ => ⟨hw, fun w hs => hv w (h w hs)⟩) id

theorem wpG_first {i : Nat} {oi : Oper} {v : Value} (hi : ops[i]? = some oi) (hsel : ∀ (j : Nat) (o : Oper) cs b, ops[j]? = some o → o.op ≠ .select cs b)
    (hQ : ∀ c a w, Q (.panic c) (a.put oi.dst v) w → Q (.panic c) a w) :
    ∀ (fuel : Nat) (S : World → Prop) (listed : Array Bool) (a : Act) (w : World),
      (∀ j oj, ops[j]? = some oj → j ≠ i → listed.getD j true = false → (∀ e ∈ oj.after, Region.binds md e = true → e.on ≠ i) → oi.apart ops oj = true) →
      i ∈ Region.ready md ops listed → YieldsIf P ops S oi v a → S w →
      wpG P md ops Q fuel S (listed.setIfInBounds i true) (a.put oi.dst v) w → wpG P md ops Q (fuel + 1) S listed a w := by
  intro fuel
  induction fuel with
  | zero =>
    intro S listed a w _ hr hy hS H
    refine ⟨fun h => (by rw [h] at hr; cases hr), fun j hj => ?_⟩
    by_cases hji : j = i
    · subst hji; exact hy.wpOp hi hS ⟨S, fun _ h => h, hS, H⟩
    · have := ready_mono hj hji
      rw [H.1] at this
      cases this
  | succ fuel ih =>
    intro S listed a w hfree hr hy hS H
    refine ⟨fun h => (by rw [h] at hr; cases hr), fun j hj => ?_⟩
    by_cases hji : j = i
    · subst hji; exact hy.wpOp hi hS ⟨S, fun _ h => h, hS, H⟩
    · have h1 := H.2 j (ready_mono hj hji)
      obtain ⟨hjun, oj, hoj, hall⟩ := mem_ready.1 hj
      have hnot : ∀ e ∈ oj.after, Region.binds md e = true → e.on ≠ i := fun e he hb heq => by
        have h1 := hall e he hb
        have h0 := (mem_ready.1 hr).1
        rw [heq] at h1
        rcases Nat.lt_or_ge i listed.size with h' | h'
        · simp [h'] at h0 h1; rw [h0] at h1; cases h1
        · simp [Array.getElem?_eq_none h'] at h1
      have h2 := wpOp_putIf hoj (hfree j oj hoj hji hjun hnot) (fun cs b => hsel i oi cs b hi) (fun cs b => hsel j oj cs b hoj) hQ hy h1
      have hfree' : ∀ k ok, ops[k]? = some ok → k ≠ i → (listed.setIfInBounds j true).getD k true = false →
          (∀ e ∈ ok.after, Region.binds md e = true → e.on ≠ i) → oi.apart ops ok = true := fun k ok hk hki hun hno => by
        refine hfree k ok hk hki ?_ hno
        by_cases hjk : j = k
        · subst hjk; exact hjun
        · rw [getD_set_ne true hjk] at hun; exact hun
      refine wpOp_mono (fun a' w' h3 => ?_) h2
      obtain ⟨hy3, S', hs, hs2, h4⟩ := h3
      refine ⟨S', hs, hs2, ih S' (listed.setIfInBounds j true) a' w' hfree' (ready_mono hr (Ne.symm hji)) (YieldsIf.sharper hs hy3) hs2 ?_⟩
      rw [Array.setIfInBounds_comm _ _ hji]
      exact h4

/-- an operation that hands back a value and nothing else -/
def valueOp : Op → Bool
  | .move _ | .assign _ | .pick _ _ _ | .load _ _ | .binOp _ _ _ _ _ | .unOp _ _ _ | .convert _ _ _ | .slice _ _ _ _ _ | .fieldAddr _ _ _ | .field _ _ _ | .indexAddr _ _ _ | .index _ _ _ | .extract _ _ => true
  | _ => false
theorem value_of_run {α : Type} (s : Sem α) (f : α → Value) (w w' : World) (n : Next) (h : ((do pure (Next.value (f (← s)))) : Sem Next).run P w = .ok n w') : ∃ u, n = .value u := by
  rw [Sem.run_bind] at h
  cases hs : s.run P w with
  | ok v w1 =>
    rw [hs] at h
    simp only [Result.andThen, Sem.run_pure, Result.ok.injEq] at h
    exact ⟨_, h.1.symm⟩
  | halt x w1 => rw [hs] at h; simp [Result.andThen] at h
theorem valueOp_spec {o : Oper} (h : valueOp o.op = true) (ρ : Operand → Value) (w w' : World) (n : Next) (hr : (execOp ρ o).run P w = .ok n w') : ∃ u, n = .value u := by
  unfold execOp at hr
  cases ho : o.op <;> rw [ho] at h hr <;> simp only [valueOp] at h <;> try (exact absurd h Bool.false_ne_true)
  all_goals dsimp only at hr
  all_goals first
    | (simp only [Sem.run_pure, Result.ok.injEq] at hr; exact ⟨_, hr.1.symm⟩)
    | exact value_of_run _ (fun v => v) w w' n hr
    | exact value_of_run _ _ w w' n hr
theorem yields_of_quiet {o : Oper} {a : Act} {v : Value} (hv : valueOp o.op = true) (hw : Region.wanted o (yielded ops a.tmps) = true) (h : ∀ w, S w → o.quietAt P a S w v) : YieldsIf P ops S o v a := by
  refine .inl ⟨hw, fun w hs => ?_⟩
  have h1 := h w hs
  unfold Oper.quietAt at h1
  cases hr : (execOp a.eval o).run P w with
  | ok n w' =>
    obtain ⟨u, rfl⟩ := valueOp_spec hv a.eval w w' n hr
    rw [hr] at h1
    simp only [Oper.quietUpon] at h1
    obtain ⟨rfl, rfl⟩ := h1
    rfl
  | halt x w' => rw [hr] at h1; exact absurd h1 (by simp [Oper.quietUpon])

/-- the takes of a segment, in the order of the text -/
def takesB (md : Region.Mode) (l : List Oper) : List Bool → Nat → Array Bool → Bool
  | true :: m, i, listed => (match l[i]? with | some o => valueOp o.op | none => false) && Region.free md l.toArray listed i && (Region.ready md l.toArray listed).contains i && takesB md l m (i + 1) (listed.setIfInBounds i true)
  | false :: m, i, listed => takesB md l m (i + 1) listed
  | [], _, _ => true
def takenL : List Bool → Nat → Array Bool → Array Bool
  | true :: m, i, listed => takenL m (i + 1) (listed.setIfInBounds i true)
  | false :: m, i, listed => takenL m (i + 1) listed
  | [], _, listed => listed
def countT : List Bool → Nat
  | true :: m => countT m + 1
  | false :: m => countT m
  | [] => 0
theorem takes_G {l : List Oper} (hs : Region.noSelect l.toArray = true) (hQ : ∀ c a d v w, Q (.panic c) (Act.put a d v) w → Q (.panic c) a w) {S : World → Prop} {w : World} (hS : S w) {R : Act → Prop} :
    ∀ (m : List Bool) (i fuel : Nat) (listed : Array Bool) (a : Act), takesB md l m i listed = true → m.length + i ≤ l.length →
      (∀ a', R a' → wpG P md l.toArray Q fuel S (takenL m i listed) a' w) → wpQuiet P l.toArray S R (maskRows m (l.drop i)) a → wpG P md l.toArray Q (fuel + countT m) S listed a w
  | [], i, fuel, listed, a, _, _, hk, h => hk a (by simpa [maskRows, wpQuiet] using h)
  | false :: m, i, fuel, listed, a, hb, hl, hk, h => by
    have hlt : i < l.length := by simp only [List.length_cons] at hl; omega
    rw [List.drop_eq_getElem_cons hlt] at h
    exact takes_G hs hQ hS m (i + 1) fuel listed a hb (by simp only [List.length_cons] at hl; omega) hk h
  | true :: m, i, fuel, listed, a, hb, hl, hk, h => by
    have hlt : i < l.length := by simp only [List.length_cons] at hl; omega
    rw [List.drop_eq_getElem_cons hlt] at h
    simp only [takesB, Bool.and_eq_true] at hb
    obtain ⟨⟨⟨hv, hf⟩, hr⟩, hb⟩ := hb
    have ho : l.toArray[i]? = some l[i] := by simp [hlt]
    rw [show l[i]? = some l[i] from by simp [hlt]] at hv
    dsimp only at hv
    simp only [maskRows, wpQuiet] at h
    have hin : i ∈ Region.ready md l.toArray listed := by simpa using hr
    show wpG P md l.toArray Q (fuel + countT m + 1) S listed a w
    by_cases hw : Region.wanted l[i] (yielded l.toArray a.tmps) = true
    · rw [if_pos hw] at h
      obtain ⟨v, h1, h2⟩ := h
      exact wpG_first ho (Region.noSelect_spec hs) (fun c a w => hQ c a _ _ w) _ S listed a w (Region.free_spec ho hf) hin (yields_of_quiet hv hw h1) hS
        (takes_G hs hQ hS m (i + 1) fuel _ _ hb (by simp only [List.length_cons] at hl; omega) hk h2)
    · rw [if_neg hw] at h
      exact wpG_first ho (Region.noSelect_spec hs) (fun c a w => hQ c a _ _ w) _ S listed a w (Region.free_spec ho hf) hin (.inr ⟨by simpa using hw, rfl⟩) hS
        (takes_G hs hQ hS m (i + 1) fuel _ _ hb (by simp only [List.length_cons] at hl; omega) hk h)
theorem wpG_done {listed : Array Bool} {a : Act} {w : World} (hr : Region.ready md ops listed = []) (h : Q .normal a w) : ∀ fuel, wpG P md ops Q fuel S listed a w
  | 0 => ⟨hr, h⟩
  | _ + 1 => ⟨fun _ => h, by rw [hr]; simp⟩
end
end Go.Proofs.Ytbbjpjkclealfaa
namespace Go.Proofs.Ytbbjpjkclealfaa
open Go
section
variable {P : Program} {Q : Exit → Act → World → Prop} {md : Region.Mode} {S : World → Prop}
def segtB (md : Region.Mode) (l : List Oper) (m : List Bool) (rd : List Nat) (fuel fuel' : Nat) (listed : Array Bool) : Bool :=
  decide (fuel = fuel' + 1 + countT m) && decide (m.length ≤ l.length) && takesB md l m 0 listed && decide (Region.ready md l.toArray (takenL m 0 listed) = rd) && !rd.isEmpty
/-- what reads is taken; then one after another of what is ready is tried -/
theorem wpG_seg {l : List Oper} (m : List Bool) (rd : List Nat) (fuel' : Nat) {fuel : Nat} {listed : Array Bool} {a : Act} {w : World} (hs : Region.noSelect l.toArray = true)
    (hQ : ∀ c a d v w, Q (.panic c) (Act.put a d v) w → Q (.panic c) a w) (hb : segtB md l m rd fuel fuel' listed = true) (hS : S w)
    (h : wpQuiet P l.toArray S (fun a' => ∀ i ∈ rd, wpOp P l.toArray Q i (fun a'' w'' => ∃ S' : World → Prop, (∀ x, S' x → S x) ∧ S' w'' ∧ wpG P md l.toArray Q fuel' S' ((takenL m 0 listed).setIfInBounds i true) a'' w'') a' w) (maskRows m l) a) :
    wpG P md l.toArray Q fuel S listed a w := by
  simp only [segtB, Bool.and_eq_true, decide_eq_true_eq, Bool.not_eq_true'] at hb
  obtain ⟨⟨⟨⟨h1, h2⟩, h3⟩, h4⟩, h5⟩ := hb
  subst h1
  refine takes_G (P := P) (md := md) hs hQ hS (R := fun a' => ∀ i ∈ rd, wpOp P l.toArray Q i (fun a'' w'' => ∃ S' : World → Prop, (∀ x, S' x → S x) ∧ S' w'' ∧ wpG P md l.toArray Q fuel' S' ((takenL m 0 listed).setIfInBounds i true) a'' w'') a' w) m 0 (fuel' + 1) listed a h3 (by omega) (fun a' hq => ?_) (by simpa using h)
  refine ⟨fun h0 => (by rw [h4] at h0; rw [h0] at h5; cases h5), fun j hj => ?_⟩
  rw [h4] at hj
  exact hq j hj
def segeB (md : Region.Mode) (l : List Oper) (m : List Bool) (fuel : Nat) (listed : Array Bool) : Bool :=
  decide (countT m ≤ fuel) && decide (m.length ≤ l.length) && takesB md l m 0 listed && decide (Region.ready md l.toArray (takenL m 0 listed) = [])
theorem wpG_end {l : List Oper} (m : List Bool) {fuel : Nat} {listed : Array Bool} {a : Act} {w : World} (hs : Region.noSelect l.toArray = true)
    (hQ : ∀ c a d v w, Q (.panic c) (Act.put a d v) w → Q (.panic c) a w) (hb : segeB md l m fuel listed = true) (hS : S w)
    (h : wpQuiet P l.toArray S (fun a' => Q .normal a' w) (maskRows m l) a) : wpG P md l.toArray Q fuel S listed a w := by
  simp only [segeB, Bool.and_eq_true, decide_eq_true_eq] at hb
  obtain ⟨⟨⟨h1, h2⟩, h3⟩, h4⟩ := hb
  have := takes_G (P := P) (md := md) hs hQ hS (R := fun a' => Q .normal a' w) m 0 (fuel - countT m) listed a h3 (by omega) (fun a' hq => wpG_done h4 hq _) (by simpa using h)
  rwa [Nat.sub_add_cancel h1] at this
theorem wp_region_G {id : Nat} {a : Act} {w : World} {l : List Oper} (S : World → Prop) (hm : P.follows .mixedOrders = true) (h : wpG P .any l.toArray Q l.length S (Array.replicate l.length false) a w.drew) :
    (Code.region id l.toArray true).wp P Q a w := wp_region_any hm (wpAny_of_G _ _ _ _ _ (by simpa using h))
/-- one that is carried out -/
theorem segt_run {l : List Oper} {fuel : Nat} {listed : Array Bool} {i : Nat} {o : Oper} {a : Act} {w : World} (ho : l.toArray[i]? = some o) (hw : Region.wanted o (yielded l.toArray a.tmps) = true)
    (h : ∀ K : Act → World → Prop, (∀ a' w', (∃ S' : World → Prop, (∀ x, S' x → S x) ∧ S' w' ∧ wpG P md l.toArray Q fuel S' listed a' w') → K a' w') → o.wp P a w K Q) :
    wpOp P l.toArray Q i (fun a'' w'' => ∃ S' : World → Prop, (∀ x, S' x → S x) ∧ S' w'' ∧ wpG P md l.toArray Q fuel S' listed a'' w'') a w := by
  unfold wpOp
  simp only [ho, hw, if_true]
  exact .inl (h _ fun _ _ h => h)
end
end Go.Proofs.Ytbbjpjkclealfaa
namespace Go.Proofs.Ytbbjpjkclealfaa
open Go.ChangeShapes Go.WideShapes Go.ChangeAt Go.RowKit Go.BigFrame
set_option linter.unusedVariables false

set_option maxRecDepth 100000 in
theorem skeysok_any (v : Value) (ks : List K2) (w : World) (h : keysAt w v ks) (hs : ks.length ≤ 2000000) : Calls Try.prog 52 #[v] w fun e w' => e = .returned (.bool (keysOkR ks)) ∧ Below w.heap.size w w' := by
  obtain ⟨a, cap, rfl, hcap, hcells⟩ := h
  go_enter Try.func52, Try.ntmps52
  go_wp2
  go_loopw [3] (fun i wr => ∃ k : Nat, k ≤ ks.length ∧ i = .int .i64 k ∧ (List.range k).all (stepB ks) = true ∧ Below w.heap.size w wr) (fun i _ => ks.length - (intOf i).toNat)
  case atStart => exact ⟨0, Nat.zero_le _, rfl, rfl, Below.refl _ _⟩
  case round =>
    obtain ⟨k, hk, rfl, hall, hb⟩ := hrel
    by_cases hlt : k < ks.length
    · obtain ⟨g, off, rfl, hg, hcs⟩ := hcells.resolve_left (by omega)
      have z0 : (0 : Int) ≤ (k : Int) := by omega
      have z1 : (k : Int) < (ks.length : Int) := by omega
      have c1 := hcs k hlt
      have HK := Lib.hid (fun w => skeyok_any (ks.getD k (0, 0)) w)
      have hst : stepB ks k = (keyOkB (ks.getD k (0, 0)) && (decide (k = 0) || aheadB (ks.getD (k - 1) (0, 0)) (ks.getD k (0, 0)))) := rfl
      have hsu := keysR_succ ks k
      have HST := Lib.hid hst; clear hst
      cases hko : keyOkB (ks.getD k (0, 0)) with
      | false =>
        rw [hko] at HK HST
        have hf : keysOkR ks = false := stepB_false hlt (by rw [HST.out]; rfl)
        have HF := Lib.hid hf
        clear hcs hcells hko hf HST hsu
        generalize ks.getD k (0, 0) = kx at *
        have L1 := fun w' hb => key_load c1 (w' := w') hg hb
        clear c1
        go_wp2
        refine wp_region_below w (by kernel_rfl) (by kernel_rfl) hb ?_
        repeat (first
          | go_big_quiet_skip
          | (go_big_quiet_want
             first
               | (go_big_quiet_op; go_big_quiet_on)
               | (refine q_load 41 _ _ _ rfl rfl L1 ?_; simp only [Act.put, List.setIfInBounds_toArray, List.set_cons_zero, List.set_cons_succ]; go_big_quiet_on)
               | (go_big_quiet_op; refine ⟨_, fun _ _ => rfl, ?_⟩; go_big_quiet_on)
               | (go_big_quiet_op; apply Exists.intro; refine ⟨fun w' hw' => ?_, ?_⟩
                  · first
                    | (refine (HK.out w').mono ?_
                       rintro e w2 ⟨rfl, hb2⟩
                       exact ⟨rfl, hw'.trans (hb2.mono hw'.size)⟩)
                  go_big_quiet_on)))
        refine wpQuiet_nil ?_
        intro w2 hb2
        clear L1 HK hb
        go_wp2
        go_ret
        exact ⟨by rw [HF.out]; rfl, hb2⟩
      | true =>
        rw [hko] at HK HST
        by_cases hk0 : k = 0
        · subst hk0
          have ht : (List.range (0 + 1)).all (stepB ks) = true := by rw [hsu, HST.out]; rfl
          have HT := Lib.hid ht
          clear hcs hcells hko ht HST hsu hall
          generalize ks.getD 0 (0, 0) = kx at *
          have L1 := fun w' hb => key_load c1 (w' := w') hg hb
          clear c1
          have y0 : ¬ (0 : Int) < ((0 : Nat) : Int) := by omega
          simp only [Nat.zero_mul, Nat.add_zero] at L1
          go_wp2
          refine wp_region_below w (by kernel_rfl) (by kernel_rfl) hb ?_
          repeat (first
            | go_big_quiet_skip
            | (go_big_quiet_want
               first
                 | (go_big_quiet_op; go_big_quiet_on)
                 | (refine q_load 41 _ _ _ rfl rfl L1 ?_; simp only [Act.put, List.setIfInBounds_toArray, List.set_cons_zero, List.set_cons_succ]; go_big_quiet_on)
                 | (go_big_quiet_op; refine ⟨_, fun _ _ => rfl, ?_⟩; go_big_quiet_on)
                 | (go_big_quiet_op; apply Exists.intro; refine ⟨fun w' hw' => ?_, ?_⟩
                    · first
                      | (refine (HK.out w').mono ?_
                         rintro e w2 ⟨rfl, hb2⟩
                         exact ⟨rfl, hw'.trans (hb2.mono hw'.size)⟩)
                    go_big_quiet_on)))
          refine wpQuiet_nil ?_
          intro w2 hb2
          clear L1 HK hb
          go_wp2
          exact ⟨⟨1, by omega, by go_num, HT.out, hb2⟩, by simp [intOf]; omega⟩
        · have ha := hcs (k - 1) (by omega)
          rw [show off + (k - 1) * 2 = off + (k - 1) * 2 from rfl] at ha
          have HA := Lib.hid (fun w => sahead_any (ks.getD (k - 1) (0, 0)) (ks.getD k (0, 0)) w)
          have d0 : decide (k = 0) = false := by simpa using hk0
          rw [d0] at HST
          have y0 : (0 : Int) < (k : Int) := by omega
          have yk : 0 < k := by omega
          have y1 : (0 : Int) ≤ (k : Int) - 1 := by omega
          have y2 : (k : Int) - 1 < (ks.length : Int) := by omega
          have ew : IntKind.i64.wrap ((k : Int) - 1) = (k : Int) - 1 := IntWalk.i64_in _ (by omega)
          have et : ((k : Int) - 1).toNat = k - 1 := by omega
          cases hah : aheadB (ks.getD (k - 1) (0, 0)) (ks.getD k (0, 0)) with
          | false =>
            rw [hah] at HA HST
            have hf : keysOkR ks = false := stepB_false hlt (by rw [HST.out]; rfl)
            have HF := Lib.hid hf
            clear hcs hcells hko hf HST hsu hah
            generalize ks.getD k (0, 0) = kx at *
            generalize ks.getD (k - 1) (0, 0) = ky at *
            have L1 := fun w' hb => key_load c1 (w' := w') hg hb
            have L2 := fun w' hb => key_load ha (w' := w') hg hb
            clear c1 ha
            go_wp2
            refine wp_region_below w (by kernel_rfl) (by kernel_rfl) hb ?_
            repeat (first
              | go_big_quiet_skip
              | (go_big_quiet_want
                 first
                   | (go_big_quiet_op; go_big_quiet_on)
                   | (refine q_load 41 _ _ _ rfl rfl L1 ?_; simp only [Act.put, List.setIfInBounds_toArray, List.set_cons_zero, List.set_cons_succ]; go_big_quiet_on)
                   | (refine q_load 41 _ _ _ rfl rfl L2 ?_; simp only [Act.put, List.setIfInBounds_toArray, List.set_cons_zero, List.set_cons_succ]; go_big_quiet_on)
                   | (go_big_quiet_op; refine ⟨_, fun _ _ => rfl, ?_⟩; go_big_quiet_on)
                   | (go_big_quiet_op; apply Exists.intro; refine ⟨fun w' hw' => ?_, ?_⟩
                      · first
                        | (refine (HK.out w').mono ?_
                           rintro e w2 ⟨rfl, hb2⟩
                           exact ⟨rfl, hw'.trans (hb2.mono hw'.size)⟩)
                        | (refine (HA.out w').mono ?_
                           rintro e w2 ⟨rfl, hb2⟩
                           exact ⟨rfl, hw'.trans (hb2.mono hw'.size)⟩)
                      go_big_quiet_on)))
            refine wpQuiet_nil ?_
            intro w2 hb2
            clear L1 L2 HK HA hb
            go_wp2
            go_ret
            exact ⟨by rw [HF.out]; rfl, hb2⟩
          | true =>
            rw [hah] at HA HST
            have ht : (List.range (k + 1)).all (stepB ks) = true := by rw [hsu, hall, HST.out]; rfl
            have HT := Lib.hid ht
            clear hcs hcells hko ht HST hsu hah hall
            generalize ks.getD k (0, 0) = kx at *
            generalize ks.getD (k - 1) (0, 0) = ky at *
            have L1 := fun w' hb => key_load c1 (w' := w') hg hb
            have L2 := fun w' hb => key_load ha (w' := w') hg hb
            clear c1 ha
            go_wp2
            refine wp_region_below w (by kernel_rfl) (by kernel_rfl) hb ?_
            repeat (first
              | go_big_quiet_skip
              | (go_big_quiet_want
                 first
                   | (go_big_quiet_op; go_big_quiet_on)
                   | (refine q_load 41 _ _ _ rfl rfl L1 ?_; simp only [Act.put, List.setIfInBounds_toArray, List.set_cons_zero, List.set_cons_succ]; go_big_quiet_on)
                   | (refine q_load 41 _ _ _ rfl rfl L2 ?_; simp only [Act.put, List.setIfInBounds_toArray, List.set_cons_zero, List.set_cons_succ]; go_big_quiet_on)
                   | (go_big_quiet_op; refine ⟨_, fun _ _ => rfl, ?_⟩; go_big_quiet_on)
                   | (go_big_quiet_op; apply Exists.intro; refine ⟨fun w' hw' => ?_, ?_⟩
                      · first
                        | (refine (HK.out w').mono ?_
                           rintro e w2 ⟨rfl, hb2⟩
                           exact ⟨rfl, hw'.trans (hb2.mono hw'.size)⟩)
                        | (refine (HA.out w').mono ?_
                           rintro e w2 ⟨rfl, hb2⟩
                           exact ⟨rfl, hw'.trans (hb2.mono hw'.size)⟩)
                      go_big_quiet_on)))
            refine wpQuiet_nil ?_
            intro w2 hb2
            clear L1 L2 HK HA hb
            go_wp2
            exact ⟨⟨k + 1, by omega, by go_num, HT.out, hb2⟩, by simp [intOf]; omega⟩
    · obtain rfl : k = ks.length := by omega
      have HF := Lib.hid hall
      go_wp2
      go_ret
      exact ⟨by unfold keysOkR; rw [HF.out]; rfl, hb⟩
end Go.Proofs.Ytbbjpjkclealfaa
namespace Go.Proofs.Ytbbjpjkclealfaa
set_option linter.unusedVariables false

theorem cell_two_new (w : World) (x y : Value) (e : TypeId) : ∀ j u, ([x, y] : List Value)[j]? = some u → (w.alloc (.cells #[x, y] e)).cell? ((⟨w.heap.size, 0, none⟩ : Addr).add j) = some u := by
  intro j u hj
  have : j < 2 := by have := (List.getElem?_eq_some_iff.1 hj).1; simpa using this
  rcases (by omega : j = 0 ∨ j = 1) with rfl | rfl <;> simpa [Addr.add_lit] using hj
end Go.Proofs.Ytbbjpjkclealfaa
namespace Go.Proofs.Ytbbjpjkclealfaa
open Go.ChangeShapes Go.WideShapes Go.ChangeAt Go.RowKit Go.BigFrame
set_option linter.unusedVariables false

theorem set_cellsD {w : World} {B j : Nat} {cs : Array Value} {t : TypeId} (u : Value) (h : w.heap[B]? = some (.cells cs t (0, 0))) : (w.setCell ⟨B, j, none⟩ u).heap[B]? = some (.cells (cs.setIfInBounds j u) t (0, 0)) := by
  obtain ⟨hlt, hk⟩ := Array.getElem?_eq_some_iff.1 h
  show (w.heap.modify B _)[B]? = _
  rw [Array.getElem?_eq_getElem (by rw [Array.size_modify]; exact hlt), Array.getElem_modify_self, hk]
  rfl
end Go.Proofs.Ytbbjpjkclealfaa
namespace Go.Proofs.Ytbbjpjkclealfaa
open Go.ChangeShapes Go.WideShapes Go.ChangeAt Go.RowKit Go.BigFrame
set_option linter.unusedVariables false

structure Row2 (w : World) (b : Nat) (x y : Value) : Prop where
  c0 : w.cell? ⟨b, 0, none⟩ = some x
  c1 : w.cell? ⟨b, 1, none⟩ = some y
  f0 : w.frozen? ⟨b, 0, none⟩ = false
  f1 : w.frozen? ⟨b, 1, none⟩ = false
theorem row2_of {w : World} {b : Nat} {x y : Value} {t : TypeId} (h : w.heap[b]? = some (.cells #[x, y] t (0, 0))) : Row2 w b x y :=
  ⟨by rw [cell_of_row _ _ 0 _ _ _ h]; rfl, by rw [cell_of_row _ _ 1 _ _ _ h]; rfl, by simp [World.frozen?, h], by simp [World.frozen?, h]⟩
theorem set2 {w : World} {b : Nat} {x y : Value} {t : TypeId} (p q : Value) (h : w.heap[b]? = some (.cells #[x, y] t (0, 0))) :
    ((w.setCell ⟨b, 0, none⟩ p).setCell ⟨b, 1, none⟩ q).heap[b]? = some (.cells #[p, q] t (0, 0)) := set_cellsD _ (set_cellsD _ h)
theorem grown2 (w : World) (b : Nat) (p q : Value) : w.grownBy ((w.setCell ⟨b, 0, none⟩ p).setCell ⟨b, 1, none⟩ q) (some b) :=
  grownT (Lib.grownBy_setCell w b 0 p) (Lib.grownBy_setCell _ b 1 q)
end Go.Proofs.Ytbbjpjkclealfaa
namespace Go.Proofs.Ytbbjpjkclealfaa
open Go.ChangeShapes Go.WideShapes Go.ChangeAt Go.RowKit Go.BigFrame
set_option linter.unusedVariables false

theorem own_shape {w : World} {base n : Nat} {e : TypeId} {v : Value} {size : Nat} {xs : List Value} (h : w.ownsRow base e size v n xs) : ∃ a n c, v = .slice a n c := by
  rcases h.2 with ⟨h, _⟩ | ⟨g, cap, cur, h, _⟩
  · exact ⟨_, _, _, h⟩
  · exact ⟨_, _, _, h⟩
end Go.Proofs.Ytbbjpjkclealfaa
namespace Go.Proofs.Ytbbjpjkclealfaa
open Go.ChangeShapes Go.WideShapes Go.ChangeAt Go.RowKit Go.BigFrame
set_option linter.unusedVariables false

theorem row_set2 {W : World} {b b' : Nat} {o : Obj} (h : W.heap[b']? = some o) (hne : b' ≠ b) (p q : Value) : ((W.setCell ⟨b, 0, none⟩ p).setCell ⟨b, 1, none⟩ q).heap[b']? = some o := by
  rw [Below.heap_setCell _ _ _ _ hne, Below.heap_setCell _ _ _ _ hne]; exact h
end Go.Proofs.Ytbbjpjkclealfaa
namespace Go.Proofs.Ytbbjpjkclealfaa
open Go.ChangeShapes Go.WideShapes Go.ChangeAt Go.RowKit Go.BigFrame
set_option linter.unusedVariables false

set_option maxRecDepth 100000 in
set_option maxHeartbeats 4000000 in
theorem smerge_any (va vb : Value) (A B : List K2) (both : Bool) (w : World) (ha : keysAt w va A) (hb : keysAt w vb B) (hsA : A.length ≤ 2000000) (hsB : B.length ≤ 2000000) :
    Calls Try.prog 101 #[va, vb, .bool both] w fun e w' => ∃ v, e = .returned v ∧ w'.ownsRow w.heap.size 41 2 v (mergeV both A B).length (keyCells (mergeV both A B)) ∧ Below w.heap.size w w' := by
  obtain ⟨i0, hi, hz0, hz1, hz2⟩ := info_parts infoK
  have hown0 := World.ownsRow_made (base := w.heap.size) (e := 41) (size := 2) w #[] 0 (Nat.le_refl _) (by unfold maxLen; omega) rfl
  have hb0 := (Below.refl w.heap.size w).alloc (Nat.le_refl _) (.cells #[] 41)
  have KA := Lib.hid (fun w' (h : Below w.heap.size w w') => skeysok_any va A w' (keysAt_below ha h) hsA)
  have KB := Lib.hid (fun w' (h : Below w.heap.size w w') => skeysok_any vb B w' (keysAt_below hb h) hsB)
  generalize hmv : mergeV both A B = M
  go_enter Try.func101, Try.ntmps101
  go_wp2_with fail
  generalize w.alloc (.cells #[] 41) = W at *
  refine (KA.out _ hb0).mono ?_
  rintro e w1 ⟨rfl, hbx⟩
  have hown1 := own_below hown0 hbx
  have hb1 := hb0.trans (hbx.mono hb0.size)
  clear hbx hown0 hb0 KA
  cases hA : keysOkR A with
  | false =>
    obtain rfl : M = [] := by rw [← hmv]; unfold mergeV; rw [hA]; rfl
    go_wp2
    go_ret
    exact ⟨_, rfl, hown1, hb1⟩
  | true =>
    go_wp2_with fail
    refine (KB.out _ hb1).mono ?_
    rintro e w2 ⟨rfl, hbx⟩
    have hown2 := own_below hown1 hbx
    have hb2 := hb1.trans (hbx.mono hb1.size)
    clear hbx hown1 hb1 KB
    cases hB : keysOkR B with
    | false =>
      obtain rfl : M = [] := by rw [← hmv]; unfold mergeV; rw [hA, hB]; rfl
      go_wp2
      go_ret
      exact ⟨_, rfl, hown2, hb2⟩
    | true =>
      have hML : mergeL both A B = M := by rw [← hmv]; unfold mergeV; rw [hA, hB]; rfl
      have hlen := mergeL_len both A B
      rw [hML] at hlen
      obtain ⟨aa, ca, rfl, hca, hcA⟩ := ha
      obtain ⟨ab, cb, rfl, hcb, hcB⟩ := hb
      clear hA hB hmv
      go_wp2
      go_loopw [7, 8, 9] (fun v i j wr => ∃ (x y : Nat) (out : List K2), x ≤ A.length ∧ y ≤ B.length ∧ i = .int .i64 x ∧ j = .int .i64 y ∧ out ++ mergeL both (A.drop x) (B.drop y) = M ∧
          wr.ownsRow w.heap.size 41 2 v out.length (keyCells out) ∧ Below w.heap.size w wr) (fun _ i j _ => (A.length - (intOf i).toNat) + (B.length - (intOf j).toNat))
      case atStart => exact ⟨0, 0, [], by omega, by omega, rfl, rfl, by simpa using hML, hown2, hb2⟩
      case round =>
        obtain ⟨x, y, out, hx, hy, rfl, rfl, hout, hown, hbr⟩ := hrel
        clear hown2 hb2
        have hol : out.length ≤ M.length := by rw [← hout]; simp
        by_cases hxA : x < A.length
        · by_cases hyB : y < B.length
          ·
            obtain ⟨ga, offa, rfl, hga, hcsA⟩ := hcA.resolve_left (by omega)
            have cA := hcsA x hxA
            have LA : ∀ w', Below wr.heap.size wr w' → (loadVar 41 ⟨ga, offa + x * 2, none⟩).run Try.prog w' = .ok (kv (A.getD x (0, 0))) w' := fun w' h => key_load cA hga (hbr.trans (h.mono hbr.size))
            clear hcsA hcA
            obtain ⟨gb, offb, rfl, hgb, hcsB⟩ := hcB.resolve_left (by omega)
            have cB := hcsB y hyB
            have LB : ∀ w', Below wr.heap.size wr w' → (loadVar 41 ⟨gb, offb + y * 2, none⟩).run Try.prog w' = .ok (kv (B.getD y (0, 0))) w' := fun w' h => key_load cB hgb (hbr.trans (h.mono hbr.size))
            clear hcsB hcB
            have hdA := drop_at A x hxA
            have hdB := drop_at B y hyB
            have hco := mergeL_cons both (A.getD x (0, 0)) (A.drop (x + 1)) (B.getD y (0, 0)) (B.drop (y + 1))
            rw [← hdA, ← hdB] at hco
            have HAB := Lib.hid (fun w => sahead_any (A.getD x (0, 0)) (B.getD y (0, 0)) w)
            have HBA := Lib.hid (fun w => sahead_any (B.getD y (0, 0)) (A.getD x (0, 0)) w)
            cases hab : aheadB (A.getD x (0, 0)) (B.getD y (0, 0)) with
            | true =>
              rw [hab] at HAB
              rw [if_pos hab] at hco
              have hnx : (out ++ [A.getD x (0, 0)]) ++ mergeL both (A.drop (x + 1)) (B.drop y) = M := by
                rw [← hout, hco]; simp
              clear HBA hco hdA hdB hout hab
              generalize B.getD y (0, 0) = ky at *
              generalize A.getD x (0, 0) = kx at *
              obtain ⟨p, q⟩ := kx
              have HNX := Lib.hid hnx; have CA := Lib.hid cA
              clear hnx cA cB
              have z0 : (0 : Int) ≤ (x : Int) := by omega
              have z1 : (x : Int) < (A.length : Int) := by omega
              have y0 : (0 : Int) ≤ (y : Int) := by omega
              have y1 : (y : Int) < (B.length : Int) := by omega
              have n1 : ¬ (y : Int) = (B.length : Int) := by omega
              have n2 : ¬ y = B.length := by omega
              have n3 : ((y : Int) == (B.length : Int)) = false := beq_eq_false_iff_ne.2 n1
              have m1 : ¬ (x : Int) = (A.length : Int) := by omega
              have m2 : ¬ x = A.length := by omega
              have m3 : ((x : Int) == (A.length : Int)) = false := beq_eq_false_iff_ne.2 m1
              go_wp2
              refine wp_region_below wr (by kernel_rfl) (by kernel_rfl) (Below.refl _ _) ?_
              repeat (first
                | go_big_quiet_skip
                | (go_big_quiet_want
                   first
                     | (go_big_quiet_op; go_big_quiet_on)
                     | (refine q_load 41 _ _ _ rfl rfl LA ?_; simp only [Act.put, List.setIfInBounds_toArray, List.set_cons_zero, List.set_cons_succ]; go_big_quiet_on)
                     | (refine q_load 41 _ _ _ rfl rfl LB ?_; simp only [Act.put, List.setIfInBounds_toArray, List.set_cons_zero, List.set_cons_succ]; go_big_quiet_on)
                     | (go_big_quiet_op; refine ⟨_, fun _ _ => rfl, ?_⟩; go_big_quiet_on)
                     | (go_big_quiet_op; apply Exists.intro; refine ⟨fun w' hw' => ?_, ?_⟩
                        · first
                          | (refine (HAB.out w').mono ?_
                             rintro e w2 ⟨rfl, hb2⟩
                             exact ⟨rfl, hw'.trans (hb2.mono hw'.size)⟩)
                        go_big_quiet_on)))
              refine wpQuiet_nil ?_
              intro w2 hb2
              clear LA LB HAB
              have hown2 := own_below hown hb2
              have hbq := hbr.trans (hb2.mono hbr.size)
              have d1 : w2.cell? ⟨ga, offa + x * 2, none⟩ = some (.int .i64 p) := by rw [hbq.cell (p := ⟨ga, offa + x * 2, none⟩) hga]; exact CA.out.1
              have d2 : w2.cell? ⟨ga, offa + x * 2 + 1, none⟩ = some (.int .i64 q) := by rw [hbq.cell (p := ⟨ga, offa + x * 2 + 1, none⟩) hga]; exact CA.out.2
              have hns := hbq.size
              clear hown hbr hb2
              go_wp2_with (at_builtin; refine wpList_append_own _ rfl (.tmp 64) (.tmp 69) 25 rfl w.heap.size 41 i0 (.agg #[.int .i64 0, .int .i64 0]) 2 16 Try.underlying25 hi hz0 hz1 hz2 rfl (by decide) _ _ _ rfl (hown2.alloc _) ⟨w2.heap.size, 0, none⟩ 1 1 [.int .i64 p, .int .i64 q] rfl rfl (cell_two_new _ _ _ _) (by intro u hu; simp at hu; rcases hu with rfl | rfl <;> rfl) (by unfold maxLen; omega) (by omega) (by simp; omega) ?_; intro v' w5 hown' hgrow _)
              have R : w5.ownsRow w.heap.size 41 2 v' (out ++ [(p, q)]).length (keyCells (out ++ [(p, q)])) ∧ Below w.heap.size w w5 := by
                refine ⟨by rw [keyCells_snoc]; simpa using hown', (hbq.alloc hbq.size _).grown hgrow (by simp; omega) (fun g hg => (hown2.lt g hg).1)⟩
              have HR := Lib.hid R
              clear R hown' hgrow hown2 hbq
              go_wp2
              exact ⟨⟨x + 1, y, out ++ [(p, q)], by omega, by omega, by go_num, by go_num, HNX.out, HR.out.1, HR.out.2⟩, by simp [intOf]; omega⟩
            | false =>
              cases hba : aheadB (B.getD y (0, 0)) (A.getD x (0, 0)) with
              | true =>
                rw [hab] at HAB
                rw [hba] at HBA
                rw [if_neg (by rw [hab]; exact Bool.false_ne_true), if_pos hba] at hco
                have hnx : (out ++ [B.getD y (0, 0)]) ++ mergeL both (A.drop x) (B.drop (y + 1)) = M := by
                  rw [← hout, hco]; simp
                clear hco hdA hdB hout hab hba
                generalize A.getD x (0, 0) = kx at *
                generalize B.getD y (0, 0) = ky at *
                obtain ⟨p, q⟩ := ky
                have HNX := Lib.hid hnx; have CB := Lib.hid cB
                clear hnx cA cB
                have z0 : (0 : Int) ≤ (x : Int) := by omega
                have z1 : (x : Int) < (A.length : Int) := by omega
                have y0 : (0 : Int) ≤ (y : Int) := by omega
                have y1 : (y : Int) < (B.length : Int) := by omega
                have n1 : ¬ (y : Int) = (B.length : Int) := by omega
                have n2 : ¬ y = B.length := by omega
                have n3 : ((y : Int) == (B.length : Int)) = false := beq_eq_false_iff_ne.2 n1
                have m1 : ¬ (x : Int) = (A.length : Int) := by omega
                have m2 : ¬ x = A.length := by omega
                have m3 : ((x : Int) == (A.length : Int)) = false := beq_eq_false_iff_ne.2 m1
                go_wp2
                refine wp_region_below wr (by kernel_rfl) (by kernel_rfl) (Below.refl _ _) ?_
                repeat (first
                  | go_big_quiet_skip
                  | (go_big_quiet_want
                     first
                       | (go_big_quiet_op; go_big_quiet_on)
                       | (refine q_load 41 _ _ _ rfl rfl LA ?_; simp only [Act.put, List.setIfInBounds_toArray, List.set_cons_zero, List.set_cons_succ]; go_big_quiet_on)
                       | (refine q_load 41 _ _ _ rfl rfl LB ?_; simp only [Act.put, List.setIfInBounds_toArray, List.set_cons_zero, List.set_cons_succ]; go_big_quiet_on)
                       | (go_big_quiet_op; refine ⟨_, fun _ _ => rfl, ?_⟩; go_big_quiet_on)
                       | (go_big_quiet_op; apply Exists.intro; refine ⟨fun w' hw' => ?_, ?_⟩
                          · first
                            | (refine (HAB.out w').mono ?_
                               rintro e w2 ⟨rfl, hb2⟩
                               exact ⟨rfl, hw'.trans (hb2.mono hw'.size)⟩)
                          go_big_quiet_on)))
                refine wpQuiet_nil ?_
                intro w1' hb1'
                go_wp2
                refine wp_region_below wr (by kernel_rfl) (by kernel_rfl) hb1' ?_
                repeat (first
                  | go_big_quiet_skip
                  | (go_big_quiet_want
                     first
                       | (go_big_quiet_op; go_big_quiet_on)
                       | (refine q_load 41 _ _ _ rfl rfl LA ?_; simp only [Act.put, List.setIfInBounds_toArray, List.set_cons_zero, List.set_cons_succ]; go_big_quiet_on)
                       | (refine q_load 41 _ _ _ rfl rfl LB ?_; simp only [Act.put, List.setIfInBounds_toArray, List.set_cons_zero, List.set_cons_succ]; go_big_quiet_on)
                       | (go_big_quiet_op; refine ⟨_, fun _ _ => rfl, ?_⟩; go_big_quiet_on)
                       | (go_big_quiet_op; apply Exists.intro; refine ⟨fun w' hw' => ?_, ?_⟩
                          · first
                            | (refine (HBA.out w').mono ?_
                               rintro e w2 ⟨rfl, hb2⟩
                               exact ⟨rfl, hw'.trans (hb2.mono hw'.size)⟩)
                          go_big_quiet_on)))
                refine wpQuiet_nil ?_
                intro w2 hb2
                clear LA LB HAB HBA hb1'
                have hown2 := own_below hown hb2
                have hbq := hbr.trans (hb2.mono hbr.size)
                have d1 : w2.cell? ⟨gb, offb + y * 2, none⟩ = some (.int .i64 p) := by rw [hbq.cell (p := ⟨gb, offb + y * 2, none⟩) hgb]; exact CB.out.1
                have d2 : w2.cell? ⟨gb, offb + y * 2 + 1, none⟩ = some (.int .i64 q) := by rw [hbq.cell (p := ⟨gb, offb + y * 2 + 1, none⟩) hgb]; exact CB.out.2
                have hns := hbq.size
                clear hown hbr hb2
                go_wp2_with (at_builtin; refine wpList_append_own _ rfl (.tmp 89) (.tmp 94) 25 rfl w.heap.size 41 i0 (.agg #[.int .i64 0, .int .i64 0]) 2 16 Try.underlying25 hi hz0 hz1 hz2 rfl (by decide) _ _ _ rfl (hown2.alloc _) ⟨w2.heap.size, 0, none⟩ 1 1 [.int .i64 p, .int .i64 q] rfl rfl (cell_two_new _ _ _ _) (by intro u hu; simp at hu; rcases hu with rfl | rfl <;> rfl) (by unfold maxLen; omega) (by omega) (by simp; omega) ?_; intro v' w5 hown' hgrow _)
                have R : w5.ownsRow w.heap.size 41 2 v' (out ++ [(p, q)]).length (keyCells (out ++ [(p, q)])) ∧ Below w.heap.size w w5 := by
                  refine ⟨by rw [keyCells_snoc]; simpa using hown', (hbq.alloc hbq.size _).grown hgrow (by simp; omega) (fun g hg => (hown2.lt g hg).1)⟩
                have HR := Lib.hid R
                clear R hown' hgrow hown2 hbq
                go_wp2
                exact ⟨⟨x, y + 1, out ++ [(p, q)], by omega, by omega, by go_num, by go_num, HNX.out, HR.out.1, HR.out.2⟩, by simp [intOf]; omega⟩
              | false =>
                rw [hab] at HAB
                rw [hba] at HBA
                rw [if_neg (by rw [hab]; exact Bool.false_ne_true), if_neg (by rw [hba]; exact Bool.false_ne_true)] at hco
                have hnx : (out ++ (if both then [A.getD x (0, 0)] else [])) ++ mergeL both (A.drop (x + 1)) (B.drop (y + 1)) = M := by
                  rw [← hout, hco]; simp
                clear hco hdA hdB hout hab hba
                generalize A.getD x (0, 0) = kx at *
                generalize B.getD y (0, 0) = ky at *
                obtain ⟨p, q⟩ := kx
                have z0 : (0 : Int) ≤ (x : Int) := by omega
                have z1 : (x : Int) < (A.length : Int) := by omega
                have y0 : (0 : Int) ≤ (y : Int) := by omega
                have y1 : (y : Int) < (B.length : Int) := by omega
                have n1 : ¬ (y : Int) = (B.length : Int) := by omega
                have n2 : ¬ y = B.length := by omega
                have n3 : ((y : Int) == (B.length : Int)) = false := beq_eq_false_iff_ne.2 n1
                have m1 : ¬ (x : Int) = (A.length : Int) := by omega
                have m2 : ¬ x = A.length := by omega
                have m3 : ((x : Int) == (A.length : Int)) = false := beq_eq_false_iff_ne.2 m1
                cases both with
                | true =>
                  have hnx2 : (out ++ [(p, q)]) ++ mergeL true (A.drop (x + 1)) (B.drop (y + 1)) = M := hnx
                  have HNX := Lib.hid hnx2; have CA := Lib.hid cA
                  clear hnx hnx2 cA cB
                  go_wp2
                  refine wp_region_below wr (by kernel_rfl) (by kernel_rfl) (Below.refl _ _) ?_
                  repeat (first
                    | go_big_quiet_skip
                    | (go_big_quiet_want
                       first
                         | (go_big_quiet_op; go_big_quiet_on)
                         | (refine q_load 41 _ _ _ rfl rfl LA ?_; simp only [Act.put, List.setIfInBounds_toArray, List.set_cons_zero, List.set_cons_succ]; go_big_quiet_on)
                         | (refine q_load 41 _ _ _ rfl rfl LB ?_; simp only [Act.put, List.setIfInBounds_toArray, List.set_cons_zero, List.set_cons_succ]; go_big_quiet_on)
                         | (go_big_quiet_op; refine ⟨_, fun _ _ => rfl, ?_⟩; go_big_quiet_on)
                         | (go_big_quiet_op; apply Exists.intro; refine ⟨fun w' hw' => ?_, ?_⟩
                            · first
                              | (refine (HAB.out w').mono ?_
                                 rintro e w2 ⟨rfl, hb2⟩
                                 exact ⟨rfl, hw'.trans (hb2.mono hw'.size)⟩)
                            go_big_quiet_on)))
                  refine wpQuiet_nil ?_
                  intro w1' hb1'
                  go_wp2
                  refine wp_region_below wr (by kernel_rfl) (by kernel_rfl) hb1' ?_
                  repeat (first
                    | go_big_quiet_skip
                    | (go_big_quiet_want
                       first
                         | (go_big_quiet_op; go_big_quiet_on)
                         | (refine q_load 41 _ _ _ rfl rfl LA ?_; simp only [Act.put, List.setIfInBounds_toArray, List.set_cons_zero, List.set_cons_succ]; go_big_quiet_on)
                         | (refine q_load 41 _ _ _ rfl rfl LB ?_; simp only [Act.put, List.setIfInBounds_toArray, List.set_cons_zero, List.set_cons_succ]; go_big_quiet_on)
                         | (go_big_quiet_op; refine ⟨_, fun _ _ => rfl, ?_⟩; go_big_quiet_on)
                         | (go_big_quiet_op; apply Exists.intro; refine ⟨fun w' hw' => ?_, ?_⟩
                            · first
                              | (refine (HBA.out w').mono ?_
                                 rintro e w2 ⟨rfl, hb2⟩
                                 exact ⟨rfl, hw'.trans (hb2.mono hw'.size)⟩)
                            go_big_quiet_on)))
                  refine wpQuiet_nil ?_
                  intro w2 hb2
                  clear LA LB HAB HBA hb1'
                  have hown2 := own_below hown hb2
                  have hbq := hbr.trans (hb2.mono hbr.size)
                  have d1 : w2.cell? ⟨ga, offa + x * 2, none⟩ = some (.int .i64 p) := by rw [hbq.cell (p := ⟨ga, offa + x * 2, none⟩) hga]; exact CA.out.1
                  have d2 : w2.cell? ⟨ga, offa + x * 2 + 1, none⟩ = some (.int .i64 q) := by rw [hbq.cell (p := ⟨ga, offa + x * 2 + 1, none⟩) hga]; exact CA.out.2
                  have hns := hbq.size
                  clear hown hbr hb2
                  go_wp2_with (at_builtin; refine wpList_append_own _ rfl (.tmp 31) (.tmp 36) 25 rfl w.heap.size 41 i0 (.agg #[.int .i64 0, .int .i64 0]) 2 16 Try.underlying25 hi hz0 hz1 hz2 rfl (by decide) _ _ _ rfl (hown2.alloc _) ⟨w2.heap.size, 0, none⟩ 1 1 [.int .i64 p, .int .i64 q] rfl rfl (cell_two_new _ _ _ _) (by intro u hu; simp at hu; rcases hu with rfl | rfl <;> rfl) (by unfold maxLen; omega) (by omega) (by simp; omega) ?_; intro v' w5 hown' hgrow _)
                  have R : w5.ownsRow w.heap.size 41 2 v' (out ++ [(p, q)]).length (keyCells (out ++ [(p, q)])) ∧ Below w.heap.size w w5 := by
                    refine ⟨by rw [keyCells_snoc]; simpa using hown', (hbq.alloc hbq.size _).grown hgrow (by simp; omega) (fun g hg => (hown2.lt g hg).1)⟩
                  have HR := Lib.hid R
                  clear R hown' hgrow hown2 hbq
                  go_wp2
                  exact ⟨⟨x + 1, y + 1, out ++ [(p, q)], by omega, by omega, by go_num, by go_num, HNX.out, HR.out.1, HR.out.2⟩, by simp [intOf]; omega⟩
                | false =>
                  have hnx2 : out ++ mergeL false (A.drop (x + 1)) (B.drop (y + 1)) = M := by simpa using hnx
                  have HNX := Lib.hid hnx2
                  clear hnx hnx2 cA cB
                  go_wp2
                  refine wp_region_below wr (by kernel_rfl) (by kernel_rfl) (Below.refl _ _) ?_
                  repeat (first
                    | go_big_quiet_skip
                    | (go_big_quiet_want
                       first
                         | (go_big_quiet_op; go_big_quiet_on)
                         | (refine q_load 41 _ _ _ rfl rfl LA ?_; simp only [Act.put, List.setIfInBounds_toArray, List.set_cons_zero, List.set_cons_succ]; go_big_quiet_on)
                         | (refine q_load 41 _ _ _ rfl rfl LB ?_; simp only [Act.put, List.setIfInBounds_toArray, List.set_cons_zero, List.set_cons_succ]; go_big_quiet_on)
                         | (go_big_quiet_op; refine ⟨_, fun _ _ => rfl, ?_⟩; go_big_quiet_on)
                         | (go_big_quiet_op; apply Exists.intro; refine ⟨fun w' hw' => ?_, ?_⟩
                            · first
                              | (refine (HAB.out w').mono ?_
                                 rintro e w2 ⟨rfl, hb2⟩
                                 exact ⟨rfl, hw'.trans (hb2.mono hw'.size)⟩)
                            go_big_quiet_on)))
                  refine wpQuiet_nil ?_
                  intro w1' hb1'
                  go_wp2
                  refine wp_region_below wr (by kernel_rfl) (by kernel_rfl) hb1' ?_
                  repeat (first
                    | go_big_quiet_skip
                    | (go_big_quiet_want
                       first
                         | (go_big_quiet_op; go_big_quiet_on)
                         | (refine q_load 41 _ _ _ rfl rfl LA ?_; simp only [Act.put, List.setIfInBounds_toArray, List.set_cons_zero, List.set_cons_succ]; go_big_quiet_on)
                         | (refine q_load 41 _ _ _ rfl rfl LB ?_; simp only [Act.put, List.setIfInBounds_toArray, List.set_cons_zero, List.set_cons_succ]; go_big_quiet_on)
                         | (go_big_quiet_op; refine ⟨_, fun _ _ => rfl, ?_⟩; go_big_quiet_on)
                         | (go_big_quiet_op; apply Exists.intro; refine ⟨fun w' hw' => ?_, ?_⟩
                            · first
                              | (refine (HBA.out w').mono ?_
                                 rintro e w2 ⟨rfl, hb2⟩
                                 exact ⟨rfl, hw'.trans (hb2.mono hw'.size)⟩)
                            go_big_quiet_on)))
                  refine wpQuiet_nil ?_
                  intro w2 hb2
                  clear LA LB HAB HBA hb1'
                  have hown2 := own_below hown hb2
                  have hbq := hbr.trans (hb2.mono hbr.size)
                  go_wp2
                  exact ⟨⟨x + 1, y + 1, out, by omega, by omega, by go_num, by go_num, HNX.out, hown2, hbq⟩, by simp [intOf]; omega⟩
          ·
            obtain rfl : y = B.length := by omega
            obtain ⟨ga, offa, rfl, hga, hcsA⟩ := hcA.resolve_left (by omega)
            have cA := hcsA x hxA
            have LA : ∀ w', Below wr.heap.size wr w' → (loadVar 41 ⟨ga, offa + x * 2, none⟩).run Try.prog w' = .ok (kv (A.getD x (0, 0))) w' := fun w' h => key_load cA hga (hbr.trans (h.mono hbr.size))
            clear hcsA hcA
            have hdA := drop_at A x hxA
            have hdB : B.drop B.length = [] := List.drop_eq_nil_of_le (Nat.le_refl _)
            have hnx : (out ++ [A.getD x (0, 0)]) ++ mergeL both (A.drop (x + 1)) (B.drop B.length) = M := by
              rw [← hout, hdB, mergeL_nil_r, mergeL_nil_r, hdA]; simp
            generalize A.getD x (0, 0) = kx at *
            obtain ⟨p, q⟩ := kx
            have HNX := Lib.hid hnx; have CA := Lib.hid cA
            clear hdA hdB hnx hout cA
            have z0 : (0 : Int) ≤ (x : Int) := by omega
            have z1 : (x : Int) < (A.length : Int) := by omega
            have z2 : ¬ (B.length : Int) < (B.length : Int) := by omega
            go_wp2
            refine wp_region_below wr (by kernel_rfl) (by kernel_rfl) (Below.refl _ _) ?_
            repeat (first
              | go_big_quiet_skip
              | (go_big_quiet_want
                 first
                   | (go_big_quiet_op; go_big_quiet_on)
                   | (refine q_load 41 _ _ _ rfl rfl LA ?_; simp only [Act.put, List.setIfInBounds_toArray, List.set_cons_zero, List.set_cons_succ]; go_big_quiet_on)
                   | (go_big_quiet_op; refine ⟨_, fun _ _ => rfl, ?_⟩; go_big_quiet_on)
                   | (go_big_quiet_op; go_big_quiet_on)))
            refine wpQuiet_nil ?_
            intro w2 hb2
            clear LA
            have hown2 := own_below hown hb2
            have hbq := hbr.trans (hb2.mono hbr.size)
            have d1 : w2.cell? ⟨ga, offa + x * 2, none⟩ = some (.int .i64 p) := by rw [hbq.cell (p := ⟨ga, offa + x * 2, none⟩) hga]; exact CA.out.1
            have d2 : w2.cell? ⟨ga, offa + x * 2 + 1, none⟩ = some (.int .i64 q) := by rw [hbq.cell (p := ⟨ga, offa + x * 2 + 1, none⟩) hga]; exact CA.out.2
            have hns := hbq.size
            clear hown hbr hb2
            go_wp2_with (at_builtin; refine wpList_append_own _ rfl (.tmp 64) (.tmp 69) 25 rfl w.heap.size 41 i0 (.agg #[.int .i64 0, .int .i64 0]) 2 16 Try.underlying25 hi hz0 hz1 hz2 rfl (by decide) _ _ _ rfl (hown2.alloc _) ⟨w2.heap.size, 0, none⟩ 1 1 [.int .i64 p, .int .i64 q] rfl rfl (cell_two_new _ _ _ _) (by intro u hu; simp at hu; rcases hu with rfl | rfl <;> rfl) (by unfold maxLen; omega) (by omega) (by simp; omega) ?_; intro v' w5 hown' hgrow _)
            have R : w5.ownsRow w.heap.size 41 2 v' (out ++ [(p, q)]).length (keyCells (out ++ [(p, q)])) ∧ Below w.heap.size w w5 := by
              refine ⟨by rw [keyCells_snoc]; simpa using hown', (hbq.alloc hbq.size _).grown hgrow (by simp; omega) (fun g hg => (hown2.lt g hg).1)⟩
            have HR := Lib.hid R
            clear R hown' hgrow hown2 hbq
            go_wp2
            exact ⟨⟨x + 1, B.length, out ++ [(p, q)], by omega, by omega, by go_num, by go_num, HNX.out, HR.out.1, HR.out.2⟩, by simp [intOf]; omega⟩
        · by_cases hyB : y < B.length
          ·
            obtain rfl : x = A.length := by omega
            obtain ⟨gb, offb, rfl, hgb, hcsB⟩ := hcB.resolve_left (by omega)
            have cB := hcsB y hyB
            have LB : ∀ w', Below wr.heap.size wr w' → (loadVar 41 ⟨gb, offb + y * 2, none⟩).run Try.prog w' = .ok (kv (B.getD y (0, 0))) w' := fun w' h => key_load cB hgb (hbr.trans (h.mono hbr.size))
            clear hcsB hcB
            have hdB := drop_at B y hyB
            have hdA : A.drop A.length = [] := List.drop_eq_nil_of_le (Nat.le_refl _)
            have hnx : (out ++ [B.getD y (0, 0)]) ++ mergeL both (A.drop A.length) (B.drop (y + 1)) = M := by
              rw [← hout, hdA, mergeL_nil_l, mergeL_nil_l, hdB]; simp
            generalize B.getD y (0, 0) = ky at *
            obtain ⟨p, q⟩ := ky
            have HNX := Lib.hid hnx; have CB := Lib.hid cB
            clear hdA hdB hnx hout cB
            have y0 : (0 : Int) ≤ (y : Int) := by omega
            have y1 : (y : Int) < (B.length : Int) := by omega
            have n1 : ¬ (y : Int) = (B.length : Int) := by omega
            have n2 : ¬ y = B.length := by omega
            have n3 : ((y : Int) == (B.length : Int)) = false := beq_eq_false_iff_ne.2 n1
            have z2 : ¬ (A.length : Int) < (A.length : Int) := by omega
            go_wp2
            refine wp_region_below wr (by kernel_rfl) (by kernel_rfl) (Below.refl _ _) ?_
            repeat (first
              | go_big_quiet_skip
              | (go_big_quiet_want
                 first
                   | (go_big_quiet_op; go_big_quiet_on)
                   | (refine q_load 41 _ _ _ rfl rfl LB ?_; simp only [Act.put, List.setIfInBounds_toArray, List.set_cons_zero, List.set_cons_succ]; go_big_quiet_on)
                   | (go_big_quiet_op; refine ⟨_, fun _ _ => rfl, ?_⟩; go_big_quiet_on)
                   | (go_big_quiet_op; go_big_quiet_on)))
            refine wpQuiet_nil ?_
            intro w1' hb1'
            go_wp2
            refine wp_region_below wr (by kernel_rfl) (by kernel_rfl) hb1' ?_
            repeat (first
              | go_big_quiet_skip
              | (go_big_quiet_want
                 first
                   | (go_big_quiet_op; go_big_quiet_on)
                   | (refine q_load 41 _ _ _ rfl rfl LB ?_; simp only [Act.put, List.setIfInBounds_toArray, List.set_cons_zero, List.set_cons_succ]; go_big_quiet_on)
                   | (go_big_quiet_op; refine ⟨_, fun _ _ => rfl, ?_⟩; go_big_quiet_on)
                   | (go_big_quiet_op; go_big_quiet_on)))
            refine wpQuiet_nil ?_
            intro w2 hb2
            clear LB hb1'
            have hown2 := own_below hown hb2
            have hbq := hbr.trans (hb2.mono hbr.size)
            have d1 : w2.cell? ⟨gb, offb + y * 2, none⟩ = some (.int .i64 p) := by rw [hbq.cell (p := ⟨gb, offb + y * 2, none⟩) hgb]; exact CB.out.1
            have d2 : w2.cell? ⟨gb, offb + y * 2 + 1, none⟩ = some (.int .i64 q) := by rw [hbq.cell (p := ⟨gb, offb + y * 2 + 1, none⟩) hgb]; exact CB.out.2
            have hns := hbq.size
            clear hown hbr hb2
            go_wp2_with (at_builtin; refine wpList_append_own _ rfl (.tmp 89) (.tmp 94) 25 rfl w.heap.size 41 i0 (.agg #[.int .i64 0, .int .i64 0]) 2 16 Try.underlying25 hi hz0 hz1 hz2 rfl (by decide) _ _ _ rfl (hown2.alloc _) ⟨w2.heap.size, 0, none⟩ 1 1 [.int .i64 p, .int .i64 q] rfl rfl (cell_two_new _ _ _ _) (by intro u hu; simp at hu; rcases hu with rfl | rfl <;> rfl) (by unfold maxLen; omega) (by omega) (by simp; omega) ?_; intro v' w5 hown' hgrow _)
            have R : w5.ownsRow w.heap.size 41 2 v' (out ++ [(p, q)]).length (keyCells (out ++ [(p, q)])) ∧ Below w.heap.size w w5 := by
              refine ⟨by rw [keyCells_snoc]; simpa using hown', (hbq.alloc hbq.size _).grown hgrow (by simp; omega) (fun g hg => (hown2.lt g hg).1)⟩
            have HR := Lib.hid R
            clear R hown' hgrow hown2 hbq
            go_wp2
            exact ⟨⟨A.length, y + 1, out ++ [(p, q)], by omega, by omega, by go_num, by go_num, HNX.out, HR.out.1, HR.out.2⟩, by simp [intOf]; omega⟩
          ·
            obtain rfl : x = A.length := by omega
            obtain rfl : y = B.length := by omega
            have hdA : A.drop A.length = [] := List.drop_eq_nil_of_le (Nat.le_refl _)
            have hdB : B.drop B.length = [] := List.drop_eq_nil_of_le (Nat.le_refl _)
            rw [hdA, hdB, mergeL_nil_r, List.append_nil] at hout
            subst hout
            have z2 : ¬ (A.length : Int) < (A.length : Int) := by omega
            have z3 : ¬ (B.length : Int) < (B.length : Int) := by omega
            go_wp2
            go_ret
            exact ⟨_, rfl, hown, hbr⟩
end Go.Proofs.Ytbbjpjkclealfaa
namespace Go.Proofs.Ytbbjpjkclealfaa
open Go.ChangeShapes Go.WideShapes Go.ChangeAt Go.RowKit Go.BigFrame
set_option linter.unusedVariables false

theorem keys_few {ks : List K2} (h : keysOkR ks = true) : ks.length ≤ 1980 := by
  obtain ⟨h1, h2⟩ := (keysR_iff ks).1 h
  have hm : ∀ (l : List K2) (n : Int), (∀ k ∈ l, keyOkB k = true) → Rising l → (∀ k ∈ l, n ≤ (k.1 - 1) * 99 + k.2) → n ≤ 1981 → (l.length : Int) ≤ 1981 - n := by
    intro l
    induction l with
    | nil => intro n _ _ _ h; simp; omega
    | cons a l ih =>
      intro n g1 g2 g3 g4
      have ha := g1 a (List.mem_cons_self ..)
      have hp := g3 a (List.mem_cons_self ..)
      have g2' := List.pairwise_cons.1 g2
      have hb : (1 ≤ a.1 ∧ a.1 ≤ 20) ∧ 1 ≤ a.2 ∧ a.2 ≤ 99 := by unfold keyOkB at ha; simpa using ha
      have := ih ((a.1 - 1) * 99 + a.2 + 1) (fun k hk => g1 k (List.mem_cons_of_mem _ hk)) g2'.2 (fun k hk => by
        have h3 := g2'.1 k hk
        have hk1 := g1 k (List.mem_cons_of_mem _ hk)
        have hkb : (1 ≤ k.1 ∧ k.1 ≤ 20) ∧ 1 ≤ k.2 ∧ k.2 ≤ 99 := by unfold keyOkB at hk1; simpa using hk1
        rw [ahead_iff] at h3
        omega) (by omega)
      simp only [List.length_cons]
      omega
  have := hm ks 1 h1 h2 (fun k hk => by
    have hk1 := h1 k hk
    have hkb : (1 ≤ k.1 ∧ k.1 ≤ 20) ∧ 1 ≤ k.2 ∧ k.2 ≤ 99 := by unfold keyOkB at hk1; simpa using hk1
    omega) (by omega)
  omega
end Go.Proofs.Ytbbjpjkclealfaa
namespace Go.Proofs.Ytbbjpjkclealfaa
open Go.ChangeShapes Go.WideShapes Go.ChangeAt Go.RowKit Go.BigFrame
set_option linter.unusedVariables false

def setL : List Value → Nat → List Value → List Value
  | xs, _, [] => xs
  | xs, o, v :: r => setL (xs.set o v) (o + 1) r
theorem setL_cons (x : Value) : ∀ (vs : List Value) (xs : List Value) (o : Nat), setL (x :: xs) (o + 1) vs = x :: setL xs o vs
  | [], _, _ => rfl
  | v :: r, xs, o => by
    show setL ((x :: xs).set (o + 1) v) (o + 1 + 1) r = _
    rw [List.set_cons_succ]
    exact setL_cons x r (xs.set o v) (o + 1)
theorem setL_front : ∀ (a b post : List Value), a.length = b.length → setL (a ++ post) 0 b = b ++ post
  | [], [], _, _ => rfl
  | x :: a, y :: b, post, h => by
    show setL ((x :: (a ++ post)).set 0 y) (0 + 1) b = _
    rw [List.set_cons_zero, setL_cons, setL_front a b post (by simpa using h)]
    rfl
  | [], y :: b, _, h => by simp at h
  | x :: a, [], _, h => by simp at h
theorem own_setCells : ∀ (vs : List Value) (o : Nat) (w : World) {base g cap n : Nat} {e : TypeId} {size : Nat} {xs : List Value}, w.ownsRow base e size (.slice (some ⟨g, 0, none⟩) n cap) n xs →
    (w.setCells g o vs).ownsRow base e size (.slice (some ⟨g, 0, none⟩) n cap) n (setL xs o vs)
  | [], _, _, _, _, _, _, _, _, _, h => h
  | v :: r, o, w, _, _, _, _, _, _, _, h => by
    have h1 := (h.stored o v).1
    exact own_setCells r (o + 1) _ h1
theorem grown_setCells (g : Nat) : ∀ (vs : List Value) (o : Nat) (w : World), w.grownBy (w.setCells g o vs) (some g)
  | [], _, w => World.grownBy.refl _ _
  | v :: r, o, w => grown_trans (Lib.grownBy_setCell w g o v) (grown_setCells g r (o + 1) _)
end Go.Proofs.Ytbbjpjkclealfaa
namespace Go.Proofs.Ytbbjpjkclealfaa
open Go.ChangeShapes Go.WideShapes Go.ChangeAt Go.RowKit Go.BigFrame Go.Maps
set_option linter.unusedVariables false
set_option linter.unusedSimpArgs false

def QRow (w : World) (base : Nat) (v : Value) (C : List K2) : Prop :=
  (v = .slice none 0 0 ∧ C = []) ∨ ∃ b off c, v = .slice (some ⟨b, off, none⟩) C.length c ∧ base ≤ b ∧ b < w.heap.size ∧ C.length ≤ c ∧
    (∀ j, j < C.length * 2 → w.cell? ⟨b, off + j, none⟩ = (keyCells C)[j]?) ∧ ∀ j, j < c * 2 → (w.cell? ⟨b, off + j, none⟩).isSome = true ∧ w.frozen? ⟨b, off + j, none⟩ = false
theorem QRow.of_own {w : World} {base : Nat} {v : Value} {C : List K2} (h : w.ownsRow base 41 2 v C.length (keyCells C)) : QRow w base v C := by
  have hall := h
  rcases h.2 with ⟨rfl, h0⟩ | ⟨g, cap, cur, rfl, hb, hblk, hn, hm, hsz, hpre⟩
  · exact .inl ⟨rfl, List.length_eq_zero_iff.1 h0⟩
  · refine .inr ⟨g, 0, cap, rfl, hb, (hall.lt g rfl).2, hn, fun j hj => ?_, fun j hj => ⟨?_, ?_⟩⟩
    · rw [Nat.zero_add]; exact hall.cellAt j hj
    · rw [Nat.zero_add]
      have : w.cell? ⟨g, j, none⟩ = cur[j]? := by simp [World.cell?, hblk]
      rw [this, Array.getElem?_eq_getElem (by omega)]; rfl
    · rw [Nat.zero_add]; exact hall.frozenAt j
theorem QRow.kept {w w' : World} {base : Nat} {v : Value} {C : List K2} {row : Option Nat} (h : QRow w base v C) (hg : w.grownBy w' row) (hne : v.ownBlock = none ∨ v.ownBlock ≠ row) : QRow w' base v C := by
  rcases h with h | ⟨b, off, c, rfl, h1, h2, h3, h4, h5⟩
  · exact .inl h
  · have hbk : w'.heap[b]? = w.heap[b]? := hg.block b h2 (fun e => by rcases hne with h | h; cases h; exact h (show some b = row from e))
    refine .inr ⟨b, off, c, rfl, h1, Nat.lt_of_lt_of_le h2 hg.size, h3, fun j hj => ?_, fun j hj => ⟨?_, ?_⟩⟩
    · rw [World.cell?_of_block (w := w) (w' := w') (a := ⟨b, off + j, none⟩) hbk]; exact h4 j hj
    · rw [World.cell?_of_block (w := w) (w' := w') (a := ⟨b, off + j, none⟩) hbk]; exact (h5 j hj).1
    · rw [World.frozen?_of_block (w := w) (w' := w') (a := ⟨b, off + j, none⟩) hbk]; exact (h5 j hj).2
theorem QRow.below {w w' : World} {base : Nat} {v : Value} {C : List K2} (h : QRow w base v C) (hb : Below w.heap.size w w') : QRow w' base v C := by
  refine h.kept (grown_of_below' hb none) ?_
  cases v.ownBlock with
  | none => exact .inl rfl
  | some g => exact .inr (fun e => by cases e)
theorem QRow.shape {w : World} {base : Nat} {v : Value} {C : List K2} (h : QRow w base v C) : ∃ a c, v = .slice a C.length c := by
  rcases h with ⟨rfl, rfl⟩ | ⟨b, off, c, rfl, -⟩
  · exact ⟨_, _, rfl⟩
  · exact ⟨_, _, rfl⟩
theorem slice_one_run (g o n c : Nat) (hc : n + 1 ≤ c) : ∃ o', ((c - 1 = 0 ∧ o' = o) ∨ o' = o + 2) ∧ ∀ w : World, (Instr.slice 25 (.slice (some ⟨g, o, none⟩) (n + 1) c) (some (.int .i64 1)) none none).run Try.prog w = .ok (.slice (some ⟨g, o', none⟩) n (c - 1)) w := by
  have u := Try.underlying25
  obtain ⟨i0, hi, hz0, hz1, hz2⟩ := info_parts infoK
  by_cases h : c = 1
  · subst h
    obtain rfl : n = 0 := by omega
    exact ⟨o, .inl ⟨rfl, rfl⟩, fun w => by go_simp⟩
  · refine ⟨o + 2, .inr rfl, fun w => ?_⟩
    have h1 : ¬ c - 1 = 0 := by omega
    have h2 : (1 : Int) ≤ (n : Int) + 1 := by omega
    have h3 : (n : Int) + 1 ≤ (c : Int) := by omega
    go_simp
theorem QRow.head {w : World} {base : Nat} {v : Value} {k : K2} {C : List K2} (h : QRow w base v (k :: C)) :
    ∃ b off c, v = .slice (some ⟨b, off, none⟩) (C.length + 1) c ∧ base ≤ b ∧ w.cell? ⟨b, off, none⟩ = some (.int .i64 k.1) ∧ w.cell? ⟨b, off + 1, none⟩ = some (.int .i64 k.2) := by
  rcases h with ⟨-, h⟩ | ⟨b, off, c, rfl, h1, h2, h3, h4, h5⟩
  · cases h
  · exact ⟨b, off, c, rfl, h1, (h4 0 (by simp)).trans rfl, (h4 1 (by simp; omega)).trans rfl⟩
theorem QRow.tail {w : World} {base : Nat} {v : Value} {k : K2} {C : List K2} (h : QRow w base v (k :: C)) :
    ∃ v', (∀ w' : World, (Instr.slice 25 v (some (.int .i64 1)) none none).run Try.prog w' = .ok v' w') ∧ QRow w base v' C ∧ v'.ownBlock = v.ownBlock := by
  rcases h with ⟨-, h⟩ | ⟨b, off, c, rfl, h1, h2, h3, h4, h5⟩
  · cases h
  · rw [List.length_cons] at h3 h4 ⊢
    obtain ⟨o', ho, hr⟩ := slice_one_run b off C.length c h3
    refine ⟨_, hr, .inr ⟨b, o', c - 1, rfl, h1, h2, by omega, fun j hj => ?_, fun j hj => ?_⟩, rfl⟩
    · rcases ho with ⟨h0, -⟩ | rfl
      · omega
      · rw [show off + 2 + j = off + (j + 2) by omega, h4 (j + 2) (by omega)]
        rfl
    · rcases ho with ⟨h0, -⟩ | rfl
      · omega
      · rw [show off + 2 + j = off + (j + 2) by omega]
        exact h5 (j + 2) (by omega)
theorem keyCells_appQ (a b : List K2) : keyCells (a ++ b) = keyCells a ++ keyCells b := by simp [keyCells]
theorem src_keys {w : World} {u : Value} {ks : List K2} (hu : keysAt w u ks) : Src Try.prog 2 25 u ks.length (keyCells ks) w := by
  obtain ⟨a, cap, rfl, hcap, hcells⟩ := hu
  by_cases h0 : ks.length = 0
  · obtain rfl : ks = [] := List.length_eq_zero_iff.1 h0
    cases a with
    | none => exact Src.ofNil w Try.underlying25 cap
    | some a => exact Src.ofSlice w Try.underlying25 a 0 cap [] rfl (fun j u h => by cases h) (fun u h => by cases h)
  · obtain ⟨g, off, rfl, hg, hcs⟩ := hcells.resolve_left h0
    exact Src.ofSlice w Try.underlying25 ⟨g, off, none⟩ ks.length cap (keyCells ks) (keyCells_len ks) (kyCells_at hcs) (kyCells_one ks)
theorem QRow.append {w : World} {base : Nat} {v : Value} {C : List K2} (h : QRow w base v C) (hC : C ≠ []) (u : Value) (ks : List K2) (hu : keysAt w u ks) (ty : TypeId) (hn : C.length + ks.length ≤ 1000000000000) (hbase : base ≤ w.heap.size) :
    ∃ v' w', (Builtin.append_ #[25, 25] ty #[v, u]).run Try.prog w = .ok v' w' ∧ QRow w' base v' (C ++ ks) ∧ w.grownBy w' v.ownBlock ∧ (v'.ownBlock = v.ownBlock ∨ v'.ownBlock = some w.heap.size) := by
  obtain ⟨i0, hi, hz0, hz1, hz2⟩ := info_parts infoK
  have hs := src_keys hu
  rcases h with ⟨-, h⟩ | ⟨b, off, c, rfl, h1, h2, h3, h4, h5⟩
  · exact absurd h hC
  · by_cases hfit : C.length + ks.length ≤ c
    · have hkl := keyCells_len ks
      have hrun := run_append_room_src (P := Try.prog) w 25 25 ty 41 i0 Try.underlying25 hi b off C.length c u ks.length (keyCells ks) (by rw [hz1]; exact hs) hfit
        (fun j hj => by rw [hz1, Nat.add_assoc]; exact (h5 _ (by omega)).1) (fun j hj => by rw [hz1, Nat.add_assoc]; exact (h5 _ (by omega)).2)
      rw [hz1] at hrun
      have hsome : ∀ j, j < (keyCells ks).length → (w.cell? ⟨b, off + C.length * 2 + j, none⟩).isSome = true := fun j hj => by rw [Nat.add_assoc]; exact (h5 _ (by omega)).1
      have hin : ∀ j (hj : j < (keyCells ks).length), (w.setCells b (off + C.length * 2) (keyCells ks)).cell? ⟨b, off + (C.length * 2 + j), none⟩ = some (keyCells ks)[j] := fun j hj => by
        rw [← Nat.add_assoc]
        exact World.cell?_setCells_in b (keyCells ks) (off + C.length * 2) w hsome j hj
      have hout : ∀ j, j < C.length * 2 ∨ C.length * 2 + (keyCells ks).length ≤ j → (w.setCells b (off + C.length * 2) (keyCells ks)).cell? ⟨b, off + j, none⟩ = w.cell? ⟨b, off + j, none⟩ := fun j hj =>
        World.cell?_setCells_out b _ _ _ _ (fun _ _ => by show off + j < off + C.length * 2 ∨ off + C.length * 2 + (keyCells ks).length ≤ off + j; omega)
      have hgr := grown_setCells b (keyCells ks) (off + C.length * 2) w
      refine ⟨_, _, hrun, .inr ⟨b, off, c, by rw [List.length_append], h1, Nat.lt_of_lt_of_le h2 hgr.size, by rw [List.length_append]; exact hfit, fun j hj => ?_, fun j hj => ⟨?_, ?_⟩⟩, hgr, .inl rfl⟩
      · rw [List.length_append] at hj
        rw [keyCells_appQ]
        by_cases hj2 : j < C.length * 2
        · rw [hout j (.inl hj2), h4 j hj2, List.getElem?_append_left (by rw [keyCells_len]; exact hj2)]
        · obtain ⟨t, rfl⟩ : ∃ t, j = C.length * 2 + t := ⟨j - C.length * 2, by omega⟩
          have ht : t < (keyCells ks).length := by omega
          have e1 : (keyCells C ++ keyCells ks)[C.length * 2 + t]? = some (keyCells ks)[t] := by
            rw [List.getElem?_append_right (by rw [keyCells_len]; omega), show C.length * 2 + t - (keyCells C).length = t by rw [keyCells_len]; omega, List.getElem?_eq_getElem ht]
          rw [hin t ht, e1]
      · by_cases hj2 : j < C.length * 2 ∨ C.length * 2 + (keyCells ks).length ≤ j
        · rw [hout j hj2]; exact (h5 j hj).1
        · obtain ⟨t, rfl⟩ : ∃ t, j = C.length * 2 + t := ⟨j - C.length * 2, by omega⟩
          rw [hin t (by omega)]; rfl
      · rw [World.frozen?_setCells]; exact (h5 j hj).2
    · have hold : (Builtin.firstCells i0.size C.length (.slice (some ⟨b, off, none⟩) C.length c)).run Try.prog w.drew = .ok (keyCells C).toArray w.drew := by
        rw [hz1]
        refine run_firstCells_some w.drew 2 C.length ⟨b, off, none⟩ C.length c (keyCells C) (keyCells_len C) (fun j u hu => ?_)
        rw [addr_plusK]
        have hj : j < C.length * 2 := by rw [← keyCells_len]; exact (List.getElem?_eq_some_iff.1 hu).1
        exact (h4 j hj).trans hu
      have hrun := run_append_grow_src (P := Try.prog) w 25 25 ty 41 i0 (.agg #[.int .i64 0, .int .i64 0]) Try.underlying25 hi hz0 (some ⟨b, off, none⟩) C.length c (keyCells C) hold u ks.length (keyCells ks) (by rw [hz1]; exact hs) (by omega) (by omega) (growslice_fits (by omega) (by rw [hz2]; omega))
      have hge := grownCap_ge w (C.length + ks.length) c 41
      generalize grownCap w (C.length + ks.length) c 41 = gc at *
      have hsz : ((keyCells C ++ keyCells ks).toArray ++ Builtin.zeroCells (Value.cells (.agg #[.int .i64 0, .int .i64 0])) (gc - (C.length + ks.length))).size = gc * 2 := by
        have h9 : (Value.cells (.agg #[.int .i64 0, .int .i64 0])).size = 2 := rfl
        rw [Array.size_append, List.size_toArray, List.length_append, keyCells_len, keyCells_len, size_zeroCells, h9]
        omega
      have hbb : Below w.heap.size w (w.drew.alloc (.cells ((keyCells C ++ keyCells ks).toArray ++ Builtin.zeroCells (Value.cells (.agg #[.int .i64 0, .int .i64 0])) (gc - (C.length + ks.length))) 41)) :=
        ⟨rfl, rfl, rfl, by simp, fun k hk => Below.heap_alloc w.drew _ k hk⟩
      refine ⟨_, _, hrun, .inr ⟨w.heap.size, 0, gc, by rw [List.length_append], hbase, ?_, by rw [List.length_append]; exact hge, fun j hj => ?_, fun j hj => ⟨?_, ?_⟩⟩, grown_of_below' hbb _, .inr rfl⟩
      · have : (w.drew.alloc (.cells ((keyCells C ++ keyCells ks).toArray ++ Builtin.zeroCells (Value.cells (.agg #[.int .i64 0, .int .i64 0])) (gc - (C.length + ks.length))) 41)).heap.size = w.heap.size + 1 := by simp
        omega
      · rw [List.length_append] at hj
        rw [Nat.zero_add]
        refine (World.cell?_alloc_new w.drew _ _ j).trans ?_
        rw [Array.getElem?_append_left (by rw [List.size_toArray, List.length_append, keyCells_len, keyCells_len]; omega), List.getElem?_toArray, keyCells_appQ]
      · rw [Nat.zero_add]
        rw [show World.cell? _ ⟨w.heap.size, j, none⟩ = _ from World.cell?_alloc_new w.drew _ _ j, Array.getElem?_eq_getElem (by rw [hsz]; exact hj)]
        rfl
      · rw [Nat.zero_add]
        exact World.frozen?_alloc_new w.drew _ _ j
theorem wpList_append_q {ops : Array Oper} {rest : List Oper} {o : Oper} {a : Act} {w : World} {Q : Exit → Act → World → Prop} (hgd : o.guard = none) (s x : Operand)
    (ho : o.op = .call { callee := .builtin .append, args := #[s, x], argTypes := #[25, 25] })
    {base : Nat} {v : Value} {C : List K2} (hq : QRow w base v C) (hC : C ≠ []) (u : Value) (ks : List K2) (hu : keysAt w u ks) (hs : a.eval s = v) (hx : a.eval x = u) (hn : C.length + ks.length ≤ 1000000000000) (hbase : base ≤ w.heap.size)
    (h : ∀ v' w', QRow w' base v' (C ++ ks) → w.grownBy w' v.ownBlock → (v'.ownBlock = v.ownBlock ∨ v'.ownBlock = some w.heap.size) → wpList Try.prog ops Q rest (a.put o.dst v') w') : wpList Try.prog ops Q (o :: rest) a w := by
  refine wpList_plain hgd fun K hK => ?_
  obtain ⟨v', w', hr, h2, h3, h5⟩ := hq.append hC u ks hu o.type hn hbase
  unfold Oper.wp execOp
  simp only [ho, resolve, invoke, builtin, Sem.run_bind, Sem.run_pure, Result.andThen_ok, List.map_toArray, List.map_cons, List.map_nil, hs, hx, hr]
  exact hK _ _ (h v' w' h2 h3 h5)

/-- how a truth reads -/
def boE : Value → Option (DataW Unit × List MemPlace)
  | .bool b => some (.lit (.bool b), [])
  | _ => none
theorem boE_inv {v : Value} {b : Bool} {ps : List MemPlace} (h : boE v = some (.lit (.bool b), ps)) : v = .bool b := by
  unfold boE at h
  split at h
  · cases h; rfl
  · cases h
theorem zeroBo (w : World) : (zeroValue 4).run Try.prog w = .ok (.bool false) w := by kernel_rfl
theorem run_makeMap_in (n : Nat) (w : World) : (Instr.makeMap 117 (some (.int .i64 n))).run Try.prog w = .ok (.map (some w.heap.size)) (w.alloc (.map #[] 0)) := by
  simp [Instr.makeMap, run_underlying Try.underlying117, asInt, go_sem]
def InI (W : World) (b n : Nat) (L : List K2) : Prop := ∃ D : DataW Unit, Maps.IsMap D ∧ W.ownsMap Try.prog 41 boE b n D ∧ ∀ k, keyOkB k = true → D.atKey (klit k) (.lit (.bool false)) = .lit (.bool (decide (k ∈ L)))
theorem InI.start (w : World) : InI (w.alloc (.map #[] 0)) w.heap.size 0 [] :=
  ⟨.map [], ⟨[], rfl⟩, World.ownsMap_made (H := Unit) w Try.prog 41 boE, fun k _ => rfl⟩
theorem InI.kept {w w' : World} {b n : Nat} {L : List K2} {row : Option Nat} (h : InI w b n L) (hg : w.grownBy w' row) (hne : some b ≠ row) : InI w' b n L := by
  obtain ⟨D, h1, h2, h3⟩ := h
  exact ⟨D, h1, h2.kept hg hne, h3⟩
theorem InI.look {W : World} {b n : Nat} {L : List K2} (h : InI W b n L) (k : K2) (hk : keyOkB k = true) : (Instr.lookup 117 (.map (some b)) (.agg #[.int .i64 k.1, .int .i64 k.2]) false).run Try.prog W = .ok (.bool (decide (k ∈ L))) W := by
  obtain ⟨D, hD, hmap, hat⟩ := h
  obtain ⟨v, ps, hr, hv⟩ := hmap.lookup keyLawR Try.underlying117 (zeroBo W) (zd := .lit (.bool false)) (zp := []) rfl (keyR_of k (keyWf hk).1 (keyWf hk).2)
  rw [hat k hk] at hv
  rw [boE_inv hv] at hr
  exact hr
theorem InI.put {W : World} {b n : Nat} {L : List K2} (h : InI W b n L) (hn : n < maxLen) (k : K2) (hk : keyOkB k = true) :
    ∃ W', (Instr.mapUpdate 117 (.map (some b)) (.agg #[.int .i64 k.1, .int .i64 k.2]) (.bool true)).run Try.prog W = .ok () W' ∧ InI W' b (n + 1) (L ++ [k]) ∧ W.grownBy W' (some b) := by
  obtain ⟨D, hD, hmap, hat⟩ := h
  obtain ⟨W', hr, hm, hg⟩ := hmap.update keyLawR Try.underlying117 hn (keyR_of k (keyWf hk).1 (keyWf hk).2) (val := .bool true) (d := .lit (.bool true)) (ps := []) rfl
  refine ⟨W', hr, ⟨_, hD.put _ _, hm, fun x hx => ?_⟩, hg⟩
  by_cases e : x = k
  · subst e
    rw [Maps.atKey_put_same hD (klit_key _ hx)]
    simp
  · rw [Maps.atKey_put_other (fun e2 => e (klit_inj (keyWf hx).1 (keyWf hx).2 (keyWf hk).1 (keyWf hk).2 e2)), hat x hx]
    simp [e]
end Go.Proofs.Ytbbjpjkclealfaa
namespace Go.Proofs.Ytbbjpjkclealfaa
open Go.ChangeShapes Go.WideShapes Go.ChangeAt Go.RowKit Go.BigFrame
set_option linter.unusedVariables false

theorem sjoined_any (va vb : Value) (A B : List K2) (w : World) (ha : keysAt w va A) (hb : keysAt w vb B) (hsA : A.length ≤ 2000000) (hsB : B.length ≤ 2000000) :
    Calls Try.prog 71 #[va, vb] w fun e w' => ∃ v, e = .returned v ∧ w'.ownsRow w.heap.size 41 2 v (mergeV true A B).length (keyCells (mergeV true A B)) ∧ Below w.heap.size w w' := by
  have H := Lib.hid (smerge_any va vb A B true w ha hb hsA hsB)
  go_enter Try.func71, Try.ntmps71
  go_wp2_with fail
  refine H.out.mono ?_
  rintro e w1 ⟨v, rfl, ho, hB⟩
  go_wp2
  go_ret
  exact ⟨v, rfl, ho, hB⟩
end Go.Proofs.Ytbbjpjkclealfaa
namespace Go.Proofs.Ytbbjpjkclealfaa
open Go.ChangeShapes Go.WideShapes Go.ChangeAt Go.RowKit Go.BigFrame
set_option linter.unusedVariables false

set_option maxRecDepth 100000 in
set_option maxHeartbeats 2000000 in
theorem shaskey_any (v : Value) (ks : List K2) (x : K2) (w : World) (h : keysAt w v ks) (hs : ks.length ≤ 2000000) : Calls Try.prog 70 #[v, kv x] w fun e w' => e = .returned (.bool (hasKeyB ks x)) ∧ Below w.heap.size w w' := by
  obtain ⟨a, cap, rfl, hcap, hcells⟩ := h
  obtain ⟨n, s⟩ := x
  unfold kv
  dsimp only
  have hW : ∀ w' : World, Below (w.heap.size + 1) (w.alloc (.cells #[.int .i64 n, .int .i64 s] 41)) w' → (loadVar 41 ⟨w.heap.size, 0, none⟩).run Try.prog w' = .ok (kv (n, s)) w' := fun w' hb' =>
    key_load (k := (n, s)) (w := w.alloc (.cells #[.int .i64 n, .int .i64 s] 41)) (g := w.heap.size) (o := 0) ⟨by simp, by simp⟩ (by simp) (by simpa using hb')
  have hB0 : Below w.heap.size w (w.alloc (.cells #[.int .i64 n, .int .i64 s] 41)) := (Below.refl _ _).alloc (Nat.le_refl _) _
  have hsz0 : (w.alloc (.cells #[.int .i64 n, .int .i64 s] 41)).heap.size = w.heap.size + 1 := by simp
  have HW := Lib.hid hW; have HB0 := Lib.hid hB0; have HSZ := Lib.hid hsz0; clear hW hB0 hsz0
  go_enter Try.func70, Try.ntmps70
  go_wp2
  generalize w.alloc (.cells #[.int .i64 n, .int .i64 s] 41) = W at *
  go_loopw [5] (fun i wr => ∃ k : Nat, k ≤ ks.length ∧ i = .int .i64 k ∧ (∀ j, j < k → (ks.getD j (0, 0) == (n, s)) = false) ∧ Below W.heap.size W wr) (fun i _ => ks.length - (intOf i).toNat)
  case atStart => exact ⟨0, Nat.zero_le _, rfl, fun j hj => by omega, Below.refl _ _⟩
  case round =>
    obtain ⟨k, hk, rfl, hall, hb⟩ := hrel
    by_cases hlt : k < ks.length
    · obtain ⟨g, off, rfl, hg, hcs⟩ := hcells.resolve_left (by omega)
      have z0 : (0 : Int) ≤ (k : Int) := by omega
      have z1 : (k : Int) < (ks.length : Int) := by omega
      have c1 := hcs k hlt
      have L1 : ∀ w', Below W.heap.size W w' → (loadVar 41 ⟨g, off + k * 2, none⟩).run Try.prog w' = .ok (kv (ks.getD k (0, 0))) w' := fun w' hb' =>
        key_load c1 (w' := w') hg (HB0.out.trans (hb'.mono (by rw [HSZ.out]; omega)))
      have L2 : ∀ w', Below W.heap.size W w' → (loadVar 41 ⟨w.heap.size, 0, none⟩).run Try.prog w' = .ok (kv (n, s)) w' := fun w' hb' => HW.out w' (by rw [← HSZ.out]; exact hb')
      clear hcells hcs c1
      generalize hkx : ks.getD k (0, 0) = kx at *
      obtain ⟨p, q⟩ := kx
      cases he : ((p, q) == (n, s)) with
      | true =>
        have hh : hasKeyB ks (n, s) = true := by
          unfold hasKeyB
          rw [List.any_eq_true]
          refine ⟨ks[k], List.getElem_mem hlt, ?_⟩
          have : ks[k] = (p, q) := by rw [← hkx]; simp [List.getD, hlt]
          rw [this, he]
        have HH := Lib.hid hh
        clear hall hkx hh
        go_wp2
        refine wp_region_below W (by kernel_rfl) (by kernel_rfl) hb ?_
        repeat (first
          | go_big_quiet_skip
          | (go_big_quiet_want
             first
               | (go_big_quiet_op; go_big_quiet_on)
               | (refine q_load 41 _ _ _ rfl rfl L1 ?_; simp only [Act.put, List.setIfInBounds_toArray, List.set_cons_zero, List.set_cons_succ]; go_big_quiet_on)
               | (refine q_load 41 _ _ _ rfl rfl L2 ?_; simp only [Act.put, List.setIfInBounds_toArray, List.set_cons_zero, List.set_cons_succ]; go_big_quiet_on)
               | (refine q_bin _ 41 _ _ _ _ _ _ rfl rfl rfl (fun w => key_guard _ _ _ _ _ w) (fun w => key_eql _ _ w) ?_; simp only [Act.put, List.setIfInBounds_toArray, List.set_cons_zero, List.set_cons_succ]; go_big_quiet_on)
               | (refine q_bin _ 41 _ _ _ _ _ _ rfl rfl rfl (fun w => key_guard _ _ _ _ _ w) (fun w => key_neq _ _ w) ?_; simp only [Act.put, List.setIfInBounds_toArray, List.set_cons_zero, List.set_cons_succ]; go_big_quiet_on)
               | (go_big_quiet_op; refine ⟨_, fun _ _ => rfl, ?_⟩; go_big_quiet_on)
               | (go_big_quiet_op; go_big_quiet_on)))
        refine wpQuiet_nil ?_
        intro w2 hb2
        rw [he]
        clear L1 L2 hb
        go_wp2
        go_ret
        exact ⟨by rw [HH.out]; rfl, HB0.out.trans (hb2.mono (by rw [HSZ.out]; omega))⟩
      | false =>
        have hn : ∀ j, j < k + 1 → (ks.getD j (0, 0) == (n, s)) = false := by
          intro j hj
          rcases (by omega : j < k ∨ j = k) with h1 | rfl
          · exact hall j h1
          · rw [hkx, he]
        have HN := Lib.hid hn
        clear hall hkx hn
        go_wp2
        refine wp_region_below W (by kernel_rfl) (by kernel_rfl) hb ?_
        repeat (first
          | go_big_quiet_skip
          | (go_big_quiet_want
             first
               | (go_big_quiet_op; go_big_quiet_on)
               | (refine q_load 41 _ _ _ rfl rfl L1 ?_; simp only [Act.put, List.setIfInBounds_toArray, List.set_cons_zero, List.set_cons_succ]; go_big_quiet_on)
               | (refine q_load 41 _ _ _ rfl rfl L2 ?_; simp only [Act.put, List.setIfInBounds_toArray, List.set_cons_zero, List.set_cons_succ]; go_big_quiet_on)
               | (refine q_bin _ 41 _ _ _ _ _ _ rfl rfl rfl (fun w => key_guard _ _ _ _ _ w) (fun w => key_eql _ _ w) ?_; simp only [Act.put, List.setIfInBounds_toArray, List.set_cons_zero, List.set_cons_succ]; go_big_quiet_on)
               | (refine q_bin _ 41 _ _ _ _ _ _ rfl rfl rfl (fun w => key_guard _ _ _ _ _ w) (fun w => key_neq _ _ w) ?_; simp only [Act.put, List.setIfInBounds_toArray, List.set_cons_zero, List.set_cons_succ]; go_big_quiet_on)
               | (go_big_quiet_op; refine ⟨_, fun _ _ => rfl, ?_⟩; go_big_quiet_on)
               | (go_big_quiet_op; go_big_quiet_on)))
        refine wpQuiet_nil ?_
        intro w2 hb2
        rw [he]
        clear L1 L2 hb
        go_wp2
        exact ⟨⟨k + 1, by omega, by go_num, HN.out, hb2⟩, by simp [intOf]; omega⟩
    · obtain rfl : k = ks.length := by omega
      have hh : hasKeyB ks (n, s) = false := by
        unfold hasKeyB
        rw [List.any_eq_false]
        intro x hx
        obtain ⟨i, hi, rfl⟩ := List.getElem_of_mem hx
        have := hall i hi
        simp only [List.getD, List.getElem?_eq_getElem hi, Option.getD_some] at this
        simp [this]
      have HH := Lib.hid hh
      clear hall hh
      go_wp2
      go_ret
      exact ⟨by rw [HH.out]; rfl, HB0.out.trans (hb.mono (by rw [HSZ.out]; omega))⟩
end Go.Proofs.Ytbbjpjkclealfaa
namespace Go.Proofs.Ytbbjpjkclealfaa
open Go.ChangeShapes Go.WideShapes Go.ChangeAt Go.RowKit Go.BigFrame
set_option linter.unusedVariables false
set_option linter.unusedSimpArgs false

/-- the slice value v leads to the sets S -/
def s0 : S2 := ((0, 0), (0, 0))
def stAt (w : World) (v : Value) (S : List S2) : Prop :=
  ∃ a cap, v = .slice a S.length cap ∧ S.length ≤ cap ∧ (S.length = 0 ∨ ∃ g off, a = some ⟨g, off, none⟩ ∧ g < w.heap.size ∧
    ∀ i, i < S.length → (w.cell? ⟨g, off + i * 4, none⟩ = some (.int .i64 (S.getD i s0).1.1) ∧ w.cell? ⟨g, off + i * 4 + 1, none⟩ = some (.int .i64 (S.getD i s0).1.2)) ∧
      (w.cell? ⟨g, off + i * 4 + 2, none⟩ = some (.int .i64 (S.getD i s0).2.1) ∧ w.cell? ⟨g, off + i * 4 + 3, none⟩ = some (.int .i64 (S.getD i s0).2.2)))
theorem stAt_below {w w' : World} {v : Value} {S : List S2} (h : stAt w v S) (hb : Below w.heap.size w w') : stAt w' v S := by
  obtain ⟨a, cap, h1, h2, h3⟩ := h
  refine ⟨a, cap, h1, h2, h3.imp_right ?_⟩
  rintro ⟨g, off, h4, h5, h6⟩
  refine ⟨g, off, h4, Nat.lt_of_lt_of_le h5 hb.size, fun i hi => ?_⟩
  obtain ⟨⟨c0, c1⟩, c2, c3⟩ := h6 i hi
  exact ⟨⟨(hb.cell (p := ⟨g, off + i * 4, none⟩) h5).trans c0, (hb.cell (p := ⟨g, off + i * 4 + 1, none⟩) h5).trans c1⟩, (hb.cell (p := ⟨g, off + i * 4 + 2, none⟩) h5).trans c2, (hb.cell (p := ⟨g, off + i * 4 + 3, none⟩) h5).trans c3⟩
/-- a list of one's own -/
structure ScO (w W : World) (v : Value) (M : List K2) : Prop where
  below : Below w.heap.size w W
  own : W.ownsRow w.heap.size 41 2 v M.length (keyCells M)
theorem ScO.next {w W W' : World} {v : Value} {M : List K2} (h : ScO w W v M) (hb : Below W.heap.size W W') : ScO w W' v M := ⟨h.below.trans (hb.mono h.below.size), own_below h.own hb⟩
def lenOf : Value → Nat
  | .slice _ n _ => n
  | _ => 0
theorem all_take {S : List S2} {i : Nat} (hi : i < S.length) : (S.take (i + 1)).all setOkB = ((S.take i).all setOkB && setOkB (S.getD i s0)) := by
  rw [List.take_succ_eq_append_getElem hi, List.all_append]
  simp [List.getD, hi]
theorem all_no {S : List S2} {i : Nat} (hi : i < S.length) (h : setOkB (S.getD i s0) = false) : S.all setOkB = false := by
  rw [Bool.eq_false_iff]
  intro ha
  have := List.all_eq_true.1 ha (S.getD i s0) (by rw [List.getD, List.getElem?_eq_getElem hi]; exact List.getElem_mem hi)
  rw [h] at this; cases this
theorem getD_memS {S : List S2} {i : Nat} (hi : i < S.length) : S.getD i s0 ∈ S := by rw [List.getD, List.getElem?_eq_getElem hi]; exact List.getElem_mem hi
theorem mergeV_lenJ (both : Bool) (a b : List K2) : (mergeV both a b).length ≤ a.length + b.length := by
  unfold mergeV
  split
  · exact mergeL_len both a b
  · simp
theorem mergeV_leJ (N : List K2) (k : K2) : (mergeV true N [k]).length ≤ N.length + 1 := by have := mergeV_lenJ true N [k]; simpa using this
/-- whether a set is closed in M -/
def closedIn (M : List K2) (s : S2) : Prop := hasKeyB M s.1 = hasKeyB M s.2 ∨ s.1 = s.2
set_option maxRecDepth 100000 in
set_option maxHeartbeats 4000000 in
theorem sclosed_any (vs : Value) (S : List S2) (vk : Value) (K : List K2) (w : World) (hs : stAt w vs S) (hk : keysAt w vk K) (hS : S.length ≤ 1900000) (hK : K.length ≤ 1900000) :
    Calls Try.prog 30 #[vs, vk] w fun e w' => ∃ v' M, e = .returned v' ∧ IsCl S K M ∧ M.length ≤ 1980 ∧ w'.ownsRow w.heap.size 41 2 v' M.length (keyCells M) ∧ Below w.heap.size w w' := by
  have hb0 := (Below.refl w.heap.size w).alloc (Nat.le_refl _) (.cells #[] 41)
  have HO := Lib.hid (World.ownsRow_made (base := w.heap.size) (e := 41) (size := 2) w #[] 0 (Nat.le_refl _) (by unfold maxLen; omega) rfl)
  have HB := Lib.hid hb0
  have HK1 := Lib.hid (keysAt_below hk hb0)
  have HK := Lib.hid (fun wx (hb : Below w.heap.size w wx) => keysAt_below hk hb)
  have HST := Lib.hid (fun wx (hb : Below w.heap.size w wx) => stAt_below hs hb)
  obtain ⟨ak, ck, rfl, -, -⟩ := hk
  obtain ⟨asv, csv, rfl, -, -⟩ := hs
  have hsz0 : w.heap.size ≤ (w.alloc (.cells #[] 41)).heap.size := by simp
  clear hb0
  go_enter Try.func30, Try.ntmps30
  go_wp2_with (at_builtin; refine wpList_append_key rfl (.tmp 11) (.tmp 12) rfl HO.out _ K HK1.out rfl rfl (by omega) hsz0 ?_; intro v3 w3 hown3 hgr3 hw3)
  have hI0 : ScO w w3 v3 K := ⟨HB.out.grown hgr3 hsz0 (fun b e => by cases e; exact Nat.le_refl _), by simpa using hown3⟩
  have HI0 := Lib.hid hI0
  clear hI0 hown3 hgr3 hw3 HO HB HK1 hsz0
  go_wp2_with fail
  go_loopw [6] (fun i wr => ∃ (k : Nat) (wz : World), k ≤ S.length ∧ i = .int .i64 k ∧ wz = wr ∧ ScO w wz v3 K ∧ (S.take k).all setOkB = true) (fun i _ => S.length - (intOf i).toNat)
  case atStart => exact ⟨0, _, Nat.zero_le _, rfl, rfl, HI0.out, rfl⟩
  case round =>
    obtain ⟨k, wz, hk, rfl, hwz, hJ, hall⟩ := hrel
    subst hwz
    have HJ := Lib.hid hJ
    have HALL := Lib.hid hall
    clear hJ hall HI0
    by_cases hlt : k < S.length
    · have z0 : (0 : Int) ≤ (k : Int) := by omega
      have z1 : (k : Int) < (S.length : Int) := by omega
      have n0 : (0 : Int) < 2 := by omega
      have n1 : (1 : Int) < 2 := by omega
      have HAT := Lib.hid (all_take hlt)
      have HNO := Lib.hid (fun h => all_no (S := S) hlt h)
      obtain ⟨a', c', e1, -, hcs⟩ := HST.out _ HJ.out.below
      cases e1
      obtain ⟨gs, off, rfl, hgs, hcs⟩ := hcs.resolve_left (by omega)
      obtain ⟨⟨c0, c1⟩, c2, c3⟩ := hcs k hlt
      clear hcs
      generalize S.getD k s0 = s at *
      obtain ⟨⟨p, q⟩, p2, q2⟩ := s
      rw [show setOkB ((p, q), p2, q2) = (keyOkB (p, q) && keyOkB (p2, q2)) from rfl] at HAT HNO
      dsimp only at *
      have KA := Lib.hid (fun wx => skeyok_any (p, q) wx)
      have KB := Lib.hid (fun wx => skeyok_any (p2, q2) wx)
      unfold kv at KA KB
      dsimp only at KA KB
      generalize keyOkB (p, q) = ba at *
      generalize keyOkB (p2, q2) = bb at *
      go_wp2_with fail
      refine (KA.out _).mono ?_
      rintro e w4 ⟨rfl, hb4⟩
      have HJ4 := Lib.hid (HJ.out.next hb4)
      have d2 := (hb4.cell (p := ⟨gs, off + k * 4 + 2, none⟩) hgs).trans c2
      have d3 := (hb4.cell (p := ⟨gs, off + k * 4 + 3, none⟩) hgs).trans c3
      clear hb4 c0 c1 c2 c3 KA HJ
      cases ba with
      | false =>
        have HBAD := Lib.hid (HNO.out rfl)
        have hba := (Below.refl w4.heap.size w4).alloc (Nat.le_refl _) (.cells #[] 41)
        have HB4 := Lib.hid (HJ4.out.below.trans (hba.mono HJ4.out.below.size))
        have HO4 := Lib.hid (own_base (World.ownsRow_made (base := w4.heap.size) (e := 41) (size := 2) w4 #[] 0 (Nat.le_refl _) (by unfold maxLen; omega) rfl) HJ4.out.below.size)
        clear hba HAT HNO HALL KB
        go_wp2_with fail
        go_ret
        exact ⟨_, [], rfl, ⟨fun _ => rfl, fun h => by unfold clGood at h; rw [HBAD.out] at h; simp at h⟩, by simp, HO4.out, HB4.out⟩
      | true =>
        go_wp2_with fail
        refine (KB.out _).mono ?_
        rintro e w5 ⟨rfl, hb5⟩
        have HJ5 := Lib.hid (HJ4.out.next hb5)
        clear hb5 d2 d3 KB HJ4
        cases bb with
        | false =>
          have HBAD := Lib.hid (HNO.out rfl)
          have hba := (Below.refl w5.heap.size w5).alloc (Nat.le_refl _) (.cells #[] 41)
          have HB5 := Lib.hid (HJ5.out.below.trans (hba.mono HJ5.out.below.size))
          have HO5 := Lib.hid (own_base (World.ownsRow_made (base := w5.heap.size) (e := 41) (size := 2) w5 #[] 0 (Nat.le_refl _) (by unfold maxLen; omega) rfl) HJ5.out.below.size)
          clear hba HAT HNO HALL
          go_wp2_with fail
          go_ret
          exact ⟨_, [], rfl, ⟨fun _ => rfl, fun h => by unfold clGood at h; rw [HBAD.out] at h; simp at h⟩, by simp, HO5.out, HB5.out⟩
        | true =>
          have HN := Lib.hid (show (S.take (k + 1)).all setOkB = true by rw [HAT.out, HALL.out]; rfl)
          clear HAT HNO HALL
          go_wp2_with fail
          exact ⟨⟨k + 1, _, by omega, by go_num, rfl, HJ5.out, HN.out⟩, by simp [intOf]; omega⟩
    · obtain rfl : k = S.length := by omega
      rw [List.take_length] at HALL
      have SK := Lib.hid (skeysok_any _ K _ (HK.out _ HJ.out.below) (by omega))
      go_wp2_with fail
      refine SK.out.mono ?_
      rintro e w4 ⟨rfl, hb4⟩
      have HJ4 := Lib.hid (HJ.out.next hb4)
      clear hb4 SK HJ hlt
      cases hkk : keysOkR K with
      | false =>
        have HBAD := Lib.hid hkk
        clear hkk
        have hba := (Below.refl w4.heap.size w4).alloc (Nat.le_refl _) (.cells #[] 41)
        have HB4 := Lib.hid (HJ4.out.below.trans (hba.mono HJ4.out.below.size))
        have HO4 := Lib.hid (own_base (World.ownsRow_made (base := w4.heap.size) (e := 41) (size := 2) w4 #[] 0 (Nat.le_refl _) (by unfold maxLen; omega) rfl) HJ4.out.below.size)
        clear hba
        go_wp2_with fail
        go_ret
        exact ⟨_, [], rfl, ⟨fun _ => rfl, fun h => by unfold clGood at h; rw [HBAD.out] at h; simp at h⟩, by simp, HO4.out, HB4.out⟩
      | true =>
        have HGO := Lib.hid (show clGood S K = true by unfold clGood; rw [hkk, HALL.out]; rfl)
        have HW0 := Lib.hid (ClW.start (S := S) hkk)
        clear hkk
        go_wp2_with fail
        go_loopw [5, 7] (fun vo ag wr => ∃ (M : List K2) (b : Bool) (vp : Value) (wz : World), vp = vo ∧ wz = wr ∧ ag = .bool b ∧ ScO w wz vp M ∧ ClW S K M ∧ (b = false → ∀ s ∈ S, closedIn M s)) (fun vo ag _ => 2 * (1980 - lenOf vo) + (match ag with | .bool true => 1 | _ => 0))
        case atStart => exact ⟨K, true, _, _, rfl, rfl, rfl, HJ4.out, HW0.out, fun h => by cases h⟩
        case round =>
          obtain ⟨M, b, vp, wz, hvp, hwz, rfl, hJ, hW, hcl⟩ := hrel
          subst hvp
          subst hwz
          have HJ := Lib.hid hJ
          have HW := Lib.hid hW
          have hM := keys_few hW.ok
          obtain ⟨am, nm, cm, rfl⟩ := own_shape hJ.own
          obtain rfl : nm = M.length := by obtain ⟨_, _, e, _⟩ := keysAt_own hJ.own; cases e; rfl
          clear hJ hW HJ4 HW0
          cases b with
          | false =>
            have HE := Lib.hid (HW.out.end HGO.out (hcl rfl))
            clear hcl HW
            go_wp2_with fail
            go_ret
            exact ⟨_, M, rfl, HE.out, hM, HJ.out.own, HJ.out.below⟩
          | true =>
            clear hcl
            go_wp2_with fail
            go_loopw [5, 7, 8] (fun vo ag i wr => ∃ (k : Nat) (N : List K2) (b : Bool) (vp : Value) (wz : World), k ≤ S.length ∧ vp = vo ∧ wz = wr ∧ i = .int .i64 k ∧ ag = .bool b ∧ ScO w wz vp N ∧ ClW S K N ∧ (b = true → M.length < N.length) ∧ (b = false → N = M ∧ ∀ j, j < k → closedIn M (S.getD j s0))) (fun _ _ i _ => S.length - (intOf i).toNat)
            case atStart => exact ⟨0, M, false, _, _, Nat.zero_le _, rfl, rfl, rfl, rfl, HJ.out, HW.out, (fun h => by cases h), fun _ => ⟨rfl, fun j hj => by omega⟩⟩
            case round =>
              obtain ⟨k, N, b, vq, wq, hk, hvp, hwz, rfl, rfl, hJ, hW, hb1, hb2⟩ := hrel
              subst hvp
              subst hwz
              have HQ := Lib.hid hJ
              have HV := Lib.hid hW
              have HB1 := Lib.hid hb1
              have HB2 := Lib.hid hb2
              have hN := keys_few hW.ok
              obtain ⟨an, nn, cn, rfl⟩ := own_shape hJ.own
              obtain rfl : nn = N.length := by obtain ⟨_, _, e, _⟩ := keysAt_own hJ.own; cases e; rfl
              clear hJ hW hb1 hb2 HJ HW
              by_cases hlt : k < S.length
              · have z0 : (0 : Int) ≤ (k : Int) := by omega
                have z1 : (k : Int) < (S.length : Int) := by omega
                have y0 : (0 : Int) < 2 := by omega
                have y1 : (1 : Int) < 2 := by omega
                have hmem := getD_memS hlt
                have HSTP := Lib.hid (fun hne => HV.out.step hmem HALL.out hne)
                obtain ⟨a', c', e1, -, hcs⟩ := HST.out _ HQ.out.below
                cases e1
                obtain ⟨gs, off, rfl, hgs, hcs⟩ := hcs.resolve_left (by omega)
                obtain ⟨⟨c0, c1⟩, c2, c3⟩ := hcs k hlt
                clear hcs hmem
                generalize hsk : S.getD k s0 = s at *
                have HSK := Lib.hid hsk
                clear hsk
                obtain ⟨⟨p, q⟩, p2, q2⟩ := s
                dsimp only at *
                have L0 : ∀ w' : World, Below wq.heap.size wq w' → (loadVar 41 ⟨gs, off + k * 4, none⟩).run Try.prog w' = .ok (.agg #[.int .i64 p, .int .i64 q]) w' := fun w' h => key_load (k := (p, q)) (o := off + k * 4) ⟨c0, c1⟩ hgs h
                have L1 : ∀ w' : World, Below wq.heap.size wq w' → (loadVar 41 ⟨gs, off + k * 4 + 2, none⟩).run Try.prog w' = .ok (.agg #[.int .i64 p2, .int .i64 q2]) w' := fun w' h => key_load (k := (p2, q2)) (o := off + k * 4 + 2) ⟨c2, c3⟩ hgs h
                clear c0 c1 c2 c3
                go_upto_region 15 with (fail)
                go_cut [9, 10] (fun x y wx => ∃ ba bb : Nat, x = .pointer (some ⟨ba, 0, none⟩) ∧ y = .pointer (some ⟨bb, 0, none⟩) ∧ wx.heap[ba]? = some (.cells #[.int .i64 p, .int .i64 q] 41 (0, 0)) ∧ wx.heap[bb]? = some (.cells #[.int .i64 p2, .int .i64 q2] 41 (0, 0)) ∧ Below wq.heap.size wq wx)
                case first =>
                  have HB := Lib.hid (Below.refl wq.heap.size wq)
                  refine wp_region_G (fun w' => Below wq.heap.size wq w') (by kernel_rfl) ?_
                  replace HB := Lib.hid (HB.out.drew)
                  generalize (wq).drew = wD at *
                  refine wpG_seg [true, true, true, true, true, true, true, true, true, true] [10, 11] 3 (by kernel_rfl) (by intro c a d v w h; cases d <;> exact h) (by kernel_rfl) HB.out ?_
                  try simp only [maskRows]
                  repeat (first
                    | go_big_quiet_skip
                    | (go_big_quiet_want
                       first
                         | (go_big_quiet_op; go_big_quiet_on)
                         | (refine q_load 41 _ _ _ rfl rfl L0 ?_; simp only [Act.put, List.setIfInBounds_toArray, List.set_cons_zero, List.set_cons_succ]; go_big_quiet_on)
                         | (refine q_load 41 _ _ _ rfl rfl L1 ?_; simp only [Act.put, List.setIfInBounds_toArray, List.set_cons_zero, List.set_cons_succ]; go_big_quiet_on)
                         | (go_big_quiet_op; refine ⟨_, fun _ _ => rfl, ?_⟩; go_big_quiet_on)
                         | (go_big_quiet_op; refine ⟨_, fun _ _ _ => rfl, ?_⟩; go_big_quiet_on)))
                  refine wpQuiet_nil ?_
                  refine List.forall_mem_cons.2 ⟨?_, List.forall_mem_singleton.2 ?_⟩
                  · refine segt_run rfl (by rfl) (fun K hK => ?_)
                    go_simp
                    have HAn := Lib.hid (heap_alloc_new (wD) (.cells #[.int .i64 0, .int .i64 0] 41))
                    have HGba := Lib.hid (show wq.heap.size ≤ (wD).heap.size from HB.out.size)
                    replace HB := Lib.hid (HB.out.alloc HB.out.size (.cells #[.int .i64 0, .int .i64 0] 41))
                    have HA := HAn
                    clear HAn
                    generalize World.alloc (wD) (.cells #[.int .i64 0, .int .i64 0] 41) = w3 at *
                    generalize (wD).heap.size = ba at *
                    refine hK _ _ ⟨_, fun _ h => h, HB.out, ?_⟩
                    clear hK K
                    try simp only [Act.put, List.setIfInBounds_toArray, List.set_cons_zero, List.set_cons_succ]
                    refine wpG_seg [] [11] 2 (by kernel_rfl) (by intro c a d v w h; cases d <;> exact h) (by kernel_rfl) HB.out ?_
                    try simp only [maskRows]
                    refine wpQuiet_nil ?_
                    refine List.forall_mem_singleton.2 ?_
                    refine segt_run rfl (by rfl) (fun K hK => ?_)
                    go_simp
                    have HBbn := Lib.hid (heap_alloc_new (w3) (.cells #[.int .i64 0, .int .i64 0] 41))
                    have HGbb := Lib.hid (show wq.heap.size ≤ (w3).heap.size from HB.out.size)
                    have HNE := Lib.hid (Nat.ne_of_lt (Array.getElem?_eq_some_iff.1 HA.out).1)
                    replace HB := Lib.hid (HB.out.alloc HB.out.size (.cells #[.int .i64 0, .int .i64 0] 41))
                    replace HA := Lib.hid ((Below.heap_alloc _ (.cells #[.int .i64 0, .int .i64 0] 41) _ (Array.getElem?_eq_some_iff.1 HA.out).1).trans HA.out)
                    have HBb := HBbn
                    clear HBbn
                    generalize World.alloc (w3) (.cells #[.int .i64 0, .int .i64 0] 41) = w4 at *
                    generalize (w3).heap.size = bb at *
                    refine hK _ _ ⟨_, fun _ h => h, HB.out, ?_⟩
                    clear hK K
                    try simp only [Act.put, List.setIfInBounds_toArray, List.set_cons_zero, List.set_cons_succ]
                    refine wpG_seg [] [12] 1 (by kernel_rfl) (by intro c a d v w h; cases d <;> exact h) (by kernel_rfl) HB.out ?_
                    try simp only [maskRows]
                    refine wpQuiet_nil ?_
                    refine List.forall_mem_singleton.2 ?_
                    obtain ⟨t0, t1, tf0, tf1⟩ := row2_of HA.out
                    have tlt := (Array.getElem?_eq_some_iff.1 HA.out).1
                    refine segt_run rfl (by rfl) (fun K hK => ?_)
                    go_simp
                    replace HA := Lib.hid (set2 (.int .i64 p) (.int .i64 q) HA.out)
                    replace HBb := Lib.hid (row_set2 HBb.out (show bb ≠ ba from HNE.out.symm) (.int .i64 p) (.int .i64 q))
                    replace HB := Lib.hid (HB.out.grown (grown2 w4 ba (.int .i64 p) (.int .i64 q)) HB.out.size (fun j e => by cases e; exact HGba.out))
                    clear t0 t1 tf0 tf1 tlt
                    generalize (World.setCell (World.setCell w4 ⟨ba, 0, none⟩ (.int .i64 p)) ⟨ba, 1, none⟩ (.int .i64 q)) = wSba at *
                    refine hK _ _ ⟨_, fun _ h => h, HB.out, ?_⟩
                    clear hK K
                    try simp only [Act.put, List.setIfInBounds_toArray, List.set_cons_zero, List.set_cons_succ]
                    refine wpG_seg [] [13] 0 (by kernel_rfl) (by intro c a d v w h; cases d <;> exact h) (by kernel_rfl) HB.out ?_
                    try simp only [maskRows]
                    refine wpQuiet_nil ?_
                    refine List.forall_mem_singleton.2 ?_
                    obtain ⟨t0, t1, tf0, tf1⟩ := row2_of HBb.out
                    have tlt := (Array.getElem?_eq_some_iff.1 HBb.out).1
                    refine segt_run rfl (by rfl) (fun K hK => ?_)
                    go_simp
                    replace HBb := Lib.hid (set2 (.int .i64 p2) (.int .i64 q2) HBb.out)
                    replace HA := Lib.hid (row_set2 HA.out (show ba ≠ bb from HNE.out) (.int .i64 p2) (.int .i64 q2))
                    replace HB := Lib.hid (HB.out.grown (grown2 wSba bb (.int .i64 p2) (.int .i64 q2)) HB.out.size (fun j e => by cases e; exact HGbb.out))
                    clear t0 t1 tf0 tf1 tlt
                    generalize (World.setCell (World.setCell wSba ⟨bb, 0, none⟩ (.int .i64 p2)) ⟨bb, 1, none⟩ (.int .i64 q2)) = wSbb at *
                    refine hK _ _ ⟨_, fun _ h => h, HB.out, ?_⟩
                    clear hK K
                    try simp only [Act.put, List.setIfInBounds_toArray, List.set_cons_zero, List.set_cons_succ]
                    refine wpG_end [] (by kernel_rfl) (by intro c a d v w h; cases d <;> exact h) (by kernel_rfl) HB.out ?_
                    try simp only [maskRows]
                    refine wpQuiet_nil ?_
                    go_wp2_with fail
                    go_meet
                    exact ⟨ba, bb, rfl, rfl, HA.out, HBb.out, HB.out⟩
                  · refine segt_run rfl (by rfl) (fun K hK => ?_)
                    go_simp
                    have HBbn := Lib.hid (heap_alloc_new (wD) (.cells #[.int .i64 0, .int .i64 0] 41))
                    have HGbb := Lib.hid (show wq.heap.size ≤ (wD).heap.size from HB.out.size)
                    replace HB := Lib.hid (HB.out.alloc HB.out.size (.cells #[.int .i64 0, .int .i64 0] 41))
                    have HBb := HBbn
                    clear HBbn
                    generalize World.alloc (wD) (.cells #[.int .i64 0, .int .i64 0] 41) = w3 at *
                    generalize (wD).heap.size = bb at *
                    refine hK _ _ ⟨_, fun _ h => h, HB.out, ?_⟩
                    clear hK K
                    try simp only [Act.put, List.setIfInBounds_toArray, List.set_cons_zero, List.set_cons_succ]
                    refine wpG_seg [] [10] 2 (by kernel_rfl) (by intro c a d v w h; cases d <;> exact h) (by kernel_rfl) HB.out ?_
                    try simp only [maskRows]
                    refine wpQuiet_nil ?_
                    refine List.forall_mem_singleton.2 ?_
                    refine segt_run rfl (by rfl) (fun K hK => ?_)
                    go_simp
                    have HAn := Lib.hid (heap_alloc_new (w3) (.cells #[.int .i64 0, .int .i64 0] 41))
                    have HGba := Lib.hid (show wq.heap.size ≤ (w3).heap.size from HB.out.size)
                    have HNE := Lib.hid (Nat.ne_of_gt (Array.getElem?_eq_some_iff.1 HBb.out).1)
                    replace HB := Lib.hid (HB.out.alloc HB.out.size (.cells #[.int .i64 0, .int .i64 0] 41))
                    replace HBb := Lib.hid ((Below.heap_alloc _ (.cells #[.int .i64 0, .int .i64 0] 41) _ (Array.getElem?_eq_some_iff.1 HBb.out).1).trans HBb.out)
                    have HA := HAn
                    clear HAn
                    generalize World.alloc (w3) (.cells #[.int .i64 0, .int .i64 0] 41) = w4 at *
                    generalize (w3).heap.size = ba at *
                    refine hK _ _ ⟨_, fun _ h => h, HB.out, ?_⟩
                    clear hK K
                    try simp only [Act.put, List.setIfInBounds_toArray, List.set_cons_zero, List.set_cons_succ]
                    refine wpG_seg [] [12] 1 (by kernel_rfl) (by intro c a d v w h; cases d <;> exact h) (by kernel_rfl) HB.out ?_
                    try simp only [maskRows]
                    refine wpQuiet_nil ?_
                    refine List.forall_mem_singleton.2 ?_
                    obtain ⟨t0, t1, tf0, tf1⟩ := row2_of HA.out
                    have tlt := (Array.getElem?_eq_some_iff.1 HA.out).1
                    refine segt_run rfl (by rfl) (fun K hK => ?_)
                    go_simp
                    replace HA := Lib.hid (set2 (.int .i64 p) (.int .i64 q) HA.out)
                    replace HBb := Lib.hid (row_set2 HBb.out (show bb ≠ ba from HNE.out.symm) (.int .i64 p) (.int .i64 q))
                    replace HB := Lib.hid (HB.out.grown (grown2 w4 ba (.int .i64 p) (.int .i64 q)) HB.out.size (fun j e => by cases e; exact HGba.out))
                    clear t0 t1 tf0 tf1 tlt
                    generalize (World.setCell (World.setCell w4 ⟨ba, 0, none⟩ (.int .i64 p)) ⟨ba, 1, none⟩ (.int .i64 q)) = wSba at *
                    refine hK _ _ ⟨_, fun _ h => h, HB.out, ?_⟩
                    clear hK K
                    try simp only [Act.put, List.setIfInBounds_toArray, List.set_cons_zero, List.set_cons_succ]
                    refine wpG_seg [] [13] 0 (by kernel_rfl) (by intro c a d v w h; cases d <;> exact h) (by kernel_rfl) HB.out ?_
                    try simp only [maskRows]
                    refine wpQuiet_nil ?_
                    refine List.forall_mem_singleton.2 ?_
                    obtain ⟨t0, t1, tf0, tf1⟩ := row2_of HBb.out
                    have tlt := (Array.getElem?_eq_some_iff.1 HBb.out).1
                    refine segt_run rfl (by rfl) (fun K hK => ?_)
                    go_simp
                    replace HBb := Lib.hid (set2 (.int .i64 p2) (.int .i64 q2) HBb.out)
                    replace HA := Lib.hid (row_set2 HA.out (show ba ≠ bb from HNE.out) (.int .i64 p2) (.int .i64 q2))
                    replace HB := Lib.hid (HB.out.grown (grown2 wSba bb (.int .i64 p2) (.int .i64 q2)) HB.out.size (fun j e => by cases e; exact HGbb.out))
                    clear t0 t1 tf0 tf1 tlt
                    generalize (World.setCell (World.setCell wSba ⟨bb, 0, none⟩ (.int .i64 p2)) ⟨bb, 1, none⟩ (.int .i64 q2)) = wSbb at *
                    refine hK _ _ ⟨_, fun _ h => h, HB.out, ?_⟩
                    clear hK K
                    try simp only [Act.put, List.setIfInBounds_toArray, List.set_cons_zero, List.set_cons_succ]
                    refine wpG_end [] (by kernel_rfl) (by intro c a d v w h; cases d <;> exact h) (by kernel_rfl) HB.out ?_
                    try simp only [maskRows]
                    refine wpQuiet_nil ?_
                    go_wp2_with fail
                    go_meet
                    exact ⟨ba, bb, rfl, rfl, HA.out, HBb.out, HB.out⟩
                case rest =>
                  obtain ⟨ba, bb, rfl, rfl, hxa, hxb, hbc⟩ := hcut
                  have HXA := Lib.hid hxa
                  have HXB := Lib.hid hxb
                  have HQC := Lib.hid (HQ.out.next hbc)
                  clear hxa hxb hbc L0 L1 HQ
                  have LA : ∀ w' : World, Below wc.heap.size wc w' → (loadVar 41 ⟨ba, 0, none⟩).run Try.prog w' = .ok (.agg #[.int .i64 p, .int .i64 q]) w' := fun w' h => by
                    obtain ⟨t0, t1, -, -⟩ := row2_of HXA.out
                    exact key_load (k := (p, q)) (o := 0) ⟨t0, t1⟩ (Array.getElem?_eq_some_iff.1 HXA.out).1 h
                  have LB : ∀ w' : World, Below wc.heap.size wc w' → (loadVar 41 ⟨bb, 0, none⟩).run Try.prog w' = .ok (.agg #[.int .i64 p2, .int .i64 q2]) w' := fun w' h => by
                    obtain ⟨t0, t1, -, -⟩ := row2_of HXB.out
                    exact key_load (k := (p2, q2)) (o := 0) ⟨t0, t1⟩ (Array.getElem?_eq_some_iff.1 HXB.out).1 h
                  by_cases he : ((p, q) : K2) = (p2, q2)
                  · have AN : ∀ wx, (binOp .neq 41 (.agg #[.int .i64 p, .int .i64 q]) (.agg #[.int .i64 p2, .int .i64 q2])).run Try.prog wx = .ok (.bool false) wx := fun wx => by
                      have := key_neq (p, q) (p2, q2) wx
                      rw [show (((p, q) : K2) == (p2, q2)) = true from beq_iff_eq.2 he] at this
                      exact this
                    have HE := Lib.hid he
                    clear he
                    go_upto_region 16 with (fail)
                    refine wp_region_below wc (by kernel_rfl) (by kernel_rfl) (Below.refl _ _) ?_
                    repeat (first
                      | go_big_quiet_skip
                      | (go_big_quiet_want
                         first
                           | (go_big_quiet_op; go_big_quiet_on)
                           | (refine q_load 41 _ _ _ rfl rfl LA ?_; simp only [Act.put, List.setIfInBounds_toArray, List.set_cons_zero, List.set_cons_succ]; go_big_quiet_on)
                           | (refine q_load 41 _ _ _ rfl rfl LB ?_; simp only [Act.put, List.setIfInBounds_toArray, List.set_cons_zero, List.set_cons_succ]; go_big_quiet_on)
                           | (refine q_bin _ 41 _ _ _ _ _ _ rfl rfl rfl (fun w => key_guard _ _ _ (p, q) (p2, q2) w) (fun w => AN w) ?_; simp only [Act.put, List.setIfInBounds_toArray, List.set_cons_zero, List.set_cons_succ]; go_big_quiet_on)
                           | (go_big_quiet_op; refine ⟨_, fun _ _ => rfl, ?_⟩; go_big_quiet_on)
                           | (go_big_quiet_op; refine ⟨_, fun _ _ _ => rfl, ?_⟩; go_big_quiet_on)))
                    refine wpQuiet_nil ?_
                    intro w9 hb9
                    have HQ9 := Lib.hid (HQC.out.next hb9)
                    clear hb9 LA LB HXA HXB HQC HSTP
                    go_wp2_with fail
                    exact ⟨⟨k + 1, N, b, _, _, by omega, rfl, rfl, by go_num, rfl, HQ9.out, HV.out, HB1.out, fun hb => ⟨(HB2.out hb).1, fun j hj => by
                      rcases (by omega : j < k ∨ j = k) with h1 | rfl
                      · exact (HB2.out hb).2 j h1
                      · rw [HSK.out, ← (HB2.out hb).1]; exact .inr HE.out⟩⟩, by simp [intOf]; omega⟩
                  · have AN : ∀ wx, (binOp .neq 41 (.agg #[.int .i64 p, .int .i64 q]) (.agg #[.int .i64 p2, .int .i64 q2])).run Try.prog wx = .ok (.bool true) wx := fun wx => by
                      have := key_neq (p, q) (p2, q2) wx
                      rw [show (((p, q) : K2) == (p2, q2)) = false from beq_eq_false_iff_ne.2 he] at this
                      exact this
                    clear he
                    have HC1 := Lib.hid (fun wx (hb : Below wc.heap.size wc wx) => shaskey_any _ N (p, q) wx (keysAt_below (keysAt_own HQC.out.own) hb) (by omega))
                    have HC2 := Lib.hid (fun wx (hb : Below wc.heap.size wc wx) => shaskey_any _ N (p2, q2) wx (keysAt_below (keysAt_own HQC.out.own) hb) (by omega))
                    unfold kv at HC1 HC2
                    dsimp only at HC1 HC2
                    generalize hxa : hasKeyB N (p, q) = xa at *
                    generalize hxb : hasKeyB N (p2, q2) = xb at *
                    have HHA := Lib.hid hxa
                    have HHB := Lib.hid hxb
                    clear hxa hxb
                    by_cases hxx : xa = xb
                    · subst hxx
                      cases xa
                      all_goals
                        go_upto_region 16 with (fail)
                        refine wp_region_below wc (by kernel_rfl) (by kernel_rfl) (Below.refl _ _) ?_
                        repeat (first
                          | go_big_quiet_skip
                          | (go_big_quiet_want
                             first
                               | (go_big_quiet_op; go_big_quiet_on)
                               | (refine q_load 41 _ _ _ rfl rfl LA ?_; simp only [Act.put, List.setIfInBounds_toArray, List.set_cons_zero, List.set_cons_succ]; go_big_quiet_on)
                               | (refine q_load 41 _ _ _ rfl rfl LB ?_; simp only [Act.put, List.setIfInBounds_toArray, List.set_cons_zero, List.set_cons_succ]; go_big_quiet_on)
                               | (refine q_bin _ 41 _ _ _ _ _ _ rfl rfl rfl (fun w => key_guard _ _ _ (p, q) (p2, q2) w) (fun w => AN w) ?_; simp only [Act.put, List.setIfInBounds_toArray, List.set_cons_zero, List.set_cons_succ]; go_big_quiet_on)
                               | (go_big_quiet_op; refine ⟨_, fun _ _ => rfl, ?_⟩; go_big_quiet_on)
                               | (go_big_quiet_op; refine ⟨_, fun _ _ _ => rfl, ?_⟩; go_big_quiet_on)
                               | (go_big_quiet_op; apply Exists.intro; refine ⟨fun w' hw' => ?_, ?_⟩
                                  · first
                                    | (with_reducible refine (HC1.out w' hw').mono ?_
                                       rintro e w2 ⟨rfl, hb2⟩
                                       exact ⟨rfl, hw'.trans (hb2.mono hw'.size)⟩)
                                    | (with_reducible refine (HC2.out w' hw').mono ?_
                                       rintro e w2 ⟨rfl, hb2⟩
                                       exact ⟨rfl, hw'.trans (hb2.mono hw'.size)⟩)
                                  go_big_quiet_on)))
                        refine wpQuiet_nil ?_
                        intro w9 hb9
                        clear HC1 HC2
                        have HQ9 := Lib.hid (HQC.out.next hb9)
                        clear hb9 LA LB HXA HXB HQC HSTP
                        go_wp2_with fail
                        exact ⟨⟨k + 1, N, b, _, _, by omega, rfl, rfl, by go_num, rfl, HQ9.out, HV.out, HB1.out, fun hb => ⟨(HB2.out hb).1, fun j hj => by
                          rcases (by omega : j < k ∨ j = k) with h1 | rfl
                          · exact (HB2.out hb).2 j h1
                          · rw [HSK.out, ← (HB2.out hb).1]; exact .inl (by rw [HHA.out, HHB.out])⟩⟩, by simp [intOf]; omega⟩
                    · have HST2 := Lib.hid (HSTP.out hxx)
                      have hxx' : xa = !xb := by cases xa <;> cases xb <;> simp_all
                      subst hxx'
                      cases xb
                      all_goals
                        try dsimp only [Bool.not_true, Bool.not_false] at *
                        go_upto_region 16 with (fail)
                        refine wp_region_below wc (by kernel_rfl) (by kernel_rfl) (Below.refl _ _) ?_
                        repeat (first
                          | go_big_quiet_skip
                          | (go_big_quiet_want
                             first
                               | (go_big_quiet_op; go_big_quiet_on)
                               | (refine q_load 41 _ _ _ rfl rfl LA ?_; simp only [Act.put, List.setIfInBounds_toArray, List.set_cons_zero, List.set_cons_succ]; go_big_quiet_on)
                               | (refine q_load 41 _ _ _ rfl rfl LB ?_; simp only [Act.put, List.setIfInBounds_toArray, List.set_cons_zero, List.set_cons_succ]; go_big_quiet_on)
                               | (refine q_bin _ 41 _ _ _ _ _ _ rfl rfl rfl (fun w => key_guard _ _ _ (p, q) (p2, q2) w) (fun w => AN w) ?_; simp only [Act.put, List.setIfInBounds_toArray, List.set_cons_zero, List.set_cons_succ]; go_big_quiet_on)
                               | (go_big_quiet_op; refine ⟨_, fun _ _ => rfl, ?_⟩; go_big_quiet_on)
                               | (go_big_quiet_op; refine ⟨_, fun _ _ _ => rfl, ?_⟩; go_big_quiet_on)
                               | (go_big_quiet_op; apply Exists.intro; refine ⟨fun w' hw' => ?_, ?_⟩
                                  · first
                                    | (with_reducible refine (HC1.out w' hw').mono ?_
                                       rintro e w2 ⟨rfl, hb2⟩
                                       exact ⟨rfl, hw'.trans (hb2.mono hw'.size)⟩)
                                    | (with_reducible refine (HC2.out w' hw').mono ?_
                                       rintro e w2 ⟨rfl, hb2⟩
                                       exact ⟨rfl, hw'.trans (hb2.mono hw'.size)⟩)
                                  go_big_quiet_on)))
                        refine wpQuiet_nil ?_
                        intro w9 hb9
                        replace HQC := Lib.hid (HQC.out.next hb9)
                        have LA2 : ∀ w' : World, Below w9.heap.size w9 w' → (loadVar 41 ⟨ba, 0, none⟩).run Try.prog w' = .ok (.agg #[.int .i64 p, .int .i64 q]) w' := fun w' h => LA w' (hb9.trans (h.mono hb9.size))
                        have LB2 : ∀ w' : World, Below w9.heap.size w9 w' → (loadVar 41 ⟨bb, 0, none⟩).run Try.prog w' = .ok (.agg #[.int .i64 p2, .int .i64 q2]) w' := fun w' h => LB w' (hb9.trans (h.mono hb9.size))
                        have HON := Lib.hid HQC.out.own
                        have HB := Lib.hid (Below.refl w9.heap.size w9)
                        clear HC1 HC2 LA LB AN HXA HXB HSTP hb9
                        go_upto_region 17 with (fail)
                        refine wp_region_G (fun w' => Below w9.heap.size w9 w') (by kernel_rfl) ?_
                        replace HB := Lib.hid (HB.out.drew)
                        replace HON := Lib.hid (HON.out.drew)
                        generalize (w9).drew = wD at *
                        refine wpG_seg [true, true, false, false, true] [2, 5] 4 (by kernel_rfl) (by intro c a d v w h; cases d <;> exact h) (by kernel_rfl) HB.out ?_
                        try simp only [maskRows]
                        repeat (first
                          | go_big_quiet_skip
                          | (go_big_quiet_want
                             first
                               | (go_big_quiet_op; go_big_quiet_on)
                               | (refine q_load 41 _ _ _ rfl rfl LA2 ?_; simp only [Act.put, List.setIfInBounds_toArray, List.set_cons_zero, List.set_cons_succ]; go_big_quiet_on)
                               | (refine q_load 41 _ _ _ rfl rfl LB2 ?_; simp only [Act.put, List.setIfInBounds_toArray, List.set_cons_zero, List.set_cons_succ]; go_big_quiet_on)
                               | (go_big_quiet_op; refine ⟨_, fun _ _ => rfl, ?_⟩; go_big_quiet_on)
                               | (go_big_quiet_op; refine ⟨_, fun _ _ _ => rfl, ?_⟩; go_big_quiet_on)))
                        refine wpQuiet_nil ?_
                        refine List.forall_mem_cons.2 ⟨?_, List.forall_mem_singleton.2 ?_⟩
                        · refine segt_run rfl (by rfl) (fun K hK => ?_)
                          go_simp
                          have HL1n := Lib.hid (own_one (w := wD) (base := 0) p q (Nat.zero_le _))
                          replace HB := Lib.hid (HB.out.alloc HB.out.size (.cells #[.int .i64 p, .int .i64 q] 41))
                          replace HON := Lib.hid (HON.out.alloc (.cells #[.int .i64 p, .int .i64 q] 41))
                          have HL1 := HL1n
                          clear HL1n
                          generalize World.alloc (wD) (.cells #[.int .i64 p, .int .i64 q] 41) = w30 at *
                          generalize (wD).heap.size = b2 at *
                          refine hK _ _ ⟨_, fun _ h => h, HB.out, ?_⟩
                          clear hK K
                          try simp only [Act.put, List.setIfInBounds_toArray, List.set_cons_zero, List.set_cons_succ]
                          refine wpG_seg [] [3, 5] 3 (by kernel_rfl) (by intro c a d v w h; cases d <;> exact h) (by kernel_rfl) HB.out ?_
                          try simp only [maskRows]
                          refine wpQuiet_nil ?_
                          refine List.forall_mem_cons.2 ⟨?_, List.forall_mem_singleton.2 ?_⟩
                          · refine segt_run rfl (by rfl) (fun K hK => ?_)
                            go_simp
                            refine (sjoined_any _ _ N [(p, q)] w30 (keysAt_own HON.out) (keysAt_own HL1.out) (by omega) (by simp)).mono ?_
                            rintro e w31 ⟨v5, rfl, ho5, hb⟩
                            dsimp only
                            obtain ⟨a5, n5, c5, rfl⟩ := own_shape ho5
                            have HJ1 := Lib.hid (own_base ho5 (Nat.zero_le _))
                            clear ho5
                            replace HB := Lib.hid (HB.out.trans (hb.mono HB.out.size))
                            replace HON := Lib.hid (own_below HON.out hb)
                            replace HL1 := Lib.hid (own_below HL1.out hb)
                            clear hb
                            refine hK _ _ ⟨_, fun _ h => h, HB.out, ?_⟩
                            clear hK K
                            try simp only [Act.put, List.setIfInBounds_toArray, List.set_cons_zero, List.set_cons_succ]
                            refine wpG_seg [] [5] 2 (by kernel_rfl) (by intro c a d v w h; cases d <;> exact h) (by kernel_rfl) HB.out ?_
                            try simp only [maskRows]
                            refine wpQuiet_nil ?_
                            refine List.forall_mem_singleton.2 ?_
                            refine segt_run rfl (by rfl) (fun K hK => ?_)
                            go_simp
                            have HL2n := Lib.hid (own_one (w := w31) (base := 0) p2 q2 (Nat.zero_le _))
                            replace HB := Lib.hid (HB.out.alloc HB.out.size (.cells #[.int .i64 p2, .int .i64 q2] 41))
                            replace HON := Lib.hid (HON.out.alloc (.cells #[.int .i64 p2, .int .i64 q2] 41))
                            replace HL1 := Lib.hid (HL1.out.alloc (.cells #[.int .i64 p2, .int .i64 q2] 41))
                            replace HJ1 := Lib.hid (HJ1.out.alloc (.cells #[.int .i64 p2, .int .i64 q2] 41))
                            have HL2 := HL2n
                            clear HL2n
                            generalize World.alloc (w31) (.cells #[.int .i64 p2, .int .i64 q2] 41) = w32 at *
                            generalize (w31).heap.size = b5 at *
                            refine hK _ _ ⟨_, fun _ h => h, HB.out, ?_⟩
                            clear hK K
                            try simp only [Act.put, List.setIfInBounds_toArray, List.set_cons_zero, List.set_cons_succ]
                            refine wpG_seg [] [6] 1 (by kernel_rfl) (by intro c a d v w h; cases d <;> exact h) (by kernel_rfl) HB.out ?_
                            try simp only [maskRows]
                            refine wpQuiet_nil ?_
                            refine List.forall_mem_singleton.2 ?_
                            refine segt_run rfl (by rfl) (fun K hK => ?_)
                            go_simp
                            refine (sjoined_any _ _ (mergeV true N [(p, q)]) [(p2, q2)] w32 (keysAt_own HJ1.out) (keysAt_own HL2.out) (by have := mergeV_leJ N (p, q); omega) (by simp)).mono ?_
                            rintro e w33 ⟨v6, rfl, ho6, hb⟩
                            dsimp only
                            obtain ⟨a6, n6, c6, rfl⟩ := own_shape ho6
                            have HJ2 := Lib.hid (own_base ho6 (Nat.le_trans HQC.out.below.size HB.out.size))
                            clear ho6
                            replace HB := Lib.hid (HB.out.trans (hb.mono HB.out.size))
                            replace HON := Lib.hid (own_below HON.out hb)
                            replace HL1 := Lib.hid (own_below HL1.out hb)
                            replace HJ1 := Lib.hid (own_below HJ1.out hb)
                            replace HL2 := Lib.hid (own_below HL2.out hb)
                            clear hb
                            refine hK _ _ ⟨_, fun _ h => h, HB.out, ?_⟩
                            clear hK K
                            try simp only [Act.put, List.setIfInBounds_toArray, List.set_cons_zero, List.set_cons_succ]
                            refine wpG_end [false, false, false, false, false, false, false, true] (by kernel_rfl) (by intro c a d v w h; cases d <;> exact h) (by kernel_rfl) HB.out ?_
                            try simp only [maskRows]
                            repeat (first
                              | go_big_quiet_skip
                              | (go_big_quiet_want
                                 first
                                   | (go_big_quiet_op; go_big_quiet_on)
                                   | (refine q_load 41 _ _ _ rfl rfl LA2 ?_; simp only [Act.put, List.setIfInBounds_toArray, List.set_cons_zero, List.set_cons_succ]; go_big_quiet_on)
                                   | (refine q_load 41 _ _ _ rfl rfl LB2 ?_; simp only [Act.put, List.setIfInBounds_toArray, List.set_cons_zero, List.set_cons_succ]; go_big_quiet_on)
                                   | (go_big_quiet_op; refine ⟨_, fun _ _ => rfl, ?_⟩; go_big_quiet_on)
                                   | (go_big_quiet_op; refine ⟨_, fun _ _ _ => rfl, ?_⟩; go_big_quiet_on)))
                            refine wpQuiet_nil ?_
                            have HFO := Lib.hid (And.intro HJ2.out (HQC.out.below.trans (HB.out.mono HQC.out.below.size)))
                            clear HJ1 HL1 HL2 HON HB LA2 LB2 HJ2
                            go_wp2_with fail
                            exact ⟨⟨k + 1, _, true, _, _, by omega, rfl, rfl, by go_num, rfl, ⟨HFO.out.2, HFO.out.1⟩, HST2.out.1, fun _ => by
                              have h1 := HST2.out.2.1
                              cases b with
                              | false => rw [(HB2.out rfl).1] at h1; rw [(HB2.out rfl).1]; exact h1
                              | true => have h2 := HB1.out rfl; omega, fun h => by cases h⟩, by simp [intOf]; omega⟩
                          · refine segt_run rfl (by rfl) (fun K hK => ?_)
                            go_simp
                            have HL2n := Lib.hid (own_one (w := w30) (base := 0) p2 q2 (Nat.zero_le _))
                            replace HB := Lib.hid (HB.out.alloc HB.out.size (.cells #[.int .i64 p2, .int .i64 q2] 41))
                            replace HON := Lib.hid (HON.out.alloc (.cells #[.int .i64 p2, .int .i64 q2] 41))
                            replace HL1 := Lib.hid (HL1.out.alloc (.cells #[.int .i64 p2, .int .i64 q2] 41))
                            have HL2 := HL2n
                            clear HL2n
                            generalize World.alloc (w30) (.cells #[.int .i64 p2, .int .i64 q2] 41) = w31 at *
                            generalize (w30).heap.size = b5 at *
                            refine hK _ _ ⟨_, fun _ h => h, HB.out, ?_⟩
                            clear hK K
                            try simp only [Act.put, List.setIfInBounds_toArray, List.set_cons_zero, List.set_cons_succ]
                            refine wpG_seg [] [3] 2 (by kernel_rfl) (by intro c a d v w h; cases d <;> exact h) (by kernel_rfl) HB.out ?_
                            try simp only [maskRows]
                            refine wpQuiet_nil ?_
                            refine List.forall_mem_singleton.2 ?_
                            refine segt_run rfl (by rfl) (fun K hK => ?_)
                            go_simp
                            refine (sjoined_any _ _ N [(p, q)] w31 (keysAt_own HON.out) (keysAt_own HL1.out) (by omega) (by simp)).mono ?_
                            rintro e w32 ⟨v5, rfl, ho5, hb⟩
                            dsimp only
                            obtain ⟨a5, n5, c5, rfl⟩ := own_shape ho5
                            have HJ1 := Lib.hid (own_base ho5 (Nat.zero_le _))
                            clear ho5
                            replace HB := Lib.hid (HB.out.trans (hb.mono HB.out.size))
                            replace HON := Lib.hid (own_below HON.out hb)
                            replace HL1 := Lib.hid (own_below HL1.out hb)
                            replace HL2 := Lib.hid (own_below HL2.out hb)
                            clear hb
                            refine hK _ _ ⟨_, fun _ h => h, HB.out, ?_⟩
                            clear hK K
                            try simp only [Act.put, List.setIfInBounds_toArray, List.set_cons_zero, List.set_cons_succ]
                            refine wpG_seg [] [6] 1 (by kernel_rfl) (by intro c a d v w h; cases d <;> exact h) (by kernel_rfl) HB.out ?_
                            try simp only [maskRows]
                            refine wpQuiet_nil ?_
                            refine List.forall_mem_singleton.2 ?_
                            refine segt_run rfl (by rfl) (fun K hK => ?_)
                            go_simp
                            refine (sjoined_any _ _ (mergeV true N [(p, q)]) [(p2, q2)] w32 (keysAt_own HJ1.out) (keysAt_own HL2.out) (by have := mergeV_leJ N (p, q); omega) (by simp)).mono ?_
                            rintro e w33 ⟨v6, rfl, ho6, hb⟩
                            dsimp only
                            obtain ⟨a6, n6, c6, rfl⟩ := own_shape ho6
                            have HJ2 := Lib.hid (own_base ho6 (Nat.le_trans HQC.out.below.size HB.out.size))
                            clear ho6
                            replace HB := Lib.hid (HB.out.trans (hb.mono HB.out.size))
                            replace HON := Lib.hid (own_below HON.out hb)
                            replace HL1 := Lib.hid (own_below HL1.out hb)
                            replace HL2 := Lib.hid (own_below HL2.out hb)
                            replace HJ1 := Lib.hid (own_below HJ1.out hb)
                            clear hb
                            refine hK _ _ ⟨_, fun _ h => h, HB.out, ?_⟩
                            clear hK K
                            try simp only [Act.put, List.setIfInBounds_toArray, List.set_cons_zero, List.set_cons_succ]
                            refine wpG_end [false, false, false, false, false, false, false, true] (by kernel_rfl) (by intro c a d v w h; cases d <;> exact h) (by kernel_rfl) HB.out ?_
                            try simp only [maskRows]
                            repeat (first
                              | go_big_quiet_skip
                              | (go_big_quiet_want
                                 first
                                   | (go_big_quiet_op; go_big_quiet_on)
                                   | (refine q_load 41 _ _ _ rfl rfl LA2 ?_; simp only [Act.put, List.setIfInBounds_toArray, List.set_cons_zero, List.set_cons_succ]; go_big_quiet_on)
                                   | (refine q_load 41 _ _ _ rfl rfl LB2 ?_; simp only [Act.put, List.setIfInBounds_toArray, List.set_cons_zero, List.set_cons_succ]; go_big_quiet_on)
                                   | (go_big_quiet_op; refine ⟨_, fun _ _ => rfl, ?_⟩; go_big_quiet_on)
                                   | (go_big_quiet_op; refine ⟨_, fun _ _ _ => rfl, ?_⟩; go_big_quiet_on)))
                            refine wpQuiet_nil ?_
                            have HFO := Lib.hid (And.intro HJ2.out (HQC.out.below.trans (HB.out.mono HQC.out.below.size)))
                            clear HJ1 HL1 HL2 HON HB LA2 LB2 HJ2
                            go_wp2_with fail
                            exact ⟨⟨k + 1, _, true, _, _, by omega, rfl, rfl, by go_num, rfl, ⟨HFO.out.2, HFO.out.1⟩, HST2.out.1, fun _ => by
                              have h1 := HST2.out.2.1
                              cases b with
                              | false => rw [(HB2.out rfl).1] at h1; rw [(HB2.out rfl).1]; exact h1
                              | true => have h2 := HB1.out rfl; omega, fun h => by cases h⟩, by simp [intOf]; omega⟩
                        · refine segt_run rfl (by rfl) (fun K hK => ?_)
                          go_simp
                          have HL2n := Lib.hid (own_one (w := wD) (base := 0) p2 q2 (Nat.zero_le _))
                          replace HB := Lib.hid (HB.out.alloc HB.out.size (.cells #[.int .i64 p2, .int .i64 q2] 41))
                          replace HON := Lib.hid (HON.out.alloc (.cells #[.int .i64 p2, .int .i64 q2] 41))
                          have HL2 := HL2n
                          clear HL2n
                          generalize World.alloc (wD) (.cells #[.int .i64 p2, .int .i64 q2] 41) = w30 at *
                          generalize (wD).heap.size = b5 at *
                          refine hK _ _ ⟨_, fun _ h => h, HB.out, ?_⟩
                          clear hK K
                          try simp only [Act.put, List.setIfInBounds_toArray, List.set_cons_zero, List.set_cons_succ]
                          refine wpG_seg [] [2] 3 (by kernel_rfl) (by intro c a d v w h; cases d <;> exact h) (by kernel_rfl) HB.out ?_
                          try simp only [maskRows]
                          refine wpQuiet_nil ?_
                          refine List.forall_mem_singleton.2 ?_
                          refine segt_run rfl (by rfl) (fun K hK => ?_)
                          go_simp
                          have HL1n := Lib.hid (own_one (w := w30) (base := 0) p q (Nat.zero_le _))
                          replace HB := Lib.hid (HB.out.alloc HB.out.size (.cells #[.int .i64 p, .int .i64 q] 41))
                          replace HON := Lib.hid (HON.out.alloc (.cells #[.int .i64 p, .int .i64 q] 41))
                          replace HL2 := Lib.hid (HL2.out.alloc (.cells #[.int .i64 p, .int .i64 q] 41))
                          have HL1 := HL1n
                          clear HL1n
                          generalize World.alloc (w30) (.cells #[.int .i64 p, .int .i64 q] 41) = w31 at *
                          generalize (w30).heap.size = b2 at *
                          refine hK _ _ ⟨_, fun _ h => h, HB.out, ?_⟩
                          clear hK K
                          try simp only [Act.put, List.setIfInBounds_toArray, List.set_cons_zero, List.set_cons_succ]
                          refine wpG_seg [] [3] 2 (by kernel_rfl) (by intro c a d v w h; cases d <;> exact h) (by kernel_rfl) HB.out ?_
                          try simp only [maskRows]
                          refine wpQuiet_nil ?_
                          refine List.forall_mem_singleton.2 ?_
                          refine segt_run rfl (by rfl) (fun K hK => ?_)
                          go_simp
                          refine (sjoined_any _ _ N [(p, q)] w31 (keysAt_own HON.out) (keysAt_own HL1.out) (by omega) (by simp)).mono ?_
                          rintro e w32 ⟨v5, rfl, ho5, hb⟩
                          dsimp only
                          obtain ⟨a5, n5, c5, rfl⟩ := own_shape ho5
                          have HJ1 := Lib.hid (own_base ho5 (Nat.zero_le _))
                          clear ho5
                          replace HB := Lib.hid (HB.out.trans (hb.mono HB.out.size))
                          replace HON := Lib.hid (own_below HON.out hb)
                          replace HL2 := Lib.hid (own_below HL2.out hb)
                          replace HL1 := Lib.hid (own_below HL1.out hb)
                          clear hb
                          refine hK _ _ ⟨_, fun _ h => h, HB.out, ?_⟩
                          clear hK K
                          try simp only [Act.put, List.setIfInBounds_toArray, List.set_cons_zero, List.set_cons_succ]
                          refine wpG_seg [] [6] 1 (by kernel_rfl) (by intro c a d v w h; cases d <;> exact h) (by kernel_rfl) HB.out ?_
                          try simp only [maskRows]
                          refine wpQuiet_nil ?_
                          refine List.forall_mem_singleton.2 ?_
                          refine segt_run rfl (by rfl) (fun K hK => ?_)
                          go_simp
                          refine (sjoined_any _ _ (mergeV true N [(p, q)]) [(p2, q2)] w32 (keysAt_own HJ1.out) (keysAt_own HL2.out) (by have := mergeV_leJ N (p, q); omega) (by simp)).mono ?_
                          rintro e w33 ⟨v6, rfl, ho6, hb⟩
                          dsimp only
                          obtain ⟨a6, n6, c6, rfl⟩ := own_shape ho6
                          have HJ2 := Lib.hid (own_base ho6 (Nat.le_trans HQC.out.below.size HB.out.size))
                          clear ho6
                          replace HB := Lib.hid (HB.out.trans (hb.mono HB.out.size))
                          replace HON := Lib.hid (own_below HON.out hb)
                          replace HL2 := Lib.hid (own_below HL2.out hb)
                          replace HL1 := Lib.hid (own_below HL1.out hb)
                          replace HJ1 := Lib.hid (own_below HJ1.out hb)
                          clear hb
                          refine hK _ _ ⟨_, fun _ h => h, HB.out, ?_⟩
                          clear hK K
                          try simp only [Act.put, List.setIfInBounds_toArray, List.set_cons_zero, List.set_cons_succ]
                          refine wpG_end [false, false, false, false, false, false, false, true] (by kernel_rfl) (by intro c a d v w h; cases d <;> exact h) (by kernel_rfl) HB.out ?_
                          try simp only [maskRows]
                          repeat (first
                            | go_big_quiet_skip
                            | (go_big_quiet_want
                               first
                                 | (go_big_quiet_op; go_big_quiet_on)
                                 | (refine q_load 41 _ _ _ rfl rfl LA2 ?_; simp only [Act.put, List.setIfInBounds_toArray, List.set_cons_zero, List.set_cons_succ]; go_big_quiet_on)
                                 | (refine q_load 41 _ _ _ rfl rfl LB2 ?_; simp only [Act.put, List.setIfInBounds_toArray, List.set_cons_zero, List.set_cons_succ]; go_big_quiet_on)
                                 | (go_big_quiet_op; refine ⟨_, fun _ _ => rfl, ?_⟩; go_big_quiet_on)
                                 | (go_big_quiet_op; refine ⟨_, fun _ _ _ => rfl, ?_⟩; go_big_quiet_on)))
                          refine wpQuiet_nil ?_
                          have HFO := Lib.hid (And.intro HJ2.out (HQC.out.below.trans (HB.out.mono HQC.out.below.size)))
                          clear HJ1 HL1 HL2 HON HB LA2 LB2 HJ2
                          go_wp2_with fail
                          exact ⟨⟨k + 1, _, true, _, _, by omega, rfl, rfl, by go_num, rfl, ⟨HFO.out.2, HFO.out.1⟩, HST2.out.1, fun _ => by
                            have h1 := HST2.out.2.1
                            cases b with
                            | false => rw [(HB2.out rfl).1] at h1; rw [(HB2.out rfl).1]; exact h1
                            | true => have h2 := HB1.out rfl; omega, fun h => by cases h⟩, by simp [intOf]; omega⟩
              · obtain rfl : k = S.length := by omega
                cases b with
                | false =>
                  obtain ⟨rfl, hcl⟩ := HB2.out rfl
                  have HCL := Lib.hid (show ∀ s ∈ S, closedIn N s from fun s hs => by
                    obtain ⟨j, hj, rfl⟩ := List.getElem_of_mem hs
                    have := hcl j hj
                    rwa [List.getD, List.getElem?_eq_getElem hj] at this)
                  clear hcl HB1 HB2
                  go_wp2_with fail
                  exact ⟨⟨N, false, _, _, rfl, rfl, rfl, HQ.out, HV.out, fun _ => HCL.out⟩, by simp [lenOf]⟩
                | true =>
                  have hgt := HB1.out rfl
                  clear HB1 HB2
                  go_wp2_with fail
                  exact ⟨⟨N, true, _, _, rfl, rfl, rfl, HQ.out, HV.out, fun h => by cases h⟩, by simp [lenOf]; omega⟩
end Go.Proofs.Ytbbjpjkclealfaa
namespace Go.Proofs.Ytbbjpjkclealfaa
open Go.ChangeShapes Go.WideShapes Go.ChangeAt Go.RowKit Go.BigFrame
set_option linter.unusedVariables false

structure Row4 (w : World) (b : Nat) (x y z u : Value) : Prop where
  c0 : w.cell? ⟨b, 0, none⟩ = some x
  c1 : w.cell? ⟨b, 1, none⟩ = some y
  c2 : w.cell? ⟨b, 2, none⟩ = some z
  c3 : w.cell? ⟨b, 3, none⟩ = some u
  f0 : w.frozen? ⟨b, 0, none⟩ = false
  f1 : w.frozen? ⟨b, 1, none⟩ = false
  f2 : w.frozen? ⟨b, 2, none⟩ = false
  f3 : w.frozen? ⟨b, 3, none⟩ = false
theorem row4_of {w : World} {b : Nat} {x y z u : Value} {t : TypeId} (h : w.heap[b]? = some (.cells #[x, y, z, u] t (0, 0))) : Row4 w b x y z u :=
  ⟨by rw [cell_of_row _ _ 0 _ _ _ h]; rfl, by rw [cell_of_row _ _ 1 _ _ _ h]; rfl, by rw [cell_of_row _ _ 2 _ _ _ h]; rfl, by rw [cell_of_row _ _ 3 _ _ _ h]; rfl,
   by simp [World.frozen?, h], by simp [World.frozen?, h], by simp [World.frozen?, h], by simp [World.frozen?, h]⟩
end Go.Proofs.Ytbbjpjkclealfaa
namespace Go.Proofs.Ytbbjpjkclealfaa
open Go.ChangeShapes Go.WideShapes Go.ChangeAt Go.RowKit Go.BigFrame
set_option linter.unusedVariables false
set_option linter.unusedSimpArgs false

set_option maxRecDepth 100000 in
set_option maxHeartbeats 1000000 in
theorem isetsok_any (vs : Value) (S : List S2) (w : World) (hs : stAt w vs S) (hS : S.length ≤ 2000000) :
    Calls Try.prog 74 #[vs] w fun e w' => e = .returned (.bool (S.all setOkB)) ∧ Below w.heap.size w w' := by
  have HST := Lib.hid (fun wx (hb : Below w.heap.size w wx) => stAt_below hs hb)
  obtain ⟨asv, csv, rfl, -, -⟩ := hs
  go_enter Try.func74, Try.ntmps74
  go_wp2_with fail
  go_loopw [7] (fun i wr => ∃ (k : Nat) (wz : World), k ≤ S.length ∧ i = .int .i64 k ∧ wz = wr ∧ Below w.heap.size w wz ∧ (S.take k).all setOkB = true) (fun i _ => S.length - (intOf i).toNat)
  case atStart => exact ⟨0, _, Nat.zero_le _, rfl, rfl, Below.refl _ _, rfl⟩
  case round =>
    obtain ⟨k, wz, hk, rfl, hwz, hbz, hall⟩ := hrel
    subst hwz
    have HBZ := Lib.hid hbz
    have HALL := Lib.hid hall
    clear hbz hall
    by_cases hlt : k < S.length
    · have z0 : (0 : Int) ≤ (k : Int) := by omega
      have z1 : (k : Int) < (S.length : Int) := by omega
      have n0 : (0 : Int) < 2 := by omega
      have n1 : (1 : Int) < 2 := by omega
      have HAT := Lib.hid (all_take hlt)
      have HNO := Lib.hid (fun h => all_no (S := S) hlt h)
      obtain ⟨a', c', e1, -, hcs⟩ := HST.out _ HBZ.out
      cases e1
      obtain ⟨gs, off, rfl, hgs, hcs⟩ := hcs.resolve_left (by omega)
      obtain ⟨⟨c0, c1⟩, c2, c3⟩ := hcs k hlt
      clear hcs
      generalize S.getD k s0 = s at *
      obtain ⟨⟨p, q⟩, p2, q2⟩ := s
      rw [show setOkB ((p, q), p2, q2) = (keyOkB (p, q) && keyOkB (p2, q2)) from rfl] at HAT HNO
      dsimp only at *
      have KA := Lib.hid (fun wx => ikeyok_any (p, q) wx)
      have KB := Lib.hid (fun wx => ikeyok_any (p2, q2) wx)
      unfold kv at KA KB
      dsimp only at KA KB
      generalize keyOkB (p, q) = ba at *
      generalize keyOkB (p2, q2) = bb at *
      have hba := (Below.refl wz.heap.size wz).alloc (Nat.le_refl _) (.cells #[.int .i64 p, .int .i64 q, .int .i64 p2, .int .i64 q2] 107)
      have HX := Lib.hid (heap_alloc_new wz (.cells #[.int .i64 p, .int .i64 q, .int .i64 p2, .int .i64 q2] 107))
      have HBA := Lib.hid (HBZ.out.trans (hba.mono HBZ.out.size))
      obtain ⟨x0, x1, x2, x3, -, -, -, -⟩ := row4_of HX.out
      clear hba
      go_wp2_with fail
      generalize wz.alloc (.cells #[.int .i64 p, .int .i64 q, .int .i64 p2, .int .i64 q2] 107) = W at *
      refine (KA.out _).mono ?_
      rintro e w4 ⟨rfl, hb4⟩
      have HB4 := Lib.hid (HBA.out.trans (hb4.mono HBA.out.size))
      have HX4 := Lib.hid ((hb4.block _ (Array.getElem?_eq_some_iff.1 HX.out).1).trans HX.out)
      clear hb4 c0 c1 c2 c3 KA HBA HX x0 x1 x2 x3
      obtain ⟨x0, x1, x2, x3, -, -, -, -⟩ := row4_of HX4.out
      cases ba with
      | false =>
        have HBAD := Lib.hid (HNO.out rfl)
        clear HAT HNO HALL KB
        go_wp2_with fail
        go_ret
        exact ⟨by rw [HBAD.out]; rfl, HB4.out⟩
      | true =>
        go_wp2_with fail
        refine (KB.out _).mono ?_
        rintro e w5 ⟨rfl, hb5⟩
        have HB5 := Lib.hid (HB4.out.trans (hb5.mono HB4.out.size))
        clear hb5 x0 x1 x2 x3 KB HB4 HX4
        cases bb with
        | false =>
          have HBAD := Lib.hid (HNO.out rfl)
          clear HAT HNO HALL
          go_wp2_with fail
          go_ret
          exact ⟨by rw [HBAD.out]; rfl, HB5.out⟩
        | true =>
          have HN := Lib.hid (show (S.take (k + 1)).all setOkB = true by rw [HAT.out, HALL.out]; rfl)
          clear HAT HNO HALL
          go_wp2_with fail
          exact ⟨⟨k + 1, _, by omega, by go_num, rfl, HB5.out, HN.out⟩, by simp [intOf]; omega⟩
    · obtain rfl : k = S.length := by omega
      rw [List.take_length] at HALL
      go_wp2_with fail
      go_ret
      exact ⟨by rw [HALL.out]; rfl, HBZ.out⟩
end Go.Proofs.Ytbbjpjkclealfaa
namespace Go.Proofs.Ytbbjpjkclealfaa
open Go.ChangeShapes Go.WideShapes Go.ChangeAt Go.RowKit Go.BigFrame Go.Maps
set_option linter.unusedVariables false
set_option linter.unusedSimpArgs false

theorem others_upd (S : List S2) (s : S2) : updF (updF (othersM S) s.1 (othersM S s.1 ++ [s.2])) s.2 (updF (othersM S) s.1 (othersM S s.1 ++ [s.2]) s.2 ++ [s.1]) = othersM (S ++ [s]) := by
  funext x
  rw [others_snoc]
  unfold updF
  by_cases h2 : x = s.2
  · rw [if_pos h2, if_pos (show s.2 = x from h2.symm)]
    subst h2
    by_cases h1 : s.2 = s.1
    · rw [if_pos h1, if_pos (show s.1 = s.2 from h1.symm), ← h1]
    · rw [if_neg h1, if_neg (show ¬ s.1 = s.2 from fun e => h1 e.symm), List.append_nil]
  · rw [if_neg h2, if_neg (show ¬ s.2 = x from fun e => h2 e.symm), List.append_nil]
    by_cases h1 : x = s.1
    · rw [if_pos h1, if_pos (show s.1 = x from h1.symm), h1]
    · rw [if_neg h1, if_neg (show ¬ s.1 = x from fun e => h1 e.symm), List.append_nil]
theorem keyCells_app2 (a b : List K2) : keyCells (a ++ b) = keyCells a ++ keyCells b := by simp [keyCells]
theorem take_snocS (S : List S2) (k : Nat) (hk : k < S.length) : S.take (k + 1) = S.take k ++ [S.getD k s0] := by
  rw [List.take_succ_eq_append_getElem hk]; simp [List.getD, hk]
set_option maxRecDepth 100000 in
set_option maxHeartbeats 2000000 in
theorem iothersof_any (vs : Value) (S : List S2) (w : World) (hs : stAt w vs S) (hS : S.length ≤ 1900000) (hok : S.all setOkB = true) :
    Calls Try.prog 75 #[vs] w fun e w' => ∃ n hd, e = .returned (.map (some w.heap.size)) ∧ GrI w w' w.heap.size n hd (othersM S) := by
  have hmm := @run_makeMap Try.prog
  have HST := Lib.hid (fun wx (hb : Below w.heap.size w wx) => stAt_below hs hb)
  obtain ⟨asv, csv, rfl, -, -⟩ := hs
  have HI := Lib.hid (GrI.start w)
  go_enter Try.func75, Try.ntmps75
  go_wp2_with fail
  clear hmm
  generalize w.alloc (.map #[] 0) = w0 at *
  go_loopw [9] (fun i wr => ∃ (k : Nat) (wz : World) (hd : K2 → Value), k ≤ S.length ∧ i = .int .i64 k ∧ wz = wr ∧ GrI w wz w.heap.size (2 * k) hd (othersM (S.take k))) (fun i _ => S.length - (intOf i).toNat)
  case atStart => exact ⟨0, _, _, Nat.zero_le _, rfl, rfl, HI.out⟩
  case round =>
    obtain ⟨k, wz, hd, hk, rfl, hwz, hJ⟩ := hrel
    subst hwz
    have HJ := Lib.hid hJ
    clear hJ HI
    by_cases hlt : k < S.length
    · have z0 : (0 : Int) ≤ (k : Int) := by omega
      have z1 : (k : Int) < (S.length : Int) := by omega
      have y0 : (0 : Int) < 2 := by omega
      have y1 : (1 : Int) < 2 := by omega
      have HTK := Lib.hid (take_snocS S k hlt)
      have hsk := setsOk_mem hok (getD_memS hlt)
      obtain ⟨a', c', e1, -, hcs⟩ := HST.out _ HJ.out.below
      cases e1
      obtain ⟨gs, off, rfl, hgs, hcs⟩ := hcs.resolve_left (by omega)
      obtain ⟨⟨c0, c1⟩, c2, c3⟩ := hcs k hlt
      clear hcs
      have hupd := others_upd (S.take k) (S.getD k s0)
      have hol1 := others_len (S.take k) (S.getD k s0).1
      have hol2 := others_len (S.take k) (S.getD k s0).2
      generalize S.getD k s0 = s at *
      have htl : (S.take k).length = k := by rw [List.length_take]; omega
      rw [htl] at hol1 hol2
      obtain ⟨⟨p, q⟩, p2, q2⟩ := s
      dsimp only at *
      have HUP := Lib.hid hupd
      obtain ⟨hk1, hk2⟩ := hsk
      have hba := (Below.refl wz.heap.size wz).alloc (Nat.le_refl _) (.cells #[.int .i64 p, .int .i64 q, .int .i64 p2, .int .i64 q2] 107)
      have HX := Lib.hid (heap_alloc_new wz (.cells #[.int .i64 p, .int .i64 q, .int .i64 p2, .int .i64 q2] 107))
      have HJ1 := Lib.hid (HJ.out.next hba)
      have hszW : (wz.alloc (.cells #[.int .i64 p, .int .i64 q, .int .i64 p2, .int .i64 q2] 107)).heap.size = wz.heap.size + 1 := by simp
      have hbw : w.heap.size < wz.heap.size := by
        obtain ⟨D, -, hm, -⟩ := HJ.out.map
        exact hm.lt
      have HOB := Lib.hid (fun x hx g (e : (hd x).ownBlock = some g) => ((HJ.out.own x hx).lt g e).2)
      have HSZ := Lib.hid hszW
      clear hba hszW hupd
      go_upto_region 5 with (fail)
      generalize wz.alloc (.cells #[.int .i64 p, .int .i64 q, .int .i64 p2, .int .i64 q2] 107) = W at *
      have hba := (Below.refl W.heap.size W).alloc (Nat.le_refl _) (.cells #[.int .i64 p2, .int .i64 q2] 41)
      obtain ⟨st, W1, hrun, hg1, hown1, hnext⟩ := (HJ1.out.next hba).entry (by unfold maxLen; omega) (p, q) hk1
      have hWs := HSZ.out
      have HU1 := Lib.hid (keysAt_own ((own_one (w := W) (base := W.heap.size) p2 q2 (Nat.le_refl _)).kept hg1 (.inr (fun e => by have h9 : W.heap.size = w.heap.size := Option.some.inj e; omega))))
      have hsz1 : w.heap.size ≤ W1.heap.size := by have := hg1.size; have := hba.size; have := HJ.out.below.size; omega
      have HX1 := Lib.hid ((hg1.block _ (Nat.lt_of_lt_of_le (Array.getElem?_eq_some_iff.1 HX.out).1 hba.size) (fun e => by have := Option.some.inj e; omega)).trans ((hba.block _ (Array.getElem?_eq_some_iff.1 HX.out).1).trans HX.out))
      have HG1 := Lib.hid hown1
      have HNX := Lib.hid hnext
      have HOB1 := Lib.hid (HOB.out (p, q) hk1)
      obtain ⟨x0, x1, x2, x3, -, -, -, -⟩ := row4_of HX.out
      dsimp only at hrun
      generalize hd (p, q) = v0 at *
      generalize othersM (S.take k) (p, q) = O1 at *
      have HSW1 := Lib.hid (show W.heap.size ≤ W1.heap.size from by have := hg1.size; have := hba.size; omega)
      clear hba hg1 hown1 hnext hWs
      have hsW : W.heap.size ≤ W1.heap.size := HSW1.out
      go_upto_region 6 with (at_builtin; refine wpList_append_key rfl (.tmp 16) (.tmp 19) rfl HG1.out _ [(p2, q2)] HU1.out rfl rfl (by show O1.length + 1 ≤ 4000000; omega) hsz1 ?_; intro v5 w5 hown5 hgr5 hloc5; obtain ⟨w6, hrun6, hI6, hg6⟩ := HNX.out w5 v5 (O1 ++ [(p2, q2)]) hgr5 (by rw [keyCells_app2, List.length_append]; exact hown5) hloc5; unfold goInt at hrun6)
      have HX5 := Lib.hid ((hgr5.block _ (Array.getElem?_eq_some_iff.1 HX1.out).1 (fun e => by have h9 := HOB1.out _ e.symm; omega)).trans HX1.out)
      have HX6 := Lib.hid ((hg6.block _ (Array.getElem?_eq_some_iff.1 HX5.out).1 (fun e => by have := Option.some.inj e; omega)).trans HX5.out)
      have HI6 := Lib.hid hI6
      have hs56 : W1.heap.size ≤ w6.heap.size := Nat.le_trans hgr5.size hg6.size
      have hbs6 := hI6.below.size
      clear hrun hrun6 hown5 hgr5 hloc5 hI6 hg6 HX5 HX1 HX HNX HG1 HU1 x0 x1 x2 x3 hsz1
      have hWs := HSZ.out
      have hbb := (Below.refl w6.heap.size w6).alloc (Nat.le_refl _) (.cells #[.int .i64 p, .int .i64 q] 41)
      obtain ⟨st2, W7, hrun7, hg7, hown7, hnext7⟩ := (HI6.out.next hbb).entry (by unfold maxLen; omega) (p2, q2) hk2
      have HU7 := Lib.hid (keysAt_own ((own_one (w := w6) (base := w6.heap.size) p q (Nat.le_refl _)).kept hg7 (.inr (fun e => by have h9 : w6.heap.size = w.heap.size := Option.some.inj e; omega))))
      have hsz7 : w.heap.size ≤ W7.heap.size := by have := hg7.size; have := hbb.size; omega
      have hol7 : (updF (othersM (S.take k)) (p, q) (O1 ++ [(p2, q2)]) (p2, q2)).length ≤ 2 * k + 1 := by
        unfold updF
        split
        · simp; omega
        · omega
      have HG7 := Lib.hid hown7
      have HN7 := Lib.hid hnext7
      obtain ⟨x0, x1, x2, x3, -, -, -, -⟩ := row4_of HX6.out
      dsimp only at hrun7
      generalize hO2 : updF (othersM (S.take k)) (p, q) (O1 ++ [(p2, q2)]) (p2, q2) = O2 at *
      clear hO2
      generalize updF hd (p, q) v5 (p2, q2) = v8 at *
      clear hbb hg7 hown7 hnext7
      go_wp2_with (at_builtin; refine wpList_append_key rfl (.tmp 26) (.tmp 29) rfl HG7.out _ [(p, q)] HU7.out rfl rfl (by show O2.length + 1 ≤ 4000000; omega) hsz7 ?_; intro v9 w9 hown9 hgr9 hloc9; obtain ⟨w10, hrun10, hI10, hg10⟩ := HN7.out w9 v9 (O2 ++ [(p, q)]) hgr9 (by rw [keyCells_app2, List.length_append]; exact hown9) hloc9; unfold goInt at hrun10)
      rw [HUP.out, ← HTK.out] at hI10
      have HF := Lib.hid hI10
      clear hrun7 hrun10 hown9 hgr9 hloc9 hI10 hg10 HX6 HN7 HG7 HU7 x0 x1 x2 x3 HUP HTK HJ HJ1 HI6
      go_wp2_with fail
      exact ⟨⟨k + 1, _, _, by omega, by go_num, rfl, by rw [show 2 * (k + 1) = 2 * k + 1 + 1 by omega]; exact HF.out⟩, by simp [intOf]; omega⟩
    · obtain rfl : k = S.length := by omega
      rw [List.take_length] at HJ
      go_wp2_with fail
      go_ret
      exact ⟨_, hd, rfl, HJ.out⟩
end Go.Proofs.Ytbbjpjkclealfaa
namespace Go.Proofs.Ytbbjpjkclealfaa
open Go.ChangeShapes Go.WideShapes Go.ChangeAt Go.RowKit Go.BigFrame Go.Sort Go.Lib
set_option linter.unusedVariables false
set_option linter.unusedSimpArgs false

theorem iplace_exact (k : K2) (hk : keyOkB k = true) (w : World) : Calls Try.prog 92 #[.agg #[.int .i64 k.1, .int .i64 k.2]] w fun e w' => e = .returned (.int .i64 (placeK k : Nat)) ∧ w' = w.alloc (.cells #[.int .i64 k.1, .int .i64 k.2] 41) := by
  obtain ⟨⟨h1, h2⟩, h3, h4⟩ := (keyOk_iff k).1 hk
  obtain ⟨p, q⟩ := k
  dsimp only at h1 h2 h3 h4 ⊢
  have e1 : IntKind.i64.wrap (p - 1) = p - 1 := IntWalk.i64_in _ (by omega)
  have e2 : IntKind.i64.wrap ((p - 1) * 99) = (p - 1) * 99 := IntWalk.i64_in _ (by omega)
  have e3 : IntKind.i64.wrap ((p - 1) * 99 + q) = (p - 1) * 99 + q := IntWalk.i64_in _ (by omega)
  have e4 : IntKind.i64.wrap ((p - 1) * 99 + q - 1) = (p - 1) * 99 + q - 1 := IntWalk.i64_in _ (by omega)
  have he : ((placeK (p, q) : Nat) : Int) = (p - 1) * 99 + q - 1 := by unfold placeK; dsimp only; omega
  have HE := Lib.hid he
  clear he hk h1 h2 h3 h4
  go_enter Try.func92, Try.ntmps92
  go_wp2
  go_ret
  exact ⟨by rw [HE.out]; rfl, rfl⟩
theorem icompare_any (x y : Int) (w : World) : Calls Try.prog 104 #[.int .i64 x, .int .i64 y] w fun e w' => e = .returned (.int .i64 (Lib.compareInt x y)) ∧ w' = w := AnyG.cmp_Compare_int Try.cmpInt x y w
def cfK (x y : RK) : Int := Lib.compareInt (placeK x.1 : Nat) (placeK y.1 : Nat)
def encK (x : RK) : List Value := [.int .i64 x.1.1, .int .i64 x.1.2]
set_option maxRecDepth 100000 in
set_option maxHeartbeats 1000000 in
theorem iorder_any (x y : RK) (w : World) : Calls Try.prog 78 #[.agg #[.int .i64 x.1.1, .int .i64 x.1.2], .agg #[.int .i64 y.1.1, .int .i64 y.1.2]] w fun e w' => e = .returned (.int .i64 (cfK x y)) ∧ ∃ q os', w' = grow (w.drewN q) os' := by
  have P1 := Lib.hid (fun wx => iplace_exact x.1 x.2 wx)
  have P2 := Lib.hid (fun wx => iplace_exact y.1 y.2 wx)
  unfold cfK
  generalize placeK x.1 = px at *
  generalize placeK y.1 = py at *
  obtain ⟨⟨p, q⟩, hx⟩ := x
  obtain ⟨⟨p2, q2⟩, hy⟩ := y
  dsimp only at *
  have PC := Lib.hid (fun wx => icompare_any (px : Nat) (py : Nat) wx)
  generalize Lib.compareInt (px : Nat) (py : Nat) = r at *
  have hx1 := heap_alloc_new w (.cells #[.int .i64 p, .int .i64 q] 41)
  have e1 : (w.alloc (.cells #[.int .i64 p, .int .i64 q] 41)).heap.size = w.heap.size + 1 := by simp
  have hx2 := heap_alloc_new (w.alloc (.cells #[.int .i64 p, .int .i64 q] 41)) (.cells #[.int .i64 p2, .int .i64 q2] 41)
  rw [e1] at hx2
  have hx1' := (Below.heap_alloc _ (.cells #[.int .i64 p2, .int .i64 q2] 41) _ (Array.getElem?_eq_some_iff.1 hx1).1).trans hx1
  have hW : ((w.alloc (.cells #[.int .i64 p, .int .i64 q] 41)).alloc (.cells #[.int .i64 p2, .int .i64 q2] 41)) = grow w #[.cells #[.int .i64 p, .int .i64 q] 41, .cells #[.int .i64 p2, .int .i64 q2] 41] := by
    rw [alloc_eq_grow, alloc_eq_grow, grow_grow]; rfl
  have HX1 := Lib.hid hx1'
  have HX2 := Lib.hid hx2
  have HW := Lib.hid hW
  clear hx1 e1 hx2 hx1' hW
  go_enter Try.func78, Try.ntmps78
  go_wp2_with fail
  generalize (w.alloc (.cells #[.int .i64 p, .int .i64 q] 41)).alloc (.cells #[.int .i64 p2, .int .i64 q2] 41) = W at *
  have LA : ∀ w' : World, (w'.heap[w.heap.size]? = some (.cells #[.int .i64 p, .int .i64 q] 41 (0, 0)) ∧ w'.heap[w.heap.size + 1]? = some (.cells #[.int .i64 p2, .int .i64 q2] 41 (0, 0))) → (loadVar 41 ⟨w.heap.size, 0, none⟩).run Try.prog w' = .ok (.agg #[.int .i64 p, .int .i64 q]) w' := fun w' h => by
    obtain ⟨t0, t1, -, -⟩ := row2_of h.1
    exact key_load (k := (p, q)) (o := 0) ⟨t0, t1⟩ (Array.getElem?_eq_some_iff.1 h.1).1 (Go.RowKit.Below.refl _ _)
  have LB : ∀ w' : World, (w'.heap[w.heap.size]? = some (.cells #[.int .i64 p, .int .i64 q] 41 (0, 0)) ∧ w'.heap[w.heap.size + 1]? = some (.cells #[.int .i64 p2, .int .i64 q2] 41 (0, 0))) → (loadVar 41 ⟨w.heap.size + 1, 0, none⟩).run Try.prog w' = .ok (.agg #[.int .i64 p2, .int .i64 q2]) w' := fun w' h => by
    obtain ⟨t0, t1, -, -⟩ := row2_of h.2
    exact key_load (k := (p2, q2)) (o := 0) ⟨t0, t1⟩ (Array.getElem?_eq_some_iff.1 h.2).1 (Go.RowKit.Below.refl _ _)
  refine wp_region_G (fun w' => w'.heap[w.heap.size]? = some (.cells #[.int .i64 p, .int .i64 q] 41 (0, 0)) ∧ w'.heap[w.heap.size + 1]? = some (.cells #[.int .i64 p2, .int .i64 q2] 41 (0, 0))) (by kernel_rfl) ?_
  replace HX1 := Lib.hid (show (World.drew _).heap[_]? = _ from HX1.out)
  replace HX2 := Lib.hid (show (World.drew _).heap[_]? = _ from HX2.out)
  obtain ⟨wD, hD⟩ : ∃ wD, wD = W.drew := ⟨_, rfl⟩
  have HD := Lib.hid hD.symm
  rw [← hD] at HX1 HX2 ⊢
  clear hD
  refine wpG_seg [true, false, true] [1] 3 (by kernel_rfl) (by intro c a d v w h; cases d <;> exact h) (by kernel_rfl) ⟨HX1.out, HX2.out⟩ ?_
  try simp only [maskRows]
  repeat (first
    | go_big_quiet_skip
    | (go_big_quiet_want
       first
         | (go_big_quiet_op; go_big_quiet_on)
         | (refine q_load 41 _ _ _ rfl rfl LA ?_; simp only [Act.put, List.setIfInBounds_toArray, List.set_cons_zero, List.set_cons_succ]; go_big_quiet_on)
         | (refine q_load 41 _ _ _ rfl rfl LB ?_; simp only [Act.put, List.setIfInBounds_toArray, List.set_cons_zero, List.set_cons_succ]; go_big_quiet_on)
         | (go_big_quiet_op; refine ⟨_, fun _ _ => rfl, ?_⟩; go_big_quiet_on)
         | (go_big_quiet_op; refine ⟨_, fun _ _ _ => rfl, ?_⟩; go_big_quiet_on)))
  refine wpQuiet_nil ?_
  refine List.forall_mem_singleton.2 ?_
  refine segt_run rfl (by rfl) (fun K hK => ?_)
  go_simp
  refine (P1.out _).mono ?_
  rintro e w3 ⟨rfl, rfl⟩
  dsimp only
  replace HX1 := Lib.hid ((Below.heap_alloc _ (.cells #[.int .i64 p, .int .i64 q] 41) _ (Array.getElem?_eq_some_iff.1 HX1.out).1).trans HX1.out)
  replace HX2 := Lib.hid ((Below.heap_alloc _ (.cells #[.int .i64 p, .int .i64 q] 41) _ (Array.getElem?_eq_some_iff.1 HX2.out).1).trans HX2.out)
  have Hw3 := Lib.hid (alloc_eq_grow (wD) (.cells #[.int .i64 p, .int .i64 q] 41))
  generalize World.alloc (wD) (.cells #[.int .i64 p, .int .i64 q] 41) = w3 at *
  refine hK _ _ ⟨_, fun _ h => h, ⟨HX1.out, HX2.out⟩, ?_⟩
  clear hK K
  try simp only [Act.put, List.setIfInBounds_toArray, List.set_cons_zero, List.set_cons_succ]
  refine wpG_seg [] [3] 2 (by kernel_rfl) (by intro c a d v w h; cases d <;> exact h) (by kernel_rfl) ⟨HX1.out, HX2.out⟩ ?_
  try simp only [maskRows]
  refine wpQuiet_nil ?_
  refine List.forall_mem_singleton.2 ?_
  refine segt_run rfl (by rfl) (fun K hK => ?_)
  go_simp
  refine (P2.out _).mono ?_
  rintro e w4 ⟨rfl, rfl⟩
  dsimp only
  replace HX1 := Lib.hid ((Below.heap_alloc _ (.cells #[.int .i64 p2, .int .i64 q2] 41) _ (Array.getElem?_eq_some_iff.1 HX1.out).1).trans HX1.out)
  replace HX2 := Lib.hid ((Below.heap_alloc _ (.cells #[.int .i64 p2, .int .i64 q2] 41) _ (Array.getElem?_eq_some_iff.1 HX2.out).1).trans HX2.out)
  have Hw4 := Lib.hid (alloc_eq_grow (w3) (.cells #[.int .i64 p2, .int .i64 q2] 41))
  generalize World.alloc (w3) (.cells #[.int .i64 p2, .int .i64 q2] 41) = w4 at *
  refine hK _ _ ⟨_, fun _ h => h, ⟨HX1.out, HX2.out⟩, ?_⟩
  clear hK K
  try simp only [Act.put, List.setIfInBounds_toArray, List.set_cons_zero, List.set_cons_succ]
  refine wpG_seg [] [4] 1 (by kernel_rfl) (by intro c a d v w h; cases d <;> exact h) (by kernel_rfl) ⟨HX1.out, HX2.out⟩ ?_
  try simp only [maskRows]
  refine wpQuiet_nil ?_
  refine List.forall_mem_singleton.2 ?_
  refine segt_run rfl (by rfl) (fun K hK => ?_)
  go_simp
  refine (PC.out _).mono ?_
  rintro e w5 ⟨rfl, rfl⟩
  dsimp only
  refine hK _ _ ⟨_, fun _ h => h, ⟨HX1.out, HX2.out⟩, ?_⟩
  clear hK K
  try simp only [Act.put, List.setIfInBounds_toArray, List.set_cons_zero, List.set_cons_succ]
  refine wpG_end [false, false, false, false, false, true] (by kernel_rfl) (by intro c a d v w h; cases d <;> exact h) (by kernel_rfl) ⟨HX1.out, HX2.out⟩ ?_
  try simp only [maskRows]
  repeat (first
    | go_big_quiet_skip
    | (go_big_quiet_want
       first
         | (go_big_quiet_op; go_big_quiet_on)
         | (refine q_load 41 _ _ _ rfl rfl LA ?_; simp only [Act.put, List.setIfInBounds_toArray, List.set_cons_zero, List.set_cons_succ]; go_big_quiet_on)
         | (refine q_load 41 _ _ _ rfl rfl LB ?_; simp only [Act.put, List.setIfInBounds_toArray, List.set_cons_zero, List.set_cons_succ]; go_big_quiet_on)
         | (go_big_quiet_op; refine ⟨_, fun _ _ => rfl, ?_⟩; go_big_quiet_on)
         | (go_big_quiet_op; refine ⟨_, fun _ _ _ => rfl, ?_⟩; go_big_quiet_on)))
  refine wpQuiet_nil ?_
  clear LA LB HX1 HX2 P1 P2 PC
  go_wp2
  go_ret
  have hE : w5 = grow (w.drewN 1) (#[.cells #[.int .i64 p, .int .i64 q] 41, .cells #[.int .i64 p2, .int .i64 q2] 41] ++ (#[.cells #[.int .i64 p, .int .i64 q] 41] ++ #[.cells #[.int .i64 p2, .int .i64 q2] 41])) := by
    rw [Hw4.out, Hw3.out, grow_grow, ← HD.out, HW.out]
    show grow (grow (w.drew) _) _ = _
    rw [grow_grow]
    rfl
  exact ⟨rfl, 1, _, hE⟩
theorem lt_iff (x y : RK) : ltOf cfK x y = decide (placeK x.1 < placeK y.1) := by
  unfold ltOf cfK Lib.compareInt
  by_cases h1 : placeK x.1 < placeK y.1
  · simp [h1]
  · by_cases h2 : placeK y.1 < placeK x.1 <;> simp [h1, h2]
theorem swoK : SWO (ltOf cfK) where
  irrefl x := by rw [lt_iff]; simp
  trans x y z h1 h2 := by rw [lt_iff] at *; simp at *; omega
  ntrans x y z h1 h2 := by rw [lt_iff] at *; simp at *; omega
instance : Inhabited RK := ⟨rk0⟩
theorem cmpLaysK (blk off size : Nat) (w : World) : CmpLays Try.prog 78 #[] encK 2 cfK blk off size w := fun _ _ _ _ x y => iorder_any x y _
theorem place_inj {a b : RK} (h : placeK a.1 = placeK b.1) : a = b := by
  have h1 := place_key a.2
  rw [h, place_key b.2] at h1
  exact Subtype.ext h1.symm
/-- a sorted permutation of right keys, each once, is a rising list -/
theorem sorted_rising {L M : List RK} (hp : M.Perm L) (hn : L.Nodup) (hs : ∀ i j, i < j → j < M.length → ltOf cfK (M.getD j rk0) (M.getD i rk0) = false) : keysOkR (M.map (·.1)) = true := by
  refine (keysR_iff _).2 ⟨fun k hk => ?_, ?_⟩
  · obtain ⟨x, -, rfl⟩ := List.mem_map.1 hk
    exact x.2
  · have hnM : M.Nodup := hp.nodup_iff.2 hn
    unfold Rising
    rw [List.pairwise_map]
    refine List.pairwise_iff_getElem.2 fun i j hi hj hij => ?_
    have h1 := hs i j hij hj
    rw [List.getD, List.getElem?_eq_getElem hj, List.getD, List.getElem?_eq_getElem hi] at h1
    have h2 : M[i] ≠ M[j] := List.pairwise_iff_getElem.1 hnM i j hi hj hij
    rw [lt_iff] at h1
    refine (key_lt M[i].2 M[j].2).2 ?_
    have h3 : placeK M[i].1 ≠ placeK M[j].1 := fun e => h2 (place_inj e)
    simp at h1
    omega
end Go.Proofs.Ytbbjpjkclealfaa
namespace Go.Proofs.Ytbbjpjkclealfaa
open Go.ChangeShapes Go.WideShapes Go.ChangeAt Go.RowKit Go.BigFrame
open Go.Sort (flatK get_flatK size_flatK HoldsK)
set_option linter.unusedVariables false
set_option linter.unusedSimpArgs false

theorem rk_bang (L : List RK) (i : Nat) (hi : i < L.length) : L.toArray[i]! = L.getD i rk0 := by
  rw [getElem!_pos _ i (by simpa using hi)]
  simp [List.getD, hi]
theorem flat_cells (L : List RK) : (flatK encK 2 L.toArray).toList = keyCells (L.map (·.1)) := by
  refine List.ext_getElem? fun t => ?_
  have hl := keyCells_len (L.map (·.1))
  rw [List.length_map] at hl
  by_cases ht : t < L.length * 2
  · have h1 := get_flatK encK 2 L.toArray t (by simpa using ht)
    rw [getElem!_pos _ t (by rw [size_flatK]; simpa using ht), rk_bang L (t / 2) (by omega)] at h1
    rw [List.getElem?_eq_getElem (by rw [Array.length_toList, size_flatK]; simpa using ht), Array.getElem_toList, h1]
    have hg := keyCells_get (L.map (·.1)) (t / 2) (by rw [List.length_map]; omega)
    rw [rk_get L (t / 2) (by omega)] at hg
    rcases (by omega : t % 2 = 0 ∨ t % 2 = 1) with h2 | h2
    · rw [show t = t / 2 * 2 by omega, hg.1, show t / 2 * 2 / 2 = t / 2 by omega, show t / 2 * 2 % 2 = 0 by omega]
      rfl
    · rw [show t = t / 2 * 2 + 1 by omega, hg.2, show (t / 2 * 2 + 1) / 2 = t / 2 by omega, show (t / 2 * 2 + 1) % 2 = 1 by omega]
      rfl
  · rw [List.getElem?_eq_none (by rw [Array.length_toList, size_flatK]; simpa using ht), List.getElem?_eq_none (by omega)]
theorem own_holds {w : World} {base g cap : Nat} {L : List RK} (h : w.ownsRow base 41 2 (.slice (some ⟨g, 0, none⟩) L.length cap) L.length (keyCells (L.map (·.1)))) : HoldsK encK 2 w g 0 L.toArray := by
  intro j hj
  rw [size_flatK] at hj
  have hj' : j < L.length * 2 := by simpa using hj
  refine ⟨?_, by rw [Nat.zero_add]; exact h.frozenAt j⟩
  rw [Nat.zero_add, h.cellAt j hj', ← flat_cells, getElem!_pos _ j (by rw [size_flatK]; exact hj), List.getElem?_eq_getElem (by rw [Array.length_toList, size_flatK]; exact hj), Array.getElem_toList]
  rfl
theorem below_grow (w : World) (os : Array Obj) : Below w.heap.size w (Go.Sort.grow w os) := ⟨rfl, rfl, rfl, by simp, fun k hk => Go.Sort.heap_grow_old w os hk⟩
theorem tape_drewN' (w : World) : ∀ n, (w.drewN n).tape = w.tape
  | 0 => rfl
  | n + 1 => (tape_drewN' w.drew n)
theorem own_drewN {w : World} {base n : Nat} {e : TypeId} {size : Nat} {v : Value} {xs : List Value} (q : Nat) (h : w.ownsRow base e size v n xs) : (w.drewN q).ownsRow base e size v n xs := by
  unfold World.ownsRow at h ⊢
  rw [(World.drewN_alike w q).1]
  exact h
set_option maxHeartbeats 1000000 in
theorem isort_any (base g cap : Nat) (L : List RK) (w : World) (h : w.ownsRow base 41 2 (.slice (some ⟨g, 0, none⟩) L.length cap) L.length (keyCells (L.map (·.1)))) (hn : L.Nodup) (hs : L.length ≤ 1000000) :
    Calls Try.prog 77 #[.slice (some ⟨g, 0, none⟩) L.length cap, .func (.func 78) #[] #[]] w fun e w' => e = .returned (.tuple #[]) ∧ ∃ M : List RK, M.Perm L ∧ keysOkR (M.map (·.1)) = true ∧
      w'.ownsRow base 41 2 (.slice (some ⟨g, 0, none⟩) L.length cap) L.length (keyCells (M.map (·.1))) ∧ w.grownBy w' (some g) := by
  have eg : ∀ args w, (callFunc 78 args).run Try.prog w = .ok (.enter 78 args) w := enters_of Try.func78 (by kernel_rfl) rfl
  have hcon := AnyQ.slices_SortFunc Try.sortKey 2 Try.isAgg41 Try.sizeOf41 encK (fun _ => rfl) (fun x v hv => by simp [encK] at hv; rcases hv with rfl | rfl <;> rfl) cfK swoK 78 #[] g 0 cap L.toArray w eg (cmpLaysK g 0 L.toArray.size w) (own_holds h) (h.lt g rfl).2 (by simp; omega)
  change Calls Try.prog 77 _ _ _ at hcon
  rw [List.size_toArray] at hcon
  refine hcon.mono ?_
  rintro e w' ⟨rfl, d', n, os, hp, hso, rfl⟩
  obtain ⟨hp1, -, hp3⟩ := hp
  have hperm : d'.toList.Perm L := by
    have h3 := hp3
    have e0 : L.length = d'.size := by rw [hp1, List.size_toArray]
    rw [show d'.extract 0 L.length = d' by rw [e0]; simp, show L.toArray.extract 0 L.length = L.toArray by simp] at h3
    simpa using h3
  have hlen : d'.toList.length = L.length := hperm.length_eq
  refine ⟨rfl, d'.toList, hperm, sorted_rising hperm hn (fun i j hij hj => ?_), ?_⟩
  · have h1 := hso i j (Nat.zero_le _) hij (by omega)
    have e1 : d'[j]! = d'.toList.getD j rk0 := by have := rk_bang d'.toList j hj; rwa [Array.toArray_toList] at this
    have e2 : d'[i]! = d'.toList.getD i rk0 := by have := rk_bang d'.toList i (by omega); rwa [Array.toArray_toList] at this
    rw [e1, e2] at h1
    exact h1
  · have hw : Go.Proofs.sortWorldK encK 2 w g 0 n d' os = Go.Sort.grow ((w.drewN n).setCells g 0 (keyCells (d'.toList.map (·.1)))) os := by
      have hsw := Go.Lib.sorted_world id w g 0 n (flatK encK 2 L.toArray) (flatK encK 2 d').toList os (own_holds h) (by
        rw [Array.length_toList, size_flatK, size_flatK]
        have : d'.size = L.length := by rw [← hlen]; simp
        rw [this]; simp)
      rw [Array.toArray_toList, List.map_id] at hsw
      have hf := flat_cells d'.toList
      rw [Array.toArray_toList] at hf
      rw [hf] at hsw
      exact hsw
    rw [hw]
    have hvl : (keyCells (L.map (·.1))).length = (keyCells (d'.toList.map (·.1))).length := by rw [keyCells_len, keyCells_len, List.length_map, List.length_map, hlen]
    have ho := own_setCells (keyCells (d'.toList.map (·.1))) 0 _ (own_drewN n h)
    have hf := setL_front (keyCells (L.map (·.1))) (keyCells (d'.toList.map (·.1))) [] hvl
    rw [List.append_nil, List.append_nil] at hf
    rw [hf] at ho
    refine ⟨own_below ho (below_grow _ os), ?_⟩
    exact grown_trans (grown_trans (grown_of_below' ⟨(World.drewN_alike w n).2.1, (tape_drewN' w n), (World.drewN_alike w n).2.2, by rw [(World.drewN_alike w n).1]; exact Nat.le_refl _, fun k _ => by rw [(World.drewN_alike w n).1]⟩ _) (grown_setCells g _ 0 _)) (grown_of_below' (below_grow _ os) _)
theorem isort_none (p : Option Addr) (cap : Nat) (fv : Value) (w : World) : Calls Try.prog 77 #[.slice p 0 cap, fv] w fun e w' => e = .returned (.tuple #[]) ∧ w' = w := by
  have := AnyF.slices_SortFunc_none Try.sortKey p cap fv w
  exact this
theorem iclone_any (a : Option Addr) (c : Nat) (ks : List K2) (w : World) (h : keysAt w (.slice a ks.length c) ks) (ha : a = none ∨ ∃ b off, a = some ⟨b, off, none⟩) (hs : ks.length ≤ 2000000) :
    Calls Try.prog 76 #[.slice a ks.length c] w fun e w' => ∃ v', e = .returned v' ∧ w'.ownsRow w.heap.size 41 2 v' ks.length (keyCells ks) ∧ Below w.heap.size w w' := by
  rcases ha with rfl | ⟨b, off, rfl⟩
  · have h0 : ks.length = 0 := by
      obtain ⟨a', c', e, -, hc⟩ := h
      rcases hc with h0 | ⟨g, o, e2, -⟩
      · exact h0
      · cases e; cases e2
    have hcl := AnyE.slices_Clone_nil Try.cloneKey ks.length c w
    change Calls Try.prog 76 _ _ _ at hcl
    refine hcl.mono ?_
    rintro e w' ⟨rfl, rfl⟩
    obtain rfl : ks = [] := List.length_eq_zero_iff.1 h0
    exact ⟨_, rfl, World.ownsRow_nil _ _ _ _, Below.refl _ _⟩
  · obtain ⟨i0, hi, hz0, hz1, hz2⟩ := info_parts infoK
    have hcells : ∀ j u, (keyCells ks)[j]? = some u → w.cell? ⟨b, off + j, none⟩ = some u := by
      intro j u hj
      obtain ⟨a', c', e, -, hc⟩ := h
      cases e
      have hj2 : j < ks.length * 2 := by have := (List.getElem?_eq_some_iff.1 hj).1; rwa [keyCells_len] at this
      rcases hc with h0 | ⟨g, o, e2, -, hc⟩
      · omega
      · cases e2
        have h1 := hc (j / 2) (by omega)
        have h2 := keyCells_get ks (j / 2) (by omega)
        rcases (by omega : j = j / 2 * 2 ∨ j = j / 2 * 2 + 1) with e | e
        · rw [e] at hj ⊢
          rw [h2.1] at hj
          cases hj
          exact h1.1
        · rw [e] at hj ⊢
          rw [h2.2] at hj
          cases hj
          exact h1.2
    have hcl := AnyE.slices_Clone Try.cloneKey i0 (.agg #[.int .i64 0, .int .i64 0]) 2 16 hi hz0 hz1 hz2 rfl (by decide) Try.sizeOf41 b off ks.length c (keyCells ks) w (keyCells_len ks) (by unfold maxLen; omega) (by omega) hcells (kyCells_one ks)
    change Calls Try.prog 76 _ _ _ at hcl
    refine hcl.mono ?_
    rintro e w' ⟨v', rfl, ho, -, hb⟩
    exact ⟨v', rfl, ho, hb⟩
end Go.Proofs.Ytbbjpjkclealfaa
namespace Go.Proofs.Ytbbjpjkclealfaa
open Go.ChangeShapes Go.WideShapes Go.ChangeAt Go.RowKit Go.BigFrame Go.Maps
set_option linter.unusedVariables false
set_option linter.unusedSimpArgs false

theorem InI.lt {W : World} {b n : Nat} {L : List K2} (h : InI W b n L) : b < W.heap.size := by
  obtain ⟨D, -, hm, -⟩ := h
  exact hm.lt
theorem QRow.lt {w : World} {base : Nat} {v : Value} {C : List K2} (h : QRow w base v C) (g : Nat) (e : v.ownBlock = some g) : base ≤ g ∧ g < w.heap.size := by
  rcases h with ⟨rfl, -⟩ | ⟨b, off, c, rfl, h1, h2, -⟩
  · cases e
  · cases e; exact ⟨h1, h2⟩
theorem QRow.base_le {w : World} {base n : Nat} {v : Value} {C : List K2} (h : QRow w base v C) (hn : n ≤ base) : QRow w n v C := by
  rcases h with h | ⟨b, off, c, rfl, h1, h2⟩
  · exact .inl h
  · exact .inr ⟨b, off, c, rfl, by omega, h2⟩
structure ClR (W1 W : World) (bm : Nat) (S : List S2) (K L C : List K2) (vl vc : Value) : Prop where
  below : Below W1.heap.size W1 W
  bmge : W1.heap.size ≤ bm
  inn : InI W bm L.length L
  own : W.ownsRow W1.heap.size 41 2 vl L.length (keyCells L)
  que : QRow W W1.heap.size vc C
  lm : vl.ownBlock ≠ some bm
  qm : vc.ownBlock ≠ some bm
  lq : ∀ g, vl.ownBlock = some g → vc.ownBlock ≠ some g
  pure : ClI S K L C
theorem ClR.next {W1 W W' : World} {bm : Nat} {S : List S2} {K L C : List K2} {vl vc : Value} (h : ClR W1 W bm S K L C vl vc) (hb : Below W.heap.size W W') : ClR W1 W' bm S K L C vl vc :=
  ⟨h.below.trans (hb.mono h.below.size), h.bmge, h.inn.kept (grown_of_below' hb none) (by simp), own_below h.own hb, h.que.below hb, h.lm, h.qm, h.lq, h.pure⟩
theorem ClR.okK {W1 W : World} {bm : Nat} {S : List S2} {K L C : List K2} {vl vc : Value} (h : ClR W1 W bm S K L C vl vc) (hK : keysOkR K = true) (hS : S.all setOkB = true) (k : K2) (hk : k ∈ L ∨ k ∈ C) : keyOkB k = true :=
  (h.pure.rch k hk).ok hK hS
theorem nodup_few {L : List K2} (hn : L.Nodup) (hk : ∀ k ∈ L, keyOkB k = true) : L.length ≤ 1980 := by
  have h := nodup_le (L.map placeK) (List.range 1980) ?_ ?_
  · simpa using h
  · rw [List.Nodup, List.pairwise_map]
    refine List.Pairwise.imp_of_mem ?_ hn
    intro a b ha hb hne e
    refine hne ?_
    have h1 := place_key (hk a ha)
    rw [e, place_key (hk b hb)] at h1
    exact h1.symm
  · intro x hx
    obtain ⟨k, hk1, rfl⟩ := List.mem_map.1 hx
    exact List.mem_range.2 (place_lt (hk k hk1))
theorem ClI.fewL {S : List S2} {K L C : List K2} (h : ClI S K L C) (hK : keysOkR K = true) (hS : S.all setOkB = true) : L.length ≤ 1980 :=
  nodup_few h.nodup (fun k hk => (h.rch k (.inl hk)).ok hK hS)
/-- the queue without its first -/
theorem ClR.skip {W1 W : World} {bm : Nat} {S : List S2} {K L C : List K2} {k : K2} {vl vc : Value} (h : ClR W1 W bm S K L (k :: C) vl vc) (hk : k ∈ L) :
    ∃ v', (∀ w' : World, (Instr.slice 25 vc (some (.int .i64 1)) none none).run Try.prog w' = .ok v' w') ∧ ClR W1 W bm S K L C vl v' := by
  obtain ⟨v', hr, hq, ho⟩ := h.que.tail
  exact ⟨v', hr, h.below, h.bmge, h.inn, h.own, hq, h.lm, by rw [ho]; exact h.qm, by rw [ho]; exact h.lq, h.pure.skip hk⟩
theorem ClR.take {W1 W : World} {bm : Nat} {S : List S2} {K L C : List K2} {k : K2} {vl vc : Value} (h : ClR W1 W bm S K L (k :: C) vl vc) (hk : k ∉ L) (hok : keyOkB k = true) (hn : L.length < maxLen) :
    ∃ W2, (Instr.mapUpdate 117 (.map (some bm)) (.agg #[.int .i64 k.1, .int .i64 k.2]) (.bool true)).run Try.prog W = .ok () W2 ∧ W.grownBy W2 (some bm) ∧ W2.ownsRow W1.heap.size 41 2 vl L.length (keyCells L) ∧ W1.heap.size ≤ W2.heap.size ∧
      ∀ (W3 W4 : World) (vl' : Value), Below W2.heap.size W2 W3 → W4.ownsRow W1.heap.size 41 2 vl' (L.length + 1) (keyCells L ++ keyCells [k]) → W3.grownBy W4 vl.ownBlock → (vl'.ownBlock = vl.ownBlock ∨ vl'.ownBlock = some W3.heap.size) →
        Below W1.heap.size W1 W4 ∧ QRow W4 W1.heap.size vc (k :: C) ∧ W1.heap.size ≤ W4.heap.size ∧
        ∀ (W5 : World) (vc' : Value), QRow W5 W1.heap.size vc' ((k :: C) ++ othersM S k) → W4.grownBy W5 vc.ownBlock → (vc'.ownBlock = vc.ownBlock ∨ vc'.ownBlock = some W4.heap.size) →
          ∃ v', (∀ w' : World, (Instr.slice 25 vc' (some (.int .i64 1)) none none).run Try.prog w' = .ok v' w') ∧ ClR W1 W5 bm S K (L ++ [k]) (C ++ othersM S k) vl' v' := by
  obtain ⟨W2, hr2, hin2, hg2⟩ := h.inn.put hn k hok
  have hown2 : W2.ownsRow W1.heap.size 41 2 vl L.length (keyCells L) := h.own.kept hg2 (.inr h.lm)
  have hsz := h.below.size
  have hbm := h.inn.lt
  refine ⟨W2, hr2, hg2, hown2, by have := hg2.size; omega, fun W3 W4 vl' hb3 hown4 hg4 hloc => ?_⟩
  have hq2 := (h.que.kept hg2 (.inr h.qm)).below hb3
  have hsz2 := hg2.size
  have hsz3 := hb3.size
  have hb4 : Below W1.heap.size W1 W4 := by
    have b1 := h.below.grown hg2 hsz (fun j e => by cases e; exact h.bmge)
    have b2 := b1.trans (hb3.mono b1.size)
    exact b2.grown hg4 b2.size (fun j e => (hown2.lt j e).1)
  have hq4 : QRow W4 W1.heap.size vc (k :: C) := by
    refine hq2.kept hg4 ?_
    cases e : vc.ownBlock with
    | none => exact .inl rfl
    | some g => exact .inr (fun e2 => h.lq g e2.symm e)
  have hin4 : InI W4 bm (L.length + 1) (L ++ [k]) := (hin2.kept (grown_of_below' hb3 none) (by simp)).kept hg4 (fun e => h.lm e.symm)
  have hsz4 := hg4.size
  have hlt : ∀ g, vl.ownBlock = some g → g < W2.heap.size := fun g e => (hown2.lt g e).2
  have hlm : vl'.ownBlock ≠ some bm := by
    rcases hloc with e | e
    · rw [e]; exact h.lm
    · rw [e]; intro e2; have := Option.some.inj e2; omega
  have hqlt : ∀ g, vc.ownBlock = some g → g < W.heap.size := fun g e => (h.que.lt g e).2
  have hlq : ∀ g, vl'.ownBlock = some g → vc.ownBlock ≠ some g := by
    intro g e
    rcases hloc with e1 | e1
    · rw [e1] at e; exact h.lq g e
    · rw [e1] at e; intro e2; have h8 := hqlt g e2; have := Option.some.inj e; omega
  refine ⟨hb4, hq4, by omega, fun W5 vc' hq5 hg5 hloc5 => ?_⟩
  have hb5 : Below W1.heap.size W1 W5 := hb4.grown hg5 hb4.size (fun j e => (h.que.lt j e).1)
  have hqm : vc'.ownBlock ≠ some bm := by
    rcases hloc5 with e | e
    · rw [e]; exact h.qm
    · rw [e]; intro e2; have := Option.some.inj e2; omega
  have hlq5 : ∀ g, vl'.ownBlock = some g → vc'.ownBlock ≠ some g := by
    intro g e
    rcases hloc5 with e1 | e1
    · rw [e1]; exact hlq g e
    · rw [e1]; intro e2; have := Option.some.inj e2; have := (hown4.lt g e).2; omega
  have hq6 : QRow W5 W1.heap.size vc' (k :: (C ++ othersM S k)) := hq5
  obtain ⟨v', hr, hq7, ho⟩ := hq6.tail
  refine ⟨v', hr, hb5, h.bmge, ?_, ?_, hq7, hlm, by rw [ho]; exact hqm, by rw [ho]; exact hlq5, h.pure.take hk⟩
  · rw [List.length_append]; exact hin4.kept hg5 (fun e => h.qm e.symm)
  · rw [List.length_append, keyCells_appQ]
    refine hown4.kept hg5 ?_
    cases e : vl'.ownBlock with
    | none => exact .inl rfl
    | some g => exact .inr (fun e2 => hlq g e e2.symm)
theorem rk_of : ∀ (L : List K2), (∀ k ∈ L, keyOkB k = true) → ∃ R : List RK, R.map (·.1) = L
  | [], _ => ⟨[], rfl⟩
  | k :: L, h => by
    obtain ⟨R, hR⟩ := rk_of L (fun x hx => h x (List.mem_cons_of_mem _ hx))
    exact ⟨⟨k, h k List.mem_cons_self⟩ :: R, by rw [List.map_cons, hR]⟩
/-- the list, sorted -/
theorem isort_list (base : Nat) (vl : Value) (L : List K2) (w : World) (hown : w.ownsRow base 41 2 vl L.length (keyCells L)) (hn : L.Nodup) (hok : ∀ k ∈ L, keyOkB k = true) :
    Calls Try.prog 77 #[vl, .func (.func 78) #[] #[]] w fun e w' => e = .returned (.tuple #[]) ∧ ∃ M : List K2, M.length = L.length ∧ keysOkR M = true ∧ (∀ k, k ∈ M ↔ k ∈ L) ∧ w'.ownsRow base 41 2 vl M.length (keyCells M) ∧ w.grownBy w' vl.ownBlock := by
  have hfew := nodup_few hn hok
  have hall := hown
  rcases hown.2 with ⟨rfl, h0⟩ | ⟨g, cap, cur, rfl, -⟩
  · obtain rfl := List.length_eq_zero_iff.1 h0
    refine (isort_none none 0 _ w).mono ?_
    rintro e w' ⟨rfl, rfl⟩
    exact ⟨rfl, [], rfl, rfl, fun k => Iff.rfl, hall, World.grownBy.refl _ _⟩
  · obtain ⟨R, rfl⟩ := rk_of L hok
    rw [List.length_map] at hall hfew ⊢
    refine (isort_any base g cap R w hall ?_ (by omega)).mono ?_
    · rw [List.Nodup, List.pairwise_map] at hn
      exact hn.imp (fun h e => h (by rw [e]))
    · rintro e w' ⟨rfl, M, hp, hk, ho, hg⟩
      refine ⟨rfl, M.map (·.1), by rw [List.length_map]; exact hp.length_eq, hk, fun k => (hp.map _).mem_iff, ?_, hg⟩
      rw [List.length_map, hp.length_eq]
      exact ho
end Go.Proofs.Ytbbjpjkclealfaa
