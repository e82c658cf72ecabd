/- What the laws lean on (own lemmas and walks of the called functions). -/
import Derived.StillTail
import Derived.OrdersIn
import Derived.RangeFuncCalls
import Derived.Deep.RegionHeld3
import Derived.KernelRfl
import Derived.Test.YteijgoadcpphlaaRows
import Derived.WalkKit
import Derived.ProofKit
import Derived.OpenShut
import Derived.ShutString
import Derived.Below
import Derived.Outline
import Derived.WalkSpells
import Derived.WalkLawsBesides
import Derived.Deep.AppendLies
import Derived.StillTactics
import Derived.Laws.BytesArg
import Derived.Laws.OwnMore
import Derived.Maps.AppendAt
import Derived.Lib.Hide
import Derived.BigQuiet
import Derived.Deep.MidRow
import Derived.Laws.StructEq
import Derived.RangeFuncBox
import Derived.RangeFuncNested
import Derived.RangeFuncLeaves
import Derived.Shelf.Abstract
import Derived.OwnWalkIn
import Derived.TacticsInMore
import Derived.LoopNIn
import Derived.LoopIn
import Derived.Maps.OwnIn
import Derived.Deep.WholeRow
import Derived.Deep.SlicePairs
import Derived.Lib.SmallJoins
set_option linter.unusedVariables false
set_option linter.unusedSimpArgs false
namespace Go.Proofs.Yteijgoadcpphlaa
open Go.ChangeShapes Go.WideShapes Go.ChangeAt Go.RowKit
set_option linter.unusedVariables false

theorem grown_of_below' {A B : World} (h : Below A.heap.size A B) (row : Option Nat) : A.grownBy B row := ⟨h.os, h.tape, h.output, h.size, fun k hk _ => h.block k hk⟩
theorem grown_trans {A B C : World} {row : Option Nat} (h : A.grownBy B row) (k : B.grownBy C row) : A.grownBy C row :=
  ⟨k.os.trans h.os, k.tape.trans h.tape, k.output.trans h.output, Nat.le_trans h.size k.size, fun j hj hr => (k.block j (Nat.lt_of_lt_of_le hj h.size) hr).trans (h.block j hj hr)⟩
end Go.Proofs.Yteijgoadcpphlaa
namespace Go.Proofs.Yteijgoadcpphlaa
open Go.ChangeShapes Go.WideShapes Go.ChangeAt Go.RowKit
set_option linter.unusedVariables false

abbrev K2 := Int × Int
def kv (k : K2) : Value := .agg #[.int .i64 k.1, .int .i64 k.2]
/-- the slice value v leads to the keys ks -/
def keysAt (w : World) (v : Value) (ks : List K2) : Prop :=
  ∃ a cap, v = .slice a ks.length cap ∧ ks.length ≤ cap ∧ (ks.length = 0 ∨ ∃ g off, a = some ⟨g, off, none⟩ ∧ g < w.heap.size ∧
    ∀ i, i < ks.length → w.cell? ⟨g, off + i * 2, none⟩ = some (.int .i64 (ks.getD i (0, 0)).1) ∧ w.cell? ⟨g, off + i * 2 + 1, none⟩ = some (.int .i64 (ks.getD i (0, 0)).2))
theorem keysAt_below {w w' : World} {v : Value} {ks : List K2} (h : keysAt w v ks) (hb : Below w.heap.size w w') : keysAt w' v ks := by
  obtain ⟨a, cap, h1, h2, h3⟩ := h
  refine ⟨a, cap, h1, h2, h3.imp_right ?_⟩
  rintro ⟨g, off, h4, h5, h6⟩
  refine ⟨g, off, h4, Nat.lt_of_lt_of_le h5 hb.size, fun i hi => ?_⟩
  rw [hb.cell (p := ⟨g, off + i * 2, none⟩) h5, hb.cell (p := ⟨g, off + i * 2 + 1, none⟩) h5]
  exact h6 i hi
end Go.Proofs.Yteijgoadcpphlaa
namespace Go.Proofs.Yteijgoadcpphlaa

def folB (a s : K2) : Bool := decide (a.1 < s.1) && decide (s.1 ≤ 1000000) && (decide (a.2 < s.2) && decide (s.2 ≤ 6))
def chainB : K2 → List K2 → Bool
  | _, [] => true
  | a, s :: r => folB a s && chainB s r
def plnB : List K2 → Bool
  | [] => false
  | x :: r => x == (0, 1) && chainB x r
theorem fol_iff (a s : K2) : folB a s = true ↔ a.1 < s.1 ∧ s.1 ≤ 1000000 ∧ a.2 < s.2 ∧ s.2 ≤ 6 := by
  simp only [folB, Bool.and_eq_true, decide_eq_true_eq]
  constructor
  · rintro ⟨⟨h1, h2⟩, h3, h4⟩; exact ⟨h1, h2, h3, h4⟩
  · rintro ⟨h1, h2, h3, h4⟩; exact ⟨⟨h1, h2⟩, h3, h4⟩
theorem chain_cons (a s : K2) (r : List K2) : chainB a (s :: r) = (folB a s && chainB s r) := rfl
/-- the last of a list behind a -/
def lastK (a : K2) (l : List K2) : K2 := l.getLastD a
theorem lastK_snoc (a : K2) (l : List K2) (s : K2) : lastK a (l ++ [s]) = s := by simp [lastK]
theorem chain_snoc : ∀ (l : List K2) (a s : K2), chainB a (l ++ [s]) = (chainB a l && folB (lastK a l) s)
  | [], a, s => by simp [chainB, lastK]
  | x :: l, a, s => by
    have h1 : lastK a (x :: l) = lastK x l := by cases l <;> simp [lastK, List.getLastD]
    rw [List.cons_append, chain_cons, chain_snoc l x s, chain_cons, h1, Bool.and_assoc]
theorem chain_pre {a : K2} {l r : List K2} (hp : l <+: r) (h : chainB a l = false) : chainB a r = false := by
  obtain ⟨t, rfl⟩ := hp
  induction l generalizing a with
  | nil => simp [chainB] at h
  | cons x l ih =>
    rw [List.cons_append, chain_cons] at *
    cases hf : folB a x with
    | false => simp
    | true => rw [hf] at h; simp at h; simp [ih h]
theorem chain_len : ∀ (l : List K2) (a : K2), chainB a l = true → l = [] ∨ a.2 + (l.length : Int) ≤ 6
  | [], _, _ => .inl rfl
  | x :: l, a, h => by
    rw [chain_cons, Bool.and_eq_true, fol_iff] at h
    rcases chain_len l x h.2 with rfl | h1
    · right; simp; omega
    · right; simp; omega
theorem pln_len {ks : List K2} (h : plnB ks = true) : 1 ≤ ks.length ∧ ks.length ≤ 6 := by
  cases ks with
  | nil => simp [plnB] at h
  | cons x r =>
    simp only [plnB, Bool.and_eq_true, beq_iff_eq] at h
    obtain ⟨rfl, h2⟩ := h
    rcases chain_len r _ h2 with rfl | h3
    · simp
    · simp at h3 ⊢; omega
/-- what the model's loop asks, place by place -/
def plStep (ks : List K2) (i : Nat) : Bool := folB (ks.getD i (0, 0)) (ks.getD (i + 1) (0, 0))
theorem chain_all : ∀ (l : List K2) (a : K2), chainB a l = (List.range l.length).all (plStep (a :: l))
  | [], _ => rfl
  | x :: l, a => by
    rw [chain_cons, chain_all l x, List.length_cons, List.range_succ_eq_map, List.all_cons, List.all_map]
    rfl
theorem pln_all (x : K2) (r : List K2) : plnB (x :: r) = (x == (0, 1) && (List.range r.length).all (plStep (x :: r))) := by
  show (x == (0, 1) && chainB x r) = _
  rw [chain_all]

/-! ### the degree at a time -/
def degF (now : Int) (d : Int) (s : K2) : Int := if s.1 ≤ now then s.2 else d
def degS (ks : List K2) (now : Int) : Int := ks.foldl (degF now) 1
def degV (ks : List K2) (now : Int) : Int := if plnB ks then degS ks now else 1
theorem deg_stay {now : Int} : ∀ (l : List K2) (a : K2) (d : Int), chainB a l = true → now < a.1 → l.foldl (degF now) d = d
  | [], _, _, _, _ => rfl
  | x :: l, a, d, h, hn => by
    rw [chain_cons, Bool.and_eq_true, fol_iff] at h
    rw [List.foldl_cons]
    have : degF now d x = d := by unfold degF; rw [if_neg (by omega)]
    rw [this]
    exact deg_stay l x d h.2 (by omega)
theorem chain_app {a : K2} : ∀ {l r : List K2}, chainB a (l ++ r) = true → chainB (lastK a l) r = true
  | [], r, h => h
  | x :: l, r, h => by
    have h1 : lastK a (x :: l) = lastK x l := by cases l <;> simp [lastK, List.getLastD]
    rw [List.cons_append, chain_cons, Bool.and_eq_true] at h
    rw [h1]
    exact chain_app h.2
/-- where the next step is later the degree stays -/
theorem deg_stop {ks pre rest : List K2} {s : K2} {now : Int} (h : plnB ks = true) (he : ks = pre ++ s :: rest) (hs : now < s.1) : degS ks now = degS pre now := by
  have hc : chainB s rest = true := by
    cases pre with
    | nil =>
      subst he
      simp only [List.nil_append, plnB, Bool.and_eq_true] at h
      exact h.2
    | cons x p =>
      subst he
      simp only [List.cons_append, plnB, Bool.and_eq_true] at h
      have := chain_app h.2
      rw [chain_cons, Bool.and_eq_true] at this
      exact this.2
  unfold degS
  rw [he, List.foldl_append, List.foldl_cons]
  have : degF now (List.foldl (degF now) 1 pre) s = List.foldl (degF now) 1 pre := by unfold degF; rw [if_neg (by omega)]
  rw [this]
  exact deg_stay rest s _ hc hs
theorem degS_snoc (ks : List K2) (s : K2) (now : Int) : degS (ks ++ [s]) now = degF now (degS ks now) s := by simp [degS, List.foldl_append]
/-! ### the plan that is grown -/
def groF (n p : Int) : Nat → Int → Int → List K2
  | 0, _, _ => []
  | f + 1, d, a => if a < p * (d * n / (d + 1)) ∧ p * (d * n / (d + 1)) ≤ 1000000 then (p * (d * n / (d + 1)), d + 1) :: groF n p f (d + 1) (p * (d * n / (d + 1))) else []
def groOk (n p : Int) : Prop := (1 ≤ n ∧ n ≤ 100) ∧ (1 ≤ p ∧ p ≤ 1000)
instance (n p : Int) : Decidable (groOk n p) := by unfold groOk; infer_instance
def groV (n p : Int) : List K2 := if groOk n p then (0, 1) :: groF n p 5 1 0 else []
theorem least_iff {d n k : Int} (h1 : 1 ≤ d) (h2 : d ≤ 5) : k * (d + 1) < d * n - d ↔ k < d * n / (d + 1) := by
  obtain rfl | rfl | rfl | rfl | rfl : d = 1 ∨ d = 2 ∨ d = 3 ∨ d = 4 ∨ d = 5 := by omega
  all_goals (simp only [Int.reduceAdd]; omega)
theorem groQ_bd {d n : Int} (h1 : 1 ≤ d) (h2 : d ≤ 5) (h3 : 1 ≤ n) (h4 : n ≤ 100) : 0 ≤ d * n / (d + 1) ∧ d * n / (d + 1) ≤ d * 100 / (d + 1) ∧ d * 100 / (d + 1) ≤ 83 := by
  obtain rfl | rfl | rfl | rfl | rfl : d = 1 ∨ d = 2 ∨ d = 3 ∨ d = 4 ∨ d = 5 := by omega
  all_goals (simp only [Int.reduceAdd]; omega)
theorem mul_bd {p q Q : Int} (h1 : 1 ≤ p) (h2 : p ≤ 1000) (h3 : 0 ≤ q) (h4 : q ≤ Q) (h5 : Q ≤ 83) : 0 ≤ p * q ∧ p * q ≤ p * Q ∧ p * Q ≤ 83000 :=
  ⟨Int.mul_nonneg (by omega) h3, Int.mul_le_mul_of_nonneg_left h4 (by omega), Int.le_trans (Int.mul_le_mul h2 h5 (by omega) (by omega)) (by decide)⟩
theorem groF_len (n p : Int) : ∀ (f : Nat) (d a : Int), (groF n p f d a).length ≤ f
  | 0, _, _ => by simp [groF]
  | f + 1, d, a => by
    unfold groF
    split
    · have := groF_len n p f (d + 1) (p * (d * n / (d + 1))); simp; omega
    · simp
theorem gro_len (n p : Int) : (groV n p).length ≤ 6 := by
  unfold groV
  split
  · have := groF_len n p 5 1 0; simp; omega
  · simp
end Go.Proofs.Yteijgoadcpphlaa
namespace Go.Proofs.Yteijgoadcpphlaa
open Go.ChangeShapes Go.WideShapes Go.ChangeAt Go.RowKit
set_option linter.unusedVariables false

theorem sin_any (x a b : Int) (w : World) : Calls Try.prog 28 #[.int .i64 x, .int .i64 a, .int .i64 b] w fun e w' => e = .returned (.bool (decide (a ≤ x) && decide (x ≤ b))) ∧ w' = w := by
  by_cases h1 : a ≤ x <;> by_cases h2 : x ≤ b
  all_goals
    go_enter Try.func28, Try.ntmps28
    go_wp2
    go_ret
    simp [h1, h2]
end Go.Proofs.Yteijgoadcpphlaa
namespace Go.Proofs.Yteijgoadcpphlaa
open Go.BigFrame Go.RowKit Go.ChangeShapes Go.WideShapes
section
variable {P : Program} {ops : Array Oper} {C : World → Prop} {Q : Act → Prop} {a : Act} {o : Oper} {rest : List Oper} {K : Act → Prop}
theorem q_load (ty : TypeId) (x : Operand) (p : Addr) (v : Value) (ho : o.op = .load ty x) (hx : a.eval x = .pointer (some p)) (hl : ∀ w, C w → (loadVar ty p).run P w = .ok v w) (hk : K (a.put o.dst v)) : o.quiet P a C K := by
  refine ⟨v, fun w hw => ?_, hk⟩
  unfold Oper.quietAt execOp
  simp only [ho, hx, Instr.loadAt, Instr.sureAddr, Sem.run_bind, Sem.run_pure, Result.andThen_ok, hl w hw]
  exact ⟨rfl, rfl⟩
end
/-- the class: new blocks alone -/
theorem wp_region_below {P : Program} {id : Nat} {Q : Exit → Act → World → Prop} {a : Act} {w : World} {l : List Oper} (w0 : World) (hm : P.follows .mixedOrders = true) (hB : Region.lexB .any l.toArray = true) (h0 : Below w0.heap.size w0 w)
    (h : wpQuiet P l.toArray (fun w' => Below w0.heap.size w0 w') (fun a' => ∀ w', Below w0.heap.size w0 w' → Q .normal a' w') l a) : (Code.region id l.toArray true).wp P Q a w :=
  wp_region_quiet (C := fun w' => Below w0.heap.size w0 w') hm hB h0.drew (by simpa using h)
end Go.Proofs.Yteijgoadcpphlaa
namespace Go.Proofs.Yteijgoadcpphlaa
open Go.ChangeShapes Go.WideShapes Go.ChangeAt Go.RowKit Go.BigFrame
set_option linter.unusedVariables false

def keyCells (ks : List K2) : List Value := ks.flatMap fun k => [.int .i64 k.1, .int .i64 k.2]
theorem keyCells_len : ∀ ks : List K2, (keyCells ks).length = ks.length * 2
  | [] => rfl
  | k :: r => by
    have := keyCells_len r
    simp only [keyCells, List.flatMap_cons, List.length_append, List.length_cons, List.length_nil] at *
    omega
theorem keyCells_snoc (ks : List K2) (k : K2) : keyCells (ks ++ [k]) = keyCells ks ++ [.int .i64 k.1, .int .i64 k.2] := by simp [keyCells]
theorem keyCells_get : ∀ (ks : List K2) (i : Nat), i < ks.length → (keyCells ks)[i * 2]? = some (.int .i64 (ks.getD i (0, 0)).1) ∧ (keyCells ks)[i * 2 + 1]? = some (.int .i64 (ks.getD i (0, 0)).2)
  | [], _, h => by simp at h
  | k :: r, 0, _ => by simp [keyCells]
  | k :: r, i + 1, h => by
    have ih := keyCells_get r i (by simpa using h)
    have e1 : (i + 1) * 2 = i * 2 + 1 + 1 := by omega
    have e2 : (i + 1) * 2 + 1 = i * 2 + 1 + 1 + 1 := by omega
    rw [e1]
    simp only [keyCells, List.flatMap_cons, List.cons_append, List.nil_append, List.getElem?_cons_succ, List.getD_cons_succ] at *
    exact ih
theorem own_below {w w' : World} {base n : Nat} {e : TypeId} {size : Nat} {v : Value} {xs : List Value} (h : w.ownsRow base e size v n xs) (hb : Below w.heap.size w w') : w'.ownsRow base e size v n xs :=
  h.kept (grown_of_below' hb none) (by cases hv : v.ownBlock <;> simp)

end Go.Proofs.Yteijgoadcpphlaa
namespace Go.Proofs.Yteijgoadcpphlaa
open Go.RowKit Go.Shelf
attribute [local go_sem] Oper.semAt_some
set_option linter.unusedVariables false

/-- the slice value v leads to the keys ks, in blocks below n₀ -/
def keysIn0 (n₀ : Nat) (w : World) (v : Value) (ks : List K2) : Prop :=
  ∃ a cap, v = .slice a ks.length cap ∧ ks.length ≤ cap ∧ (ks.length = 0 ∨ ∃ g off, a = some ⟨g, off, none⟩ ∧ g < n₀ ∧ g < w.heap.size ∧
    ∀ i, i < ks.length → w.cell? ⟨g, off + i * 2, none⟩ = some (.int .i64 (ks.getD i (0, 0)).1) ∧ w.cell? ⟨g, off + i * 2 + 1, none⟩ = some (.int .i64 (ks.getD i (0, 0)).2))
theorem keysIn0.below {n₀ : Nat} {w w' : World} {v : Value} {ks : List K2} (h : keysIn0 n₀ w v ks) (hb : Below n₀ w w') : keysIn0 n₀ w' v ks := by
  obtain ⟨a, cap, h1, h2, h3⟩ := h
  refine ⟨a, cap, h1, h2, h3.imp_right ?_⟩
  rintro ⟨g, off, h4, h0, h5, h6⟩
  refine ⟨g, off, h4, h0, Nat.lt_of_lt_of_le h5 hb.size, fun i hi => ?_⟩
  rw [hb.cell (p := ⟨g, off + i * 2, none⟩) h0, hb.cell (p := ⟨g, off + i * 2 + 1, none⟩) h0]
  exact h6 i hi
theorem keysIn0.at {n₀ : Nat} {w : World} {v : Value} {ks : List K2} (h : keysIn0 n₀ w v ks) : keysAt w v ks := by
  obtain ⟨a, cap, h1, h2, h3⟩ := h
  exact ⟨a, cap, h1, h2, h3.imp_right fun ⟨g, off, h4, _, h5, h6⟩ => ⟨g, off, h4, h5, h6⟩⟩
theorem keysIn0_of {w : World} {v : Value} {ks : List K2} (h : keysAt w v ks) : keysIn0 w.heap.size w v ks := by
  obtain ⟨a, cap, h1, h2, h3⟩ := h
  exact ⟨a, cap, h1, h2, h3.imp_right fun ⟨g, off, h4, h5, h6⟩ => ⟨g, off, h4, h5, h5, h6⟩⟩

end Go.Proofs.Yteijgoadcpphlaa
namespace Go.Proofs.Yteijgoadcpphlaa
open Go.RowKit
set_option linter.unusedVariables false

theorem set_cells {w : World} {B j : Nat} {cs : Array Value} {t : TypeId} (u : Value) (h : w.heap[B]? = some (.cells cs t (0, 0))) : (w.setCell ⟨B, j, none⟩ u).heap[B]? = some (.cells (cs.setIfInBounds j u) t (0, 0)) := by
  obtain ⟨hlt, hk⟩ := Array.getElem?_eq_some_iff.1 h
  show (w.heap.modify B _)[B]? = _
  rw [Array.getElem?_eq_getElem (by rw [Array.size_modify]; exact hlt), Array.getElem_modify_self, hk]
  rfl
end Go.Proofs.Yteijgoadcpphlaa
namespace Go.Proofs.Yteijgoadcpphlaa
open Go.RowKit Go.Shelf
set_option linter.unusedVariables false

/-- the slice value without its first key -/
theorem keysIn0_tail {n₀ : Nat} {w : World} {g off c : Nat} {k : K2} {r : List K2} (h : keysIn0 n₀ w (.slice (some ⟨g, off, none⟩) (r.length + 1) c) (k :: r)) (c' : Nat) (hc : r.length ≤ c') :
    keysIn0 n₀ w (.slice (some ⟨g, off + 2, none⟩) r.length c') r := by
  obtain ⟨a, cap, h1, h2, h3⟩ := h
  simp only [List.length_cons, Value.slice.injEq, true_and] at h1
  obtain ⟨rfl, rfl⟩ := h1
  obtain ⟨g2, off2, e, h4, h5, h6⟩ := h3.resolve_left (by simp)
  cases e
  refine ⟨_, c', rfl, hc, .inr ⟨g, off + 2, rfl, h4, h5, fun i hi => ?_⟩⟩
  have := h6 (i + 1) (by simp; omega)
  rw [show off + (i + 1) * 2 = off + 2 + i * 2 by omega] at this
  simpa using this
theorem keysIn0_tail2 {n₀ : Nat} {w : World} {g o o' c : Nat} {k : K2} {r : List K2} (h : keysIn0 n₀ w (.slice (some ⟨g, o, none⟩) (r.length + 1) c) (k :: r)) (hc : r.length + 1 ≤ c) (ho : (c - 1 = 0 ∧ o' = o) ∨ o' = o + 2) :
    keysIn0 n₀ w (.slice (some ⟨g, o', none⟩) r.length (c - 1)) r := by
  rcases ho with ⟨h0, rfl⟩ | rfl
  · exact ⟨_, c - 1, rfl, by omega, .inl (by omega)⟩
  · exact keysIn0_tail h _ (by omega)
end Go.Proofs.Yteijgoadcpphlaa
namespace Go.Proofs.Yteijgoadcpphlaa
set_option linter.unusedVariables false

theorem cell_two_new (w : World) (x y : Value) (e : TypeId) : ∀ j u, ([x, y] : List Value)[j]? = some u → (w.alloc (.cells #[x, y] e)).cell? ((⟨w.heap.size, 0, none⟩ : Addr).add j) = some u := by
  intro j u hj
  have : j < 2 := by have := (List.getElem?_eq_some_iff.1 hj).1; simpa using this
  rcases (by omega : j = 0 ∨ j = 1) with rfl | rfl <;> simpa [Addr.add_lit] using hj
end Go.Proofs.Yteijgoadcpphlaa
namespace Go.Proofs.Yteijgoadcpphlaa
open Go.ChangeShapes Go.WideShapes Go.ChangeAt Go.RowKit
set_option linter.unusedVariables false
theorem results_cell {fn : Func} {p : Tmp} {ty : TypeId} (h : fn.results = #[.cell p ty]) (tmps : Array Value) (P : Program) (w : World) :
    (results fn tmps).run P w = ((asAddr (tmps.getD p undef)).run P w).andThen fun a w₁ => (loadVar ty a).run P w₁ := by
  simp only [results, h]
  simp [Sem.run_bind]
theorem heap_mid (w : World) (a b c : Obj) : (((w.alloc a).alloc b).alloc c).heap[w.heap.size + 1]? = some b := by
  show (((w.heap.push a).push b).push c)[w.heap.size + 1]? = some b
  rw [Array.getElem?_push, if_neg (by simp), Array.getElem?_push, if_pos (by simp)]
end Go.Proofs.Yteijgoadcpphlaa
namespace Go.Proofs.Yteijgoadcpphlaa
open Go.ChangeShapes Go.WideShapes Go.ChangeAt Go.RowKit Go.BigFrame
set_option linter.unusedVariables false
theorem own_cell {w : World} {base g n cap : Nat} {e : TypeId} {size : Nat} {xs : List Value} (h : w.ownsRow base e size (.slice (some ⟨g, 0, none⟩) n cap) n xs) (j : Nat) (hj : j < n * size) :
    w.cell? ⟨g, j, none⟩ = some (xs.getD j undef) ∧ w.frozen? ⟨g, j, none⟩ = false := by
  have hl : xs.length = n * size := h.1
  refine ⟨?_, ?_⟩
  · rw [h.cellAt j hj]
    simp [List.getD, show j < xs.length by omega]
  · rcases h.2 with ⟨h1, _⟩ | ⟨g', cap', cur, h1, _, hg, _⟩
    · simp at h1
    · simp only [Value.slice.injEq, Option.some.injEq, Addr.mk.injEq, and_true, true_and] at h1
      obtain ⟨rfl, rfl⟩ := h1
      simp [World.frozen?, hg]
theorem ownsRowK_shape {w : World} {base n : Nat} {e : TypeId} {v : Value} {size : Nat} {xs : List Value} (h : w.ownsRow base e size v n xs) :
    (v = .slice none 0 0 ∧ n = 0) ∨ ∃ g cap, v = .slice (some ⟨g, 0, none⟩) n cap ∧ n ≤ cap ∧ cap ≤ maxLen ∧ base ≤ g ∧ g < w.heap.size := by
  rcases h.2 with h1 | ⟨g, cap, cur, rfl, h2, h3, h4, h5, _⟩
  · exact .inl h1
  · exact .inr ⟨g, cap, rfl, h4, h5, h2, (Array.getElem?_eq_some_iff.1 h3).1⟩
theorem own_base {w : World} {base base' n : Nat} {e : TypeId} {size : Nat} {v : Value} {xs : List Value} (h : w.ownsRow base' e size v n xs) (hb : base ≤ base') : w.ownsRow base e size v n xs := by
  refine ⟨h.1, h.2.imp_right ?_⟩
  rintro ⟨g, cap, cur, h1, h2, h3⟩
  exact ⟨g, cap, cur, h1, Nat.le_trans hb h2, h3⟩
end Go.Proofs.Yteijgoadcpphlaa
namespace Go.Proofs.Yteijgoadcpphlaa
open Go.ChangeShapes Go.WideShapes Go.ChangeAt Go.RowKit Go.BigFrame
set_option linter.unusedVariables false

theorem set_key (ks : List K2) (k : Nat) (p q : Int) (u1 u2 : Value) (rest : List Value) (hk : k < ks.length) (hx : ks.getD k (0, 0) = (p, q)) :
    ((keyCells (ks.take k) ++ u1 :: u2 :: rest).set (k * 2) (.int .i64 p)).set (k * 2 + 1) (.int .i64 q) = keyCells (ks.take (k + 1)) ++ rest := by
  have hl := keyCells_len (ks.take k)
  have hl2 : (keyCells (ks.take k)).length = k * 2 := by rw [hl]; simp; omega
  rw [List.take_succ_eq_append_getElem hk, keyCells_snoc, show ks[k] = (p, q) by rw [← hx]; simp [List.getD, hk]]
  rw [List.set_append_right _ _ (by omega), hl2, Nat.sub_self, List.set_cons_zero, List.set_append_right _ _ (by omega), hl2, show k * 2 + 1 - k * 2 = 1 by omega]
  simp
end Go.Proofs.Yteijgoadcpphlaa
namespace Go.Proofs.Yteijgoadcpphlaa
open Go.ChangeShapes Go.WideShapes Go.ChangeAt Go.RowKit Go.BigFrame
set_option linter.unusedVariables false

def marked (n : Nat) (m : Int) : List K2 := (List.range n).map fun (i : Nat) => (m + 2 * (i : Int), m + 2 * (i : Int) + 1)
theorem marked_len (n : Nat) (m : Int) : (marked n m).length = n := by simp [marked]
theorem marked_get (n : Nat) (m : Int) (i : Nat) (h : i < n) : (marked n m).getD i (0, 0) = (m + 2 * (i : Int), m + 2 * (i : Int) + 1) := by
  simp [marked, List.getD, h]
theorem marked_succ (k : Nat) (m : Int) : marked (k + 1) m = marked k m ++ [(m + 2 * (k : Int), m + 2 * (k : Int) + 1)] := by
  simp [marked, List.range_succ]
theorem set_mark (k : Nat) (m : Int) (u1 u2 : Value) (rest : List Value) :
    ((keyCells (marked k m) ++ u1 :: u2 :: rest).set (k * 2) (.int .i64 (m + 2 * (k : Int)))).set (k * 2 + 1) (.int .i64 (m + 2 * (k : Int) + 1)) = keyCells (marked (k + 1) m) ++ rest := by
  have hl := keyCells_len (marked k m)
  rw [marked_len] at hl
  rw [marked_succ, keyCells_snoc]
  rw [List.set_append_right _ _ (by omega), hl, Nat.sub_self, List.set_cons_zero, List.set_append_right _ _ (by omega), hl, show k * 2 + 1 - k * 2 = 1 by omega]
  simp
end Go.Proofs.Yteijgoadcpphlaa
namespace Go.Proofs.Yteijgoadcpphlaa
open Go.ChangeShapes Go.WideShapes Go.ChangeAt Go.RowKit Go.BigFrame
set_option linter.unusedVariables false

theorem step_load {w : World} {g o : Nat} {k : K2} (hc : w.cell? ⟨g, o, none⟩ = some (.int .i64 k.1) ∧ w.cell? ⟨g, o + 1, none⟩ = some (.int .i64 k.2)) {w' : World} (hg : g < w.heap.size) (hb : Below w.heap.size w w') :
    (loadVar 30 ⟨g, o, none⟩).run Try.prog w' = .ok (kv k) w' := by
  refine run_loadVar_mid w' g o 30 [.int .i64 k.1, .int .i64 k.2] _ (fun j v hj => ?_) Try.underlying30 rfl (by kernel_rfl)
  have hj2 : j < 2 := by have := (List.getElem?_eq_some_iff.1 hj).1; simpa using this
  rcases (by omega : j = 0 ∨ j = 1) with rfl | rfl
  · rw [hb.cell (p := ⟨g, o + 0, none⟩) hg]
    simpa using hc.1.trans (by simpa using hj)
  · rw [hb.cell (p := ⟨g, o + 1, none⟩) hg]
    simpa using hc.2.trans (by simpa using hj)
theorem step_equal (p q : K2) (w : World) : (Op.equalIn 10000 30 (kv p) (kv q)).run Try.prog w = .ok (p == q) w := by
  obtain ⟨a, b⟩ := p; obtain ⟨c, d⟩ := q
  have u3 := Try.underlying3
  have hS : Try.prog.underlying 30 = some (.struct (Try.prog.fieldsOf 30)) := by kernel_rfl
  unfold kv
  rw [show (10000 : Nat) = 9999 + 1 from rfl, run_equalIn_agg w 9999 30 _ _ hS (by kernel_rfl)]
  simp only [Program.fieldsOf, Try.underlying30]
  go_simp
  by_cases h1 : a = c <;> by_cases h2 : b = d <;> simp [h1, h2]
theorem step_neq (p q : K2) (w : World) : (binOp .neq 30 (kv p) (kv q)).run Try.prog w = .ok (.bool (!(p == q))) w := by
  have := step_equal p q w
  unfold kv at *
  rw [run_neq_struct, this]; rfl
theorem step_guard (op : BinOp) (x y : Operand) (p q : K2) (w : World) : (eqGuard op 30 x y (kv p) (kv q)).run Try.prog w = .ok () w := by
  unfold kv
  exact run_eqGuard_agg w op 30 x y _ _ (by kernel_rfl)
theorem infoSt : (Try.prog.info? 30).map (fun i => (i.zero, i.size, i.bytes)) = some (some (.agg #[.int .i64 0, .int .i64 0]), 2, 16) := by kernel_rfl
/-- what is owned leads to its keys -/
theorem stepsAt_own {w : World} {base : Nat} {v : Value} {ks : List K2} (h : w.ownsRow base 30 2 v ks.length (keyCells ks)) : keysAt w v ks := by
  rcases h.2 with ⟨rfl, h0⟩ | ⟨g, cap, cur, rfl, hb, hg, hn, hm, hs, ht⟩
  · exact ⟨none, 0, by rw [h0], by omega, .inl h0⟩
  · refine ⟨_, cap, rfl, hn, .inr ⟨g, 0, rfl, (Array.getElem?_eq_some_iff.1 hg).1, fun i hi => ?_⟩⟩
    have hc := keyCells_get ks i hi
    rw [Nat.zero_add, h.cellAt (i * 2) (by omega), h.cellAt (i * 2 + 1) (by omega)]
    exact hc
theorem tostep_any (k : K2) (w : World) : Calls Try.prog 32 #[kv k] w fun e w' => e = .returned (kv k) ∧ Below w.heap.size w w' := by
  obtain ⟨n, s⟩ := k
  unfold kv
  dsimp only
  have hB : ∀ o1 o2 o3, Below w.heap.size w (((w.alloc o1).alloc o2).alloc o3) := fun o1 o2 o3 => (((Below.refl _ _).alloc (Nat.le_refl _) _).alloc (by simp) _).alloc (by simp; omega) _
  have HB := Lib.hid hB; clear hB
  go_enter Try.func32, Try.ntmps32
  go_wp2
  refine bodyPost_ret (v := .agg #[.int .i64 n, .int .i64 s]) ?_ rfl ⟨rfl, HB.out _ _ _⟩
  rw [results_cell (p := 2) (ty := 30) (by kernel_rfl)]
  have hl := run_loadVar_row (P := Try.prog) (((w.alloc (.cells #[.int .i64 n, .int .i64 s] 55)).alloc (.cells #[.int .i64 n, .int .i64 s] 30)).alloc (.cells #[.int .i64 n, .int .i64 s] 30)) (w.heap.size + 1) 30 30 #[.int .i64 n, .int .i64 s] (0, 0) _ (heap_mid w _ _ _) Try.underlying30 rfl (by kernel_rfl)
  simp [asAddr, Result.andThen, hl]
theorem eqstep_any (p q : K2) (w : World) : Calls Try.prog 33 #[kv p, kv q] w fun e w' => e = .returned (.bool (p == q)) ∧ Below w.heap.size w w' := by
  obtain ⟨a, b⟩ := p; obtain ⟨c, d⟩ := q
  have hB : ∀ o o', Below w.heap.size w ((w.alloc o).alloc o') := fun o o' => ((Below.refl _ _).alloc (Nat.le_refl _) _).alloc (by simp) _
  have HB := Lib.hid hB; clear hB
  by_cases h1 : a = c
  · by_cases h2 : b = d
    · have he : ((a, b) == (c, d)) = true := by simp [h1, h2]
      rw [he]
      unfold kv
      dsimp only
      subst h1; subst h2
      go_enter Try.func33, Try.ntmps33
      go_wp2
      go_ret
      exact ⟨rfl, HB.out _ _⟩
    · have he : ((a, b) == (c, d)) = false := by simp [h1, h2]
      rw [he]
      unfold kv
      dsimp only
      subst h1
      go_enter Try.func33, Try.ntmps33
      go_wp2
      go_ret
      exact ⟨rfl, HB.out _ _⟩
  · have he : ((a, b) == (c, d)) = false := by simp [h1]
    rw [he]
    unfold kv
    dsimp only
    go_enter Try.func33, Try.ntmps33
    go_wp2
    go_ret
    exact ⟨rfl, HB.out _ _⟩
theorem szsteps_any (v : Value) (ks : List K2) (left : Int) (w : World) (h : ∃ a cap, v = .slice a ks.length cap) (hl : 0 ≤ left ∧ left ≤ 1000000000) (hs : ks.length ≤ 9223372036854775807) :
    Calls Try.prog 18 #[v, .int .i64 left] w fun e w' => e = .returned (.int .i64 (if left - (ks.length : Int) < 0 then -1 else left - (ks.length : Int))) ∧ w' = w := by
  obtain ⟨a, cap, rfl⟩ := h
  by_cases hn : left - (ks.length : Int) < 0
  · rw [if_pos hn]
    have ew : IntKind.i64.wrap (left - (ks.length : Int)) = left - (ks.length : Int) := IntWalk.i64_in _ (by omega)
    go_enter Try.func18, Try.ntmps18
    go_wp2
    go_ret
    exact ⟨rfl, rfl⟩
  · rw [if_neg hn]
    have ew : IntKind.i64.wrap (left - (ks.length : Int)) = left - (ks.length : Int) := IntWalk.i64_in _ (by omega)
    go_enter Try.func18, Try.ntmps18
    go_wp2
    go_ret
    exact ⟨rfl, rfl⟩
set_option maxRecDepth 100000 in
set_option maxHeartbeats 1000000 in
theorem tosteps_any (v : Value) (ks : List K2) (w : World) (h : keysAt w v ks) (hs : ks.length ≤ 2000000) : Calls Try.prog 19 #[v] w fun e w' => ∃ g, e = .returned (.slice (some ⟨g, 0, none⟩) ks.length ks.length) ∧ w.heap.size ≤ g ∧
    w'.ownsRow w.heap.size 30 2 (.slice (some ⟨g, 0, none⟩) ks.length ks.length) ks.length (keyCells ks) ∧ Below w.heap.size w w' := by
  obtain ⟨a, cap, rfl, hcap, hcells⟩ := h
  obtain ⟨i0, hi, hz0, hz1, hz2⟩ := info_parts infoSt
  obtain ⟨W, hmk, hown0, hgr0⟩ := run_make_full (P := Try.prog) w w.heap.size 24 30 i0 _ 2 Try.underlying24 hi hz0 hz1 .i64 .i64 ks.length (by rw [hz2]; omega) (by unfold maxLen; omega) (Nat.le_refl _)
  have hb0 : Below w.heap.size w W := (Below.refl _ _).grown hgr0 (Nat.le_refl _) (by simp)
  have hrest : (madeCells (Value.agg #[.int .i64 0, .int .i64 0]).cells (ks.length * 2)).toList.length = ks.length * 2 := hown0.1
  generalize (madeCells (Value.agg #[.int .i64 0, .int .i64 0]).cells (ks.length * 2)).toList = Z at *
  go_enter Try.func19, Try.ntmps19
  go_wp2
  clear hmk hgr0
  go_loopw [4] (fun i wr => ∃ (k : Nat) (rest : List Value), k ≤ ks.length ∧ i = .int .i64 k ∧ wr.ownsRow w.heap.size 30 2 (.slice (some ⟨w.heap.size, 0, none⟩) ks.length ks.length) ks.length (keyCells (ks.take k) ++ rest) ∧ Below w.heap.size w wr)
    (fun i _ => ks.length - (intOf i).toNat)
  case atStart => exact ⟨0, Z, Nat.zero_le _, rfl, by simpa [keyCells] using hown0, hb0⟩
  case round =>
    obtain ⟨k, rest, hk, rfl, hown, hbr⟩ := hrel
    clear hown0 hb0 hrest
    by_cases hlt : k < ks.length
    · obtain ⟨ga, off, rfl, hg, hcs⟩ := hcells.resolve_left (by omega)
      have hc := hcs k hlt
      have z0 : (0 : Int) ≤ (k : Int) := by omega
      have z1 : (k : Int) < (ks.length : Int) := by omega
      have d1 : wr.cell? ⟨ga, off + k * 2, none⟩ = some (.int .i64 (ks.getD k (0, 0)).1) := by rw [hbr.cell (p := ⟨ga, off + k * 2, none⟩) hg]; exact hc.1
      have d2 : wr.cell? ⟨ga, off + k * 2 + 1, none⟩ = some (.int .i64 (ks.getD k (0, 0)).2) := by rw [hbr.cell (p := ⟨ga, off + k * 2 + 1, none⟩) hg]; exact hc.2
      clear hcs hc hcells
      have hkt : (ks.take k).length = k := by simp; omega
      have hkl := keyCells_len (ks.take k)
      have hrl : rest.length = (ks.length - k) * 2 := by
        have := hown.1
        rw [List.length_append, hkl, hkt] at this
        omega
      obtain ⟨u1, u2, rest2, rfl⟩ : ∃ u1 u2 r, rest = u1 :: u2 :: r := by
        match rest, hrl with
        | [], h => simp at h; omega
        | [_], h => simp at h; omega
        | a :: b :: r, _ => exact ⟨a, b, r, rfl⟩
      generalize hkx : ks.getD k (0, 0) = kx at *
      obtain ⟨p, q⟩ := kx
      have hset := set_key ks k p q u1 u2 rest2 hlt hkx
      have HSET := Lib.hid hset
      have HT := Lib.hid (tostep_any (p, q) wr)
      clear hkx hset hrl
      go_wp2_with fail
      refine HT.out.mono ?_
      rintro e w2 ⟨rfl, hb2⟩
      have hown2 := own_below hown hb2
      have hbq := hbr.trans (hb2.mono hbr.size)
      clear hown hbr hb2 HT d1 d2
      have st1 := hown2.stored (k * 2) (.int .i64 p)
      have st2 := st1.1.stored (k * 2 + 1) (.int .i64 q)
      rw [HSET.out] at st2
      have hbz := (hbq.setCell (p := ⟨w.heap.size, k * 2, none⟩) (Nat.le_refl _) (.int .i64 p)).setCell (p := ⟨w.heap.size, k * 2 + 1, none⟩) (Nat.le_refl _) (.int .i64 q)
      have R := Lib.hid (And.intro st2.1 hbz)
      clear st1 st2 hbz hbq HSET
      obtain ⟨s1, s2⟩ := own_cell hown2 (k * 2) (by omega)
      obtain ⟨s3, s4⟩ := own_cell hown2 (k * 2 + 1) (by omega)
      unfold kv
      dsimp only
      go_wp2
      exact ⟨⟨k + 1, rest2, by omega, by go_num, R.out.1, R.out.2⟩, by simp [intOf]; omega⟩
    · obtain rfl : k = ks.length := by omega
      rw [List.take_length] at hown
      have hr0 : rest = [] := by
        have h1 := hown.1
        rw [List.length_append, keyCells_len] at h1
        exact List.eq_nil_of_length_eq_zero (by omega)
      subst hr0
      rw [List.append_nil] at hown
      go_wp2
      go_ret
      exact ⟨w.heap.size, rfl, Nat.le_refl _, hown, hbr⟩
set_option maxRecDepth 100000 in
set_option maxHeartbeats 1000000 in
theorem eqsteps_any (va vb : Value) (A B : List K2) (w : World) (ha : keysAt w va A) (hb : keysAt w vb B) (hsA : A.length ≤ 4000000) (hsB : B.length ≤ 4000000) :
    Calls Try.prog 20 #[va, vb] w fun e w' => e = .returned (.bool (decide (A = B))) ∧ Below w.heap.size w w' := by
  obtain ⟨aa, ca, rfl, hca, hcA⟩ := ha
  obtain ⟨ab, cb, rfl, hcb, hcB⟩ := hb
  by_cases hl : A.length = B.length
  · have e0 : (A.length : Int) = (B.length : Int) := by omega
    go_enter Try.func20, Try.ntmps20
    rw [hl] at hca hcA ⊢
    go_wp2
    go_loopw [5] (fun i wr => ∃ k : Nat, k ≤ B.length ∧ i = .int .i64 k ∧ (∀ j, j < k → A.getD j (0, 0) = B.getD j (0, 0)) ∧ Below w.heap.size w wr) (fun i _ => B.length - (intOf i).toNat)
    case atStart => exact ⟨0, Nat.zero_le _, rfl, fun j hj => by omega, Below.refl _ _⟩
    case round =>
      obtain ⟨k, hk, rfl, hall, hbr⟩ := hrel
      by_cases hlt : k < B.length
      · obtain ⟨ga, offa, rfl, hga, hcsA⟩ := hcA.resolve_left (by omega)
        obtain ⟨gb, offb, rfl, hgb, hcsB⟩ := hcB.resolve_left (by omega)
        have cA := hcsA k hlt
        have cB := hcsB k hlt
        have z0 : (0 : Int) ≤ (k : Int) := by omega
        have z1 : (k : Int) < (B.length : Int) := by omega
        clear hcsA hcsB hcA hcB
        have L1 : ∀ w', Below w.heap.size w w' → (loadVar 30 ⟨ga, offa + k * 2, none⟩).run Try.prog w' = .ok (kv (A.getD k (0, 0))) w' := fun w' h => step_load cA hga h
        have L2 : ∀ w', Below w.heap.size w w' → (loadVar 30 ⟨gb, offb + k * 2, none⟩).run Try.prog w' = .ok (kv (B.getD k (0, 0))) w' := fun w' h => step_load cB hgb h
        have HE := Lib.hid (fun w => eqstep_any (A.getD k (0, 0)) (B.getD k (0, 0)) w)
        clear cA cB
        cases he : (A.getD k (0, 0) == B.getD k (0, 0)) with
        | true =>
          have hn : ∀ j, j < k + 1 → A.getD j (0, 0) = B.getD j (0, 0) := by
            intro j hj
            rcases (by omega : j < k ∨ j = k) with h1 | rfl
            · exact hall j h1
            · exact eq_of_beq he
          have HN := Lib.hid hn
          rw [he] at HE
          clear hall hn
          generalize A.getD k (0, 0) = kx at *
          generalize B.getD k (0, 0) = ky at *
          go_wp2
          refine wp_region_below w (by kernel_rfl) (by kernel_rfl) hbr ?_
          repeat (first
            | go_big_quiet_skip
            | (go_big_quiet_want
               first
                 | (go_big_quiet_op; go_big_quiet_on)
                 | (refine q_load 30 _ _ _ rfl rfl L1 ?_; simp only [Act.put, List.setIfInBounds_toArray, List.set_cons_zero, List.set_cons_succ]; go_big_quiet_on)
                 | (refine q_load 30 _ _ _ rfl rfl L2 ?_; simp only [Act.put, List.setIfInBounds_toArray, List.set_cons_zero, List.set_cons_succ]; go_big_quiet_on)
                 | (go_big_quiet_op; refine ⟨_, fun _ _ => rfl, ?_⟩; go_big_quiet_on)
                 | (go_big_quiet_op; apply Exists.intro; refine ⟨fun w' hw' => ?_, ?_⟩
                    · first
                      | (refine (HE.out w').mono ?_
                         rintro e w2 ⟨rfl, hb2⟩
                         exact ⟨rfl, hw'.trans (hb2.mono hw'.size)⟩)
                    go_big_quiet_on)))
          refine wpQuiet_nil ?_
          intro w2 hb2
          clear L1 L2 HE hbr
          go_wp2
          exact ⟨⟨k + 1, by omega, by go_num, HN.out, hb2⟩, by simp [intOf]; omega⟩
        | false =>
          have hne : decide (A = B) = false := by
            simp only [decide_eq_false_iff_not]
            intro e
            subst e
            simp at he
          have HD := Lib.hid hne
          rw [he] at HE
          clear hall hne
          generalize A.getD k (0, 0) = kx at *
          generalize B.getD k (0, 0) = ky at *
          go_wp2
          refine wp_region_below w (by kernel_rfl) (by kernel_rfl) hbr ?_
          repeat (first
            | go_big_quiet_skip
            | (go_big_quiet_want
               first
                 | (go_big_quiet_op; go_big_quiet_on)
                 | (refine q_load 30 _ _ _ rfl rfl L1 ?_; simp only [Act.put, List.setIfInBounds_toArray, List.set_cons_zero, List.set_cons_succ]; go_big_quiet_on)
                 | (refine q_load 30 _ _ _ rfl rfl L2 ?_; simp only [Act.put, List.setIfInBounds_toArray, List.set_cons_zero, List.set_cons_succ]; go_big_quiet_on)
                 | (go_big_quiet_op; refine ⟨_, fun _ _ => rfl, ?_⟩; go_big_quiet_on)
                 | (go_big_quiet_op; apply Exists.intro; refine ⟨fun w' hw' => ?_, ?_⟩
                    · first
                      | (refine (HE.out w').mono ?_
                         rintro e w2 ⟨rfl, hb2⟩
                         exact ⟨rfl, hw'.trans (hb2.mono hw'.size)⟩)
                    go_big_quiet_on)))
          refine wpQuiet_nil ?_
          intro w2 hb2
          clear L1 L2 HE hbr
          go_wp2
          go_ret
          exact ⟨by rw [HD.out]; rfl, hb2⟩
      · obtain rfl : k = B.length := by omega
        have he : decide (A = B) = true := by
          simp only [decide_eq_true_eq]
          apply List.ext_getElem hl
          intro i h1 h2
          have := hall i h2
          simpa [List.getD, h1, h2] using this
        have HD := Lib.hid he
        clear hall he
        go_wp2
        go_ret
        exact ⟨by rw [HD.out]; rfl, hbr⟩
  · have hne : decide (A = B) = false := by simp only [decide_eq_false_iff_not]; intro e; subst e; exact hl rfl
    have HD := Lib.hid hne
    have e0 : ¬ (A.length : Int) = (B.length : Int) := by omega
    clear hne
    go_enter Try.func20, Try.ntmps20
    go_wp2
    go_ret
    exact ⟨by rw [HD.out]; rfl, Below.refl _ _⟩
set_option maxRecDepth 100000 in
set_option maxHeartbeats 1000000 in
theorem marksteps_any (base : Nat) (v : Value) (n : Nat) (xs : List Value) (m : Int) (w : World) (h : w.ownsRow base 30 2 v n xs) (hm : 0 ≤ m ∧ m ≤ 1000000000) (hn : n ≤ 4000000) (hb0 : base ≤ w.heap.size) :
    Calls Try.prog 21 #[v, .int .i64 m] w fun e w' => e = .returned (.int .i64 (m + 2 * (n : Int))) ∧ w'.ownsRow base 30 2 v n (keyCells (marked n m)) ∧ w.grownBy w' v.ownBlock := by
  rcases ownsRowK_shape h with ⟨rfl, rfl⟩ | ⟨g, cap, rfl, hnc, hcm, hbg, hgs⟩
  · have e0 : m + 2 * ((0 : Nat) : Int) = m := by omega
    rw [e0]
    have ho : w.ownsRow base 30 2 (.slice none 0 0) 0 (keyCells (marked 0 m)) := ⟨by simp [marked, keyCells], .inl ⟨rfl, rfl⟩⟩
    go_enter Try.func21, Try.ntmps21
    go_wp2
    go_loopw [1, 5] (fun c i wr => c = .int .i64 m ∧ i = .int .i64 0 ∧ wr = w) (fun _ _ _ => 0)
    case atStart => exact ⟨rfl, rfl, rfl⟩
    case round =>
      obtain ⟨rfl, rfl, rfl⟩ := hrel
      go_wp2
      go_ret
      exact ⟨rfl, ho, World.grownBy.refl _ _⟩
  · have hxl := h.1
    go_enter Try.func21, Try.ntmps21
    go_wp2
    go_loopw [1, 5] (fun c i wr => ∃ (k : Nat) (rest : List Value), k ≤ n ∧ i = .int .i64 k ∧ c = .int .i64 (m + 2 * (k : Int)) ∧ wr.ownsRow base 30 2 (.slice (some ⟨g, 0, none⟩) n cap) n (keyCells (marked k m) ++ rest) ∧ w.grownBy wr (some g))
      (fun _ i _ => n - (intOf i).toNat)
    case atStart => exact ⟨0, xs, Nat.zero_le _, rfl, by simp, by simpa [marked, keyCells] using h, World.grownBy.refl _ _⟩
    case round =>
      obtain ⟨k, rest, hk, rfl, rfl, hown, hgr⟩ := hrel
      clear h
      by_cases hlt : k < n
      · have z0 : (0 : Int) ≤ (k : Int) := by omega
        have z1 : (k : Int) < (n : Int) := by omega
        have hkl := keyCells_len (marked k m)
        rw [marked_len] at hkl
        have hrl : rest.length = (n - k) * 2 := by
          have := hown.1
          rw [List.length_append, hkl] at this
          omega
        obtain ⟨u1, u2, rest2, rfl⟩ : ∃ u1 u2 r, rest = u1 :: u2 :: r := by
          match rest, hrl with
          | [], h => simp at h; omega
          | [_], h => simp at h; omega
          | a :: b :: r, _ => exact ⟨a, b, r, rfl⟩
        obtain ⟨s1, s2⟩ := own_cell hown (k * 2) (by omega)
        have st1 := hown.stored (k * 2) (.int .i64 (m + 2 * (k : Int)))
        obtain ⟨s3, s4⟩ := own_cell st1.1 (k * 2 + 1) (by omega)
        have st2 := st1.1.stored (k * 2 + 1) (.int .i64 (m + 2 * (k : Int) + 1))
        rw [set_mark] at st2
        have R := Lib.hid (And.intro st2.1 (grown_trans hgr (grown_trans st1.2 st2.2)))
        clear st1 st2 hown hgr hrl hkl
        go_wp2
        exact ⟨⟨k + 1, rest2, by omega, by go_num, by go_num, R.out.1, R.out.2⟩, by simp [intOf]; omega⟩
      · obtain rfl : k = n := by omega
        have hr0 : rest = [] := by
          have h1 := hown.1
          rw [List.length_append, keyCells_len, marked_len] at h1
          exact List.eq_nil_of_length_eq_zero (by omega)
        subst hr0
        rw [List.append_nil] at hown
        go_wp2
        go_ret
        exact ⟨rfl, hown, hgr⟩
set_option maxRecDepth 100000 in
set_option maxHeartbeats 1000000 in
theorem heldsteps_any (v : Value) (n : Nat) (m : Int) (w : World) (h : keysAt w v (marked n m)) (hm : 0 ≤ m ∧ m ≤ 1000000000) (hn : n ≤ 4000000) :
    Calls Try.prog 22 #[v, .int .i64 m] w fun e w' => e = .returned (.int .i64 (m + 2 * (n : Int))) ∧ w' = w := by
  obtain ⟨a, cap, rfl, hcap, hcells⟩ := h
  rw [marked_len] at hcap hcells ⊢
  go_enter Try.func22, Try.ntmps22
  go_wp2
  go_loopw [1, 5] (fun c i wr => ∃ k : Nat, k ≤ n ∧ i = .int .i64 k ∧ c = .int .i64 (m + 2 * (k : Int)) ∧ wr = w) (fun _ i _ => n - (intOf i).toNat)
  case atStart => exact ⟨0, Nat.zero_le _, rfl, by simp, rfl⟩
  case round =>
    obtain ⟨k, hk, rfl, rfl, rfl⟩ := hrel
    by_cases hlt : k < n
    · obtain ⟨g, off, rfl, hg, hcs⟩ := hcells.resolve_left (by omega)
      have z0 : (0 : Int) ≤ (k : Int) := by omega
      have z1 : (k : Int) < (n : Int) := by omega
      have hc := hcs k hlt
      rw [marked_get n m k hlt] at hc
      obtain ⟨c1, c2⟩ := hc
      clear hcs hcells
      go_wp2
      exact ⟨⟨k + 1, by omega, by go_num, by go_num, trivial⟩, by simp [intOf]; omega⟩
    · obtain rfl : k = n := by omega
      go_wp2
      go_ret
      exact ⟨rfl, rfl⟩
end Go.Proofs.Yteijgoadcpphlaa
namespace Go.Proofs.Yteijgoadcpphlaa
open Go.RowKit
set_option linter.unusedVariables false
theorem cells_own {β : Type} (B : Nat) (f : β → Array Value) (t : TypeId) : Own (fun (s : β) W => W.heap[B]? = some (.cells (f s) t (0, 0))) := by
  intro s X Y row h hg hr
  refine (hg.block B (Array.getElem?_eq_some_iff.1 h).1 (fun e => ?_)).trans h
  obtain ⟨o, ho, hc⟩ := hr B e.symm
  rw [h] at ho; cases ho; cases hc
end Go.Proofs.Yteijgoadcpphlaa
namespace Go.Proofs.Yteijgoadcpphlaa
open Go.RowKit Go.Shelf
set_option linter.unusedVariables false

def SBoxed (W : World) (B : Nat) (k : K2) : Prop := W.heap[B]? = some (.cells #[.int .i64 k.1, .int .i64 k.2] 30 (0, 0))
theorem SBoxed.lt {W : World} {B : Nat} {k : K2} (h : SBoxed W B k) : B < W.heap.size := (Array.getElem?_eq_some_iff.1 h).1
theorem SBoxed.cell0 {W : World} {B : Nat} {k : K2} (h : SBoxed W B k) : W.cell? ⟨B, 0, none⟩ = some (.int .i64 k.1) := by simp [World.cell?, show W.heap[B]? = _ from h]
theorem SBoxed.cell1 {W : World} {B : Nat} {k : K2} (h : SBoxed W B k) : W.cell? ⟨B, 1, none⟩ = some (.int .i64 k.2) := by simp [World.cell?, show W.heap[B]? = _ from h]
theorem SBoxed.new (W : World) (k : K2) : SBoxed (W.alloc (.cells #[.int .i64 k.1, .int .i64 k.2] 30)) W.heap.size k := World.alloc_heap_new W _
theorem SBoxed.kept {W W' : World} {row : Option Nat} {B : Nat} {k : K2} (h : SBoxed W B k) (hg : W.grownBy W' row) (hne : some B ≠ row) : SBoxed W' B k := (hg.block B h.lt hne).trans h
theorem SBoxed.alloc {W : World} {B : Nat} {k : K2} (h : SBoxed W B k) (o : Obj) : SBoxed (W.alloc o) B k := h.kept (World.grownBy_alloc W o none) (by simp)
theorem SBoxed.load {w : World} {B : Nat} {k : K2} (h : SBoxed w B k) : (loadVar 30 ⟨B, 0, none⟩).run Try.prog w = .ok (kv k) w := step_load (o := 0) ⟨h.cell0, h.cell1⟩ h.lt (Below.refl _ _)
theorem SBoxed.set {w : World} {B : Nat} {k : K2} (k' : K2) (h : SBoxed w B k) : SBoxed ((w.setCell ⟨B, 0, none⟩ (.int .i64 k'.1)).setCell ⟨B, 1, none⟩ (.int .i64 k'.2)) B k' :=
  set_cells _ (set_cells _ h)
theorem slice_tail_st (g o n c : Nat) (hc : n + 1 ≤ c) (h63 : n ≤ 9000000) : ∃ o', ((c - 1 = 0 ∧ o' = o) ∨ o' = o + 2) ∧ ∀ w : World, (Instr.slice 24 (.slice (some ⟨g, o, none⟩) (n + 1) c) (some (.int .i64 1)) none none).run Try.prog w = .ok (.slice (some ⟨g, o', none⟩) n (c - 1)) w := by
  have u := Try.underlying24
  obtain ⟨i0, hi, hz0, hz1, hz2⟩ := info_parts infoSt
  by_cases h : c = 1
  · subst h
    obtain rfl : n = 0 := by omega
    exact ⟨o, .inl ⟨rfl, rfl⟩, fun w => by go_simp⟩
  · refine ⟨o + 2, .inr rfl, fun w => ?_⟩
    have h1 : ¬ c - 1 = 0 := by omega
    have h2 : (1 : Int) ≤ (n : Int) + 1 := by omega
    have h3 : (n : Int) + 1 ≤ (c : Int) := by omega
    go_simp
theorem sboxed_own {β : Type} (B : Nat) (f : β → K2) : Own (fun (s : β) W => SBoxed W B (f s)) := cells_own B (fun s => #[.int .i64 (f s).1, .int .i64 (f s).2]) 30
theorem len_st {v : Value} {L : Nat} (h : ∃ va vc, v = .slice va L vc) (ty : TypeId) (w : World) : (Builtin.len_ #[24] ty #[v]).run Try.prog w = .ok (.int .i64 L) w := by
  obtain ⟨va, vc, rfl⟩ := h
  exact run_len_slice w 24 ty va L vc (by kernel_rfl)
theorem idx_st {v : Value} {gg L cap : Nat} (h : v = .slice (some ⟨gg, 0, none⟩) L cap) (i : Nat) (hi : i < L) (z : Int) (hz : z = i) (w : World) :
    (Instr.indexAt 24 v (.int .i64 z)).run Try.prog w = .ok (.pointer (some ⟨gg, i * 2, none⟩)) w := by
  obtain ⟨i0, h1, h2, h3, h4⟩ := info_parts infoSt
  have he : Try.prog.elem 24 = 30 := by kernel_rfl
  subst h; subst hz
  rw [run_indexAt_slice w 24 _ _ _ _ _ (by kernel_rfl), if_pos ⟨by omega, by omega⟩, he]
  simp [sizeOf, typeInfo, h1, h3, Result.andThen, Addr.add]
  omega
theorem load_oneQ {t : TypeId} {w : World} {p : Addr} {v : Value} (ht : ∀ w, (isAgg t).run Try.prog w = .ok false w) (h : w.cell? p = some v) : (loadVar t p).run Try.prog w = .ok v w := by
  unfold loadVar
  simp only [Sem.run_bind, ht, Result.andThen_ok]
  rw [if_neg (by simp)]
  simp [h]
theorem sint_load {w : World} {p : Addr} {z : Int} (h : w.cell? p = some (.int .i64 z)) : (loadVar 3 p).run Try.prog w = .ok (.int .i64 z) w := load_oneQ (fun w => by simp [isAgg, underlying, Try.underlying3]) h
theorem sbool_load {w : World} {b : Nat} {x : Bool} (h : w.heap[b]? = some (.cells #[.bool x] 4 (0, 0))) : (loadVar 4 ⟨b, 0, none⟩).run Try.prog w = .ok (.bool x) w :=
  load_oneQ (fun w => by simp [isAgg, underlying, Try.underlying4]) (by rw [cell_of_row _ _ 0 _ _ _ h]; rfl)
end Go.Proofs.Yteijgoadcpphlaa
namespace Go.Proofs.Yteijgoadcpphlaa
open Go.RowKit Go.Shelf
attribute [local go_sem] Oper.semAt_some
set_option linter.unusedVariables false

set_option maxRecDepth 100000 in
set_option maxHeartbeats 1000000 in
/-- the iterator's closure: every key, in order, or as far as the round says -/
theorem stin_in (n l Bn n₀ : Nat) (v : Value) (ks : List K2) (hs : ks.length ≤ 8000000) (hn : 1 ≤ n) (J Jx : List K2 → World → Prop)
    (hJ : ∀ s W W', J s W → W.grownBy W' none → J s W')
    (hY : ∀ pre x W, J pre W → pre.length < ks.length → YieldAt Fence.wide (n - 1) Try.prog l #[kv x] W fun e W' =>
      (e = .returned (.bool true) ∧ J (pre ++ [x]) W' ∧ Below n₀ W W') ∨ (e = .returned (.bool false) ∧ Jx (pre ++ [x]) W'))
    (W : World) (hBn : W.cell? ⟨Bn, 0, none⟩ = some v) (hk : keysIn0 n₀ W v ks) (hn₀ : n₀ ≤ W.heap.size) (h0 : J [] W) :
    CallsIn Fence.wide n Try.prog 35 #[.func (.yield l) #[] #[], .pointer (some ⟨Bn, 0, none⟩)] W fun e W' => (∃ v, e = .returned v) ∧
      ((∃ ys : List K2, ys = ks ∧ J ys W') ∨ (∃ pre : List K2, pre <+: ks ∧ Jx pre W')) := by
  refine callsIn_of_wp Try.func35 rfl trivial ?_ rfl
  simp only [Try.ntmps35, List.size_toArray, List.length_cons, List.length_nil, Nat.reduceAdd, Nat.reduceSub, Array.replicate_succ, Array.replicate_zero, List.push_toArray, List.append_toArray, List.nil_append, List.cons_append]
  obtain ⟨a, cap, rfl, hcap, hcells⟩ := id hk
  gi_wp2
  gi_loopw [7] (fun p wr => ∃ (k : Nat), p = .int .i64 k ∧ k ≤ ks.length ∧ keysIn0 n₀ wr (.slice a ks.length cap) ks ∧ n₀ ≤ wr.heap.size ∧ J (ks.take k) wr)
    (fun p wr => ks.length + 1 - (intOf p).toNat)
  case atStart => exact ⟨0, rfl, Nat.zero_le _, hk, hn₀, h0⟩
  case round =>
    obtain ⟨k, rfl, hk1, hkw, hnw, hJs⟩ := hrel
    by_cases hlt : k < ks.length
    · have hkw' := hkw
      obtain ⟨a2, cap2, hv2, _, hcs⟩ := hkw
      cases hv2
      obtain ⟨g, off, rfl, hg0, hg, hcs⟩ := hcs.resolve_left (by omega)
      have c1 := hcs k hlt
      have C1 := c1.1
      have C2 := c1.2
      have hks : ks.take (k + 1) = ks.take k ++ [ks.getD k (0, 0)] := by rw [List.take_add_one]; simp [List.getD, hlt]
      have hlen : (ks.take k).length < ks.length := by simp; omega
      have z0 : (0 : Int) ≤ (k : Int) := by omega
      have z1 : (k : Int) < (ks.length : Int) := by omega
      clear hcs c1 hcells
      generalize ks.getD k (0, 0) = kx at *
      obtain ⟨p, q⟩ := kx
      have HKS := Lib.hid hks; clear hks
      dsimp only at C1 C2
      have hJa : J (ks.take k) ((wr.alloc (.cells #[.int .i64 p, .int .i64 q] 30))) := hJ _ _ _ hJs (World.grownBy_alloc wr _ none)
      have hka : keysIn0 n₀ (wr.alloc (.cells #[.int .i64 p, .int .i64 q] 30)) (.slice (some ⟨g, off, none⟩) ks.length cap) ks := hkw'.below ((Below.refl _ _).alloc hnw _)
      have hsa : n₀ ≤ (wr.alloc (.cells #[.int .i64 p, .int .i64 q] 30)).heap.size := by simp; omega
      obtain ⟨fn, tmps, assign, body, hy, hR⟩ := hY (ks.take k) (p, q) _ hJa hlen
      unfold kv at hy
      dsimp only at hy
      clear hY hJa
      gi_wp2
      refine hR.mono ?_
      rintro e W3 (⟨rfl, hJ3, hk3⟩ | ⟨rfl, hJx3⟩)
      · have hk3' := hka.below hk3
        have hsz3 := Nat.le_trans hsa hk3.size
        rw [← HKS.out] at hJ3
        clear hka hsa hkw' C1 C2
        gi_wp2
        exact ⟨⟨k + 1, by go_num, by omega, hk3', hsz3, hJ3⟩, by simp [intOf]; omega⟩
      · rw [← HKS.out] at hJx3
        clear hka hsa hkw' C1 C2
        gi_wp2
        refine bodyPost_ret (results_none rfl _ _ _) rfl ?_
        exact ⟨⟨_, rfl⟩, .inr ⟨_, List.take_prefix _ _, hJx3⟩⟩
    · obtain rfl : k = ks.length := by omega
      rw [List.take_length] at hJs
      gi_wp2
      go_end0
      exact ⟨⟨_, rfl⟩, .inl ⟨_, rfl, hJs⟩⟩

theorem stin_any (a : Option Addr) (n c : Nat) (w : World) :
    Calls Try.prog 26 #[.slice a n c] w fun e w' => e = .returned (.func (.func 35) #[] #[.pointer (some ⟨w.heap.size, 0, none⟩)]) ∧ w' = w.alloc (.cells #[.slice a n c] 24) := by
  go_enter Try.func26, Try.ntmps26
  go_wp2
  go_ret
  exact ⟨rfl, rfl⟩

theorem stin_stops (n Bn n₀ : Nat) (v : Value) (ks : List K2) (hs : ks.length ≤ 8000000) (hn : 1 ≤ n) (w : World) (hBn : Bn < w.heap.size) (hn₀ : n₀ ≤ w.heap.size) (hc : w.cell? ⟨Bn, 0, none⟩ = some v) (hk : keysIn0 n₀ w v ks) :
    SeqStopsK Fence.wide n Try.prog 35 #[.pointer (some ⟨Bn, 0, none⟩)] (fun x : K2 => #[kv x]) (Below n₀) (fun ys => ys = ks) (fun pre => pre <+: ks) ks.length w :=
  fun l J Jx W hW hJ _ hY h0 => stin_in n l Bn n₀ v ks hs hn J Jx (fun s A B h hg => hJ s A B none h hg (fun r e => by cases e)) hY W ((hW.cell (p := ⟨Bn, 0, none⟩) hBn).trans hc) (hk.below (hW.mono hn₀)) (Nat.le_trans hn₀ hW.size) h0
end Go.Proofs.Yteijgoadcpphlaa
namespace Go.Proofs.Yteijgoadcpphlaa
open Go.ChangeShapes Go.WideShapes Go.ChangeAt Go.RowKit Go.BigFrame Go.Shelf
attribute [local go_sem] Oper.semAt_some
set_option linter.unusedVariables false

set_option maxRecDepth 100000 in
set_option maxHeartbeats 2000000 in
theorem ifollows_any (a b : K2) (w : World) : Calls Try.prog 27 #[kv a, kv b] w fun e w' => e = .returned (.bool (folB a b)) ∧ Below w.heap.size w w' := by
  obtain ⟨p, q⟩ := a
  obtain ⟨r, s⟩ := b
  have hB : ∀ o o', Below w.heap.size w ((w.alloc o).alloc o') := fun o o' => ((Below.refl _ _).alloc (Nat.le_refl _) _).alloc (by simp) _
  by_cases h0 : p < r
  · skip
    by_cases h1 : r ≤ 1000000
    · skip
      by_cases h2 : q < s
      · skip
        by_cases h3 : s ≤ 6
        · skip
          have he : folB (p, q) (r, s) = true := by simp [folB]; omega
          rw [he]
          have HB := Lib.hid hB
          clear hB he
          unfold kv
          dsimp only
          go_enter Try.func27, Try.ntmps27
          go_wp2
          go_ret
          exact ⟨rfl, HB.out _ _⟩
        · skip
          have he : folB (p, q) (r, s) = false := by simp [folB]; omega
          rw [he]
          have HB := Lib.hid hB
          clear hB he
          unfold kv
          dsimp only
          go_enter Try.func27, Try.ntmps27
          go_wp2
          go_ret
          exact ⟨rfl, HB.out _ _⟩
      · skip
        have he : folB (p, q) (r, s) = false := by simp [folB]; omega
        rw [he]
        have HB := Lib.hid hB
        clear hB he
        unfold kv
        dsimp only
        go_enter Try.func27, Try.ntmps27
        go_wp2
        go_ret
        exact ⟨rfl, HB.out _ _⟩
    · skip
      have he : folB (p, q) (r, s) = false := by simp [folB]; omega
      rw [he]
      have HB := Lib.hid hB
      clear hB he
      unfold kv
      dsimp only
      go_enter Try.func27, Try.ntmps27
      go_wp2
      go_ret
      exact ⟨rfl, HB.out _ _⟩
  · skip
    have he : folB (p, q) (r, s) = false := by simp [folB]; omega
    rw [he]
    have HB := Lib.hid hB
    clear hB he
    unfold kv
    dsimp only
    go_enter Try.func27, Try.ntmps27
    go_wp2
    go_ret
    exact ⟨rfl, HB.out _ _⟩
set_option maxRecDepth 100000 in
set_option maxHeartbeats 2000000 in
theorem iplanok_any (v : Value) (ks : List K2) (w : World) (h : keysAt w v ks) (hs : ks.length ≤ 2000000) : Calls Try.prog 12 #[v] w fun e w' => e = .returned (.bool (plnB ks)) ∧ Below w.heap.size w w' := by
  have hk0 := keysIn0_of h
  obtain ⟨a, cap, rfl, hcap, hcells⟩ := h
  have rR := heap_alloc_new w (.cells #[.bool false] 4)
  have hb1 := (Below.refl w.heap.size w).alloc (Nat.le_refl _) (.cells #[.bool false] 4)
  cases ks with
  | nil =>
    have l3 := Lib.hid (sbool_load rR)
    have HB := Lib.hid hb1
    clear rR hb1 hcells hk0
    go_enter Try.func12, Try.ntmps12
    go_wp2_with fail
    refine bodyPost_ret (v := .bool false) ?_ rfl ⟨rfl, HB.out⟩
    rw [results_cell (p := 2) (ty := 4) (by kernel_rfl)]
    have l2 := l3.out
    simp [asAddr, Result.andThen, l2]
  | cons x r =>
    obtain ⟨g, off, rfl, hg, hcs⟩ := hcells.resolve_left (by simp)
    have c0 := hcs 0 (by simp)
    obtain ⟨p, q⟩ := x
    have C0 : w.cell? ⟨g, off, none⟩ = some (.int .i64 p) := by simpa using c0.1
    have C1 : w.cell? ⟨g, off + 1, none⟩ = some (.int .i64 q) := by simpa using c0.2
    have hlen : ((p, q) :: r).length = r.length + 1 := rfl
    rw [hlen] at hcap hk0 hs ⊢
    have hne := fun w => step_neq (p, q) (0, 1) w
    have hgu := fun op x y w => step_guard op x y (p, q) (0, 1) w
    unfold kv at hne hgu
    dsimp only at hne hgu
    have z1 : (0 : Int) < (r.length : Int) + 1 := by omega
    have z2 : ¬ ((r.length : Int) + 1 = 0) := by omega
    clear c0 hcs hcells
    cases hx : ((p, q) == (0, 1)) with
    | false =>
      rw [hx] at hne
      have HF := Lib.hid (show plnB ((p, q) :: r) = false by show ((p, q) == (0, 1) && chainB (p, q) r) = false; rw [hx]; rfl)
      have l3 := Lib.hid (sbool_load rR)
      have HB := Lib.hid hb1
      have D0 : (w.alloc (.cells #[.bool false] 4)).cell? ⟨g, off, none⟩ = some (.int .i64 p) := by rw [hb1.cell (p := ⟨g, off, none⟩) hg]; exact C0
      have D1 : (w.alloc (.cells #[.bool false] 4)).cell? ⟨g, off + 1, none⟩ = some (.int .i64 q) := by rw [hb1.cell (p := ⟨g, off + 1, none⟩) hg]; exact C1
      clear hx rR hb1 hk0 C0 C1
      go_enter Try.func12, Try.ntmps12
      go_wp2_with fail
      refine bodyPost_ret (v := .bool false) ?_ rfl ⟨by rw [HF.out], HB.out⟩
      rw [results_cell (p := 2) (ty := 4) (by kernel_rfl)]
      have l2 := l3.out
      simp [asAddr, Result.andThen, l2]
    | true =>
      obtain ⟨rfl, rfl⟩ : p = 0 ∧ q = 1 := by simpa using hx
      have HP := Lib.hid (show plnB ((0, 1) :: r) = chainB (0, 1) r by show ((0, 1) == (0, 1) && chainB (0, 1) r) = _; simp)
      rw [hx] at hne
      obtain ⟨o', ho', hsl⟩ := slice_tail_st g off r.length cap hcap (by omega)
      have kr := keysIn0_tail2 hk0 hcap ho'
      have hb2 := hb1.alloc hb1.size (.cells #[.int .i64 0, .int .i64 1] 30)
      have rX := SBoxed.new (w.alloc (.cells #[.bool false] 4)) (0, 1)
      have rR2 := (Below.heap_alloc (w.alloc (.cells #[.bool false] 4)) (.cells #[.int .i64 0, .int .i64 1] 30) _ (by simp)).trans rR
      rw [show (w.alloc (.cells #[.bool false] 4)).heap.size = w.heap.size + 1 by simp] at rX
      have hsz2 : ((w.alloc (.cells #[.bool false] 4)).alloc (.cells #[.int .i64 0, .int .i64 1] 30)).heap.size = w.heap.size + 2 := by simp
      have D0 : (w.alloc (.cells #[.bool false] 4)).cell? ⟨g, off, none⟩ = some (.int .i64 0) := by rw [hb1.cell (p := ⟨g, off, none⟩) hg]; exact C0
      have D1 : (w.alloc (.cells #[.bool false] 4)).cell? ⟨g, off + 1, none⟩ = some (.int .i64 1) := by rw [hb1.cell (p := ⟨g, off + 1, none⟩) hg]; exact C1
      clear hx rR hb1 C0 C1 hk0 ho'
      refine (callsIn_wide (n := 9)).1 ?_
      refine callsIn_of_wp_marks Try.func12 rfl trivial ?_ rfl
      simp only [Try.ntmps12, List.size_toArray, List.length_cons, List.length_nil, Nat.reduceAdd, Nat.reduceSub, Array.replicate_succ, Array.replicate_zero, List.push_toArray, List.append_toArray, List.nil_append, List.cons_append]
      gi_wp2
      generalize (w.alloc (.cells #[.bool false] 4)).alloc (.cells #[.int .i64 0, .int .i64 1] 30) = W2 at *
      refine ⟨trivial, (callsIn_wide.2 (stin_any _ _ _ _)).mono ?_⟩
      rintro e w3 ⟨rfl, rfl⟩
      have bS := Boxed.new W2 24 (.slice (some ⟨g, o', none⟩) r.length (cap - 1))
      rw [hsz2] at bS
      have rR3 := (Below.heap_alloc W2 (.cells #[.slice (some ⟨g, o', none⟩) r.length (cap - 1)] 24) _ (Array.getElem?_eq_some_iff.1 rR2).1).trans rR2
      have rX3 := rX.alloc (.cells #[.slice (some ⟨g, o', none⟩) r.length (cap - 1)] 24)
      have hB0 := hb2.alloc hb2.size (.cells #[.slice (some ⟨g, o', none⟩) r.length (cap - 1)] 24)
      have hsz : (W2.alloc (.cells #[.slice (some ⟨g, o', none⟩) r.length (cap - 1)] 24)).heap.size = w.heap.size + 3 := by simp; omega
      clear rR2 rX hb2 D0 D1 hne hgu hsl
      gi_wp2
      generalize W2.alloc (.cells #[.slice (some ⟨g, o', none⟩) r.length (cap - 1)] 24) = W0 at *
      refine wpIn_rangeFunc_ownH (n := 9) rfl (by omega) (gf := 35) (lb := #[.pointer (some ⟨w.heap.size + 2, 0, none⟩)]) rfl trivial (enters_of Try.func35 (by kernel_rfl) rfl)
        (stin_stops 8 (w.heap.size + 2) w.heap.size (.slice (some ⟨g, o', none⟩) r.length (cap - 1)) r (by omega) (by omega) W0 (by omega) (by omega) bS.cell (kr.below hB0)) belowK_t (belowK_b (by omega)) (Below.refl _ _) (fun _ => rfl)
        (fun pre W => chainB (0, 1) pre = true ∧ SBoxed W (w.heap.size + 1) (lastK (0, 1) pre) ∧ W.heap[w.heap.size]? = some (.cells #[.bool false] 4 (0, 0)) ∧ Below w.heap.size w W)
        (fun c pre W => (c = .ret ∧ chainB (0, 1) pre = false) ∧ W.heap[w.heap.size]? = some (.cells #[.bool false] 4 (0, 0)) ∧ Below w.heap.size w W)
        (OwnFrom.and (ownFrom_pure _ (fun pre : List K2 => chainB (0, 1) pre = true)) (OwnFrom.and (Own.from (sboxed_own (w.heap.size + 1) (fun pre : List K2 => lastK (0, 1) pre)) _) (OwnFrom.and (Own.from (cells_own w.heap.size (fun _ => #[.bool false]) 4) _) (ownFrom_below (Nat.le_refl _) (by omega)))))
        (fun c => OwnFrom.and (ownFrom_pure _ (fun pre : List K2 => c = .ret ∧ chainB (0, 1) pre = false)) (OwnFrom.and (Own.from (cells_own w.heap.size (fun _ => #[.bool false]) 4) _) (ownFrom_below (Nat.le_refl _) (by omega))))
        ⟨rfl, rX3, rR3, hB0⟩
        (fun x a' W => ∃ Bx, w.heap.size + 1 < Bx ∧ SBoxed W Bx x ∧ a' = { tmps := #[.slice (some ⟨g, off, none⟩) (r.length + 1) cap, undef, .pointer (some ⟨w.heap.size, 0, none⟩), .pointer (some ⟨w.heap.size + 1, 0, none⟩), .pointer (some ⟨Bx, 0, none⟩), .slice (some ⟨g, off, none⟩) (r.length + 1) cap, .int .i64 ((r.length : Int) + 1), .bool false, .bool false, .slice (some ⟨g, off, none⟩) (r.length + 1) cap, .pointer (some ⟨g, off, none⟩), .agg #[.int .i64 0, .int .i64 1], .agg #[.int .i64 0, .int .i64 1], .bool false, .bool false, .slice (some ⟨g, off, none⟩) (r.length + 1) cap, .pointer (some ⟨g, off, none⟩), .agg #[.int .i64 0, .int .i64 1], .slice (some ⟨g, off, none⟩) (r.length + 1) cap, .slice (some ⟨g, o', none⟩) r.length (cap - 1), .func (.func 35) #[] #[.pointer (some ⟨w.heap.size + 2, 0, none⟩)], kv x, undef, undef, undef, undef, undef], defers := [] })
        (fun x a' _ X Y row hs hg hr => by
          obtain ⟨Bx, e1, e2, e4⟩ := hs
          exact ⟨Bx, e1, sboxed_own Bx (fun _ : Unit => x) () X Y row e2 hg (fun r e => (hr r e).2), e4⟩)
        ?assign ?body ?done ?stop
      case assign =>
        rintro l pre ⟨p, q⟩ W K ⟨hch, hX, hR, hB⟩ hK
        unfold kv at *
        dsimp only at *
        gi_wp2
        exact hK _ _ ((KeepsOthers.alloc _ _).from _) ((Below.refl _ W).alloc hB.size _) ⟨hch, hX.alloc _, (Below.heap_alloc _ _ _ (Array.getElem?_eq_some_iff.1 hR).1).trans hR, hB.alloc hB.size _⟩ ⟨W.heap.size, hX.lt, SBoxed.new W (p, q), rfl⟩
      case body =>
        rintro l pre ⟨p, q⟩ a' W hl ⟨rr, hr⟩ ⟨hch, hX, hR, hB⟩ ⟨Bx, hBx, bX, rfl⟩ hlt
        have HSN := Lib.hid (chain_snoc pre (0, 1) (p, q))
        have HLS := Lib.hid (lastK_snoc (0, 1) pre (p, q))
        rw [hch] at HSN
        generalize lastK (0, 1) pre = A at *
        obtain ⟨pa, qa⟩ := A
        have HF := Lib.hid (fun w => ifollows_any (pa, qa) (p, q) w)
        have hsW := hB.size
        have hne1 : w.heap.size + 1 ≠ Bx := by omega
        have x0 := hX.cell0
        have x1 := hX.cell1
        have y0 := bX.cell0
        have y1 := bX.cell1
        unfold kv at *
        dsimp only at *
        cases hf : folB (pa, qa) (p, q) with
        | false =>
          rw [hf] at HF HSN
          gi_wp2
          refine ⟨trivial, (CallsIn.inRound l (callsIn_wide.2 (HF.out _))).mono ?_⟩
          rintro e W1 ⟨rfl, hb⟩
          have g1 := grown_of_below' hb none
          have HRE := (hb.block _ (Array.getElem?_eq_some_iff.1 hR).1).trans hR
          have HR2 := Lib.hid (show (W1.setCell ⟨w.heap.size, 0, none⟩ (.bool false)).heap[w.heap.size]? = some (.cells #[.bool false] 4 (0, 0)) from set_cells (.bool false) HRE)
          have HB2 := Lib.hid ((hB.trans (hb.mono hsW)).setCell (p := ⟨w.heap.size, 0, none⟩) (Nat.le_refl _) (.bool false))
          have HK2 := Lib.hid ((KeepsOthers.of_grownBy g1 (fun j o e => by cases e) : KeepsOthers W W1).trans (KeepsOthers.setCell W1 ⟨w.heap.size, 0, none⟩ (.bool false)))
          have e0 : W1.cell? ⟨w.heap.size, 0, none⟩ = some (.bool false) := by rw [cell_of_row _ _ 0 _ _ _ HRE]; rfl
          have ef : W1.frozen? ⟨w.heap.size, 0, none⟩ = false := by simp [World.frozen?, HRE]
          have el := (Array.getElem?_eq_some_iff.1 HRE).1
          clear hR hX bX hb g1 hB HRE x0 x1 y0 y1 hr
          gi_wp2
          exact ⟨HK2.out.from _, ⟨rfl, by rw [HSN.out]; rfl⟩, HR2.out, HB2.out⟩
        | true =>
          rw [hf] at HF HSN
          gi_wp2
          refine ⟨trivial, (CallsIn.inRound l (callsIn_wide.2 (HF.out _))).mono ?_⟩
          rintro e W1 ⟨rfl, hb⟩
          have g1 := grown_of_below' hb none
          have HRE := (hb.block _ (Array.getElem?_eq_some_iff.1 hR).1).trans hR
          have hX1 := hX.kept g1 (by simp)
          have bX1 := bX.kept g1 (by simp)
          have HX2 := Lib.hid (SBoxed.set (p, q) hX1)
          have HBW := hB.trans (hb.mono hsW)
          have HB2 := Lib.hid ((HBW.setCell (p := ⟨w.heap.size + 1, 0, none⟩) (by simp only []; omega) (.int .i64 p)).setCell (p := ⟨w.heap.size + 1, 1, none⟩) (by simp only []; omega) (.int .i64 q))
          have HBP2 := Lib.hid (((hb.mono hsW).setCell (p := ⟨w.heap.size + 1, 0, none⟩) (by simp only []; omega) (.int .i64 p)).setCell (p := ⟨w.heap.size + 1, 1, none⟩) (by simp only []; omega) (.int .i64 q))
          have HK2 := Lib.hid (((KeepsOthers.of_grownBy g1 (fun j o e => by cases e) : KeepsOthers W W1).trans (KeepsOthers.setCell W1 ⟨w.heap.size + 1, 0, none⟩ (.int .i64 p))).trans (KeepsOthers.setCell (W1.setCell ⟨w.heap.size + 1, 0, none⟩ (.int .i64 p)) ⟨w.heap.size + 1, 1, none⟩ (.int .i64 q)))
          have HR2 := Lib.hid ((Below.heap_setCell (W1.setCell ⟨w.heap.size + 1, 0, none⟩ (.int .i64 p)) ⟨w.heap.size + 1, 1, none⟩ (.int .i64 q) w.heap.size (by simp only []; omega)).trans ((Below.heap_setCell W1 ⟨w.heap.size + 1, 0, none⟩ (.int .i64 p) w.heap.size (by simp only []; omega)).trans HRE))
          have x0 := hX1.cell0
          have x1 := hX1.cell1
          have y0 := bX1.cell0
          have y1 := bX1.cell1
          have f0 : W1.frozen? ⟨w.heap.size + 1, 0, none⟩ = false := by simp [World.frozen?, show W1.heap[w.heap.size + 1]? = _ from hX1]
          have f1 : W1.frozen? ⟨w.heap.size + 1, 1, none⟩ = false := by simp [World.frozen?, show W1.heap[w.heap.size + 1]? = _ from hX1]
          have el := hX1.lt
          dsimp only at x0 x1 y0 y1 HX2
          clear hR hX bX hb g1 hB HRE hr hX1 bX1 HBW
          gi_wp2
          exact ⟨HK2.out.from _, HBP2.out, by rw [HSN.out]; rfl, by rw [HLS.out]; exact HX2.out, HR2.out, HB2.out⟩
      case done =>
        rintro D ys W hD hys ⟨hch, hX, hR, hB⟩ hK
        subst hys
        have HR2 := Lib.hid (show (W.setCell ⟨w.heap.size, 0, none⟩ (.bool true)).heap[w.heap.size]? = some (.cells #[.bool true] 4 (0, 0)) from set_cells (.bool true) hR)
        have HK2 := Lib.hid ((Below.heap_setCell W ⟨w.heap.size, 0, none⟩ (.bool true) D (by simp only []; omega)).trans hK)
        have HB2 := Lib.hid (hB.setCell (p := ⟨w.heap.size, 0, none⟩) (Nat.le_refl _) (.bool true))
        have e0 : W.cell? ⟨w.heap.size, 0, none⟩ = some (.bool false) := by rw [cell_of_row _ _ 0 _ _ _ hR]; rfl
        have ef : W.frozen? ⟨w.heap.size, 0, none⟩ = false := by simp [World.frozen?, hR]
        have el := (Array.getElem?_eq_some_iff.1 hR).1
        clear hR hX hB hK
        gi_wp2
        try rw [Exit.noGoto_ret]
        refine ⟨by simp, .inl ⟨_, _, rfl, run_takeDeferred HK2.out, ?_⟩⟩
        have hR3 := (World.putObj_heap_other (w := W.setCell ⟨w.heap.size, 0, none⟩ (.bool true)) (r := D) (o := .deferred none) (show w.heap.size ≠ D by omega)).trans HR2.out
        have l3 := sbool_load hR3
        refine ⟨.bool true, ?_, by rw [HP.out, hch], HB2.out.trans (belowK_b (w := w) (Nat.le_refl _) _ D _ _ (by omega) HK2.out rfl rfl)⟩
        rw [results_cell (p := 2) (ty := 4) (by kernel_rfl)]
        simp [asAddr, Result.andThen, l3]
      case stop =>
        rintro D c pre W hD hpre ⟨⟨rfl, hno⟩, hR, hB⟩ hK
        gi_wp2
        try rw [Exit.noGoto_ret]
        refine ⟨by simp, .inl ⟨_, _, rfl, run_takeDeferred hK, ?_⟩⟩
        have hR3 := (World.putObj_heap_other (w := W) (r := D) (o := .deferred none) (show w.heap.size ≠ D by omega)).trans hR
        have l3 := sbool_load hR3
        refine ⟨.bool false, ?_, by rw [HP.out, chain_pre hpre hno], hB.trans (belowK_b (w := w) (Nat.le_refl _) W D _ _ (by omega) hK rfl rfl)⟩
        rw [results_cell (p := 2) (ty := 4) (by kernel_rfl)]
        simp [asAddr, Result.andThen, l3]
end Go.Proofs.Yteijgoadcpphlaa
namespace Go.Proofs.Yteijgoadcpphlaa
open Go.ChangeShapes Go.WideShapes Go.ChangeAt Go.RowKit Go.BigFrame Go.Shelf
attribute [local go_sem] Oper.semAt_some
set_option linter.unusedVariables false

set_option maxRecDepth 100000 in
set_option maxHeartbeats 2000000 in
theorem idegreeat_any (v : Value) (ks : List K2) (now : Int) (w : World) (h : keysAt w v ks) (hs : ks.length ≤ 2000000) : Calls Try.prog 10 #[v, .int .i64 now] w fun e w' => e = .returned (.int .i64 (degV ks now)) ∧ Below w.heap.size w w' := by
  have HP := Lib.hid (fun w' hb => iplanok_any v ks w' (keysAt_below h hb) hs)
  have hk0 := keysIn0_of h
  obtain ⟨a, cap, rfl, hcap, hcells⟩ := h
  clear hcells
  have bN := Boxed.new w 3 (.int .i64 now)
  have hb1 := (Below.refl w.heap.size w).alloc (Nat.le_refl _) (.cells #[.int .i64 now] 3)
  have bD := Boxed.new (w.alloc (.cells #[.int .i64 now] 3)) 3 (.int .i64 1)
  rw [show (w.alloc (.cells #[.int .i64 now] 3)).heap.size = w.heap.size + 1 by simp] at bD
  have bN2 := bN.alloc (.cells #[.int .i64 1] 3)
  have hb2 := hb1.alloc hb1.size (.cells #[.int .i64 1] 3)
  have hsz2 : ((w.alloc (.cells #[.int .i64 now] 3)).alloc (.cells #[.int .i64 1] 3)).heap.size = w.heap.size + 2 := by simp
  have HC := Lib.hid (HP.out _ hb2)
  clear bN hb1 HP
  cases hp : plnB ks with
  | false =>
    rw [hp] at HC
    have HF := Lib.hid (show degV ks now = 1 by unfold degV; rw [hp]; rfl)
    clear hp bN2 hk0
    go_enter Try.func10, Try.ntmps10
    go_wp2_with fail
    refine HC.out.mono ?_
    rintro e w3 ⟨rfl, hbx⟩
    have hb3 := hb2.trans (hbx.mono hb2.size)
    have c1 := (bD.kept (grown_of_below' hbx none) (by simp)).cell
    clear hbx hb2 bD HC hsz2
    go_wp2
    go_ret
    exact ⟨by rw [HF.out]; rfl, hb3⟩
  | true =>
    rw [hp] at HC
    have HF := Lib.hid (show degV ks now = degS ks now by unfold degV; rw [hp]; rfl)
    have HPL := Lib.hid hp
    clear hp
    refine (callsIn_wide (n := 9)).1 ?_
    refine callsIn_of_wp_marks Try.func10 rfl trivial ?_ rfl
    simp only [Try.ntmps10, List.size_toArray, List.length_cons, List.length_nil, Nat.reduceAdd, Nat.reduceSub, Array.replicate_succ, Array.replicate_zero, List.push_toArray, List.append_toArray, List.nil_append, List.cons_append]
    gi_wp2
    generalize (w.alloc (.cells #[.int .i64 now] 3)).alloc (.cells #[.int .i64 1] 3) = W2 at *
    refine ⟨trivial, (callsIn_wide.2 HC.out).mono ?_⟩
    rintro e w3 ⟨rfl, hbx⟩
    have g0 := grown_of_below' hbx none
    have hb3 := hb2.trans (hbx.mono hb2.size)
    have bN3 := bN2.kept g0 (by simp)
    have bD3 := bD.kept g0 (by simp)
    have hs3 := hbx.size
    rw [hsz2] at hs3
    clear hbx g0 hb2 bN2 bD HC
    gi_wp2
    refine ⟨trivial, (callsIn_wide.2 (stin_any _ _ _ _)).mono ?_⟩
    rintro e w4 ⟨rfl, rfl⟩
    have bS := Boxed.new w3 24 (.slice a ks.length cap)
    have bN4 := bN3.alloc (.cells #[.slice a ks.length cap] 24)
    have bD4 := bD3.alloc (.cells #[.slice a ks.length cap] 24)
    have hB0 := hb3.alloc hb3.size (.cells #[.slice a ks.length cap] 24)
    have hsz : w3.heap.size < (w3.alloc (.cells #[.slice a ks.length cap] 24)).heap.size := by simp
    clear bN3 bD3 hb3 hsz2
    gi_wp2
    generalize w3.alloc (.cells #[.slice a ks.length cap] 24) = W0 at *
    generalize w3.heap.size = B3 at *
    refine wpIn_rangeFunc_ownH (n := 9) rfl (by omega) (gf := 35) (lb := #[.pointer (some ⟨B3, 0, none⟩)]) rfl trivial (enters_of Try.func35 (by kernel_rfl) rfl)
      (stin_stops 8 B3 w.heap.size (.slice a ks.length cap) ks (by omega) (by omega) W0 (by omega) (by omega) bS.cell (hk0.below hB0)) belowK_t (belowK_b (by omega)) (Below.refl _ _) (fun _ => rfl)
      (fun pre W => Boxed W (w.heap.size + 1) 3 (.int .i64 (degS pre now)) ∧ Boxed W w.heap.size 3 (.int .i64 now) ∧ Below w.heap.size w W)
      (fun c pre W => (c = .exit 0 ∧ ∃ q s, pre = q ++ [s] ∧ now < s.1) ∧ Boxed W (w.heap.size + 1) 3 (.int .i64 (degS pre now)) ∧ Below w.heap.size w W)
      (OwnFrom.and (Own.from (boxed_own _ _ (fun pre : List K2 => .int .i64 (degS pre now))) _) (OwnFrom.and (Own.from (boxed_own _ _ (fun _ => .int .i64 now)) _) (ownFrom_below (Nat.le_refl _) (by omega))))
      (fun c => OwnFrom.and (ownFrom_pure _ (fun pre : List K2 => c = .exit 0 ∧ ∃ q s, pre = q ++ [s] ∧ now < s.1)) (OwnFrom.and (Own.from (boxed_own _ _ (fun pre : List K2 => .int .i64 (degS pre now))) _) (ownFrom_below (Nat.le_refl _) (by omega))))
      ⟨bD4, bN4, hB0⟩
      (fun x a' W => ∃ Bx, w.heap.size + 1 < Bx ∧ SBoxed W Bx x ∧ a' = { tmps := #[.slice a ks.length cap, .int .i64 now, undef, .pointer (some ⟨w.heap.size, 0, none⟩), .int .i64 0, .pointer (some ⟨w.heap.size + 1, 0, none⟩), .pointer (some ⟨Bx, 0, none⟩), .slice a ks.length cap, .bool true, .bool false, undef, .slice a ks.length cap, .func (.func 35) #[] #[.pointer (some ⟨B3, 0, none⟩)], kv x, undef, undef, undef, undef, undef, undef, undef], defers := [] })
      (fun x a' _ X Y row hs hg hr => by
        obtain ⟨Bx, e1, e2, e4⟩ := hs
        exact ⟨Bx, e1, sboxed_own Bx (fun _ : Unit => x) () X Y row e2 hg (fun r e => (hr r e).2), e4⟩)
      ?assign ?body ?done ?stop
    case assign =>
      rintro l pre ⟨p, q⟩ W K ⟨hD, hN, hB⟩ hK
      unfold kv at *
      dsimp only at *
      gi_wp2
      exact hK _ _ ((KeepsOthers.alloc _ _).from _) ((Below.refl _ W).alloc hB.size _) ⟨hD.alloc _, hN.alloc _, hB.alloc hB.size _⟩ ⟨W.heap.size, (Array.getElem?_eq_some_iff.1 hD).1, SBoxed.new W (p, q), rfl⟩
    case body =>
      rintro l pre ⟨p, q⟩ a' W hl ⟨rr, hr⟩ ⟨hD, hN, hB⟩ ⟨Bx, hBx, bX, rfl⟩ hlt
      have HSN := Lib.hid (degS_snoc pre (p, q) now)
      generalize hDD : degS pre now = D at *
      have d0 := hD.cell
      have n0 := hN.cell
      have x0 := bX.cell0
      have x1 := bX.cell1
      unfold kv at *
      dsimp only at *
      by_cases hc : now < p
      · have HE := Lib.hid (show degS (pre ++ [(p, q)]) now = D by rw [HSN.out]; unfold degF; rw [if_neg (by simp only []; omega)])
        clear hDD
        gi_wp2
        exact ⟨(KeepsOthers.refl W).from _, ⟨rfl, pre, (p, q), rfl, hc⟩, by rw [HE.out]; exact hD, hB⟩
      · have HE := Lib.hid (show degS (pre ++ [(p, q)]) now = q by rw [HSN.out]; unfold degF; rw [if_pos (by simp only []; omega)])
        have el := (Array.getElem?_eq_some_iff.1 hD).1
        have ef : W.frozen? ⟨w.heap.size + 1, 0, none⟩ = false := by simp [World.frozen?, show W.heap[w.heap.size + 1]? = _ from hD]
        have HD2 := Lib.hid (show Boxed (W.setCell ⟨w.heap.size + 1, 0, none⟩ (.int .i64 q)) (w.heap.size + 1) 3 (.int .i64 q) from set_cells (.int .i64 q) hD)
        have HN2 := Lib.hid (show Boxed (W.setCell ⟨w.heap.size + 1, 0, none⟩ (.int .i64 q)) w.heap.size 3 (.int .i64 now) from (Below.heap_setCell W ⟨w.heap.size + 1, 0, none⟩ (.int .i64 q) w.heap.size (by simp only []; omega)).trans hN)
        have HB2 := Lib.hid (hB.setCell (p := ⟨w.heap.size + 1, 0, none⟩) (by simp only []; omega) (.int .i64 q))
        have HBP2 := Lib.hid ((Below.refl w.heap.size W).setCell (p := ⟨w.heap.size + 1, 0, none⟩) (by simp only []; omega) (.int .i64 q))
        have HK2 := Lib.hid (KeepsOthers.setCell W ⟨w.heap.size + 1, 0, none⟩ (.int .i64 q))
        clear hD hN hB bX hr hDD
        gi_wp2
        exact ⟨HK2.out.from _, HBP2.out, by rw [HE.out]; exact HD2.out, HN2.out, HB2.out⟩
    case done =>
      rintro D ys W hD hys ⟨hDg, hN, hB⟩ hK
      subst hys
      have d0 := hDg.cell
      clear hN hDg
      gi_wp2
      try rw [Exit.noGoto_ret]
      refine ⟨by simp, .inl ⟨_, _, rfl, run_takeDeferred hK, ?_⟩⟩
      exact ⟨_, results_tmp rfl _ _ _, by rw [HF.out]; rfl, hB.trans (belowK_b (w := w) (Nat.le_refl _) _ D _ _ (by omega) hK rfl rfl)⟩
    case stop =>
      rintro D c pre W hD hpre ⟨⟨rfl, q, s, hq, hs1⟩, hDg, hB⟩ hK
      have HE := Lib.hid (show degS ks now = degS pre now by
        obtain ⟨rest, hrest⟩ := hpre
        rw [hq] at hrest ⊢
        rw [degS_snoc]
        rw [deg_stop (pre := q) (s := s) (rest := rest) HPL.out (by rw [← hrest]; simp) hs1]
        unfold degF
        rw [if_neg (by omega)])
      have d0 := hDg.cell
      clear hDg hq hpre
      gi_wp2
      try rw [Exit.noGoto_ret]
      refine ⟨by simp, .inl ⟨_, _, rfl, run_takeDeferred hK, ?_⟩⟩
      exact ⟨_, results_tmp rfl _ _ _, by rw [HF.out, HE.out]; rfl, hB.trans (belowK_b (w := w) (Nat.le_refl _) _ D _ _ (by omega) hK rfl rfl)⟩
end Go.Proofs.Yteijgoadcpphlaa
namespace Go.Proofs.Yteijgoadcpphlaa
open Go.ChangeShapes Go.WideShapes Go.ChangeAt Go.RowKit Go.BigFrame
set_option linter.unusedVariables false

theorem plAll_false {ks : List K2} {k n : Nat} (hk : k < n) (h : plStep ks k = false) : (List.range n).all (plStep ks) = false := by
  rw [List.all_eq_false]
  exact ⟨k, List.mem_range.2 hk, by simp [h]⟩
theorem plAll_succ (ks : List K2) (k : Nat) : (List.range (k + 1)).all (plStep ks) = ((List.range k).all (plStep ks) && plStep ks k) := by
  rw [List.range_succ, List.all_append]
  simp
theorem build_st (a b : Int) (w : World) : (Instr.build 30 #[(0, .int .i64 a), (1, .int .i64 b)]).run Try.prog w = .ok (.agg #[.int .i64 a, .int .i64 b]) w := run_build w 30 _ _ (by kernel_rfl)
theorem build_st1 (b : Int) (w : World) : (Instr.build 30 #[(1, .int .i64 b)]).run Try.prog w = .ok (.agg #[.int .i64 0, .int .i64 b]) w := run_build w 30 _ _ (by kernel_rfl)
set_option maxRecDepth 100000 in
set_option maxHeartbeats 2000000 in
theorem splanok_any (v : Value) (ks : List K2) (w : World) (h : keysAt w v ks) (hs : ks.length ≤ 2000000) : Calls Try.prog 13 #[v] w fun e w' => e = .returned (.bool (plnB ks)) ∧ Below w.heap.size w w' := by
  obtain ⟨a, cap, rfl, hcap, hcells⟩ := h
  have HI := Lib.hid (fun w => sin_any (ks.length : Int) 1 6 w)
  by_cases hl : 1 ≤ ks.length ∧ ks.length ≤ 6
  · obtain ⟨x, r, hxr⟩ : ∃ x r, ks = x :: r := by
      cases ks with
      | nil => simp at hl
      | cons x r => exact ⟨x, r, rfl⟩
    have HPA := Lib.hid (show plnB ks = (x == (0, 1) && (List.range r.length).all (plStep ks)) by rw [hxr]; exact pln_all x r)
    have hrl : ks.length = r.length + 1 := by rw [hxr]; rfl
    obtain ⟨g, off, rfl, hg, hcs⟩ := hcells.resolve_left (by omega)
    have b1 : (decide ((1 : Int) ≤ (ks.length : Int)) && decide ((ks.length : Int) ≤ 6)) = true := by simp; omega
    rw [b1] at HI
    have c0 := hcs 0 (by omega)
    rw [show ks.getD 0 (0, 0) = x by rw [hxr]; rfl] at c0
    obtain ⟨p, q⟩ := x
    have C0 : w.cell? ⟨g, off, none⟩ = some (.int .i64 p) := by simpa using c0.1
    have C1 : w.cell? ⟨g, off + 1, none⟩ = some (.int .i64 q) := by simpa using c0.2
    have z1 : (0 : Int) < (ks.length : Int) := by omega
    have hne := fun w => step_neq (p, q) (0, 1) w
    have hgu := fun op x y w => step_guard op x y (p, q) (0, 1) w
    unfold kv at hne hgu
    dsimp only at hne hgu
    have HRL := Lib.hid hrl
    have HCS := Lib.hid hcs
    clear c0 hxr hcells hrl hcs
    cases hx : ((p, q) == (0, 1)) with
    | false =>
      rw [hx] at hne
      have HF := Lib.hid (show plnB ks = false by rw [HPA.out, hx]; rfl)
      clear hx
      go_enter Try.func13, Try.ntmps13
      go_wp2_with fail
      refine (HI.out _).mono ?_
      rintro e w1 ⟨rfl, rfl⟩
      go_wp2
      go_ret
      exact ⟨by rw [HF.out]; rfl, Below.refl _ _⟩
    | true =>
      rw [hx] at hne
      have HT := Lib.hid (show plnB ks = (List.range (ks.length - 1)).all (plStep ks) by rw [HPA.out, hx, HRL.out]; rfl)
      clear hx HPA
      go_enter Try.func13, Try.ntmps13
      go_wp2_with fail
      refine (HI.out _).mono ?_
      rintro e w1 ⟨rfl, rfl⟩
      have HL := Lib.hid hl
      clear hl HRL HI
      go_wp2
      clear hne hgu C0 C1 z1
      go_loopw [3] (fun i wr => ∃ k : Nat, 1 ≤ k ∧ k ≤ ks.length ∧ i = .int .i64 k ∧ (List.range (k - 1)).all (plStep ks) = true ∧ Below w1.heap.size w1 wr) (fun i _ => ks.length - (intOf i).toNat)
      case atStart => exact ⟨1, by omega, HL.out.1, rfl, rfl, Below.refl _ _⟩
      case round =>
        obtain ⟨k, hk1, hk, rfl, hall, hb⟩ := hrel
        by_cases hlt : k < ks.length
        · have cA := HCS.out (k - 1) (by omega)
          have cB := HCS.out k hlt
          have HST := Lib.hid (show plStep ks (k - 1) = folB (ks.getD (k - 1) (0, 0)) (ks.getD k (0, 0)) by unfold plStep; rw [show k - 1 + 1 = k by omega])
          generalize ks.getD (k - 1) (0, 0) = A at *
          generalize ks.getD k (0, 0) = B at *
          obtain ⟨pa, qa⟩ := A
          obtain ⟨pb, qb⟩ := B
          dsimp only at cA cB
          have LA0 : ∀ w', Below w1.heap.size w1 w' → (loadVar 3 ⟨g, off + (k - 1) * 2, none⟩).run Try.prog w' = .ok (.int .i64 pa) w' := fun w' h => sint_load (by rw [h.cell (p := ⟨g, off + (k - 1) * 2, none⟩) hg]; exact cA.1)
          have LA1 : ∀ w', Below w1.heap.size w1 w' → (loadVar 3 ⟨g, off + (k - 1) * 2 + 1, none⟩).run Try.prog w' = .ok (.int .i64 qa) w' := fun w' h => sint_load (by rw [h.cell (p := ⟨g, off + (k - 1) * 2 + 1, none⟩) hg]; exact cA.2)
          have LB0 : ∀ w', Below w1.heap.size w1 w' → (loadVar 3 ⟨g, off + k * 2, none⟩).run Try.prog w' = .ok (.int .i64 pb) w' := fun w' h => sint_load (by rw [h.cell (p := ⟨g, off + k * 2, none⟩) hg]; exact cB.1)
          have LB1 : ∀ w', Below w1.heap.size w1 w' → (loadVar 3 ⟨g, off + k * 2 + 1, none⟩).run Try.prog w' = .ok (.int .i64 qb) w' := fun w' h => sint_load (by rw [h.cell (p := ⟨g, off + k * 2 + 1, none⟩) hg]; exact cB.2)
          have z0 : (0 : Int) ≤ (k : Int) := by omega
          have z1 : (k : Int) < (ks.length : Int) := by omega
          have y1 : (0 : Int) ≤ (k : Int) - 1 := by omega
          have y3 : (1 : Int) ≤ (k : Int) := by omega
          have y2 : (k : Int) - 1 < (ks.length : Int) := by omega
          have ew : IntKind.i64.wrap ((k : Int) - 1) = (k : Int) - 1 := IntWalk.i64_in _ (by omega)
          have et : ((k : Int) - 1).toNat = k - 1 := by omega
          have HA := Lib.hid hall
          have HB := Lib.hid hb
          clear cA cB hall hb
          by_cases h0 : pb ≤ pa
          · have HF := Lib.hid (show plnB ks = false by rw [HT.out]; exact plAll_false (k := k - 1) (by omega) (by rw [HST.out]; simp [folB]; omega))
            clear HA HST
            have d0 : decide (pb ≤ pa) = true := decide_eq_true h0
            go_wp2
            refine wp_region_below w1 (by kernel_rfl) (by kernel_rfl) HB.out ?_
            repeat (first
              | go_big_quiet_skip
              | (go_big_quiet_want
                 first
                   | (go_big_quiet_op; go_big_quiet_on)
                   | (refine q_load 3 _ _ _ rfl rfl LA0 ?_; simp only [Act.put, List.setIfInBounds_toArray, List.set_cons_zero, List.set_cons_succ]; go_big_quiet_on)
                   | (refine q_load 3 _ _ _ rfl rfl LA1 ?_; simp only [Act.put, List.setIfInBounds_toArray, List.set_cons_zero, List.set_cons_succ]; go_big_quiet_on)
                   | (refine q_load 3 _ _ _ rfl rfl LB0 ?_; simp only [Act.put, List.setIfInBounds_toArray, List.set_cons_zero, List.set_cons_succ]; go_big_quiet_on)
                   | (refine q_load 3 _ _ _ rfl rfl LB1 ?_; simp only [Act.put, List.setIfInBounds_toArray, List.set_cons_zero, List.set_cons_succ]; go_big_quiet_on)
                   | (go_big_quiet_op; refine ⟨_, fun _ _ => rfl, ?_⟩; go_big_quiet_on)))
            refine wpQuiet_nil ?_
            intro wq hbq
            go_wp2
            go_ret
            exact ⟨by rw [HF.out]; rfl, hbq⟩
          · have d0 : decide (pb ≤ pa) = false := decide_eq_false h0
            by_cases h1 : qb ≤ qa
            · have HF := Lib.hid (show plnB ks = false by rw [HT.out]; exact plAll_false (k := k - 1) (by omega) (by rw [HST.out]; simp [folB]; omega))
              clear HA HST
              have d1 : decide (qb ≤ qa) = true := decide_eq_true h1
              go_wp2
              refine wp_region_below w1 (by kernel_rfl) (by kernel_rfl) HB.out ?_
              repeat (first
                | go_big_quiet_skip
                | (go_big_quiet_want
                   first
                     | (go_big_quiet_op; go_big_quiet_on)
                     | (refine q_load 3 _ _ _ rfl rfl LA0 ?_; simp only [Act.put, List.setIfInBounds_toArray, List.set_cons_zero, List.set_cons_succ]; go_big_quiet_on)
                     | (refine q_load 3 _ _ _ rfl rfl LA1 ?_; simp only [Act.put, List.setIfInBounds_toArray, List.set_cons_zero, List.set_cons_succ]; go_big_quiet_on)
                     | (refine q_load 3 _ _ _ rfl rfl LB0 ?_; simp only [Act.put, List.setIfInBounds_toArray, List.set_cons_zero, List.set_cons_succ]; go_big_quiet_on)
                     | (refine q_load 3 _ _ _ rfl rfl LB1 ?_; simp only [Act.put, List.setIfInBounds_toArray, List.set_cons_zero, List.set_cons_succ]; go_big_quiet_on)
                     | (go_big_quiet_op; refine ⟨_, fun _ _ => rfl, ?_⟩; go_big_quiet_on)))
              refine wpQuiet_nil ?_
              intro wq hbq
              go_wp2
              go_ret
              exact ⟨by rw [HF.out]; rfl, hbq⟩
            · have d1 : decide (qb ≤ qa) = false := decide_eq_false h1
              by_cases h2 : 1000000 < pb
              · have HF := Lib.hid (show plnB ks = false by rw [HT.out]; exact plAll_false (k := k - 1) (by omega) (by rw [HST.out]; simp [folB]; omega))
                clear HA HST
                have d2 : decide (1000000 < pb) = true := decide_eq_true h2
                go_wp2
                refine wp_region_below w1 (by kernel_rfl) (by kernel_rfl) HB.out ?_
                repeat (first
                  | go_big_quiet_skip
                  | (go_big_quiet_want
                     first
                       | (go_big_quiet_op; go_big_quiet_on)
                       | (refine q_load 3 _ _ _ rfl rfl LA0 ?_; simp only [Act.put, List.setIfInBounds_toArray, List.set_cons_zero, List.set_cons_succ]; go_big_quiet_on)
                       | (refine q_load 3 _ _ _ rfl rfl LA1 ?_; simp only [Act.put, List.setIfInBounds_toArray, List.set_cons_zero, List.set_cons_succ]; go_big_quiet_on)
                       | (refine q_load 3 _ _ _ rfl rfl LB0 ?_; simp only [Act.put, List.setIfInBounds_toArray, List.set_cons_zero, List.set_cons_succ]; go_big_quiet_on)
                       | (refine q_load 3 _ _ _ rfl rfl LB1 ?_; simp only [Act.put, List.setIfInBounds_toArray, List.set_cons_zero, List.set_cons_succ]; go_big_quiet_on)
                       | (go_big_quiet_op; refine ⟨_, fun _ _ => rfl, ?_⟩; go_big_quiet_on)))
                refine wpQuiet_nil ?_
                intro wq hbq
                go_wp2
                go_ret
                exact ⟨by rw [HF.out]; rfl, hbq⟩
              · have d2 : decide (1000000 < pb) = false := decide_eq_false h2
                by_cases h3 : 6 < qb
                · have HF := Lib.hid (show plnB ks = false by rw [HT.out]; exact plAll_false (k := k - 1) (by omega) (by rw [HST.out]; simp [folB]; omega))
                  clear HA HST
                  have d3 : decide (6 < qb) = true := decide_eq_true h3
                  go_wp2
                  refine wp_region_below w1 (by kernel_rfl) (by kernel_rfl) HB.out ?_
                  repeat (first
                    | go_big_quiet_skip
                    | (go_big_quiet_want
                       first
                         | (go_big_quiet_op; go_big_quiet_on)
                         | (refine q_load 3 _ _ _ rfl rfl LA0 ?_; simp only [Act.put, List.setIfInBounds_toArray, List.set_cons_zero, List.set_cons_succ]; go_big_quiet_on)
                         | (refine q_load 3 _ _ _ rfl rfl LA1 ?_; simp only [Act.put, List.setIfInBounds_toArray, List.set_cons_zero, List.set_cons_succ]; go_big_quiet_on)
                         | (refine q_load 3 _ _ _ rfl rfl LB0 ?_; simp only [Act.put, List.setIfInBounds_toArray, List.set_cons_zero, List.set_cons_succ]; go_big_quiet_on)
                         | (refine q_load 3 _ _ _ rfl rfl LB1 ?_; simp only [Act.put, List.setIfInBounds_toArray, List.set_cons_zero, List.set_cons_succ]; go_big_quiet_on)
                         | (go_big_quiet_op; refine ⟨_, fun _ _ => rfl, ?_⟩; go_big_quiet_on)))
                  refine wpQuiet_nil ?_
                  intro wq hbq
                  go_wp2
                  go_ret
                  exact ⟨by rw [HF.out]; rfl, hbq⟩
                · have d3 : decide (6 < qb) = false := decide_eq_false h3
                  have HN := Lib.hid (show (List.range (k + 1 - 1)).all (plStep ks) = true by rw [show k + 1 - 1 = k - 1 + 1 by omega, plAll_succ, HA.out, HST.out]; simp [folB]; omega)
                  clear HA HST
                  go_wp2
                  refine wp_region_below w1 (by kernel_rfl) (by kernel_rfl) HB.out ?_
                  repeat (first
                    | go_big_quiet_skip
                    | (go_big_quiet_want
                       first
                         | (go_big_quiet_op; go_big_quiet_on)
                         | (refine q_load 3 _ _ _ rfl rfl LA0 ?_; simp only [Act.put, List.setIfInBounds_toArray, List.set_cons_zero, List.set_cons_succ]; go_big_quiet_on)
                         | (refine q_load 3 _ _ _ rfl rfl LA1 ?_; simp only [Act.put, List.setIfInBounds_toArray, List.set_cons_zero, List.set_cons_succ]; go_big_quiet_on)
                         | (refine q_load 3 _ _ _ rfl rfl LB0 ?_; simp only [Act.put, List.setIfInBounds_toArray, List.set_cons_zero, List.set_cons_succ]; go_big_quiet_on)
                         | (refine q_load 3 _ _ _ rfl rfl LB1 ?_; simp only [Act.put, List.setIfInBounds_toArray, List.set_cons_zero, List.set_cons_succ]; go_big_quiet_on)
                         | (go_big_quiet_op; refine ⟨_, fun _ _ => rfl, ?_⟩; go_big_quiet_on)))
                  refine wpQuiet_nil ?_
                  intro wq hbq
                  go_wp2
                  exact ⟨⟨k + 1, by omega, by omega, by go_num, HN.out, hbq⟩, by simp [intOf]; omega⟩
        · obtain rfl : k = ks.length := by omega
          have HF := Lib.hid (show plnB ks = true by rw [HT.out]; exact hall)
          go_wp2
          go_ret
          exact ⟨by rw [HF.out]; rfl, hb⟩
  · have b1 : (decide ((1 : Int) ≤ (ks.length : Int)) && decide ((ks.length : Int) ≤ 6)) = false := by
      cases h : (decide ((1 : Int) ≤ (ks.length : Int)) && decide ((ks.length : Int) ≤ 6)) with
      | false => rfl
      | true => simp at h; omega
    rw [b1] at HI
    have HF := Lib.hid (show plnB ks = false by
      cases h : plnB ks with
      | false => rfl
      | true => exact absurd (pln_len h) hl)
    clear hcells hl b1
    go_enter Try.func13, Try.ntmps13
    go_wp2_with fail
    refine (HI.out _).mono ?_
    rintro e w1 ⟨rfl, rfl⟩
    go_wp2
    go_ret
    exact ⟨by rw [HF.out]; rfl, Below.refl _ _⟩
set_option maxRecDepth 100000 in
set_option maxHeartbeats 2000000 in
theorem sdegreeat_any (v : Value) (ks : List K2) (now : Int) (w : World) (h : keysAt w v ks) (hs : ks.length ≤ 2000000) : Calls Try.prog 11 #[v, .int .i64 now] w fun e w' => e = .returned (.int .i64 (degV ks now)) ∧ Below w.heap.size w w' := by
  have HP := Lib.hid (fun w' hb => splanok_any v ks w' (keysAt_below h hb) hs)
  obtain ⟨a, cap, rfl, hcap, hcells⟩ := h
  have HCS := Lib.hid hcells
  clear hcells
  cases hp : plnB ks with
  | false =>
    rw [hp] at HP
    have HF := Lib.hid (show degV ks now = 1 by unfold degV; rw [hp]; rfl)
    clear hp
    go_enter Try.func11, Try.ntmps11
    go_wp2
    go_loopw [5, 6] (fun d i wr => d = .int .i64 1 ∧ i = .int .i64 0 ∧ Below w.heap.size w wr) (fun _ _ _ => 0)
    case atStart => exact ⟨rfl, rfl, Below.refl _ _⟩
    case round =>
      obtain ⟨rfl, rfl, hb⟩ := hrel
      by_cases hlt : 0 < ks.length
      · have z1 : (0 : Int) < (ks.length : Int) := by omega
        have HC := Lib.hid (HP.out _ hb)
        have HB := Lib.hid hb
        clear hb
        go_wp2_with fail
        refine HC.out.mono ?_
        rintro e w2 ⟨rfl, hb2⟩
        have hbq := HB.out.trans (hb2.mono HB.out.size)
        clear hb2
        go_wp2
        go_ret
        exact ⟨by rw [HF.out]; rfl, hbq⟩
      · have z1 : ¬ (0 : Int) < (ks.length : Int) := by omega
        go_wp2
        go_ret
        exact ⟨by rw [HF.out]; rfl, hb⟩
  | true =>
    rw [hp] at HP
    have HF := Lib.hid (show degV ks now = degS ks now by unfold degV; rw [hp]; rfl)
    clear hp
    go_enter Try.func11, Try.ntmps11
    go_wp2
    go_loopw [5, 6] (fun d i wr => ∃ k : Nat, k ≤ ks.length ∧ d = .int .i64 (degS (ks.take k) now) ∧ i = .int .i64 k ∧ Below w.heap.size w wr) (fun _ i _ => ks.length - (intOf i).toNat)
    case atStart => exact ⟨0, Nat.zero_le _, rfl, rfl, Below.refl _ _⟩
    case round =>
      obtain ⟨k, hk, rfl, rfl, hb⟩ := hrel
      by_cases hlt : k < ks.length
      · obtain ⟨g, off, rfl, hg, hcs⟩ := HCS.out.resolve_left (by omega)
        have cB := hcs k hlt
        have HTK := Lib.hid (show degS (ks.take (k + 1)) now = degF now (degS (ks.take k) now) (ks.getD k (0, 0)) by
          rw [List.take_succ_eq_append_getElem hlt, degS_snoc]; simp [List.getD, hlt])
        have z0 : (0 : Int) ≤ (k : Int) := by omega
        have z1 : (k : Int) < (ks.length : Int) := by omega
        have HC := Lib.hid (HP.out _ hb)
        have HB := Lib.hid hb
        clear hb hcs
        generalize ks.getD k (0, 0) = B at *
        obtain ⟨pb, qb⟩ := B
        generalize degS (ks.take k) now = D at *
        dsimp only at cB
        go_wp2_with fail
        refine HC.out.mono ?_
        rintro e w2 ⟨rfl, hb2⟩
        have hbq := HB.out.trans (hb2.mono HB.out.size)
        have b0 : w2.cell? ⟨g, off + k * 2, none⟩ = some (.int .i64 pb) := by rw [hbq.cell (p := ⟨g, off + k * 2, none⟩) hg]; exact cB.1
        have b1 : w2.cell? ⟨g, off + k * 2 + 1, none⟩ = some (.int .i64 qb) := by rw [hbq.cell (p := ⟨g, off + k * 2 + 1, none⟩) hg]; exact cB.2
        clear hb2 cB HC
        by_cases hc : pb ≤ now
        · have HD := Lib.hid (show degS (ks.take (k + 1)) now = qb by rw [HTK.out]; unfold degF; rw [if_pos hc])
          go_wp2
          exact ⟨⟨k + 1, by omega, by rw [HD.out], by go_num, hbq⟩, by simp [intOf]; omega⟩
        · have HD := Lib.hid (show degS (ks.take (k + 1)) now = D by rw [HTK.out]; unfold degF; rw [if_neg hc])
          go_wp2
          exact ⟨⟨k + 1, by omega, by rw [HD.out], by go_num, hbq⟩, by simp [intOf]; omega⟩
      · obtain rfl : k = ks.length := by omega
        rw [List.take_length] at *
        have z1 : ¬ (ks.length : Int) < (ks.length : Int) := by omega
        go_wp2
        go_ret
        exact ⟨by rw [HF.out]; rfl, hb⟩
end Go.Proofs.Yteijgoadcpphlaa
namespace Go.Proofs.Yteijgoadcpphlaa
open Go.ChangeShapes Go.WideShapes Go.ChangeAt Go.RowKit Go.BigFrame
set_option linter.unusedVariables false

set_option maxRecDepth 100000 in
set_option maxHeartbeats 2000000 in
theorem sleast_any (n d : Int) (w : World) (hn : 1 ≤ n ∧ n ≤ 100) (hd : 1 ≤ d ∧ d ≤ 5) : Calls Try.prog 31 #[.int .i64 n, .int .i64 d] w fun e w' => e = .returned (.int .i64 (d * n / (d + 1))) ∧ w' = w := by
  obtain ⟨q0, q1, q2⟩ := groQ_bd hd.1 hd.2 hn.1 hn.2
  have e1 : IntKind.i64.wrap (d + 1) = d + 1 := IntWalk.i64_in _ (by omega)
  have dn : 0 ≤ d * n ∧ d * n ≤ 500 := ⟨Int.mul_nonneg (by omega) (by omega), Int.le_trans (Int.mul_le_mul hd.2 hn.2 (by omega) (by omega)) (by decide)⟩
  have e2 : IntKind.i64.wrap (d * n) = d * n := IntWalk.i64_in _ (by omega)
  have e3 : IntKind.i64.wrap (d * n - d) = d * n - d := IntWalk.i64_in _ (by omega)
  have HI := Lib.hid (fun k : Int => @least_iff d n k hd.1 hd.2)
  generalize hq : d * n / (d + 1) = q at *
  clear hq
  go_enter Try.func31, Try.ntmps31
  go_wp2
  go_loopw [5] (fun i wr => ∃ k : Nat, (k : Int) ≤ q ∧ i = .int .i64 k ∧ wr = w) (fun i _ => 100 - (intOf i).toNat)
  case atStart => exact ⟨0, by omega, rfl, rfl⟩
  case round =>
    obtain ⟨k, hk, rfl, rfl⟩ := hrel
    have kd : 0 ≤ (k : Int) * (d + 1) ∧ (k : Int) * (d + 1) ≤ 498 := ⟨Int.mul_nonneg (by omega) (by omega), Int.le_trans (Int.mul_le_mul (show (k : Int) ≤ 83 by omega) (show d + 1 ≤ 6 by omega) (by omega) (by omega)) (by decide)⟩
    have e4 : IntKind.i64.wrap ((k : Int) * (d + 1)) = (k : Int) * (d + 1) := IntWalk.i64_in _ (by omega)
    have hi := HI.out k
    by_cases hlt : (k : Int) < q
    · have hc : (k : Int) * (d + 1) < d * n - d := hi.2 hlt
      clear hi
      go_wp2
      exact ⟨⟨k + 1, by omega, by go_num, trivial⟩, by simp [intOf]; omega⟩
    · have hc : ¬ (k : Int) * (d + 1) < d * n - d := fun h => hlt (hi.1 h)
      have HKQ := Lib.hid (show (k : Int) = q by omega)
      clear hi
      go_wp2
      go_ret
      exact ⟨by rw [← HKQ.out]; rfl, rfl⟩
theorem groF_succ (n p : Int) (f : Nat) (d a : Int) : groF n p (f + 1) d a = if a < p * (d * n / (d + 1)) ∧ p * (d * n / (d + 1)) ≤ 1000000 then (p * (d * n / (d + 1)), d + 1) :: groF n p f (d + 1) (p * (d * n / (d + 1))) else [] := rfl
theorem last_get (a : K2) : ∀ (G : List K2), (a :: G).getD G.length (0, 0) = lastK a G
  | [] => rfl
  | x :: G => by
    have h1 : lastK a (x :: G) = lastK x G := by cases G <;> simp [lastK, List.getLastD]
    rw [h1, List.length_cons, List.getD_cons_succ]
    exact last_get x G
/-- the last step's cells in a list of one's own -/
theorem last_cells {w : World} {base g L cap : Nat} {a : K2} {G : List K2} (hL : L = G.length + 1) (h : w.ownsRow base 30 2 (.slice (some ⟨g, 0, none⟩) L cap) L (keyCells (a :: G))) :
    w.cell? ⟨g, (L - 1) * 2, none⟩ = some (.int .i64 (lastK a G).1) ∧ w.cell? ⟨g, (L - 1) * 2 + 1, none⟩ = some (.int .i64 (lastK a G).2) := by
  subst hL
  have h1 := (own_cell h (G.length * 2) (by omega)).1
  have h2 := (own_cell h (G.length * 2 + 1) (by omega)).1
  have hk := keyCells_get (a :: G) G.length (by simp)
  rw [last_get] at hk
  simp only [List.getD, hk.1] at h1
  simp only [List.getD, hk.2] at h2
  exact ⟨h1, h2⟩
set_option maxRecDepth 100000 in
set_option maxHeartbeats 2000000 in
theorem sgrowth_any (n p : Int) (w : World) : Calls Try.prog 17 #[.int .i64 n, .int .i64 p] w fun e w' => ∃ v, e = .returned v ∧ w'.ownsRow w.heap.size 30 2 v (groV n p).length (keyCells (groV n p)) ∧ Below w.heap.size w w' := by
  obtain ⟨i0, hi, hz0, hz1, hz2⟩ := info_parts infoSt
  have hown0 := World.ownsRow_made (base := w.heap.size) (e := 30) (size := 2) w #[] 0 (Nat.le_refl _) (by unfold maxLen; omega) rfl
  have hb0 := (Below.refl w.heap.size w).alloc (Nat.le_refl _) (.cells #[] 30)
  have HN := Lib.hid (fun w => sin_any n 1 100 w)
  have HP := Lib.hid (fun w => sin_any p 1 1000 w)
  by_cases hn : 1 ≤ n ∧ n ≤ 100
  · have b1 : (decide (1 ≤ n) && decide (n ≤ 100)) = true := by simp; omega
    rw [b1] at HN
    by_cases hp : 1 ≤ p ∧ p ≤ 1000
    · have b2 : (decide (1 ≤ p) && decide (p ≤ 1000)) = true := by simp; omega
      rw [b2] at HP
      have hM : groV n p = (0, 1) :: groF n p 5 1 0 := by unfold groV; rw [if_pos ⟨hn, hp⟩]
      generalize groV n p = M at *
      have HM := Lib.hid hM
      have hbs := fun w => build_st1 1 w
      clear hM b1 b2
      go_enter Try.func17, Try.ntmps17
      go_wp2_with fail
      generalize w.alloc (.cells #[] 30) = W at *
      refine (HN.out _).mono ?_
      rintro e w1 ⟨rfl, rfl⟩
      go_wp2_with fail
      refine (HP.out _).mono ?_
      rintro e w2 ⟨rfl, rfl⟩
      have hns := hb0.size
      generalize Value.slice (some ⟨w.heap.size, 0, none⟩) 0 0 = v0 at *
      go_wp2_with (at_builtin; refine wpList_append_own _ rfl (.tmp 18) (.tmp 20) 24 rfl w.heap.size 30 i0 (.agg #[.int .i64 0, .int .i64 0]) 2 16 Try.underlying24 hi hz0 hz1 hz2 rfl (by decide) _ _ _ rfl (hown0.alloc _) ⟨w2.heap.size, 0, none⟩ 1 1 [.int .i64 0, .int .i64 1] rfl rfl (cell_two_new _ _ _ _) (by intro u hu; simp at hu; rcases hu with rfl | rfl <;> rfl) (by unfold maxLen; omega) (by omega) (by simp; omega) ?_; intro v' w3 hown' hgrow _)
      have HR := Lib.hid (show w3.ownsRow w.heap.size 30 2 v' 1 (keyCells [(0, 1)]) ∧ Below w.heap.size w w3 from ⟨by simpa [keyCells] using hown', (hb0.alloc hb0.size _).grown hgrow (by simp; omega) (fun g hg => (hown0.lt g hg).1)⟩)
      clear hown' hgrow hown0 hb0 hbs HN HP hns
      go_wp2
      go_loopw [5, 6, 7] (fun v d t wr => ∃ (D : Nat) (G : List K2), 1 ≤ D ∧ D ≤ 6 ∧ D = G.length + 1 ∧ d = .int .i64 D ∧ ((0, 1) :: G) ++ groF n p (6 - D) D (lastK (0, 1) G).1 = M ∧ wr.ownsRow w.heap.size 30 2 v (G.length + 1) (keyCells ((0, 1) :: G)) ∧ Below w.heap.size w wr) (fun _ d _ _ => 6 - (intOf d).toNat)
      case atStart => exact ⟨1, [], by omega, by omega, rfl, rfl, by rw [HM.out]; rfl, HR.out.1, HR.out.2⟩
      case round =>
        obtain ⟨D, G, h1, h6, hDG, rfl, hout, hown, hb⟩ := hrel
        have HDG := Lib.hid hDG
        clear HR HM hDG
        by_cases hlt : D < 6
        · have HL := Lib.hid (fun w => sleast_any n D w hn (by omega))
          obtain ⟨q0, q1, q2⟩ := groQ_bd (d := (D : Int)) (n := n) (by omega) (by omega) hn.1 hn.2
          obtain ⟨m0, m1, m2⟩ := mul_bd hp.1 hp.2 q0 q1 q2
          have m3 := Int.le_trans m1 m2
          rw [show 6 - D = (5 - D) + 1 by omega, groF_succ] at hout
          generalize (D : Int) * n / ((D : Int) + 1) = q at *
          have ep : IntKind.i64.wrap (p * q) = p * q := IntWalk.i64_in _ (by omega)
          obtain ⟨L, hL⟩ : ∃ L, L = G.length + 1 := ⟨_, rfl⟩
          rw [← hL] at hown
          obtain ⟨gv, cv, hv, hnc, hcm, hbg, hgs⟩ := (ownsRowK_shape hown).resolve_left (by rintro ⟨_, h⟩; omega)
          have hown1 := hown
          rw [hv] at hown1
          have lc := (last_cells hL hown1).1
          have hlv := len_st ⟨_, _, hv⟩
          have hix := idx_st hv (L - 1) (by omega) ((L : Int) - 1) (by omega)
          have ew : IntKind.i64.wrap ((L : Int) - 1) = (L : Int) - 1 := IntWalk.i64_in _ (by unfold maxLen at hcm; omega)
          have zd : (D : Int) < 6 := by omega
          have ed : IntKind.i64.wrap ((D : Int) + 1) = (D : Int) + 1 := IntWalk.i64_in _ (by omega)
          have HGL := Lib.hid hL
          have HV := Lib.hid hv
          clear hown1 hL hv q0 q1 q2 m1 hgs hnc
          go_wp2_with fail
          refine (HL.out _).mono ?_
          rintro e w4 ⟨rfl, rfl⟩
          by_cases hc : p * q ≤ (lastK (0, 1) G).1
          · rw [if_neg (by omega), List.append_nil] at hout
            have HO := Lib.hid hout
            clear hout
            go_wp2
            go_ret
            exact ⟨_, rfl, by rw [← HO.out]; simpa [← HGL.out] using hown, hb⟩
          · rw [if_pos (by omega)] at hout
            have HO := Lib.hid hout
            have hc2 : ¬ 1000000 < p * q := by omega
            have hbk := fun w => build_st (p * q) ((D : Int) + 1) w
            have hns := hb.size
            have HLS := Lib.hid (show lastK (0, 1) (G ++ [(p * q, (D : Int) + 1)]) = (p * q, (D : Int) + 1) from lastK_snoc _ _ _)
            have hl2 : L ≤ 9 := by have := HGL.out; have := HDG.out; omega
            clear hout
            go_wp2_with (at_builtin; refine wpList_append_own _ rfl (.tmp 45) (.tmp 50) 24 rfl w.heap.size 30 i0 (.agg #[.int .i64 0, .int .i64 0]) 2 16 Try.underlying24 hi hz0 hz1 hz2 rfl (by decide) _ _ _ rfl (hown.alloc _) ⟨w4.heap.size, 0, none⟩ 1 1 [.int .i64 (p * q), .int .i64 ((D : Int) + 1)] rfl rfl (cell_two_new _ _ _ _) (by intro u hu; simp at hu; rcases hu with rfl | rfl <;> rfl) (by unfold maxLen; omega) (by omega) (by simp; omega) ?_; intro v' w5 hown' hgrow _)
            have R : w5.ownsRow w.heap.size 30 2 v' ((G ++ [(p * q, (D : Int) + 1)]).length + 1) (keyCells ((0, 1) :: (G ++ [(p * q, (D : Int) + 1)]))) ∧ Below w.heap.size w w5 := by
              refine ⟨?_, (hb.alloc hb.size _).grown hgrow (by simp; omega) (fun g hg => (hown.lt g hg).1)⟩
              rw [← List.cons_append, keyCells_snoc]
              have := HGL.out
              subst this
              simpa using hown'
            have HR := Lib.hid R
            clear R hown' hgrow hown hb
            go_wp2
            exact ⟨⟨D + 1, G ++ [(p * q, (D : Int) + 1)], by omega, by omega, by have := HDG.out; simp; omega, by go_num, by rw [HLS.out, ← HO.out, show 6 - (D + 1) = 5 - D by omega]; simp, HR.out.1, HR.out.2⟩, by simp [intOf]; omega⟩
        · obtain rfl : D = 6 := by omega
          rw [show groF n p (6 - 6) ((6 : Nat) : Int) (lastK (0, 1) G).1 = [] from rfl, List.append_nil] at hout
          have HO := Lib.hid hout
          clear hout
          go_wp2
          go_ret
          exact ⟨_, rfl, by rw [← HO.out]; simpa using hown, hb⟩
    · have b2 : (decide (1 ≤ p) && decide (p ≤ 1000)) = false := by
        cases h : (decide (1 ≤ p) && decide (p ≤ 1000)) with
        | false => rfl
        | true => simp at h; omega
      rw [b2] at HP
      have HM := Lib.hid (show groV n p = [] by unfold groV; rw [if_neg (fun h => hp h.2)])
      clear b1 b2 hp hn
      go_enter Try.func17, Try.ntmps17
      go_wp2_with fail
      generalize w.alloc (.cells #[] 30) = W at *
      refine (HN.out _).mono ?_
      rintro e w1 ⟨rfl, rfl⟩
      go_wp2_with fail
      refine (HP.out _).mono ?_
      rintro e w2 ⟨rfl, rfl⟩
      go_wp2
      go_ret
      exact ⟨_, rfl, by rw [HM.out]; exact hown0, hb0⟩
  · have b1 : (decide (1 ≤ n) && decide (n ≤ 100)) = false := by
      cases h : (decide (1 ≤ n) && decide (n ≤ 100)) with
      | false => rfl
      | true => simp at h; omega
    rw [b1] at HN
    have HM := Lib.hid (show groV n p = [] by unfold groV; rw [if_neg (fun h => hn h.1)])
    clear b1 hn
    go_enter Try.func17, Try.ntmps17
    go_wp2_with fail
    generalize w.alloc (.cells #[] 30) = W at *
    refine (HN.out _).mono ?_
    rintro e w1 ⟨rfl, rfl⟩
    go_wp2
    go_ret
    exact ⟨_, rfl, by rw [HM.out]; exact hown0, hb0⟩
end Go.Proofs.Yteijgoadcpphlaa
namespace Go.Proofs.Yteijgoadcpphlaa
open Go.ChangeShapes Go.WideShapes Go.ChangeAt Go.RowKit Go.BigFrame Go.Shelf
attribute [local go_sem] Oper.semAt_some
set_option linter.unusedVariables false

set_option maxRecDepth 100000 in
set_option maxHeartbeats 2000000 in
theorem ireadahead_any (n d : Int) (w : World) (hn : 1 ≤ n ∧ n ≤ 100) (hd : 1 ≤ d ∧ d ≤ 5) : Calls Try.prog 30 #[.int .i64 n, .int .i64 (d + 1)] w fun e w' => e = .returned (.int .i64 (d * n / (d + 1))) ∧ w' = w := by
  have e1 : IntKind.i64.wrap (d + 1 - 1) = d := by rw [show d + 1 - 1 = d by omega]; exact IntWalk.i64_in _ (by omega)
  have dn : 0 ≤ d * n ∧ d * n ≤ 500 := ⟨Int.mul_nonneg (by omega) (by omega), Int.le_trans (Int.mul_le_mul hd.2 hn.2 (by omega) (by omega)) (by decide)⟩
  have e2 : IntKind.i64.wrap (d * n) = d * n := IntWalk.i64_in _ (by omega)
  obtain ⟨q0, q1, q2⟩ := groQ_bd hd.1 hd.2 hn.1 hn.2
  have e3 : (d * n).tdiv (d + 1) = d * n / (d + 1) := Int.tdiv_eq_ediv_of_nonneg dn.1
  have e4 : IntKind.i64.wrap (d * n / (d + 1)) = d * n / (d + 1) := IntWalk.i64_in _ (by omega)
  have z0 : ¬ (d + 1 = 0) := by omega
  have z1 : ((d + 1 : Int) == 0) = false := by simp; omega
  generalize hq : d * n / (d + 1) = q at *
  clear hq
  go_enter Try.func30, Try.ntmps30
  go_wp2
  go_ret
  exact ⟨rfl, rfl⟩
theorem infoI5 : (Try.prog.info? 3).map (fun i => (i.zero, i.size, i.bytes)) = some (some (.int .i64 0), 1, 8) := by kernel_rfl
theorem idx5 (i : Nat) (hi : i < 5) (d : Int) (hd : d = (i : Int) + 1) (w : World) : (Instr.index 52 (.agg #[.int .i64 2, .int .i64 3, .int .i64 4, .int .i64 5, .int .i64 6]) (.int .i64 i)).run Try.prog w = .ok (.int .i64 (d + 1)) w := by
  obtain ⟨i0, h1, h2, h3, h4⟩ := info_parts infoI5
  have u := Try.underlying3
  have u5 := Try.underlying52
  subst hd
  obtain rfl | rfl | rfl | rfl | rfl : i = 0 ∨ i = 1 ∨ i = 2 ∨ i = 3 ∨ i = 4 := by omega
  all_goals simp [Instr.index, run_underlying u5, run_underlying u, asIntOf, part, isAgg, sizeOf, typeInfo, h1, h3, go_sem]
theorem gro_step {w w5 w6 : World} {G : List K2} {a x : K2} {v v' : Value} {nb : Nat} {o : Obj} (hX5 : SBoxed w5 w.heap.size a) (nX5 : SBoxed w5 nb x) (hvl : ∀ b, v.ownBlock = some b → w.heap.size + 1 ≤ b ∧ b < nb) (hb5 : Below w.heap.size w w5)
    (hown6 : w6.ownsRow (w.heap.size + 1) 30 2 v' (G.length + 1 + 1) (keyCells ((0, 1) :: G) ++ [.int .i64 x.1, .int .i64 x.2])) (hgrow6 : (w5.alloc o).grownBy w6 v.ownBlock) :
    SBoxed w6 nb x ∧ SBoxed w6 w.heap.size a ∧ SBoxed ((w6.setCell ⟨w.heap.size, 0, none⟩ (.int .i64 x.1)).setCell ⟨w.heap.size, 1, none⟩ (.int .i64 x.2)) w.heap.size x ∧
      Below w.heap.size w ((w6.setCell ⟨w.heap.size, 0, none⟩ (.int .i64 x.1)).setCell ⟨w.heap.size, 1, none⟩ (.int .i64 x.2)) ∧
      ((w6.setCell ⟨w.heap.size, 0, none⟩ (.int .i64 x.1)).setCell ⟨w.heap.size, 1, none⟩ (.int .i64 x.2)).ownsRow (w.heap.size + 1) 30 2 v' ((G ++ [x]).length + 1) (keyCells ((0, 1) :: (G ++ [x]))) := by
  have nX6 := (nX5.alloc o).kept hgrow6 (fun e => by have := (hvl _ e.symm).2; omega)
  have hX6 := (hX5.alloc o).kept hgrow6 (fun e => by have := (hvl _ e.symm).1; omega)
  have hb6 := (hb5.alloc hb5.size o).grown hgrow6 (by have := hb5.size; simp; omega) (fun b e => by have := (hvl b e).1; omega)
  have h0 : w6.ownsRow (w.heap.size + 1) 30 2 v' ((G ++ [x]).length + 1) (keyCells ((0, 1) :: (G ++ [x]))) := by
    rw [← List.cons_append, keyCells_snoc]; simpa using hown6
  have h1 := h0.kept (grownBy_setCell' w6 w.heap.size (.int .i64 x.1)) (.inr fun e => by have := (World.ownsRow.lt h0 _ e).1; omega)
  have g2 : (w6.setCell ⟨w.heap.size, 0, none⟩ (.int .i64 x.1)).grownBy ((w6.setCell ⟨w.heap.size, 0, none⟩ (.int .i64 x.1)).setCell ⟨w.heap.size, 1, none⟩ (.int .i64 x.2)) (some w.heap.size) :=
    ⟨rfl, rfl, rfl, by simp [World.setCell], fun j hj hr => Below.heap_setCell _ ⟨w.heap.size, 1, none⟩ _ j (fun e => hr (by simp only [] at e; rw [e]))⟩
  exact ⟨nX6, hX6, SBoxed.set x hX6, (hb6.setCell (p := ⟨w.heap.size, 0, none⟩) (Nat.le_refl _) (.int .i64 x.1)).setCell (p := ⟨w.heap.size, 1, none⟩) (Nat.le_refl _) (.int .i64 x.2),
    h1.kept g2 (.inr fun e => by have := (World.ownsRow.lt h0 _ e).1; omega)⟩
set_option maxRecDepth 100000 in
set_option maxHeartbeats 2000000 in
theorem igrowth_any (n p : Int) (w : World) : Calls Try.prog 15 #[.int .i64 n, .int .i64 p] w fun e w' => ∃ v, e = .returned v ∧ w'.ownsRow w.heap.size 30 2 v (groV n p).length (keyCells (groV n p)) ∧ Below w.heap.size w w' := by
  obtain ⟨i0, hi, hz0, hz1, hz2⟩ := info_parts infoSt
  have hnil : w.ownsRow w.heap.size 30 2 (.slice none 0 0) 0 (keyCells []) := ⟨by simp [keyCells], .inl ⟨rfl, rfl⟩⟩
  by_cases h0 : n < 1
  · have HM := Lib.hid (show groV n p = [] by unfold groV; rw [if_neg (fun h => by have := h.1.1; omega)])
    go_enter Try.func15, Try.ntmps15
    go_wp2
    go_ret
    exact ⟨_, rfl, by rw [HM.out]; exact hnil, Below.refl _ _⟩
  by_cases h1 : 100 < n
  · have HM := Lib.hid (show groV n p = [] by unfold groV; rw [if_neg (fun h => by have := h.1.2; omega)])
    go_enter Try.func15, Try.ntmps15
    go_wp2
    go_ret
    exact ⟨_, rfl, by rw [HM.out]; exact hnil, Below.refl _ _⟩
  by_cases h2 : p < 1
  · have HM := Lib.hid (show groV n p = [] by unfold groV; rw [if_neg (fun h => by have := h.2.1; omega)])
    go_enter Try.func15, Try.ntmps15
    go_wp2
    go_ret
    exact ⟨_, rfl, by rw [HM.out]; exact hnil, Below.refl _ _⟩
  by_cases h3 : 1000 < p
  · have HM := Lib.hid (show groV n p = [] by unfold groV; rw [if_neg (fun h => by have := h.2.2; omega)])
    go_enter Try.func15, Try.ntmps15
    go_wp2
    go_ret
    exact ⟨_, rfl, by rw [HM.out]; exact hnil, Below.refl _ _⟩
  have hn : 1 ≤ n ∧ n ≤ 100 := by omega
  have hp : 1 ≤ p ∧ p ≤ 1000 := by omega
  have HM := Lib.hid (show groV n p = (0, 1) :: groF n p 5 1 0 by unfold groV; rw [if_pos ⟨hn, hp⟩])
  generalize groV n p = M at *
  have rX := SBoxed.new w (0, 1)
  have hb1 := (Below.refl w.heap.size w).alloc (Nat.le_refl _) (.cells #[.int .i64 0, .int .i64 1] 30)
  have hsz1 : (w.alloc (.cells #[.int .i64 0, .int .i64 1] 30)).heap.size = w.heap.size + 1 := by simp
  have hown0 := World.ownsRow_lit (base := w.heap.size + 1) (e := 30) (size := 2) (w.alloc (.cells #[.int .i64 0, .int .i64 1] 30)) #[.int .i64 0, .int .i64 1] 1 (by omega) (by unfold maxLen; omega) rfl
  rw [hsz1] at hown0
  have rX2 := rX.alloc (.cells #[.int .i64 0, .int .i64 1] 30)
  have hb2 := hb1.alloc hb1.size (.cells #[.int .i64 0, .int .i64 1] 30)
  have hbs := fun w => build_st 0 1 w
  have c0 := rX.cell0
  have c1 := rX.cell1
  dsimp only at c0 c1 rX2
  clear rX hb1 hnil
  go_enter Try.func15, Try.ntmps15
  go_wp2_with fail
  have HR := Lib.hid (show _ ∧ _ ∧ _ from ⟨rX2, hown0, hb2⟩)
  clear rX2 hown0 hb2 c0 c1 hbs
  go_loopw [6, 8, 9, 28] (fun v d9 nx i wr => ∃ (j : Nat) (G : List K2), j ≤ 5 ∧ i = .int .i64 j ∧ G.length = j ∧ ((0, 1) :: G) ++ groF n p (5 - j) ((j : Int) + 1) (lastK (0, 1) G).1 = M ∧ (lastK (0, 1) G).2 = (j : Int) + 1 ∧ SBoxed wr w.heap.size (lastK (0, 1) G) ∧ wr.ownsRow (w.heap.size + 1) 30 2 v (G.length + 1) (keyCells ((0, 1) :: G)) ∧ Below w.heap.size w wr)
    (fun _ _ _ i _ => 5 - (intOf i).toNat)
  case atStart => exact ⟨0, [], by omega, rfl, rfl, by rw [HM.out]; rfl, rfl, HR.out.1, HR.out.2.1, HR.out.2.2⟩
  case round =>
    obtain ⟨j, G, hj, rfl, hGl, hout, hl2, hX, hown, hb⟩ := hrel
    clear HR HM
    have HGL := Lib.hid hGl
    clear hGl
    by_cases hlt : j < 5
    · obtain ⟨d, hd⟩ : ∃ d : Int, d = (j : Int) + 1 := ⟨_, rfl⟩
      have hix := fun w => idx5 j hlt d hd w
      rw [← hd] at hout hl2
      have HRA := Lib.hid (fun w => ireadahead_any n d w hn (by omega))
      obtain ⟨q0, q1, q2⟩ := groQ_bd (d := d) (n := n) (by omega) (by omega) hn.1 hn.2
      obtain ⟨m0, m1, m2⟩ := mul_bd hp.1 hp.2 q0 q1 q2
      have m3 := Int.le_trans m1 m2
      rw [show 5 - j = (4 - j) + 1 by omega, groF_succ] at hout
      generalize d * n / (d + 1) = q at *
      have ep : IntKind.i64.wrap (p * q) = p * q := IntWalk.i64_in _ (by omega)
      have HLS := Lib.hid (lastK_snoc (0, 1) G (p * q, d + 1))
      generalize hla : lastK (0, 1) G = A at *
      have HLA := Lib.hid hla
      obtain ⟨pa, qa⟩ := A
      dsimp only at hl2 hout
      have HF := Lib.hid (fun w => ifollows_any (pa, qa) (p * q, d + 1) w)
      have hbk := fun w => build_st (p * q) (d + 1) w
      have HFO := Lib.hid (show folB (pa, qa) (p * q, d + 1) = decide (pa < p * q ∧ p * q ≤ 1000000) by
        have e1 : qa < d + 1 := by omega
        have e2 : d + 1 ≤ 6 := by omega
        unfold folB
        dsimp only
        rw [decide_eq_true e1, decide_eq_true e2]
        by_cases hc : pa < p * q <;> by_cases hd : p * q ≤ 1000000 <;> simp [hc, hd])
      have z0 : (0 : Int) ≤ (j : Int) := by omega
      have z5 : (j : Int) < 5 := by omega
      have HD := Lib.hid hd
      have HO := Lib.hid hout
      have x0 := hX.cell0
      have x1 := hX.cell1
      have nX := SBoxed.new wr (p * q, d + 1)
      have hX1 := hX.alloc (.cells #[.int .i64 (p * q), .int .i64 (d + 1)] 30)
      have hown1 := hown.alloc (.cells #[.int .i64 (p * q), .int .i64 (d + 1)] 30)
      have hb1 := hb.alloc hb.size (.cells #[.int .i64 (p * q), .int .i64 (d + 1)] 30)
      have hlt1 := hX.lt
      have hvl := fun b e => World.ownsRow.lt hown b e
      unfold kv at HF
      dsimp only at x0 x1 nX HF
      clear hla q0 q1 q2 m1 m2 hl2 hd hout hX hown hb
      go_wp2_with fail
      refine (HRA.out _).mono ?_
      rintro e w4 ⟨rfl, rfl⟩
      have n0 := nX.cell0
      have n1 := nX.cell1
      have y0 := hX1.cell0
      have y1 := hX1.cell1
      dsimp only at n0 n1 y0 y1
      clear x0 x1
      go_wp2_with fail
      refine (HF.out _).mono ?_
      rintro e w5 ⟨rfl, hbf⟩
      have g5 := grown_of_below' hbf none
      have nX5 := nX.kept g5 (by simp)
      have hX5 := hX1.kept g5 (by simp)
      have hown5 := own_below hown1 hbf
      have hb5 := hb1.trans (hbf.mono hb1.size)
      have hs5 := hbf.size
      rw [World.size_alloc] at hs5
      clear hbf g5 nX hX1 hown1 hb1 n0 n1 y0 y1 hbk hix
      by_cases hc : pa < p * q ∧ p * q ≤ 1000000
      · rw [HFO.out, decide_eq_true hc]
        have hO := HO.out
        rw [if_pos hc] at hO
        have HO2 := Lib.hid hO
        have n0 := nX5.cell0
        have n1 := nX5.cell1
        dsimp only at n0 n1
        have hns := hb5.size
        have hl2 : G.length ≤ 5 := by have := HGL.out; omega
        have HC := Lib.hid hc
        clear hO hc HO HFO
        go_wp2_with (
          at_builtin
          refine wpList_append_own _ rfl (.tmp 42) (.tmp 44) 24 rfl (w.heap.size + 1) 30 i0 (.agg #[.int .i64 0, .int .i64 0]) 2 16 Try.underlying24 hi hz0 hz1 hz2 rfl (by decide) _ _ _ rfl (hown5.alloc _) ⟨w5.heap.size, 0, none⟩ 1 1 [.int .i64 (p * q), .int .i64 (d + 1)] rfl rfl (cell_two_new _ _ _ _) (by intro u hu; simp at hu; rcases hu with rfl | rfl <;> rfl) (by unfold maxLen; omega) (by omega) (by simp; omega) ?_
          intro v' w6 hown6 hgrow6 _
          obtain ⟨nX6, hX6, hx7, hb7, hw7⟩ := gro_step hX5 nX5 hvl hb5 hown6 hgrow6
          have HX7 := Lib.hid hx7
          have HB7 := Lib.hid hb7
          have HW7 := Lib.hid hw7
          clear hx7 hb7 hw7
          have N0 := nX6.cell0
          have N1 := nX6.cell1
          have Y0 := hX6.cell0
          have Y1 := hX6.cell1
          have F0 : w6.frozen? ⟨w.heap.size, 0, none⟩ = false := by simp [World.frozen?, show w6.heap[w.heap.size]? = _ from hX6]
          have F1 : w6.frozen? ⟨w.heap.size, 1, none⟩ = false := by simp [World.frozen?, show w6.heap[w.heap.size]? = _ from hX6]
          have L6 := hX6.lt
          dsimp only at N0 N1 Y0 Y1 HX7
          clear nX6 hX6 hown6 hgrow6 hown5 hb5 nX5 hX5)
        exact ⟨⟨j + 1, G ++ [(p * q, d + 1)], by omega, by go_num, by have := HGL.out; simp; omega, by
          have h1 := HO2.out
          have h2 := HD.out
          rw [HLS.out, ← h1, show 5 - (j + 1) = 4 - j by omega, show ((j + 1 : Nat) : Int) + 1 = d + 1 by omega]
          simp, by rw [HLS.out]; have h2 := HD.out; simp only []; omega, by rw [HLS.out]; exact HX7.out, HW7.out, HB7.out⟩, by simp [intOf]; omega⟩
      · rw [HFO.out, decide_eq_false hc]
        have hO := HO.out
        rw [if_neg hc, List.append_nil] at hO
        have HO2 := Lib.hid hO
        clear hO HO HFO
        go_wp2
        go_ret
        refine ⟨_, rfl, ?_, hb5⟩
        rw [← HO2.out]
        exact own_base (by simpa using hown5) (by omega)
    · obtain rfl : j = 5 := by omega
      rw [show groF n p (5 - 5) (((5 : Nat) : Int) + 1) (lastK (0, 1) G).1 = [] from rfl, List.append_nil] at hout
      have HO2 := Lib.hid hout
      clear hout
      go_wp2
      go_ret
      refine ⟨_, rfl, ?_, hb⟩
      rw [← HO2.out]
      exact own_base (by simpa using hown) (by omega)
end Go.Proofs.Yteijgoadcpphlaa
namespace Go.Proofs.Yteijgoadcpphlaa
open Go.ChangeShapes Go.WideShapes Go.ChangeAt Go.RowKit
set_option linter.unusedVariables false

set_option maxRecDepth 100000 in
set_option maxHeartbeats 2000000 in
theorem exactplanok_walk (va : Value) (A : List K2) (w : World) (ha : keysAt w va A) (hA63 : A.length ≤ maxLen) :
    Calls Try.prog 5 #[va] w fun e w' => e = .returned (.bool true) ∧ Below w.heap.size w w' := by
  have hsA : ∃ a cap, va = .slice a A.length cap := by obtain ⟨a, cap, h, _⟩ := ha; exact ⟨a, cap, h⟩
  unfold maxLen at hA63
  have S1 := Lib.hid (fun w => szsteps_any va A 1048576 w hsA (by omega) (by omega))
  by_cases hlA : A.length ≤ 1048576
  · rw [if_neg (by omega)] at S1
    have n1 : ¬ 1048576 - (A.length : Int) < 0 := by omega
    have KA := Lib.hid (fun w' (h : Below w.heap.size w w') => tosteps_any va A w' (keysAt_below ha h) (by omega))
    have HI := Lib.hid (fun v w' h => iplanok_any v A w' h (by omega))
    have HS := Lib.hid (fun v w' h => splanok_any v A w' h (by omega))
    have HB0 := Below.refl w.heap.size w
    clear hsA ha
    generalize plnB A = b at *
    go_enter Try.func5, Try.ntmps5
    go_wp2_with fail
    refine (S1.out _).mono ?_
    rintro e w1 ⟨rfl, rfl⟩
    clear S1
    go_wp2_with fail
    refine (KA.out _ HB0).mono ?_
    rintro e w2 ⟨g1, rfl, hg1, ho1, hb2⟩
    have HB2 := HB0.trans (hb2.mono HB0.size)
    go_wp2_with fail
    refine (HS.out _ _ (stepsAt_own ho1)).mono ?_
    rintro e w3 ⟨rfl, hb3⟩
    have HB3 := HB2.trans (hb3.mono HB2.size)
    clear hb2 hb3 HB2 ho1
    go_wp2_with fail
    refine (KA.out _ HB3).mono ?_
    rintro e w4 ⟨g2, rfl, hg2, ho2, hb4⟩
    have HB4 := HB3.trans (hb4.mono HB3.size)
    clear hb4 HB3
    go_wp2_with fail
    refine (HI.out _ _ (stepsAt_own ho2)).mono ?_
    rintro e w5 ⟨rfl, hb5⟩
    have HB5 := HB4.trans (hb5.mono HB4.size)
    have ho5 := own_below ho2 hb5
    clear hb5 HB4 ho2
    cases b
    all_goals
      go_wp2_with fail
      refine (KA.out _ HB5).mono ?_
      rintro e w9 ⟨g9, rfl, hg9, ho9, hb9⟩
      have hc9 := HB5.trans (hb9.mono HB5.size)
      have ho10 := own_below ho5 hb9
      go_wp2_with fail
      refine (eqsteps_any _ _ A A _ (stepsAt_own ho10) (stepsAt_own ho9) (by omega) (by omega)).mono ?_
      rintro e w10 ⟨rfl, hb10⟩
      have HF := Lib.hid (hc9.trans (hb10.mono hc9.size))
      rw [show decide (A = A) = true by simp]
      clear hb9 hb10 hc9 ho10 ho9
      go_wp2
      go_ret
      exact ⟨rfl, HF.out⟩
  · rw [if_pos (by omega)] at S1
    clear hsA ha
    go_enter Try.func5, Try.ntmps5
    go_wp2_with fail
    refine (S1.out _).mono ?_
    rintro e w1 ⟨rfl, rfl⟩
    go_wp2
    go_ret
    exact ⟨rfl, Below.refl _ _⟩
set_option maxRecDepth 100000 in
set_option maxHeartbeats 2000000 in
theorem exactdegreeat_walk (now : Int) (va : Value) (A : List K2) (w : World) (ha : keysAt w va A) (hA63 : A.length ≤ maxLen) :
    Calls Try.prog 6 #[va, .int .i64 now] w fun e w' => e = .returned (.bool true) ∧ Below w.heap.size w w' := by
  have hsA : ∃ a cap, va = .slice a A.length cap := by obtain ⟨a, cap, h, _⟩ := ha; exact ⟨a, cap, h⟩
  unfold maxLen at hA63
  have S1 := Lib.hid (fun w => szsteps_any va A 1048576 w hsA (by omega) (by omega))
  by_cases hlA : A.length ≤ 1048576
  · rw [if_neg (by omega)] at S1
    have n1 : ¬ 1048576 - (A.length : Int) < 0 := by omega
    have KA := Lib.hid (fun w' (h : Below w.heap.size w w') => tosteps_any va A w' (keysAt_below ha h) (by omega))
    have HI := Lib.hid (fun v w' h => idegreeat_any v A now w' h (by omega))
    have HS := Lib.hid (fun v w' h => sdegreeat_any v A now w' h (by omega))
    have HB0 := Below.refl w.heap.size w
    clear hsA ha
    generalize degV A now = b at *
    have hbb : (b != b) = false := by simp
    go_enter Try.func6, Try.ntmps6
    go_wp2_with fail
    refine (S1.out _).mono ?_
    rintro e w1 ⟨rfl, rfl⟩
    clear S1
    go_wp2_with fail
    refine (KA.out _ HB0).mono ?_
    rintro e w2 ⟨g1, rfl, hg1, ho1, hb2⟩
    have HB2 := HB0.trans (hb2.mono HB0.size)
    go_wp2_with fail
    refine (HS.out _ _ (stepsAt_own ho1)).mono ?_
    rintro e w3 ⟨rfl, hb3⟩
    have HB3 := HB2.trans (hb3.mono HB2.size)
    clear hb2 hb3 HB2 ho1
    go_wp2_with fail
    refine (KA.out _ HB3).mono ?_
    rintro e w4 ⟨g2, rfl, hg2, ho2, hb4⟩
    have HB4 := HB3.trans (hb4.mono HB3.size)
    clear hb4 HB3
    go_wp2_with fail
    refine (HI.out _ _ (stepsAt_own ho2)).mono ?_
    rintro e w5 ⟨rfl, hb5⟩
    have HB5 := HB4.trans (hb5.mono HB4.size)
    have ho5 := own_below ho2 hb5
    clear hb5 HB4 ho2
    · skip
      go_wp2_with fail
      refine (KA.out _ HB5).mono ?_
      rintro e w9 ⟨g9, rfl, hg9, ho9, hb9⟩
      have hc9 := HB5.trans (hb9.mono HB5.size)
      have ho10 := own_below ho5 hb9
      go_wp2_with fail
      refine (eqsteps_any _ _ A A _ (stepsAt_own ho10) (stepsAt_own ho9) (by omega) (by omega)).mono ?_
      rintro e w10 ⟨rfl, hb10⟩
      have HF := Lib.hid (hc9.trans (hb10.mono hc9.size))
      rw [show decide (A = A) = true by simp]
      clear hb9 hb10 hc9 ho10 ho9
      go_wp2
      go_ret
      exact ⟨rfl, HF.out⟩
  · rw [if_pos (by omega)] at S1
    clear hsA ha
    go_enter Try.func6, Try.ntmps6
    go_wp2_with fail
    refine (S1.out _).mono ?_
    rintro e w1 ⟨rfl, rfl⟩
    go_wp2
    go_ret
    exact ⟨rfl, Below.refl _ _⟩
set_option maxRecDepth 100000 in
set_option maxHeartbeats 2000000 in
theorem exactgrowth_walk (n p : Int) (w : World) (wn : (Lit.int .i64 n).wf = true) (wp : (Lit.int .i64 p).wf = true) :
    Calls Try.prog 7 #[.int .i64 n, .int .i64 p] w fun e w' => e = .returned (.bool true) ∧ Below w.heap.size w w' := by
  have HS := Lib.hid (fun w => sgrowth_any n p w)
  have HI := Lib.hid (fun w => igrowth_any n p w)
  have hMl := gro_len n p
  have HB0 := Below.refl w.heap.size w
  generalize groV n p = M at *
  go_enter Try.func7, Try.ntmps7
  go_wp2_with fail
  refine (HS.out _).mono ?_
  rintro e w1 ⟨v0, rfl, ho0, hb1⟩
  have HB1 := HB0.trans (hb1.mono HB0.size)
  clear hb1
  go_wp2_with fail
  refine (HI.out _).mono ?_
  rintro e w2 ⟨vg, rfl, hog, hb2⟩
  have HB2 := HB1.trans (hb2.mono HB1.size)
  have z2 := hb2.size
  have ho0a := own_below ho0 hb2
  have hz0 : ∀ b, v0.ownBlock = some b → b < w1.heap.size := fun b e => (ho0.lt b e).2
  have hbg : ∀ b, vg.ownBlock = some b → w1.heap.size ≤ b := fun b e => (hog.lt b e).1
  clear hb2 ho0
  go_wp2_with fail
  refine (eqsteps_any _ _ M M _ (stepsAt_own hog) (stepsAt_own ho0a) (by omega) (by omega)).mono ?_
  rintro e w3 ⟨rfl, hb3⟩
  have HB3 := HB2.trans (hb3.mono HB2.size)
  have z3 := hb3.size
  have ho0b := own_below ho0a hb3
  have hogb := own_below hog hb3
  rw [show decide (M = M) = true by simp]
  clear hb3 ho0a hog
  go_wp2_with fail
  refine (marksteps_any _ _ _ _ 1 _ hogb (by omega) (by omega) (by omega)).mono ?_
  rintro e w4 ⟨rfl, hog4, hgr4⟩
  have z4 := hgr4.size
  have HB4 : Below w.heap.size w w4 := HB3.grown hgr4 HB3.size (fun k e => Nat.le_trans HB1.size (hbg k e))
  have ho0c : w4.ownsRow w.heap.size 30 2 v0 M.length (keyCells M) := by
    cases hv : v0.ownBlock with
    | none => exact ho0b.kept hgr4 (.inl hv)
    | some b => exact ho0b.kept hgr4 (.inr fun e => by rw [hv] at e; have := hz0 b hv; have := hbg b e.symm; omega)
  clear hgr4 ho0b hogb
  have n4 : ¬ 1 + 2 * (M.length : Int) < 0 := by omega
  have kg4 : keysAt w4 vg (marked M.length 1) := stepsAt_own (ks := marked M.length 1) (by rw [marked_len]; exact hog4)
  go_wp2_with fail
  refine (heldsteps_any _ _ 1 _ kg4 (by omega) (by omega)).mono ?_
  rintro e w5 ⟨rfl, rfl⟩
  clear kg4
  go_wp2_with fail
  refine (HI.out _).mono ?_
  rintro e w6 ⟨vh, rfl, hoh, hb6⟩
  have HB6 := HB4.trans (hb6.mono HB4.size)
  have ho0d := own_below ho0c hb6
  have hogc := own_below hog4 hb6
  clear hb6 ho0c hog4
  go_wp2_with fail
  refine (eqsteps_any _ _ M M _ (stepsAt_own hoh) (stepsAt_own ho0d) (by omega) (by omega)).mono ?_
  rintro e w7 ⟨rfl, hb7⟩
  have HB7 := HB6.trans (hb7.mono HB6.size)
  have hogd := own_below hogc hb7
  rw [show decide (M = M) = true by simp]
  have kg7 : keysAt w7 vg (marked M.length 1) := stepsAt_own (ks := marked M.length 1) (by rw [marked_len]; exact hogd)
  clear hb7 ho0d hogc hoh hogd
  go_wp2_with fail
  refine (heldsteps_any _ _ 1 _ kg7 (by omega) (by omega)).mono ?_
  rintro e w8 ⟨rfl, rfl⟩
  clear kg7
  go_wp2
  go_ret
  exact ⟨rfl, HB7⟩
end Go.Proofs.Yteijgoadcpphlaa
namespace Go.Proofs.Yteijgoadcpphlaa
open Go.ChangeShapes Go.WideShapes Go.ChangeAt Go.RowKit Go.Deep
set_option linter.unusedVariables false

set_option maxRecDepth 20000 in
theorem open_steps {H : Type} {enc : TypeId × Value → H} {W : World} {r : Reach} {b0 : Nat} {v : Value} {d : DataW H} {p : List MemPlace} (hv : Value.okWide Try.prog W r b0 35 v) (h : DataW.Trod enc Try.prog W 0 (fun _ => true) true 35 v d p) : ∃ ks : List K2, keysAt W v ks ∧ ks.length ≤ maxLen := by
  obtain ⟨a, len, cap, rfl⟩ := okWide_slice Try.underlying35 hv
  obtain ⟨fuel, hf⟩ := h
  rcases open_slice_pairs Try.underlying35 Try.underlying55 (by kernel_rfl) rfl rfl (by kernel_rfl) (by kernel_rfl) hf with ⟨hcs, -⟩ | ⟨x, l, c, m, n, V0, V1, D0, D1, P0, P1, hcs, -, hl, hm, hmm, -, hx⟩
  · simp [Value.cells] at hcs
    obtain ⟨rfl, rfl, rfl⟩ := hcs
    exact ⟨[], ⟨none, 0, rfl, by simp, .inl rfl⟩, by simp⟩
  · simp [Value.cells] at hcs
    obtain ⟨rfl, rfl, rfl⟩ := hcs
    have hmc : len ≤ m := by rw [hmm]; simp; omega
    have hev : ∀ i, i < len → ∃ k : K2, W.cell? (x.add (i * 2)) = some (.int .i64 k.1) ∧ W.cell? (x.add (i * 2 + 1)) = some (.int .i64 k.2) := by
      intro i hi
      obtain ⟨h0, h1, t0, t1⟩ := hx i (by omega)
      obtain ⟨z0, e0, -, -⟩ := DataW.trod_int Try.underlying3 t0
      obtain ⟨z1, e1, -, -⟩ := DataW.trod_int Try.underlying3 t1
      have e0 : V0 i = .int .i64 z0 := (List.cons.inj e0).1
      have e1 : V1 i = .int .i64 z1 := (List.cons.inj e1).1
      exact ⟨(z0, z1), by rw [h0, e0], by rw [h1, e1]⟩
    obtain ⟨f, hf2⟩ := choose_lt hev
    refine ⟨(List.range len).map f, ⟨some x, cap, by simp, by simpa using hl, ?_⟩, by simp; omega⟩
    simp only [List.length_map, List.length_range]
    rcases Nat.eq_zero_or_pos len with h0 | h0
    · exact .inl h0
    · obtain ⟨b, off, spot⟩ := x
      have hc := (hf2 0 h0).1
      have hs : spot = none := by simpa [Addr.add] using World.cell?_spot hc
      subst hs
      have hadd : ∀ j, (⟨b, off, none⟩ : Addr).add j = ⟨b, off + j, none⟩ := by
        intro j
        unfold Addr.add
        split
        · rename_i h; simp [h]
        · rfl
      refine .inr ⟨b, off, rfl, World.block_lt_of_cell? W ⟨b, off, none⟩ (by simpa [Addr.add] using hc), fun i hi => ?_⟩
      have e : ((List.range len).map f).getD i (0, 0) = f i := by simp [List.getD, hi]
      have := hf2 i hi
      rw [hadd, hadd] at this
      rw [e]
      exact this
end Go.Proofs.Yteijgoadcpphlaa
