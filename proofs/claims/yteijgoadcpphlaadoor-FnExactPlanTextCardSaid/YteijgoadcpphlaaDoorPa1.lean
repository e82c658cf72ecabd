/- What the laws lean on (own lemmas and walks of the called functions). -/
import Derived.StillTail
import Derived.OrdersIn
import Derived.RangeFuncCalls
import Derived.Deep.RegionHeld3
import Derived.KernelRfl
import Derived.Test.YteijgoadcpphlaaDoorRows
import Derived.WalkKit
import Derived.ProofKit
import Derived.OpenShut
import Derived.ShutString
import Derived.Below
import Derived.Outline
import Derived.WalkSpells
import Derived.WalkLawsBesides
import Derived.Deep.AppendLies
import Derived.StillTactics
import Derived.Laws.BytesArg
import Derived.Laws.OwnMore
import Derived.Maps.AppendAt
import Derived.Lib.Hide
import Derived.BigQuiet
import Derived.Lib.ItoaLen
import Derived.Lib.Join
import Derived.Deep.MidRow
import Derived.Laws.StructEq
import Derived.Lib.ItoaNum
import Derived.Lib.ItoaMem
import Derived.Lib.AtoiAll
import Derived.Lib.AtoiAllCases
import Derived.Lib.AppendIntMem
import Derived.Lib.SmallJoins
import Derived.WalkSmall
import Derived.WideLaws
import Derived.Test.YteijgoadcpphlaaDoorShelf
import Derived.RangeFuncBox
import Derived.RangeFuncNested
import Derived.RangeFuncLeaves
import Derived.Shelf.Abstract
import Derived.OwnWalkIn
import Derived.TacticsInMore
import Derived.LoopNIn
import Derived.LoopIn
import Derived.Maps.OwnIn
import Derived.Deep.WholeRow
import Derived.OrdersHeld
import Derived.Deep.Quiet
import Derived.Deep.QuietTactic
import Derived.Lib.Bytealg
import Derived.Deep.DeepAppendRoom
import Derived.ArgAppend
import Derived.WalkMore
import Derived.LoopTactic
import Derived.Deep.SlicePairs
set_option linter.unusedVariables false
set_option linter.unusedSimpArgs false
namespace Go.Proofs.YteijgoadcpphlaaDoor
open Go
section
variable {P : Program} {ops : Array Oper} {md : Region.Mode} {w : World}

/-- Q at a normal end, and no other end. -/
def OnlyNormal (Q : Exit → Act → World → Prop) : Exit → Act → World → Prop
  | .normal, a, w => Q .normal a w
  | _, _, _ => False
theorem OnlyNormal.lets {Q : Exit → Act → World → Prop} : ¬ LetsOut (OnlyNormal Q) := fun ⟨_, _, h⟩ => h
theorem OnlyNormal.imp {Q : Exit → Act → World → Prop} : ∀ (e : Exit) (a : Act) (w : World), OnlyNormal Q e a w → Q e a w := fun e a w h => by
  cases e <;> first | exact h | exact (h : False).elim

def maskRows : List Bool → List Oper → List Oper
  | true :: m, o :: l => o :: maskRows m l
  | false :: m, _ :: l => maskRows m l
  | _, _ => []

/-! ### the same inside a round of a loop over a function -/
theorem rowsIn_of {l0 n : Nat} {row : String} {args : Array Value} {R : Value → World → Prop} (h : Rows P row args w R) : RowsIn (Fence.wide.inRound l0) n P row args w R := fun c cs _ =>
  let ⟨v, w', r, s⟩ := h c cs
  ⟨v, w', r, stepsIn_wide.2 s⟩
def noDefer (ops : Array Oper) : Bool := ops.all fun o => match o.op with | .defer _ => false | _ => true

theorem Oper_in {l0 n : Nat} {Q : Exit → Act → World → Prop} {o : Oper} {a : Act} {K : Act → World → Prop} (hd : ∀ c, o.op ≠ .defer c) (h : o.wp P a w K (OnlyNormal Q)) :
    o.wpIn (Fence.wide.inRound l0) n P a w K Q := by
  refine ⟨fun _ _ => trivial, ?_⟩
  rw [Oper.semAt_eq _ _ _ hd]
  unfold Oper.wp at h
  generalize (execOp a.eval o).run P w = r at *
  have hdep : (Fence.wide.inRound l0).depth.isSome = true → 1 ≤ n := fun h => by simp [Fence.wide] at h
  cases r with
  | ok x w' =>
    cases x <;> simp only [Oper.upon, Oper.uponIn] at h ⊢ <;>
      first
        | exact h
        | exact ⟨hdep, CallsIn.inRound l0 (callsIn_wide.2 (Calls.mono h (fun e w'' he => by cases e <;> first | exact he | exact (he : False).elim | exact (OnlyNormal.lets he).elim)))⟩
        | exact ⟨hdep, rowsIn_of h⟩
  | halt x w' => cases x <;> simp only [Oper.upon, Oper.uponIn] at h ⊢ <;> first | exact h | exact (h : False).elim | exact (OnlyNormal.lets h).elim

theorem wpOps_in {l0 n : Nat} {Q : Exit → Act → World → Prop} (hd : noDefer ops = true) : ∀ (σ : List Nat) (a : Act) (w : World), wpOps P ops (OnlyNormal Q) σ a w → wpOpsIn (Fence.wide.inRound l0) n P ops Q σ a w
  | [], _, _, h => h
  | i :: r, a, w, h => by
    unfold wpOps at h
    unfold wpOpsIn
    cases ho : ops[i]? with
    | none => simp only [ho] at h ⊢; exact wpOps_in hd r a w h
    | some o =>
      simp only [ho] at h ⊢
      have hdo : ∀ c, o.op ≠ .defer c := fun c e => by
        have := Array.all_eq_true_iff_forall_mem.1 hd o (Array.mem_of_getElem? ho)
        simp [e] at this
      split
      · rename_i hw
        rw [if_pos hw] at h
        rcases h with h | h
        · exact Oper.wpIn_mono (fun a w h => wpOps_in hd r a w h) (Oper_in hdo h)
        · exact (OnlyNormal.lets h.2).elim
      · rename_i hw
        rw [if_neg hw] at h
        exact ⟨fun _ _ => trivial, wpOps_in hd r _ w h⟩

end
end Go.Proofs.YteijgoadcpphlaaDoor
namespace Go.Proofs.YteijgoadcpphlaaDoor
open Go.ChangeShapes Go.WideShapes Go.ChangeAt Go.RowKit
set_option linter.unusedVariables false

theorem grown_of_below' {A B : World} (h : Below A.heap.size A B) (row : Option Nat) : A.grownBy B row := ⟨h.os, h.tape, h.output, h.size, fun k hk _ => h.block k hk⟩
end Go.Proofs.YteijgoadcpphlaaDoor
namespace Go.Proofs.YteijgoadcpphlaaDoor
open Go.ChangeShapes Go.WideShapes Go.ChangeAt Go.RowKit
set_option linter.unusedVariables false

abbrev K2 := Int × Int
def kv (k : K2) : Value := .agg #[.int .i64 k.1, .int .i64 k.2]
/-- the slice value v leads to the keys ks -/
def keysAt (w : World) (v : Value) (ks : List K2) : Prop :=
  ∃ a cap, v = .slice a ks.length cap ∧ ks.length ≤ cap ∧ (ks.length = 0 ∨ ∃ g off, a = some ⟨g, off, none⟩ ∧ g < w.heap.size ∧
    ∀ i, i < ks.length → w.cell? ⟨g, off + i * 2, none⟩ = some (.int .i64 (ks.getD i (0, 0)).1) ∧ w.cell? ⟨g, off + i * 2 + 1, none⟩ = some (.int .i64 (ks.getD i (0, 0)).2))
theorem keysAt_below {w w' : World} {v : Value} {ks : List K2} (h : keysAt w v ks) (hb : Below w.heap.size w w') : keysAt w' v ks := by
  obtain ⟨a, cap, h1, h2, h3⟩ := h
  refine ⟨a, cap, h1, h2, h3.imp_right ?_⟩
  rintro ⟨g, off, h4, h5, h6⟩
  refine ⟨g, off, h4, Nat.lt_of_lt_of_le h5 hb.size, fun i hi => ?_⟩
  rw [hb.cell (p := ⟨g, off + i * 2, none⟩) h5, hb.cell (p := ⟨g, off + i * 2 + 1, none⟩) h5]
  exact h6 i hi
end Go.Proofs.YteijgoadcpphlaaDoor
namespace Go.Proofs.YteijgoadcpphlaaDoor

def tB (l : List UInt8) : ByteArray := ⟨l.toArray⟩
theorem tB_size (l : List UInt8) : (tB l).size = l.length := by simp [tB, ByteArray.size]
theorem tB_append (a b : List UInt8) : tB a ++ tB b = tB (a ++ b) := by
  apply ByteArray.ext
  simp [tB]
theorem join_tail_snoc (x sep : List UInt8) (l : List (List UInt8)) : Lib.joinTail sep (l ++ [x]) = Lib.joinTail sep l ++ sep ++ x := by
  simp [Lib.joinTail]
theorem join_snoc (l : List (List UInt8)) (x sep : List UInt8) : Lib.join (l ++ [x]) sep = if l = [] then x else Lib.join l sep ++ sep ++ x := by
  cases l with
  | nil => simp [Lib.join_one]
  | cons a r =>
    rw [if_neg (by simp), List.cons_append, Lib.join_cons, Lib.join_cons, join_tail_snoc]
    simp
/-- the numbers of a key lie in int's range -/
def kIn (k : K2) : Prop := (-9223372036854775808 ≤ k.1 ∧ k.1 ≤ 9223372036854775807) ∧ (-9223372036854775808 ≤ k.2 ∧ k.2 ≤ 9223372036854775807)
end Go.Proofs.YteijgoadcpphlaaDoor
namespace Go.Proofs.YteijgoadcpphlaaDoor

def folB (a s : K2) : Bool := decide (a.1 < s.1) && decide (s.1 ≤ 1000000) && (decide (a.2 < s.2) && decide (s.2 ≤ 6))
def chainB : K2 → List K2 → Bool
  | _, [] => true
  | a, s :: r => folB a s && chainB s r
def plnB : List K2 → Bool
  | [] => false
  | x :: r => x == (0, 1) && chainB x r
theorem fol_iff (a s : K2) : folB a s = true ↔ a.1 < s.1 ∧ s.1 ≤ 1000000 ∧ a.2 < s.2 ∧ s.2 ≤ 6 := by
  simp only [folB, Bool.and_eq_true, decide_eq_true_eq]
  constructor
  · rintro ⟨⟨h1, h2⟩, h3, h4⟩; exact ⟨h1, h2, h3, h4⟩
  · rintro ⟨h1, h2, h3, h4⟩; exact ⟨⟨h1, h2⟩, h3, h4⟩
theorem chain_cons (a s : K2) (r : List K2) : chainB a (s :: r) = (folB a s && chainB s r) := rfl
/-- the last of a list behind a -/
def lastK (a : K2) (l : List K2) : K2 := l.getLastD a
theorem lastK_snoc (a : K2) (l : List K2) (s : K2) : lastK a (l ++ [s]) = s := by simp [lastK]
theorem chain_snoc : ∀ (l : List K2) (a s : K2), chainB a (l ++ [s]) = (chainB a l && folB (lastK a l) s)
  | [], a, s => by simp [chainB, lastK]
  | x :: l, a, s => by
    have h1 : lastK a (x :: l) = lastK x l := by cases l <;> simp [lastK, List.getLastD]
    rw [List.cons_append, chain_cons, chain_snoc l x s, chain_cons, h1, Bool.and_assoc]
theorem chain_pre {a : K2} {l r : List K2} (hp : l <+: r) (h : chainB a l = false) : chainB a r = false := by
  obtain ⟨t, rfl⟩ := hp
  induction l generalizing a with
  | nil => simp [chainB] at h
  | cons x l ih =>
    rw [List.cons_append, chain_cons] at *
    cases hf : folB a x with
    | false => simp
    | true => rw [hf] at h; simp at h; simp [ih h]
theorem chain_len : ∀ (l : List K2) (a : K2), chainB a l = true → l = [] ∨ a.2 + (l.length : Int) ≤ 6
  | [], _, _ => .inl rfl
  | x :: l, a, h => by
    rw [chain_cons, Bool.and_eq_true, fol_iff] at h
    rcases chain_len l x h.2 with rfl | h1
    · right; simp; omega
    · right; simp; omega
theorem pln_len {ks : List K2} (h : plnB ks = true) : 1 ≤ ks.length ∧ ks.length ≤ 6 := by
  cases ks with
  | nil => simp [plnB] at h
  | cons x r =>
    simp only [plnB, Bool.and_eq_true, beq_iff_eq] at h
    obtain ⟨rfl, h2⟩ := h
    rcases chain_len r _ h2 with rfl | h3
    · simp
    · simp at h3 ⊢; omega
/-- what the model's loop asks, place by place -/
def plStep (ks : List K2) (i : Nat) : Bool := folB (ks.getD i (0, 0)) (ks.getD (i + 1) (0, 0))
theorem chain_all : ∀ (l : List K2) (a : K2), chainB a l = (List.range l.length).all (plStep (a :: l))
  | [], _ => rfl
  | x :: l, a => by
    rw [chain_cons, chain_all l x, List.length_cons, List.range_succ_eq_map, List.all_cons, List.all_map]
    rfl
theorem pln_all (x : K2) (r : List K2) : plnB (x :: r) = (x == (0, 1) && (List.range r.length).all (plStep (x :: r))) := by
  show (x == (0, 1) && chainB x r) = _
  rw [chain_all]

/-! ### the plan that is grown -/
def groF (n p : Int) : Nat → Int → Int → List K2
  | 0, _, _ => []
  | f + 1, d, a => if a < p * (d * n / (d + 1)) ∧ p * (d * n / (d + 1)) ≤ 1000000 then (p * (d * n / (d + 1)), d + 1) :: groF n p f (d + 1) (p * (d * n / (d + 1))) else []
def groOk (n p : Int) : Prop := (1 ≤ n ∧ n ≤ 100) ∧ (1 ≤ p ∧ p ≤ 1000)
instance (n p : Int) : Decidable (groOk n p) := by unfold groOk; infer_instance
def groV (n p : Int) : List K2 := if groOk n p then (0, 1) :: groF n p 5 1 0 else []
theorem least_iff {d n k : Int} (h1 : 1 ≤ d) (h2 : d ≤ 5) : k * (d + 1) < d * n - d ↔ k < d * n / (d + 1) := by
  obtain rfl | rfl | rfl | rfl | rfl : d = 1 ∨ d = 2 ∨ d = 3 ∨ d = 4 ∨ d = 5 := by omega
  all_goals (simp only [Int.reduceAdd]; omega)
theorem groQ_bd {d n : Int} (h1 : 1 ≤ d) (h2 : d ≤ 5) (h3 : 1 ≤ n) (h4 : n ≤ 100) : 0 ≤ d * n / (d + 1) ∧ d * n / (d + 1) ≤ d * 100 / (d + 1) ∧ d * 100 / (d + 1) ≤ 83 := by
  obtain rfl | rfl | rfl | rfl | rfl : d = 1 ∨ d = 2 ∨ d = 3 ∨ d = 4 ∨ d = 5 := by omega
  all_goals (simp only [Int.reduceAdd]; omega)
theorem mul_bd {p q Q : Int} (h1 : 1 ≤ p) (h2 : p ≤ 1000) (h3 : 0 ≤ q) (h4 : q ≤ Q) (h5 : Q ≤ 83) : 0 ≤ p * q ∧ p * q ≤ p * Q ∧ p * Q ≤ 83000 :=
  ⟨Int.mul_nonneg (by omega) h3, Int.mul_le_mul_of_nonneg_left h4 (by omega), Int.le_trans (Int.mul_le_mul h2 h5 (by omega) (by omega)) (by decide)⟩
theorem groF_len (n p : Int) : ∀ (f : Nat) (d a : Int), (groF n p f d a).length ≤ f
  | 0, _, _ => by simp [groF]
  | f + 1, d, a => by
    unfold groF
    split
    · have := groF_len n p f (d + 1) (p * (d * n / (d + 1))); simp; omega
    · simp
theorem groF_chain (n p : Int) : ∀ (f : Nat) (d a : Int), d + f ≤ 6 → chainB (a, d) (groF n p f d a) = true
  | 0, _, _, _ => by simp [groF, chainB]
  | f + 1, d, a, h => by
    unfold groF
    split
    · rename_i hc
      rw [chain_cons, groF_chain n p f (d + 1) _ (by omega), Bool.and_true, fol_iff]
      exact ⟨hc.1, hc.2, by simp only []; omega, by simp only []; omega⟩
    · rfl
theorem gro_plan {n p : Int} (h : groOk n p) : plnB (groV n p) = true := by
  unfold groV
  rw [if_pos h]
  simp only [plnB, Bool.and_eq_true]
  exact ⟨by decide, groF_chain n p 5 1 0 (by decide)⟩
theorem gro_len (n p : Int) : (groV n p).length ≤ 6 := by
  unfold groV
  split
  · have := groF_len n p 5 1 0; simp; omega
  · simp
end Go.Proofs.YteijgoadcpphlaaDoor
namespace Go.Proofs.YteijgoadcpphlaaDoor

def ptL (k : K2) : List UInt8 := Lib.itoa k.1 ++ [58] ++ Lib.itoa k.2
def plTextL (ks : List K2) : List UInt8 := Lib.join (ks.map ptL) [32]
theorem plText_snoc (ks : List K2) (k : K2) : plTextL (ks ++ [k]) = if ks = [] then ptL k else plTextL ks ++ [32] ++ ptL k := by
  unfold plTextL
  rw [List.map_append, List.map_cons, List.map_nil, join_snoc]
  cases ks <;> simp
theorem ptL_len {k : K2} (h : kIn k) : (ptL k).length ≤ 43 := by
  have h1 := Lib.itoa_length_le k.1 h.1.1 h.1.2
  have h2 := Lib.itoa_length_le k.2 h.2.1 h.2.2
  unfold ptL
  simp only [List.length_append, List.length_cons, List.length_nil]
  omega
theorem plText_len : ∀ (n : Nat) (ks : List K2), ks.length = n → (∀ k ∈ ks, kIn k) → (plTextL ks).length ≤ 44 * ks.length
  | 0, ks, h, _ => by
    obtain rfl : ks = [] := List.length_eq_zero_iff.1 h
    simp [plTextL, Lib.join_nil]
  | n + 1, ks, h, hk => by
    obtain ⟨r, k, rfl⟩ : ∃ r k, ks = r ++ [k] := by
      have hne : ks ≠ [] := by intro e; subst e; simp at h
      exact ⟨ks.dropLast, ks.getLast hne, (List.dropLast_concat_getLast hne).symm⟩
    have h1 := plText_len n r (by simpa using h) (fun x hx => hk x (by simp [hx]))
    have h2 := ptL_len (hk k (by simp))
    rw [plText_snoc]
    split
    · simp only [List.length_append, List.length_cons, List.length_nil]; omega
    · simp only [List.length_append, List.length_cons, List.length_nil]; omega
def ptextL (ks : List K2) : List UInt8 := if plnB ks then plTextL ks else []
theorem ptext_no {ks : List K2} (h : plnB ks = false) : ptextL ks = [] := by unfold ptextL; rw [h]; rfl
theorem ptext_ok {ks : List K2} (h : plnB ks = true) : ptextL ks = plTextL ks := by unfold ptextL; rw [h]; rfl
end Go.Proofs.YteijgoadcpphlaaDoor
namespace Go.Proofs.YteijgoadcpphlaaDoor
open Go.BigFrame Go.RowKit Go.ChangeShapes Go.WideShapes
section
variable {P : Program} {ops : Array Oper} {C : World → Prop} {Q : Act → Prop} {a : Act} {o : Oper} {rest : List Oper} {K : Act → Prop}
theorem q_load (ty : TypeId) (x : Operand) (p : Addr) (v : Value) (ho : o.op = .load ty x) (hx : a.eval x = .pointer (some p)) (hl : ∀ w, C w → (loadVar ty p).run P w = .ok v w) (hk : K (a.put o.dst v)) : o.quiet P a C K := by
  refine ⟨v, fun w hw => ?_, hk⟩
  unfold Oper.quietAt execOp
  simp only [ho, hx, Instr.loadAt, Instr.sureAddr, Sem.run_bind, Sem.run_pure, Result.andThen_ok, hl w hw]
  exact ⟨rfl, rfl⟩
end
/-- the class: new blocks alone -/
theorem wp_region_below {P : Program} {id : Nat} {Q : Exit → Act → World → Prop} {a : Act} {w : World} {l : List Oper} (w0 : World) (hm : P.follows .mixedOrders = true) (hB : Region.lexB .any l.toArray = true) (h0 : Below w0.heap.size w0 w)
    (h : wpQuiet P l.toArray (fun w' => Below w0.heap.size w0 w') (fun a' => ∀ w', Below w0.heap.size w0 w' → Q .normal a' w') l a) : (Code.region id l.toArray true).wp P Q a w :=
  wp_region_quiet (C := fun w' => Below w0.heap.size w0 w') hm hB h0.drew (by simpa using h)
end Go.Proofs.YteijgoadcpphlaaDoor
namespace Go.Proofs.YteijgoadcpphlaaDoor
open Go.ChangeShapes Go.WideShapes Go.ChangeAt Go.RowKit
set_option linter.unusedVariables false

theorem sin_any (x a b : Int) (w : World) : Calls Tryd.prog 22 #[.int .i64 x, .int .i64 a, .int .i64 b] w fun e w' => e = .returned (.bool (decide (a ≤ x) && decide (x ≤ b))) ∧ w' = w := by
  by_cases h1 : a ≤ x <;> by_cases h2 : x ≤ b
  all_goals
    go_enter Tryd.func22, Tryd.ntmps22
    go_wp2
    go_ret
    simp [h1, h2]
end Go.Proofs.YteijgoadcpphlaaDoor
namespace Go.Proofs.YteijgoadcpphlaaDoor
open Go.ChangeShapes Go.WideShapes Go.ChangeAt Go.RowKit Go.BigFrame
set_option linter.unusedVariables false

def keyCells (ks : List K2) : List Value := ks.flatMap fun k => [.int .i64 k.1, .int .i64 k.2]
theorem keyCells_len : ∀ ks : List K2, (keyCells ks).length = ks.length * 2
  | [] => rfl
  | k :: r => by
    have := keyCells_len r
    simp only [keyCells, List.flatMap_cons, List.length_append, List.length_cons, List.length_nil] at *
    omega
theorem keyCells_snoc (ks : List K2) (k : K2) : keyCells (ks ++ [k]) = keyCells ks ++ [.int .i64 k.1, .int .i64 k.2] := by simp [keyCells]
theorem keyCells_get : ∀ (ks : List K2) (i : Nat), i < ks.length → (keyCells ks)[i * 2]? = some (.int .i64 (ks.getD i (0, 0)).1) ∧ (keyCells ks)[i * 2 + 1]? = some (.int .i64 (ks.getD i (0, 0)).2)
  | [], _, h => by simp at h
  | k :: r, 0, _ => by simp [keyCells]
  | k :: r, i + 1, h => by
    have ih := keyCells_get r i (by simpa using h)
    have e1 : (i + 1) * 2 = i * 2 + 1 + 1 := by omega
    have e2 : (i + 1) * 2 + 1 = i * 2 + 1 + 1 + 1 := by omega
    rw [e1]
    simp only [keyCells, List.flatMap_cons, List.cons_append, List.nil_append, List.getElem?_cons_succ, List.getD_cons_succ] at *
    exact ih
theorem own_below {w w' : World} {base n : Nat} {e : TypeId} {size : Nat} {v : Value} {xs : List Value} (h : w.ownsRow base e size v n xs) (hb : Below w.heap.size w w') : w'.ownsRow base e size v n xs :=
  h.kept (grown_of_below' hb none) (by cases hv : v.ownBlock <;> simp)

end Go.Proofs.YteijgoadcpphlaaDoor
namespace Go.Proofs.YteijgoadcpphlaaDoor
open Go Go.Lib

def isDig (c : UInt8) : Bool := decide (48 ≤ c.toNat) && decide (c.toNat ≤ 57)
theorem dig_toNat (d : Nat) (h : d < 10) : (UInt8.ofNat (48 + d)).toNat = 48 + d := by
  simp [UInt8.toNat_ofNat']; omega
theorem dig_isDig (d : Nat) (h : d < 10) : isDig (UInt8.ofNat (48 + d)) = true := by
  simp only [isDig, dig_toNat d h]; simp; omega
theorem decDigits_lt (u : Nat) (h : u < 10) : decDigits u = [UInt8.ofNat (48 + u)] := by rw [decDigits]; simp [h]
theorem decDigits_ge (u : Nat) (h : ¬ u < 10) : decDigits u = decDigits (u / 10) ++ [UInt8.ofNat (48 + u % 10)] := by rw [decDigits]; simp [h]
theorem decDigits_all (u : Nat) : ∀ c ∈ decDigits u, isDig c = true := by
  induction u using Nat.strongRecOn with
  | _ u ih =>
    by_cases h : u < 10
    · rw [decDigits_lt u h]; intro c hc; rw [List.mem_singleton] at hc; subst hc; exact dig_isDig u h
    · rw [decDigits_ge u h]; intro c hc
      rcases List.mem_append.1 hc with hc | hc
      · exact ih (u / 10) (by omega) c hc
      · rw [List.mem_singleton] at hc; subst hc; exact dig_isDig _ (by omega)
theorem decDigits_len : ∀ (k u : Nat), 1 ≤ k → u < 10 ^ k → (decDigits u).length ≤ k := by
  intro k
  induction k with
  | zero => intro u h; omega
  | succ k ih =>
    intro u _ hu
    by_cases h : u < 10
    · rw [decDigits_lt u h]; simp
    · rw [decDigits_ge u h]
      have hk : 1 ≤ k := by
        rcases Nat.eq_zero_or_pos k with rfl | h'
        · simp at hu; omega
        · exact h'
      have := ih (u / 10) hk (by rw [Nat.pow_succ] at hu; omega)
      simp; omega
theorem decDigits_ne (u : Nat) : decDigits u ≠ [] := by
  by_cases h : u < 10
  · rw [decDigits_lt u h]; simp
  · rw [decDigits_ge u h]; simp
end Go.Proofs.YteijgoadcpphlaaDoor
namespace Go.Proofs.YteijgoadcpphlaaDoor
open Go.ChangeShapes Go.WideShapes Go.ChangeAt Go.RowKit
set_option linter.unusedVariables false

theorem idec_any (n : Int) (w : World) (h1 : -9223372036854775808 ≤ n) (h2 : n ≤ 9223372036854775807) (hT : Lib.TabIs Tryd.prog w "internal/strconv.uint64pow10" IntKind.u64 Lib.pow10Tab) :
    Calls Tryd.prog 19 #[.int .i64 n] w fun e w' => e = .returned (.string ⟨(Lib.itoa n).toArray⟩) ∧ Below w.heap.size w w' := by
  have H := Lib.hid (Tryd.strconv_Itoa n h1 h2 w hT)
  clear hT
  go_enter Tryd.func19, Tryd.ntmps19
  go_wp2_with fail
  refine H.out.mono ?_
  rintro e w' ⟨rfl, k, os, rfl⟩
  have hb := Lib.below_grow w.heap.size w (Nat.le_refl _) k os
  go_wp2
  go_ret
  exact ⟨rfl, hb⟩

def digS : ByteArray := ⟨#[48, 49, 50, 51, 52, 53, 54, 55, 56, 57]⟩
theorem dig_slice (d : Nat) (h : d < 10) : digS.extract d (d + 1) = ⟨#[UInt8.ofNat (48 + d)]⟩ := by
  have : d = 0 ∨ d = 1 ∨ d = 2 ∨ d = 3 ∨ d = 4 ∨ d = 5 ∨ d = 6 ∨ d = 7 ∨ d = 8 ∨ d = 9 := by omega
  rcases this with rfl | rfl | rfl | rfl | rfl | rfl | rfl | rfl | rfl | rfl <;> decide +kernel
/-- a numeral, of which the digits of u are still to come ahead of o -/
def DecInv (N u : Nat) (o : List UInt8) : Prop := (u = 0 → o = Lib.decDigits N) ∧ (u ≠ 0 → Lib.decDigits u ++ o = Lib.decDigits N)
theorem DecInv.step {N u : Nat} {o : List UInt8} (h : DecInv N u o) (hu : u ≠ 0) : DecInv N (u / 10) (UInt8.ofNat (48 + u % 10) :: o) := by
  have h1 := h.2 hu
  by_cases hs : u < 10
  · refine ⟨fun _ => ?_, fun h0 => by omega⟩
    rw [decDigits_lt u hs] at h1
    rw [← h1, Nat.mod_eq_of_lt hs]; rfl
  · refine ⟨fun h0 => by omega, fun _ => ?_⟩
    rw [decDigits_ge u hs] at h1
    rw [← h1]; simp
def LenInv (u : Nat) (l : List UInt8) : Prop := l.length ≤ 20 ∧ (u ≠ 0 → l.length + (Lib.decDigits u).length ≤ 20)
theorem LenInv.step {u : Nat} {l : List UInt8} (h : LenInv u l) (hu : u ≠ 0) (c : UInt8) : LenInv (u / 10) (c :: l) := by
  have h1 := h.2 hu
  by_cases hs : u < 10
  · rw [decDigits_lt u hs] at h1
    simp only [List.length_cons, List.length_nil] at h1
    exact ⟨by rw [List.length_cons]; omega, fun h0 => by omega⟩
  · rw [decDigits_ge u hs] at h1
    simp only [List.length_append, List.length_cons, List.length_nil] at h1
    exact ⟨by rw [List.length_cons]; omega, fun _ => by rw [List.length_cons]; omega⟩
theorem dec_cat (d : Nat) (h : d < 10) (o : List UInt8) : digS.extract d (d + 1) ++ (⟨o.toArray⟩ : ByteArray) = ⟨(UInt8.ofNat (48 + d) :: o).toArray⟩ := by
  rw [dig_slice d h]; apply ByteArray.ext; simp

set_option maxHeartbeats 400000 in
theorem sdec_pos (N : Nat) (w : World) (h1 : 1 ≤ N) (h2 : (N : Int) ≤ 9223372036854775807) :
    Calls Tryd.prog 10 #[.int .i64 N] w fun e w' => e = .returned (.string ⟨(Lib.decDigits N).toArray⟩) ∧ w' = w := by
  have e0 : ((N : Int) == 0) = false := by rw [beq_eq_false_iff_ne]; omega
  go_enter Tryd.func10, Tryd.ntmps10
  go_wp2
  go_loop [3, 4, 5] (fun o m _ => ∃ (u : Nat) (l : List UInt8), m = .int .i64 u ∧ u ≤ N ∧ o = .string ⟨l.toArray⟩ ∧ l.length ≤ N - u ∧ Hid (DecInv N u l)) (fun _ m _ => (intOf m).toNat)
  case atStart => exact ⟨N, [], rfl, Nat.le_refl _, rfl, by simp, ⟨fun h => by omega, fun _ => by simp⟩⟩
  case round =>
    obtain ⟨u, l, rfl, hu, rfl, hl, hinv⟩ := hrel
    by_cases hz : u = 0
    · subst hz
      have HL := Lib.hid (hinv.out.1 rfl)
      go_wp2
      go_ret
      exact ⟨by rw [← HL.out]; rfl, rfl⟩
    · have hs := hinv.out.step hz
      have HS := Lib.hid hs; clear hs
      go_wp2
      exact ⟨⟨u / 10, UInt8.ofNat (48 + u % 10) :: l, by go_num, by omega, by rw [← dec_cat _ (by omega)]; rfl, by rw [List.length_cons]; omega, HS.out⟩, by simp [intOf]; omega⟩

set_option maxHeartbeats 400000 in
theorem sdec_neg (N : Nat) (w : World) (h1 : 1 ≤ N) (h2 : (N : Int) ≤ 9223372036854775808) :
    Calls Tryd.prog 10 #[.int .i64 (-(N : Int))] w fun e w' => e = .returned (.string ⟨(45 :: Lib.decDigits N).toArray⟩) ∧ w' = w := by
  have e0 : ((-(N : Int)) == 0) = false := by rw [beq_eq_false_iff_ne]; omega
  have en : (-(N : Int)) < 0 := by omega
  go_enter Tryd.func10, Tryd.ntmps10
  go_wp2
  go_loop [3, 4, 5] (fun o m _ => ∃ (u : Nat) (l : List UInt8), m = .int .i64 (-(u : Int)) ∧ u ≤ N ∧ o = .string ⟨l.toArray⟩ ∧ l.length ≤ 20 ∧ Hid (DecInv N u l ∧ LenInv u l)) (fun _ m _ => (-(intOf m)).toNat)
  case atStart => exact ⟨N, [], rfl, Nat.le_refl _, rfl, by simp, ⟨⟨fun h => by omega, fun _ => by simp⟩, ⟨by simp, fun _ => by have := decDigits_len 19 N (by omega) (by have h9 : (10 : Nat) ^ 19 = 10000000000000000000 := rfl; omega); simp; omega⟩⟩⟩
  case round =>
    obtain ⟨u, l, rfl, hu, rfl, hl, hinv⟩ := hrel
    by_cases hz : u = 0
    · subst hz
      have HL := Lib.hid (hinv.out.1.1 rfl)
      go_wp2
      go_ret
      exact ⟨by rw [← HL.out]; show Ending.returned (Value.string _) = _; congr 2, rfl⟩
    · have hs := hinv.out.1.step hz
      have HS := Lib.hid hs; clear hs
      have HL2 := Lib.hid (hinv.out.2.step hz (UInt8.ofNat (48 + u % 10)))
      have e1 : ((-(u : Int)) != 0) = true := by rw [bne_iff_ne]; omega
      have e2 : (-(u : Int)).tmod 10 = -((u : Int) % 10) := by rw [Int.neg_tmod, Int.tmod_eq_emod_of_nonneg (by omega)]
      have e3 : (-(u : Int)).tdiv 10 = -((u : Int) / 10) := by rw [Int.neg_tdiv, Int.tdiv_eq_ediv_of_nonneg (by omega)]
      by_cases hd : u % 10 = 0
      · have e4 : (u : Int) % 10 = 0 := by omega
        go_wp2
        exact ⟨⟨u / 10, UInt8.ofNat (48 + u % 10) :: l, by simp, by omega, by rw [hd]; exact congrArg Value.string (dec_cat 0 (by omega) l), HL2.out.1, HS.out, HL2.out⟩, by simp [intOf]; omega⟩
      · have e4 : 0 < (u : Int) % 10 := by omega
        go_wp2
        exact ⟨⟨u / 10, UInt8.ofNat (48 + u % 10) :: l, by simp, by omega, congrArg Value.string (dec_cat (u % 10) (by omega) l), HL2.out.1, HS.out, HL2.out⟩, by simp [intOf]; omega⟩

theorem sdec_any (n : Int) (w : World) (h1 : -9223372036854775808 ≤ n) (h2 : n ≤ 9223372036854775807) :
    Calls Tryd.prog 10 #[.int .i64 n] w fun e w' => e = .returned (.string ⟨(Lib.itoa n).toArray⟩) ∧ w' = w := by
  by_cases hneg : n < 0
  · obtain ⟨N, rfl⟩ : ∃ N : Nat, n = -(N : Int) := ⟨n.natAbs, by omega⟩
    rw [Lib.itoa_neg N (by omega)]
    exact sdec_neg N w (by omega) (by omega)
  · obtain ⟨N, rfl⟩ : ∃ N : Nat, n = (N : Int) := ⟨n.toNat, by omega⟩
    rw [Lib.itoa_nonneg]
    by_cases h0 : N = 0
    · subst h0
      have hd : Lib.decDigits 0 = [48] := decDigits_lt 0 (by omega)
      rw [hd]
      go_enter Tryd.func10, Tryd.ntmps10
      go_wp2
      go_ret
      exact ⟨rfl, rfl⟩
    · exact sdec_pos N w (by omega) h2

theorem gPow : Tryd.prog.globalNamed "internal/strconv.uint64pow10" = some 1 := by kernel_rfl

theorem tab_below {w w' : World} (h : Lib.TabIs Tryd.prog w "internal/strconv.uint64pow10" IntKind.u64 Lib.pow10Tab) (hb : Below w.heap.size w w') : Lib.TabIs Tryd.prog w' "internal/strconv.uint64pow10" IntKind.u64 Lib.pow10Tab :=
by
  refine var?_below hb gPow ?_ h
  unfold Lib.TabIs World.var? at h
  rw [gPow] at h
  simp only [Option.bind_some] at h
  rcases Nat.lt_or_ge 1 w.heap.size with h' | h'
  · exact h'
  · rw [Array.getElem?_eq_none h'] at h; cases h

end Go.Proofs.YteijgoadcpphlaaDoor
namespace Go.Proofs.YteijgoadcpphlaaDoor
open Go.ChangeShapes Go.WideShapes Go.ChangeAt Go.RowKit Go.BigFrame
set_option linter.unusedVariables false

theorem int_load {w : World} {g o : Nat} {n : Int} (hc : w.cell? ⟨g, o, none⟩ = some (.int .i64 n)) : (loadVar 3 ⟨g, o, none⟩).run Tryd.prog w = .ok (.int .i64 n) w := by
  have u3 := Tryd.underlying3
  go_simp
def decB (n : Int) : ByteArray := tB (Lib.itoa n)
theorem decB_size {n : Int} (h : -9223372036854775808 ≤ n ∧ n ≤ 9223372036854775807) : (decB n).size ≤ 21 := by
  unfold decB
  rw [tB_size]
  exact Lib.itoa_length_le n h.1 h.2
theorem take_snoc_key (ks : List K2) (k : Nat) (h : k < ks.length) : ks.take (k + 1) = ks.take k ++ [ks.getD k (0, 0)] := by rw [List.take_add_one]; simp [List.getD, h]
end Go.Proofs.YteijgoadcpphlaaDoor
namespace Go.Proofs.YteijgoadcpphlaaDoor
open Go.RowKit Go.Shelf
attribute [local go_sem] Oper.semAt_some
set_option linter.unusedVariables false

/-- the slice value v leads to the keys ks, in blocks below n₀ -/
def keysIn0 (n₀ : Nat) (w : World) (v : Value) (ks : List K2) : Prop :=
  ∃ a cap, v = .slice a ks.length cap ∧ ks.length ≤ cap ∧ (ks.length = 0 ∨ ∃ g off, a = some ⟨g, off, none⟩ ∧ g < n₀ ∧ g < w.heap.size ∧
    ∀ i, i < ks.length → w.cell? ⟨g, off + i * 2, none⟩ = some (.int .i64 (ks.getD i (0, 0)).1) ∧ w.cell? ⟨g, off + i * 2 + 1, none⟩ = some (.int .i64 (ks.getD i (0, 0)).2))
theorem keysIn0.below {n₀ : Nat} {w w' : World} {v : Value} {ks : List K2} (h : keysIn0 n₀ w v ks) (hb : Below n₀ w w') : keysIn0 n₀ w' v ks := by
  obtain ⟨a, cap, h1, h2, h3⟩ := h
  refine ⟨a, cap, h1, h2, h3.imp_right ?_⟩
  rintro ⟨g, off, h4, h0, h5, h6⟩
  refine ⟨g, off, h4, h0, Nat.lt_of_lt_of_le h5 hb.size, fun i hi => ?_⟩
  rw [hb.cell (p := ⟨g, off + i * 2, none⟩) h0, hb.cell (p := ⟨g, off + i * 2 + 1, none⟩) h0]
  exact h6 i hi
theorem keysIn0.at {n₀ : Nat} {w : World} {v : Value} {ks : List K2} (h : keysIn0 n₀ w v ks) : keysAt w v ks := by
  obtain ⟨a, cap, h1, h2, h3⟩ := h
  exact ⟨a, cap, h1, h2, h3.imp_right fun ⟨g, off, h4, _, h5, h6⟩ => ⟨g, off, h4, h5, h6⟩⟩
theorem keysIn0_of {w : World} {v : Value} {ks : List K2} (h : keysAt w v ks) : keysIn0 w.heap.size w v ks := by
  obtain ⟨a, cap, h1, h2, h3⟩ := h
  exact ⟨a, cap, h1, h2, h3.imp_right fun ⟨g, off, h4, h5, h6⟩ => ⟨g, off, h4, h5, h5, h6⟩⟩

end Go.Proofs.YteijgoadcpphlaaDoor
namespace Go.Proofs.YteijgoadcpphlaaDoor
open Go.RowKit
set_option linter.unusedVariables false

theorem set_cells {w : World} {B j : Nat} {cs : Array Value} {t : TypeId} (u : Value) (h : w.heap[B]? = some (.cells cs t (0, 0))) : (w.setCell ⟨B, j, none⟩ u).heap[B]? = some (.cells (cs.setIfInBounds j u) t (0, 0)) := by
  obtain ⟨hlt, hk⟩ := Array.getElem?_eq_some_iff.1 h
  show (w.heap.modify B _)[B]? = _
  rw [Array.getElem?_eq_getElem (by rw [Array.size_modify]; exact hlt), Array.getElem_modify_self, hk]
  rfl
end Go.Proofs.YteijgoadcpphlaaDoor
namespace Go.Proofs.YteijgoadcpphlaaDoor
open Go.RowKit Go.Shelf
set_option linter.unusedVariables false

/-- the slice value without its first key -/
theorem keysIn0_tail {n₀ : Nat} {w : World} {g off c : Nat} {k : K2} {r : List K2} (h : keysIn0 n₀ w (.slice (some ⟨g, off, none⟩) (r.length + 1) c) (k :: r)) (c' : Nat) (hc : r.length ≤ c') :
    keysIn0 n₀ w (.slice (some ⟨g, off + 2, none⟩) r.length c') r := by
  obtain ⟨a, cap, h1, h2, h3⟩ := h
  simp only [List.length_cons, Value.slice.injEq, true_and] at h1
  obtain ⟨rfl, rfl⟩ := h1
  obtain ⟨g2, off2, e, h4, h5, h6⟩ := h3.resolve_left (by simp)
  cases e
  refine ⟨_, c', rfl, hc, .inr ⟨g, off + 2, rfl, h4, h5, fun i hi => ?_⟩⟩
  have := h6 (i + 1) (by simp; omega)
  rw [show off + (i + 1) * 2 = off + 2 + i * 2 by omega] at this
  simpa using this
theorem addr_add (g off j : Nat) : (⟨g, off, none⟩ : Addr).add j = ⟨g, off + j, none⟩ := by
  unfold Addr.add
  split
  · rename_i h; simp [h]
  · rfl
theorem keysIn0_tail2 {n₀ : Nat} {w : World} {g o o' c : Nat} {k : K2} {r : List K2} (h : keysIn0 n₀ w (.slice (some ⟨g, o, none⟩) (r.length + 1) c) (k :: r)) (hc : r.length + 1 ≤ c) (ho : (c - 1 = 0 ∧ o' = o) ∨ o' = o + 2) :
    keysIn0 n₀ w (.slice (some ⟨g, o', none⟩) r.length (c - 1)) r := by
  rcases ho with ⟨h0, rfl⟩ | rfl
  · exact ⟨_, c - 1, rfl, by omega, .inl (by omega)⟩
  · exact keysIn0_tail h _ (by omega)
end Go.Proofs.YteijgoadcpphlaaDoor
namespace Go.Proofs.YteijgoadcpphlaaDoor
set_option linter.unusedVariables false

theorem cell_two_new (w : World) (x y : Value) (e : TypeId) : ∀ j u, ([x, y] : List Value)[j]? = some u → (w.alloc (.cells #[x, y] e)).cell? ((⟨w.heap.size, 0, none⟩ : Addr).add j) = some u := by
  intro j u hj
  have : j < 2 := by have := (List.getElem?_eq_some_iff.1 hj).1; simpa using this
  rcases (by omega : j = 0 ∨ j = 1) with rfl | rfl <;> simpa [Addr.add_lit] using hj
end Go.Proofs.YteijgoadcpphlaaDoor
namespace Go.Proofs.YteijgoadcpphlaaDoor
open Go.ChangeShapes Go.WideShapes Go.ChangeAt Go.RowKit
set_option linter.unusedVariables false
theorem results_cell {fn : Func} {p : Tmp} {ty : TypeId} (h : fn.results = #[.cell p ty]) (tmps : Array Value) (P : Program) (w : World) :
    (results fn tmps).run P w = ((asAddr (tmps.getD p undef)).run P w).andThen fun a w₁ => (loadVar ty a).run P w₁ := by
  simp only [results, h]
  simp [Sem.run_bind]
theorem heap_mid (w : World) (a b c : Obj) : (((w.alloc a).alloc b).alloc c).heap[w.heap.size + 1]? = some b := by
  show (((w.heap.push a).push b).push c)[w.heap.size + 1]? = some b
  rw [Array.getElem?_push, if_neg (by simp), Array.getElem?_push, if_pos (by simp)]
end Go.Proofs.YteijgoadcpphlaaDoor
namespace Go.Proofs.YteijgoadcpphlaaDoor
open Go.ChangeShapes Go.WideShapes Go.ChangeAt Go.RowKit Go.BigFrame
set_option linter.unusedVariables false
theorem own_cell {w : World} {base g n cap : Nat} {e : TypeId} {size : Nat} {xs : List Value} (h : w.ownsRow base e size (.slice (some ⟨g, 0, none⟩) n cap) n xs) (j : Nat) (hj : j < n * size) :
    w.cell? ⟨g, j, none⟩ = some (xs.getD j undef) ∧ w.frozen? ⟨g, j, none⟩ = false := by
  have hl : xs.length = n * size := h.1
  refine ⟨?_, ?_⟩
  · rw [h.cellAt j hj]
    simp [List.getD, show j < xs.length by omega]
  · rcases h.2 with ⟨h1, _⟩ | ⟨g', cap', cur, h1, _, hg, _⟩
    · simp at h1
    · simp only [Value.slice.injEq, Option.some.injEq, Addr.mk.injEq, and_true, true_and] at h1
      obtain ⟨rfl, rfl⟩ := h1
      simp [World.frozen?, hg]
theorem ownsRowK_shape {w : World} {base n : Nat} {e : TypeId} {v : Value} {size : Nat} {xs : List Value} (h : w.ownsRow base e size v n xs) :
    (v = .slice none 0 0 ∧ n = 0) ∨ ∃ g cap, v = .slice (some ⟨g, 0, none⟩) n cap ∧ n ≤ cap ∧ cap ≤ maxLen ∧ base ≤ g ∧ g < w.heap.size := by
  rcases h.2 with h1 | ⟨g, cap, cur, rfl, h2, h3, h4, h5, _⟩
  · exact .inl h1
  · exact .inr ⟨g, cap, rfl, h4, h5, h2, (Array.getElem?_eq_some_iff.1 h3).1⟩
theorem own_base {w : World} {base base' n : Nat} {e : TypeId} {size : Nat} {v : Value} {xs : List Value} (h : w.ownsRow base' e size v n xs) (hb : base ≤ base') : w.ownsRow base e size v n xs := by
  refine ⟨h.1, h.2.imp_right ?_⟩
  rintro ⟨g, cap, cur, h1, h2, h3⟩
  exact ⟨g, cap, cur, h1, Nat.le_trans hb h2, h3⟩
end Go.Proofs.YteijgoadcpphlaaDoor
namespace Go.Proofs.YteijgoadcpphlaaDoor
open Go.ChangeShapes Go.WideShapes Go.ChangeAt Go.RowKit Go.BigFrame
set_option linter.unusedVariables false

theorem set_key (ks : List K2) (k : Nat) (p q : Int) (u1 u2 : Value) (rest : List Value) (hk : k < ks.length) (hx : ks.getD k (0, 0) = (p, q)) :
    ((keyCells (ks.take k) ++ u1 :: u2 :: rest).set (k * 2) (.int .i64 p)).set (k * 2 + 1) (.int .i64 q) = keyCells (ks.take (k + 1)) ++ rest := by
  have hl := keyCells_len (ks.take k)
  have hl2 : (keyCells (ks.take k)).length = k * 2 := by rw [hl]; simp; omega
  rw [List.take_succ_eq_append_getElem hk, keyCells_snoc, show ks[k] = (p, q) by rw [← hx]; simp [List.getD, hk]]
  rw [List.set_append_right _ _ (by omega), hl2, Nat.sub_self, List.set_cons_zero, List.set_append_right _ _ (by omega), hl2, show k * 2 + 1 - k * 2 = 1 by omega]
  simp
end Go.Proofs.YteijgoadcpphlaaDoor
namespace Go.Proofs.YteijgoadcpphlaaDoor
open Go.ChangeShapes Go.WideShapes Go.ChangeAt Go.RowKit Go.BigFrame
set_option linter.unusedVariables false

theorem step_load {w : World} {g o : Nat} {k : K2} (hc : w.cell? ⟨g, o, none⟩ = some (.int .i64 k.1) ∧ w.cell? ⟨g, o + 1, none⟩ = some (.int .i64 k.2)) {w' : World} (hg : g < w.heap.size) (hb : Below w.heap.size w w') :
    (loadVar 31 ⟨g, o, none⟩).run Tryd.prog w' = .ok (kv k) w' := by
  refine run_loadVar_mid w' g o 31 [.int .i64 k.1, .int .i64 k.2] _ (fun j v hj => ?_) Tryd.underlying31 rfl (by kernel_rfl)
  have hj2 : j < 2 := by have := (List.getElem?_eq_some_iff.1 hj).1; simpa using this
  rcases (by omega : j = 0 ∨ j = 1) with rfl | rfl
  · rw [hb.cell (p := ⟨g, o + 0, none⟩) hg]
    simpa using hc.1.trans (by simpa using hj)
  · rw [hb.cell (p := ⟨g, o + 1, none⟩) hg]
    simpa using hc.2.trans (by simpa using hj)
theorem step_equal (p q : K2) (w : World) : (Op.equalIn 10000 31 (kv p) (kv q)).run Tryd.prog w = .ok (p == q) w := by
  obtain ⟨a, b⟩ := p; obtain ⟨c, d⟩ := q
  have u3 := Tryd.underlying3
  have hS : Tryd.prog.underlying 31 = some (.struct (Tryd.prog.fieldsOf 31)) := by kernel_rfl
  unfold kv
  rw [show (10000 : Nat) = 9999 + 1 from rfl, run_equalIn_agg w 9999 31 _ _ hS (by kernel_rfl)]
  simp only [Program.fieldsOf, Tryd.underlying31]
  go_simp
  by_cases h1 : a = c <;> by_cases h2 : b = d <;> simp [h1, h2]
theorem step_neq (p q : K2) (w : World) : (binOp .neq 31 (kv p) (kv q)).run Tryd.prog w = .ok (.bool (!(p == q))) w := by
  have := step_equal p q w
  unfold kv at *
  rw [run_neq_struct, this]; rfl
theorem step_guard (op : BinOp) (x y : Operand) (p q : K2) (w : World) : (eqGuard op 31 x y (kv p) (kv q)).run Tryd.prog w = .ok () w := by
  unfold kv
  exact run_eqGuard_agg w op 31 x y _ _ (by kernel_rfl)
theorem infoSt : (Tryd.prog.info? 31).map (fun i => (i.zero, i.size, i.bytes)) = some (some (.agg #[.int .i64 0, .int .i64 0]), 2, 16) := by kernel_rfl
/-- what is owned leads to its keys -/
theorem stepsAt_own {w : World} {base : Nat} {v : Value} {ks : List K2} (h : w.ownsRow base 31 2 v ks.length (keyCells ks)) : keysAt w v ks := by
  rcases h.2 with ⟨rfl, h0⟩ | ⟨g, cap, cur, rfl, hb, hg, hn, hm, hs, ht⟩
  · exact ⟨none, 0, by rw [h0], by omega, .inl h0⟩
  · refine ⟨_, cap, rfl, hn, .inr ⟨g, 0, rfl, (Array.getElem?_eq_some_iff.1 hg).1, fun i hi => ?_⟩⟩
    have hc := keyCells_get ks i hi
    rw [Nat.zero_add, h.cellAt (i * 2) (by omega), h.cellAt (i * 2 + 1) (by omega)]
    exact hc
theorem tostep_any (k : K2) (w : World) : Calls Tryd.prog 23 #[kv k] w fun e w' => e = .returned (kv k) ∧ Below w.heap.size w w' := by
  obtain ⟨n, s⟩ := k
  unfold kv
  dsimp only
  have hB : ∀ o1 o2 o3, Below w.heap.size w (((w.alloc o1).alloc o2).alloc o3) := fun o1 o2 o3 => (((Below.refl _ _).alloc (Nat.le_refl _) _).alloc (by simp) _).alloc (by simp; omega) _
  have HB := Lib.hid hB; clear hB
  go_enter Tryd.func23, Tryd.ntmps23
  go_wp2
  refine bodyPost_ret (v := .agg #[.int .i64 n, .int .i64 s]) ?_ rfl ⟨rfl, HB.out _ _ _⟩
  rw [results_cell (p := 2) (ty := 31) (by kernel_rfl)]
  have hl := run_loadVar_row (P := Tryd.prog) (((w.alloc (.cells #[.int .i64 n, .int .i64 s] 48)).alloc (.cells #[.int .i64 n, .int .i64 s] 31)).alloc (.cells #[.int .i64 n, .int .i64 s] 31)) (w.heap.size + 1) 31 31 #[.int .i64 n, .int .i64 s] (0, 0) _ (heap_mid w _ _ _) Tryd.underlying31 rfl (by kernel_rfl)
  simp [asAddr, Result.andThen, hl]
theorem eqstep_any (p q : K2) (w : World) : Calls Tryd.prog 24 #[kv p, kv q] w fun e w' => e = .returned (.bool (p == q)) ∧ Below w.heap.size w w' := by
  obtain ⟨a, b⟩ := p; obtain ⟨c, d⟩ := q
  have hB : ∀ o o', Below w.heap.size w ((w.alloc o).alloc o') := fun o o' => ((Below.refl _ _).alloc (Nat.le_refl _) _).alloc (by simp) _
  have HB := Lib.hid hB; clear hB
  by_cases h1 : a = c
  · by_cases h2 : b = d
    · have he : ((a, b) == (c, d)) = true := by simp [h1, h2]
      rw [he]
      unfold kv
      dsimp only
      subst h1; subst h2
      go_enter Tryd.func24, Tryd.ntmps24
      go_wp2
      go_ret
      exact ⟨rfl, HB.out _ _⟩
    · have he : ((a, b) == (c, d)) = false := by simp [h1, h2]
      rw [he]
      unfold kv
      dsimp only
      subst h1
      go_enter Tryd.func24, Tryd.ntmps24
      go_wp2
      go_ret
      exact ⟨rfl, HB.out _ _⟩
  · have he : ((a, b) == (c, d)) = false := by simp [h1]
    rw [he]
    unfold kv
    dsimp only
    go_enter Tryd.func24, Tryd.ntmps24
    go_wp2
    go_ret
    exact ⟨rfl, HB.out _ _⟩
theorem szsteps_any (v : Value) (ks : List K2) (left : Int) (w : World) (h : ∃ a cap, v = .slice a ks.length cap) (hl : 0 ≤ left ∧ left ≤ 1000000000) (hs : ks.length ≤ 9223372036854775807) :
    Calls Tryd.prog 12 #[v, .int .i64 left] w fun e w' => e = .returned (.int .i64 (if left - (ks.length : Int) < 0 then -1 else left - (ks.length : Int))) ∧ w' = w := by
  obtain ⟨a, cap, rfl⟩ := h
  by_cases hn : left - (ks.length : Int) < 0
  · rw [if_pos hn]
    have ew : IntKind.i64.wrap (left - (ks.length : Int)) = left - (ks.length : Int) := IntWalk.i64_in _ (by omega)
    go_enter Tryd.func12, Tryd.ntmps12
    go_wp2
    go_ret
    exact ⟨rfl, rfl⟩
  · rw [if_neg hn]
    have ew : IntKind.i64.wrap (left - (ks.length : Int)) = left - (ks.length : Int) := IntWalk.i64_in _ (by omega)
    go_enter Tryd.func12, Tryd.ntmps12
    go_wp2
    go_ret
    exact ⟨rfl, rfl⟩
set_option maxRecDepth 100000 in
set_option maxHeartbeats 1000000 in
theorem tosteps_any (v : Value) (ks : List K2) (w : World) (h : keysAt w v ks) (hs : ks.length ≤ 2000000) : Calls Tryd.prog 13 #[v] w fun e w' => ∃ g, e = .returned (.slice (some ⟨g, 0, none⟩) ks.length ks.length) ∧ w.heap.size ≤ g ∧
    w'.ownsRow w.heap.size 31 2 (.slice (some ⟨g, 0, none⟩) ks.length ks.length) ks.length (keyCells ks) ∧ Below w.heap.size w w' := by
  obtain ⟨a, cap, rfl, hcap, hcells⟩ := h
  obtain ⟨i0, hi, hz0, hz1, hz2⟩ := info_parts infoSt
  obtain ⟨W, hmk, hown0, hgr0⟩ := run_make_full (P := Tryd.prog) w w.heap.size 24 31 i0 _ 2 Tryd.underlying24 hi hz0 hz1 .i64 .i64 ks.length (by rw [hz2]; omega) (by unfold maxLen; omega) (Nat.le_refl _)
  have hb0 : Below w.heap.size w W := (Below.refl _ _).grown hgr0 (Nat.le_refl _) (by simp)
  have hrest : (madeCells (Value.agg #[.int .i64 0, .int .i64 0]).cells (ks.length * 2)).toList.length = ks.length * 2 := hown0.1
  generalize (madeCells (Value.agg #[.int .i64 0, .int .i64 0]).cells (ks.length * 2)).toList = Z at *
  go_enter Tryd.func13, Tryd.ntmps13
  go_wp2
  clear hmk hgr0
  go_loopw [4] (fun i wr => ∃ (k : Nat) (rest : List Value), k ≤ ks.length ∧ i = .int .i64 k ∧ wr.ownsRow w.heap.size 31 2 (.slice (some ⟨w.heap.size, 0, none⟩) ks.length ks.length) ks.length (keyCells (ks.take k) ++ rest) ∧ Below w.heap.size w wr)
    (fun i _ => ks.length - (intOf i).toNat)
  case atStart => exact ⟨0, Z, Nat.zero_le _, rfl, by simpa [keyCells] using hown0, hb0⟩
  case round =>
    obtain ⟨k, rest, hk, rfl, hown, hbr⟩ := hrel
    clear hown0 hb0 hrest
    by_cases hlt : k < ks.length
    · obtain ⟨ga, off, rfl, hg, hcs⟩ := hcells.resolve_left (by omega)
      have hc := hcs k hlt
      have z0 : (0 : Int) ≤ (k : Int) := by omega
      have z1 : (k : Int) < (ks.length : Int) := by omega
      have d1 : wr.cell? ⟨ga, off + k * 2, none⟩ = some (.int .i64 (ks.getD k (0, 0)).1) := by rw [hbr.cell (p := ⟨ga, off + k * 2, none⟩) hg]; exact hc.1
      have d2 : wr.cell? ⟨ga, off + k * 2 + 1, none⟩ = some (.int .i64 (ks.getD k (0, 0)).2) := by rw [hbr.cell (p := ⟨ga, off + k * 2 + 1, none⟩) hg]; exact hc.2
      clear hcs hc hcells
      have hkt : (ks.take k).length = k := by simp; omega
      have hkl := keyCells_len (ks.take k)
      have hrl : rest.length = (ks.length - k) * 2 := by
        have := hown.1
        rw [List.length_append, hkl, hkt] at this
        omega
      obtain ⟨u1, u2, rest2, rfl⟩ : ∃ u1 u2 r, rest = u1 :: u2 :: r := by
        match rest, hrl with
        | [], h => simp at h; omega
        | [_], h => simp at h; omega
        | a :: b :: r, _ => exact ⟨a, b, r, rfl⟩
      generalize hkx : ks.getD k (0, 0) = kx at *
      obtain ⟨p, q⟩ := kx
      have hset := set_key ks k p q u1 u2 rest2 hlt hkx
      have HSET := Lib.hid hset
      have HT := Lib.hid (tostep_any (p, q) wr)
      clear hkx hset hrl
      go_wp2_with fail
      refine HT.out.mono ?_
      rintro e w2 ⟨rfl, hb2⟩
      have hown2 := own_below hown hb2
      have hbq := hbr.trans (hb2.mono hbr.size)
      clear hown hbr hb2 HT d1 d2
      have st1 := hown2.stored (k * 2) (.int .i64 p)
      have st2 := st1.1.stored (k * 2 + 1) (.int .i64 q)
      rw [HSET.out] at st2
      have hbz := (hbq.setCell (p := ⟨w.heap.size, k * 2, none⟩) (Nat.le_refl _) (.int .i64 p)).setCell (p := ⟨w.heap.size, k * 2 + 1, none⟩) (Nat.le_refl _) (.int .i64 q)
      have R := Lib.hid (And.intro st2.1 hbz)
      clear st1 st2 hbz hbq HSET
      obtain ⟨s1, s2⟩ := own_cell hown2 (k * 2) (by omega)
      obtain ⟨s3, s4⟩ := own_cell hown2 (k * 2 + 1) (by omega)
      unfold kv
      dsimp only
      go_wp2
      exact ⟨⟨k + 1, rest2, by omega, by go_num, R.out.1, R.out.2⟩, by simp [intOf]; omega⟩
    · obtain rfl : k = ks.length := by omega
      rw [List.take_length] at hown
      have hr0 : rest = [] := by
        have h1 := hown.1
        rw [List.length_append, keyCells_len] at h1
        exact List.eq_nil_of_length_eq_zero (by omega)
      subst hr0
      rw [List.append_nil] at hown
      go_wp2
      go_ret
      exact ⟨w.heap.size, rfl, Nat.le_refl _, hown, hbr⟩
set_option maxRecDepth 100000 in
set_option maxHeartbeats 1000000 in
theorem eqsteps_any (va vb : Value) (A B : List K2) (w : World) (ha : keysAt w va A) (hb : keysAt w vb B) (hsA : A.length ≤ 4000000) (hsB : B.length ≤ 4000000) :
    Calls Tryd.prog 14 #[va, vb] w fun e w' => e = .returned (.bool (decide (A = B))) ∧ Below w.heap.size w w' := by
  obtain ⟨aa, ca, rfl, hca, hcA⟩ := ha
  obtain ⟨ab, cb, rfl, hcb, hcB⟩ := hb
  by_cases hl : A.length = B.length
  · have e0 : (A.length : Int) = (B.length : Int) := by omega
    go_enter Tryd.func14, Tryd.ntmps14
    rw [hl] at hca hcA ⊢
    go_wp2
    go_loopw [5] (fun i wr => ∃ k : Nat, k ≤ B.length ∧ i = .int .i64 k ∧ (∀ j, j < k → A.getD j (0, 0) = B.getD j (0, 0)) ∧ Below w.heap.size w wr) (fun i _ => B.length - (intOf i).toNat)
    case atStart => exact ⟨0, Nat.zero_le _, rfl, fun j hj => by omega, Below.refl _ _⟩
    case round =>
      obtain ⟨k, hk, rfl, hall, hbr⟩ := hrel
      by_cases hlt : k < B.length
      · obtain ⟨ga, offa, rfl, hga, hcsA⟩ := hcA.resolve_left (by omega)
        obtain ⟨gb, offb, rfl, hgb, hcsB⟩ := hcB.resolve_left (by omega)
        have cA := hcsA k hlt
        have cB := hcsB k hlt
        have z0 : (0 : Int) ≤ (k : Int) := by omega
        have z1 : (k : Int) < (B.length : Int) := by omega
        clear hcsA hcsB hcA hcB
        have L1 : ∀ w', Below w.heap.size w w' → (loadVar 31 ⟨ga, offa + k * 2, none⟩).run Tryd.prog w' = .ok (kv (A.getD k (0, 0))) w' := fun w' h => step_load cA hga h
        have L2 : ∀ w', Below w.heap.size w w' → (loadVar 31 ⟨gb, offb + k * 2, none⟩).run Tryd.prog w' = .ok (kv (B.getD k (0, 0))) w' := fun w' h => step_load cB hgb h
        have HE := Lib.hid (fun w => eqstep_any (A.getD k (0, 0)) (B.getD k (0, 0)) w)
        clear cA cB
        cases he : (A.getD k (0, 0) == B.getD k (0, 0)) with
        | true =>
          have hn : ∀ j, j < k + 1 → A.getD j (0, 0) = B.getD j (0, 0) := by
            intro j hj
            rcases (by omega : j < k ∨ j = k) with h1 | rfl
            · exact hall j h1
            · exact eq_of_beq he
          have HN := Lib.hid hn
          rw [he] at HE
          clear hall hn
          generalize A.getD k (0, 0) = kx at *
          generalize B.getD k (0, 0) = ky at *
          go_wp2
          refine wp_region_below w (by kernel_rfl) (by kernel_rfl) hbr ?_
          repeat (first
            | go_big_quiet_skip
            | (go_big_quiet_want
               first
                 | (go_big_quiet_op; go_big_quiet_on)
                 | (refine q_load 31 _ _ _ rfl rfl L1 ?_; simp only [Act.put, List.setIfInBounds_toArray, List.set_cons_zero, List.set_cons_succ]; go_big_quiet_on)
                 | (refine q_load 31 _ _ _ rfl rfl L2 ?_; simp only [Act.put, List.setIfInBounds_toArray, List.set_cons_zero, List.set_cons_succ]; go_big_quiet_on)
                 | (go_big_quiet_op; refine ⟨_, fun _ _ => rfl, ?_⟩; go_big_quiet_on)
                 | (go_big_quiet_op; apply Exists.intro; refine ⟨fun w' hw' => ?_, ?_⟩
                    · first
                      | (refine (HE.out w').mono ?_
                         rintro e w2 ⟨rfl, hb2⟩
                         exact ⟨rfl, hw'.trans (hb2.mono hw'.size)⟩)
                    go_big_quiet_on)))
          refine wpQuiet_nil ?_
          intro w2 hb2
          clear L1 L2 HE hbr
          go_wp2
          exact ⟨⟨k + 1, by omega, by go_num, HN.out, hb2⟩, by simp [intOf]; omega⟩
        | false =>
          have hne : decide (A = B) = false := by
            simp only [decide_eq_false_iff_not]
            intro e
            subst e
            simp at he
          have HD := Lib.hid hne
          rw [he] at HE
          clear hall hne
          generalize A.getD k (0, 0) = kx at *
          generalize B.getD k (0, 0) = ky at *
          go_wp2
          refine wp_region_below w (by kernel_rfl) (by kernel_rfl) hbr ?_
          repeat (first
            | go_big_quiet_skip
            | (go_big_quiet_want
               first
                 | (go_big_quiet_op; go_big_quiet_on)
                 | (refine q_load 31 _ _ _ rfl rfl L1 ?_; simp only [Act.put, List.setIfInBounds_toArray, List.set_cons_zero, List.set_cons_succ]; go_big_quiet_on)
                 | (refine q_load 31 _ _ _ rfl rfl L2 ?_; simp only [Act.put, List.setIfInBounds_toArray, List.set_cons_zero, List.set_cons_succ]; go_big_quiet_on)
                 | (go_big_quiet_op; refine ⟨_, fun _ _ => rfl, ?_⟩; go_big_quiet_on)
                 | (go_big_quiet_op; apply Exists.intro; refine ⟨fun w' hw' => ?_, ?_⟩
                    · first
                      | (refine (HE.out w').mono ?_
                         rintro e w2 ⟨rfl, hb2⟩
                         exact ⟨rfl, hw'.trans (hb2.mono hw'.size)⟩)
                    go_big_quiet_on)))
          refine wpQuiet_nil ?_
          intro w2 hb2
          clear L1 L2 HE hbr
          go_wp2
          go_ret
          exact ⟨by rw [HD.out]; rfl, hb2⟩
      · obtain rfl : k = B.length := by omega
        have he : decide (A = B) = true := by
          simp only [decide_eq_true_eq]
          apply List.ext_getElem hl
          intro i h1 h2
          have := hall i h2
          simpa [List.getD, h1, h2] using this
        have HD := Lib.hid he
        clear hall he
        go_wp2
        go_ret
        exact ⟨by rw [HD.out]; rfl, hbr⟩
  · have hne : decide (A = B) = false := by simp only [decide_eq_false_iff_not]; intro e; subst e; exact hl rfl
    have HD := Lib.hid hne
    have e0 : ¬ (A.length : Int) = (B.length : Int) := by omega
    clear hne
    go_enter Tryd.func14, Tryd.ntmps14
    go_wp2
    go_ret
    exact ⟨by rw [HD.out]; rfl, Below.refl _ _⟩
end Go.Proofs.YteijgoadcpphlaaDoor
namespace Go.Proofs.YteijgoadcpphlaaDoor
open Go.RowKit
set_option linter.unusedVariables false
theorem cells_own {β : Type} (B : Nat) (f : β → Array Value) (t : TypeId) : Own (fun (s : β) W => W.heap[B]? = some (.cells (f s) t (0, 0))) := by
  intro s X Y row h hg hr
  refine (hg.block B (Array.getElem?_eq_some_iff.1 h).1 (fun e => ?_)).trans h
  obtain ⟨o, ho, hc⟩ := hr B e.symm
  rw [h] at ho; cases ho; cases hc
end Go.Proofs.YteijgoadcpphlaaDoor
namespace Go.Proofs.YteijgoadcpphlaaDoor
open Go.RowKit Go.Shelf
set_option linter.unusedVariables false

def SBoxed (W : World) (B : Nat) (k : K2) : Prop := W.heap[B]? = some (.cells #[.int .i64 k.1, .int .i64 k.2] 31 (0, 0))
theorem SBoxed.lt {W : World} {B : Nat} {k : K2} (h : SBoxed W B k) : B < W.heap.size := (Array.getElem?_eq_some_iff.1 h).1
theorem SBoxed.cell0 {W : World} {B : Nat} {k : K2} (h : SBoxed W B k) : W.cell? ⟨B, 0, none⟩ = some (.int .i64 k.1) := by simp [World.cell?, show W.heap[B]? = _ from h]
theorem SBoxed.cell1 {W : World} {B : Nat} {k : K2} (h : SBoxed W B k) : W.cell? ⟨B, 1, none⟩ = some (.int .i64 k.2) := by simp [World.cell?, show W.heap[B]? = _ from h]
theorem SBoxed.new (W : World) (k : K2) : SBoxed (W.alloc (.cells #[.int .i64 k.1, .int .i64 k.2] 31)) W.heap.size k := World.alloc_heap_new W _
theorem SBoxed.kept {W W' : World} {row : Option Nat} {B : Nat} {k : K2} (h : SBoxed W B k) (hg : W.grownBy W' row) (hne : some B ≠ row) : SBoxed W' B k := (hg.block B h.lt hne).trans h
theorem SBoxed.alloc {W : World} {B : Nat} {k : K2} (h : SBoxed W B k) (o : Obj) : SBoxed (W.alloc o) B k := h.kept (World.grownBy_alloc W o none) (by simp)
theorem SBoxed.other {W : World} {B B' : Nat} {k : K2} (h : SBoxed W B k) (hne : B ≠ B') (u : Value) : SBoxed (W.setCell ⟨B', 0, none⟩ u) B k := h.kept (grownBy_setCell' W B' u) (fun e => hne (by cases e; rfl))
theorem SBoxed.load {w : World} {B : Nat} {k : K2} (h : SBoxed w B k) : (loadVar 31 ⟨B, 0, none⟩).run Tryd.prog w = .ok (kv k) w := step_load (o := 0) ⟨h.cell0, h.cell1⟩ h.lt (Below.refl _ _)
theorem SBoxed.set {w : World} {B : Nat} {k : K2} (k' : K2) (h : SBoxed w B k) : SBoxed ((w.setCell ⟨B, 0, none⟩ (.int .i64 k'.1)).setCell ⟨B, 1, none⟩ (.int .i64 k'.2)) B k' :=
  set_cells _ (set_cells _ h)
theorem slice_tail_st (g o n c : Nat) (hc : n + 1 ≤ c) (h63 : n ≤ 9000000) : ∃ o', ((c - 1 = 0 ∧ o' = o) ∨ o' = o + 2) ∧ ∀ w : World, (Instr.slice 24 (.slice (some ⟨g, o, none⟩) (n + 1) c) (some (.int .i64 1)) none none).run Tryd.prog w = .ok (.slice (some ⟨g, o', none⟩) n (c - 1)) w := by
  have u := Tryd.underlying24
  obtain ⟨i0, hi, hz0, hz1, hz2⟩ := info_parts infoSt
  by_cases h : c = 1
  · subst h
    obtain rfl : n = 0 := by omega
    exact ⟨o, .inl ⟨rfl, rfl⟩, fun w => by go_simp⟩
  · refine ⟨o + 2, .inr rfl, fun w => ?_⟩
    have h1 : ¬ c - 1 = 0 := by omega
    have h2 : (1 : Int) ≤ (n : Int) + 1 := by omega
    have h3 : (n : Int) + 1 ≤ (c : Int) := by omega
    go_simp
theorem sboxed_own {β : Type} (B : Nat) (f : β → K2) : Own (fun (s : β) W => SBoxed W B (f s)) := cells_own B (fun s => #[.int .i64 (f s).1, .int .i64 (f s).2]) 31
theorem len_st {v : Value} {L : Nat} (h : ∃ va vc, v = .slice va L vc) (ty : TypeId) (w : World) : (Builtin.len_ #[24] ty #[v]).run Tryd.prog w = .ok (.int .i64 L) w := by
  obtain ⟨va, vc, rfl⟩ := h
  exact run_len_slice w 24 ty va L vc (by kernel_rfl)
theorem idx_st {v : Value} {gg L cap : Nat} (h : v = .slice (some ⟨gg, 0, none⟩) L cap) (i : Nat) (hi : i < L) (z : Int) (hz : z = i) (w : World) :
    (Instr.indexAt 24 v (.int .i64 z)).run Tryd.prog w = .ok (.pointer (some ⟨gg, i * 2, none⟩)) w := by
  obtain ⟨i0, h1, h2, h3, h4⟩ := info_parts infoSt
  have he : Tryd.prog.elem 24 = 31 := by kernel_rfl
  subst h; subst hz
  rw [run_indexAt_slice w 24 _ _ _ _ _ (by kernel_rfl), if_pos ⟨by omega, by omega⟩, he]
  simp [sizeOf, typeInfo, h1, h3, Result.andThen, Addr.add]
  omega
theorem load_oneQ {t : TypeId} {w : World} {p : Addr} {v : Value} (ht : ∀ w, (isAgg t).run Tryd.prog w = .ok false w) (h : w.cell? p = some v) : (loadVar t p).run Tryd.prog w = .ok v w := by
  unfold loadVar
  simp only [Sem.run_bind, ht, Result.andThen_ok]
  rw [if_neg (by simp)]
  simp [h]
theorem sint_load {w : World} {p : Addr} {z : Int} (h : w.cell? p = some (.int .i64 z)) : (loadVar 3 p).run Tryd.prog w = .ok (.int .i64 z) w := load_oneQ (fun w => by simp [isAgg, underlying, Tryd.underlying3]) h
theorem sbool_load {w : World} {b : Nat} {x : Bool} (h : w.heap[b]? = some (.cells #[.bool x] 4 (0, 0))) : (loadVar 4 ⟨b, 0, none⟩).run Tryd.prog w = .ok (.bool x) w :=
  load_oneQ (fun w => by simp [isAgg, underlying, Tryd.underlying4]) (by rw [cell_of_row _ _ 0 _ _ _ h]; rfl)
end Go.Proofs.YteijgoadcpphlaaDoor
namespace Go.Proofs.YteijgoadcpphlaaDoor
open Go.RowKit Go.Shelf
attribute [local go_sem] Oper.semAt_some
set_option linter.unusedVariables false

set_option maxRecDepth 100000 in
set_option maxHeartbeats 1000000 in
/-- the iterator's closure: every key, in order, or as far as the round says -/
theorem stin_in (n l Bn n₀ : Nat) (v : Value) (ks : List K2) (hs : ks.length ≤ 8000000) (hn : 1 ≤ n) (J Jx : List K2 → World → Prop)
    (hJ : ∀ s W W', J s W → W.grownBy W' none → J s W')
    (hY : ∀ pre x W, J pre W → pre.length < ks.length → YieldAt Fence.wide (n - 1) Tryd.prog l #[kv x] W fun e W' =>
      (e = .returned (.bool true) ∧ J (pre ++ [x]) W' ∧ Below n₀ W W') ∨ (e = .returned (.bool false) ∧ Jx (pre ++ [x]) W'))
    (W : World) (hBn : W.cell? ⟨Bn, 0, none⟩ = some v) (hk : keysIn0 n₀ W v ks) (hn₀ : n₀ ≤ W.heap.size) (h0 : J [] W) :
    CallsIn Fence.wide n Tryd.prog 29 #[.func (.yield l) #[] #[], .pointer (some ⟨Bn, 0, none⟩)] W fun e W' => (∃ v, e = .returned v) ∧
      ((∃ ys : List K2, ys = ks ∧ J ys W') ∨ (∃ pre : List K2, pre <+: ks ∧ Jx pre W')) := by
  refine callsIn_of_wp Tryd.func29 rfl trivial ?_ rfl
  simp only [Tryd.ntmps29, List.size_toArray, List.length_cons, List.length_nil, Nat.reduceAdd, Nat.reduceSub, Array.replicate_succ, Array.replicate_zero, List.push_toArray, List.append_toArray, List.nil_append, List.cons_append]
  obtain ⟨a, cap, rfl, hcap, hcells⟩ := id hk
  gi_wp2
  gi_loopw [7] (fun p wr => ∃ (k : Nat), p = .int .i64 k ∧ k ≤ ks.length ∧ keysIn0 n₀ wr (.slice a ks.length cap) ks ∧ n₀ ≤ wr.heap.size ∧ J (ks.take k) wr)
    (fun p wr => ks.length + 1 - (intOf p).toNat)
  case atStart => exact ⟨0, rfl, Nat.zero_le _, hk, hn₀, h0⟩
  case round =>
    obtain ⟨k, rfl, hk1, hkw, hnw, hJs⟩ := hrel
    by_cases hlt : k < ks.length
    · have hkw' := hkw
      obtain ⟨a2, cap2, hv2, _, hcs⟩ := hkw
      cases hv2
      obtain ⟨g, off, rfl, hg0, hg, hcs⟩ := hcs.resolve_left (by omega)
      have c1 := hcs k hlt
      have C1 := c1.1
      have C2 := c1.2
      have hks : ks.take (k + 1) = ks.take k ++ [ks.getD k (0, 0)] := by rw [List.take_add_one]; simp [List.getD, hlt]
      have hlen : (ks.take k).length < ks.length := by simp; omega
      have z0 : (0 : Int) ≤ (k : Int) := by omega
      have z1 : (k : Int) < (ks.length : Int) := by omega
      clear hcs c1 hcells
      generalize ks.getD k (0, 0) = kx at *
      obtain ⟨p, q⟩ := kx
      have HKS := Lib.hid hks; clear hks
      dsimp only at C1 C2
      have hJa : J (ks.take k) ((wr.alloc (.cells #[.int .i64 p, .int .i64 q] 31))) := hJ _ _ _ hJs (World.grownBy_alloc wr _ none)
      have hka : keysIn0 n₀ (wr.alloc (.cells #[.int .i64 p, .int .i64 q] 31)) (.slice (some ⟨g, off, none⟩) ks.length cap) ks := hkw'.below ((Below.refl _ _).alloc hnw _)
      have hsa : n₀ ≤ (wr.alloc (.cells #[.int .i64 p, .int .i64 q] 31)).heap.size := by simp; omega
      obtain ⟨fn, tmps, assign, body, hy, hR⟩ := hY (ks.take k) (p, q) _ hJa hlen
      unfold kv at hy
      dsimp only at hy
      clear hY hJa
      gi_wp2
      refine hR.mono ?_
      rintro e W3 (⟨rfl, hJ3, hk3⟩ | ⟨rfl, hJx3⟩)
      · have hk3' := hka.below hk3
        have hsz3 := Nat.le_trans hsa hk3.size
        rw [← HKS.out] at hJ3
        clear hka hsa hkw' C1 C2
        gi_wp2
        exact ⟨⟨k + 1, by go_num, by omega, hk3', hsz3, hJ3⟩, by simp [intOf]; omega⟩
      · rw [← HKS.out] at hJx3
        clear hka hsa hkw' C1 C2
        gi_wp2
        refine bodyPost_ret (results_none rfl _ _ _) rfl ?_
        exact ⟨⟨_, rfl⟩, .inr ⟨_, List.take_prefix _ _, hJx3⟩⟩
    · obtain rfl : k = ks.length := by omega
      rw [List.take_length] at hJs
      gi_wp2
      go_end0
      exact ⟨⟨_, rfl⟩, .inl ⟨_, rfl, hJs⟩⟩

theorem stin_any (a : Option Addr) (n c : Nat) (w : World) :
    Calls Tryd.prog 18 #[.slice a n c] w fun e w' => e = .returned (.func (.func 29) #[] #[.pointer (some ⟨w.heap.size, 0, none⟩)]) ∧ w' = w.alloc (.cells #[.slice a n c] 24) := by
  go_enter Tryd.func18, Tryd.ntmps18
  go_wp2
  go_ret
  exact ⟨rfl, rfl⟩

theorem stin_stops (n Bn n₀ : Nat) (v : Value) (ks : List K2) (hs : ks.length ≤ 8000000) (hn : 1 ≤ n) (w : World) (hBn : Bn < w.heap.size) (hn₀ : n₀ ≤ w.heap.size) (hc : w.cell? ⟨Bn, 0, none⟩ = some v) (hk : keysIn0 n₀ w v ks) :
    SeqStopsK Fence.wide n Tryd.prog 29 #[.pointer (some ⟨Bn, 0, none⟩)] (fun x : K2 => #[kv x]) (Below n₀) (fun ys => ys = ks) (fun pre => pre <+: ks) ks.length w :=
  fun l J Jx W hW hJ _ hY h0 => stin_in n l Bn n₀ v ks hs hn J Jx (fun s A B h hg => hJ s A B none h hg (fun r e => by cases e)) hY W ((hW.cell (p := ⟨Bn, 0, none⟩) hBn).trans hc) (hk.below (hW.mono hn₀)) (Nat.le_trans hn₀ hW.size) h0
end Go.Proofs.YteijgoadcpphlaaDoor
namespace Go.Proofs.YteijgoadcpphlaaDoor
open Go.ChangeShapes Go.WideShapes Go.ChangeAt Go.RowKit Go.BigFrame Go.Shelf
attribute [local go_sem] Oper.semAt_some
set_option linter.unusedVariables false

set_option maxRecDepth 100000 in
set_option maxHeartbeats 2000000 in
theorem ifollows_any (a b : K2) (w : World) : Calls Tryd.prog 28 #[kv a, kv b] w fun e w' => e = .returned (.bool (folB a b)) ∧ Below w.heap.size w w' := by
  obtain ⟨p, q⟩ := a
  obtain ⟨r, s⟩ := b
  have hB : ∀ o o', Below w.heap.size w ((w.alloc o).alloc o') := fun o o' => ((Below.refl _ _).alloc (Nat.le_refl _) _).alloc (by simp) _
  by_cases h0 : p < r
  · skip
    by_cases h1 : r ≤ 1000000
    · skip
      by_cases h2 : q < s
      · skip
        by_cases h3 : s ≤ 6
        · skip
          have he : folB (p, q) (r, s) = true := by simp [folB]; omega
          rw [he]
          have HB := Lib.hid hB
          clear hB he
          unfold kv
          dsimp only
          go_enter Tryd.func28, Tryd.ntmps28
          go_wp2
          go_ret
          exact ⟨rfl, HB.out _ _⟩
        · skip
          have he : folB (p, q) (r, s) = false := by simp [folB]; omega
          rw [he]
          have HB := Lib.hid hB
          clear hB he
          unfold kv
          dsimp only
          go_enter Tryd.func28, Tryd.ntmps28
          go_wp2
          go_ret
          exact ⟨rfl, HB.out _ _⟩
      · skip
        have he : folB (p, q) (r, s) = false := by simp [folB]; omega
        rw [he]
        have HB := Lib.hid hB
        clear hB he
        unfold kv
        dsimp only
        go_enter Tryd.func28, Tryd.ntmps28
        go_wp2
        go_ret
        exact ⟨rfl, HB.out _ _⟩
    · skip
      have he : folB (p, q) (r, s) = false := by simp [folB]; omega
      rw [he]
      have HB := Lib.hid hB
      clear hB he
      unfold kv
      dsimp only
      go_enter Tryd.func28, Tryd.ntmps28
      go_wp2
      go_ret
      exact ⟨rfl, HB.out _ _⟩
  · skip
    have he : folB (p, q) (r, s) = false := by simp [folB]; omega
    rw [he]
    have HB := Lib.hid hB
    clear hB he
    unfold kv
    dsimp only
    go_enter Tryd.func28, Tryd.ntmps28
    go_wp2
    go_ret
    exact ⟨rfl, HB.out _ _⟩
set_option maxRecDepth 100000 in
set_option maxHeartbeats 2000000 in
theorem iplanok_any (v : Value) (ks : List K2) (w : World) (h : keysAt w v ks) (hs : ks.length ≤ 2000000) : Calls Tryd.prog 17 #[v] w fun e w' => e = .returned (.bool (plnB ks)) ∧ Below w.heap.size w w' := by
  have hk0 := keysIn0_of h
  obtain ⟨a, cap, rfl, hcap, hcells⟩ := h
  have rR := heap_alloc_new w (.cells #[.bool false] 4)
  have hb1 := (Below.refl w.heap.size w).alloc (Nat.le_refl _) (.cells #[.bool false] 4)
  cases ks with
  | nil =>
    have l3 := Lib.hid (sbool_load rR)
    have HB := Lib.hid hb1
    clear rR hb1 hcells hk0
    go_enter Tryd.func17, Tryd.ntmps17
    go_wp2_with fail
    refine bodyPost_ret (v := .bool false) ?_ rfl ⟨rfl, HB.out⟩
    rw [results_cell (p := 2) (ty := 4) (by kernel_rfl)]
    have l2 := l3.out
    simp [asAddr, Result.andThen, l2]
  | cons x r =>
    obtain ⟨g, off, rfl, hg, hcs⟩ := hcells.resolve_left (by simp)
    have c0 := hcs 0 (by simp)
    obtain ⟨p, q⟩ := x
    have C0 : w.cell? ⟨g, off, none⟩ = some (.int .i64 p) := by simpa using c0.1
    have C1 : w.cell? ⟨g, off + 1, none⟩ = some (.int .i64 q) := by simpa using c0.2
    have hlen : ((p, q) :: r).length = r.length + 1 := rfl
    rw [hlen] at hcap hk0 hs ⊢
    have hne := fun w => step_neq (p, q) (0, 1) w
    have hgu := fun op x y w => step_guard op x y (p, q) (0, 1) w
    unfold kv at hne hgu
    dsimp only at hne hgu
    have z1 : (0 : Int) < (r.length : Int) + 1 := by omega
    have z2 : ¬ ((r.length : Int) + 1 = 0) := by omega
    clear c0 hcs hcells
    cases hx : ((p, q) == (0, 1)) with
    | false =>
      rw [hx] at hne
      have HF := Lib.hid (show plnB ((p, q) :: r) = false by show ((p, q) == (0, 1) && chainB (p, q) r) = false; rw [hx]; rfl)
      have l3 := Lib.hid (sbool_load rR)
      have HB := Lib.hid hb1
      have D0 : (w.alloc (.cells #[.bool false] 4)).cell? ⟨g, off, none⟩ = some (.int .i64 p) := by rw [hb1.cell (p := ⟨g, off, none⟩) hg]; exact C0
      have D1 : (w.alloc (.cells #[.bool false] 4)).cell? ⟨g, off + 1, none⟩ = some (.int .i64 q) := by rw [hb1.cell (p := ⟨g, off + 1, none⟩) hg]; exact C1
      clear hx rR hb1 hk0 C0 C1
      go_enter Tryd.func17, Tryd.ntmps17
      go_wp2_with fail
      refine bodyPost_ret (v := .bool false) ?_ rfl ⟨by rw [HF.out], HB.out⟩
      rw [results_cell (p := 2) (ty := 4) (by kernel_rfl)]
      have l2 := l3.out
      simp [asAddr, Result.andThen, l2]
    | true =>
      obtain ⟨rfl, rfl⟩ : p = 0 ∧ q = 1 := by simpa using hx
      have HP := Lib.hid (show plnB ((0, 1) :: r) = chainB (0, 1) r by show ((0, 1) == (0, 1) && chainB (0, 1) r) = _; simp)
      rw [hx] at hne
      obtain ⟨o', ho', hsl⟩ := slice_tail_st g off r.length cap hcap (by omega)
      have kr := keysIn0_tail2 hk0 hcap ho'
      have hb2 := hb1.alloc hb1.size (.cells #[.int .i64 0, .int .i64 1] 31)
      have rX := SBoxed.new (w.alloc (.cells #[.bool false] 4)) (0, 1)
      have rR2 := (Below.heap_alloc (w.alloc (.cells #[.bool false] 4)) (.cells #[.int .i64 0, .int .i64 1] 31) _ (by simp)).trans rR
      rw [show (w.alloc (.cells #[.bool false] 4)).heap.size = w.heap.size + 1 by simp] at rX
      have hsz2 : ((w.alloc (.cells #[.bool false] 4)).alloc (.cells #[.int .i64 0, .int .i64 1] 31)).heap.size = w.heap.size + 2 := by simp
      have D0 : (w.alloc (.cells #[.bool false] 4)).cell? ⟨g, off, none⟩ = some (.int .i64 0) := by rw [hb1.cell (p := ⟨g, off, none⟩) hg]; exact C0
      have D1 : (w.alloc (.cells #[.bool false] 4)).cell? ⟨g, off + 1, none⟩ = some (.int .i64 1) := by rw [hb1.cell (p := ⟨g, off + 1, none⟩) hg]; exact C1
      clear hx rR hb1 C0 C1 hk0 ho'
      refine (callsIn_wide (n := 9)).1 ?_
      refine callsIn_of_wp_marks Tryd.func17 rfl trivial ?_ rfl
      simp only [Tryd.ntmps17, List.size_toArray, List.length_cons, List.length_nil, Nat.reduceAdd, Nat.reduceSub, Array.replicate_succ, Array.replicate_zero, List.push_toArray, List.append_toArray, List.nil_append, List.cons_append]
      gi_wp2
      generalize (w.alloc (.cells #[.bool false] 4)).alloc (.cells #[.int .i64 0, .int .i64 1] 31) = W2 at *
      refine ⟨trivial, (callsIn_wide.2 (stin_any _ _ _ _)).mono ?_⟩
      rintro e w3 ⟨rfl, rfl⟩
      have bS := Boxed.new W2 24 (.slice (some ⟨g, o', none⟩) r.length (cap - 1))
      rw [hsz2] at bS
      have rR3 := (Below.heap_alloc W2 (.cells #[.slice (some ⟨g, o', none⟩) r.length (cap - 1)] 24) _ (Array.getElem?_eq_some_iff.1 rR2).1).trans rR2
      have rX3 := rX.alloc (.cells #[.slice (some ⟨g, o', none⟩) r.length (cap - 1)] 24)
      have hB0 := hb2.alloc hb2.size (.cells #[.slice (some ⟨g, o', none⟩) r.length (cap - 1)] 24)
      have hsz : (W2.alloc (.cells #[.slice (some ⟨g, o', none⟩) r.length (cap - 1)] 24)).heap.size = w.heap.size + 3 := by simp; omega
      clear rR2 rX hb2 D0 D1 hne hgu hsl
      gi_wp2
      generalize W2.alloc (.cells #[.slice (some ⟨g, o', none⟩) r.length (cap - 1)] 24) = W0 at *
      refine wpIn_rangeFunc_ownH (n := 9) rfl (by omega) (gf := 29) (lb := #[.pointer (some ⟨w.heap.size + 2, 0, none⟩)]) rfl trivial (enters_of Tryd.func29 (by kernel_rfl) rfl)
        (stin_stops 8 (w.heap.size + 2) w.heap.size (.slice (some ⟨g, o', none⟩) r.length (cap - 1)) r (by omega) (by omega) W0 (by omega) (by omega) bS.cell (kr.below hB0)) belowK_t (belowK_b (by omega)) (Below.refl _ _) (fun _ => rfl)
        (fun pre W => chainB (0, 1) pre = true ∧ SBoxed W (w.heap.size + 1) (lastK (0, 1) pre) ∧ W.heap[w.heap.size]? = some (.cells #[.bool false] 4 (0, 0)) ∧ Below w.heap.size w W)
        (fun c pre W => (c = .ret ∧ chainB (0, 1) pre = false) ∧ W.heap[w.heap.size]? = some (.cells #[.bool false] 4 (0, 0)) ∧ Below w.heap.size w W)
        (OwnFrom.and (ownFrom_pure _ (fun pre : List K2 => chainB (0, 1) pre = true)) (OwnFrom.and (Own.from (sboxed_own (w.heap.size + 1) (fun pre : List K2 => lastK (0, 1) pre)) _) (OwnFrom.and (Own.from (cells_own w.heap.size (fun _ => #[.bool false]) 4) _) (ownFrom_below (Nat.le_refl _) (by omega)))))
        (fun c => OwnFrom.and (ownFrom_pure _ (fun pre : List K2 => c = .ret ∧ chainB (0, 1) pre = false)) (OwnFrom.and (Own.from (cells_own w.heap.size (fun _ => #[.bool false]) 4) _) (ownFrom_below (Nat.le_refl _) (by omega))))
        ⟨rfl, rX3, rR3, hB0⟩
        (fun x a' W => ∃ Bx, w.heap.size + 1 < Bx ∧ SBoxed W Bx x ∧ a' = { tmps := #[.slice (some ⟨g, off, none⟩) (r.length + 1) cap, undef, .pointer (some ⟨w.heap.size, 0, none⟩), .pointer (some ⟨w.heap.size + 1, 0, none⟩), .pointer (some ⟨Bx, 0, none⟩), .slice (some ⟨g, off, none⟩) (r.length + 1) cap, .int .i64 ((r.length : Int) + 1), .bool false, .bool false, .slice (some ⟨g, off, none⟩) (r.length + 1) cap, .pointer (some ⟨g, off, none⟩), .agg #[.int .i64 0, .int .i64 1], .agg #[.int .i64 0, .int .i64 1], .bool false, .bool false, .slice (some ⟨g, off, none⟩) (r.length + 1) cap, .pointer (some ⟨g, off, none⟩), .agg #[.int .i64 0, .int .i64 1], .slice (some ⟨g, off, none⟩) (r.length + 1) cap, .slice (some ⟨g, o', none⟩) r.length (cap - 1), .func (.func 29) #[] #[.pointer (some ⟨w.heap.size + 2, 0, none⟩)], kv x, undef, undef, undef, undef, undef], defers := [] })
        (fun x a' _ X Y row hs hg hr => by
          obtain ⟨Bx, e1, e2, e4⟩ := hs
          exact ⟨Bx, e1, sboxed_own Bx (fun _ : Unit => x) () X Y row e2 hg (fun r e => (hr r e).2), e4⟩)
        ?assign ?body ?done ?stop
      case assign =>
        rintro l pre ⟨p, q⟩ W K ⟨hch, hX, hR, hB⟩ hK
        unfold kv at *
        dsimp only at *
        gi_wp2
        exact hK _ _ ((KeepsOthers.alloc _ _).from _) ((Below.refl _ W).alloc hB.size _) ⟨hch, hX.alloc _, (Below.heap_alloc _ _ _ (Array.getElem?_eq_some_iff.1 hR).1).trans hR, hB.alloc hB.size _⟩ ⟨W.heap.size, hX.lt, SBoxed.new W (p, q), rfl⟩
      case body =>
        rintro l pre ⟨p, q⟩ a' W hl ⟨rr, hr⟩ ⟨hch, hX, hR, hB⟩ ⟨Bx, hBx, bX, rfl⟩ hlt
        have HSN := Lib.hid (chain_snoc pre (0, 1) (p, q))
        have HLS := Lib.hid (lastK_snoc (0, 1) pre (p, q))
        rw [hch] at HSN
        generalize lastK (0, 1) pre = A at *
        obtain ⟨pa, qa⟩ := A
        have HF := Lib.hid (fun w => ifollows_any (pa, qa) (p, q) w)
        have hsW := hB.size
        have hne1 : w.heap.size + 1 ≠ Bx := by omega
        have x0 := hX.cell0
        have x1 := hX.cell1
        have y0 := bX.cell0
        have y1 := bX.cell1
        unfold kv at *
        dsimp only at *
        cases hf : folB (pa, qa) (p, q) with
        | false =>
          rw [hf] at HF HSN
          gi_wp2
          refine ⟨trivial, (CallsIn.inRound l (callsIn_wide.2 (HF.out _))).mono ?_⟩
          rintro e W1 ⟨rfl, hb⟩
          have g1 := grown_of_below' hb none
          have HRE := (hb.block _ (Array.getElem?_eq_some_iff.1 hR).1).trans hR
          have HR2 := Lib.hid (show (W1.setCell ⟨w.heap.size, 0, none⟩ (.bool false)).heap[w.heap.size]? = some (.cells #[.bool false] 4 (0, 0)) from set_cells (.bool false) HRE)
          have HB2 := Lib.hid ((hB.trans (hb.mono hsW)).setCell (p := ⟨w.heap.size, 0, none⟩) (Nat.le_refl _) (.bool false))
          have HK2 := Lib.hid ((KeepsOthers.of_grownBy g1 (fun j o e => by cases e) : KeepsOthers W W1).trans (KeepsOthers.setCell W1 ⟨w.heap.size, 0, none⟩ (.bool false)))
          have e0 : W1.cell? ⟨w.heap.size, 0, none⟩ = some (.bool false) := by rw [cell_of_row _ _ 0 _ _ _ HRE]; rfl
          have ef : W1.frozen? ⟨w.heap.size, 0, none⟩ = false := by simp [World.frozen?, HRE]
          have el := (Array.getElem?_eq_some_iff.1 HRE).1
          clear hR hX bX hb g1 hB HRE x0 x1 y0 y1 hr
          gi_wp2
          exact ⟨HK2.out.from _, ⟨rfl, by rw [HSN.out]; rfl⟩, HR2.out, HB2.out⟩
        | true =>
          rw [hf] at HF HSN
          gi_wp2
          refine ⟨trivial, (CallsIn.inRound l (callsIn_wide.2 (HF.out _))).mono ?_⟩
          rintro e W1 ⟨rfl, hb⟩
          have g1 := grown_of_below' hb none
          have HRE := (hb.block _ (Array.getElem?_eq_some_iff.1 hR).1).trans hR
          have hX1 := hX.kept g1 (by simp)
          have bX1 := bX.kept g1 (by simp)
          have HX2 := Lib.hid (SBoxed.set (p, q) hX1)
          have HBW := hB.trans (hb.mono hsW)
          have HB2 := Lib.hid ((HBW.setCell (p := ⟨w.heap.size + 1, 0, none⟩) (by simp only []; omega) (.int .i64 p)).setCell (p := ⟨w.heap.size + 1, 1, none⟩) (by simp only []; omega) (.int .i64 q))
          have HBP2 := Lib.hid (((hb.mono hsW).setCell (p := ⟨w.heap.size + 1, 0, none⟩) (by simp only []; omega) (.int .i64 p)).setCell (p := ⟨w.heap.size + 1, 1, none⟩) (by simp only []; omega) (.int .i64 q))
          have HK2 := Lib.hid (((KeepsOthers.of_grownBy g1 (fun j o e => by cases e) : KeepsOthers W W1).trans (KeepsOthers.setCell W1 ⟨w.heap.size + 1, 0, none⟩ (.int .i64 p))).trans (KeepsOthers.setCell (W1.setCell ⟨w.heap.size + 1, 0, none⟩ (.int .i64 p)) ⟨w.heap.size + 1, 1, none⟩ (.int .i64 q)))
          have HR2 := Lib.hid ((Below.heap_setCell (W1.setCell ⟨w.heap.size + 1, 0, none⟩ (.int .i64 p)) ⟨w.heap.size + 1, 1, none⟩ (.int .i64 q) w.heap.size (by simp only []; omega)).trans ((Below.heap_setCell W1 ⟨w.heap.size + 1, 0, none⟩ (.int .i64 p) w.heap.size (by simp only []; omega)).trans HRE))
          have x0 := hX1.cell0
          have x1 := hX1.cell1
          have y0 := bX1.cell0
          have y1 := bX1.cell1
          have f0 : W1.frozen? ⟨w.heap.size + 1, 0, none⟩ = false := by simp [World.frozen?, show W1.heap[w.heap.size + 1]? = _ from hX1]
          have f1 : W1.frozen? ⟨w.heap.size + 1, 1, none⟩ = false := by simp [World.frozen?, show W1.heap[w.heap.size + 1]? = _ from hX1]
          have el := hX1.lt
          dsimp only at x0 x1 y0 y1 HX2
          clear hR hX bX hb g1 hB HRE hr hX1 bX1 HBW
          gi_wp2
          exact ⟨HK2.out.from _, HBP2.out, by rw [HSN.out]; rfl, by rw [HLS.out]; exact HX2.out, HR2.out, HB2.out⟩
      case done =>
        rintro D ys W hD hys ⟨hch, hX, hR, hB⟩ hK
        subst hys
        have HR2 := Lib.hid (show (W.setCell ⟨w.heap.size, 0, none⟩ (.bool true)).heap[w.heap.size]? = some (.cells #[.bool true] 4 (0, 0)) from set_cells (.bool true) hR)
        have HK2 := Lib.hid ((Below.heap_setCell W ⟨w.heap.size, 0, none⟩ (.bool true) D (by simp only []; omega)).trans hK)
        have HB2 := Lib.hid (hB.setCell (p := ⟨w.heap.size, 0, none⟩) (Nat.le_refl _) (.bool true))
        have e0 : W.cell? ⟨w.heap.size, 0, none⟩ = some (.bool false) := by rw [cell_of_row _ _ 0 _ _ _ hR]; rfl
        have ef : W.frozen? ⟨w.heap.size, 0, none⟩ = false := by simp [World.frozen?, hR]
        have el := (Array.getElem?_eq_some_iff.1 hR).1
        clear hR hX hB hK
        gi_wp2
        try rw [Exit.noGoto_ret]
        refine ⟨by simp, .inl ⟨_, _, rfl, run_takeDeferred HK2.out, ?_⟩⟩
        have hR3 := (World.putObj_heap_other (w := W.setCell ⟨w.heap.size, 0, none⟩ (.bool true)) (r := D) (o := .deferred none) (show w.heap.size ≠ D by omega)).trans HR2.out
        have l3 := sbool_load hR3
        refine ⟨.bool true, ?_, by rw [HP.out, hch], HB2.out.trans (belowK_b (w := w) (Nat.le_refl _) _ D _ _ (by omega) HK2.out rfl rfl)⟩
        rw [results_cell (p := 2) (ty := 4) (by kernel_rfl)]
        simp [asAddr, Result.andThen, l3]
      case stop =>
        rintro D c pre W hD hpre ⟨⟨rfl, hno⟩, hR, hB⟩ hK
        gi_wp2
        try rw [Exit.noGoto_ret]
        refine ⟨by simp, .inl ⟨_, _, rfl, run_takeDeferred hK, ?_⟩⟩
        have hR3 := (World.putObj_heap_other (w := W) (r := D) (o := .deferred none) (show w.heap.size ≠ D by omega)).trans hR
        have l3 := sbool_load hR3
        refine ⟨.bool false, ?_, by rw [HP.out, chain_pre hpre hno], hB.trans (belowK_b (w := w) (Nat.le_refl _) W D _ _ (by omega) hK rfl rfl)⟩
        rw [results_cell (p := 2) (ty := 4) (by kernel_rfl)]
        simp [asAddr, Result.andThen, l3]
end Go.Proofs.YteijgoadcpphlaaDoor
namespace Go.Proofs.YteijgoadcpphlaaDoor
open Go.RowKit Go.Shelf
attribute [local go_sem] Oper.semAt_some
set_option linter.unusedVariables false

/-- a right key -/
abbrev RS := { k : K2 // kIn k }
def rs0 : RS := ⟨(1, 1), by unfold kIn; decide⟩
theorem rs_len (ks : List RS) : (ks.map (·.1)).length = ks.length := List.length_map ..
theorem rs_get (ks : List RS) (k : Nat) (hk : k < ks.length) : (ks.map (·.1)).getD k (0, 0) = (ks.getD k rs0).1 := by simp [List.getD, hk]
set_option maxRecDepth 100000 in
set_option maxHeartbeats 1000000 in
/-- the iterator's closure: every key, in order, or as far as the round says -/
theorem stir_in (n l Bn n₀ : Nat) (v : Value) (ks : List RS) (hs : ks.length ≤ 8000000) (hn : 1 ≤ n) (J Jx : List RS → World → Prop)
    (hJ : ∀ s W W', J s W → W.grownBy W' none → J s W')
    (hY : ∀ pre x W, J pre W → pre.length < ks.length → YieldAt Fence.wide (n - 1) Tryd.prog l #[kv x.1] W fun e W' =>
      (e = .returned (.bool true) ∧ J (pre ++ [x]) W' ∧ Below n₀ W W') ∨ (e = .returned (.bool false) ∧ Jx (pre ++ [x]) W'))
    (W : World) (hBn : W.cell? ⟨Bn, 0, none⟩ = some v) (hk : keysIn0 n₀ W v (ks.map (·.1))) (hn₀ : n₀ ≤ W.heap.size) (h0 : J [] W) :
    CallsIn Fence.wide n Tryd.prog 29 #[.func (.yield l) #[] #[], .pointer (some ⟨Bn, 0, none⟩)] W fun e W' => (∃ v, e = .returned v) ∧
      ((∃ ys : List RS, ys = ks ∧ J ys W') ∨ (∃ pre : List RS, pre <+: ks ∧ Jx pre W')) := by
  refine callsIn_of_wp Tryd.func29 rfl trivial ?_ rfl
  simp only [Tryd.ntmps29, List.size_toArray, List.length_cons, List.length_nil, Nat.reduceAdd, Nat.reduceSub, Array.replicate_succ, Array.replicate_zero, List.push_toArray, List.append_toArray, List.nil_append, List.cons_append]
  obtain ⟨a, cap, rfl, hcap, hcells⟩ := id hk
  rw [rs_len] at *
  gi_wp2
  gi_loopw [7] (fun p wr => ∃ (k : Nat), p = .int .i64 k ∧ k ≤ ks.length ∧ keysIn0 n₀ wr (.slice a ks.length cap) (ks.map (·.1)) ∧ n₀ ≤ wr.heap.size ∧ J (ks.take k) wr)
    (fun p wr => ks.length + 1 - (intOf p).toNat)
  case atStart => exact ⟨0, rfl, Nat.zero_le _, hk, hn₀, h0⟩
  case round =>
    obtain ⟨k, rfl, hk1, hkw, hnw, hJs⟩ := hrel
    by_cases hlt : k < ks.length
    · have hkw' := hkw
      obtain ⟨a2, cap2, hv2, _, hcs⟩ := hkw
      rw [rs_len] at hv2 hcs
      cases hv2
      obtain ⟨g, off, rfl, hg0, hg, hcs⟩ := hcs.resolve_left (by omega)
      have c1 := hcs k hlt
      rw [rs_get ks k hlt] at c1
      have C1 := c1.1
      have C2 := c1.2
      have hks : ks.take (k + 1) = ks.take k ++ [ks.getD k rs0] := by rw [List.take_add_one]; simp [List.getD, hlt]
      have hlen : (ks.take k).length < ks.length := by simp; omega
      have z0 : (0 : Int) ≤ (k : Int) := by omega
      have z1 : (k : Int) < (ks.length : Int) := by omega
      clear hcs c1 hcells
      generalize ks.getD k rs0 = kx at *
      obtain ⟨⟨p, q⟩, hpq⟩ := kx
      have HKS := Lib.hid hks; clear hks
      dsimp only at C1 C2
      have hJa : J (ks.take k) ((wr.alloc (.cells #[.int .i64 p, .int .i64 q] 31))) := hJ _ _ _ hJs (World.grownBy_alloc wr _ none)
      have hka : keysIn0 n₀ (wr.alloc (.cells #[.int .i64 p, .int .i64 q] 31)) (.slice (some ⟨g, off, none⟩) ks.length cap) (ks.map (·.1)) := hkw'.below ((Below.refl _ _).alloc hnw _)
      have hsa : n₀ ≤ (wr.alloc (.cells #[.int .i64 p, .int .i64 q] 31)).heap.size := by simp; omega
      obtain ⟨fn, tmps, assign, body, hy, hR⟩ := hY (ks.take k) ⟨(p, q), hpq⟩ _ hJa hlen
      unfold kv at hy
      dsimp only at hy
      clear hY hJa
      gi_wp2
      refine hR.mono ?_
      rintro e W3 (⟨rfl, hJ3, hk3⟩ | ⟨rfl, hJx3⟩)
      · have hk3' := hka.below hk3
        have hsz3 := Nat.le_trans hsa hk3.size
        rw [← HKS.out] at hJ3
        clear hka hsa hkw' C1 C2
        gi_wp2
        exact ⟨⟨k + 1, by go_num, by omega, hk3', hsz3, hJ3⟩, by simp [intOf]; omega⟩
      · rw [← HKS.out] at hJx3
        clear hka hsa hkw' C1 C2
        gi_wp2
        refine bodyPost_ret (results_none rfl _ _ _) rfl ?_
        exact ⟨⟨_, rfl⟩, .inr ⟨_, List.take_prefix _ _, hJx3⟩⟩
    · obtain rfl : k = ks.length := by omega
      rw [List.take_length] at hJs
      gi_wp2
      go_end0
      exact ⟨⟨_, rfl⟩, .inl ⟨_, rfl, hJs⟩⟩

theorem stir_stops (n Bn n₀ : Nat) (v : Value) (ks : List RS) (hs : ks.length ≤ 8000000) (hn : 1 ≤ n) (w : World) (hBn : Bn < w.heap.size) (hn₀ : n₀ ≤ w.heap.size) (hc : w.cell? ⟨Bn, 0, none⟩ = some v) (hk : keysIn0 n₀ w v (ks.map (·.1))) :
    SeqStopsK Fence.wide n Tryd.prog 29 #[.pointer (some ⟨Bn, 0, none⟩)] (fun x : RS => #[kv x.1]) (Below n₀) (fun ys => ys = ks) (fun pre => pre <+: ks) ks.length w :=
  fun l J Jx W hW hJ _ hY h0 => stir_in n l Bn n₀ v ks hs hn J Jx (fun s A B h hg => hJ s A B none h hg (fun r e => by cases e)) hY W ((hW.cell (p := ⟨Bn, 0, none⟩) hBn).trans hc) (hk.below (hW.mono hn₀)) (Nat.le_trans hn₀ hW.size) h0
end Go.Proofs.YteijgoadcpphlaaDoor
namespace Go.Proofs.YteijgoadcpphlaaDoor
open Go
section
variable {P : Program} {ops : Array Oper} {Q : Exit → Act → World → Prop} {md : Region.Mode} {S : World → Prop}

/-- whatever order is picked from here on; behind each operation a sharper condition holds -/
def wpG (P : Program) (md : Region.Mode) (ops : Array Oper) (Q : Exit → Act → World → Prop) : Nat → (World → Prop) → Array Bool → Act → World → Prop
  | 0, _, listed, a, w => Region.ready md ops listed = [] ∧ Q .normal a w
  | fuel + 1, S, listed, a, w =>
    (Region.ready md ops listed = [] → Q .normal a w) ∧
    ∀ i ∈ Region.ready md ops listed, wpOp P ops Q i (fun a' w' => ∃ S' : World → Prop, (∀ x, S' x → S x) ∧ S' w' ∧ wpG P md ops Q fuel S' (listed.setIfInBounds i true) a' w') a w

theorem wpAny_of_G : ∀ (fuel : Nat) (S : World → Prop) (listed : Array Bool) (a : Act) (w : World), wpG P md ops Q fuel S listed a w → wpAny P md ops Q fuel listed a w
  | 0, _, _, _, _, h => h
  | fuel + 1, S, _, _, _, h => ⟨h.1, fun i hi => wpOp_mono (fun a' w' ⟨S', _, _, h'⟩ => wpAny_of_G fuel S' _ a' w' h') (h.2 i hi)⟩

theorem YieldsIf.sharper {S' : World → Prop} {o : Oper} {v : Value} {a : Act} (h : ∀ x, S' x → S x) (hy : YieldsIf P ops S o v a) : YieldsIf P ops S' o v a :=
  hy.imp (fun ⟨hw, hv⟩ => ⟨hw, fun w hs => hv w (h w hs)⟩) id

theorem wpG_first {i : Nat} {oi : Oper} {v : Value} (hi : ops[i]? = some oi) (hsel : ∀ (j : Nat) (o : Oper) cs b, ops[j]? = some o → o.op ≠ .select cs b)
    (hQ : ∀ c a w, Q (.panic c) (a.put oi.dst v) w → Q (.panic c) a w) :
    ∀ (fuel : Nat) (S : World → Prop) (listed : Array Bool) (a : Act) (w : World),
      (∀ j oj, ops[j]? = some oj → j ≠ i → listed.getD j true = false → (∀ e ∈ oj.after, Region.binds md e = true → e.on ≠ i) → oi.apart ops oj = true) →
      i ∈ Region.ready md ops listed → YieldsIf P ops S oi v a → S w →
      wpG P md ops Q fuel S (listed.setIfInBounds i true) (a.put oi.dst v) w → wpG P md ops Q (fuel + 1) S listed a w := by
  intro fuel
  induction fuel with
  | zero =>
    intro S listed a w _ hr hy hS H
    refine ⟨fun h => (by rw [h] at hr; cases hr), fun j hj => ?_⟩
    by_cases hji : j = i
    · subst hji; exact hy.wpOp hi hS ⟨S, fun _ h => h, hS, H⟩
    · have := ready_mono hj hji
      rw [H.1] at this
      cases this
  | succ fuel ih =>
    intro S listed a w hfree hr hy hS H
    refine ⟨fun h => (by rw [h] at hr; cases hr), fun j hj => ?_⟩
    by_cases hji : j = i
    · subst hji; exact hy.wpOp hi hS ⟨S, fun _ h => h, hS, H⟩
    · have h1 := H.2 j (ready_mono hj hji)
      obtain ⟨hjun, oj, hoj, hall⟩ := mem_ready.1 hj
      have hnot : ∀ e ∈ oj.after, Region.binds md e = true → e.on ≠ i := fun e he hb heq => by
        have h1 := hall e he hb
        have h0 := (mem_ready.1 hr).1
        rw [heq] at h1
        rcases Nat.lt_or_ge i listed.size with h' | h'
        · simp [h'] at h0 h1; rw [h0] at h1; cases h1
        · simp [Array.getElem?_eq_none h'] at h1
      have h2 := wpOp_putIf hoj (hfree j oj hoj hji hjun hnot) (fun cs b => hsel i oi cs b hi) (fun cs b => hsel j oj cs b hoj) hQ hy h1
      have hfree' : ∀ k ok, ops[k]? = some ok → k ≠ i → (listed.setIfInBounds j true).getD k true = false →
          (∀ e ∈ ok.after, Region.binds md e = true → e.on ≠ i) → oi.apart ops ok = true := fun k ok hk hki hun hno => by
        refine hfree k ok hk hki ?_ hno
        by_cases hjk : j = k
        · subst hjk; exact hjun
        · rw [getD_set_ne true hjk] at hun; exact hun
      refine wpOp_mono (fun a' w' h3 => ?_) h2
      obtain ⟨hy3, S', hs, hs2, h4⟩ := h3
      refine ⟨S', hs, hs2, ih S' (listed.setIfInBounds j true) a' w' hfree' (ready_mono hr (Ne.symm hji)) (YieldsIf.sharper hs hy3) hs2 ?_⟩
      rw [Array.setIfInBounds_comm _ _ hji]
      exact h4

/-- an operation that hands back a value and nothing else -/
def valueOp : Op → Bool
  | .move _ | .assign _ | .pick _ _ _ | .load _ _ | .binOp _ _ _ _ _ | .unOp _ _ _ | .convert _ _ _ | .slice _ _ _ _ _ | .fieldAddr _ _ _ | .field _ _ _ | .indexAddr _ _ _ | .index _ _ _ | .extract _ _ => true
  | _ => false
theorem value_of_run {α : Type} (s : Sem α) (f : α → Value) (w w' : World) (n : Next) (h : ((do pure (Next.value (f (← s)))) : Sem Next).run P w = .ok n w') : ∃ u, n = .value u := by
  rw [Sem.run_bind] at h
  cases hs : s.run P w with
  | ok v w1 =>
    rw [hs] at h
    simp only [Result.andThen, Sem.run_pure, Result.ok.injEq] at h
    exact ⟨_, h.1.symm⟩
  | halt x w1 => rw [hs] at h; simp [Result.andThen] at h
theorem valueOp_spec {o : Oper} (h : valueOp o.op = true) (ρ : Operand → Value) (w w' : World) (n : Next) (hr : (execOp ρ o).run P w = .ok n w') : ∃ u, n = .value u := by
  unfold execOp at hr
  cases ho : o.op <;> rw [ho] at h hr <;> simp only [valueOp] at h <;> try (exact absurd h Bool.false_ne_true)
  all_goals dsimp only at hr
  all_goals first
    | (simp only [Sem.run_pure, Result.ok.injEq] at hr; exact ⟨_, hr.1.symm⟩)
    | exact value_of_run _ (fun v => v) w w' n hr
    | exact value_of_run _ _ w w' n hr
theorem yields_of_quiet {o : Oper} {a : Act} {v : Value} (hv : valueOp o.op = true) (hw : Region.wanted o (yielded ops a.tmps) = true) (h : ∀ w, S w → o.quietAt P a S w v) : YieldsIf P ops S o v a := by
  refine .inl ⟨hw, fun w hs => ?_⟩
  have h1 := h w hs
  unfold Oper.quietAt at h1
  cases hr : (execOp a.eval o).run P w with
  | ok n w' =>
    obtain ⟨u, rfl⟩ := valueOp_spec hv a.eval w w' n hr
    rw [hr] at h1
    simp only [Oper.quietUpon] at h1
    obtain ⟨rfl, rfl⟩ := h1
    rfl
  | halt x w' => rw [hr] at h1; exact absurd h1 (by simp [Oper.quietUpon])

/-- the takes of a segment, in the order of the text -/
def takesB (md : Region.Mode) (l : List Oper) : List Bool → Nat → Array Bool → Bool
  | true :: m, i, listed => (match l[i]? with | some o => valueOp o.op | none => false) && Region.free md l.toArray listed i && (Region.ready md l.toArray listed).contains i && takesB md l m (i + 1) (listed.setIfInBounds i true)
  | false :: m, i, listed => takesB md l m (i + 1) listed
  | [], _, _ => true
def takenL : List Bool → Nat → Array Bool → Array Bool
  | true :: m, i, listed => takenL m (i + 1) (listed.setIfInBounds i true)
  | false :: m, i, listed => takenL m (i + 1) listed
  | [], _, listed => listed
def countT : List Bool → Nat
  | true :: m => countT m + 1
  | false :: m => countT m
  | [] => 0
theorem takes_G {l : List Oper} (hs : Region.noSelect l.toArray = true) (hQ : ∀ c a d v w, Q (.panic c) (Act.put a d v) w → Q (.panic c) a w) {S : World → Prop} {w : World} (hS : S w) {R : Act → Prop} :
    ∀ (m : List Bool) (i fuel : Nat) (listed : Array Bool) (a : Act), takesB md l m i listed = true → m.length + i ≤ l.length →
      (∀ a', R a' → wpG P md l.toArray Q fuel S (takenL m i listed) a' w) → wpQuiet P l.toArray S R (maskRows m (l.drop i)) a → wpG P md l.toArray Q (fuel + countT m) S listed a w
  | [], i, fuel, listed, a, _, _, hk, h => hk a (by simpa [maskRows, wpQuiet] using h)
  | false :: m, i, fuel, listed, a, hb, hl, hk, h => by
    have hlt : i < l.length := by simp only [List.length_cons] at hl; omega
    rw [List.drop_eq_getElem_cons hlt] at h
    exact takes_G hs hQ hS m (i + 1) fuel listed a hb (by simp only [List.length_cons] at hl; omega) hk h
  | true :: m, i, fuel, listed, a, hb, hl, hk, h => by
    have hlt : i < l.length := by simp only [List.length_cons] at hl; omega
    rw [List.drop_eq_getElem_cons hlt] at h
    simp only [takesB, Bool.and_eq_true] at hb
    obtain ⟨⟨⟨hv, hf⟩, hr⟩, hb⟩ := hb
    have ho : l.toArray[i]? = some l[i] := by simp [hlt]
    rw [show l[i]? = some l[i] from by simp [hlt]] at hv
    dsimp only at hv
    simp only [maskRows, wpQuiet] at h
    have hin : i ∈ Region.ready md l.toArray listed := by simpa using hr
    show wpG P md l.toArray Q (fuel + countT m + 1) S listed a w
    by_cases hw : Region.wanted l[i] (yielded l.toArray a.tmps) = true
    · rw [if_pos hw] at h
      obtain ⟨v, h1, h2⟩ := h
      exact wpG_first ho (Region.noSelect_spec hs) (fun c a w => hQ c a _ _ w) _ S listed a w (Region.free_spec ho hf) hin (yields_of_quiet hv hw h1) hS
        (takes_G hs hQ hS m (i + 1) fuel _ _ hb (by simp only [List.length_cons] at hl; omega) hk h2)
    · rw [if_neg hw] at h
      exact wpG_first ho (Region.noSelect_spec hs) (fun c a w => hQ c a _ _ w) _ S listed a w (Region.free_spec ho hf) hin (.inr ⟨by simpa using hw, rfl⟩) hS
        (takes_G hs hQ hS m (i + 1) fuel _ _ hb (by simp only [List.length_cons] at hl; omega) hk h)
theorem wpG_done {listed : Array Bool} {a : Act} {w : World} (hr : Region.ready md ops listed = []) (h : Q .normal a w) : ∀ fuel, wpG P md ops Q fuel S listed a w
  | 0 => ⟨hr, h⟩
  | _ + 1 => ⟨fun _ => h, by rw [hr]; simp⟩
end
end Go.Proofs.YteijgoadcpphlaaDoor
namespace Go.Proofs.YteijgoadcpphlaaDoor
open Go
section
variable {P : Program} {Q : Exit → Act → World → Prop} {md : Region.Mode} {S : World → Prop}
def segtB (md : Region.Mode) (l : List Oper) (m : List Bool) (rd : List Nat) (fuel fuel' : Nat) (listed : Array Bool) : Bool :=
  decide (fuel = fuel' + 1 + countT m) && decide (m.length ≤ l.length) && takesB md l m 0 listed && decide (Region.ready md l.toArray (takenL m 0 listed) = rd) && !rd.isEmpty
/-- what reads is taken; then one after another of what is ready is tried -/
theorem wpG_seg {l : List Oper} (m : List Bool) (rd : List Nat) (fuel' : Nat) {fuel : Nat} {listed : Array Bool} {a : Act} {w : World} (hs : Region.noSelect l.toArray = true)
    (hQ : ∀ c a d v w, Q (.panic c) (Act.put a d v) w → Q (.panic c) a w) (hb : segtB md l m rd fuel fuel' listed = true) (hS : S w)
    (h : wpQuiet P l.toArray S (fun a' => ∀ i ∈ rd, wpOp P l.toArray Q i (fun a'' w'' => ∃ S' : World → Prop, (∀ x, S' x → S x) ∧ S' w'' ∧ wpG P md l.toArray Q fuel' S' ((takenL m 0 listed).setIfInBounds i true) a'' w'') a' w) (maskRows m l) a) :
    wpG P md l.toArray Q fuel S listed a w := by
  simp only [segtB, Bool.and_eq_true, decide_eq_true_eq, Bool.not_eq_true'] at hb
  obtain ⟨⟨⟨⟨h1, h2⟩, h3⟩, h4⟩, h5⟩ := hb
  subst h1
  refine takes_G (P := P) (md := md) hs hQ hS (R := fun a' => ∀ i ∈ rd, wpOp P l.toArray Q i (fun a'' w'' => ∃ S' : World → Prop, (∀ x, S' x → S x) ∧ S' w'' ∧ wpG P md l.toArray Q fuel' S' ((takenL m 0 listed).setIfInBounds i true) a'' w'') a' w) m 0 (fuel' + 1) listed a h3 (by omega) (fun a' hq => ?_) (by simpa using h)
  refine ⟨fun h0 => (by rw [h4] at h0; rw [h0] at h5; cases h5), fun j hj => ?_⟩
  rw [h4] at hj
  exact hq j hj
def segeB (md : Region.Mode) (l : List Oper) (m : List Bool) (fuel : Nat) (listed : Array Bool) : Bool :=
  decide (countT m ≤ fuel) && decide (m.length ≤ l.length) && takesB md l m 0 listed && decide (Region.ready md l.toArray (takenL m 0 listed) = [])
theorem wpG_end {l : List Oper} (m : List Bool) {fuel : Nat} {listed : Array Bool} {a : Act} {w : World} (hs : Region.noSelect l.toArray = true)
    (hQ : ∀ c a d v w, Q (.panic c) (Act.put a d v) w → Q (.panic c) a w) (hb : segeB md l m fuel listed = true) (hS : S w)
    (h : wpQuiet P l.toArray S (fun a' => Q .normal a' w) (maskRows m l) a) : wpG P md l.toArray Q fuel S listed a w := by
  simp only [segeB, Bool.and_eq_true, decide_eq_true_eq] at hb
  obtain ⟨⟨⟨h1, h2⟩, h3⟩, h4⟩ := hb
  have := takes_G (P := P) (md := md) hs hQ hS (R := fun a' => Q .normal a' w) m 0 (fuel - countT m) listed a h3 (by omega) (fun a' hq => wpG_done h4 hq _) (by simpa using h)
  rwa [Nat.sub_add_cancel h1] at this
theorem wp_region_G {id : Nat} {a : Act} {w : World} {l : List Oper} (S : World → Prop) (hm : P.follows .mixedOrders = true) (h : wpG P .any l.toArray Q l.length S (Array.replicate l.length false) a w.drew) :
    (Code.region id l.toArray true).wp P Q a w := wp_region_any hm (wpAny_of_G _ _ _ _ _ (by simpa using h))
/-- one that is carried out -/
theorem segt_run {l : List Oper} {fuel : Nat} {listed : Array Bool} {i : Nat} {o : Oper} {a : Act} {w : World} (ho : l.toArray[i]? = some o) (hw : Region.wanted o (yielded l.toArray a.tmps) = true)
    (h : ∀ K : Act → World → Prop, (∀ a' w', (∃ S' : World → Prop, (∀ x, S' x → S x) ∧ S' w' ∧ wpG P md l.toArray Q fuel S' listed a' w') → K a' w') → o.wp P a w K Q) :
    wpOp P l.toArray Q i (fun a'' w'' => ∃ S' : World → Prop, (∀ x, S' x → S x) ∧ S' w'' ∧ wpG P md l.toArray Q fuel S' listed a'' w'') a w := by
  unfold wpOp
  simp only [ho, hw, if_true]
  exact .inl (h _ fun _ _ h => h)
end
end Go.Proofs.YteijgoadcpphlaaDoor
namespace Go.Proofs.YteijgoadcpphlaaDoor
open Go
section
variable {P : Program} {ops : Array Oper} {Q : Exit → Act → World → Prop} {md : Region.Mode} {S : World → Prop}
/-- an operation that waits for all others -/
def lastP (md : Region.Mode) (ops : Array Oper) (i : Nat) : Prop := ∃ o, ops[i]? = some o ∧ ∀ k, k < ops.size → k ≠ i → ∃ e ∈ o.after, Region.binds md e = true ∧ e.on = k
def lastB (md : Region.Mode) (ops : Array Oper) (i : Nat) : Bool := match ops[i]? with
  | some o => (List.range ops.size).all fun k => k == i || o.after.any fun e => Region.binds md e && e.on == k
  | none => false
theorem lastP_of {i : Nat} (h : lastB md ops i = true) : lastP md ops i := by
  unfold lastB at h
  split at h
  · rename_i o ho
    refine ⟨o, ho, fun k hk hne => ?_⟩
    have h1 := List.all_eq_true.1 h k (List.mem_range.2 hk)
    simp only [Bool.or_eq_true, beq_iff_eq] at h1
    rcases h1 with h1 | h1
    · exact absurd h1 hne
    · obtain ⟨j, hj, h2⟩ := Array.any_eq_true.1 h1
      simp only [Bool.and_eq_true, beq_iff_eq] at h2
      exact ⟨_, Array.getElem_mem hj, h2.1, h2.2⟩
  · cases h
/-- whatever order is picked from here on; behind each operation a sharper condition holds -/
def wpH (P : Program) (md : Region.Mode) (ops : Array Oper) (Q : Exit → Act → World → Prop) : Nat → (World → Prop) → Array Bool → Act → World → Prop
  | 0, _, listed, a, w => Region.ready md ops listed = [] ∧ Q .normal a w
  | fuel + 1, S, listed, a, w =>
    (Region.ready md ops listed = [] → Q .normal a w) ∧
    ∀ i ∈ Region.ready md ops listed, wpOp P ops Q i (fun a' w' => ((lastP md ops i ∧ Region.ready md ops (listed.setIfInBounds i true) = []) ∧ Q .normal a' w') ∨ ∃ S' : World → Prop, (∀ x, S' x → S x) ∧ S' w' ∧ wpH P md ops Q fuel S' (listed.setIfInBounds i true) a' w') a w

theorem wpAny_done {listed : Array Bool} {a : Act} {w : World} (hr : Region.ready md ops listed = []) (h : Q .normal a w) : ∀ fuel, wpAny P md ops Q fuel listed a w
  | 0 => ⟨hr, h⟩
  | _ + 1 => ⟨fun _ => h, by rw [hr]; simp⟩
theorem wpAny_of_H : ∀ (fuel : Nat) (S : World → Prop) (listed : Array Bool) (a : Act) (w : World), wpH P md ops Q fuel S listed a w → wpAny P md ops Q fuel listed a w
  | 0, _, _, _, _, h => h
  | fuel + 1, S, _, _, _, h => ⟨h.1, fun i hi => wpOp_mono (fun a' w' h' => by
      rcases h' with ⟨⟨_, h1⟩, h2⟩ | ⟨S', _, _, h'⟩
      · exact wpAny_done h1 h2 fuel
      · exact wpAny_of_H fuel S' _ a' w' h') (h.2 i hi)⟩

theorem wpH_first {i : Nat} {oi : Oper} {v : Value} (hi : ops[i]? = some oi) (hsel : ∀ (j : Nat) (o : Oper) cs b, ops[j]? = some o → o.op ≠ .select cs b)
    (hQ : ∀ c a w, Q (.panic c) (a.put oi.dst v) w → Q (.panic c) a w) :
    ∀ (fuel : Nat) (S : World → Prop) (listed : Array Bool) (a : Act) (w : World),
      (∀ j oj, ops[j]? = some oj → j ≠ i → listed.getD j true = false → (∀ e ∈ oj.after, Region.binds md e = true → e.on ≠ i) → oi.apart ops oj = true) →
      i ∈ Region.ready md ops listed → YieldsIf P ops S oi v a → S w →
      wpH P md ops Q fuel S (listed.setIfInBounds i true) (a.put oi.dst v) w → wpH P md ops Q (fuel + 1) S listed a w := by
  intro fuel
  induction fuel with
  | zero =>
    intro S listed a w _ hr hy hS H
    refine ⟨fun h => (by rw [h] at hr; cases hr), fun j hj => ?_⟩
    by_cases hji : j = i
    · subst hji; exact hy.wpOp hi hS (.inr ⟨S, fun _ h => h, hS, H⟩)
    · have := ready_mono hj hji
      rw [H.1] at this
      cases this
  | succ fuel ih =>
    intro S listed a w hfree hr hy hS H
    refine ⟨fun h => (by rw [h] at hr; cases hr), fun j hj => ?_⟩
    by_cases hji : j = i
    · subst hji; exact hy.wpOp hi hS (.inr ⟨S, fun _ h => h, hS, H⟩)
    · have h1 := H.2 j (ready_mono hj hji)
      obtain ⟨hjun, oj, hoj, hall⟩ := mem_ready.1 hj
      have hnot : ∀ e ∈ oj.after, Region.binds md e = true → e.on ≠ i := fun e he hb heq => by
        have h1 := hall e he hb
        have h0 := (mem_ready.1 hr).1
        rw [heq] at h1
        rcases Nat.lt_or_ge i listed.size with h' | h'
        · simp [h'] at h0 h1; rw [h0] at h1; cases h1
        · simp [Array.getElem?_eq_none h'] at h1
      have h2 := wpOp_putIf hoj (hfree j oj hoj hji hjun hnot) (fun cs b => hsel i oi cs b hi) (fun cs b => hsel j oj cs b hoj) hQ hy h1
      have hfree' : ∀ k ok, ops[k]? = some ok → k ≠ i → (listed.setIfInBounds j true).getD k true = false →
          (∀ e ∈ ok.after, Region.binds md e = true → e.on ≠ i) → oi.apart ops ok = true := fun k ok hk hki hun hno => by
        refine hfree k ok hk hki ?_ hno
        by_cases hjk : j = k
        · subst hjk; exact hjun
        · rw [getD_set_ne true hjk] at hun; exact hun
      refine wpOp_mono (fun a' w' h3 => ?_) h2
      obtain ⟨hy3, h3⟩ := h3
      rcases h3 with ⟨⟨⟨o5, h5, h6⟩, _⟩, _⟩ | ⟨S', hs, hs2, h4⟩
      · rw [hoj] at h5
        cases h5
        obtain ⟨e, he, hb, heq⟩ := h6 i (Array.getElem?_eq_some_iff.1 hi).1 (Ne.symm hji)
        exact absurd heq (hnot e he hb)
      refine .inr ⟨S', hs, hs2, ih S' (listed.setIfInBounds j true) a' w' hfree' (ready_mono hr (Ne.symm hji)) (YieldsIf.sharper hs hy3) hs2 ?_⟩
      rw [Array.setIfInBounds_comm _ _ hji]
      exact h4

theorem takes_H {l : List Oper} (hs : Region.noSelect l.toArray = true) (hQ : ∀ c a d v w, Q (.panic c) (Act.put a d v) w → Q (.panic c) a w) {S : World → Prop} {w : World} (hS : S w) {R : Act → Prop} :
    ∀ (m : List Bool) (i fuel : Nat) (listed : Array Bool) (a : Act), takesB md l m i listed = true → m.length + i ≤ l.length →
      (∀ a', R a' → wpH P md l.toArray Q fuel S (takenL m i listed) a' w) → wpQuiet P l.toArray S R (maskRows m (l.drop i)) a → wpH P md l.toArray Q (fuel + countT m) S listed a w
  | [], i, fuel, listed, a, _, _, hk, h => hk a (by simpa [maskRows, wpQuiet] using h)
  | false :: m, i, fuel, listed, a, hb, hl, hk, h => by
    have hlt : i < l.length := by simp only [List.length_cons] at hl; omega
    rw [List.drop_eq_getElem_cons hlt] at h
    exact takes_H hs hQ hS m (i + 1) fuel listed a hb (by simp only [List.length_cons] at hl; omega) hk h
  | true :: m, i, fuel, listed, a, hb, hl, hk, h => by
    have hlt : i < l.length := by simp only [List.length_cons] at hl; omega
    rw [List.drop_eq_getElem_cons hlt] at h
    simp only [takesB, Bool.and_eq_true] at hb
    obtain ⟨⟨⟨hv, hf⟩, hr⟩, hb⟩ := hb
    have ho : l.toArray[i]? = some l[i] := by simp [hlt]
    rw [show l[i]? = some l[i] from by simp [hlt]] at hv
    dsimp only at hv
    simp only [maskRows, wpQuiet] at h
    have hin : i ∈ Region.ready md l.toArray listed := by simpa using hr
    show wpH P md l.toArray Q (fuel + countT m + 1) S listed a w
    by_cases hw : Region.wanted l[i] (yielded l.toArray a.tmps) = true
    · rw [if_pos hw] at h
      obtain ⟨v, h1, h2⟩ := h
      exact wpH_first ho (Region.noSelect_spec hs) (fun c a w => hQ c a _ _ w) _ S listed a w (Region.free_spec ho hf) hin (yields_of_quiet hv hw h1) hS
        (takes_H hs hQ hS m (i + 1) fuel _ _ hb (by simp only [List.length_cons] at hl; omega) hk h2)
    · rw [if_neg hw] at h
      exact wpH_first ho (Region.noSelect_spec hs) (fun c a w => hQ c a _ _ w) _ S listed a w (Region.free_spec ho hf) hin (.inr ⟨by simpa using hw, rfl⟩) hS
        (takes_H hs hQ hS m (i + 1) fuel _ _ hb (by simp only [List.length_cons] at hl; omega) hk h)
/-- what reads is taken; then one after another of what is ready is tried -/
theorem wpH_seg {l : List Oper} (m : List Bool) (rd : List Nat) (fuel' : Nat) {fuel : Nat} {listed : Array Bool} {a : Act} {w : World} (hs : Region.noSelect l.toArray = true)
    (hQ : ∀ c a d v w, Q (.panic c) (Act.put a d v) w → Q (.panic c) a w) (hb : segtB md l m rd fuel fuel' listed = true) (hS : S w)
    (h : wpQuiet P l.toArray S (fun a' => ∀ i ∈ rd, wpOp P l.toArray Q i (fun a'' w'' => ((lastP md l.toArray i ∧ Region.ready md l.toArray ((takenL m 0 listed).setIfInBounds i true) = []) ∧ Q .normal a'' w'') ∨ ∃ S' : World → Prop, (∀ x, S' x → S x) ∧ S' w'' ∧ wpH P md l.toArray Q fuel' S' ((takenL m 0 listed).setIfInBounds i true) a'' w'') a' w) (maskRows m l) a) :
    wpH P md l.toArray Q fuel S listed a w := by
  simp only [segtB, Bool.and_eq_true, decide_eq_true_eq, Bool.not_eq_true'] at hb
  obtain ⟨⟨⟨⟨h1, h2⟩, h3⟩, h4⟩, h5⟩ := hb
  subst h1
  refine takes_H (P := P) (md := md) hs hQ hS (R := fun a' => ∀ i ∈ rd, wpOp P l.toArray Q i (fun a'' w'' => ((lastP md l.toArray i ∧ Region.ready md l.toArray ((takenL m 0 listed).setIfInBounds i true) = []) ∧ Q .normal a'' w'') ∨ ∃ S' : World → Prop, (∀ x, S' x → S x) ∧ S' w'' ∧ wpH P md l.toArray Q fuel' S' ((takenL m 0 listed).setIfInBounds i true) a'' w'') a' w) m 0 (fuel' + 1) listed a h3 (by omega) (fun a' hq => ?_) (by simpa using h)
  refine ⟨fun h0 => (by rw [h4] at h0; rw [h0] at h5; cases h5), fun j hj => ?_⟩
  rw [h4] at hj
  exact hq j hj
/-- the same in a round of a range over a function, at the wide fence -/
theorem wpIn_region_H {id l0 k : Nat} {a : Act} {w : World} {l : List Oper} (S : World → Prop) (hm : P.follows .mixedOrders = true) (hd : noDefer l.toArray = true) (h : wpH P .any l.toArray (OnlyNormal Q) l.length S (Array.replicate l.length false) a w.drew) :
    (Code.region id l.toArray true).wpIn (Fence.wide.inRound l0) k P Q a w := by
  refine wpIn_region_draw fun t => wpOps_in hd _ _ _ ?_
  simp only [Region.schedule, hm, Bool.true_or, if_true]
  exact wpAny_sound l.toArray.size t _ a _ (wpAny_of_H _ _ _ _ _ (by simpa using h))
/-- one that is carried out -/
theorem segh_run {l : List Oper} {fuel : Nat} {R : Act → World → Prop} {listed : Array Bool} {i : Nat} {o : Oper} {a : Act} {w : World} (ho : l.toArray[i]? = some o) (hw : Region.wanted o (yielded l.toArray a.tmps) = true)
    (h : ∀ K : Act → World → Prop, (∀ a' w', (R a' w' ∨ ∃ S' : World → Prop, (∀ x, S' x → S x) ∧ S' w' ∧ wpH P md l.toArray Q fuel S' listed a' w') → K a' w') → o.wp P a w K Q) :
    wpOp P l.toArray Q i (fun a'' w'' => R a'' w'' ∨ ∃ S' : World → Prop, (∀ x, S' x → S x) ∧ S' w'' ∧ wpH P md l.toArray Q fuel S' listed a'' w'') a w := by
  unfold wpOp
  simp only [ho, hw, if_true]
  exact .inl (h _ fun _ _ h => h)
end
end Go.Proofs.YteijgoadcpphlaaDoor
namespace Go.Proofs.YteijgoadcpphlaaDoor
open Go.ChangeShapes Go.WideShapes Go.ChangeAt Go.RowKit Go.BigFrame Go.Shelf
attribute [local go_sem] Oper.semAt_some
set_option linter.unusedVariables false

theorem infoS2 : (Tryd.prog.info? 9).map (fun i => (i.zero, i.size, i.bytes)) = some (some (.string ByteArray.empty), 1, 16) := by kernel_rfl
def ptV (ks : List K2) : List Value := ks.map fun k => .string (tB (ptL k))
theorem ptV_snoc (ks : List K2) (k : K2) : ptV (ks ++ [k]) = ptV ks ++ [.string (tB (ptL k))] := by simp [ptV]
theorem tx_load {w : World} {b : Nat} {x : Value} (h : w.heap[b]? = some (.cells #[x] 27 (0, 0))) : (loadVar 27 ⟨b, 0, none⟩).run Tryd.prog w = .ok x w :=
  load_oneQ (fun w => by simp [isAgg, underlying, Tryd.underlying27]) (by rw [cell_of_row _ _ 0 _ _ _ h]; rfl)
theorem cells_not_row {W : World} {B : Nat} {cs : Array Value} {t e : TypeId} {base size k : Nat} {v : Value} {xs : List Value} (h : W.heap[B]? = some (.cells cs t (0, 0))) (hte : t ≠ e) (hr : W.ownsRow base e size v k xs) : some B ≠ v.ownBlock := by
  rcases hr.2 with ⟨rfl, _⟩ | ⟨g, cap, cur, rfl, _, hgb, _⟩
  · simp [Value.ownBlock]
  · intro e'
    have hB : B = g := by simpa [Value.ownBlock] using e'
    subst hB
    rw [h] at hgb
    injection hgb with h1
    injection h1 with h2 h3
    exact hte h3
theorem own_isCells {W : World} {e : TypeId} {base size k : Nat} {v : Value} {xs : List Value} (hr : W.ownsRow base e size v k xs) (j : Nat) (o : Obj) (he : v.ownBlock = some j) (ho : W.heap[j]? = some o) : o.isCells = true := by
  rcases hr.2 with ⟨rfl, _⟩ | ⟨g, cap, cur, rfl, _, hgb, _⟩
  · simp [Value.ownBlock] at he
  · have hB : g = j := by simpa [Value.ownBlock] using he
    subst hB
    rw [hgb] at ho; cases ho; rfl
set_option maxRecDepth 100000 in
set_option maxHeartbeats 4000000 in
theorem iplantext_any (v : Value) (ks : List K2) (w : World) (h : keysAt w v ks) (hs : ks.length ≤ 2000000) (hin : ∀ k ∈ ks, kIn k) (hT : Lib.TabIs Tryd.prog w "internal/strconv.uint64pow10" IntKind.u64 Lib.pow10Tab) :
    Calls Tryd.prog 7 #[v] w fun e w' => e = .returned (.string (tB (ptextL ks))) ∧ Below w.heap.size w w' := by
  obtain ⟨i0, hi, hz0, hz1, hz2⟩ := info_parts infoS2
  have HP := Lib.hid (iplanok_any v ks w h hs)
  have hk0 := keysIn0_of h
  obtain ⟨a, cap, rfl, hcap, hcells⟩ := h
  clear hcells
  have HT := Lib.hid hT
  clear hT
  cases hp : plnB ks with
  | false =>
    rw [hp] at HP
    have HF := Lib.hid (show tB (ptextL ks) = ByteArray.empty by rw [ptext_no hp]; rfl)
    clear hp hk0
    go_enter Tryd.func7, Tryd.ntmps7
    go_wp2_with fail
    refine HP.out.mono ?_
    rintro e w1 ⟨rfl, hb1⟩
    go_wp2
    go_ret
    exact ⟨by rw [HF.out]; rfl, hb1⟩
  | true =>
    rw [hp] at HP
    have HF := Lib.hid (show tB (ptextL ks) = tB (plTextL ks) by rw [ptext_ok hp])
    have hl6 := (pln_len hp).2
    have hl1 := (pln_len hp).1
    clear hp
    obtain ⟨rs, hrs⟩ : ∃ rs : List RS, ks = rs.map (·.1) := ⟨ks.pmap Subtype.mk hin, by rw [List.map_pmap]; simp⟩
    have HRL := Lib.hid (show rs.length = ks.length by rw [hrs, List.length_map])
    have HRS := Lib.hid hrs
    clear hrs
    refine (callsIn_wide (n := 9)).1 ?_
    refine callsIn_of_wp_marks Tryd.func7 rfl trivial ?_ rfl
    simp only [Tryd.ntmps7, List.size_toArray, List.length_cons, List.length_nil, Nat.reduceAdd, Nat.reduceSub, Array.replicate_succ, Array.replicate_zero, List.push_toArray, List.append_toArray, List.nil_append, List.cons_append]
    gi_wp2
    refine ⟨trivial, (callsIn_wide.2 HP.out).mono ?_⟩
    rintro e w1 ⟨rfl, hb1⟩
    have hzw := hb1.size
    have bT := Boxed.new w1 27 (.slice none 0 0)
    have hb2 := hb1.alloc hb1.size (.cells #[.slice none 0 0] 27)
    have hsz2 : (w1.alloc (.cells #[.slice none 0 0] 27)).heap.size = w1.heap.size + 1 := by simp
    clear hb1 HP
    gi_wp2
    generalize w1.alloc (.cells #[.slice none 0 0] 27) = W2 at *
    refine ⟨trivial, (callsIn_wide.2 (stin_any _ _ _ _)).mono ?_⟩
    rintro e w3 ⟨rfl, rfl⟩
    have bS := Boxed.new W2 24 (.slice a ks.length cap)
    rw [hsz2] at bS
    have bT3 := bT.alloc (.cells #[.slice a ks.length cap] 24)
    have hB0 := hb2.alloc hb2.size (.cells #[.slice a ks.length cap] 24)
    have hsz : (W2.alloc (.cells #[.slice a ks.length cap] 24)).heap.size = w1.heap.size + 2 := by simp; omega
    clear bT hb2
    gi_wp2
    generalize W2.alloc (.cells #[.slice a ks.length cap] 24) = W0 at *
    generalize w1.heap.size = B3 at *
    clear hsz2
    refine wpIn_rangeFunc_ownH (n := 9) rfl (by omega) (gf := 29) (lb := #[.pointer (some ⟨B3 + 1, 0, none⟩)]) rfl trivial (enters_of Tryd.func29 (by kernel_rfl) rfl)
      (stir_stops 8 (B3 + 1) w.heap.size (.slice a rs.length cap) rs (by have := HRL.out; omega) (by omega) W0 (by omega) (by omega) (HRL.out.symm ▸ bS.cell) (by have h := hk0.below hB0; rw [← HRL.out] at h; exact HRS.out ▸ h)) belowK_t (belowK_b (by omega)) (Below.refl _ _) (fun _ => rfl)
      (fun pre W => (∃ v, Boxed W B3 27 v ∧ W.ownsRow w.heap.size 9 1 v pre.length (ptV (pre.map (·.1))) ∧ True) ∧ Below w.heap.size w W)
      (fun c pre W => False)
      (OwnFrom.and (Own.from (holdsRow_own w.heap.size B3 27 9 1 (fun pre : List RS => pre.length) (fun pre => ptV (pre.map (·.1))) (fun _ _ => True)) _) (ownFrom_below (Nat.le_refl _) (by omega)))
      (fun c => ownFrom_pure _ (fun pre : List RS => False))
      ⟨⟨_, bT3, ⟨by simp [ptV], .inl ⟨rfl, rfl⟩⟩, trivial⟩, hB0⟩
      (fun x a' W => ∃ Bx, B3 < Bx ∧ SBoxed W Bx x.1 ∧ a' = { tmps := #[.slice a ks.length cap, undef, .string ⟨#[]⟩, .pointer (some ⟨B3, 0, none⟩), .pointer (some ⟨Bx, 0, none⟩), .slice a ks.length cap, .bool true, .bool false, .slice a ks.length cap, .func (.func 29) #[] #[.pointer (some ⟨B3 + 1, 0, none⟩)], kv x.1, undef, undef, undef, undef, undef, undef, undef, undef, undef, undef, undef, undef, undef], defers := [] })
      (fun x a' _ X Y row hs hg hr => by
        obtain ⟨Bx, e1, e2, e4⟩ := hs
        exact ⟨Bx, e1, sboxed_own Bx (fun _ : Unit => x.1) () X Y row e2 hg (fun r e => (hr r e).2), e4⟩)
      ?assign ?body ?done ?stop
    case assign =>
      rintro l pre ⟨⟨p, q⟩, hpq⟩ W K ⟨⟨v, hV, hrow, -⟩, hB⟩ hK
      unfold kv at *
      dsimp only at *
      gi_wp2
      exact hK _ _ ((KeepsOthers.alloc _ _).from _) ((Below.refl _ W).alloc hB.size _) ⟨⟨v, hV.alloc _, hrow.alloc _, trivial⟩, hB.alloc hB.size _⟩ ⟨W.heap.size, (Array.getElem?_eq_some_iff.1 hV).1, SBoxed.new W (p, q), rfl⟩
    case body =>
      rintro l pre ⟨⟨p, q⟩, hpq⟩ a' W hl ⟨rr, hr⟩ ⟨⟨v, hV, hrow, -⟩, hB⟩ ⟨Bx, hBx, bX, rfl⟩ hlt
      unfold kv at *
      dsimp only at *
      have hsW := hB.size
      have LT : ∀ wx : World, (wx.heap[B3]? = some (.cells #[v] 27 (0, 0)) ∧ SBoxed wx Bx (p, q)) → (loadVar 27 ⟨B3, 0, none⟩).run Tryd.prog wx = .ok v wx := fun wx h => tx_load h.1
      have L0 : ∀ wx : World, (wx.heap[B3]? = some (.cells #[v] 27 (0, 0)) ∧ SBoxed wx Bx (p, q)) → (loadVar 3 ⟨Bx, 0, none⟩).run Tryd.prog wx = .ok (.int .i64 p) wx := fun wx h => sint_load h.2.cell0
      have L1 : ∀ wx : World, (wx.heap[B3]? = some (.cells #[v] 27 (0, 0)) ∧ SBoxed wx Bx (p, q)) → (loadVar 3 ⟨Bx, 1, none⟩).run Tryd.prog wx = .ok (.int .i64 q) wx := fun wx h => sint_load h.2.cell1
      have D1 := Lib.hid (fun w' (h : Below w.heap.size w w') => idec_any p w' hpq.1.1 hpq.1.2 (tab_below HT.out h))
      have D2 := Lib.hid (fun w' (h : Below w.heap.size w w') => idec_any q w' hpq.2.1 hpq.2.2 (tab_below HT.out h))
      change Hid (∀ w' _, Calls _ _ _ w' fun e w'' => e = .returned (.string (decB p)) ∧ Below w'.heap.size w' w'') at D1
      change Hid (∀ w' _, Calls _ _ _ w' fun e w'' => e = .returned (.string (decB q)) ∧ Below w'.heap.size w' w'') at D2
      have HTS := Lib.hid (show ptV ((pre ++ [(⟨(p, q), hpq⟩ : RS)]).map (·.1)) = ptV (pre.map (·.1)) ++ [.string (decB p ++ ⟨#[58]⟩ ++ decB q)] by
        rw [List.map_append, List.map_cons, List.map_nil, ptV_snoc]
        unfold ptL decB
        rw [← tB_append, ← tB_append]; rfl)
      have b1 := decB_size hpq.1
      have b2 := decB_size hpq.2
      generalize decB p = dp at *
      generalize decB q = dq at *
      have u1 : ¬ 9223372036854775807 < dp.size + 1 := by omega
      have u2 : ¬ 9223372036854775807 < dp.size + 1 + dq.size := by omega
      gi_wp2
      refine wpIn_region_H (fun wx => wx.heap[B3]? = some (.cells #[v] 27 (0, 0)) ∧ SBoxed wx Bx (p, q)) (by kernel_rfl) (by kernel_rfl) ?_
      have hb := (Below.refl W.heap.size W).drew
      have HS := Lib.hid (show (World.drew W).heap[B3]? = some (.cells #[v] 27 (0, 0)) ∧ SBoxed (World.drew W) Bx (p, q) from ⟨(hb.block _ (Array.getElem?_eq_some_iff.1 hV).1).trans hV, bX.kept (grown_of_below' hb none) (by simp)⟩)
      have HO := Lib.hid (own_below hrow hb)
      have HBP := Lib.hid (hb.mono hsW)
      have HBB := Lib.hid (hB.trans (hb.mono hsW))
      have HK1 := Lib.hid (KeepsOthers.of_grownBy (grown_of_below' hb none) (fun j o e => by cases e) : KeepsOthers W (World.drew W))
      have HSZ := Lib.hid (Nat.le_trans hsW hb.size)
      clear hb hV bX hrow hB hr
      generalize World.drew W = wD at *
      refine wpH_seg [true, true, true, false, false, true, true] [3] 6 (by kernel_rfl) (fun _ _ _ _ _ h => h) (by kernel_rfl) HS.out ?_
      try simp only [maskRows]
      repeat (first
        | go_big_quiet_skip
        | (go_big_quiet_want
           first
             | (go_big_quiet_op; go_big_quiet_on)
             | (refine q_load 27 _ _ _ rfl rfl LT ?_; simp only [Act.put, List.setIfInBounds_toArray, List.set_cons_zero, List.set_cons_succ]; go_big_quiet_on)
             | (refine q_load 3 _ _ _ rfl rfl L0 ?_; simp only [Act.put, List.setIfInBounds_toArray, List.set_cons_zero, List.set_cons_succ]; go_big_quiet_on)
             | (refine q_load 3 _ _ _ rfl rfl L1 ?_; simp only [Act.put, List.setIfInBounds_toArray, List.set_cons_zero, List.set_cons_succ]; go_big_quiet_on)
             | (go_big_quiet_op; refine ⟨_, fun _ _ => rfl, ?_⟩; go_big_quiet_on)
             | (go_big_quiet_op; refine ⟨_, fun _ _ _ => rfl, ?_⟩; go_big_quiet_on)))
      refine wpQuiet_nil ?_
      refine List.forall_mem_singleton.2 ?_
      refine segh_run rfl (by rfl) (fun K hK => ?_)
      go_simp
      refine (D1.out _ HBB.out).mono ?_
      rintro e w4 ⟨rfl, hb4⟩
      dsimp only
      have gw4 := grown_of_below' hb4 none
      replace HS := Lib.hid (show w4.heap[B3]? = some (.cells #[v] 27 (0, 0)) ∧ SBoxed w4 Bx (p, q) from ⟨(hb4.block _ (Array.getElem?_eq_some_iff.1 HS.out.1).1).trans HS.out.1, HS.out.2.kept gw4 (by simp)⟩)
      replace HO := Lib.hid (own_below HO.out hb4)
      replace HBP := Lib.hid (HBP.out.trans (hb4.mono HSZ.out))
      replace HBB := Lib.hid (HBB.out.trans (hb4.mono HSZ.out))
      replace HK1 := Lib.hid (HK1.out.trans (KeepsOthers.of_grownBy gw4 (fun j o e => by cases e)))
      replace HSZ := Lib.hid (Nat.le_trans HSZ.out hb4.size)
      clear hb4 gw4
      refine hK _ _ (.inr ⟨_, fun _ h => h, HS.out, ?_⟩)
      clear hK K
      try simp only [Act.put, List.getElem_toArray, List.getElem_cons_succ, List.getElem_cons_zero, List.setIfInBounds_toArray, List.set_cons_zero, List.set_cons_succ]
      refine wpH_seg [false, false, false, false, true] [7] 4 (by kernel_rfl) (fun _ _ _ _ _ h => h) (by kernel_rfl) HS.out ?_
      try simp only [maskRows]
      repeat (first
        | go_big_quiet_skip
        | (go_big_quiet_want
           first
             | (go_big_quiet_op; go_big_quiet_on)
             | (refine q_load 27 _ _ _ rfl rfl LT ?_; simp only [Act.put, List.setIfInBounds_toArray, List.set_cons_zero, List.set_cons_succ]; go_big_quiet_on)
             | (refine q_load 3 _ _ _ rfl rfl L0 ?_; simp only [Act.put, List.setIfInBounds_toArray, List.set_cons_zero, List.set_cons_succ]; go_big_quiet_on)
             | (refine q_load 3 _ _ _ rfl rfl L1 ?_; simp only [Act.put, List.setIfInBounds_toArray, List.set_cons_zero, List.set_cons_succ]; go_big_quiet_on)
             | (go_big_quiet_op; refine ⟨_, fun _ _ => rfl, ?_⟩; go_big_quiet_on)
             | (go_big_quiet_op; refine ⟨_, fun _ _ _ => rfl, ?_⟩; go_big_quiet_on)))
      refine wpQuiet_nil ?_
      refine List.forall_mem_singleton.2 ?_
      refine segh_run rfl (by rfl) (fun K hK => ?_)
      go_simp
      refine (D2.out _ HBB.out).mono ?_
      rintro e w5 ⟨rfl, hb5⟩
      dsimp only
      have gw5 := grown_of_below' hb5 none
      replace HS := Lib.hid (show w5.heap[B3]? = some (.cells #[v] 27 (0, 0)) ∧ SBoxed w5 Bx (p, q) from ⟨(hb5.block _ (Array.getElem?_eq_some_iff.1 HS.out.1).1).trans HS.out.1, HS.out.2.kept gw5 (by simp)⟩)
      replace HO := Lib.hid (own_below HO.out hb5)
      replace HBP := Lib.hid (HBP.out.trans (hb5.mono HSZ.out))
      replace HBB := Lib.hid (HBB.out.trans (hb5.mono HSZ.out))
      replace HK1 := Lib.hid (HK1.out.trans (KeepsOthers.of_grownBy gw5 (fun j o e => by cases e)))
      replace HSZ := Lib.hid (Nat.le_trans HSZ.out hb5.size)
      clear hb5 gw5
      refine hK _ _ (.inr ⟨_, fun _ h => h, HS.out, ?_⟩)
      clear hK K
      try simp only [Act.put, List.getElem_toArray, List.getElem_cons_succ, List.getElem_cons_zero, List.setIfInBounds_toArray, List.set_cons_zero, List.set_cons_succ]
      refine wpH_seg [false, false, false, false, false, false, false, false, true] [9] 2 (by kernel_rfl) (fun _ _ _ _ _ h => h) (by kernel_rfl) HS.out ?_
      try simp only [maskRows]
      repeat (first
        | go_big_quiet_skip
        | (go_big_quiet_want
           first
             | (go_big_quiet_op; go_big_quiet_on)
             | (refine q_load 27 _ _ _ rfl rfl LT ?_; simp only [Act.put, List.setIfInBounds_toArray, List.set_cons_zero, List.set_cons_succ]; go_big_quiet_on)
             | (refine q_load 3 _ _ _ rfl rfl L0 ?_; simp only [Act.put, List.setIfInBounds_toArray, List.set_cons_zero, List.set_cons_succ]; go_big_quiet_on)
             | (refine q_load 3 _ _ _ rfl rfl L1 ?_; simp only [Act.put, List.setIfInBounds_toArray, List.set_cons_zero, List.set_cons_succ]; go_big_quiet_on)
             | (go_big_quiet_op; refine ⟨_, fun _ _ => rfl, ?_⟩; go_big_quiet_on)
             | (go_big_quiet_op; refine ⟨_, fun _ _ _ => rfl, ?_⟩; go_big_quiet_on)))
      refine wpQuiet_nil ?_
      refine List.forall_mem_singleton.2 ?_
      refine segh_run rfl (by rfl) (fun K hK => ?_)
      go_simp
      have hb6 := (Below.refl w5.heap.size w5).alloc (Nat.le_refl _) (.cells #[.string (dp ++ ⟨#[58]⟩ ++ dq)] 9)
      have HNW := Lib.hid (cell_one_new w5 (.string (dp ++ ⟨#[58]⟩ ++ dq)) 9)
      generalize w5.alloc (.cells #[.string (dp ++ ⟨#[58]⟩ ++ dq)] 9) = w6 at *
      have gw6 := grown_of_below' hb6 none
      replace HS := Lib.hid (show w6.heap[B3]? = some (.cells #[v] 27 (0, 0)) ∧ SBoxed w6 Bx (p, q) from ⟨(hb6.block _ (Array.getElem?_eq_some_iff.1 HS.out.1).1).trans HS.out.1, HS.out.2.kept gw6 (by simp)⟩)
      replace HO := Lib.hid (own_below HO.out hb6)
      replace HBP := Lib.hid (HBP.out.trans (hb6.mono HSZ.out))
      replace HBB := Lib.hid (HBB.out.trans (hb6.mono HSZ.out))
      replace HK1 := Lib.hid (HK1.out.trans (KeepsOthers.of_grownBy gw6 (fun j o e => by cases e)))
      replace HSZ := Lib.hid (Nat.le_trans HSZ.out hb6.size)
      clear hb6 gw6
      generalize w5.heap.size = gL at *
      refine hK _ _ (.inr ⟨_, fun _ h => h, HS.out, ?_⟩)
      clear hK K
      try simp only [Act.put, List.getElem_toArray, List.getElem_cons_succ, List.getElem_cons_zero, List.setIfInBounds_toArray, List.set_cons_zero, List.set_cons_succ]
      refine wpH_seg [] [10] 1 (by kernel_rfl) (fun _ _ _ _ _ h => h) (by kernel_rfl) HS.out ?_
      try simp only [maskRows]
      refine wpQuiet_nil ?_
      refine List.forall_mem_singleton.2 ?_
      refine segh_run rfl (by rfl) (fun K hK => ?_)
      refine wp_append_own _ (.tmp 11) (.tmp 20) 27 rfl w.heap.size 9 i0 (.string ByteArray.empty) 1 16 Tryd.underlying27 hi hz0 hz1 hz2 rfl (by decide) _ _ _ rfl HO.out ⟨gL, 0, none⟩ 1 1 [.string (dp ++ ⟨#[58]⟩ ++ dq)] rfl rfl HNW.out (by simp [Value.oneCell']) (by have := HRL.out; unfold maxLen; omega) (by have := HRL.out; omega) HSZ.out ?_
      intro v7 w7 hown7 hgrow7 _
      have hn1 := cells_not_row HS.out.1 (by decide) HO.out
      have hn2 := cells_not_row HS.out.2 (by decide) HO.out
      replace HS := Lib.hid (show w7.heap[B3]? = some (.cells #[v] 27 (0, 0)) ∧ SBoxed w7 Bx (p, q) from ⟨(hgrow7.block _ (Array.getElem?_eq_some_iff.1 HS.out.1).1 hn1).trans HS.out.1, HS.out.2.kept hgrow7 hn2⟩)
      replace HBP := Lib.hid (HBP.out.grown hgrow7 HSZ.out (fun b e => (World.ownsRow.lt HO.out b e).1))
      replace HBB := Lib.hid (HBB.out.grown hgrow7 HBB.out.size (fun b e => (World.ownsRow.lt HO.out b e).1))
      replace HK1 := Lib.hid (HK1.out.trans (KeepsOthers.of_grownBy hgrow7 (fun j o e ho => own_isCells HO.out j o e ho)))
      replace HSZ := Lib.hid (Nat.le_trans HSZ.out hgrow7.size)
      obtain ⟨g7, c7, rfl, -, -, -, -⟩ := (ownsRowK_shape hown7).resolve_left (by rintro ⟨_, h⟩; omega)
      have HO7 := Lib.hid hown7
      clear hown7 hgrow7 hn1 hn2 HO HNW
      refine hK _ _ (.inr ⟨_, fun _ h => h, HS.out, ?_⟩)
      clear hK K
      try simp only [Act.put, List.getElem_toArray, List.getElem_cons_succ, List.getElem_cons_zero, List.setIfInBounds_toArray, List.set_cons_zero, List.set_cons_succ]
      refine wpH_seg [] [11] 0 (by kernel_rfl) (fun _ _ _ _ _ h => h) (by kernel_rfl) HS.out ?_
      try simp only [maskRows]
      refine wpQuiet_nil ?_
      refine List.forall_mem_singleton.2 ?_
      have e0 : w7.cell? ⟨B3, 0, none⟩ = some v := by rw [cell_of_row _ _ 0 _ _ _ HS.out.1]; rfl
      have ef : w7.frozen? ⟨B3, 0, none⟩ = false := by simp [World.frozen?, HS.out.1]
      have el := (Array.getElem?_eq_some_iff.1 HS.out.1).1
      refine segh_run rfl (by rfl) (fun K hK => ?_)
      go_simp
      have HV8 := Lib.hid (show Boxed (w7.setCell ⟨B3, 0, none⟩ (.slice (some ⟨g7, 0, none⟩) (pre.length + 1) c7)) B3 27 (.slice (some ⟨g7, 0, none⟩) (pre.length + 1) c7) from set_cells (.slice (some ⟨g7, 0, none⟩) (pre.length + 1) c7) HS.out.1)
      have HO8 := Lib.hid (HO7.out.kept (grownBy_setCell' w7 B3 (.slice (some ⟨g7, 0, none⟩) (pre.length + 1) c7)) (.inr (fun e => cells_not_row HS.out.1 (by decide) HO7.out e.symm)))
      have HBP8 := Lib.hid (HBP.out.setCell (p := ⟨B3, 0, none⟩) (by simp only []; omega) (.slice (some ⟨g7, 0, none⟩) (pre.length + 1) c7))
      have HBB8 := Lib.hid (HBB.out.setCell (p := ⟨B3, 0, none⟩) (by simp only []; omega) (.slice (some ⟨g7, 0, none⟩) (pre.length + 1) c7))
      have HK8 := Lib.hid (HK1.out.trans (KeepsOthers.setCell w7 ⟨B3, 0, none⟩ (.slice (some ⟨g7, 0, none⟩) (pre.length + 1) c7)))
      clear HS HO7 HBP HBB HK1 HSZ e0 ef el
      refine hK _ _ (.inl ⟨⟨lastP_of (by kernel_rfl), by kernel_rfl⟩, ?_⟩)
      clear hK K
      try simp only [Act.put, List.getElem_toArray, List.getElem_cons_succ, List.getElem_cons_zero, List.setIfInBounds_toArray, List.set_cons_zero, List.set_cons_succ]
      try simp only [OnlyNormal]
      gi_wp2
      exact ⟨HK8.out.from _, HBP8.out, ⟨_, HV8.out, by rw [HTS.out]; simpa using HO8.out, trivial⟩, HBB8.out⟩
    case done =>
      rintro D ys W hD hys ⟨⟨v, hV, hrow, -⟩, hB⟩ hK
      subst hys
      rw [← HRS.out, HRL.out] at hrow
      have hlen := plText_len _ ks rfl hin
      have hmap : (ks.map fun k => tB (ptL k)).map (·.data.toList) = ks.map ptL := by
        rw [List.map_map]; apply List.map_congr_left; intro x _; simp [tB]
      have e0 := hV.cell
      rcases hrow.2 with ⟨rfl, h0⟩ | ⟨gv, cv, cur, rfl, hgb, hgh, hgn, hgm, hgs, hgt⟩
      · omega
      · have hJ := Tryd.strings_Join gv 0 cv (ks.map fun k => tB (ptL k)) ⟨#[32]⟩ W (fun j x hj => by
            have hlt := (List.getElem?_eq_some_iff.1 hj).1
            rw [List.length_map] at hlt
            rw [Nat.zero_add, hrow.cellAt j (by omega)]
            unfold ptV
            simp only [List.getElem?_map] at hj ⊢
            cases hk : ks[j]? with
            | none => rw [hk] at hj; cases hj
            | some y => rw [hk] at hj; cases hj; rfl) (Array.getElem?_eq_some_iff.1 hgh).1 (by simp; omega) (by simpa using hgn) (by rw [hmap]; exact Nat.le_trans hlen (by omega))
        rw [hmap, List.length_map] at hJ
        have HJ := Lib.hid hJ
        have HKD := Lib.hid hK
        clear hJ hgs hgt hgh hrow hV hK
        gi_wp2
        refine ⟨trivial, (callsIn_wide.2 HJ.out).mono ?_⟩
        rintro e w9 ⟨rfl, hb9⟩
        have HKD9 := Lib.hid ((hb9.block _ (Array.getElem?_eq_some_iff.1 HKD.out).1).trans HKD.out)
        have hbb := hB.trans (hb9.mono hB.size)
        gi_wp2
        try rw [Exit.noGoto_ret]
        refine ⟨by simp, .inl ⟨_, _, rfl, run_takeDeferred HKD9.out, ?_⟩⟩
        exact ⟨_, results_tmp rfl _ _ _, by rw [HF.out]; rfl, hbb.trans (belowK_b (w := w) (Nat.le_refl _) _ D _ _ (by omega) HKD9.out rfl rfl)⟩
    case stop =>
      rintro D c pre W hD hpre hf hK
      exact hf.elim
end Go.Proofs.YteijgoadcpphlaaDoor
namespace Go.Proofs.YteijgoadcpphlaaDoor
open Go.ChangeShapes Go.WideShapes Go.ChangeAt Go.RowKit Go.BigFrame
set_option linter.unusedVariables false

theorem plAll_false {ks : List K2} {k n : Nat} (hk : k < n) (h : plStep ks k = false) : (List.range n).all (plStep ks) = false := by
  rw [List.all_eq_false]
  exact ⟨k, List.mem_range.2 hk, by simp [h]⟩
theorem plAll_succ (ks : List K2) (k : Nat) : (List.range (k + 1)).all (plStep ks) = ((List.range k).all (plStep ks) && plStep ks k) := by
  rw [List.range_succ, List.all_append]
  simp
theorem build_st (a b : Int) (w : World) : (Instr.build 31 #[(0, .int .i64 a), (1, .int .i64 b)]).run Tryd.prog w = .ok (.agg #[.int .i64 a, .int .i64 b]) w := run_build w 31 _ _ (by kernel_rfl)
theorem build_st1 (b : Int) (w : World) : (Instr.build 31 #[(1, .int .i64 b)]).run Tryd.prog w = .ok (.agg #[.int .i64 0, .int .i64 b]) w := run_build w 31 _ _ (by kernel_rfl)
set_option maxRecDepth 100000 in
set_option maxHeartbeats 2000000 in
theorem splanok_any (v : Value) (ks : List K2) (w : World) (h : keysAt w v ks) (hs : ks.length ≤ 2000000) : Calls Tryd.prog 11 #[v] w fun e w' => e = .returned (.bool (plnB ks)) ∧ Below w.heap.size w w' := by
  obtain ⟨a, cap, rfl, hcap, hcells⟩ := h
  have HI := Lib.hid (fun w => sin_any (ks.length : Int) 1 6 w)
  by_cases hl : 1 ≤ ks.length ∧ ks.length ≤ 6
  · obtain ⟨x, r, hxr⟩ : ∃ x r, ks = x :: r := by
      cases ks with
      | nil => simp at hl
      | cons x r => exact ⟨x, r, rfl⟩
    have HPA := Lib.hid (show plnB ks = (x == (0, 1) && (List.range r.length).all (plStep ks)) by rw [hxr]; exact pln_all x r)
    have hrl : ks.length = r.length + 1 := by rw [hxr]; rfl
    obtain ⟨g, off, rfl, hg, hcs⟩ := hcells.resolve_left (by omega)
    have b1 : (decide ((1 : Int) ≤ (ks.length : Int)) && decide ((ks.length : Int) ≤ 6)) = true := by simp; omega
    rw [b1] at HI
    have c0 := hcs 0 (by omega)
    rw [show ks.getD 0 (0, 0) = x by rw [hxr]; rfl] at c0
    obtain ⟨p, q⟩ := x
    have C0 : w.cell? ⟨g, off, none⟩ = some (.int .i64 p) := by simpa using c0.1
    have C1 : w.cell? ⟨g, off + 1, none⟩ = some (.int .i64 q) := by simpa using c0.2
    have z1 : (0 : Int) < (ks.length : Int) := by omega
    have hne := fun w => step_neq (p, q) (0, 1) w
    have hgu := fun op x y w => step_guard op x y (p, q) (0, 1) w
    unfold kv at hne hgu
    dsimp only at hne hgu
    have HRL := Lib.hid hrl
    have HCS := Lib.hid hcs
    clear c0 hxr hcells hrl hcs
    cases hx : ((p, q) == (0, 1)) with
    | false =>
      rw [hx] at hne
      have HF := Lib.hid (show plnB ks = false by rw [HPA.out, hx]; rfl)
      clear hx
      go_enter Tryd.func11, Tryd.ntmps11
      go_wp2_with fail
      refine (HI.out _).mono ?_
      rintro e w1 ⟨rfl, rfl⟩
      go_wp2
      go_ret
      exact ⟨by rw [HF.out]; rfl, Below.refl _ _⟩
    | true =>
      rw [hx] at hne
      have HT := Lib.hid (show plnB ks = (List.range (ks.length - 1)).all (plStep ks) by rw [HPA.out, hx, HRL.out]; rfl)
      clear hx HPA
      go_enter Tryd.func11, Tryd.ntmps11
      go_wp2_with fail
      refine (HI.out _).mono ?_
      rintro e w1 ⟨rfl, rfl⟩
      have HL := Lib.hid hl
      clear hl HRL HI
      go_wp2
      clear hne hgu C0 C1 z1
      go_loopw [3] (fun i wr => ∃ k : Nat, 1 ≤ k ∧ k ≤ ks.length ∧ i = .int .i64 k ∧ (List.range (k - 1)).all (plStep ks) = true ∧ Below w1.heap.size w1 wr) (fun i _ => ks.length - (intOf i).toNat)
      case atStart => exact ⟨1, by omega, HL.out.1, rfl, rfl, Below.refl _ _⟩
      case round =>
        obtain ⟨k, hk1, hk, rfl, hall, hb⟩ := hrel
        by_cases hlt : k < ks.length
        · have cA := HCS.out (k - 1) (by omega)
          have cB := HCS.out k hlt
          have HST := Lib.hid (show plStep ks (k - 1) = folB (ks.getD (k - 1) (0, 0)) (ks.getD k (0, 0)) by unfold plStep; rw [show k - 1 + 1 = k by omega])
          generalize ks.getD (k - 1) (0, 0) = A at *
          generalize ks.getD k (0, 0) = B at *
          obtain ⟨pa, qa⟩ := A
          obtain ⟨pb, qb⟩ := B
          dsimp only at cA cB
          have LA0 : ∀ w', Below w1.heap.size w1 w' → (loadVar 3 ⟨g, off + (k - 1) * 2, none⟩).run Tryd.prog w' = .ok (.int .i64 pa) w' := fun w' h => sint_load (by rw [h.cell (p := ⟨g, off + (k - 1) * 2, none⟩) hg]; exact cA.1)
          have LA1 : ∀ w', Below w1.heap.size w1 w' → (loadVar 3 ⟨g, off + (k - 1) * 2 + 1, none⟩).run Tryd.prog w' = .ok (.int .i64 qa) w' := fun w' h => sint_load (by rw [h.cell (p := ⟨g, off + (k - 1) * 2 + 1, none⟩) hg]; exact cA.2)
          have LB0 : ∀ w', Below w1.heap.size w1 w' → (loadVar 3 ⟨g, off + k * 2, none⟩).run Tryd.prog w' = .ok (.int .i64 pb) w' := fun w' h => sint_load (by rw [h.cell (p := ⟨g, off + k * 2, none⟩) hg]; exact cB.1)
          have LB1 : ∀ w', Below w1.heap.size w1 w' → (loadVar 3 ⟨g, off + k * 2 + 1, none⟩).run Tryd.prog w' = .ok (.int .i64 qb) w' := fun w' h => sint_load (by rw [h.cell (p := ⟨g, off + k * 2 + 1, none⟩) hg]; exact cB.2)
          have z0 : (0 : Int) ≤ (k : Int) := by omega
          have z1 : (k : Int) < (ks.length : Int) := by omega
          have y1 : (0 : Int) ≤ (k : Int) - 1 := by omega
          have y3 : (1 : Int) ≤ (k : Int) := by omega
          have y2 : (k : Int) - 1 < (ks.length : Int) := by omega
          have ew : IntKind.i64.wrap ((k : Int) - 1) = (k : Int) - 1 := IntWalk.i64_in _ (by omega)
          have et : ((k : Int) - 1).toNat = k - 1 := by omega
          have HA := Lib.hid hall
          have HB := Lib.hid hb
          clear cA cB hall hb
          by_cases h0 : pb ≤ pa
          · have HF := Lib.hid (show plnB ks = false by rw [HT.out]; exact plAll_false (k := k - 1) (by omega) (by rw [HST.out]; simp [folB]; omega))
            clear HA HST
            have d0 : decide (pb ≤ pa) = true := decide_eq_true h0
            go_wp2
            refine wp_region_below w1 (by kernel_rfl) (by kernel_rfl) HB.out ?_
            repeat (first
              | go_big_quiet_skip
              | (go_big_quiet_want
                 first
                   | (go_big_quiet_op; go_big_quiet_on)
                   | (refine q_load 3 _ _ _ rfl rfl LA0 ?_; simp only [Act.put, List.setIfInBounds_toArray, List.set_cons_zero, List.set_cons_succ]; go_big_quiet_on)
                   | (refine q_load 3 _ _ _ rfl rfl LA1 ?_; simp only [Act.put, List.setIfInBounds_toArray, List.set_cons_zero, List.set_cons_succ]; go_big_quiet_on)
                   | (refine q_load 3 _ _ _ rfl rfl LB0 ?_; simp only [Act.put, List.setIfInBounds_toArray, List.set_cons_zero, List.set_cons_succ]; go_big_quiet_on)
                   | (refine q_load 3 _ _ _ rfl rfl LB1 ?_; simp only [Act.put, List.setIfInBounds_toArray, List.set_cons_zero, List.set_cons_succ]; go_big_quiet_on)
                   | (go_big_quiet_op; refine ⟨_, fun _ _ => rfl, ?_⟩; go_big_quiet_on)))
            refine wpQuiet_nil ?_
            intro wq hbq
            go_wp2
            go_ret
            exact ⟨by rw [HF.out]; rfl, hbq⟩
          · have d0 : decide (pb ≤ pa) = false := decide_eq_false h0
            by_cases h1 : qb ≤ qa
            · have HF := Lib.hid (show plnB ks = false by rw [HT.out]; exact plAll_false (k := k - 1) (by omega) (by rw [HST.out]; simp [folB]; omega))
              clear HA HST
              have d1 : decide (qb ≤ qa) = true := decide_eq_true h1
              go_wp2
              refine wp_region_below w1 (by kernel_rfl) (by kernel_rfl) HB.out ?_
              repeat (first
                | go_big_quiet_skip
                | (go_big_quiet_want
                   first
                     | (go_big_quiet_op; go_big_quiet_on)
                     | (refine q_load 3 _ _ _ rfl rfl LA0 ?_; simp only [Act.put, List.setIfInBounds_toArray, List.set_cons_zero, List.set_cons_succ]; go_big_quiet_on)
                     | (refine q_load 3 _ _ _ rfl rfl LA1 ?_; simp only [Act.put, List.setIfInBounds_toArray, List.set_cons_zero, List.set_cons_succ]; go_big_quiet_on)
                     | (refine q_load 3 _ _ _ rfl rfl LB0 ?_; simp only [Act.put, List.setIfInBounds_toArray, List.set_cons_zero, List.set_cons_succ]; go_big_quiet_on)
                     | (refine q_load 3 _ _ _ rfl rfl LB1 ?_; simp only [Act.put, List.setIfInBounds_toArray, List.set_cons_zero, List.set_cons_succ]; go_big_quiet_on)
                     | (go_big_quiet_op; refine ⟨_, fun _ _ => rfl, ?_⟩; go_big_quiet_on)))
              refine wpQuiet_nil ?_
              intro wq hbq
              go_wp2
              go_ret
              exact ⟨by rw [HF.out]; rfl, hbq⟩
            · have d1 : decide (qb ≤ qa) = false := decide_eq_false h1
              by_cases h2 : 1000000 < pb
              · have HF := Lib.hid (show plnB ks = false by rw [HT.out]; exact plAll_false (k := k - 1) (by omega) (by rw [HST.out]; simp [folB]; omega))
                clear HA HST
                have d2 : decide (1000000 < pb) = true := decide_eq_true h2
                go_wp2
                refine wp_region_below w1 (by kernel_rfl) (by kernel_rfl) HB.out ?_
                repeat (first
                  | go_big_quiet_skip
                  | (go_big_quiet_want
                     first
                       | (go_big_quiet_op; go_big_quiet_on)
                       | (refine q_load 3 _ _ _ rfl rfl LA0 ?_; simp only [Act.put, List.setIfInBounds_toArray, List.set_cons_zero, List.set_cons_succ]; go_big_quiet_on)
                       | (refine q_load 3 _ _ _ rfl rfl LA1 ?_; simp only [Act.put, List.setIfInBounds_toArray, List.set_cons_zero, List.set_cons_succ]; go_big_quiet_on)
                       | (refine q_load 3 _ _ _ rfl rfl LB0 ?_; simp only [Act.put, List.setIfInBounds_toArray, List.set_cons_zero, List.set_cons_succ]; go_big_quiet_on)
                       | (refine q_load 3 _ _ _ rfl rfl LB1 ?_; simp only [Act.put, List.setIfInBounds_toArray, List.set_cons_zero, List.set_cons_succ]; go_big_quiet_on)
                       | (go_big_quiet_op; refine ⟨_, fun _ _ => rfl, ?_⟩; go_big_quiet_on)))
                refine wpQuiet_nil ?_
                intro wq hbq
                go_wp2
                go_ret
                exact ⟨by rw [HF.out]; rfl, hbq⟩
              · have d2 : decide (1000000 < pb) = false := decide_eq_false h2
                by_cases h3 : 6 < qb
                · have HF := Lib.hid (show plnB ks = false by rw [HT.out]; exact plAll_false (k := k - 1) (by omega) (by rw [HST.out]; simp [folB]; omega))
                  clear HA HST
                  have d3 : decide (6 < qb) = true := decide_eq_true h3
                  go_wp2
                  refine wp_region_below w1 (by kernel_rfl) (by kernel_rfl) HB.out ?_
                  repeat (first
                    | go_big_quiet_skip
                    | (go_big_quiet_want
                       first
                         | (go_big_quiet_op; go_big_quiet_on)
                         | (refine q_load 3 _ _ _ rfl rfl LA0 ?_; simp only [Act.put, List.setIfInBounds_toArray, List.set_cons_zero, List.set_cons_succ]; go_big_quiet_on)
                         | (refine q_load 3 _ _ _ rfl rfl LA1 ?_; simp only [Act.put, List.setIfInBounds_toArray, List.set_cons_zero, List.set_cons_succ]; go_big_quiet_on)
                         | (refine q_load 3 _ _ _ rfl rfl LB0 ?_; simp only [Act.put, List.setIfInBounds_toArray, List.set_cons_zero, List.set_cons_succ]; go_big_quiet_on)
                         | (refine q_load 3 _ _ _ rfl rfl LB1 ?_; simp only [Act.put, List.setIfInBounds_toArray, List.set_cons_zero, List.set_cons_succ]; go_big_quiet_on)
                         | (go_big_quiet_op; refine ⟨_, fun _ _ => rfl, ?_⟩; go_big_quiet_on)))
                  refine wpQuiet_nil ?_
                  intro wq hbq
                  go_wp2
                  go_ret
                  exact ⟨by rw [HF.out]; rfl, hbq⟩
                · have d3 : decide (6 < qb) = false := decide_eq_false h3
                  have HN := Lib.hid (show (List.range (k + 1 - 1)).all (plStep ks) = true by rw [show k + 1 - 1 = k - 1 + 1 by omega, plAll_succ, HA.out, HST.out]; simp [folB]; omega)
                  clear HA HST
                  go_wp2
                  refine wp_region_below w1 (by kernel_rfl) (by kernel_rfl) HB.out ?_
                  repeat (first
                    | go_big_quiet_skip
                    | (go_big_quiet_want
                       first
                         | (go_big_quiet_op; go_big_quiet_on)
                         | (refine q_load 3 _ _ _ rfl rfl LA0 ?_; simp only [Act.put, List.setIfInBounds_toArray, List.set_cons_zero, List.set_cons_succ]; go_big_quiet_on)
                         | (refine q_load 3 _ _ _ rfl rfl LA1 ?_; simp only [Act.put, List.setIfInBounds_toArray, List.set_cons_zero, List.set_cons_succ]; go_big_quiet_on)
                         | (refine q_load 3 _ _ _ rfl rfl LB0 ?_; simp only [Act.put, List.setIfInBounds_toArray, List.set_cons_zero, List.set_cons_succ]; go_big_quiet_on)
                         | (refine q_load 3 _ _ _ rfl rfl LB1 ?_; simp only [Act.put, List.setIfInBounds_toArray, List.set_cons_zero, List.set_cons_succ]; go_big_quiet_on)
                         | (go_big_quiet_op; refine ⟨_, fun _ _ => rfl, ?_⟩; go_big_quiet_on)))
                  refine wpQuiet_nil ?_
                  intro wq hbq
                  go_wp2
                  exact ⟨⟨k + 1, by omega, by omega, by go_num, HN.out, hbq⟩, by simp [intOf]; omega⟩
        · obtain rfl : k = ks.length := by omega
          have HF := Lib.hid (show plnB ks = true by rw [HT.out]; exact hall)
          go_wp2
          go_ret
          exact ⟨by rw [HF.out]; rfl, hb⟩
  · have b1 : (decide ((1 : Int) ≤ (ks.length : Int)) && decide ((ks.length : Int) ≤ 6)) = false := by
      cases h : (decide ((1 : Int) ≤ (ks.length : Int)) && decide ((ks.length : Int) ≤ 6)) with
      | false => rfl
      | true => simp at h; omega
    rw [b1] at HI
    have HF := Lib.hid (show plnB ks = false by
      cases h : plnB ks with
      | false => rfl
      | true => exact absurd (pln_len h) hl)
    clear hcells hl b1
    go_enter Tryd.func11, Tryd.ntmps11
    go_wp2_with fail
    refine (HI.out _).mono ?_
    rintro e w1 ⟨rfl, rfl⟩
    go_wp2
    go_ret
    exact ⟨by rw [HF.out]; rfl, Below.refl _ _⟩
end Go.Proofs.YteijgoadcpphlaaDoor
namespace Go.Proofs.YteijgoadcpphlaaDoor
open Go.ChangeShapes Go.WideShapes Go.ChangeAt Go.RowKit Go.BigFrame
set_option linter.unusedVariables false

set_option maxRecDepth 100000 in
set_option maxHeartbeats 1000000 in
theorem splantext_any (v : Value) (ks : List K2) (w : World) (h : keysAt w v ks) (hs : ks.length ≤ 2000000) (hin : ∀ k ∈ ks, kIn k) :
    Calls Tryd.prog 8 #[v] w fun e w' => e = .returned (.string (tB (ptextL ks))) ∧ Below w.heap.size w w' := by
  have HP := Lib.hid (fun w' hb => splanok_any v ks w' (keysAt_below h hb) hs)
  obtain ⟨a, cap, rfl, hcap, hcells⟩ := h
  cases hp : plnB ks with
  | false =>
    rw [hp] at HP
    have HF := Lib.hid (show tB (ptextL ks) = ByteArray.empty by rw [ptext_no hp]; rfl)
    clear hp
    go_enter Tryd.func8, Tryd.ntmps8
    go_wp2
    go_loopw [3, 4] (fun o i wr => o = .string ByteArray.empty ∧ i = .int .i64 0 ∧ Below w.heap.size w wr) (fun _ _ _ => 0)
    case atStart => exact ⟨rfl, rfl, Below.refl _ _⟩
    case round =>
      obtain ⟨rfl, rfl, hb⟩ := hrel
      by_cases hlt : 0 < ks.length
      · have z1 : (0 : Int) < (ks.length : Int) := by omega
        have HC := Lib.hid (HP.out _ hb)
        have HB := Lib.hid hb
        clear hb
        go_wp2_with fail
        refine HC.out.mono ?_
        rintro e w2 ⟨rfl, hb2⟩
        have hbq := HB.out.trans (hb2.mono HB.out.size)
        clear hb2
        go_wp2
        go_ret
        exact ⟨by rw [HF.out]; rfl, hbq⟩
      · have z1 : ¬ (0 : Int) < (ks.length : Int) := by omega
        go_wp2
        go_ret
        exact ⟨by rw [HF.out]; rfl, hb⟩
  | true =>
  rw [hp] at HP
  have HF := Lib.hid (show tB (ptextL ks) = tB (plTextL ks) by rw [ptext_ok hp])
  have hl6 := (pln_len hp).2
  clear hp
  go_enter Tryd.func8, Tryd.ntmps8
  go_wp2
  go_loopw [3, 4] (fun o i wr => ∃ k : Nat, k ≤ ks.length ∧ o = .string (tB (plTextL (ks.take k))) ∧ i = .int .i64 k ∧ Below w.heap.size w wr) (fun _ i _ => ks.length - (intOf i).toNat)
  case atStart => exact ⟨0, Nat.zero_le _, rfl, rfl, Below.refl _ _⟩
  case round =>
    obtain ⟨k, hk, rfl, rfl, hb⟩ := hrel
    have hlen := plText_len _ (ks.take k) rfl (fun x hx => hin x (List.mem_of_mem_take hx))
    rw [List.length_take] at hlen
    by_cases hlt : k < ks.length
    · obtain ⟨g, off, rfl, hg, hcs⟩ := hcells.resolve_left (by omega)
      have z0 : (0 : Int) ≤ (k : Int) := by omega
      have z1 : (k : Int) < (ks.length : Int) := by omega
      have c1 := hcs k hlt
      have hts := plText_snoc (ks.take k) (ks.getD k (0, 0))
      rw [← take_snoc_key ks k hlt] at hts
      have hki : kIn (ks.getD k (0, 0)) := hin _ (by simp [List.getD, hlt])
      clear hcells hcs
      generalize ks.getD k (0, 0) = kx at *
      obtain ⟨p, q⟩ := kx
      have HC := Lib.hid (HP.out _ hb)
      have HBR := Lib.hid hb
      clear hb
      have L1 : ∀ w', Below w.heap.size w w' → (loadVar 3 ⟨g, off + k * 2, none⟩).run Tryd.prog w' = .ok (.int .i64 p) w' := fun w' hb' => int_load ((hb'.cell (p := ⟨g, off + k * 2, none⟩) hg).trans c1.1)
      have L2 : ∀ w', Below w.heap.size w w' → (loadVar 3 ⟨g, off + k * 2 + 1, none⟩).run Tryd.prog w' = .ok (.int .i64 q) w' := fun w' hb' => int_load ((hb'.cell (p := ⟨g, off + k * 2 + 1, none⟩) hg).trans c1.2)
      have D1 := Lib.hid (fun w => sdec_any p w hki.1.1 hki.1.2)
      have D2 := Lib.hid (fun w => sdec_any q w hki.2.1 hki.2.2)
      have b1 := decB_size hki.1
      have b2 := decB_size hki.2
      have hA := tB_size (plTextL (ks.take k))
      have hne : (ks.take k = []) ↔ k = 0 := by
        rw [List.take_eq_nil_iff]
        constructor
        · rintro (h | h)
          · exact h
          · rw [h] at hlt; simp at hlt
        · exact Or.inl
      have hkt : ptL (p, q) = Lib.itoa p ++ [58] ++ Lib.itoa q := rfl
      have hz : ∀ X : ByteArray, X.size ≤ 200000000 → tB (plTextL (ks.take (k + 1))) = (if k = 0 then ByteArray.empty else tB (plTextL (ks.take k)) ++ ⟨#[32]⟩) ++ decB p ++ ⟨#[58]⟩ ++ decB q := by
        intro X _
        rw [hts]
        by_cases h0 : k = 0
        · rw [if_pos (hne.2 h0), if_pos h0, hkt]
          simp only [decB, ← tB_append]
          rw [show tB [58] = ⟨#[58]⟩ from rfl]
          simp
        · rw [if_neg (fun h => h0 (hne.1 h)), if_neg h0, hkt]
          simp only [decB, ← tB_append]
          rw [show tB [58] = ⟨#[58]⟩ from rfl, show tB [32] = ⟨#[32]⟩ from rfl]
          simp only [ByteArray.append_assoc]
      have HZ := Lib.hid (hz ByteArray.empty (by simp)); clear hz hts hkt hne
      change Hid (∀ w, Calls _ _ _ w fun e w' => e = .returned (.string (decB p)) ∧ w' = w) at D1
      change Hid (∀ w, Calls _ _ _ w fun e w' => e = .returned (.string (decB q)) ∧ w' = w) at D2
      rw [← hA] at hlen
      clear hA
      by_cases h0 : k = 0
      · rw [if_pos h0] at HZ
        subst h0
        generalize decB p = dp at *
        generalize decB q = dq at *
        clear hlen
        rw [show tB (plTextL (List.take 0 ks)) = ByteArray.empty from rfl]
        have y0 : ¬ (0 : Int) < ((0 : Nat) : Int) := by omega
        simp only [Nat.zero_mul, Nat.add_zero] at L1 L2
        have u1 : ¬ 9223372036854775807 < dp.size := by omega
        have u2 : ¬ 9223372036854775807 < dp.size + 1 := by omega
        have u3 : ¬ 9223372036854775807 < dp.size + 1 + dq.size := by omega
        go_wp2_with fail
        refine HC.out.mono ?_
        rintro e wc ⟨rfl, hbc⟩
        have hb := HBR.out.trans (hbc.mono HBR.out.size)
        clear hbc
        go_wp2
        refine wp_region_below w (by kernel_rfl) (by kernel_rfl) hb ?_
        repeat (first
          | go_big_quiet_skip
          | (go_big_quiet_want
             first
               | (go_big_quiet_op; go_big_quiet_on)
               | (refine q_load 3 _ _ _ rfl rfl L1 ?_; simp only [Act.put, List.setIfInBounds_toArray, List.set_cons_zero, List.set_cons_succ]; go_big_quiet_on)
               | (refine q_load 3 _ _ _ rfl rfl L2 ?_; simp only [Act.put, List.setIfInBounds_toArray, List.set_cons_zero, List.set_cons_succ]; go_big_quiet_on)
               | (go_big_quiet_op; refine ⟨_, fun _ _ => rfl, ?_⟩; go_big_quiet_on)
               | (go_big_quiet_op; apply Exists.intro; refine ⟨fun w' hw' => ?_, ?_⟩
                  · first
                    | (with_reducible refine (D1.out w').mono ?_
                       rintro e w2 ⟨rfl, rfl⟩
                       exact ⟨rfl, hw'⟩)
                    | (with_reducible refine (D2.out w').mono ?_
                       rintro e w2 ⟨rfl, rfl⟩
                       exact ⟨rfl, hw'⟩)
                  go_big_quiet_on)))
        refine wpQuiet_nil ?_
        intro w2 hb2
        clear L1 L2 D1 D2
        go_wp2
        exact ⟨⟨1, by omega, by rw [HZ.out]; simp, by go_num, hb2⟩, by simp [intOf]; omega⟩
      · rw [if_neg h0] at HZ
        generalize tB (plTextL (ks.take k)) = A at *
        generalize decB p = dp at *
        generalize decB q = dq at *
        have y0 : (0 : Int) < (k : Int) := by omega
        have u0 : ¬ 9223372036854775807 < A.size + 1 := by omega
        have u1 : ¬ 9223372036854775807 < A.size + 1 + dp.size := by omega
        have u2 : ¬ 9223372036854775807 < A.size + 1 + dp.size + 1 := by omega
        have u3 : ¬ 9223372036854775807 < A.size + 1 + dp.size + 1 + dq.size := by omega
        go_wp2_with fail
        refine HC.out.mono ?_
        rintro e wc ⟨rfl, hbc⟩
        have hb := HBR.out.trans (hbc.mono HBR.out.size)
        clear hbc
        go_wp2
        refine wp_region_below w (by kernel_rfl) (by kernel_rfl) hb ?_
        repeat (first
          | go_big_quiet_skip
          | (go_big_quiet_want
             first
               | (go_big_quiet_op; go_big_quiet_on)
               | (refine q_load 3 _ _ _ rfl rfl L1 ?_; simp only [Act.put, List.setIfInBounds_toArray, List.set_cons_zero, List.set_cons_succ]; go_big_quiet_on)
               | (refine q_load 3 _ _ _ rfl rfl L2 ?_; simp only [Act.put, List.setIfInBounds_toArray, List.set_cons_zero, List.set_cons_succ]; go_big_quiet_on)
               | (go_big_quiet_op; refine ⟨_, fun _ _ => rfl, ?_⟩; go_big_quiet_on)
               | (go_big_quiet_op; apply Exists.intro; refine ⟨fun w' hw' => ?_, ?_⟩
                  · first
                    | (with_reducible refine (D1.out w').mono ?_
                       rintro e w2 ⟨rfl, rfl⟩
                       exact ⟨rfl, hw'⟩)
                    | (with_reducible refine (D2.out w').mono ?_
                       rintro e w2 ⟨rfl, rfl⟩
                       exact ⟨rfl, hw'⟩)
                  go_big_quiet_on)))
        refine wpQuiet_nil ?_
        intro w2 hb2
        clear L1 L2 D1 D2
        go_wp2
        exact ⟨⟨k + 1, by omega, by rw [HZ.out], by go_num, hb2⟩, by simp [intOf]; omega⟩
    · obtain rfl : k = ks.length := by omega
      rw [List.take_length]
      clear hlen
      go_wp2
      go_ret
      exact ⟨by rw [HF.out]; rfl, hb⟩
end Go.Proofs.YteijgoadcpphlaaDoor
namespace Go.Proofs.YteijgoadcpphlaaDoor
open Go.ChangeShapes Go.WideShapes Go.ChangeAt Go.RowKit Go.BigFrame
set_option linter.unusedVariables false

set_option maxRecDepth 100000 in
set_option maxHeartbeats 1000000 in
theorem exactplantext_walk (va : Value) (A : List K2) (w : World) (ha : keysAt w va A) (hA63 : A.length ≤ maxLen) (hin : ∀ k ∈ A, kIn k) (hT : Lib.TabIs Tryd.prog w "internal/strconv.uint64pow10" IntKind.u64 Lib.pow10Tab) :
    Calls Tryd.prog 4 #[va] w fun e w' => e = .returned (.bool true) ∧ Below w.heap.size w w' := by
  have hsA : ∃ a cap, va = .slice a A.length cap := by obtain ⟨a, cap, h, _⟩ := ha; exact ⟨a, cap, h⟩
  unfold maxLen at hA63
  have S1 := Lib.hid (fun w => szsteps_any va A 1048576 w hsA (by omega) (by omega))
  by_cases hlA : A.length ≤ 1048576
  · rw [if_neg (by omega)] at S1
    have n1 : ¬ 1048576 - (A.length : Int) < 0 := by omega
    have KA := Lib.hid (fun w' (h : Below w.heap.size w w') => tosteps_any va A w' (keysAt_below ha h) (by omega))
    have HI := Lib.hid (fun v w' (hb : Below w.heap.size w w') h => iplantext_any v A w' h (by omega) hin (tab_below hT hb))
    have HS := Lib.hid (fun v w' h => splantext_any v A w' h (by omega) hin)
    have HB0 := Below.refl w.heap.size w
    clear hsA ha hT
    generalize tB (ptextL A) = X at *
    go_enter Tryd.func4, Tryd.ntmps4
    go_wp2_with fail
    refine (S1.out _).mono ?_
    rintro e w1 ⟨rfl, rfl⟩
    clear S1
    go_wp2_with fail
    refine (KA.out _ HB0).mono ?_
    rintro e w2 ⟨g1, rfl, hg1, ho1, hb2⟩
    have HB2 := HB0.trans (hb2.mono HB0.size)
    go_wp2_with fail
    refine (HS.out _ _ (stepsAt_own ho1)).mono ?_
    rintro e w3 ⟨rfl, hb3⟩
    have HB3 := HB2.trans (hb3.mono HB2.size)
    clear hb2 hb3 HB2 ho1
    go_wp2_with fail
    refine (KA.out _ HB3).mono ?_
    rintro e w4 ⟨g2, rfl, hg2, ho2, hb4⟩
    have HB4 := HB3.trans (hb4.mono HB3.size)
    clear hb4 HB3
    go_wp2_with fail
    refine (HI.out _ _ HB4 (stepsAt_own ho2)).mono ?_
    rintro e w5 ⟨rfl, hb5⟩
    have HB5 := HB4.trans (hb5.mono HB4.size)
    have ho5 := own_below ho2 hb5
    clear hb5 HB4 ho2
    go_wp2_with fail
    refine (KA.out _ HB5).mono ?_
    rintro e w9 ⟨g9, rfl, hg9, ho9, hb9⟩
    have hc9 := HB5.trans (hb9.mono HB5.size)
    have ho10 := own_below ho5 hb9
    go_wp2_with fail
    refine (eqsteps_any _ _ A A _ (stepsAt_own ho10) (stepsAt_own ho9) (by omega) (by omega)).mono ?_
    rintro e w10 ⟨rfl, hb10⟩
    have HF := Lib.hid (hc9.trans (hb10.mono hc9.size))
    rw [show decide (A = A) = true by simp]
    clear hb9 hb10 hc9 ho10 ho9
    go_wp2
    go_ret
    exact ⟨rfl, HF.out⟩
  · rw [if_pos (by omega)] at S1
    clear hsA ha
    go_enter Tryd.func4, Tryd.ntmps4
    go_wp2_with fail
    refine (S1.out _).mono ?_
    rintro e w1 ⟨rfl, rfl⟩
    go_wp2
    go_ret
    exact ⟨rfl, Below.refl _ _⟩
end Go.Proofs.YteijgoadcpphlaaDoor
namespace Go.Proofs.YteijgoadcpphlaaDoor

def isGap (c : UInt8) : Bool := c == 32 || c == 9
/-- how many bytes stand ahead of the first blank or byte 9 -/
def wsize (l : List UInt8) : Nat := (l.takeWhile fun c => !isGap c).length
def wordsF : Nat → List UInt8 → List (List UInt8)
  | 0, _ => []
  | _ + 1, [] => []
  | n + 1, c :: r => if isGap c then wordsF n r else (c :: r.takeWhile fun c => !isGap c) :: wordsF n (r.dropWhile fun c => !isGap c)
def wordsL (l : List UInt8) : List (List UInt8) := wordsF l.length l
def toB (l : List UInt8) : ByteArray := ⟨l.toArray⟩

theorem dropWhile_le (p : UInt8 → Bool) (l : List UInt8) : (l.dropWhile p).length ≤ l.length := (List.dropWhile_suffix p).length_le
theorem wordsF_enough : ∀ (n m : Nat) (l : List UInt8), l.length ≤ n → l.length ≤ m → wordsF n l = wordsF m l
  | 0, 0, _, _, _ => rfl
  | 0, m + 1, [], _, _ => rfl
  | 0, _ + 1, _ :: _, h, _ => by simp at h
  | n + 1, 0, [], _, _ => rfl
  | _ + 1, 0, _ :: _, _, h => by simp at h
  | n + 1, m + 1, [], _, _ => rfl
  | n + 1, m + 1, c :: r, h1, h2 => by
    have hd := dropWhile_le (fun c => !isGap c) r
    simp only [List.length_cons] at h1 h2
    unfold wordsF
    rw [wordsF_enough n m r (by omega) (by omega), wordsF_enough n m _ (by omega) (by omega)]
theorem wordsL_nil : wordsL [] = [] := rfl
theorem wordsL_gap (c : UInt8) (r : List UInt8) (h : isGap c = true) : wordsL (c :: r) = wordsL r := by
  unfold wordsL; simp [wordsF, h]
theorem takeWhile_take (p : UInt8 → Bool) : ∀ l : List UInt8, l.takeWhile p = l.take (l.takeWhile p).length
  | [] => rfl
  | c :: r => by by_cases h : p c = true <;> simp [List.takeWhile_cons, h]; exact takeWhile_take p r
theorem dropWhile_drop (p : UInt8 → Bool) : ∀ l : List UInt8, l.dropWhile p = l.drop (l.takeWhile p).length
  | [] => rfl
  | c :: r => by by_cases h : p c = true <;> simp [List.takeWhile_cons, List.dropWhile_cons, h]; exact dropWhile_drop p r
theorem wordsL_word (l : List UInt8) (h : wsize l ≠ 0) : wordsL l = l.take (wsize l) :: wordsL (l.drop (wsize l)) := by
  cases l with
  | nil => simp [wsize] at h
  | cons c r =>
    have hc : isGap c = false := by
      cases hg : isGap c with
      | false => rfl
      | true => simp [wsize, List.takeWhile_cons, hg] at h
    have h1 : (c :: r).take (wsize (c :: r)) = c :: r.takeWhile fun c => !isGap c := by
      unfold wsize; rw [← takeWhile_take]; simp [List.takeWhile_cons, hc]
    have h2 : (c :: r).drop (wsize (c :: r)) = r.dropWhile fun c => !isGap c := by
      unfold wsize; rw [← dropWhile_drop]; simp [List.dropWhile_cons, hc]
    rw [h1, h2]
    have hd := dropWhile_le (fun c => !isGap c) r
    unfold wordsL
    simp only [List.length_cons, wordsF, hc]
    rw [wordsF_enough r.length (r.dropWhile fun c => !isGap c).length _ (by omega) (Nat.le_refl _)]
    simp
theorem wsize_zero (c : UInt8) (r : List UInt8) (h : wsize (c :: r) = 0) : isGap c = true := by
  cases hg : isGap c with
  | true => rfl
  | false => simp [wsize, List.takeWhile_cons, hg] at h
/-- the first gap stands at place k -/
theorem wsize_at (l : List UInt8) (k : Nat) (hk : k ≤ l.length) (h1 : ∀ j, (h : j < k) → isGap (l[j]'(by omega)) = false) (h2 : (h : k < l.length) → isGap l[k] = true) : wsize l = k := by
  induction l generalizing k with
  | nil => simp at hk; subst hk; rfl
  | cons c r ih =>
    cases k with
    | zero =>
      have := h2 (by simp)
      simp only [List.getElem_cons_zero] at this
      simp [wsize, List.takeWhile_cons, this]
    | succ k =>
      have hc : isGap c = false := by simpa using h1 0 (by omega)
      have := ih k (by simpa using hk) (fun j hj => by simpa using h1 (j + 1) (by omega)) (fun hj => by have h3 := h2 (by simpa using hj); simp only [List.getElem_cons_succ] at h3; exact h3)
      simp [wsize, List.takeWhile_cons, hc] at this ⊢
      exact this

def WordsInv (s : ByteArray) (pre : List ByteArray) (j : Nat) : Prop := (wordsL s.data.toList).map toB = pre ++ (wordsL (s.data.toList.drop j)).map toB
theorem WordsInv.zero (s : ByteArray) : WordsInv s [] 0 := by simp [WordsInv]
theorem WordsInv.stop {s : ByteArray} {pre : List ByteArray} {j : Nat} (h : WordsInv s pre j) (hj : s.size ≤ j) : (wordsL s.data.toList).map toB = pre := by
  rw [h, List.drop_of_length_le (by simpa using hj), wordsL_nil]; simp
theorem drop_one (s : ByteArray) (j : Nat) (h : j < s.size) : s.data.toList.drop j = s[j] :: s.data.toList.drop (j + 1) := by
  rw [List.drop_eq_getElem_cons (by simpa using h)]; rfl
theorem WordsInv.gap {s : ByteArray} {pre : List ByteArray} {j : Nat} (h : WordsInv s pre j) (hj : j < s.size) (hg : isGap s[j] = true) : WordsInv s pre (j + 1) := by
  rw [WordsInv, h, drop_one s j hj, wordsL_gap _ _ hg]
theorem extract_eq (s : ByteArray) (a b : Nat) : s.extract a b = toB ((s.data.toList.drop a).take (b - a)) := by
  apply ByteArray.ext
  simp only [toB, ByteArray.data_extract]
  apply Array.ext'
  simp [List.extract_eq_take_drop]
theorem WordsInv.word {s : ByteArray} {pre : List ByteArray} {j : Nat} (h : WordsInv s pre j) (hg : wsize (s.data.toList.drop j) ≠ 0) :
    WordsInv s (pre ++ [s.extract j (j + wsize (s.data.toList.drop j))]) (j + wsize (s.data.toList.drop j)) := by
  rw [WordsInv, h, wordsL_word _ hg, List.drop_drop, extract_eq]; simp
theorem WordsInv.lt {s : ByteArray} {pre : List ByteArray} {j : Nat} (h : WordsInv s pre j) (hg : wsize (s.data.toList.drop j) ≠ 0) : pre.length < ((wordsL s.data.toList).map toB).length := by
  rw [h, wordsL_word _ hg]; simp
theorem WordsInv.pre {s : ByteArray} {pre : List ByteArray} {j : Nat} (h : WordsInv s pre j) : pre <+: (wordsL s.data.toList).map toB := ⟨_, h.symm⟩
theorem wordsF_count : ∀ (n : Nat) (l : List UInt8), (wordsF n l).length ≤ l.length
  | 0, _ => by simp [wordsF]
  | n + 1, [] => by simp [wordsF]
  | n + 1, c :: r => by
    unfold wordsF
    split
    · have := wordsF_count n r; simp; omega
    · have := wordsF_count n (r.dropWhile fun c => !isGap c)
      have := dropWhile_le (fun c => !isGap c) r
      simp; omega
theorem wordsL_count (l : List UInt8) : (wordsL l).length ≤ l.length := wordsF_count _ l
end Go.Proofs.YteijgoadcpphlaaDoor
namespace Go.Proofs.YteijgoadcpphlaaDoor

theorem itoa_word (n : Int) : (∀ c ∈ Lib.itoa n, isGap c = false) ∧ Lib.itoa n ≠ [] := by
  unfold Lib.itoa
  have hd : ∀ u : Nat, (∀ c ∈ Lib.decDigits u, isGap c = false) ∧ Lib.decDigits u ≠ [] := fun u => by
    refine ⟨fun c hc => ?_, decDigits_ne u⟩
    have := decDigits_all u c hc
    cases hg : isGap c with
    | false => rfl
    | true =>
      simp only [isGap, Bool.or_eq_true, beq_iff_eq] at hg
      rcases hg with rfl | rfl <;> cases this
  split
  · refine ⟨fun c hc => ?_, by simp⟩
    simp only [List.mem_cons, List.cons_append, List.nil_append] at hc
    rcases hc with rfl | h
    · rfl
    · exact (hd _).1 c h
  · simpa using hd _
theorem ptL_word (k : K2) : ptL k ≠ [] ∧ ∀ c ∈ ptL k, isGap c = false := by
  obtain ⟨h1, h2⟩ := itoa_word k.1
  obtain ⟨h3, h4⟩ := itoa_word k.2
  refine ⟨by simp [ptL], fun c hc => ?_⟩
  unfold ptL at hc
  simp only [List.mem_append, List.mem_singleton] at hc
  rcases hc with (h | rfl) | h
  · exact h1 c h
  · rfl
  · exact h3 c h
theorem wordsL_alone (x : List UInt8) (h1 : x ≠ []) (h2 : ∀ c ∈ x, isGap c = false) : wordsL x = [x] := by
  have hw : wsize x = x.length := wsize_at _ _ (Nat.le_refl _) (fun j hj => h2 _ (List.getElem_mem hj)) (fun hj => absurd hj (Nat.lt_irrefl _))
  have hne : x.length ≠ 0 := fun e => h1 (List.length_eq_zero_iff.1 e)
  rw [wordsL_word _ (by rw [hw]; exact hne), hw, List.take_length, List.drop_length, wordsL_nil]
theorem wordsL_ahead (x r : List UInt8) (h1 : x ≠ []) (h2 : ∀ c ∈ x, isGap c = false) : wordsL (x ++ 32 :: r) = x :: wordsL r := by
  have hw : wsize (x ++ 32 :: r) = x.length := by
    refine wsize_at _ _ (by simp) (fun j hj => ?_) (fun hj => ?_)
    · rw [List.getElem_append_left hj]; exact h2 _ (List.getElem_mem hj)
    · rw [List.getElem_append_right (by omega)]; simp [isGap]
  have hne : x.length ≠ 0 := fun e => h1 (List.length_eq_zero_iff.1 e)
  rw [wordsL_word _ (by rw [hw]; exact hne), hw]
  simp only [List.take_left', List.drop_left']
  rw [wordsL_gap _ _ (by rfl)]
theorem wordsL_join : ∀ (L : List (List UInt8)), (∀ x ∈ L, x ≠ [] ∧ ∀ c ∈ x, isGap c = false) → wordsL (Lib.join L [32]) = L
  | [], _ => by rw [Lib.join_nil]; rfl
  | [x], h => by rw [Lib.join_one]; exact wordsL_alone x (h x (by simp)).1 (h x (by simp)).2
  | x :: y :: r, h => by
    have e : Lib.join (x :: y :: r) [32] = x ++ 32 :: Lib.join (y :: r) [32] := by
      rw [Lib.join_cons, Lib.join_cons]
      simp [Lib.joinTail]
    rw [e, wordsL_ahead x _ (h x (by simp)).1 (h x (by simp)).2, wordsL_join (y :: r) (fun z hz => h z (by simp [hz]))]
theorem words_plan (ks : List K2) : (wordsL (plTextL ks)) = ks.map ptL := by
  unfold plTextL
  refine wordsL_join _ (fun x hx => ?_)
  obtain ⟨k, _, rfl⟩ := List.mem_map.1 hx
  exact ptL_word k
end Go.Proofs.YteijgoadcpphlaaDoor
namespace Go.Proofs.YteijgoadcpphlaaDoor
open Go.ChangeShapes Go.WideShapes Go.ChangeAt Go.RowKit
set_option linter.unusedVariables false

/-- The code's bytes, in old memory. -/
def CodeAt (n₀ : Nat) (w : World) (a : Option Addr) (len : Nat) (zs : List Int) : Prop :=
  len ≤ 1048576 ∧ (∀ k : Nat, 0 ≤ zs[k]?.getD 0 ∧ zs[k]?.getD 0 ≤ 255) ∧ (len = 0 ∨ ∃ b off, a = some ⟨b, off, none⟩ ∧ b < n₀ ∧ ∀ k, k < len → w.cell? ⟨b, off + k, none⟩ = some (.int .u8 (zs[k]?.getD 0)))
theorem CodeAt.below {n₀ : Nat} {w w' : World} {a : Option Addr} {len : Nat} {zs : List Int} (h : CodeAt n₀ w a len zs) (hb : Below n₀ w w') : CodeAt n₀ w' a len zs := by
  obtain ⟨h1, h2, h3⟩ := h
  refine ⟨h1, h2, ?_⟩
  rcases h3 with h3 | ⟨b, off, h4, h5, h6⟩
  · exact .inl h3
  · exact .inr ⟨b, off, h4, h5, fun k hk => (hb.cell (p := ⟨b, off + k, none⟩) h5).trans (h6 k hk)⟩

structure DrawSt (n₀ : Nat) (w : World) (g : Nat) (a : Option Addr) (len cap : Nat) (zs : List Int) (i : Nat) (h : Int) : Prop where
  code : CodeAt n₀ w a len zs
  cur : w.heap[g]? = some (.cells #[.slice a len cap, .int .i64 i, .int .i64 h] 51 (0, 0))
  hg : n₀ ≤ g
  hi : i ≤ len

def lcg (h : Int) : Int := wrap64 (wrap64 (h * 6364136223846793005) + 1442695040888963407)

theorem i64_and255 (n : Int) : bits .and .i64 n 255 = n % 256 := by
  have h255 : (BitVec.ofInt 64 255).toNat = 2 ^ 8 - 1 := by decide
  have key : (BitVec.ofInt 64 n &&& BitVec.ofInt 64 255).toNat = (n % ((2 ^ 64 : Nat) : Int)).toNat % 2 ^ 8 := by
    rw [BitVec.toNat_and, BitVec.toNat_ofInt, h255, Nat.and_two_pow_sub_one_eq_mod]
  show IntKind.i64.wrap ((BitVec.ofInt 64 n &&& BitVec.ofInt 64 255).toNat : Nat) = n % 256
  rw [key, IntKind.wrap_i64]
  omega
theorem i64_and30 (n : Int) : bits .and .i64 n 1073741823 = n % 1073741824 := by
  have h255 : (BitVec.ofInt 64 1073741823).toNat = 2 ^ 30 - 1 := by decide
  have key : (BitVec.ofInt 64 n &&& BitVec.ofInt 64 1073741823).toNat = (n % ((2 ^ 64 : Nat) : Int)).toNat % 2 ^ 30 := by
    rw [BitVec.toNat_and, BitVec.toNat_ofInt, h255, Nat.and_two_pow_sub_one_eq_mod]
  show IntKind.i64.wrap ((BitVec.ofInt 64 n &&& BitVec.ofInt 64 1073741823).toNat : Nat) = n % 1073741824
  rw [key, IntKind.wrap_i64]
  omega

/-- what a state gives -/
def outb (H : Int) : Int := bits BinOp.xor IntKind.i64 (H / 8589934592) (H / 35184372088832) % 256
theorem outb_bd (H : Int) : 0 ≤ outb H ∧ outb H ≤ 255 := by unfold outb; omega
structure Cu where
  i : Nat
  h : Int
/-- a byte, and the state behind -/
def byteF (zs : List Int) (len : Nat) (c : Cu) : Int × Cu :=
  if c.i < len then ((outb (lcg c.h) + zs[c.i]?.getD 0) % 256, ⟨c.i + 1, lcg c.h⟩) else (outb (lcg c.h), ⟨c.i, lcg c.h⟩)
theorem byteF_bd (zs : List Int) (len : Nat) (c : Cu) : 0 ≤ (byteF zs len c).1 ∧ (byteF zs len c).1 ≤ 255 := by
  have := outb_bd (lcg c.h)
  unfold byteF; split <;> simp <;> omega
/-- what a draw leaves: the cursor's block alone has turned -/
structure Drew (n₀ g : Nat) (a : Option Addr) (len cap : Nat) (zs : List Int) (c' : Cu) (w w' : World) : Prop where
  st : DrawSt n₀ w' g a len cap zs c'.i c'.h
  below : Below n₀ w w'
  grown : w.grownBy w' (some g)
theorem grownT {A B C : World} {row : Option Nat} (h : A.grownBy B row) (k : B.grownBy C row) : A.grownBy C row :=
  ⟨k.os.trans h.os, k.tape.trans h.tape, k.output.trans h.output, Nat.le_trans h.size k.size, fun j hj hr => (k.block j (Nat.lt_of_lt_of_le hj h.size) hr).trans (h.block j hj hr)⟩
theorem Drew.trans {n₀ g : Nat} {a : Option Addr} {len cap : Nat} {zs : List Int} {c c' : Cu} {w w1 w2 : World} (h : Drew n₀ g a len cap zs c w w1) (k : Drew n₀ g a len cap zs c' w1 w2) : Drew n₀ g a len cap zs c' w w2 :=
  ⟨k.st, h.below.trans k.below, grownT h.grown k.grown⟩

theorem drew_of {n₀ g len cap i' : Nat} {a : Option Addr} {zs : List Int} {h' : Int} {w w' : World} (hcode : CodeAt n₀ w a len zs) (hg0 : n₀ ≤ g) (hgl : g < w.heap.size) (hi : i' ≤ len)
    (hcur : w'.heap[g]? = some (.cells #[.slice a len cap, .int .i64 i', .int .i64 h'] 51 (0, 0))) (hgr : w.grownBy w' (some g)) : Drew n₀ g a len cap zs ⟨i', h'⟩ w w' := by
  have hb : Below n₀ w w' := (Below.refl n₀ w).grown hgr (by omega) (fun k e => by cases e; exact hg0)
  exact ⟨⟨hcode.below hb, hcur, hg0, hi⟩, hb, hgr⟩

set_option maxHeartbeats 800000 in
theorem byte_any (n₀ g len cap : Nat) (a : Option Addr) (zs : List Int) (c : Cu) (w : World) (hs : DrawSt n₀ w g a len cap zs c.i c.h) :
    Calls Tryd.prog 36 #[.pointer (some ⟨g, 0, none⟩)] w fun e w' => e = .returned (.int .i64 (byteF zs len c).1) ∧ Drew n₀ g a len cap zs (byteF zs len c).2 w w' := by
  obtain ⟨i, h⟩ := c
  dsimp only at hs
  have hc := hs.cur
  have c0 : w.cell? ⟨g, 0, none⟩ = some (.slice a len cap) := by simp [World.cell?, hc]
  have c1 : w.cell? ⟨g, 1, none⟩ = some (.int .i64 i) := by simp [World.cell?, hc]
  have c2 : w.cell? ⟨g, 2, none⟩ = some (.int .i64 h) := by simp [World.cell?, hc]
  have f1 : w.frozen? ⟨g, 1, none⟩ = false := by simp [World.frozen?, hc]
  have f2 : w.frozen? ⟨g, 2, none⟩ = false := by simp [World.frozen?, hc]
  have hlen := hs.code.1
  have hil := hs.hi
  have hcode := Lib.hid hs.code
  have hg0 := hs.hg
  clear hs
  go_enter Tryd.func36, Tryd.ntmps36
  go_wp2
  have hc1 := Joins.block_setCell (i := 2) hc (.int .i64 (lcg h))
  have hg1 : w.grownBy (w.setCell ⟨g, 2, none⟩ (.int .i64 (lcg h))) (some g) := ⟨rfl, rfl, rfl, by simp, fun k _ hk => Below.heap_setCell _ _ _ k (fun e => hk (by rw [e]))⟩
  have hH : lcg h = wrap64 (wrap64 (h * 6364136223846793005) + 1442695040888963407) := rfl
  rw [← hH]
  have HC := Lib.hid hc; clear hc hH c0 c1 c2 f1 f2
  generalize hw1 : w.setCell ⟨g, 2, none⟩ (.int .i64 (lcg h)) = w1 at *
  clear hw1
  generalize hl : lcg h = H at *
  have HL := Lib.hid hl; clear hl
  have c0 : w1.cell? ⟨g, 0, none⟩ = some (.slice a len cap) := by simp [World.cell?, hc1]
  have c1 : w1.cell? ⟨g, 1, none⟩ = some (.int .i64 i) := by simp [World.cell?, hc1]
  have c2 : w1.cell? ⟨g, 2, none⟩ = some (.int .i64 H) := by simp [World.cell?, hc1]
  have f1 : w1.frozen? ⟨g, 1, none⟩ = false := by simp [World.frozen?, hc1]
  have hob : bits BinOp.and IntKind.i64 (bits BinOp.xor IntKind.i64 (H / 8589934592) (H / 35184372088832)) 255 = outb H := i64_and255 _
  have hbd := outb_bd H
  go_quiet (fail)
  go_wp2
  generalize hx : outb H = x at *
  have HX := Lib.hid hx; clear hx hob
  by_cases hlt : i < len
  · have z1 : (i : Int) < (len : Int) := by omega
    have z0 : (0 : Int) ≤ (i : Int) := by omega
    obtain ⟨b, off, rfl, hb0, hcells⟩ : ∃ b off, a = some ⟨b, off, none⟩ ∧ b < n₀ ∧ ∀ k, k < len → w.cell? ⟨b, off + k, none⟩ = some (.int .u8 (zs[k]?.getD 0)) := by
      rcases hcode.out.2.2 with h | h
      · omega
      · exact h
    have hz := hcode.out.2.1 i
    have cz : w1.cell? ⟨b, off + i, none⟩ = some (.int .u8 (zs[i]?.getD 0)) := (World.cell?_of_block (a := ⟨b, off + i, none⟩) (hg1.block b (World.block_lt_of_cell? w _ (hcells i hlt)) (by simp; omega))).trans (hcells i hlt)
    have HCELLS := Lib.hid hcells; clear hcells
    generalize hy : zs[i]?.getD 0 = y at *
    have HY := Lib.hid hy; clear hy
    have ew : wrap64 (x + y) = x + y := IntWalk.wrap64_in _ (by omega)
    have eb : bits BinOp.and IntKind.i64 (x + y) 255 = (x + y) % 256 := i64_and255 _
    go_quiet (fail)
    go_wp2
    go_quiet (fail)
    go_wp2
    go_ret
    have hbf : byteF zs len ⟨i, h⟩ = ((x + y) % 256, ⟨i + 1, H⟩) := by unfold byteF; rw [if_pos hlt, HL.out, HX.out, HY.out]
    rw [hbf]
    have hgl := (Array.getElem?_eq_some_iff.1 HC.out).1
    have hfin := Joins.block_setCell (i := 1) hc1 (.int .i64 ((i : Int) + 1))
    exact ⟨rfl, drew_of hcode.out hg0 hgl (by show i + 1 ≤ len; omega) hfin (grownT hg1 ⟨rfl, rfl, rfl, by simp, fun k _ hk => Below.heap_setCell _ _ _ k (fun e => hk (by rw [e]))⟩)⟩
  · go_quiet (fail)
    go_wp2
    go_ret
    have hbf : byteF zs len ⟨i, h⟩ = (x, ⟨i, H⟩) := by unfold byteF; rw [if_neg hlt, HL.out, HX.out]
    rw [hbf]
    have hgl := (Array.getElem?_eq_some_iff.1 HC.out).1
    exact ⟨rfl, drew_of hcode.out hg0 hgl hil hc1 (grownT hg1 ⟨rfl, rfl, rfl, Nat.le_refl _, fun _ _ _ => rfl⟩)⟩

/-! ### numbers below a bound -/
def belowF (zs : List Int) (len : Nat) (c : Cu) (n : Int) : Int × Cu :=
  if n ≤ 0 then (0, c) else if n ≤ 256 then ((byteF zs len c).1 % n, (byteF zs len c).2) else
    let b1 := byteF zs len c; let b2 := byteF zs len b1.2; let b3 := byteF zs len b2.2; let b4 := byteF zs len b3.2
    ((b1.1 * 16777216 + b2.1 * 65536 + b3.1 * 256 + b4.1) % n, b4.2)
theorem belowF_bd (zs : List Int) (len : Nat) (c : Cu) (n : Int) : 0 ≤ (belowF zs len c n).1 ∧ (0 < n → (belowF zs len c n).1 < n) := by
  unfold belowF
  split
  · exact ⟨Int.le_refl _, fun h => by omega⟩
  · split
    · exact ⟨Int.emod_nonneg _ (by omega), fun _ => Int.emod_lt_of_pos _ (by omega)⟩
    · exact ⟨Int.emod_nonneg _ (by omega), fun _ => Int.emod_lt_of_pos _ (by omega)⟩

set_option maxHeartbeats 400000 in
theorem below_any (n₀ g len cap : Nat) (a : Option Addr) (zs : List Int) (c : Cu) (n : Int) (w : World) (hs : DrawSt n₀ w g a len cap zs c.i c.h) (hn : -9223372036854775808 ≤ n ∧ n ≤ 9223372036854775807) :
    Calls Tryd.prog 26 #[.pointer (some ⟨g, 0, none⟩), .int .i64 n] w fun e w' => e = .returned (.int .i64 (belowF zs len c n).1) ∧ Drew n₀ g a len cap zs (belowF zs len c n).2 w w' := by
  by_cases h0 : n ≤ 0
  · have hf : belowF zs len c n = (0, c) := by unfold belowF; rw [if_pos h0]
    rw [hf]
    have HS := Lib.hid hs; clear hs hf
    go_enter Tryd.func26, Tryd.ntmps26
    go_wp2
    go_ret
    exact ⟨rfl, ⟨HS.out, Below.refl _ _, ⟨rfl, rfl, rfl, Nat.le_refl _, fun _ _ _ => rfl⟩⟩⟩
  · by_cases h1 : n ≤ 256
    · have hf : belowF zs len c n = ((byteF zs len c).1 % n, (byteF zs len c).2) := by unfold belowF; rw [if_neg h0, if_pos h1]
      rw [hf]
      have hbd := byteF_bd zs len c
      have H1 := Lib.hid (byte_any n₀ g len cap a zs c w hs); clear hs hf
      generalize hb : byteF zs len c = b at *
      have HB := Lib.hid hb; clear hb
      go_enter Tryd.func26, Tryd.ntmps26
      go_wp2_with fail
      refine H1.out.mono ?_
      clear H1
      rintro e w1 ⟨rfl, hd⟩
      go_wp2
      go_ret
      exact ⟨rfl, hd⟩
    · have hf : belowF zs len c n = (((byteF zs len c).1 * 16777216 + (byteF zs len (byteF zs len c).2).1 * 65536 + (byteF zs len (byteF zs len (byteF zs len c).2).2).1 * 256 + (byteF zs len (byteF zs len (byteF zs len (byteF zs len c).2).2).2).1) % n, (byteF zs len (byteF zs len (byteF zs len (byteF zs len c).2).2).2).2) := by
        unfold belowF; rw [if_neg h0, if_neg h1]
      rw [hf]
      clear hf
      have hbd1 := byteF_bd zs len c
      have H1 := Lib.hid (byte_any n₀ g len cap a zs c w hs)
      generalize byteF zs len c = b1 at *
      have hbd2 := byteF_bd zs len b1.2
      have H2 := Lib.hid (fun w => byte_any n₀ g len cap a zs b1.2 w)
      generalize byteF zs len b1.2 = b2 at *
      have hbd3 := byteF_bd zs len b2.2
      have H3 := Lib.hid (fun w => byte_any n₀ g len cap a zs b2.2 w)
      generalize byteF zs len b2.2 = b3 at *
      have hbd4 := byteF_bd zs len b3.2
      have H4 := Lib.hid (fun w => byte_any n₀ g len cap a zs b3.2 w)
      generalize byteF zs len b3.2 = b4 at *
      obtain ⟨x1, c1⟩ := b1; obtain ⟨x2, c2⟩ := b2; obtain ⟨x3, c3⟩ := b3; obtain ⟨x4, c4⟩ := b4
      dsimp only at *
      clear hs
      go_enter Tryd.func26, Tryd.ntmps26
      go_wp2_with fail
      refine H1.out.mono ?_
      clear H1
      rintro e w1 ⟨rfl, hd1⟩
      go_wp2_with fail
      refine (H2.out w1 hd1.st).mono ?_
      clear H2
      rintro e w2 ⟨rfl, hd2⟩
      go_wp2_with fail
      refine (H3.out w2 hd2.st).mono ?_
      clear H3
      rintro e w3 ⟨rfl, hd3⟩
      go_wp2_with fail
      refine (H4.out w3 hd3.st).mono ?_
      clear H4
      rintro e w4 ⟨rfl, hd4⟩
      have hd := ((hd1.trans hd2).trans hd3).trans hd4
      clear hd1 hd2 hd3 hd4
      go_wp2
      go_ret
      exact ⟨rfl, hd⟩

end Go.Proofs.YteijgoadcpphlaaDoor
namespace Go.Proofs.YteijgoadcpphlaaDoor
open Go.ChangeShapes Go.WideShapes Go.ChangeAt Go.RowKit
set_option linter.unusedVariables false

def hashN (zs : List Int) : Nat → Int → Int
  | 0, h => h
  | k + 1, h => (hashN zs k h * 131 + zs[k]?.getD 0 + 7) % 1073741824
def newC (zs : List Int) (len : Nat) : Cu := ⟨0, hashN zs (min len 4000) (746746 + len)⟩
theorem hashN_bd (zs : List Int) (len : Nat) (hl : len ≤ 1048576) : ∀ k, 0 ≤ hashN zs k (746746 + len) ∧ hashN zs k (746746 + len) < 1073741824
  | 0 => by simp [hashN]; omega
  | k + 1 => by simp [hashN]; omega

set_option maxHeartbeats 800000 in
theorem new_end {n₀ len cap : Nat} {a : Option Addr} {zs : List Int} {w wr : World} {H : Int} (hc : CodeAt n₀ w a len zs) (hw : n₀ ≤ w.heap.size) (hgr : w.grownBy wr none) (hi : 0 ≤ len) :
    DrawSt n₀ (wr.alloc (.cells #[.slice a len cap, .int .i64 0, .int .i64 H] 51)) wr.heap.size a len cap zs 0 H ∧ Below n₀ w (wr.alloc (.cells #[.slice a len cap, .int .i64 0, .int .i64 H] 51)) ∧
      w.grownBy (wr.alloc (.cells #[.slice a len cap, .int .i64 0, .int .i64 H] 51)) none := by
  have hg2 := grownT hgr (World.grownBy_alloc wr (.cells #[.slice a len cap, .int .i64 0, .int .i64 H] 51) none)
  have hb : Below n₀ w (wr.alloc (.cells #[.slice a len cap, .int .i64 0, .int .i64 H] 51)) := (Below.refl _ _).grown hg2 hw (by simp)
  exact ⟨⟨hc.below hb, heap_alloc_new wr _, Nat.le_trans hw hgr.size, Nat.zero_le _⟩, hb, hg2⟩

set_option maxRecDepth 20000 in
theorem new_any (n₀ len cap : Nat) (a : Option Addr) (zs : List Int) (w : World) (hc : CodeAt n₀ w a len zs) (hw : n₀ ≤ w.heap.size) :
    Calls Tryd.prog 15 #[.slice a len cap] w fun e w' => ∃ g, e = .returned (.pointer (some ⟨g, 0, none⟩)) ∧ w.heap.size ≤ g ∧ DrawSt n₀ w' g a len cap zs (newC zs len).i (newC zs len).h ∧ Below n₀ w w' ∧ w.grownBy w' none := by
  have hlen := hc.1
  have hz := hc.2.1
  have hp := hc.2.2
  have hh := hashN_bd zs len hlen
  have HC := Lib.hid hc; clear hc
  go_enter Tryd.func15, Tryd.ntmps15
  go_wp2
  go_loopw [3, 4] (fun h i wr => ∃ j : Nat, j ≤ len ∧ j ≤ 4000 ∧ i = .int .i64 j ∧ h = .int .i64 (hashN zs j (746746 + len)) ∧ w.grownBy wr none)
    (fun _ i _ => len - (intOf i).toNat)
  case atStart => exact ⟨0, Nat.zero_le _, Nat.zero_le _, rfl, rfl, World.grownBy.refl _ _⟩
  case round =>
    obtain ⟨j, hj, hj4, rfl, rfl, hgr⟩ := hrel
    have hhj := hh j
    have hb : Below n₀ w wr := (Below.refl _ _).grown hgr hw (by simp)
    have hfin : (¬ (j < len ∧ j < 4000)) → newC zs len = ⟨0, hashN zs j (746746 + len)⟩ := by
      intro hn; unfold newC; congr; omega
    generalize hH : hashN zs j (746746 + len) = H at *
    have HF := Lib.hid hfin; clear hfin
    have hsz := hgr.size
    by_cases hlt : j < len
    · have z1 : (j : Int) < (len : Int) := by omega
      have z0 : (0 : Int) ≤ (j : Int) := by omega
      obtain ⟨b, off, rfl, hb0, hcells⟩ := hp.resolve_left (by omega)
      have cz : wr.cell? ⟨b, off + j, none⟩ = some (.int .u8 (zs[j]?.getD 0)) := (hb.cell (p := ⟨b, off + j, none⟩) hb0).trans (hcells j hlt)
      have hzj := hz j
      have hHs : hashN zs (j + 1) (746746 + len) = (H * 131 + zs[j]?.getD 0 + 7) % 1073741824 := by show (hashN zs j _ * 131 + _ + 7) % 1073741824 = _; rw [hH]
      have HHS := Lib.hid hHs; clear hHs hh hH
      generalize zs[j]?.getD 0 = y at *
      have HCELLS := Lib.hid hcells; clear hcells hp
      have HZ := Lib.hid hz; clear hz
      by_cases hlt4 : j < 4000
      · have e1 : wrap64 (H * 131) = H * 131 := IntWalk.wrap64_in _ (by omega)
        have e2 : wrap64 (H * 131 + y) = H * 131 + y := IntWalk.wrap64_in _ (by omega)
        have e3 : wrap64 (H * 131 + y + 7) = H * 131 + y + 7 := IntWalk.wrap64_in _ (by omega)
        have e5 : IntKind.i64.wrap (H * 131 + y) = H * 131 + y := IntWalk.i64_in _ (by omega)
        have e6 : IntKind.i64.wrap (H * 131 + y + 7) = H * 131 + y + 7 := IntWalk.i64_in _ (by omega)
        have e7 : IntKind.i64.wrap (H * 131) = H * 131 := IntWalk.i64_in _ (by omega)
        have e4 : bits BinOp.and IntKind.i64 (H * 131 + y + 7) 1073741823 = (H * 131 + y + 7) % 1073741824 := i64_and30 _
        go_wp2
        go_roundw
        case rel => exact ⟨j + 1, by omega, by omega, by go_num, by rw [HHS.out], hgr⟩
        case measure => simp [intOf]; omega
      · clear HHS HCELLS HZ
        go_wp2
        go_ret
        refine ⟨_, rfl, hsz, ?_⟩
        rw [HF.out (by omega)]
        exact new_end HC.out hw hgr (by omega)
    · clear hz hp hh
      have z1 : ¬ (j : Int) < (len : Int) := by omega
      go_wp2
      go_ret
      refine ⟨_, rfl, hsz, ?_⟩
      rw [HF.out (by omega)]
      exact new_end HC.out hw hgr (by omega)

theorem pickint_any (n₀ g len cap lb n : Nat) (a : Option Addr) (zs : List Int) (c : Cu) (xs : List Int) (w : World) (hs : DrawSt n₀ w g a len cap zs c.i c.h) (hn : 0 < n) (hn2 : n ≤ 256) (hx : xs.length = n) (hlg : lb ≠ g)
    (hcells : ∀ k, k < n → w.cell? ⟨lb, k, none⟩ = some (.int .i64 (xs[k]?.getD 0))) :
    Calls Tryd.prog 27 #[.pointer (some ⟨g, 0, none⟩), .slice (some ⟨lb, 0, none⟩) n n] w fun e w' => e = .returned (.int .i64 (xs[(belowF zs len c n).1.toNat]?.getD 0)) ∧ Drew n₀ g a len cap zs (belowF zs len c n).2 w w' := by
  have H1 := Lib.hid (below_any n₀ g len cap a zs c n w hs (by omega)); clear hs
  have hbd := belowF_bd zs len c n
  generalize belowF zs len c n = b at *
  obtain ⟨x, c'⟩ := b
  dsimp only at *
  have hx0 : 0 ≤ x := hbd.1
  have hx1 : x < (n : Int) := hbd.2 (by omega)
  obtain ⟨m, rfl⟩ : ∃ m : Nat, x = m := ⟨x.toNat, by omega⟩
  have hm : m < n := by omega
  have hc := hcells m hm
  have e1 : (m : Int).toNat = m := by omega
  rw [e1]
  generalize xs[m]?.getD 0 = y at *
  clear hcells hbd
  go_enter Tryd.func27, Tryd.ntmps27
  go_wp2_with fail
  refine H1.out.mono ?_
  clear H1
  rintro e w1 ⟨rfl, hd⟩
  have hc1 : w1.cell? ⟨lb, m, none⟩ = some (.int .i64 y) := hd.grown.cell hc (by simpa using hlg)
  go_wp2
  go_ret
  exact ⟨rfl, hd⟩
theorem Drew.alloc {n₀ g : Nat} {a : Option Addr} {len cap : Nat} {zs : List Int} {c : Cu} {w w1 : World} (h : Drew n₀ g a len cap zs c w w1) (o : Obj) : Drew n₀ g a len cap zs c w (w1.alloc o) := by
  have hgl := (Array.getElem?_eq_some_iff.1 h.st.cur).1
  have hg0 := h.st.hg
  refine ⟨⟨h.st.code.below ((Below.refl _ _).alloc (by omega) o), ?_, hg0, h.st.hi⟩, h.below.trans ((Below.refl _ _).alloc (by omega) o), grownT h.grown (World.grownBy_alloc _ _ _)⟩
  exact ((World.grownBy_alloc w1 o none).block g hgl (by simp)).trans h.st.cur
theorem DrawSt.lt {n₀ g : Nat} {a : Option Addr} {len cap : Nat} {zs : List Int} {i : Nat} {h : Int} {w : World} (hs : DrawSt n₀ w g a len cap zs i h) : g < w.heap.size := (Array.getElem?_eq_some_iff.1 hs.cur).1
theorem lit_cell (w : World) (cs : Array Value) (e : TypeId) (k : Nat) : (w.alloc (.cells cs e)).cell? ⟨w.heap.size, k, none⟩ = cs[k]? := cell_of_row _ _ _ _ _ _ (heap_alloc_new w _)

theorem Drew.grow {n₀ g : Nat} {a : Option Addr} {len cap : Nat} {zs : List Int} {c : Cu} {w w1 w2 : World} {row : Option Nat} (h : Drew n₀ g a len cap zs c w w1) (hgl : g < w.heap.size) (k : w1.grownBy w2 row) (hr : ∀ b, row = some b → w.heap.size ≤ b) : Drew n₀ g a len cap zs c w w2 := by
  have hg0 := h.st.hg
  have hsz := h.grown.size
  have hb : Below n₀ w1 w2 := (Below.refl n₀ w1).grown k (by omega) (fun b e => by have := hr b e; omega)
  refine ⟨⟨h.st.code.below hb, ?_, hg0, h.st.hi⟩, h.below.trans hb, ⟨k.os.trans h.grown.os, k.tape.trans h.grown.tape, k.output.trans h.grown.output, Nat.le_trans hsz k.size, fun j hj hn => ?_⟩⟩
  · refine (k.block g (by omega) (fun e => ?_)).trans h.st.cur
    have := hr g e.symm; omega
  · refine (k.block j (by omega) (fun e => ?_)).trans (h.grown.block j hj hn)
    have := hr j e.symm; omega

/-- what a walk is told of bytes that came in -/
def IsRow (k : IntKind) (w : World) (a : Option Addr) (len cap : Nat) (zs : List Int) : Prop :=
  (a = none ∧ len = 0 ∧ cap = 0 ∧ zs = []) ∨
  ∃ x, a = some x ∧ len ≤ cap ∧ cap ≤ maxLen ∧ zs.length = cap ∧ (∀ i, i < zs.length → w.cell? (x.add i) = some (.int k (zs.getD i 0))) ∧ ∀ n ∈ zs, (Lit.int k n).wf = true
theorem codeAt_of {w : World} {a : Option Addr} {len cap : Nat} {zs : List Int} (h : IsRow .u8 w a len cap zs) (hl : len ≤ 1048576) : CodeAt w.heap.size w a len zs := by
  rcases h with ⟨rfl, rfl, rfl, rfl⟩ | ⟨x, rfl, h1, h2, h3, h4, h5⟩
  · exact ⟨hl, by simp, .inl rfl⟩
  · refine ⟨hl, fun k => range_u8 h5 k, ?_⟩
    · rcases Nat.eq_zero_or_pos len with h0 | h0
      · exact .inl h0
      · obtain ⟨b, off, spot⟩ := x
        have hc := h4 0 (by omega)
        have hs : spot = none := by simpa [Addr.add] using World.cell?_spot hc
        subst hs
        refine .inr ⟨b, off, rfl, World.block_lt_of_cell? w ⟨b, off, none⟩ (by simpa [Addr.add] using hc), fun k hk => ?_⟩
        have := h4 k (by omega)
        rw [List.getD_eq_getElem?_getD] at this
        rw [← this]
        unfold Addr.add
        split
        · rename_i e; subst e; rfl
        · rfl
theorem big_any (a : Option Addr) (len cap : Nat) (w : World) (hl : len ≤ 1048576) : Calls Tryd.prog 5 #[.slice a len cap] w fun e w' => e = .returned (.bool false) ∧ w' = w := by
  have z1 : ¬ (1048576 : Int) < (len : Int) := by omega
  go_enter Tryd.func5, Tryd.ntmps5
  go_wp2
  go_ret
  exact ⟨rfl, rfl⟩
theorem big_true (a : Option Addr) (len cap : Nat) (w : World) (hl : ¬ len ≤ 1048576) : Calls Tryd.prog 5 #[.slice a len cap] w fun e w' => e = .returned (.bool true) ∧ w' = w := by
  have z1 : (1048576 : Int) < (len : Int) := by omega
  go_enter Tryd.func5, Tryd.ntmps5
  go_wp2
  go_ret
  exact ⟨rfl, rfl⟩

end Go.Proofs.YteijgoadcpphlaaDoor
namespace Go.Proofs.YteijgoadcpphlaaDoor
open Go.ChangeShapes Go.WideShapes Go.ChangeAt Go.RowKit Go.BigFrame
set_option linter.unusedVariables false

set_option maxRecDepth 100000 in
set_option maxHeartbeats 2000000 in
theorem sleast_any (n d : Int) (w : World) (hn : 1 ≤ n ∧ n ≤ 100) (hd : 1 ≤ d ∧ d ≤ 5) : Calls Tryd.prog 40 #[.int .i64 n, .int .i64 d] w fun e w' => e = .returned (.int .i64 (d * n / (d + 1))) ∧ w' = w := by
  obtain ⟨q0, q1, q2⟩ := groQ_bd hd.1 hd.2 hn.1 hn.2
  have e1 : IntKind.i64.wrap (d + 1) = d + 1 := IntWalk.i64_in _ (by omega)
  have dn : 0 ≤ d * n ∧ d * n ≤ 500 := ⟨Int.mul_nonneg (by omega) (by omega), Int.le_trans (Int.mul_le_mul hd.2 hn.2 (by omega) (by omega)) (by decide)⟩
  have e2 : IntKind.i64.wrap (d * n) = d * n := IntWalk.i64_in _ (by omega)
  have e3 : IntKind.i64.wrap (d * n - d) = d * n - d := IntWalk.i64_in _ (by omega)
  have HI := Lib.hid (fun k : Int => @least_iff d n k hd.1 hd.2)
  generalize hq : d * n / (d + 1) = q at *
  clear hq
  go_enter Tryd.func40, Tryd.ntmps40
  go_wp2
  go_loopw [5] (fun i wr => ∃ k : Nat, (k : Int) ≤ q ∧ i = .int .i64 k ∧ wr = w) (fun i _ => 100 - (intOf i).toNat)
  case atStart => exact ⟨0, by omega, rfl, rfl⟩
  case round =>
    obtain ⟨k, hk, rfl, rfl⟩ := hrel
    have kd : 0 ≤ (k : Int) * (d + 1) ∧ (k : Int) * (d + 1) ≤ 498 := ⟨Int.mul_nonneg (by omega) (by omega), Int.le_trans (Int.mul_le_mul (show (k : Int) ≤ 83 by omega) (show d + 1 ≤ 6 by omega) (by omega) (by omega)) (by decide)⟩
    have e4 : IntKind.i64.wrap ((k : Int) * (d + 1)) = (k : Int) * (d + 1) := IntWalk.i64_in _ (by omega)
    have hi := HI.out k
    by_cases hlt : (k : Int) < q
    · have hc : (k : Int) * (d + 1) < d * n - d := hi.2 hlt
      clear hi
      go_wp2
      exact ⟨⟨k + 1, by omega, by go_num, trivial⟩, by simp [intOf]; omega⟩
    · have hc : ¬ (k : Int) * (d + 1) < d * n - d := fun h => hlt (hi.1 h)
      have HKQ := Lib.hid (show (k : Int) = q by omega)
      clear hi
      go_wp2
      go_ret
      exact ⟨by rw [← HKQ.out]; rfl, rfl⟩
theorem groF_succ (n p : Int) (f : Nat) (d a : Int) : groF n p (f + 1) d a = if a < p * (d * n / (d + 1)) ∧ p * (d * n / (d + 1)) ≤ 1000000 then (p * (d * n / (d + 1)), d + 1) :: groF n p f (d + 1) (p * (d * n / (d + 1))) else [] := rfl
theorem last_get (a : K2) : ∀ (G : List K2), (a :: G).getD G.length (0, 0) = lastK a G
  | [] => rfl
  | x :: G => by
    have h1 : lastK a (x :: G) = lastK x G := by cases G <;> simp [lastK, List.getLastD]
    rw [h1, List.length_cons, List.getD_cons_succ]
    exact last_get x G
/-- the last step's cells in a list of one's own -/
theorem last_cells {w : World} {base g L cap : Nat} {a : K2} {G : List K2} (hL : L = G.length + 1) (h : w.ownsRow base 31 2 (.slice (some ⟨g, 0, none⟩) L cap) L (keyCells (a :: G))) :
    w.cell? ⟨g, (L - 1) * 2, none⟩ = some (.int .i64 (lastK a G).1) ∧ w.cell? ⟨g, (L - 1) * 2 + 1, none⟩ = some (.int .i64 (lastK a G).2) := by
  subst hL
  have h1 := (own_cell h (G.length * 2) (by omega)).1
  have h2 := (own_cell h (G.length * 2 + 1) (by omega)).1
  have hk := keyCells_get (a :: G) G.length (by simp)
  rw [last_get] at hk
  simp only [List.getD, hk.1] at h1
  simp only [List.getD, hk.2] at h2
  exact ⟨h1, h2⟩
set_option maxRecDepth 100000 in
set_option maxHeartbeats 2000000 in
theorem sgrowth_any (n p : Int) (w : World) : Calls Tryd.prog 35 #[.int .i64 n, .int .i64 p] w fun e w' => ∃ v, e = .returned v ∧ w'.ownsRow w.heap.size 31 2 v (groV n p).length (keyCells (groV n p)) ∧ Below w.heap.size w w' := by
  obtain ⟨i0, hi, hz0, hz1, hz2⟩ := info_parts infoSt
  have hown0 := World.ownsRow_made (base := w.heap.size) (e := 31) (size := 2) w #[] 0 (Nat.le_refl _) (by unfold maxLen; omega) rfl
  have hb0 := (Below.refl w.heap.size w).alloc (Nat.le_refl _) (.cells #[] 31)
  have HN := Lib.hid (fun w => sin_any n 1 100 w)
  have HP := Lib.hid (fun w => sin_any p 1 1000 w)
  by_cases hn : 1 ≤ n ∧ n ≤ 100
  · have b1 : (decide (1 ≤ n) && decide (n ≤ 100)) = true := by simp; omega
    rw [b1] at HN
    by_cases hp : 1 ≤ p ∧ p ≤ 1000
    · have b2 : (decide (1 ≤ p) && decide (p ≤ 1000)) = true := by simp; omega
      rw [b2] at HP
      have hM : groV n p = (0, 1) :: groF n p 5 1 0 := by unfold groV; rw [if_pos ⟨hn, hp⟩]
      generalize groV n p = M at *
      have HM := Lib.hid hM
      have hbs := fun w => build_st1 1 w
      clear hM b1 b2
      go_enter Tryd.func35, Tryd.ntmps35
      go_wp2_with fail
      generalize w.alloc (.cells #[] 31) = W at *
      refine (HN.out _).mono ?_
      rintro e w1 ⟨rfl, rfl⟩
      go_wp2_with fail
      refine (HP.out _).mono ?_
      rintro e w2 ⟨rfl, rfl⟩
      have hns := hb0.size
      generalize Value.slice (some ⟨w.heap.size, 0, none⟩) 0 0 = v0 at *
      go_wp2_with (at_builtin; refine wpList_append_own _ rfl (.tmp 18) (.tmp 20) 24 rfl w.heap.size 31 i0 (.agg #[.int .i64 0, .int .i64 0]) 2 16 Tryd.underlying24 hi hz0 hz1 hz2 rfl (by decide) _ _ _ rfl (hown0.alloc _) ⟨w2.heap.size, 0, none⟩ 1 1 [.int .i64 0, .int .i64 1] rfl rfl (cell_two_new _ _ _ _) (by intro u hu; simp at hu; rcases hu with rfl | rfl <;> rfl) (by unfold maxLen; omega) (by omega) (by simp; omega) ?_; intro v' w3 hown' hgrow _)
      have HR := Lib.hid (show w3.ownsRow w.heap.size 31 2 v' 1 (keyCells [(0, 1)]) ∧ Below w.heap.size w w3 from ⟨by simpa [keyCells] using hown', (hb0.alloc hb0.size _).grown hgrow (by simp; omega) (fun g hg => (hown0.lt g hg).1)⟩)
      clear hown' hgrow hown0 hb0 hbs HN HP hns
      go_wp2
      go_loopw [5, 6, 7] (fun v d t wr => ∃ (D : Nat) (G : List K2), 1 ≤ D ∧ D ≤ 6 ∧ D = G.length + 1 ∧ d = .int .i64 D ∧ ((0, 1) :: G) ++ groF n p (6 - D) D (lastK (0, 1) G).1 = M ∧ wr.ownsRow w.heap.size 31 2 v (G.length + 1) (keyCells ((0, 1) :: G)) ∧ Below w.heap.size w wr) (fun _ d _ _ => 6 - (intOf d).toNat)
      case atStart => exact ⟨1, [], by omega, by omega, rfl, rfl, by rw [HM.out]; rfl, HR.out.1, HR.out.2⟩
      case round =>
        obtain ⟨D, G, h1, h6, hDG, rfl, hout, hown, hb⟩ := hrel
        have HDG := Lib.hid hDG
        clear HR HM hDG
        by_cases hlt : D < 6
        · have HL := Lib.hid (fun w => sleast_any n D w hn (by omega))
          obtain ⟨q0, q1, q2⟩ := groQ_bd (d := (D : Int)) (n := n) (by omega) (by omega) hn.1 hn.2
          obtain ⟨m0, m1, m2⟩ := mul_bd hp.1 hp.2 q0 q1 q2
          have m3 := Int.le_trans m1 m2
          rw [show 6 - D = (5 - D) + 1 by omega, groF_succ] at hout
          generalize (D : Int) * n / ((D : Int) + 1) = q at *
          have ep : IntKind.i64.wrap (p * q) = p * q := IntWalk.i64_in _ (by omega)
          obtain ⟨L, hL⟩ : ∃ L, L = G.length + 1 := ⟨_, rfl⟩
          rw [← hL] at hown
          obtain ⟨gv, cv, hv, hnc, hcm, hbg, hgs⟩ := (ownsRowK_shape hown).resolve_left (by rintro ⟨_, h⟩; omega)
          have hown1 := hown
          rw [hv] at hown1
          have lc := (last_cells hL hown1).1
          have hlv := len_st ⟨_, _, hv⟩
          have hix := idx_st hv (L - 1) (by omega) ((L : Int) - 1) (by omega)
          have ew : IntKind.i64.wrap ((L : Int) - 1) = (L : Int) - 1 := IntWalk.i64_in _ (by unfold maxLen at hcm; omega)
          have zd : (D : Int) < 6 := by omega
          have ed : IntKind.i64.wrap ((D : Int) + 1) = (D : Int) + 1 := IntWalk.i64_in _ (by omega)
          have HGL := Lib.hid hL
          have HV := Lib.hid hv
          clear hown1 hL hv q0 q1 q2 m1 hgs hnc
          go_wp2_with fail
          refine (HL.out _).mono ?_
          rintro e w4 ⟨rfl, rfl⟩
          by_cases hc : p * q ≤ (lastK (0, 1) G).1
          · rw [if_neg (by omega), List.append_nil] at hout
            have HO := Lib.hid hout
            clear hout
            go_wp2
            go_ret
            exact ⟨_, rfl, by rw [← HO.out]; simpa [← HGL.out] using hown, hb⟩
          · rw [if_pos (by omega)] at hout
            have HO := Lib.hid hout
            have hc2 : ¬ 1000000 < p * q := by omega
            have hbk := fun w => build_st (p * q) ((D : Int) + 1) w
            have hns := hb.size
            have HLS := Lib.hid (show lastK (0, 1) (G ++ [(p * q, (D : Int) + 1)]) = (p * q, (D : Int) + 1) from lastK_snoc _ _ _)
            have hl2 : L ≤ 9 := by have := HGL.out; have := HDG.out; omega
            clear hout
            go_wp2_with (at_builtin; refine wpList_append_own _ rfl (.tmp 45) (.tmp 50) 24 rfl w.heap.size 31 i0 (.agg #[.int .i64 0, .int .i64 0]) 2 16 Tryd.underlying24 hi hz0 hz1 hz2 rfl (by decide) _ _ _ rfl (hown.alloc _) ⟨w4.heap.size, 0, none⟩ 1 1 [.int .i64 (p * q), .int .i64 ((D : Int) + 1)] rfl rfl (cell_two_new _ _ _ _) (by intro u hu; simp at hu; rcases hu with rfl | rfl <;> rfl) (by unfold maxLen; omega) (by omega) (by simp; omega) ?_; intro v' w5 hown' hgrow _)
            have R : w5.ownsRow w.heap.size 31 2 v' ((G ++ [(p * q, (D : Int) + 1)]).length + 1) (keyCells ((0, 1) :: (G ++ [(p * q, (D : Int) + 1)]))) ∧ Below w.heap.size w w5 := by
              refine ⟨?_, (hb.alloc hb.size _).grown hgrow (by simp; omega) (fun g hg => (hown.lt g hg).1)⟩
              rw [← List.cons_append, keyCells_snoc]
              have := HGL.out
              subst this
              simpa using hown'
            have HR := Lib.hid R
            clear R hown' hgrow hown hb
            go_wp2
            exact ⟨⟨D + 1, G ++ [(p * q, (D : Int) + 1)], by omega, by omega, by have := HDG.out; simp; omega, by go_num, by rw [HLS.out, ← HO.out, show 6 - (D + 1) = 5 - D by omega]; simp, HR.out.1, HR.out.2⟩, by simp [intOf]; omega⟩
        · obtain rfl : D = 6 := by omega
          rw [show groF n p (6 - 6) ((6 : Nat) : Int) (lastK (0, 1) G).1 = [] from rfl, List.append_nil] at hout
          have HO := Lib.hid hout
          clear hout
          go_wp2
          go_ret
          exact ⟨_, rfl, by rw [← HO.out]; simpa using hown, hb⟩
    · have b2 : (decide (1 ≤ p) && decide (p ≤ 1000)) = false := by
        cases h : (decide (1 ≤ p) && decide (p ≤ 1000)) with
        | false => rfl
        | true => simp at h; omega
      rw [b2] at HP
      have HM := Lib.hid (show groV n p = [] by unfold groV; rw [if_neg (fun h => hp h.2)])
      clear b1 b2 hp hn
      go_enter Tryd.func35, Tryd.ntmps35
      go_wp2_with fail
      generalize w.alloc (.cells #[] 31) = W at *
      refine (HN.out _).mono ?_
      rintro e w1 ⟨rfl, rfl⟩
      go_wp2_with fail
      refine (HP.out _).mono ?_
      rintro e w2 ⟨rfl, rfl⟩
      go_wp2
      go_ret
      exact ⟨_, rfl, by rw [HM.out]; exact hown0, hb0⟩
  · have b1 : (decide (1 ≤ n) && decide (n ≤ 100)) = false := by
      cases h : (decide (1 ≤ n) && decide (n ≤ 100)) with
      | false => rfl
      | true => simp at h; omega
    rw [b1] at HN
    have HM := Lib.hid (show groV n p = [] by unfold groV; rw [if_neg (fun h => hn h.1)])
    clear b1 hn
    go_enter Tryd.func35, Tryd.ntmps35
    go_wp2_with fail
    generalize w.alloc (.cells #[] 31) = W at *
    refine (HN.out _).mono ?_
    rintro e w1 ⟨rfl, rfl⟩
    go_wp2
    go_ret
    exact ⟨_, rfl, by rw [HM.out]; exact hown0, hb0⟩
end Go.Proofs.YteijgoadcpphlaaDoor
namespace Go.Proofs.YteijgoadcpphlaaDoor
open Go.ChangeShapes Go.WideShapes Go.ChangeAt Go.RowKit
set_option linter.unusedVariables false

theorem once_any (n₀ g len cap : Nat) (a : Option Addr) (zs : List Int) (c : Cu) (n : Int) (w : World) (hs : DrawSt n₀ w g a len cap zs c.i c.h) (hn : -9223372036854775808 ≤ n ∧ n ≤ 9223372036854775807) :
    Calls Tryd.prog 34 #[.pointer (some ⟨g, 0, none⟩), .int .i64 n] w fun e w' => e = .returned (.bool ((belowF zs len c n).1 == 0)) ∧ Drew n₀ g a len cap zs (belowF zs len c n).2 w w' := by
  have H1 := Lib.hid (below_any n₀ g len cap a zs c n w hs hn); clear hs
  generalize belowF zs len c n = b at *
  go_enter Tryd.func34, Tryd.ntmps34
  go_wp2_with fail
  refine H1.out.mono ?_
  clear H1
  rintro e w1 ⟨rfl, hd⟩
  go_wp2
  go_ret
  exact ⟨rfl, hd⟩
end Go.Proofs.YteijgoadcpphlaaDoor
namespace Go.Proofs.YteijgoadcpphlaaDoor
open Go.ChangeShapes Go.WideShapes Go.ChangeAt Go.RowKit Go.BigFrame
set_option linter.unusedVariables false

theorem Drew.drewP {n₀ g : Nat} {a : Option Addr} {len cap : Nat} {zs : List Int} {c : Cu} {w w1 : World} (h : Drew n₀ g a len cap zs c w w1) : Drew n₀ g a len cap zs c w w1.drew :=
  ⟨⟨h.st.code, h.st.cur, h.st.hg, h.st.hi⟩, h.below.drew, ⟨h.grown.os, h.grown.tape, h.grown.output, h.grown.size, h.grown.block⟩⟩
def allIn (ks : List K2) : Prop := ∀ k ∈ ks, kIn k
theorem wrap_in (x : Int) : -9223372036854775808 ≤ wrap64 x ∧ wrap64 x ≤ 9223372036854775807 := by unfold wrap64; omega
theorem chain_in : ∀ (l : List K2) (a : K2), chainB a l = true → 0 ≤ a.1 → 0 ≤ a.2 → ∀ k ∈ l, kIn k
  | [], _, _, _, _ => by simp
  | x :: l, a, h, h1, h2 => by
    rw [chain_cons, Bool.and_eq_true, fol_iff] at h
    intro k hk
    rcases List.mem_cons.1 hk with rfl | hk
    · unfold kIn; omega
    · exact chain_in l x h.2 (by omega) (by omega) k hk
theorem plan_in {ks : List K2} (h : plnB ks = true) : ∀ k ∈ ks, kIn k := by
  cases ks with
  | nil => simp
  | cons x r =>
    simp only [plnB, Bool.and_eq_true, beq_iff_eq] at h
    obtain ⟨rfl, h2⟩ := h
    intro k hk
    rcases List.mem_cons.1 hk with rfl | hk
    · unfold kIn; decide
    · exact chain_in r _ h2 (by decide) (by decide) k hk
/-- one of some numbers, laid just now; what else is there stays -/
theorem pick_lit2 (n₀ g len cap : Nat) (a : Option Addr) (zs : List Int) (c : Cu) (xs : List Int) (n : Nat) (w0 w : World) (cs : Array Value) (hd : Drew n₀ g a len cap zs c w0 w) (hn : 0 < n) (hn2 : n ≤ 256) (hx : xs.length = n) (hcs : cs = (xs.map (Value.int .i64)).toArray) :
    Calls Tryd.prog 27 #[.pointer (some ⟨g, 0, none⟩), .slice (some ⟨w.heap.size, 0, none⟩) n n] (w.alloc (.cells cs 3)) fun e w' => ∃ (z : Int) (c' : Cu), e = .returned (.int .i64 z) ∧ z ∈ xs ∧ Drew n₀ g a len cap zs c' w0 w' ∧ w.grownBy w' (some g) := by
  have hgl := hd.st.lt
  have hbd := belowF_bd zs len c (n : Int)
  have hlt : (belowF zs len c (n : Int)).1.toNat < xs.length := by have := hbd.2 (by omega); omega
  refine (pickint_any n₀ g len cap w.heap.size n a zs c xs _ (hd.alloc _).st hn hn2 hx (by omega) ?_).mono (fun e w' h => ⟨_, _, h.1, by rw [List.getElem?_eq_getElem hlt]; exact List.getElem_mem hlt, (hd.alloc _).trans h.2, grownT (World.grownBy_alloc _ _ _) h.2.grown⟩)
  intro k hk
  rw [lit_cell, hcs]
  simp [show k < xs.length by omega]
/-- append of one step to a list of one's own, in a drawn region: what stood there stays where it stood -/
theorem wp_append_st {w : World} {o : Oper} {a : Act} {K : Act → World → Prop} {Q : Exit → Act → World → Prop} (s x : Operand) (ho : o.op = .call { callee := .builtin .append, args := #[s, x], argTypes := #[24, 24] })
    (base gv n cap : Nat) (xs : List Value) (hs : a.eval s = .slice (some ⟨gv, 0, none⟩) n cap) (hown : w.ownsRow base 31 2 (.slice (some ⟨gv, 0, none⟩) n cap) n xs) (hn : n ≤ 1000000) (ad : Addr) (y z : Int) (hx : a.eval x = .slice (some ad) 1 1)
    (hnews : ∀ j u, ([.int .i64 y, .int .i64 z] : List Value)[j]? = some u → w.cell? (ad.add j) = some u) (hbase : base ≤ w.heap.size)
    (h : ∀ v' w', w'.ownsRow base 31 2 v' (n + 1) (xs ++ [.int .i64 y, .int .i64 z]) → w.grownBy w' (some gv) → (∀ j, j < n * 2 → w'.cell? ⟨gv, j, none⟩ = xs[j]?) → K (a.put o.dst v') w') : o.wp Tryd.prog a w K Q := by
  obtain ⟨i0, hi, hz0, hz1, hz2⟩ := info_parts infoSt
  have h1 : ∀ u ∈ ([.int .i64 y, .int .i64 z] : List Value), u.oneCell' = true := by intro u hu; simp at hu; rcases hu with rfl | rfl <;> rfl
  have hxl : xs.length = n * 2 := hown.1
  have hcells : ∀ j, j < n * 2 → w.cell? ⟨gv, j, none⟩ = xs[j]? := fun j hj => hown.cellAt j hj
  by_cases hroom : n + 1 ≤ cap
  · refine wp_append_own_spare w s x 24 ho base 31 i0 2 Tryd.underlying24 hi hz1 gv n cap xs hs hown ad 1 1 [.int .i64 y, .int .i64 z] hx rfl hnews h1 hroom (fun w' g1 g2 => h _ _ g1 g2 (fun j hj => ?_))
    rw [g1.cellAt j (by omega), List.getElem?_append_left (by omega)]
  · obtain ⟨v', w', hr, g1, g2⟩ := run_append_arg_grows (P := Tryd.prog) w 24 o.type 31 i0 (.agg #[.int .i64 0, .int .i64 0]) 2 16 Tryd.underlying24 hi hz0 hz1 hz2 rfl (by decide) ⟨gv, 0, none⟩ n cap xs hxl (fun j u hj => by
      have : j < n * 2 := by rw [← hxl]; exact (List.getElem?_eq_some_iff.1 hj).1
      rw [addr_add, Nat.zero_add, hcells j this]; exact hj) ad 1 1 [.int .i64 y, .int .i64 z] rfl hnews (by omega) (by unfold maxLen; omega) (by omega)
    have hK := h v' w' (own_base g1 hbase) ⟨g2.os, g2.tape, g2.output, g2.size, fun j hj _ => g2.block j hj (by simp)⟩ (fun j hj => by
      have hc := hcells j hj
      have hj2 : j < xs.length := by omega
      rw [List.getElem?_eq_getElem hj2] at hc ⊢
      exact g2.cell hc (by simp))
    unfold Oper.wp execOp
    simp only [ho, resolve, invoke, builtin, Sem.run_bind, Sem.run_pure, Result.andThen_ok, List.map_toArray, List.map_cons, List.map_nil, hs, hx, hr]
    exact hK
set_option maxRecDepth 100000 in
set_option maxHeartbeats 2000000 in
theorem make10_any (n₀ g len cap : Nat) (a : Option Addr) (zs : List Int) (c : Cu) (w : World) (hs : DrawSt n₀ w g a len cap zs c.i c.h) :
    Calls Tryd.prog 25 #[.pointer (some ⟨g, 0, none⟩)] w fun e w' => ∃ (v : Value) (ks : List K2) (c' : Cu), e = .returned v ∧ ((1 ≤ ks.length ∧ ks.length ≤ 6) ∧ allIn ks) ∧ w'.ownsRow w.heap.size 31 2 v ks.length (keyCells ks) ∧ Drew n₀ g a len cap zs c' w w' := by
  obtain ⟨i0, hi, hz0, hz1, hz2⟩ := info_parts infoSt
  have hgl := hs.lt
  have hd0 : Drew n₀ g a len cap zs c w w := ⟨hs, Below.refl _ _, World.grownBy.refl _ _⟩
  go_enter Tryd.func25, Tryd.ntmps25
  go_wp2_with fail
  refine (once_any n₀ g len cap a zs c 3 w hs (by omega)).mono ?_
  rintro e w1 ⟨rfl, hd1⟩
  have hD1 := hd0.trans hd1
  generalize (belowF zs len c 3).2 = c1 at *
  generalize ((belowF zs len c 3).1 == 0) = bo at *
  clear hd0 hd1 hs
  cases bo with
  | true =>
    go_wp2_with fail
    refine (below_any n₀ g len cap a zs c1 30 _ hD1.st (by omega)).mono ?_
    rintro e w2 ⟨rfl, hd2⟩
    have hbd := belowF_bd zs len c1 30
    have hD2 := hD1.trans hd2
    generalize belowF zs len c1 30 = b at *
    obtain ⟨x, c2⟩ := b
    dsimp only at *
    have ew : IntKind.i64.wrap (1 + x) = 1 + x := IntWalk.i64_in _ (by omega)
    have ew2 : wrap64 (1 + x) = 1 + x := IntWalk.wrap64_in _ (by omega)
    clear hd2 hD1
    go_wp2_with fail
    refine (below_any n₀ g len cap a zs c2 9 _ hD2.st (by omega)).mono ?_
    rintro e w3 ⟨rfl, hd3⟩
    have hbd2 := belowF_bd zs len c2 9
    have hD3 := hD2.trans hd3
    generalize belowF zs len c2 9 = b at *
    obtain ⟨y, c3⟩ := b
    dsimp only at *
    have ey : IntKind.i64.wrap (1 + y) = 1 + y := IntWalk.i64_in _ (by omega)
    have ey2 : wrap64 (1 + y) = 1 + y := IntWalk.wrap64_in _ (by omega)
    clear hd3 hD2
    go_wp2_with fail
    refine (sgrowth_any (1 + x) (1 + y) w3).mono ?_
    rintro e w4 ⟨v, rfl, ho, hb⟩
    have hsz := hD3.grown.size
    have HF := Lib.hid (hD3.grow hgl (grown_of_below' hb none) (by simp))
    have HO := Lib.hid (own_base ho hsz)
    have HG := Lib.hid (show groOk (1 + x) (1 + y) from ⟨by omega, by omega⟩)
    clear ho hb hD3
    go_wp2
    go_ret
    exact ⟨v, _, c3, rfl, ⟨⟨(pln_len (gro_plan HG.out)).1, gro_len _ _⟩, plan_in (gro_plan HG.out)⟩, HO.out, HF.out⟩
  | false =>
    have hbs := fun w => build_st1 1 w
    have hsz1 := hD1.grown.size
    have hown0 := World.ownsRow_lit (base := w.heap.size) (e := 31) (size := 2) w1 #[.int .i64 0, .int .i64 1] 1 hsz1 (by unfold maxLen; omega) rfl
    have hD2 := hD1.alloc (.cells #[.int .i64 0, .int .i64 1] 31)
    go_wp2_with fail
    generalize w1.alloc (.cells #[.int .i64 0, .int .i64 1] 31) = w2 at *
    refine (below_any n₀ g len cap a zs c1 4 _ hD2.st (by omega)).mono ?_
    rintro e w3 ⟨rfl, hd3⟩
    have hbd := belowF_bd zs len c1 4
    have hD3 := hD2.trans hd3
    have hown3 := hown0.kept hd3.grown (.inr fun e => by have h : w1.heap.size = g := Option.some.inj e; omega)
    generalize belowF zs len c1 4 = b at *
    obtain ⟨x, c3⟩ := b
    dsimp only at *
    obtain ⟨m, rfl⟩ : ∃ m : Nat, x = m := ⟨x.toNat, by omega⟩
    have hm : m < 4 := by omega
    have HD := Lib.hid hD3
    have HO := Lib.hid hown3
    clear hd3 hD1 hD2 hD3 hown0 hown3 hbs hbd
    generalize Value.slice (some ⟨w1.heap.size, 0, none⟩) 1 1 = v0 at *
    go_wp2
    go_loopw [3, 5] (fun v i wr => ∃ (k : Nat) (ks : List K2) (c2 : Cu), k ≤ m ∧ i = .int .i64 k ∧ (ks.length = k + 1 ∧ allIn ks) ∧ wr.ownsRow w.heap.size 31 2 v (k + 1) (keyCells ks) ∧ Drew n₀ g a len cap zs c2 w wr)
      (fun _ i _ => m - (intOf i).toNat)
    case atStart => exact ⟨0, [(0, 1)], c3, Nat.zero_le _, rfl, ⟨rfl, by intro x hx; simp at hx; subst hx; unfold kIn; decide⟩, HO.out, HD.out⟩
    case round =>
      obtain ⟨k, ks, c2, hk, rfl, ⟨hkl, hin⟩, hown, hD⟩ := hrel
      have HIN := Lib.hid hin
      clear hin
      clear HO HD
      by_cases hlt : k < m
      · have z1 : (k : Int) < (m : Int) := by omega
        have z0 : (0 : Int) ≤ (k : Int) := by omega
        obtain ⟨gv, cv, hv, hnc, hcm, hbg, hgs⟩ := (ownsRowK_shape hown).resolve_left (by rintro ⟨_, h⟩; omega)
        have hown1 := hown
        rw [hv] at hown1
        have e0 := (own_cell hown1 (k * 2) (by omega)).1
        have e1 := (own_cell hown1 (k * 2 + 1) (by omega)).1
        have hkc := keyCells_get ks k (by omega)
        simp only [List.getD, hkc.1, Option.getD_some] at e0
        simp only [List.getD, hkc.2, Option.getD_some] at e1
        have HKC := Lib.hid hkc
        simp only [List.getD] at HKC
        generalize hpe : (ks[k]?.getD (0, 0)).fst = p at *
        generalize hqe : (ks[k]?.getD (0, 0)).snd = q at *
        have hix := idx_st hv k (by omega) (k : Int) rfl
        have HGV := Lib.hid (show gv ≠ g by omega)
        have HKL := Lib.hid hkl
        have HB := Lib.hid (And.intro hbg hgs)
        have hbk := fun x y w => build_st x y w
        have HVO := Lib.hid (congrArg Value.ownBlock hv)
        have HVE := Lib.hid hv
        have L0 : ∀ wx : World, (wx.cell? ⟨gv, k * 2, none⟩ = some (.int .i64 p) ∧ wx.cell? ⟨gv, k * 2 + 1, none⟩ = some (.int .i64 q)) → (loadVar 3 ⟨gv, k * 2, none⟩).run Tryd.prog wx = .ok (.int .i64 p) wx := fun wx h => sint_load h.1
        have L1 : ∀ wx : World, (wx.cell? ⟨gv, k * 2, none⟩ = some (.int .i64 p) ∧ wx.cell? ⟨gv, k * 2 + 1, none⟩ = some (.int .i64 q)) → (loadVar 3 ⟨gv, k * 2 + 1, none⟩).run Tryd.prog wx = .ok (.int .i64 q) wx := fun wx h => sint_load h.2
        have HS := Lib.hid (And.intro e0 e1)
        have HO := Lib.hid hown
        have HD := Lib.hid hD
        clear hown1 hkc e0 e1 hown hD hv hkl hbg hgs hnc hcm hpe hqe
        go_wp2
        refine wp_region_G (fun wx => wx.cell? ⟨gv, k * 2, none⟩ = some (.int .i64 p) ∧ wx.cell? ⟨gv, k * 2 + 1, none⟩ = some (.int .i64 q)) (by kernel_rfl) ?_
        have HSd := Lib.hid (show (World.drew _).cell? ⟨gv, k * 2, none⟩ = some (.int .i64 p) ∧ (World.drew _).cell? ⟨gv, k * 2 + 1, none⟩ = some (.int .i64 q) from HS.out)
        have HOd := Lib.hid (HO.out.drew)
        have HDd := Lib.hid (HD.out.drewP)
        clear HS HO HD
        have HS := HSd
        have HO := HOd
        have HD := HDd
        clear HSd HOd HDd
        generalize World.drew _ = wD at *
        refine wpG_seg [true, true, true, true, true, true, true, true, false, false, true, true, true, true, true, true] [8] 5 (by kernel_rfl) (by intro c a d v w h; cases d <;> exact h) (by kernel_rfl) HS.out ?_
        try simp only [maskRows]
        repeat (first
          | go_big_quiet_skip
          | (go_big_quiet_want
             first
               | (go_big_quiet_op; go_big_quiet_on)
               | (refine q_load 3 _ _ _ rfl rfl L0 ?_; simp only [Act.put, List.setIfInBounds_toArray, List.set_cons_zero, List.set_cons_succ]; go_big_quiet_on)
               | (refine q_load 3 _ _ _ rfl rfl L1 ?_; simp only [Act.put, List.setIfInBounds_toArray, List.set_cons_zero, List.set_cons_succ]; go_big_quiet_on)
               | (go_big_quiet_op; refine ⟨_, fun _ _ => rfl, ?_⟩; go_big_quiet_on)
               | (go_big_quiet_op; refine ⟨_, fun _ _ _ => rfl, ?_⟩; go_big_quiet_on)))
        refine wpQuiet_nil ?_
        refine List.forall_mem_singleton.2 ?_
        refine segt_run rfl (by rfl) (fun K hK => ?_)
        go_simp
        refine (below_any n₀ g len cap a zs c2 9 _ HD.out.st (by omega)).mono ?_
        rintro e w2 ⟨rfl, hd2⟩
        dsimp only
        have hgw : g < wD.heap.size := HD.out.st.lt
        replace HS := Lib.hid (show w2.cell? ⟨gv, k * 2, none⟩ = some (.int .i64 p) ∧ w2.cell? ⟨gv, k * 2 + 1, none⟩ = some (.int .i64 q) from ⟨hd2.grown.cell HS.out.1 (by simpa using HGV.out), hd2.grown.cell HS.out.2 (by simpa using HGV.out)⟩)
        replace HO := Lib.hid (HO.out.kept hd2.grown (.inr fun e => HGV.out (Option.some.inj (HVO.out.symm.trans e))))
        replace HD := Lib.hid (HD.out.trans hd2)
        generalize (belowF zs len c2 9).2 = c3 at *
        generalize (belowF zs len c2 9).1 = y at *
        clear hd2
        refine hK _ _ ⟨_, fun _ h => h, HS.out, ?_⟩
        clear hK K
        try simp only [Act.put, List.getElem_toArray, List.getElem_cons_succ, List.getElem_cons_zero, List.setIfInBounds_toArray, List.set_cons_zero, List.set_cons_succ]
        refine wpG_seg [false, false, false, false, false, false, false, false, false, true] [16] 3 (by kernel_rfl) (by intro c a d v w h; cases d <;> exact h) (by kernel_rfl) HS.out ?_
        try simp only [maskRows]
        repeat (first
          | go_big_quiet_skip
          | (go_big_quiet_want
             first
               | (go_big_quiet_op; go_big_quiet_on)
               | (refine q_load 3 _ _ _ rfl rfl L0 ?_; simp only [Act.put, List.setIfInBounds_toArray, List.set_cons_zero, List.set_cons_succ]; go_big_quiet_on)
               | (refine q_load 3 _ _ _ rfl rfl L1 ?_; simp only [Act.put, List.setIfInBounds_toArray, List.set_cons_zero, List.set_cons_succ]; go_big_quiet_on)
               | (go_big_quiet_op; refine ⟨_, fun _ _ => rfl, ?_⟩; go_big_quiet_on)
               | (go_big_quiet_op; refine ⟨_, fun _ _ _ => rfl, ?_⟩; go_big_quiet_on)))
        refine wpQuiet_nil ?_
        refine List.forall_mem_singleton.2 ?_
        refine segt_run rfl (by rfl) (fun K hK => ?_)
        go_simp
        refine hK _ _ ⟨_, fun _ h => h, HS.out, ?_⟩
        clear hK K
        try simp only [Act.put, List.getElem_toArray, List.getElem_cons_succ, List.getElem_cons_zero, List.setIfInBounds_toArray, List.set_cons_zero, List.set_cons_succ]
        refine wpG_seg [] [17] 2 (by kernel_rfl) (by intro c a d v w h; cases d <;> exact h) (by kernel_rfl) HS.out ?_
        try simp only [maskRows]
        refine wpQuiet_nil ?_
        refine List.forall_mem_singleton.2 ?_
        refine segt_run rfl (by rfl) (fun K hK => ?_)
        go_simp
        have HXY := Lib.hid (show kIn (wrap64 (wrap64 (p + 1) + y), wrap64 (q + 1)) from ⟨wrap_in _, wrap_in _⟩)
        generalize wrap64 (wrap64 (p + 1) + y) = X at *
        generalize wrap64 (q + 1) = Y at *
        have HN := Lib.hid (cell_two_new w2 (.int .i64 X) (.int .i64 Y) 31)
        replace HS := Lib.hid (show (w2.alloc (.cells #[.int .i64 X, .int .i64 Y] 31)).cell? ⟨gv, k * 2, none⟩ = some (.int .i64 p) ∧ (w2.alloc (.cells #[.int .i64 X, .int .i64 Y] 31)).cell? ⟨gv, k * 2 + 1, none⟩ = some (.int .i64 q) from ⟨(World.grownBy_alloc w2 (.cells #[.int .i64 X, .int .i64 Y] 31) none).cell HS.out.1 (by simp), (World.grownBy_alloc w2 (.cells #[.int .i64 X, .int .i64 Y] 31) none).cell HS.out.2 (by simp)⟩)
        replace HO := Lib.hid (HO.out.alloc (.cells #[.int .i64 X, .int .i64 Y] 31))
        replace HD := Lib.hid (HD.out.alloc (.cells #[.int .i64 X, .int .i64 Y] 31))
        generalize World.alloc w2 (.cells #[.int .i64 X, .int .i64 Y] 31) = w4 at *
        generalize w2.heap.size = gL at *
        refine hK _ _ ⟨_, fun _ h => h, HS.out, ?_⟩
        clear hK K
        try simp only [Act.put, List.getElem_toArray, List.getElem_cons_succ, List.getElem_cons_zero, List.setIfInBounds_toArray, List.set_cons_zero, List.set_cons_succ]
        refine wpG_seg [] [18] 1 (by kernel_rfl) (by intro c a d v w h; cases d <;> exact h) (by kernel_rfl) HS.out ?_
        try simp only [maskRows]
        refine wpQuiet_nil ?_
        refine List.forall_mem_singleton.2 ?_
        refine segt_run rfl (by rfl) (fun K hK => ?_)
        have hbase : w.heap.size ≤ w4.heap.size := HD.out.grown.size
        refine wp_append_st (.tmp 24) (.tmp 41) rfl w.heap.size gv (k + 1) cv (keyCells ks) HVE.out (HVE.out ▸ HO.out) (by omega) ⟨gL, 0, none⟩ X Y rfl HN.out hbase ?_
        intro v6 w6 hown6 hgrow6 hsame6
        have hs0 := hsame6 (k * 2) (by omega)
        have hs1 := hsame6 (k * 2 + 1) (by omega)
        rw [HKC.out.1] at hs0
        rw [HKC.out.2] at hs1
        replace HS := Lib.hid (And.intro hs0 hs1)
        replace HD := Lib.hid (HD.out.grow hgl hgrow6 (fun b e => by cases e; exact HB.out.1))
        replace HO := Lib.hid (show w6.ownsRow w.heap.size 31 2 v6 (k + 1 + 1) (keyCells (ks ++ [(X, Y)])) by rw [keyCells_snoc]; exact hown6)
        clear hown6 hgrow6 hsame6 hs0 hs1 hbase HN
        refine hK _ _ ⟨_, fun _ h => h, HS.out, ?_⟩
        clear hK K
        try simp only [Act.put, List.getElem_toArray, List.getElem_cons_succ, List.getElem_cons_zero, List.setIfInBounds_toArray, List.set_cons_zero, List.set_cons_succ]
        refine wpG_end [false, false, false, false, false, false, false, false, false, false, false, false, false, false, false, false, false, false, false, true] (by kernel_rfl) (by intro c a d v w h; cases d <;> exact h) (by kernel_rfl) HS.out ?_
        try simp only [maskRows]
        repeat (first
          | go_big_quiet_skip
          | (go_big_quiet_want
             first
               | (go_big_quiet_op; go_big_quiet_on)
               | (refine q_load 3 _ _ _ rfl rfl L0 ?_; simp only [Act.put, List.setIfInBounds_toArray, List.set_cons_zero, List.set_cons_succ]; go_big_quiet_on)
               | (refine q_load 3 _ _ _ rfl rfl L1 ?_; simp only [Act.put, List.setIfInBounds_toArray, List.set_cons_zero, List.set_cons_succ]; go_big_quiet_on)
               | (go_big_quiet_op; refine ⟨_, fun _ _ => rfl, ?_⟩; go_big_quiet_on)
               | (go_big_quiet_op; refine ⟨_, fun _ _ _ => rfl, ?_⟩; go_big_quiet_on)))
        refine wpQuiet_nil ?_
        go_wp2
        exact ⟨⟨k + 1, ks ++ [(X, Y)], c3, by omega, by go_num, ⟨by have := HKL.out; simp; omega, by
          intro x hx
          rcases List.mem_append.1 hx with h | h
          · exact HIN.out x h
          · rcases List.mem_singleton.1 h with rfl
            exact HXY.out⟩, HO.out, HD.out⟩, by simp [intOf]; omega⟩
      · obtain rfl : k = m := by omega
        have z1 : ¬ (k : Int) < (k : Int) := by omega
        have HO := Lib.hid hown
        have HD := Lib.hid hD
        have HKL := Lib.hid hkl
        clear hown hD hkl
        go_wp2
        go_ret
        have HKB := Lib.hid (show (1 ≤ ks.length ∧ ks.length ≤ 6) ∧ ∀ k ∈ ks, kIn k from ⟨by have := HKL.out; omega, HIN.out⟩)
        rw [← HKL.out] at HO
        first | exact ⟨_, ks, c2, rfl, HKB.out, HO.out, HD.out⟩ | exact ⟨_, rfl, ks, HKB.out, HO.out, c2, HD.out⟩ | exact ⟨_, rfl, ks, c2, HKB.out, HO.out, HD.out⟩
set_option maxRecDepth 100000 in
set_option maxHeartbeats 2000000 in
theorem odd10_any (n₀ g len cap : Nat) (a : Option Addr) (zs : List Int) (c : Cu) (w : World) (hs : DrawSt n₀ w g a len cap zs c.i c.h) :
    Calls Tryd.prog 16 #[.pointer (some ⟨g, 0, none⟩)] w fun e w' => ∃ (v : Value) (ks : List K2) (c' : Cu), e = .returned v ∧ (ks.length ≤ 8 ∧ allIn ks) ∧ w'.ownsRow w.heap.size 31 2 v ks.length (keyCells ks) ∧ Drew n₀ g a len cap zs c' w w' := by
  obtain ⟨i0, hi, hz0, hz1, hz2⟩ := info_parts infoSt
  have hgl := hs.lt
  have hd0 : Drew n₀ g a len cap zs c w w := ⟨hs, Below.refl _ _, World.grownBy.refl _ _⟩
  go_enter Tryd.func16, Tryd.ntmps16
  go_wp2_with fail
  refine (make10_any n₀ g len cap a zs c w hs).mono ?_
  rintro e w1 ⟨v, ks, c1, rfl, ⟨⟨hk1, hk6⟩, hin⟩, hown, hD⟩
  have HIN := Lib.hid hin
  clear hin
  clear hd0 hs
  go_wp2_with fail
  refine (below_any n₀ g len cap a zs c1 8 _ hD.st (by omega)).mono ?_
  rintro e w2 ⟨rfl, hd2⟩
  have hD2 := hD.trans hd2
  have hvg : v.ownBlock ≠ some g := fun e => by have := (World.ownsRow.lt hown _ e).1; omega
  have hown2 := hown.kept hd2.grown (.inr hvg)
  generalize (belowF zs len c1 8).2 = c2 at *
  generalize (belowF zs len c1 8).1 = x at *
  clear hD hd2 hown
  by_cases hx0 : x = 0
  · subst hx0
    go_wp2_with fail
    refine (pick_lit2 n₀ g len cap a zs c2 [0, 5, 1000000, 1000001] 4 w w2 _ hD2 (by omega) (by omega) rfl rfl).mono ?_
    rintro e w3 ⟨z, c3, rfl, hz3, hD3, hg3⟩
    have hown3 := hown2.kept hg3 (.inr hvg)
    clear hown2 hg3 hD2
    go_wp2_with fail
    refine (pick_lit2 n₀ g len cap a zs c3 [0, 2, 6, 7] 4 w w3 _ hD3 (by omega) (by omega) rfl rfl).mono ?_
    rintro e w4 ⟨z2, c4, rfl, hz4, hD4, hg4⟩
    have HZ := Lib.hid (show kIn (z, z2) by
      simp only [List.mem_cons, List.not_mem_nil, or_false] at hz3 hz4
      unfold kIn
      dsimp only
      omega)
    clear hz3 hz4
    have hown4 := hown3.kept hg4 (.inr hvg)
    have hbk := fun w => build_st z z2 w
    have hns := hD4.grown.size
    clear hown3 hg4 hD3
    go_wp2_with (at_builtin; refine wpList_append_own _ rfl (.tmp 10) (.tmp 18) 24 rfl w.heap.size 31 i0 (.agg #[.int .i64 0, .int .i64 0]) 2 16 Tryd.underlying24 hi hz0 hz1 hz2 rfl (by decide) _ _ _ rfl (hown4.alloc _) ⟨w4.heap.size, 0, none⟩ 1 1 [.int .i64 z, .int .i64 z2] rfl rfl (cell_two_new _ _ _ _) (by intro u hu; simp at hu; rcases hu with rfl | rfl <;> rfl) (by unfold maxLen; omega) (by omega) (by simp; omega) ?_; intro v5 w5 hown5 hgrow5 _)
    have HF := Lib.hid ((hD4.alloc _).grow hgl hgrow5 (fun b e => (World.ownsRow.lt hown4 b e).1))
    have HO := Lib.hid (show w5.ownsRow w.heap.size 31 2 v5 (ks ++ [(z, z2)]).length (keyCells (ks ++ [(z, z2)])) by rw [keyCells_snoc]; simpa using hown5)
    clear hown4 hown5 hgrow5 hD4 hbk
    go_wp2
    go_ret
    exact ⟨_, ks ++ [(z, z2)], c4, rfl, ⟨by simp; omega, by
      intro x hx
      rcases List.mem_append.1 hx with h | h
      · exact HIN.out x h
      · rcases List.mem_singleton.1 h with rfl
        exact HZ.out⟩, HO.out, HF.out⟩
  · by_cases hx1 : x = 1
    · subst hx1
      go_wp2_with fail
      refine (below_any n₀ g len cap a zs c2 3 _ hD2.st (by omega)).mono ?_
      rintro e w3 ⟨rfl, hd3⟩
      have hD3 := hD2.trans hd3
      have hown3 := hown2.kept hd3.grown (.inr hvg)
      generalize (belowF zs len c2 3).2 = c3 at *
      have hyb := belowF_bd zs len c2 3
      generalize (belowF zs len c2 3).1 = y at *
      have hy3 := hyb.2 (by omega)
      have hy0 := hyb.1
      clear hyb
      obtain ⟨gv, cv, rfl, hnc, hcm, hbg, hgs⟩ := (ownsRowK_shape hown3).resolve_left (by rintro ⟨_, h⟩; omega)
      obtain ⟨⟨p, q⟩, r, rfl⟩ : ∃ k r, ks = k :: r := by
        cases ks with
        | nil => simp at hk1
        | cons k r => exact ⟨k, r, rfl⟩
      obtain ⟨s1, s2⟩ := own_cell hown3 0 (by omega)
      have st := hown3.stored 0 (.int .i64 y)
      have HF := Lib.hid (hD3.grow hgl st.2 (fun b e => by cases e; exact hbg))
      have HO := Lib.hid (show (w3.setCell ⟨gv, 0, none⟩ (.int .i64 y)).ownsRow w.heap.size 31 2 (.slice (some ⟨gv, 0, none⟩) ((y, q) :: r).length cv) ((y, q) :: r).length (keyCells ((y, q) :: r)) from st.1)
      have z1 : (0 : Int) < (((p, q) :: r).length : Int) := by omega
      clear hd3 hD2 hown2 hD3 hown3 st hx0
      go_wp2
      go_ret
      exact ⟨_, (y, q) :: r, c3, rfl, ⟨by simp at hk6 ⊢; omega, by
        intro x hx
        rcases List.mem_cons.1 hx with rfl | h
        · exact ⟨by dsimp only; omega, (HIN.out (p, q) (by simp)).2⟩
        · exact HIN.out x (by simp [h])⟩, HO.out, HF.out⟩
    · by_cases hx2 : x = 2
      · subst hx2
        go_wp2
        go_ret
        exact ⟨_, [], c2, rfl, ⟨by simp, by simp [allIn]⟩, ⟨by simp [keyCells], .inl ⟨rfl, rfl⟩⟩, hD2⟩
      · have e0 : (x == 0) = false := by simpa using hx0
        have e1 : (x == 1) = false := by simpa using hx1
        have e2 : (x == 2) = false := by simpa using hx2
        go_wp2
        go_ret
        exact ⟨_, ks, c2, rfl, ⟨by omega, HIN.out⟩, hown2, hD2⟩
set_option maxRecDepth 100000 in
set_option maxHeartbeats 2000000 in
theorem drawplantext_any (len cap : Nat) (a : Option Addr) (zs : List Int) (w : World) (hc : CodeAt w.heap.size w a len zs) :
    Calls Tryd.prog 6 #[.slice a len cap] w fun e w' => ∃ (v : Value) (ks : List K2), e = .returned v ∧ (ks.length ≤ 8 ∧ allIn ks) ∧ keysAt w' v ks ∧ Below w.heap.size w w' := by
  have H0 := Lib.hid (new_any w.heap.size len cap a zs w hc (Nat.le_refl _))
  go_enter Tryd.func6, Tryd.ntmps6
  go_wp2_with fail
  refine H0.out.mono ?_
  rintro e w1 ⟨g, rfl, hg, hs, hb1, hg1⟩
  go_wp2_with fail
  refine (odd10_any w.heap.size g len cap a zs _ w1 hs).mono ?_
  rintro e w2 ⟨v, ks, c2, rfl, hl, hown, hD⟩
  have HK := Lib.hid (stepsAt_own hown)
  have HB := Lib.hid (hb1.trans hD.below)
  have HLL := Lib.hid hl
  clear hown hD hb1 hs hl
  go_wp2
  go_ret
  exact ⟨v, ks, rfl, HLL.out, HK.out, HB.out⟩
end Go.Proofs.YteijgoadcpphlaaDoor
namespace Go.Proofs.YteijgoadcpphlaaDoor
open Go.RowKit Go.Shelf
attribute [local go_sem] Oper.semAt_some
set_option linter.unusedVariables false

def wordsB (s : ByteArray) : List ByteArray := (wordsL s.data.toList).map toB

theorem infoStr : (Tryd.prog.info? 9).map (fun i => (i.zero, i.size, i.bytes)) = some (some (.string ByteArray.empty), 1, 16) := by kernel_rfl
theorem wordsB_count (s : ByteArray) : (wordsB s).length ≤ s.size := by
  have := wordsL_count s.data.toList
  simpa [wordsB] using this
end Go.Proofs.YteijgoadcpphlaaDoor
namespace Go.Proofs.YteijgoadcpphlaaDoor
open Go.RowKit Go.Shelf
set_option linter.unusedVariables false

theorem blank_any (c : UInt8) (w : World) : Calls Tryd.prog 21 #[.int .u8 c.toNat] w fun e w' => e = .returned (.bool (isGap c)) ∧ w' = w := by
  cases hg : isGap c with
  | false =>
    have h1 : ((c.toNat : Int) == 32) = false := by
      rw [beq_eq_false_iff_ne]; intro e
      have : c = 32 := UInt8.toNat_inj.1 ((by omega : c.toNat = 32).trans rfl)
      simp [isGap, this] at hg
    have h2 : ((c.toNat : Int) == 9) = false := by
      rw [beq_eq_false_iff_ne]; intro e
      have : c = 9 := UInt8.toNat_inj.1 ((by omega : c.toNat = 9).trans rfl)
      simp [isGap, this] at hg
    clear hg
    go_enter Tryd.func21, Tryd.ntmps21
    go_wp2
    go_ret
    exact ⟨rfl, rfl⟩
  | true =>
    have h32 : c = 32 ∨ c = 9 := by simpa [isGap] using hg
    clear hg
    rcases h32 with h | h
    · have h1 : ((c.toNat : Int) == 32) = true := by rw [h]; rfl
      clear h
      go_enter Tryd.func21, Tryd.ntmps21
      go_wp2
      go_ret
      exact ⟨rfl, rfl⟩
    · have h1 : ((c.toNat : Int) == 32) = false := by rw [h]; rfl
      have h2 : ((c.toNat : Int) == 9) = true := by rw [h]; rfl
      clear h
      go_enter Tryd.func21, Tryd.ntmps21
      go_wp2
      go_ret
      exact ⟨rfl, rfl⟩

theorem wsize_drop {s : ByteArray} {k e : Nat} (hke : k ≤ e) (he : e ≤ s.size) (hall : ∀ j, k ≤ j → j < e → (hj : j < s.size) → isGap s[j] = false) (hstop : (h : e < s.size) → isGap s[e] = true) :
    wsize (s.data.toList.drop k) = e - k := by
  refine wsize_at _ _ (by simp; omega) (fun j h => ?_) (fun h => ?_)
  · have hj : k + j < s.size := by omega
    have h1 := hall (k + j) (by omega) (by omega) hj
    rw [List.getElem_drop]; exact h1
  · have hj : e < s.size := by simp at h; omega
    have := hstop hj
    simp only [List.getElem_drop]
    have e1 : k + (e - k) = e := by omega
    simp only [e1]
    exact this

set_option maxHeartbeats 1000000 in
theorem swords_any (s : ByteArray) (w : World) (hs : s.size ≤ 2000000) :
    Calls Tryd.prog 9 #[.string s] w fun e w' => ∃ v, e = .returned v ∧ w'.ownsRow w.heap.size 9 1 v (wordsB s).length ((wordsB s).map Value.string) ∧ Below w.heap.size w w' := by
  obtain ⟨i0, hi, hz0, hz1, hz2⟩ := info_parts infoStr
  have hcount := wordsB_count s
  go_enter Tryd.func9, Tryd.ntmps9
  go_wp2
  have hown0 := World.ownsRow_made (base := w.heap.size) (e := 9) (size := 1) w #[] 0 (Nat.le_refl _) (by unfold maxLen; omega) rfl
  have hb0 := (Below.refl w.heap.size w).alloc (Nat.le_refl _) (.cells #[] 9)
  go_loopw [3, 4, 5] (fun v i _ wr => ∃ (k : Nat) (pre : List ByteArray), k ≤ s.size ∧ i = .int .i64 k ∧ wr.ownsRow w.heap.size 9 1 v pre.length (pre.map Value.string) ∧ Below w.heap.size w wr ∧ WordsInv s pre k)
    (fun _ i _ _ => s.size - (intOf i).toNat)
  case atStart => exact ⟨0, [], Nat.zero_le _, rfl, hown0, hb0, WordsInv.zero s⟩
  case round =>
    obtain ⟨k, pre, hk, rfl, hown, hnx, hinv⟩ := hrel
    clear hown0 hb0
    by_cases hlt : k < s.size
    · cases hg : isGap s[k] with
      | true =>
        have hi2 := hinv.gap hlt hg
        go_wp2_with (go_at_call 21; refine (blank_any _ _).mono ?_; rintro e w' ⟨rfl, rfl⟩)
        go_roundw
        case rel => exact ⟨k + 1, pre, by omega, by go_num, hown, hnx, hi2⟩
        case measure => simp [intOf]; omega
      | false =>
        go_wp2_with (go_at_call 21; refine (blank_any _ _).mono ?_; rintro e w' ⟨rfl, rfl⟩)
        have HPL := Lib.hid (hinv.lt (show wsize (s.data.toList.drop k) ≠ 0 by rw [drop_one s k hlt]; intro h; have := wsize_zero _ _ h; rw [hg] at this; cases this))
        rename_i wr
        go_loop [5] (fun x => ∃ e : Nat, k ≤ e ∧ e ≤ s.size ∧ x = .int .i64 e ∧ Hid (∀ j, k ≤ j → j < e → (hj : j < s.size) → isGap s[j] = false) ∧ (e = k → Hid (isGap s[k] = false))) (fun x => s.size - (intOf x).toNat)
        case atStart => exact ⟨k, Nat.le_refl _, hk, rfl, fun j h1 h2 => by omega, fun _ => hg⟩
        case round =>
          obtain ⟨e, hke, he, rfl, hall, -⟩ := hrel
          by_cases hle : e < s.size
          · cases hge : isGap s[e] with
            | false =>
              have HGE := Lib.hid hge
              go_wp2_with (go_at_call 21; refine (blank_any _ _).mono ?_; rintro e1 w1 ⟨rfl, rfl⟩)
              go_round
              case rel => exact ⟨e + 1, by omega, by omega, by go_num, fun j h1 h2 hj => by
                by_cases hje : j < e
                · exact hall.out j h1 hje hj
                · obtain rfl : j = e := by omega
                  exact HGE.out, fun h => by omega⟩
              case measure => simp [intOf]; omega
            | true =>
              have hek : k ≠ e := fun h => by subst h; rw [hg] at hge; cases hge
              have hz := wsize_drop hke he hall.out (fun _ => hge)
              have HW := Lib.hid (hinv.word (by rw [hz]; omega))
              rw [hz, show k + (e - k) = e by omega] at HW
              clear hz
              have hp : pre.length < (wordsB s).length := by have := HPL.out; exact this
              have hns := hnx.size
              go_wp2_with (first | (go_at_call 21; refine (blank_any _ _).mono ?_; rintro e1 w1 ⟨rfl, rfl⟩) | (at_builtin; refine wpList_append_own _ rfl (.tmp 31) (.tmp 36) 27 rfl w.heap.size 9 i0 (.string ByteArray.empty) 1 16 Tryd.underlying27 hi hz0 hz1 hz2 rfl (by decide) _ _ _ rfl (hown.alloc _) ⟨_, 0, none⟩ 1 1 [.string (s.extract k e)] rfl rfl (cell_one_new _ _ _) (by simp [Value.oneCell']) (by unfold maxLen; omega) (by omega) (by simp; omega) ?_; intro v' w2 hown' hgrow _))
              have R : w2.ownsRow w.heap.size 9 1 v' (pre ++ [s.extract k e]).length ((pre ++ [s.extract k e]).map Value.string) ∧ Below w.heap.size w w2 :=
                ⟨by simpa using hown', (hnx.alloc hnx.size _).grown hgrow (by simp; omega) (fun g hg => (hown.lt g hg).1)⟩
              clear hown' hgrow hown
              go_wp2
              go_roundw
              case rel => exact ⟨e, pre ++ [s.extract k e], by omega, rfl, R.1, R.2, HW.out⟩
              case measure => simp [intOf]; omega
          · obtain rfl : e = s.size := by omega
            have hek : k ≠ s.size := by omega
            have hz := wsize_drop hke he hall.out (fun h => by omega)
            have HW := Lib.hid (hinv.word (by rw [hz]; omega))
            rw [hz, show k + (s.size - k) = s.size by omega] at HW
            clear hz
            have hp : pre.length < (wordsB s).length := by have := HPL.out; exact this
            have hns := hnx.size
            go_wp2_with (first | (go_at_call 21; refine (blank_any _ _).mono ?_; rintro e1 w1 ⟨rfl, rfl⟩) | (at_builtin; refine wpList_append_own _ rfl (.tmp 31) (.tmp 36) 27 rfl w.heap.size 9 i0 (.string ByteArray.empty) 1 16 Tryd.underlying27 hi hz0 hz1 hz2 rfl (by decide) _ _ _ rfl (hown.alloc _) ⟨_, 0, none⟩ 1 1 [.string (s.extract k s.size)] rfl rfl (cell_one_new _ _ _) (by simp [Value.oneCell']) (by unfold maxLen; omega) (by omega) (by simp; omega) ?_; intro v' w2 hown' hgrow _))
            have R : w2.ownsRow w.heap.size 9 1 v' (pre ++ [s.extract k s.size]).length ((pre ++ [s.extract k s.size]).map Value.string) ∧ Below w.heap.size w w2 :=
              ⟨by simpa using hown', (hnx.alloc hnx.size _).grown hgrow (by simp; omega) (fun g hg => (hown.lt g hg).1)⟩
            clear hown' hgrow hown
            go_wp2
            go_roundw
            case rel => exact ⟨s.size, pre ++ [s.extract k s.size], by omega, rfl, R.1, R.2, HW.out⟩
            case measure => simp [intOf]; omega
    · have hst := hinv.stop (by omega)
      obtain rfl : pre = wordsB s := hst.symm
      go_wp2
      go_ret
      exact ⟨_, rfl, hown, hnx⟩
end Go.Proofs.YteijgoadcpphlaaDoor
namespace Go.Proofs.YteijgoadcpphlaaDoor
open Go.ChangeShapes Go.WideShapes Go.ChangeAt Go.RowKit Go.BigFrame
set_option linter.unusedVariables false

theorem wordsB_no : wordsB (tB []) = [] := rfl
theorem wordsB_plan (ks : List K2) : wordsB (tB (plTextL ks)) = ks.map (fun k => tB (ptL k)) := by
  unfold wordsB
  rw [show (tB (plTextL ks)).data.toList = plTextL ks by simp [tB], words_plan, List.map_map]
  rfl
theorem str_load {w : World} {p : Addr} {x : ByteArray} (h : w.cell? p = some (.string x)) : (loadVar 9 p).run Tryd.prog w = .ok (.string x) w := load_oneQ (fun w => by simp [isAgg, underlying, Tryd.underlying9]) h
theorem ptext_len {ks : List K2} (h : ∀ k ∈ ks, kIn k) (hl : ks.length ≤ 8) : (tB (ptextL ks)).size ≤ 352 := by
  rw [tB_size]
  unfold ptextL
  split
  · have := plText_len _ ks rfl h; omega
  · simp
set_option maxRecDepth 100000 in
set_option maxHeartbeats 4000000 in
theorem fnplantext_walk (a0 : Option Addr) (len0 cap0 : Nat) (z0 : List Int) (w : World) (w0 : IsRow .u8 w a0 len0 cap0 z0) (hT : Lib.TabIs Tryd.prog w "internal/strconv.uint64pow10" IntKind.u64 Lib.pow10Tab) :
    Calls Tryd.prog 3 #[.slice a0 len0 cap0] w fun e w' => e = .returned (.bool true) ∧ Below w.heap.size w w' := by
  by_cases hbig : len0 ≤ 1048576
  · have hc := codeAt_of w0 hbig
    have B1 := Lib.hid (fun w => big_any a0 len0 cap0 w hbig)
    have D1 := Lib.hid (fun (w' : World) (e : w' = w) => by subst e; exact drawplantext_any len0 cap0 a0 z0 w' hc)
    have HT := Lib.hid hT
    clear w0 hc hT
    go_enter Tryd.func3, Tryd.ntmps3
    go_wp2_with fail
    refine (B1.out _).mono ?_
    rintro e w1 ⟨rfl, rfl⟩
    clear B1
    go_wp2_with fail
    refine (D1.out _ rfl).mono ?_
    rintro e w2 ⟨v, ks, rfl, ⟨hl8, hin⟩, hks, hb2⟩
    clear D1
    have HIN := Lib.hid hin
    have hxl := ptext_len hin hl8
    have hT2 := tab_below HT.out hb2
    have IT := Lib.hid (iplantext_any v ks w2 hks (by omega) hin hT2)
    have ST := Lib.hid (fun w' (h : Below w2.heap.size w2 w') => splantext_any v ks w' (keysAt_below hks h) (by omega) hin)
    have SP := Lib.hid (fun w' (h : Below w2.heap.size w2 w') => splanok_any v ks w' (keysAt_below hks h) (by omega))
    have HN := Lib.hid (fun h => @ptext_no ks h)
    have HO := Lib.hid (fun h => @ptext_ok ks h)
    have HKS := Lib.hid hks
    have HW := Lib.hid hb2
    have hr := Below.refl w2.heap.size w2
    clear hin hT2 hks hb2 HT
    generalize hX : tB (ptextL ks) = X at *
    go_wp2_with fail
    refine IT.out.mono ?_
    rintro e w3 ⟨rfl, hb3⟩
    have HB3 := hr.trans (hb3.mono hr.size)
    clear hb3 hr IT
    go_wp2_with fail
    refine (ST.out _ HB3).mono ?_
    rintro e w4 ⟨rfl, hb4⟩
    have HB4 := HB3.trans (hb4.mono HB3.size)
    clear hb4 HB3 ST
    go_wp2_with fail
    refine (swords_any X _ (by omega)).mono ?_
    rintro e W ⟨vw, rfl, hrow, hb5⟩
    have HB5 := HB4.trans (hb5.mono HB4.size)
    clear hb5 HB4
    cases hp : plnB ks with
    | false =>
      rw [hp] at SP
      have hX2 : X = ByteArray.empty := by rw [← hX, HN.out hp]; rfl
      subst hX2
      rw [show wordsB ByteArray.empty = [] from rfl] at hrow
      obtain ⟨aw, cw, rfl⟩ : ∃ aw cw, vw = .slice aw 0 cw := by
        rcases ownsRowK_shape hrow with ⟨h, -⟩ | ⟨g, c, h, -⟩
        · exact ⟨_, _, h⟩
        · exact ⟨_, _, h⟩
      clear hrow HN HO hX hp
      go_wp2
      go_loopw [6] (fun i wr => i = .int .i64 0 ∧ wr = W) (fun _ _ => 0)
      case atStart => exact ⟨rfl, rfl⟩
      case round =>
        obtain ⟨rfl, rfl⟩ := hrel
        go_wp2_with fail
        refine (SP.out _ HB5).mono ?_
        rintro e w6 ⟨rfl, hb6⟩
        have HB6 := HB5.trans (hb6.mono HB5.size)
        clear hb6
        go_wp2_with fail
        refine (SP.out _ HB6).mono ?_
        rintro e w7 ⟨rfl, hb7⟩
        have HF := Lib.hid (HW.out.trans ((HB6.trans (hb7.mono HB6.size)).mono HW.out.size))
        clear hb7 HB6 HB5
        go_wp2
        go_ret
        exact ⟨rfl, HF.out⟩
    | true =>
      rw [hp] at SP
      have HWD := Lib.hid (show wordsB X = ks.map (fun k => tB (ptL k)) by rw [← hX, HO.out hp]; exact wordsB_plan ks)
      have hl1 := (pln_len hp).1
      rw [HWD.out, List.length_map] at hrow
      obtain ⟨gw, cw, rfl, hnc, hcm, hbg, hgs⟩ := (ownsRowK_shape hrow).resolve_left (by rintro ⟨_, h⟩; omega)
      have HCW := Lib.hid (fun k (hk : k < ks.length) => show W.cell? ⟨gw, k, none⟩ = some (.string (tB (ptL (ks.getD k (0, 0))))) by
        rw [hrow.cellAt k (by omega)]
        simp [List.getD, hk])
      obtain ⟨av, cv, rfl, hcv, hcells⟩ := id HKS.out
      have HCS := Lib.hid hcells
      clear hrow HN HO hX hp HWD hcells
      go_wp2
      go_loopw [6] (fun i wr => ∃ k : Nat, k ≤ ks.length ∧ i = .int .i64 k ∧ Below W.heap.size W wr) (fun i _ => ks.length - (intOf i).toNat)
      case atStart => exact ⟨0, Nat.zero_le _, rfl, Below.refl _ _⟩
      case round =>
        obtain ⟨k, hk, rfl, hbr⟩ := hrel
        by_cases hlt : k < ks.length
        · obtain ⟨gg, og, rfl, hgg, hcs⟩ := HCS.out.resolve_left (by omega)
          have cG := hcs k hlt
          have cW := HCW.out k hlt
          have hki : kIn (ks.getD k (0, 0)) := HIN.out _ (by simp [List.getD, hlt])
          generalize ks.getD k (0, 0) = G at *
          obtain ⟨p, q⟩ := G
          rw [show tB (ptL (p, q)) = decB p ++ ⟨#[58]⟩ ++ decB q by unfold ptL decB; rw [← tB_append, ← tB_append]; rfl] at cW
          dsimp only at cG
          have z0 : (0 : Int) ≤ (k : Int) := by omega
          have z1 : (k : Int) < (ks.length : Int) := by omega
          have LW : ∀ w', Below W.heap.size W w' → (loadVar 9 ⟨gw, k, none⟩).run Tryd.prog w' = .ok (.string (decB p ++ ⟨#[58]⟩ ++ decB q)) w' := fun w' h => str_load (by rw [h.cell (p := ⟨gw, k, none⟩) hgs]; exact cW)
          have LG0 : ∀ w', Below W.heap.size W w' → (loadVar 3 ⟨gg, og + k * 2, none⟩).run Tryd.prog w' = .ok (.int .i64 p) w' := fun w' h => sint_load (by rw [h.cell (p := ⟨gg, og + k * 2, none⟩) (Nat.lt_of_lt_of_le hgg HB5.size), HB5.cell (p := ⟨gg, og + k * 2, none⟩) hgg]; exact cG.1)
          have LG1 : ∀ w', Below W.heap.size W w' → (loadVar 3 ⟨gg, og + k * 2 + 1, none⟩).run Tryd.prog w' = .ok (.int .i64 q) w' := fun w' h => sint_load (by rw [h.cell (p := ⟨gg, og + k * 2 + 1, none⟩) (Nat.lt_of_lt_of_le hgg HB5.size), HB5.cell (p := ⟨gg, og + k * 2 + 1, none⟩) hgg]; exact cG.2)
          have D1 := Lib.hid (fun w => sdec_any p w hki.1.1 hki.1.2)
          have D2 := Lib.hid (fun w => sdec_any q w hki.2.1 hki.2.2)
          change Hid (∀ w, Calls _ _ _ w fun e w' => e = .returned (.string (decB p)) ∧ w' = w) at D1
          change Hid (∀ w, Calls _ _ _ w fun e w' => e = .returned (.string (decB q)) ∧ w' = w) at D2
          have b1 := decB_size hki.1
          have b2 := decB_size hki.2
          have HB := Lib.hid hbr
          clear cG cW hcs hbr
          generalize decB p = dp at *
          generalize decB q = dq at *
          have u1 : ¬ 9223372036854775807 < dp.size + 1 := by omega
          have u2 : ¬ 9223372036854775807 < dp.size + 1 + dq.size := by omega
          go_wp2
          refine wp_region_below W (by kernel_rfl) (by kernel_rfl) HB.out ?_
          repeat (first
            | go_big_quiet_skip
            | (go_big_quiet_want
               first
                 | (go_big_quiet_op; go_big_quiet_on)
                 | (refine q_load 9 _ _ _ rfl rfl LW ?_; simp only [Act.put, List.setIfInBounds_toArray, List.set_cons_zero, List.set_cons_succ]; go_big_quiet_on)
                 | (refine q_load 3 _ _ _ rfl rfl LG0 ?_; simp only [Act.put, List.setIfInBounds_toArray, List.set_cons_zero, List.set_cons_succ]; go_big_quiet_on)
                 | (refine q_load 3 _ _ _ rfl rfl LG1 ?_; simp only [Act.put, List.setIfInBounds_toArray, List.set_cons_zero, List.set_cons_succ]; go_big_quiet_on)
                 | (go_big_quiet_op; refine ⟨_, fun _ _ => rfl, ?_⟩; go_big_quiet_on)
                 | (go_big_quiet_op; apply Exists.intro; refine ⟨fun w' hw' => ?_, ?_⟩
                    · first
                      | (with_reducible refine (D1.out w').mono ?_
                         rintro e w2 ⟨rfl, rfl⟩
                         exact ⟨rfl, hw'⟩)
                      | (with_reducible refine (D2.out w').mono ?_
                         rintro e w2 ⟨rfl, rfl⟩
                         exact ⟨rfl, hw'⟩)
                    go_big_quiet_on)))
          refine wpQuiet_nil ?_
          intro wq hbq
          clear LW LG0 LG1 D1 D2
          go_wp2
          exact ⟨⟨k + 1, by omega, by go_num, hbq⟩, by simp [intOf]; omega⟩
        · obtain rfl : k = ks.length := by omega
          have HBR := Lib.hid (HB5.trans (hbr.mono HB5.size))
          have z1 : ¬ (ks.length : Int) < (ks.length : Int) := by omega
          clear hbr
          go_wp2_with fail
          refine (SP.out _ HBR.out).mono ?_
          rintro e w6 ⟨rfl, hb6⟩
          have HF := Lib.hid (HW.out.trans ((HBR.out.trans (hb6.mono HBR.out.size)).mono HW.out.size))
          clear hb6
          go_wp2
          go_ret
          exact ⟨rfl, HF.out⟩
  · have B1 := Lib.hid (fun w => big_true a0 len0 cap0 w hbig)
    clear w0
    go_enter Tryd.func3, Tryd.ntmps3
    go_wp2_with fail
    refine (B1.out _).mono ?_
    rintro e w1 ⟨rfl, rfl⟩
    go_wp2
    go_ret
    exact ⟨rfl, Below.refl _ _⟩
end Go.Proofs.YteijgoadcpphlaaDoor
namespace Go.Proofs.YteijgoadcpphlaaDoor
open Go.ChangeShapes Go.WideShapes Go.ChangeAt Go.RowKit Go.Deep
set_option linter.unusedVariables false

set_option maxRecDepth 10000 in
theorem open_stepsW {H : Type} {enc : TypeId × Value → H} {W : World} {r : Reach} {b0 : Nat} {v : Value} {d : DataW H} {p : List MemPlace} (hv : Value.okWide Tryd.prog W r b0 33 v) (h : DataW.Trod enc Tryd.prog W 0 (fun _ => true) true 33 v d p) : ∃ ks : List K2, keysAt W v ks ∧ ks.length ≤ maxLen ∧ ∀ k ∈ ks, kIn k := by
  obtain ⟨a, len, cap, rfl⟩ := okWide_slice Tryd.underlying33 hv
  obtain ⟨fuel, hf⟩ := h
  rcases open_slice_pairs Tryd.underlying33 Tryd.underlying48 (by kernel_rfl) rfl rfl (by kernel_rfl) (by kernel_rfl) hf with ⟨hcs, -⟩ | ⟨x, l, c, m, n, V0, V1, D0, D1, P0, P1, hcs, -, hl, hm, hmm, -, hx⟩
  · simp [Value.cells] at hcs
    obtain ⟨rfl, rfl, rfl⟩ := hcs
    exact ⟨[], ⟨none, 0, rfl, by simp, .inl rfl⟩, by simp, by simp⟩
  · simp [Value.cells] at hcs
    obtain ⟨rfl, rfl, rfl⟩ := hcs
    have hmc : len ≤ m := by rw [hmm]; simp; omega
    have hev : ∀ i, i < len → ∃ k : K2, (W.cell? (x.add (i * 2)) = some (.int .i64 k.1) ∧ W.cell? (x.add (i * 2 + 1)) = some (.int .i64 k.2)) ∧ kIn k := by
      intro i hi
      obtain ⟨h0, h1, t0, t1⟩ := hx i (by omega)
      obtain ⟨z0, e0, -, f0⟩ := DataW.trod_int Tryd.underlying3 t0
      obtain ⟨z1, e1, -, f1⟩ := DataW.trod_int Tryd.underlying3 t1
      have e0 : V0 i = .int .i64 z0 := (List.cons.inj e0).1
      have e1 : V1 i = .int .i64 z1 := (List.cons.inj e1).1
      exact ⟨(z0, z1), ⟨by rw [h0, e0], by rw [h1, e1]⟩, bounds_i64 f0, bounds_i64 f1⟩
    obtain ⟨f, hf2⟩ := choose_lt hev
    refine ⟨(List.range len).map f, ⟨some x, cap, by simp, by simpa using hl, ?_⟩, by simp; omega, fun k hk => by
      obtain ⟨i, hi, rfl⟩ := List.mem_map.1 hk
      exact (hf2 i (List.mem_range.1 hi)).2⟩
    simp only [List.length_map, List.length_range]
    rcases Nat.eq_zero_or_pos len with h0 | h0
    · exact .inl h0
    · obtain ⟨b, off, spot⟩ := x
      have hc := (hf2 0 h0).1.1
      have hs : spot = none := by simpa [Addr.add] using World.cell?_spot hc
      subst hs
      have hadd : ∀ j, (⟨b, off, none⟩ : Addr).add j = ⟨b, off + j, none⟩ := by
        intro j
        unfold Addr.add
        split
        · rename_i h; simp [h]
        · rfl
      refine .inr ⟨b, off, rfl, World.block_lt_of_cell? W ⟨b, off, none⟩ (by simpa [Addr.add] using hc), fun i hi => ?_⟩
      have e : ((List.range len).map f).getD i (0, 0) = f i := by simp [List.getD, hi]
      have := (hf2 i hi).1
      rw [hadd, hadd] at this
      rw [e]
      exact this
end Go.Proofs.YteijgoadcpphlaaDoor
