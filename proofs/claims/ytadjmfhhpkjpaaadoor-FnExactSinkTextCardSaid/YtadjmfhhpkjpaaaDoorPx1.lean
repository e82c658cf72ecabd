/- What the laws lean on (own lemmas and walks of the called functions). -/
import Derived.StillTail
import Derived.OrdersIn
import Derived.RangeFuncCalls
import Derived.Deep.RegionHeld3
import Derived.KernelRfl
import Derived.Test.YtadjmfhhpkjpaaaDoorRows
import Derived.WalkKit
import Derived.ProofKit
import Derived.OpenShut
import Derived.ShutString
import Derived.Below
import Derived.Outline
import Derived.WalkSpells
import Derived.WalkLawsBesides
import Derived.Deep.AppendLies
import Derived.StillTactics
import Derived.Laws.BytesArg
import Derived.Laws.OwnMore
import Derived.Maps.AppendAt
import Derived.Lib.Hide
import Derived.BigQuiet
import Derived.Deep.MidRow
import Derived.Laws.StructEq
import Derived.Deep.WholeRow
import Derived.Deep.QuietTactic
import Derived.RangeFuncBox
import Derived.Lib.SmallJoins
import Derived.Lib.BufferWrite
import Derived.Lib.Bytealg
import Derived.Deep.RegionLaw
import Derived.Lib.SlBuf
import Derived.Laws.CopyOwn
import Derived.Stop.BytesEq
import Derived.Maps.OwnSet
import Derived.Maps.Views
import Derived.DeepKeys4
import Derived.RangeFuncNested
import Derived.RangeFuncLeaves
import Derived.Shelf.Abstract
import Derived.OwnWalkIn
import Derived.TacticsInMore
import Derived.LoopNIn
import Derived.LoopIn
import Derived.Maps.OwnIn
import Derived.Deep.Cut
import Derived.Great.BuildSlice
import Derived.Test.YtadjmfhhpkjpaaaDoorShelf
import Derived.OrdersHeld
import Derived.Deep.Quiet
import Derived.Deep.SlicePairs
import Derived.Lib.ItoaLen
import Derived.Lib.Join
import Derived.Lib.ItoaNum
import Derived.Lib.ItoaMem
import Derived.Lib.AtoiAll
import Derived.Lib.AtoiAllCases
import Derived.Lib.AppendIntMem
import Derived.WalkSmall
import Derived.WideLaws
import Derived.Lib.Split
import Derived.Lib.SplitLaws
import Derived.Lib.CountLaws
import Derived.Lib.IndexBytes
import Derived.Lib.IndexMore
import Derived.Laws.Externs
import Derived.Stop.LaidErr
import Derived.Lib.LaidTab
import Derived.Deep.DeepCutAuto
set_option linter.unusedVariables false
set_option linter.unusedSimpArgs false
namespace Go.Proofs.YtadjmfhhpkjpaaaDoor
open Go
section
variable {P : Program} {ops : Array Oper} {md : Region.Mode} {w : World}

def todo (n : Nat) (listed : Array Bool) : List Nat := (List.range n).filter fun i => !listed.getD i true
def rowsOf (ops : Array Oper) (is : List Nat) : List Oper := is.filterMap (ops[·]?)

def pairB (md : Region.Mode) (ops : Array Oper) (n : Nat) : Bool :=
  (List.range n).all fun i => (List.range i).all fun j => Region.waitsFor md ops i j || match ops[j]?, ops[i]? with
    | some oj, some oi => oj.apart ops oi
    | _, _ => false
def depsB (md : Region.Mode) (ops : Array Oper) (n : Nat) : Bool :=
  (List.range n).all fun i => match ops[i]? with
    | some o => o.after.all fun e => !Region.binds md e || decide (e.on < i)
    | none => false
def sinkFromB (md : Region.Mode) (ops : Array Oper) (n : Nat) (L0 : Array Bool) : Bool :=
  (List.range n).all fun i => L0.getD i true || (List.range (n + 1)).any fun j => decide (i < j) && Region.waitsFor md ops j i

theorem waits_listed {i j : Nat} {listed : Array Bool} (hr : i ∈ Region.ready md ops listed) (hw : Region.waitsFor md ops i j = true) : listed.getD j false = true := by
  obtain ⟨_, o, ho, hall⟩ := mem_ready.1 hr
  obtain ⟨o', ho', e, he, hb, hon⟩ := Region.waitsFor_spec hw
  obtain rfl : o' = o := Option.some.inj (ho'.symm.trans ho)
  rw [← hon]; exact hall e he hb

theorem tail_sleeps {n : Nat} {L0 listed : Array Bool} (hs : sinkFromB md ops n L0 = true) (hc : Region.chainB md ops n = true) (hn : n < ops.size) (h0 : L0.size = ops.size)
    (inv : HeadInv md ops n listed) (hle : ∀ i, L0.getD i false = true → listed.getD i false = true) :
    ∀ (d i : Nat), n - i ≤ d → i < n → listed.getD i true = false → ∀ t, n ≤ t → t ∉ Region.ready md ops listed := by
  intro d
  induction d with
  | zero => intro i h1 h2; omega
  | succ d ih =>
    intro i hd hi hun t ht hr
    have htl : t < ops.size := by
      obtain ⟨_, o, ho, _⟩ := mem_ready.1 hr
      exact (Array.getElem?_eq_some_iff.1 ho).1
    by_cases htn : n < t
    · have h1 := List.all_eq_true.1 hc t (List.mem_range.2 htl)
      simp only [Bool.or_eq_true, decide_eq_true_eq] at h1
      rcases h1 with h1 | h1
      · omega
      · have h2 := waits_listed hr h1
        have h3 := getD_both (inv.tail (t - 1) (by omega) (by omega))
        rw [h3] at h2; cases h2
    · obtain rfl : t = n := by omega
      have h1 := List.all_eq_true.1 hs i (List.mem_range.2 hi)
      simp only [Bool.or_eq_true] at h1
      rcases h1 with h1 | h1
      · have : L0.getD i false = true := by
          cases h4 : L0.getD i false with
          | true => rfl
          | false => rw [getD_in (by omega) h4] at h1; cases h1
        have := hle i this
        rw [getD_both hun] at this; cases this
      · obtain ⟨j, hj, h2⟩ := List.any_eq_true.1 h1
        simp only [Bool.and_eq_true, decide_eq_true_eq] at h2
        have hjn := List.mem_range.1 hj
        by_cases hjt : j = t
        · subst hjt
          have := waits_listed hr h2.2
          rw [getD_both hun] at this; cases this
        · cases hl : listed.getD j false with
          | true =>
            obtain ⟨o', ho', e, he, hb, hon⟩ := Region.waitsFor_spec h2.2
            have := inv.closed j o' ho' hl e he hb
            rw [hon, getD_both hun] at this; cases this
          | false => exact ih j (by omega) (by omega) (getD_in (by rw [inv.size]; omega) hl) t (by omega) hr

theorem bubble {i : Nat} {oi : Oper} {Lq : Act → Prop} (hi : ops[i]? = some oi) (hsel : ∀ (j : Nat) (o : Oper) cs b, ops[j]? = some o → o.op ≠ .select cs b) (post : List Oper) :
    ∀ (pre : List Oper) (a : Act), (∀ o ∈ pre, ∃ j : Nat, ops[j]? = some o ∧ o.apart ops oi = true) → wpStill P ops w Lq (pre ++ oi :: post) a → stOp P ops w i (wpStill P ops w Lq (pre ++ post)) a
  | [], a, _, h => by
    unfold stOp; simp only [hi]; exact h
  | o :: pre, a, hap, h => by
    obtain ⟨j, hj, hA⟩ := hap o (by simp)
    have h1 : stOp P ops w j (wpStill P ops w Lq (pre ++ oi :: post)) a := by unfold stOp; simp only [hj]; exact h
    obtain ⟨v, hy, hK⟩ := yieldsAt_of_stOp hj h1
    have h2 := bubble hi hsel post pre _ (fun o' ho' => hap o' (by simp [ho'])) hK
    refine stOp_mono (fun a' h3 => ?_) (stOp_put hi hA (fun cs b => hsel j o cs b hj) (fun cs b => hsel i oi cs b hi) hy h2)
    have h4 := h3.1.stOp (P := P) (ops := ops) (w := w) hj (K := wpStill P ops w Lq (pre ++ post)) h3.2
    unfold stOp at h4; simp only [hj] at h4; exact h4

theorem todo_split {n i : Nat} {listed : Array Bool} (hi : i < n) (hsz : i < listed.size) (hun : listed.getD i true = false) :
    ∃ pre post, todo n listed = pre ++ i :: post ∧ todo n (listed.setIfInBounds i true) = pre ++ post ∧ ∀ j ∈ pre, j < i ∧ listed.getD j true = false := by
  have hr : List.range n = List.range' 0 i ++ i :: List.range' (i + 1) (n - i - 1) := by
    rw [List.range_eq_range']
    have h1 : n = i + ((n - i - 1) + 1) := by omega
    conv => lhs; rw [h1]
    have h2 := List.range'_append (s := 0) (m := i) (n := (n - i - 1) + 1) (step := 1)
    rw [← h2]; simp [List.range'_succ]
  refine ⟨(List.range' 0 i).filter (fun k => !listed.getD k true), (List.range' (i + 1) (n - i - 1)).filter (fun k => !listed.getD k true), ?_, ?_, ?_⟩
  · unfold todo; rw [hr, List.filter_append, List.filter_cons]; simp only [hun]; simp
  · unfold todo
    rw [hr, List.filter_append, List.filter_cons]
    have hset : (listed.setIfInBounds i true).getD i true = true := by simp [hsz]
    simp only [hset]
    have e1 : ∀ k, k ≠ i → (listed.setIfInBounds i true).getD k true = listed.getD k true := fun k hk => getD_set_ne true (Ne.symm hk)
    have g1 : (List.range' 0 i).filter (fun k => !(listed.setIfInBounds i true).getD k true) = (List.range' 0 i).filter (fun k => !listed.getD k true) := by
      apply List.filter_congr; intro k hk; rw [e1 k (by have := List.mem_range'_1.1 hk; omega)]
    have g2 : (List.range' (i + 1) (n - i - 1)).filter (fun k => !(listed.setIfInBounds i true).getD k true) = (List.range' (i + 1) (n - i - 1)).filter (fun k => !listed.getD k true) := by
      apply List.filter_congr; intro k hk; rw [e1 k (by have := List.mem_range'_1.1 hk; omega)]
    rw [g1, g2]; simp
  · intro j hj
    have h1 := List.mem_filter.1 hj
    have h2 := List.mem_range'_1.1 h1.1
    refine ⟨by omega, ?_⟩
    have h3 := h1.2
    simp only [Bool.not_eq_true'] at h3
    exact h3

def fullHead (n m : Nat) : Array Bool := Array.replicate n true ++ Array.replicate (m - n) false

theorem full_of {n : Nat} {listed : Array Bool} (hn : n < ops.size) (inv : HeadInv md ops n listed) (h : todo n listed = []) : listed = fullHead n ops.size := by
  apply Array.ext
  · simp [fullHead, inv.size]; omega
  · intro k h1 h2
    by_cases hk : k < n
    · have h3 : k ∉ todo n listed := by rw [h]; simp
      simp only [todo, List.mem_filter, List.mem_range, hk, true_and] at h3
      have h4 : listed.getD k true = true := by
        cases hx : listed.getD k true with
        | true => rfl
        | false => rw [hx] at h3; simp at h3
      simp [h1] at h4
      simp [fullHead, hk, h4]
    · have h4 := inv.tail k (by omega) (by rw [← inv.size]; exact h1)
      simp [h1] at h4
      simp [fullHead, hk, h4, Array.getElem_append]

/-- 'wpAny', and as long as number c has not come, S behind each operation. -/
def wpAnyU (P : Program) (md : Region.Mode) (ops : Array Oper) (Q : Exit → Act → World → Prop) (S : World → Prop) (c : Nat) : Nat → Array Bool → Act → World → Prop
  | 0, listed, a, w => Region.ready md ops listed = [] ∧ Q .normal a w
  | f + 1, listed, a, w => (Region.ready md ops listed = [] → Q .normal a w) ∧
    ∀ i ∈ Region.ready md ops listed, wpOp P ops Q i (fun a' w' => ((listed.setIfInBounds i true).getD c true = false → S w') ∧ wpAnyU P md ops Q S c f (listed.setIfInBounds i true) a' w') a w

theorem wpAnyU_drop {Q : Exit → Act → World → Prop} {S : World → Prop} {c : Nat} : ∀ (f : Nat) (listed : Array Bool) (a : Act) (w : World), wpAnyU P md ops Q S c f listed a w → wpAny P md ops Q f listed a w
  | 0, _, _, _, h => h
  | f + 1, _, _, _, h => ⟨h.1, fun i hi => wpOp_mono (fun _ _ h' => wpAnyU_drop f _ _ _ h'.2) (h.2 i hi)⟩

theorem free_set {i j : Nat} {oi : Oper} {listed : Array Bool} (hjun : listed.getD j true = false)
    (hfree : ∀ k ok, ops[k]? = some ok → k ≠ i → listed.getD k true = false → (∀ e ∈ ok.after, Region.binds md e = true → e.on ≠ i) → oi.apart ops ok = true) :
    ∀ k ok, ops[k]? = some ok → k ≠ i → (listed.setIfInBounds j true).getD k true = false → (∀ e ∈ ok.after, Region.binds md e = true → e.on ≠ i) → oi.apart ops ok = true := by
  intro k ok hk hki hun hno
  refine hfree k ok hk hki ?_ hno
  by_cases hjk : j = k
  · subst hjk; exact hjun
  · rw [getD_set_ne true hjk] at hun; exact hun

theorem not_waits {i : Nat} {oj : Oper} {listed : Array Bool} (hr : i ∈ Region.ready md ops listed) (hall : ∀ e ∈ oj.after, Region.binds md e = true → listed.getD e.on false = true) :
    ∀ e ∈ oj.after, Region.binds md e = true → e.on ≠ i := fun e he hb heq => by
  have h1 := hall e he hb
  rw [heq, getD_both (mem_ready.1 hr).1] at h1; cases h1

/-- A move (it yields in whatever world) may be taken first. -/
theorem moveU {Q : Exit → Act → World → Prop} {S : World → Prop} {c i : Nat} {oi : Oper} {v : Value} (hi : ops[i]? = some oi) (hsel : ∀ (j : Nat) (o : Oper) cs b, ops[j]? = some o → o.op ≠ .select cs b)
    (hQ : ∀ ch a w, Q (.panic ch) (a.put oi.dst v) w → Q (.panic ch) a w) (hc : c ≠ i) :
    ∀ (fuel : Nat) (listed : Array Bool) (a : Act) (w : World),
      (∀ j oj, ops[j]? = some oj → j ≠ i → listed.getD j true = false → (∀ e ∈ oj.after, Region.binds md e = true → e.on ≠ i) → oi.apart ops oj = true) →
      i ∈ Region.ready md ops listed → Yields P ops oi v a → (listed.getD c true = false → S w) →
      wpAnyU P md ops Q S c fuel (listed.setIfInBounds i true) (a.put oi.dst v) w → wpAnyU P md ops Q S c (fuel + 1) listed a w := by
  intro fuel
  induction fuel with
  | zero =>
    intro listed a w _ hr hy hS H
    refine ⟨fun h => (by rw [h] at hr; cases hr), fun j hj => ?_⟩
    by_cases hji : j = i
    · subst hji; exact hy.wpOp hi ⟨fun h => hS (by rwa [getD_set_ne true (Ne.symm hc)] at h), H⟩
    · have := ready_mono hj hji
      rw [H.1] at this; cases this
  | succ fuel ih =>
    intro listed a w hfree hr hy hS H
    refine ⟨fun h => (by rw [h] at hr; cases hr), fun j hj => ?_⟩
    by_cases hji : j = i
    · subst hji; exact hy.wpOp hi ⟨fun h => hS (by rwa [getD_set_ne true (Ne.symm hc)] at h), H⟩
    · have h1 := H.2 j (ready_mono hj hji)
      obtain ⟨hjun, oj, hoj, hall⟩ := mem_ready.1 hj
      have h2 := wpOp_put hoj (hfree j oj hoj hji hjun (not_waits hr hall)) (fun cs b => hsel i oi cs b hi) (fun cs b => hsel j oj cs b hoj) hQ hy h1
      refine wpOp_mono (fun a' w' h3 => ?_) h2
      have hSw : (listed.setIfInBounds j true).getD c true = false → S w' := fun h => h3.2.1 (by rw [Array.setIfInBounds_comm _ _ (Ne.symm hji), getD_set_ne true (Ne.symm hc)]; exact h)
      refine ⟨hSw, ih (listed.setIfInBounds j true) a' w' (free_set hjun hfree) (ready_mono hr (Ne.symm hji)) h3.1 hSw ?_⟩
      rw [Array.setIfInBounds_comm _ _ hji]
      exact h3.2.2

/-- number c waits for number i, over some others -/
def waitsT (md : Region.Mode) (ops : Array Oper) : Nat → Nat → Nat → Bool
  | 0, c, i => Region.waitsFor md ops c i
  | f + 1, c, i => Region.waitsFor md ops c i || (List.range ops.size).any fun j => Region.waitsFor md ops c j && waitsT md ops f j i
theorem waitsT_some {i : Nat} : ∀ (f c : Nat), waitsT md ops f c i = true → ∃ j, Region.waitsFor md ops c j = true ∧ (j = i ∨ ∃ f', waitsT md ops f' j i = true ∧ f' < f)
  | 0, c, h => ⟨i, h, .inl rfl⟩
  | f + 1, c, h => by
    simp only [waitsT, Bool.or_eq_true] at h
    rcases h with h | h
    · exact ⟨i, h, .inl rfl⟩
    · obtain ⟨j, _, hj⟩ := List.any_eq_true.1 h
      simp only [Bool.and_eq_true] at hj
      exact ⟨j, hj.1, .inr ⟨f, hj.2, Nat.lt_succ_self f⟩⟩
theorem waitsT_unlisted {i : Nat} {listed : Array Bool} (inv : HeadInv md ops ops.size listed) (hun : listed.getD i true = false) : ∀ (f c : Nat), waitsT md ops f c i = true → listed.getD c true = false := by
  intro f
  induction f using Nat.strongRecOn with
  | _ f ih =>
    intro c h
    obtain ⟨j, hj, hji⟩ := waitsT_some f c h
    have hju : listed.getD j false = false := by
      rcases hji with rfl | ⟨f', h', hf⟩
      · exact getD_both hun
      · exact getD_both (ih f' hf j h')
    obtain ⟨o, ho, e, he, hb, hon⟩ := Region.waitsFor_spec hj
    refine getD_in (by rw [inv.size]; exact (Array.getElem?_eq_some_iff.1 ho).1) ?_
    cases hc : listed.getD c false with
    | false => rfl
    | true =>
      have := inv.closed c o ho hc e he hb
      rw [hon, hju] at this; cases this
theorem waitsT_sleeps {i f c : Nat} {listed : Array Bool} (inv : HeadInv md ops ops.size listed) (hun : listed.getD i true = false) (h : waitsT md ops f c i = true) : c ∉ Region.ready md ops listed := fun hr => by
  obtain ⟨j, hj, hji⟩ := waitsT_some f c h
  have h1 := waits_listed hr hj
  have hju : listed.getD j false = false := by
    rcases hji with rfl | ⟨f', h', hf⟩
    · exact getD_both hun
    · exact getD_both (waitsT_unlisted inv hun f' j h')
  rw [hju] at h1; cases h1

/-- What reads a cell that S names may be taken first, if number c waits for it. -/
theorem lateU {Q : Exit → Act → World → Prop} {S : World → Prop} {c i : Nat} {oi : Oper} {v : Value} (hi : ops[i]? = some oi) (hsel : ∀ (j : Nat) (o : Oper) cs b, ops[j]? = some o → o.op ≠ .select cs b)
    (hQ : ∀ ch a w, Q (.panic ch) (a.put oi.dst v) w → Q (.panic ch) a w) {F : Nat} (hc : c ≠ i) (hcw : waitsT md ops F c i = true) :
    ∀ (fuel : Nat) (listed : Array Bool) (a : Act) (w : World),
      (∀ j oj, ops[j]? = some oj → j ≠ i → listed.getD j true = false → (∀ e ∈ oj.after, Region.binds md e = true → e.on ≠ i) → oi.apart ops oj = true) →
      i ∈ Region.ready md ops listed → YieldsIf P ops S oi v a → HeadInv md ops ops.size listed → S w →
      wpAnyU P md ops Q S c fuel (listed.setIfInBounds i true) (a.put oi.dst v) w → wpAnyU P md ops Q S c (fuel + 1) listed a w := by
  intro fuel
  induction fuel with
  | zero =>
    intro listed a w _ hr hy inv hS H
    refine ⟨fun h => (by rw [h] at hr; cases hr), fun j hj => ?_⟩
    by_cases hji : j = i
    · subst hji; exact hy.wpOp hi hS ⟨fun _ => hS, H⟩
    · have := ready_mono hj hji
      rw [H.1] at this; cases this
  | succ fuel ih =>
    intro listed a w hfree hr hy inv hS H
    refine ⟨fun h => (by rw [h] at hr; cases hr), fun j hj => ?_⟩
    by_cases hji : j = i
    · subst hji; exact hy.wpOp hi hS ⟨fun _ => hS, H⟩
    · have h1 := H.2 j (ready_mono hj hji)
      obtain ⟨hjun, oj, hoj, hall⟩ := mem_ready.1 hj
      have hjc : j ≠ c := fun e => by
        subst e
        exact waitsT_sleeps inv (mem_ready.1 hr).1 hcw hj
      have h2 := wpOp_putIf hoj (hfree j oj hoj hji hjun (not_waits hr hall)) (fun cs b => hsel i oi cs b hi) (fun cs b => hsel j oj cs b hoj) hQ hy h1
      refine wpOp_mono (fun a' w' h3 => ?_) h2
      have inv' := inv.set hj (Array.getElem?_eq_some_iff.1 hoj).1
      have hcu' : (listed.setIfInBounds j true).getD c true = false := waitsT_unlisted inv' (mem_ready.1 (ready_mono hr (Ne.symm hji))).1 F c hcw
      have hSw : S w' := h3.2.1 (by rw [Array.setIfInBounds_comm _ _ (Ne.symm hji), getD_set_ne true (Ne.symm hc)]; exact hcu')
      refine ⟨fun _ => hSw, ih (listed.setIfInBounds j true) a' w' (free_set hjun hfree) (ready_mono hr (Ne.symm hji)) h3.1 inv' hSw ?_⟩
      rw [Array.setIfInBounds_comm _ _ hji]
      exact h3.2.2

theorem head_any {n g c : Nat} {L0 : Array Bool} {Lq : Act → Prop} {Q : Exit → Act → World → Prop} {S : World → Prop} (hSw : S w) (hsel : ∀ (j : Nat) (o : Oper) cs b, ops[j]? = some o → o.op ≠ .select cs b)
    (hs : sinkFromB md ops n L0 = true) (hc : Region.chainB md ops n = true) (hp : pairB md ops n = true) (hd : depsB md ops n = true) (hn : n < ops.size) (h0 : L0.size = ops.size)
    (htail : ∀ a, Lq a → wpAnyU P md ops Q S c g (fullHead n ops.size) a w) :
    ∀ (f : Nat) (listed : Array Bool) (a : Act), HeadInv md ops n listed → (∀ i, L0.getD i false = true → listed.getD i false = true) → (todo n listed).length = f →
      wpStill P ops w Lq (rowsOf ops (todo n listed)) a → wpAnyU P md ops Q S c (f + g) listed a w := by
  intro f
  induction f with
  | zero =>
    intro listed a inv _ hf h
    have he := List.length_eq_zero_iff.1 hf
    rw [full_of hn inv he, Nat.zero_add]
    rw [he] at h
    exact htail a h
  | succ f ih =>
    intro listed a inv hle hf h
    rw [show f + 1 + g = (f + g) + 1 by omega]
    obtain ⟨i0, rest0, h00⟩ : ∃ i0 rest0, todo n listed = i0 :: rest0 := by
      cases ht : todo n listed with
      | nil => rw [ht] at hf; simp at hf
      | cons x r => exact ⟨x, r, rfl⟩
    have hm0 : i0 ∈ todo n listed := by rw [h00]; simp
    have hm1 := List.mem_filter.1 hm0
    have hi0 : i0 < n := List.mem_range.1 hm1.1
    have hu0 : listed.getD i0 true = false := by have := hm1.2; simpa only [Bool.not_eq_true'] using this
    have hready0 : i0 ∈ Region.ready md ops listed := by
      refine mem_ready.2 ⟨hu0, ops[i0], by simp [show i0 < ops.size by omega], fun e he hb => ?_⟩
      have h1 := List.all_eq_true.1 hd i0 (List.mem_range.2 hi0)
      simp only [show ops[i0]? = some ops[i0] by simp [show i0 < ops.size by omega]] at h1
      have h2 := Array.all_eq_true_iff_forall_mem.1 h1 e he
      simp only [hb, Bool.not_true, Bool.false_or, decide_eq_true_eq] at h2
      cases hx : listed.getD e.on false with
      | true => rfl
      | false =>
        have hx' := getD_in (by rw [inv.size]; omega) hx
        obtain ⟨pre, post, e1, _, e3⟩ := todo_split (n := n) hi0 (by rw [inv.size]; omega) hu0
        have hmem : e.on ∈ todo n listed := List.mem_filter.2 ⟨List.mem_range.2 (by omega), by rw [hx']; rfl⟩
        have hpre : pre = [] := by
          cases pre with
          | nil => rfl
          | cons x r =>
            have h5 : i0 :: rest0 = (x :: r) ++ i0 :: post := h00.symm.trans e1
            have hxi : i0 = x := (List.cons.inj h5).1
            have := (e3 x (by simp)).1
            omega
        subst hpre
        have h5 : todo n listed = i0 :: post := by simpa using e1
        rw [h5] at hmem
        rcases List.mem_cons.1 hmem with h6 | h6
        · omega
        · have h7 : (i0 :: post).Pairwise (· < ·) := by rw [← h5]; exact List.Pairwise.filter _ (List.pairwise_lt_range)
          have := (List.pairwise_cons.1 h7).1 _ h6
          omega
    refine ⟨fun h1 => (by rw [h1] at hready0; cases hready0), fun i hi => ?_⟩
    have hin : i < n := by
      rcases Nat.lt_or_ge i n with h1 | h1
      · exact h1
      · exact absurd hi (tail_sleeps hs hc hn h0 inv hle _ i0 (Nat.le_refl _) hi0 hu0 i h1)
    obtain ⟨hun, oi, hoi, _⟩ := mem_ready.1 hi
    obtain ⟨pre, post, e1, e2, e3⟩ := todo_split (n := n) hin (by rw [inv.size]; omega) hun
    have hrows : rowsOf ops (todo n listed) = rowsOf ops pre ++ oi :: rowsOf ops post := by rw [e1]; simp [rowsOf, List.filterMap_append, hoi]
    rw [hrows] at h
    have hb := bubble hoi hsel (rowsOf ops post) (rowsOf ops pre) a (fun o ho => by
      obtain ⟨j, hj, hjo⟩ := List.mem_filterMap.1 ho
      refine ⟨j, hjo, ?_⟩
      have h1 := List.all_eq_true.1 (List.all_eq_true.1 hp i (List.mem_range.2 hin)) j (List.mem_range.2 (e3 j hj).1)
      simp only [Bool.or_eq_true, hjo, hoi] at h1
      rcases h1 with h1 | h1
      · have := waits_listed hi h1
        rw [getD_both (e3 j hj).2] at this; cases this
      · exact h1) h
    refine wpOp_of_stOp (fun a' h' => ⟨fun _ => hSw, ih (listed.setIfInBounds i true) a' (inv.set hi hin) (fun k hk => getD_set_true (hle k hk)) ?_ ?_⟩) hb
    · rw [e1] at hf; rw [e2]; simp at hf ⊢; omega
    · rw [e2]; simpa [rowsOf, List.filterMap_append] using h'

/-! ### moves that may come at any time -/
def setAll (listed : Array Bool) (is : List Nat) : Array Bool := is.foldl (fun l i => l.setIfInBounds i true) listed
def moveOf (o : Oper) : Option Operand := match o.guard, o.op with | none, .move x => some x | _, _ => none
def movesA (ops : Array Oper) : List Nat → Act → Act
  | [], a => a
  | i :: r, a => movesA ops r (match ops[i]? with | some o => (match moveOf o with | some x => a.put o.dst (a.eval x) | none => a) | none => a)
def takeB (md : Region.Mode) (ops : Array Oper) : List Nat → Array Bool → Bool
  | [], _ => true
  | i :: r, listed => (Region.ready md ops listed).contains i && Region.free md ops listed i && ((ops[i]?).bind moveOf).isSome && takeB md ops r (listed.setIfInBounds i true)

theorem moves_first {Q : Exit → Act → World → Prop} {S : World → Prop} {c fuel : Nat} (hsel : ∀ (j : Nat) (o : Oper) cs b, ops[j]? = some o → o.op ≠ .select cs b)
    (hQ : ∀ ch a d v w, Q (.panic ch) (a.put d v) w → Q (.panic ch) a w) (hSw : S w) : ∀ (is : List Nat) (listed : Array Bool) (a : Act), takeB md ops is listed = true → c ∉ is →
      wpAnyU P md ops Q S c fuel (setAll listed is) (movesA ops is a) w → wpAnyU P md ops Q S c (is.length + fuel) listed a w
  | [], listed, a, _, _, h => by simpa [setAll, movesA] using h
  | i :: r, listed, a, hB, hc, h => by
    simp only [takeB, Bool.and_eq_true] at hB
    obtain ⟨⟨⟨hr, hf⟩, hm⟩, hB'⟩ := hB
    obtain ⟨x, hx⟩ := Option.isSome_iff_exists.1 hm
    obtain ⟨o, ho, hox⟩ := Option.bind_eq_some_iff.1 hx
    have hy : Yields P ops o (a.eval x) a := by
      unfold moveOf at hox
      cases hg : o.guard with
      | some g => rw [hg] at hox; simp at hox
      | none =>
        rw [hg] at hox
        cases hop : o.op <;> rw [hop] at hox <;> simp at hox
        subst hox
        refine Or.inl ⟨by simp [Region.wanted, hg], fun w' => ?_⟩
        simp [execOp, hop, Sem.run_pure]
    rw [show (i :: r).length + fuel = (r.length + fuel) + 1 by simp; omega]
    refine moveU ho hsel (fun ch a w => hQ ch a o.dst _ w) (fun e => hc (by simp [e])) _ listed a w (Region.free_spec ho hf) (by simpa using hr) hy (fun _ => hSw) ?_
    refine moves_first hsel hQ hSw r _ _ hB' (fun h' => hc (by simp [h'])) ?_
    have : movesA ops (i :: r) a = movesA ops r (a.put o.dst (a.eval x)) := by simp [movesA, ho, hox]
    rw [this] at h
    exact h

/-! ### reads of cells that S names, which number c alone waits for -/
def lateB (md : Region.Mode) (ops : Array Oper) (c : Nat) : List Nat → Array Bool → Bool
  | [], _ => true
  | i :: r, listed => (Region.ready md ops listed).contains i && Region.free md ops listed i && (ops[i]?).isSome && decide (c ≠ i) && waitsT md ops ops.size c i && lateB md ops c r (listed.setIfInBounds i true)
def takesP (P : Program) (ops : Array Oper) (S : World → Prop) (K : Act → Prop) : List Oper → Act → Prop
  | [], a => K a
  | o :: r, a => ∃ v, (∀ w, S w → Region.wanted o (yielded ops a.tmps) = true ∧ (execOp a.eval o).run P w = .ok (.value v) w) ∧ takesP P ops S K r (a.put o.dst v)

theorem late_first {Q : Exit → Act → World → Prop} {S : World → Prop} {c fuel : Nat} {K : Act → Prop} (hsel : ∀ (j : Nat) (o : Oper) cs b, ops[j]? = some o → o.op ≠ .select cs b)
    (hQ : ∀ ch a d v w, Q (.panic ch) (a.put d v) w → Q (.panic ch) a w) (hSw : S w) : ∀ (is : List Nat) (listed : Array Bool) (a : Act), lateB md ops c is listed = true → HeadInv md ops ops.size listed →
      (∀ a, K a → wpAnyU P md ops Q S c fuel (setAll listed is) a w) → takesP P ops S K (rowsOf ops is) a → wpAnyU P md ops Q S c (is.length + fuel) listed a w
  | [], listed, a, _, _, hK, h => by simpa [setAll] using hK a h
  | i :: r, listed, a, hB, inv, hK, h => by
    simp only [lateB, Bool.and_eq_true, decide_eq_true_eq] at hB
    obtain ⟨⟨⟨⟨⟨hr, hf⟩, hm⟩, hc⟩, hcw⟩, hB'⟩ := hB
    obtain ⟨o, ho⟩ := Option.isSome_iff_exists.1 hm
    have hrows : rowsOf ops (i :: r) = o :: rowsOf ops r := by simp [rowsOf, ho]
    rw [hrows] at h
    obtain ⟨v, hv, h'⟩ := h
    rw [show (i :: r).length + fuel = (r.length + fuel) + 1 by simp; omega]
    refine lateU ho hsel (fun ch a w => hQ ch a o.dst _ w) hc hcw _ listed a w (Region.free_spec ho hf) (by simpa using hr) (Or.inl ⟨(hv w hSw).1, fun w' hw' => (hv w' hw').2⟩) inv hSw ?_
    exact late_first hsel hQ hSw r _ _ hB' (inv.set (by simpa using hr) (Array.getElem?_eq_some_iff.1 ho).1) (fun a ha => hK a ha) h'

/-- The tail, one operation behind the other; S behind each of the first p. -/
def chainS (P : Program) (ops : Array Oper) (Q : Exit → Act → World → Prop) (S : World → Prop) : Nat → List Oper → Act → World → Prop
  | 0, l, a, w => ∀ K : Exit → Act → World → Prop, (∀ a w, Q .normal a w → K .normal a w) → wpList P ops K l a w
  | _ + 1, [], a, w => Q .normal a w
  | p + 1, o :: r, a, w => ∀ K : Exit → Act → World → Prop, (∀ a' w', S w' → chainS P ops Q S p r a' w' → K .normal a' w') → wpList P ops K [o] a w

/-- Q at a normal end, and no other end. -/
def OnlyNormal (Q : Exit → Act → World → Prop) : Exit → Act → World → Prop
  | .normal, a, w => Q .normal a w
  | _, _, _ => False
theorem OnlyNormal.imp {Q : Exit → Act → World → Prop} : ∀ (e : Exit) (a : Act) (w : World), OnlyNormal Q e a w → Q e a w := fun e a w h => by
  cases e <;> first | exact h | exact (h : False).elim

theorem getD_listed {listed : Array Bool} {c k : Nat} (h : (listed.setIfInBounds k true).getD c true = false) (hc : listed.getD c true = true ∨ c = k) : False := by
  rcases hc with hc | rfl
  · by_cases hk : k = c
    · subst hk
      rcases Nat.lt_or_ge k listed.size with h' | h'
      · simp [h'] at h
      · simp [Array.getElem?_eq_none h'] at h
    · rw [getD_set_ne true hk, hc] at h; cases h
  · rcases Nat.lt_or_ge c listed.size with h' | h'
    · simp [h'] at h
    · simp [Array.getElem?_eq_none h'] at h

theorem wpAnyU_of_seq {Q : Exit → Act → World → Prop} {S : World → Prop} {c : Nat} : ∀ (l : List Oper) (k : Nat) (listed : Array Bool) (a : Act) (w : World), (∀ j, l[j]? = ops[k + j]?) →
    Region.seqB md ops l.length k listed = true → ((∀ w, S w) ∨ listed.getD c true = true ∨ c = k) → wpList P ops Q l a w → wpAnyU P md ops Q S c l.length listed a w
  | [], _, _, _, _, _, hB, _, h => ⟨by simpa [Region.seqB] using hB, h⟩
  | o :: l, k, listed, a, w, hl, hB, hc, h => by
    have h0 : ops[k]? = some o := by simpa using (hl 0).symm
    simp only [List.length_cons, Region.seqB, Bool.and_eq_true, decide_eq_true_eq] at hB
    refine ⟨fun h1 => (by rw [hB.1] at h1; cases h1), fun i hi => ?_⟩
    rw [hB.1] at hi
    obtain rfl : i = k := by simpa using hi
    have hw : wpOp P ops Q i (wpList P ops Q l) a w := by unfold wpOp; simp only [h0]; exact h
    refine wpOp_mono (fun a' w' h' => ⟨fun hx => ?_, wpAnyU_of_seq l (i + 1) _ a' w' (fun j => by have := hl (j + 1); simpa [Nat.add_assoc, Nat.add_comm 1 j] using this) hB.2 ?_ h'⟩) hw
    · rcases hc with hc | hc
      · exact hc w'
      · exact (getD_listed hx hc).elim
    · rcases hc with hc | hc
      · exact .inl hc
      · refine .inr (.inl ?_)
        cases hx : (listed.setIfInBounds i true).getD c true with
        | true => rfl
        | false => exact (getD_listed hx hc).elim

theorem wpOp_congrK {Q Q' : Exit → Act → World → Prop} {k : Nat} {o : Oper} {K : Act → World → Prop} {a : Act} {w : World} (h0 : ops[k]? = some o) (h : wpList P ops Q' [o] a w) (hK : ∀ a w, Q' .normal a w → K a w)
    (hQ : ∀ e a w, e ≠ .normal → Q' e a w → False) : wpOp P ops Q k K a w := by
  have hl : ¬ LetsOut Q' := fun ⟨a, w, h⟩ => hQ _ a w (fun e => by cases e) h
  unfold wpOp
  simp only [h0]
  simp only [wpList] at h
  split
  · rename_i hw
    rw [if_pos hw] at h
    rcases h with h | h
    · refine .inl ?_
      unfold Oper.wp at *
      generalize (execOp a.eval o).run P w = r at *
      cases r with
      | ok x w' =>
        cases x <;> simp only [Oper.upon] at h ⊢ <;>
          first
            | exact hK _ _ h
            | exact Calls.mono h (fun e w'' he => by cases e <;> first | exact hK _ _ he | exact (hQ _ _ _ (fun e => by cases e) he).elim | exact (hl he).elim)
            | exact Rows.mono h (fun _ _ he => hK _ _ he)
      | halt x w' => cases x <;> simp only [Oper.upon] at h ⊢ <;> first | exact h | exact (hQ _ _ _ (fun e => by cases e) h).elim | exact (hl h).elim
    · exact absurd h.2 hl
  · rename_i hw
    rw [if_neg hw] at h
    exact hK _ _ h

theorem wpAnyU_of_chain {Q : Exit → Act → World → Prop} {S : World → Prop} {c : Nat} : ∀ (p : Nat) (l : List Oper) (k : Nat) (listed : Array Bool) (a : Act) (w : World), (∀ j, l[j]? = ops[k + j]?) →
    Region.seqB md ops l.length k listed = true → ((∀ w, S w) ∨ listed.getD c true = true ∨ c = k + p) → chainS P ops Q S p l a w → wpAnyU P md ops (OnlyNormal Q) S c l.length listed a w
  | 0, l, k, listed, a, w, hl, hB, hc, h => wpAnyU_of_seq l k listed a w hl hB (by simpa using hc) (h _ fun _ _ h => h)
  | _ + 1, [], _, _, _, _, _, hB, _, h => ⟨by simpa [Region.seqB] using hB, h⟩
  | p + 1, o :: l, k, listed, a, w, hl, hB, hc, h => by
    have h0 : ops[k]? = some o := by simpa using (hl 0).symm
    simp only [List.length_cons, Region.seqB, Bool.and_eq_true, decide_eq_true_eq] at hB
    refine ⟨fun h1 => (by rw [hB.1] at h1; cases h1), fun i hi => ?_⟩
    rw [hB.1] at hi
    obtain rfl : i = k := by simpa using hi
    refine wpOp_congrK (Q' := OnlyNormal fun e a w => e = .normal ∧ S w ∧ chainS P ops Q S p l a w) h0 (h _ fun a' w' h1 h2 => ⟨rfl, h1, h2⟩) (fun a' w' h' => ⟨fun _ => h'.2.1, wpAnyU_of_chain p l (i + 1) _ a' w' (fun j => by have := hl (j + 1); simpa [Nat.add_assoc, Nat.add_comm 1 j] using this) hB.2 ?_ h'.2.2⟩)
      (fun e a w he h => by cases e <;> first | exact he rfl | exact h)
    rcases hc with hc | hc | hc
    · exact .inl hc
    · refine .inr (.inl ?_)
      cases hx : (listed.setIfInBounds i true).getD c true with
      | true => rfl
      | false => exact (getD_listed hx (.inl hc)).elim
    · exact .inr (.inr (by omega))

def closedB (md : Region.Mode) (ops : Array Oper) (L : Array Bool) : Bool :=
  (List.range ops.size).all fun j => !L.getD j false || match ops[j]? with
    | some o => o.after.all fun e => !Region.binds md e || L.getD e.on false
    | none => true

def planB (md : Region.Mode) (ops : Array Oper) (pre late : List Nat) (n c : Nat) : Bool :=
  let L0 := setAll (Array.replicate ops.size false) pre
  let L1 := setAll L0 late
  Region.noSelect ops && decide (n < ops.size) && takeB md ops pre (Array.replicate ops.size false) && closedB md ops L1 &&
  ((List.range ops.size).all fun t => decide (t < n) || !L1.getD t true) && sinkFromB md ops n L1 && Region.chainB md ops n && pairB md ops n && depsB md ops n &&
  Region.seqB md ops (ops.size - n) n (fullHead n ops.size) && decide (pre.length + (late.length + ((todo n L1).length + (ops.size - n))) = ops.size) && lateB md ops c late L0 && decide (c ∉ pre) && closedB md ops L0

theorem setAll_size (is : List Nat) : ∀ L : Array Bool, (setAll L is).size = L.size := by
  induction is with
  | nil => intro L; rfl
  | cons i r ih => intro L; show (setAll (L.setIfInBounds i true) r).size = _; rw [ih]; simp

def maskRows : List Bool → List Oper → List Oper
  | true :: m, o :: l => o :: maskRows m l
  | false :: m, _ :: l => maskRows m l
  | _, _ => []

theorem plan_any {Q : Exit → Act → World → Prop} {a : Act} {l : List Oper} (S : World → Prop) (pre late : List Nat) (n p : Nat) (hp : late = [] ∧ (∀ w, S w) ∨ True)
    (hB : planB .any l.toArray pre late n (n + p) = true) (hSw : S w)
    (h : takesP P l.toArray S (fun a1 => wpStill P l.toArray w (fun a' => chainS P l.toArray Q S p (l.drop n) a' w) (rowsOf l.toArray (todo n (setAll (setAll (Array.replicate l.toArray.size false) pre) late))) a1)
      (rowsOf l.toArray late) (movesA l.toArray pre a)) :
    wpAny P .any l.toArray (OnlyNormal Q) l.toArray.size (Array.replicate l.toArray.size false) a w := by
  clear hp
  simp only [planB, Bool.and_eq_true, decide_eq_true_eq] at hB
  obtain ⟨⟨⟨⟨⟨⟨⟨⟨⟨⟨⟨⟨⟨b1, b2⟩, b3⟩, b4⟩, b5⟩, b6⟩, b7⟩, b8⟩, b9⟩, b10⟩, b11⟩, b12⟩, b13⟩, b14⟩ := hB
  have hsel := Region.noSelect_spec b1
  have inv : HeadInv .any l.toArray n (setAll (setAll (Array.replicate l.toArray.size false) pre) late) := by
    refine ⟨by rw [setAll_size, setAll_size]; simp, fun j oj hj hl e he hb => ?_, fun t ht1 ht2 => ?_⟩
    · have h1 := List.all_eq_true.1 b4 j (List.mem_range.2 (Array.getElem?_eq_some_iff.1 hj).1)
      simp only [hl, Bool.not_true, Bool.false_or, hj] at h1
      have h2 := Array.all_eq_true_iff_forall_mem.1 h1 e he
      simpa only [hb, Bool.not_true, Bool.false_or] using h2
    · have h1 := List.all_eq_true.1 b5 t (List.mem_range.2 ht2)
      simp only [Bool.or_eq_true, decide_eq_true_eq, Bool.not_eq_true'] at h1
      rcases h1 with h1 | h1
      · omega
      · exact h1
  have inv0 : HeadInv .any l.toArray l.toArray.size (setAll (Array.replicate l.toArray.size false) pre) := by
    refine ⟨by rw [setAll_size]; simp, fun j oj hj hl e he hb => ?_, fun t ht1 ht2 => by omega⟩
    have h1 := List.all_eq_true.1 b14 j (List.mem_range.2 (Array.getElem?_eq_some_iff.1 hj).1)
    simp only [hl, Bool.not_true, Bool.false_or, hj] at h1
    have h2 := Array.all_eq_true_iff_forall_mem.1 h1 e he
    simpa only [hb, Bool.not_true, Bool.false_or] using h2
  have hdl : (l.drop n).length = l.toArray.size - n := by simp
  have H0 : ∀ a1, wpStill P l.toArray w (fun a' => chainS P l.toArray Q S p (l.drop n) a' w) (rowsOf l.toArray (todo n (setAll (setAll (Array.replicate l.toArray.size false) pre) late))) a1 → _ := fun a1 h1 =>
    head_any (md := .any) (g := l.toArray.size - n) (c := n + p) (Q := OnlyNormal Q) hSw hsel b6 b7 b8 b9 b2 (by rw [setAll_size, setAll_size]; simp) (fun a' hL => by
      have h1 := wpAnyU_of_chain (md := .any) (S := S) (c := n + p) p (l.drop n) n (fullHead n l.toArray.size) a' w (fun j => by simp [List.getElem?_drop]) (by rw [hdl]; exact b10) (.inr (.inr rfl)) hL
      rwa [hdl] at h1) _ _ a1 inv (fun i hi => hi) rfl h1
  have hQ : ∀ ch a d v w, OnlyNormal Q (.panic ch) (a.put d v) w → OnlyNormal Q (.panic ch) a w := fun _ _ _ _ _ h => h
  have H1 := late_first (md := .any) (c := n + p) hsel hQ hSw late _ _ b12 inv0 (fun a1 ha1 => H0 a1 ha1) h
  have H2 := moves_first hsel hQ hSw pre _ a b3 b13 H1
  rw [b11] at H2
  exact wpAnyU_drop _ _ _ _ H2

/-- THE LAW: the moves 'pre' first, then the other operations of the first n in the order of the text (each reads alone), then the rest as a plain list. -/
theorem wp_region_plan {id : Nat} {Q : Exit → Act → World → Prop} {a : Act} {l : List Oper} (pre : List Nat) (m : List Bool) (n : Nat) (hm : P.follows .mixedOrders = true)
    (hB : planB .any l.toArray pre [] n (n + 0) = true) (hR : rowsOf l.toArray (todo n (setAll (Array.replicate l.toArray.size false) pre)) = maskRows m l)
    (h : wpStill P l.toArray w.drew (fun a' => ∀ K : Exit → Act → World → Prop, (∀ a w, Q .normal a w → K .normal a w) → wpList P l.toArray K (l.drop n) a' w.drew) (maskRows m l) (movesA l.toArray pre a)) :
    (Code.region id l.toArray true).wp P Q a w := by
  rw [← hR] at h
  refine Code.wp_mono OnlyNormal.imp (wp_region_any hm ?_)
  exact plan_any (Q := Q) (fun _ => True) pre [] n 0 (.inr trivial) hB trivial h

end
end Go.Proofs.YtadjmfhhpkjpaaaDoor
namespace Go.Proofs.YtadjmfhhpkjpaaaDoor
open Go.ChangeShapes Go.WideShapes Go.ChangeAt Go.RowKit
set_option linter.unusedVariables false

theorem info5 : (Tryd.prog.info? 5).map (fun i => (i.zero, i.size, i.bytes)) = some (some (.int .u8 0), 1, 1) := by kernel_rfl
theorem run_string_own {P : Program} {w : World} {base n : Nat} {v : Value} {xs : List Int} (src e dst : TypeId) (hs : P.underlying src = some (.slice e)) (he : P.underlying e = some (.int .u8)) (hd : P.underlying dst = some .string)
    (hown : w.ownsRow base e 1 v n (xs.map (Value.int .u8))) : (convert src dst v).run P w = .ok (.string (strOfNums xs)) w := by
  have hn : xs.length = n := by have := hown.1; simpa using this
  rcases hown.2 with ⟨rfl, h0⟩ | ⟨g, cap, cur, rfl, _⟩
  · have hx : xs = [] := List.length_eq_zero_iff.1 (by omega)
    subst hx
    exact run_convert_bytes_nil w src e hs he 0 0 dst hd
  · refine run_convert_bytes_arg w src e hs he g 0 n cap xs hn (fun i hi => ?_) dst hd
    rw [Nat.zero_add, hown.cellAt i (by omega)]
    simp [show i < xs.length by omega]

theorem grown_of_below' {A B : World} (h : Below A.heap.size A B) (row : Option Nat) : A.grownBy B row := ⟨h.os, h.tape, h.output, h.size, fun k hk _ => h.block k hk⟩
theorem grown_trans {A B C : World} {row : Option Nat} (h : A.grownBy B row) (k : B.grownBy C row) : A.grownBy C row :=
  ⟨k.os.trans h.os, k.tape.trans h.tape, k.output.trans h.output, Nat.le_trans h.size k.size, fun j hj hr => (k.block j (Nat.lt_of_lt_of_le hj h.size) hr).trans (h.block j hj hr)⟩
end Go.Proofs.YtadjmfhhpkjpaaaDoor
namespace Go.Proofs.YtadjmfhhpkjpaaaDoor
open Go
set_option linter.unusedVariables false

/-- a load of noughts -/
def z4 : ByteArray := ⟨#[0, 0, 0, 0]⟩
end Go.Proofs.YtadjmfhhpkjpaaaDoor
namespace Go.Proofs.YtadjmfhhpkjpaaaDoor
open Go.ChangeShapes Go.WideShapes Go.ChangeAt Go.RowKit
set_option linter.unusedVariables false

abbrev K2 := Int × Int
def kv (k : K2) : Value := .agg #[.int .i64 k.1, .int .i64 k.2]
def keyOkB (k : K2) : Bool := (decide (1 ≤ k.1) && decide (k.1 ≤ 20)) && (decide (1 ≤ k.2) && decide (k.2 ≤ 99))
def aheadB (a b : K2) : Bool := if a.1 = b.1 then decide (a.2 < b.2) else decide (a.1 < b.1)
/-- the slice value v leads to the keys ks -/
def keysAt (w : World) (v : Value) (ks : List K2) : Prop :=
  ∃ a cap, v = .slice a ks.length cap ∧ ks.length ≤ cap ∧ (ks.length = 0 ∨ ∃ g off, a = some ⟨g, off, none⟩ ∧ g < w.heap.size ∧
    ∀ i, i < ks.length → w.cell? ⟨g, off + i * 2, none⟩ = some (.int .i64 (ks.getD i (0, 0)).1) ∧ w.cell? ⟨g, off + i * 2 + 1, none⟩ = some (.int .i64 (ks.getD i (0, 0)).2))
theorem keysAt_below {w w' : World} {v : Value} {ks : List K2} (h : keysAt w v ks) (hb : Below w.heap.size w w') : keysAt w' v ks := by
  obtain ⟨a, cap, h1, h2, h3⟩ := h
  refine ⟨a, cap, h1, h2, h3.imp_right ?_⟩
  rintro ⟨g, off, h4, h5, h6⟩
  refine ⟨g, off, h4, Nat.lt_of_lt_of_le h5 hb.size, fun i hi => ?_⟩
  rw [hb.cell (p := ⟨g, off + i * 2, none⟩) h5, hb.cell (p := ⟨g, off + i * 2 + 1, none⟩) h5]
  exact h6 i hi
end Go.Proofs.YtadjmfhhpkjpaaaDoor
namespace Go.Proofs.YtadjmfhhpkjpaaaDoor
open Go.ChangeShapes Go.WideShapes Go.ChangeAt Go.RowKit
set_option linter.unusedVariables false

theorem sin_any (x a b : Int) (w : World) : Calls Tryd.prog 54 #[.int .i64 x, .int .i64 a, .int .i64 b] w fun e w' => e = .returned (.bool (decide (a ≤ x) && decide (x ≤ b))) ∧ w' = w := by
  by_cases h1 : a ≤ x <;> by_cases h2 : x ≤ b
  all_goals
    go_enter Tryd.func54, Tryd.ntmps54
    go_wp2
    go_ret
    simp [h1, h2]
end Go.Proofs.YtadjmfhhpkjpaaaDoor
namespace Go.Proofs.YtadjmfhhpkjpaaaDoor
open Go.BigFrame Go.RowKit Go.ChangeShapes Go.WideShapes
section
variable {P : Program} {ops : Array Oper} {C : World → Prop} {Q : Act → Prop} {a : Act} {o : Oper} {rest : List Oper} {K : Act → Prop}
theorem q_load (ty : TypeId) (x : Operand) (p : Addr) (v : Value) (ho : o.op = .load ty x) (hx : a.eval x = .pointer (some p)) (hl : ∀ w, C w → (loadVar ty p).run P w = .ok v w) (hk : K (a.put o.dst v)) : o.quiet P a C K := by
  refine ⟨v, fun w hw => ?_, hk⟩
  unfold Oper.quietAt execOp
  simp only [ho, hx, Instr.loadAt, Instr.sureAddr, Sem.run_bind, Sem.run_pure, Result.andThen_ok, hl w hw]
  exact ⟨rfl, rfl⟩
end
/-- the class: new blocks alone -/
theorem wp_region_below {P : Program} {id : Nat} {Q : Exit → Act → World → Prop} {a : Act} {w : World} {l : List Oper} (w0 : World) (hm : P.follows .mixedOrders = true) (hB : Region.lexB .any l.toArray = true) (h0 : Below w0.heap.size w0 w)
    (h : wpQuiet P l.toArray (fun w' => Below w0.heap.size w0 w') (fun a' => ∀ w', Below w0.heap.size w0 w' → Q .normal a' w') l a) : (Code.region id l.toArray true).wp P Q a w :=
  wp_region_quiet (C := fun w' => Below w0.heap.size w0 w') hm hB h0.drew (by simpa using h)
end Go.Proofs.YtadjmfhhpkjpaaaDoor
namespace Go.Proofs.YtadjmfhhpkjpaaaDoor
open Go.ChangeShapes Go.WideShapes Go.ChangeAt Go.RowKit Go.BigFrame
set_option linter.unusedVariables false

theorem skeyok_any (k : K2) (w : World) : Calls Tryd.prog 41 #[kv k] w fun e w' => e = .returned (.bool (keyOkB k)) ∧ Below w.heap.size w w' := by
  obtain ⟨n, s⟩ := k
  unfold keyOkB kv
  dsimp only
  have hb : ∀ o, Below w.heap.size w (w.alloc o) := fun o => (Below.refl _ _).alloc (Nat.le_refl _) _
  generalize hp : (decide (1 ≤ n) && decide (n ≤ 20)) = p
  generalize hq : (decide (1 ≤ s) && decide (s ≤ 99)) = q
  have H1 := fun w => sin_any n 1 20 w
  have H2 := fun w => sin_any s 1 99 w
  rw [hp] at H1; rw [hq] at H2
  clear hp hq
  go_enter Tryd.func41, Tryd.ntmps41
  cases p with
  | false =>
    go_wp2_with (go_at_call 54; refine (H1 _).mono ?_; rintro e w1 ⟨rfl, rfl⟩)
    go_ret
    exact ⟨by simp, hb _⟩
  | true =>
    go_wp2_with fail
    refine (H1 _).mono ?_
    rintro e w1 ⟨rfl, rfl⟩
    go_wp2_with fail
    refine (H2 _).mono ?_
    rintro e w1 ⟨rfl, rfl⟩
    go_wp2
    go_ret
    exact ⟨by simp, hb _⟩
theorem sahead_any (a b : K2) (w : World) : Calls Tryd.prog 55 #[kv a, kv b] w fun e w' => e = .returned (.bool (aheadB a b)) ∧ Below w.heap.size w w' := by
  obtain ⟨n, s⟩ := a
  obtain ⟨m, t⟩ := b
  have hb : ∀ o o', Below w.heap.size w ((w.alloc o).alloc o') := fun o o' => ((Below.refl _ _).alloc (Nat.le_refl _) _).alloc (by simp) _
  by_cases h : n = m
  · have ha : aheadB (n, s) (m, t) = decide (s < t) := by unfold aheadB; rw [if_pos h]
    rw [ha]
    unfold kv
    dsimp only
    subst h
    go_enter Tryd.func55, Tryd.ntmps55
    go_wp2
    go_ret
    exact ⟨rfl, hb _ _⟩
  · have ha : aheadB (n, s) (m, t) = decide (n < m) := by unfold aheadB; rw [if_neg h]
    rw [ha]
    unfold kv
    dsimp only
    go_enter Tryd.func55, Tryd.ntmps55
    go_wp2
    go_ret
    exact ⟨rfl, hb _ _⟩

theorem key_load {w : World} {g o : Nat} {k : K2} (hc : w.cell? ⟨g, o, none⟩ = some (.int .i64 k.1) ∧ w.cell? ⟨g, o + 1, none⟩ = some (.int .i64 k.2)) {w' : World} (hg : g < w.heap.size) (hb : Below w.heap.size w w') :
    (loadVar 39 ⟨g, o, none⟩).run Tryd.prog w' = .ok (kv k) w' := by
  refine run_loadVar_mid w' g o 39 [.int .i64 k.1, .int .i64 k.2] _ (fun j v hj => ?_) Tryd.underlying39 rfl (by kernel_rfl)
  have hj2 : j < 2 := by have := (List.getElem?_eq_some_iff.1 hj).1; simpa using this
  rcases (by omega : j = 0 ∨ j = 1) with rfl | rfl
  · rw [hb.cell (p := ⟨g, o + 0, none⟩) hg]
    simpa using hc.1.trans (by simpa using hj)
  · rw [hb.cell (p := ⟨g, o + 1, none⟩) hg]
    simpa using hc.2.trans (by simpa using hj)
end Go.Proofs.YtadjmfhhpkjpaaaDoor
namespace Go.Proofs.YtadjmfhhpkjpaaaDoor
open Go.ChangeShapes Go.WideShapes Go.ChangeAt Go.RowKit Go.BigFrame
set_option linter.unusedVariables false

theorem infoK : (Tryd.prog.info? 39).map (fun i => (i.zero, i.size, i.bytes)) = some (some (.agg #[.int .i64 0, .int .i64 0]), 2, 16) := by kernel_rfl
def keyCells (ks : List K2) : List Value := ks.flatMap fun k => [.int .i64 k.1, .int .i64 k.2]
theorem keyCells_len : ∀ ks : List K2, (keyCells ks).length = ks.length * 2
  | [] => rfl
  | k :: r => by
    have := keyCells_len r
    simp only [keyCells, List.flatMap_cons, List.length_append, List.length_cons, List.length_nil] at *
    omega
theorem keyCells_snoc (ks : List K2) (k : K2) : keyCells (ks ++ [k]) = keyCells ks ++ [.int .i64 k.1, .int .i64 k.2] := by simp [keyCells]
theorem keyCells_get : ∀ (ks : List K2) (i : Nat), i < ks.length → (keyCells ks)[i * 2]? = some (.int .i64 (ks.getD i (0, 0)).1) ∧ (keyCells ks)[i * 2 + 1]? = some (.int .i64 (ks.getD i (0, 0)).2)
  | [], _, h => by simp at h
  | k :: r, 0, _ => by simp [keyCells]
  | k :: r, i + 1, h => by
    have ih := keyCells_get r i (by simpa using h)
    have e1 : (i + 1) * 2 = i * 2 + 1 + 1 := by omega
    have e2 : (i + 1) * 2 + 1 = i * 2 + 1 + 1 + 1 := by omega
    rw [e1]
    simp only [keyCells, List.flatMap_cons, List.cons_append, List.nil_append, List.getElem?_cons_succ, List.getD_cons_succ] at *
    exact ih
theorem own_below {w w' : World} {base n : Nat} {e : TypeId} {size : Nat} {v : Value} {xs : List Value} (h : w.ownsRow base e size v n xs) (hb : Below w.heap.size w w') : w'.ownsRow base e size v n xs :=
  h.kept (grown_of_below' hb none) (by cases hv : v.ownBlock <;> simp)

end Go.Proofs.YtadjmfhhpkjpaaaDoor
namespace Go.Proofs.YtadjmfhhpkjpaaaDoor

def stepB (ks : List K2) (i : Nat) : Bool := keyOkB (ks.getD i (0, 0)) && (decide (i = 0) || aheadB (ks.getD (i - 1) (0, 0)) (ks.getD i (0, 0)))
def keysOkR (ks : List K2) : Bool := (List.range ks.length).all (stepB ks)
theorem stepB_false {ks : List K2} {k : Nat} (hk : k < ks.length) (h : stepB ks k = false) : keysOkR ks = false := by
  unfold keysOkR
  rw [List.all_eq_false]
  exact ⟨k, List.mem_range.2 hk, by simp [h]⟩
theorem keysR_succ (ks : List K2) (k : Nat) : (List.range (k + 1)).all (stepB ks) = ((List.range k).all (stepB ks) && stepB ks k) := by
  rw [List.range_succ, List.all_append]
  simp
end Go.Proofs.YtadjmfhhpkjpaaaDoor
namespace Go.Proofs.YtadjmfhhpkjpaaaDoor

theorem ahead_iff (a b : K2) : aheadB a b = true ↔ (a.1 < b.1 ∨ (a.1 = b.1 ∧ a.2 < b.2)) := by
  unfold aheadB
  by_cases h : a.1 = b.1
  · rw [if_pos h]; simp; omega
  · rw [if_neg h]; simp; omega
theorem ahead_trans {a b c : K2} (h1 : aheadB a b = true) (h2 : aheadB b c = true) : aheadB a c = true := by
  rw [ahead_iff] at *; omega
def Rising (l : List K2) : Prop := l.Pairwise fun a b => aheadB a b = true
theorem keysR_iff (ks : List K2) : keysOkR ks = true ↔ (∀ k ∈ ks, keyOkB k = true) ∧ Rising ks := by
  unfold keysOkR
  rw [List.all_eq_true]
  constructor
  · intro h
    have hs : ∀ i, i < ks.length → keyOkB (ks.getD i (0, 0)) = true ∧ (i = 0 ∨ aheadB (ks.getD (i - 1) (0, 0)) (ks.getD i (0, 0)) = true) := by
      intro i hi
      have := h i (List.mem_range.2 hi)
      simpa [stepB] using this
    refine ⟨fun k hk => ?_, ?_⟩
    · obtain ⟨i, hi, rfl⟩ := List.getElem_of_mem hk
      have := (hs i hi).1
      simpa [List.getD, hi] using this
    · have hd : ∀ d i, i + d + 1 < ks.length → aheadB (ks.getD i (0, 0)) (ks.getD (i + d + 1) (0, 0)) = true := by
        intro d
        induction d with
        | zero =>
          intro i hi
          have := (hs (i + 1) (by omega)).2.resolve_left (by omega)
          simpa using this
        | succ d ih =>
          intro i hi
          have h1 := ih i (by omega)
          have h2 := (hs (i + (d + 1) + 1) hi).2.resolve_left (by omega)
          rw [show i + (d + 1) + 1 - 1 = i + d + 1 by omega] at h2
          exact ahead_trans h1 h2
      unfold Rising
      rw [List.pairwise_iff_getElem]
      intro i j hi hj hij
      have := hd (j - i - 1) i (by omega)
      rw [show i + (j - i - 1) + 1 = j by omega] at this
      simpa [List.getD, hi, hj] using this
  · rintro ⟨h1, h2⟩ i hi
    have hi2 := List.mem_range.1 hi
    unfold stepB
    have e : ks.getD i (0, 0) = ks[i] := by simp [List.getD, hi2]
    rw [e, h1 _ (List.getElem_mem hi2)]
    by_cases h0 : i = 0
    · simp [h0]
    · have e2 : ks.getD (i - 1) (0, 0) = ks[i - 1] := by simp [List.getD, show i - 1 < ks.length by omega]
      rw [e2]
      unfold Rising at h2
      rw [List.pairwise_iff_getElem] at h2
      simp [h2 (i - 1) i (by omega) hi2 (by omega)]
end Go.Proofs.YtadjmfhhpkjpaaaDoor
namespace Go.Proofs.YtadjmfhhpkjpaaaDoor
open Go
set_option linter.unusedVariables false

/-- a word: its keys, its load -/
abbrev C2 := List K2 × ByteArray
def codeOkB (x : C2) : Bool := (decide (x.1.length ≤ 6) && keysOkR x.1) && (decide (x.2.size = 4) && (decide (0 < x.1.length) || decide (x.2 = z4)))
def blankC : C2 := ([], z4)
theorem codeOk_iff (x : C2) : codeOkB x = true ↔ x.1.length ≤ 6 ∧ keysOkR x.1 = true ∧ x.2.size = 4 ∧ (x.1 = [] → x.2 = z4) := by
  simp only [codeOkB, Bool.and_eq_true, Bool.or_eq_true, decide_eq_true_eq]
  constructor
  · rintro ⟨⟨h1, h2⟩, h3, h4⟩
    refine ⟨h1, h2, h3, fun h => h4.resolve_left ?_⟩
    rw [h]; simp
  · rintro ⟨h1, h2, h3, h4⟩
    refine ⟨⟨h1, h2⟩, h3, ?_⟩
    rcases Nat.eq_zero_or_pos x.1.length with h | h
    · exact .inr (h4 (List.length_eq_zero_iff.1 h))
    · exact .inl h
end Go.Proofs.YtadjmfhhpkjpaaaDoor
namespace Go.Proofs.YtadjmfhhpkjpaaaDoor
open Go.ChangeShapes Go.WideShapes Go.ChangeAt Go.RowKit Go.BigFrame
set_option linter.unusedVariables false

set_option maxRecDepth 100000 in
theorem skeysok_any (v : Value) (ks : List K2) (w : World) (h : keysAt w v ks) (hs : ks.length ≤ 2000000) : Calls Tryd.prog 42 #[v] w fun e w' => e = .returned (.bool (keysOkR ks)) ∧ Below w.heap.size w w' := by
  obtain ⟨a, cap, rfl, hcap, hcells⟩ := h
  go_enter Tryd.func42, Tryd.ntmps42
  go_wp2
  go_loopw [3] (fun i wr => ∃ k : Nat, k ≤ ks.length ∧ i = .int .i64 k ∧ (List.range k).all (stepB ks) = true ∧ Below w.heap.size w wr) (fun i _ => ks.length - (intOf i).toNat)
  case atStart => exact ⟨0, Nat.zero_le _, rfl, rfl, Below.refl _ _⟩
  case round =>
    obtain ⟨k, hk, rfl, hall, hb⟩ := hrel
    by_cases hlt : k < ks.length
    · obtain ⟨g, off, rfl, hg, hcs⟩ := hcells.resolve_left (by omega)
      have z0 : (0 : Int) ≤ (k : Int) := by omega
      have z1 : (k : Int) < (ks.length : Int) := by omega
      have c1 := hcs k hlt
      have HK := Lib.hid (fun w => skeyok_any (ks.getD k (0, 0)) w)
      have hst : stepB ks k = (keyOkB (ks.getD k (0, 0)) && (decide (k = 0) || aheadB (ks.getD (k - 1) (0, 0)) (ks.getD k (0, 0)))) := rfl
      have hsu := keysR_succ ks k
      have HST := Lib.hid hst; clear hst
      cases hko : keyOkB (ks.getD k (0, 0)) with
      | false =>
        rw [hko] at HK HST
        have hf : keysOkR ks = false := stepB_false hlt (by rw [HST.out]; rfl)
        have HF := Lib.hid hf
        clear hcs hcells hko hf HST hsu
        generalize ks.getD k (0, 0) = kx at *
        have L1 := fun w' hb => key_load c1 (w' := w') hg hb
        clear c1
        go_wp2
        refine wp_region_below w (by kernel_rfl) (by kernel_rfl) hb ?_
        repeat (first
          | go_big_quiet_skip
          | (go_big_quiet_want
             first
               | (go_big_quiet_op; go_big_quiet_on)
               | (refine q_load 39 _ _ _ rfl rfl L1 ?_; simp only [Act.put, List.setIfInBounds_toArray, List.set_cons_zero, List.set_cons_succ]; go_big_quiet_on)
               | (go_big_quiet_op; refine ⟨_, fun _ _ => rfl, ?_⟩; go_big_quiet_on)
               | (go_big_quiet_op; apply Exists.intro; refine ⟨fun w' hw' => ?_, ?_⟩
                  · first
                    | (refine (HK.out w').mono ?_
                       rintro e w2 ⟨rfl, hb2⟩
                       exact ⟨rfl, hw'.trans (hb2.mono hw'.size)⟩)
                  go_big_quiet_on)))
        refine wpQuiet_nil ?_
        intro w2 hb2
        clear L1 HK hb
        go_wp2
        go_ret
        exact ⟨by rw [HF.out]; rfl, hb2⟩
      | true =>
        rw [hko] at HK HST
        by_cases hk0 : k = 0
        · subst hk0
          have ht : (List.range (0 + 1)).all (stepB ks) = true := by rw [hsu, HST.out]; rfl
          have HT := Lib.hid ht
          clear hcs hcells hko ht HST hsu hall
          generalize ks.getD 0 (0, 0) = kx at *
          have L1 := fun w' hb => key_load c1 (w' := w') hg hb
          clear c1
          have y0 : ¬ (0 : Int) < ((0 : Nat) : Int) := by omega
          simp only [Nat.zero_mul, Nat.add_zero] at L1
          go_wp2
          refine wp_region_below w (by kernel_rfl) (by kernel_rfl) hb ?_
          repeat (first
            | go_big_quiet_skip
            | (go_big_quiet_want
               first
                 | (go_big_quiet_op; go_big_quiet_on)
                 | (refine q_load 39 _ _ _ rfl rfl L1 ?_; simp only [Act.put, List.setIfInBounds_toArray, List.set_cons_zero, List.set_cons_succ]; go_big_quiet_on)
                 | (go_big_quiet_op; refine ⟨_, fun _ _ => rfl, ?_⟩; go_big_quiet_on)
                 | (go_big_quiet_op; apply Exists.intro; refine ⟨fun w' hw' => ?_, ?_⟩
                    · first
                      | (refine (HK.out w').mono ?_
                         rintro e w2 ⟨rfl, hb2⟩
                         exact ⟨rfl, hw'.trans (hb2.mono hw'.size)⟩)
                    go_big_quiet_on)))
          refine wpQuiet_nil ?_
          intro w2 hb2
          clear L1 HK hb
          go_wp2
          exact ⟨⟨1, by omega, by go_num, HT.out, hb2⟩, by simp [intOf]; omega⟩
        · have ha := hcs (k - 1) (by omega)
          rw [show off + (k - 1) * 2 = off + (k - 1) * 2 from rfl] at ha
          have HA := Lib.hid (fun w => sahead_any (ks.getD (k - 1) (0, 0)) (ks.getD k (0, 0)) w)
          have d0 : decide (k = 0) = false := by simpa using hk0
          rw [d0] at HST
          have y0 : (0 : Int) < (k : Int) := by omega
          have yk : 0 < k := by omega
          have y1 : (0 : Int) ≤ (k : Int) - 1 := by omega
          have y2 : (k : Int) - 1 < (ks.length : Int) := by omega
          have ew : IntKind.i64.wrap ((k : Int) - 1) = (k : Int) - 1 := IntWalk.i64_in _ (by omega)
          have et : ((k : Int) - 1).toNat = k - 1 := by omega
          cases hah : aheadB (ks.getD (k - 1) (0, 0)) (ks.getD k (0, 0)) with
          | false =>
            rw [hah] at HA HST
            have hf : keysOkR ks = false := stepB_false hlt (by rw [HST.out]; rfl)
            have HF := Lib.hid hf
            clear hcs hcells hko hf HST hsu hah
            generalize ks.getD k (0, 0) = kx at *
            generalize ks.getD (k - 1) (0, 0) = ky at *
            have L1 := fun w' hb => key_load c1 (w' := w') hg hb
            have L2 := fun w' hb => key_load ha (w' := w') hg hb
            clear c1 ha
            go_wp2
            refine wp_region_below w (by kernel_rfl) (by kernel_rfl) hb ?_
            repeat (first
              | go_big_quiet_skip
              | (go_big_quiet_want
                 first
                   | (go_big_quiet_op; go_big_quiet_on)
                   | (refine q_load 39 _ _ _ rfl rfl L1 ?_; simp only [Act.put, List.setIfInBounds_toArray, List.set_cons_zero, List.set_cons_succ]; go_big_quiet_on)
                   | (refine q_load 39 _ _ _ rfl rfl L2 ?_; simp only [Act.put, List.setIfInBounds_toArray, List.set_cons_zero, List.set_cons_succ]; go_big_quiet_on)
                   | (go_big_quiet_op; refine ⟨_, fun _ _ => rfl, ?_⟩; go_big_quiet_on)
                   | (go_big_quiet_op; apply Exists.intro; refine ⟨fun w' hw' => ?_, ?_⟩
                      · first
                        | (refine (HK.out w').mono ?_
                           rintro e w2 ⟨rfl, hb2⟩
                           exact ⟨rfl, hw'.trans (hb2.mono hw'.size)⟩)
                        | (refine (HA.out w').mono ?_
                           rintro e w2 ⟨rfl, hb2⟩
                           exact ⟨rfl, hw'.trans (hb2.mono hw'.size)⟩)
                      go_big_quiet_on)))
            refine wpQuiet_nil ?_
            intro w2 hb2
            clear L1 L2 HK HA hb
            go_wp2
            go_ret
            exact ⟨by rw [HF.out]; rfl, hb2⟩
          | true =>
            rw [hah] at HA HST
            have ht : (List.range (k + 1)).all (stepB ks) = true := by rw [hsu, hall, HST.out]; rfl
            have HT := Lib.hid ht
            clear hcs hcells hko ht HST hsu hah hall
            generalize ks.getD k (0, 0) = kx at *
            generalize ks.getD (k - 1) (0, 0) = ky at *
            have L1 := fun w' hb => key_load c1 (w' := w') hg hb
            have L2 := fun w' hb => key_load ha (w' := w') hg hb
            clear c1 ha
            go_wp2
            refine wp_region_below w (by kernel_rfl) (by kernel_rfl) hb ?_
            repeat (first
              | go_big_quiet_skip
              | (go_big_quiet_want
                 first
                   | (go_big_quiet_op; go_big_quiet_on)
                   | (refine q_load 39 _ _ _ rfl rfl L1 ?_; simp only [Act.put, List.setIfInBounds_toArray, List.set_cons_zero, List.set_cons_succ]; go_big_quiet_on)
                   | (refine q_load 39 _ _ _ rfl rfl L2 ?_; simp only [Act.put, List.setIfInBounds_toArray, List.set_cons_zero, List.set_cons_succ]; go_big_quiet_on)
                   | (go_big_quiet_op; refine ⟨_, fun _ _ => rfl, ?_⟩; go_big_quiet_on)
                   | (go_big_quiet_op; apply Exists.intro; refine ⟨fun w' hw' => ?_, ?_⟩
                      · first
                        | (refine (HK.out w').mono ?_
                           rintro e w2 ⟨rfl, hb2⟩
                           exact ⟨rfl, hw'.trans (hb2.mono hw'.size)⟩)
                        | (refine (HA.out w').mono ?_
                           rintro e w2 ⟨rfl, hb2⟩
                           exact ⟨rfl, hw'.trans (hb2.mono hw'.size)⟩)
                      go_big_quiet_on)))
            refine wpQuiet_nil ?_
            intro w2 hb2
            clear L1 L2 HK HA hb
            go_wp2
            exact ⟨⟨k + 1, by omega, by go_num, HT.out, hb2⟩, by simp [intOf]; omega⟩
    · obtain rfl : k = ks.length := by omega
      have HF := Lib.hid hall
      go_wp2
      go_ret
      exact ⟨by unfold keysOkR; rw [HF.out]; rfl, hb⟩
end Go.Proofs.YtadjmfhhpkjpaaaDoor
namespace Go.Proofs.YtadjmfhhpkjpaaaDoor
open Go.ChangeShapes Go.WideShapes Go.ChangeAt Go.RowKit Go.BigFrame
set_option linter.unusedVariables false
theorem own_cell {w : World} {base g n cap : Nat} {e : TypeId} {size : Nat} {xs : List Value} (h : w.ownsRow base e size (.slice (some ⟨g, 0, none⟩) n cap) n xs) (j : Nat) (hj : j < n * size) :
    w.cell? ⟨g, j, none⟩ = some (xs.getD j undef) ∧ w.frozen? ⟨g, j, none⟩ = false := by
  have hl : xs.length = n * size := h.1
  refine ⟨?_, ?_⟩
  · rw [h.cellAt j hj]
    simp [List.getD, show j < xs.length by omega]
  · rcases h.2 with ⟨h1, _⟩ | ⟨g', cap', cur, h1, _, hg, _⟩
    · simp at h1
    · simp only [Value.slice.injEq, Option.some.injEq, Addr.mk.injEq, and_true, true_and] at h1
      obtain ⟨rfl, rfl⟩ := h1
      simp [World.frozen?, hg]
theorem own_base {w : World} {base base' n : Nat} {e : TypeId} {size : Nat} {v : Value} {xs : List Value} (h : w.ownsRow base' e size v n xs) (hb : base ≤ base') : w.ownsRow base e size v n xs := by
  refine ⟨h.1, h.2.imp_right ?_⟩
  rintro ⟨g, cap, cur, h1, h2, h3⟩
  exact ⟨g, cap, cur, h1, Nat.le_trans hb h2, h3⟩
end Go.Proofs.YtadjmfhhpkjpaaaDoor
namespace Go.Proofs.YtadjmfhhpkjpaaaDoor
open Go.ChangeShapes Go.WideShapes Go.ChangeAt Go.RowKit
set_option linter.unusedVariables false
theorem results_cell {fn : Func} {p : Tmp} {ty : TypeId} (h : fn.results = #[.cell p ty]) (tmps : Array Value) (P : Program) (w : World) :
    (results fn tmps).run P w = ((asAddr (tmps.getD p undef)).run P w).andThen fun a w₁ => (loadVar ty a).run P w₁ := by
  simp only [results, h]
  simp [Sem.run_bind]
theorem heap_first (w : World) (o c : Obj) : ((w.alloc c).alloc o).heap[w.heap.size]? = some c := by
  show ((w.heap.push c).push o)[w.heap.size]? = some c
  rw [Array.getElem?_push, if_neg (by simp), Array.getElem?_push, if_pos rfl]
theorem heap_mid (w : World) (a b c : Obj) : (((w.alloc a).alloc b).alloc c).heap[w.heap.size + 1]? = some b := by
  show (((w.heap.push a).push b).push c)[w.heap.size + 1]? = some b
  rw [Array.getElem?_push, if_neg (by simp), Array.getElem?_push, if_pos (by simp)]
end Go.Proofs.YtadjmfhhpkjpaaaDoor
namespace Go.Proofs.YtadjmfhhpkjpaaaDoor
open Go.ChangeShapes Go.WideShapes Go.ChangeAt Go.RowKit Go.BigFrame
set_option linter.unusedVariables false

theorem set_cellsD {w : World} {B j : Nat} {cs : Array Value} {t : TypeId} (u : Value) (h : w.heap[B]? = some (.cells cs t (0, 0))) : (w.setCell ⟨B, j, none⟩ u).heap[B]? = some (.cells (cs.setIfInBounds j u) t (0, 0)) := by
  obtain ⟨hlt, hk⟩ := Array.getElem?_eq_some_iff.1 h
  show (w.heap.modify B _)[B]? = _
  rw [Array.getElem?_eq_getElem (by rw [Array.size_modify]; exact hlt), Array.getElem_modify_self, hk]
  rfl
end Go.Proofs.YtadjmfhhpkjpaaaDoor
namespace Go.Proofs.YtadjmfhhpkjpaaaDoor
set_option linter.unusedVariables false

theorem bytes_toList_iff (a b : ByteArray) : a.toList = b.toList ↔ a = b := by
  refine ⟨fun h => ?_, fun h => by rw [h]⟩
  rw [ByteArray.toList_eq, ByteArray.toList_eq] at h
  exact ByteArray.ext (Array.toList_inj.1 h)
end Go.Proofs.YtadjmfhhpkjpaaaDoor
namespace Go.Proofs.YtadjmfhhpkjpaaaDoor
open Go.ChangeShapes Go.WideShapes Go.ChangeAt Go.RowKit
set_option linter.unusedVariables false

theorem grownT {A B C : World} {row : Option Nat} (h : A.grownBy B row) (k : B.grownBy C row) : A.grownBy C row :=
  ⟨k.os.trans h.os, k.tape.trans h.tape, k.output.trans h.output, Nat.le_trans h.size k.size, fun j hj hr => (k.block j (Nat.lt_of_lt_of_le hj h.size) hr).trans (h.block j hj hr)⟩
end Go.Proofs.YtadjmfhhpkjpaaaDoor
namespace Go.Proofs.YtadjmfhhpkjpaaaDoor
open Go.ChangeShapes Go.WideShapes Go.ChangeAt Go.RowKit Go.BigFrame
set_option linter.unusedVariables false

/-- a word in memory: two cells -/
theorem cd_cells {W w' : World} {b : Nat} {v : Value} {y : ByteArray} {T : TypeId} (h : W.heap[b]? = some (.cells #[v, .string y] T)) (hb : Below W.heap.size W w') :
    w'.cell? ⟨b, 0, none⟩ = some v ∧ w'.cell? ⟨b, 1, none⟩ = some (.string y) := by
  have h1 := (hb.block _ (Array.getElem?_eq_some_iff.1 h).1).trans h
  exact ⟨by rw [cell_of_row _ _ 0 _ _ _ h1]; rfl, by rw [cell_of_row _ _ 1 _ _ _ h1]; rfl⟩
theorem agg_str (w : World) : (isAgg 9).run Tryd.prog w = .ok false w := by simp [isAgg, underlying, Tryd.underlying9]
theorem agg_keys (w : World) : (isAgg 43).run Tryd.prog w = .ok false w := by simp [isAgg, underlying, Tryd.underlying43]
theorem load_one {t : TypeId} {w : World} {p : Addr} {v : Value} (ht : ∀ w, (isAgg t).run Tryd.prog w = .ok false w) (h : w.cell? p = some v) : (loadVar t p).run Tryd.prog w = .ok v w := by
  unfold loadVar
  simp only [Sem.run_bind, ht, Result.andThen_ok]
  rw [if_neg (by simp)]
  simp [h]
theorem cd_load {W w' : World} {b : Nat} {v : Value} {y : ByteArray} {T : TypeId} (h : W.heap[b]? = some (.cells #[v, .string y] T)) (hb : Below W.heap.size W w') :
    (loadVar 45 ⟨b, 0, none⟩).run Tryd.prog w' = .ok (.agg #[v, .string y]) w' := by
  obtain ⟨h0, h1⟩ := cd_cells h hb
  refine run_loadVar_mid w' b 0 45 [v, .string y] _ (fun j u hj => ?_) Tryd.underlying45 rfl (by kernel_rfl)
  have hj2 : j < 2 := by have := (List.getElem?_eq_some_iff.1 hj).1; simpa using this
  rcases (by omega : j = 0 ∨ j = 1) with rfl | rfl
  · simpa using h0.trans (by simpa using hj)
  · simpa using h1.trans (by simpa using hj)
theorem szero_any (w : World) : Calls Tryd.prog 43 #[] w fun e w' => e = .returned (.string z4) ∧ w' = w := by
  go_enter Tryd.func43, Tryd.ntmps43
  go_wp2
  go_ret
  exact ⟨rfl, rfl⟩
theorem cd_loadk {W w' : World} {b : Nat} {v : Value} {y : ByteArray} {T : TypeId} (h : W.heap[b]? = some (.cells #[v, .string y] T)) (hb : Below W.heap.size W w') :
    (loadVar 43 ⟨b, 0, none⟩).run Tryd.prog w' = .ok v w' := load_one agg_keys (cd_cells h hb).1
theorem cd_loads {W w' : World} {b : Nat} {v : Value} {y : ByteArray} {T : TypeId} (h : W.heap[b]? = some (.cells #[v, .string y] T)) (hb : Below W.heap.size W w') :
    (loadVar 9 ⟨b, 1, none⟩).run Tryd.prog w' = .ok (.string y) w' := load_one agg_str (cd_cells h hb).2
structure Row2 (w : World) (b : Nat) (x y : Value) : Prop where
  c0 : w.cell? ⟨b, 0, none⟩ = some x
  c1 : w.cell? ⟨b, 1, none⟩ = some y
  f0 : w.frozen? ⟨b, 0, none⟩ = false
  f1 : w.frozen? ⟨b, 1, none⟩ = false
theorem row2_of {w : World} {b : Nat} {x y : Value} {t : TypeId} (h : w.heap[b]? = some (.cells #[x, y] t (0, 0))) : Row2 w b x y :=
  ⟨by rw [cell_of_row _ _ 0 _ _ _ h]; rfl, by rw [cell_of_row _ _ 1 _ _ _ h]; rfl, by simp [World.frozen?, h], by simp [World.frozen?, h]⟩
theorem set2 {w : World} {b : Nat} {x y : Value} {t : TypeId} (p q : Value) (h : w.heap[b]? = some (.cells #[x, y] t (0, 0))) :
    ((w.setCell ⟨b, 0, none⟩ p).setCell ⟨b, 1, none⟩ q).heap[b]? = some (.cells #[p, q] t (0, 0)) := set_cellsD _ (set_cellsD _ h)
theorem grown2 (w : World) (b : Nat) (p q : Value) : w.grownBy ((w.setCell ⟨b, 0, none⟩ p).setCell ⟨b, 1, none⟩ q) (some b) :=
  grownT (Lib.grownBy_setCell w b 0 p) (Lib.grownBy_setCell _ b 1 q)
theorem below2 {w W : World} {n b : Nat} (hb : Below n w W) (h : n ≤ b) (p q : Value) : Below n w ((W.setCell ⟨b, 0, none⟩ p).setCell ⟨b, 1, none⟩ q) :=
  (hb.setCell (p := ⟨b, 0, none⟩) h p).setCell (p := ⟨b, 1, none⟩) h q
theorem szero_below (w : World) : Calls Tryd.prog 43 #[] w fun e w' => e = .returned (.string z4) ∧ Below w.heap.size w w' :=
  (szero_any w).mono fun e w' h => ⟨h.1, by rw [h.2]; exact Below.refl _ _⟩
set_option maxRecDepth 100000 in
set_option maxHeartbeats 1000000 in
theorem scodeok_any (v : Value) (ks : List K2) (y : ByteArray) (w : World) (h : keysAt w v ks) (hs : ks.length ≤ 2000000) :
    Calls Tryd.prog 27 #[.agg #[v, .string y]] w fun e w' => e = .returned (.bool (codeOkB (ks, y))) ∧ Below w.heap.size w w' := by
  have hb := (Below.refl w.heap.size w).alloc (Nat.le_refl _) (.cells #[v, .string y] 45)
  have HB := Lib.hid hb
  have HX := Lib.hid (heap_alloc_new w (.cells #[v, .string y] 45))
  have HK := Lib.hid (fun w' (hb' : Below (w.alloc (.cells #[v, .string y] 45)).heap.size (w.alloc (.cells #[v, .string y] 45)) w') => skeysok_any v ks w' (keysAt_below h (hb.trans (hb'.mono hb.size))) hs)
  obtain ⟨a, cap, rfl, -, -⟩ := h
  unfold codeOkB
  dsimp only
  go_enter Tryd.func27, Tryd.ntmps27
  go_wp2
  generalize w.alloc (.cells #[.slice a ks.length cap, .string y] 45) = W at *
  have L0 := fun w' (hb' : Below W.heap.size W w') => cd_loadk HX.out hb'
  have L1 := fun w' (hb' : Below W.heap.size W w') => cd_loads HX.out hb'

  clear hb
  by_cases h1 : ks.length ≤ 6
  · have i1 : (ks.length : Int) ≤ 6 := by omega
    have d1 : decide ((ks.length : Int) ≤ 6) = true := decide_eq_true i1
    cases h2 : keysOkR ks with
    | false =>
      rw [h2] at HK
      refine wp_region_below W (by kernel_rfl) (by kernel_rfl) (Below.refl _ _) ?_
      repeat (first
        | go_big_quiet_skip
        | (go_big_quiet_want
           first
             | (go_big_quiet_op; go_big_quiet_on)
             | (refine q_load 43 _ _ _ rfl rfl L0 ?_; simp only [Act.put, List.setIfInBounds_toArray, List.set_cons_zero, List.set_cons_succ]; go_big_quiet_on)
             | (refine q_load 9 _ _ _ rfl rfl L1 ?_; simp only [Act.put, List.setIfInBounds_toArray, List.set_cons_zero, List.set_cons_succ]; go_big_quiet_on)
             | (go_big_quiet_op; refine ⟨_, fun _ _ => rfl, ?_⟩; go_big_quiet_on)
             | (go_big_quiet_op; apply Exists.intro; refine ⟨fun w' hw' => ?_, ?_⟩
                · first
                  | (with_reducible refine (HK.out w' hw').mono ?_
                     rintro e w2 ⟨rfl, hb2⟩
                     exact ⟨rfl, hw'.trans (hb2.mono hw'.size)⟩)
                  | (with_reducible refine (szero_below w').mono ?_
                     rintro e w2 ⟨rfl, hb2⟩
                     exact ⟨rfl, hw'.trans (hb2.mono hw'.size)⟩)
                go_big_quiet_on)))
      refine wpQuiet_nil ?_
      intro w9 hb9
      clear L0 L1
      go_wp2
      go_ret
      exact ⟨by simp [h1, h2], HB.out.trans (hb9.mono HB.out.size)⟩
    | true =>
      rw [h2] at HK
      by_cases h3 : y.size = 4
      · have i3 : (y.size : Int) = 4 := by omega
        have b3 : ((y.size : Int) == 4) = true := by simpa using i3
        by_cases h4 : 0 < ks.length
        · have i4 : (0 : Int) < (ks.length : Int) := by omega
          have d4 : decide ((0 : Int) < (ks.length : Int)) = true := decide_eq_true i4
          refine wp_region_below W (by kernel_rfl) (by kernel_rfl) (Below.refl _ _) ?_
          repeat (first
            | go_big_quiet_skip
            | (go_big_quiet_want
               first
                 | (go_big_quiet_op; go_big_quiet_on)
                 | (refine q_load 43 _ _ _ rfl rfl L0 ?_; simp only [Act.put, List.setIfInBounds_toArray, List.set_cons_zero, List.set_cons_succ]; go_big_quiet_on)
                 | (refine q_load 9 _ _ _ rfl rfl L1 ?_; simp only [Act.put, List.setIfInBounds_toArray, List.set_cons_zero, List.set_cons_succ]; go_big_quiet_on)
                 | (go_big_quiet_op; refine ⟨_, fun _ _ => rfl, ?_⟩; go_big_quiet_on)
                 | (go_big_quiet_op; apply Exists.intro; refine ⟨fun w' hw' => ?_, ?_⟩
                    · first
                      | (with_reducible refine (HK.out w' hw').mono ?_
                         rintro e w2 ⟨rfl, hb2⟩
                         exact ⟨rfl, hw'.trans (hb2.mono hw'.size)⟩)
                      | (with_reducible refine (szero_below w').mono ?_
                         rintro e w2 ⟨rfl, hb2⟩
                         exact ⟨rfl, hw'.trans (hb2.mono hw'.size)⟩)
                    go_big_quiet_on)))
          refine wpQuiet_nil ?_
          intro w9 hb9
          clear L0 L1
          go_wp2
          go_ret
          exact ⟨by simp [h1, h2, h3, h4], HB.out.trans (hb9.mono HB.out.size)⟩
        · have i4 : ¬ (0 : Int) < (ks.length : Int) := by omega
          have d4 : decide ((0 : Int) < (ks.length : Int)) = false := decide_eq_false i4
          have hy : decide (y = z4) = (y.toList == z4.toList) := by
            rw [Bool.eq_iff_iff, decide_eq_true_eq, beq_iff_eq, bytes_toList_iff]
          refine wp_region_below W (by kernel_rfl) (by kernel_rfl) (Below.refl _ _) ?_
          repeat (first
            | go_big_quiet_skip
            | (go_big_quiet_want
               first
                 | (go_big_quiet_op; go_big_quiet_on)
                 | (refine q_load 43 _ _ _ rfl rfl L0 ?_; simp only [Act.put, List.setIfInBounds_toArray, List.set_cons_zero, List.set_cons_succ]; go_big_quiet_on)
                 | (refine q_load 9 _ _ _ rfl rfl L1 ?_; simp only [Act.put, List.setIfInBounds_toArray, List.set_cons_zero, List.set_cons_succ]; go_big_quiet_on)
                 | (go_big_quiet_op; refine ⟨_, fun _ _ => rfl, ?_⟩; go_big_quiet_on)
                 | (go_big_quiet_op; apply Exists.intro; refine ⟨fun w' hw' => ?_, ?_⟩
                    · first
                      | (with_reducible refine (HK.out w' hw').mono ?_
                         rintro e w2 ⟨rfl, hb2⟩
                         exact ⟨rfl, hw'.trans (hb2.mono hw'.size)⟩)
                      | (with_reducible refine (szero_below w').mono ?_
                         rintro e w2 ⟨rfl, hb2⟩
                         exact ⟨rfl, hw'.trans (hb2.mono hw'.size)⟩)
                    go_big_quiet_on)))
          refine wpQuiet_nil ?_
          intro w9 hb9
          clear L0 L1
          go_wp2
          go_ret
          exact ⟨by simp [h1, h2, h3, h4, hy], HB.out.trans (hb9.mono HB.out.size)⟩
      · have i3 : ¬ (y.size : Int) = 4 := by omega
        have b3 : ((y.size : Int) == 4) = false := by simpa using i3
        refine wp_region_below W (by kernel_rfl) (by kernel_rfl) (Below.refl _ _) ?_
        repeat (first
          | go_big_quiet_skip
          | (go_big_quiet_want
             first
               | (go_big_quiet_op; go_big_quiet_on)
               | (refine q_load 43 _ _ _ rfl rfl L0 ?_; simp only [Act.put, List.setIfInBounds_toArray, List.set_cons_zero, List.set_cons_succ]; go_big_quiet_on)
               | (refine q_load 9 _ _ _ rfl rfl L1 ?_; simp only [Act.put, List.setIfInBounds_toArray, List.set_cons_zero, List.set_cons_succ]; go_big_quiet_on)
               | (go_big_quiet_op; refine ⟨_, fun _ _ => rfl, ?_⟩; go_big_quiet_on)
               | (go_big_quiet_op; apply Exists.intro; refine ⟨fun w' hw' => ?_, ?_⟩
                  · first
                    | (with_reducible refine (HK.out w' hw').mono ?_
                       rintro e w2 ⟨rfl, hb2⟩
                       exact ⟨rfl, hw'.trans (hb2.mono hw'.size)⟩)
                    | (with_reducible refine (szero_below w').mono ?_
                       rintro e w2 ⟨rfl, hb2⟩
                       exact ⟨rfl, hw'.trans (hb2.mono hw'.size)⟩)
                  go_big_quiet_on)))
        refine wpQuiet_nil ?_
        intro w9 hb9
        clear L0 L1
        go_wp2
        go_ret
        exact ⟨by simp [h1, h2, h3], HB.out.trans (hb9.mono HB.out.size)⟩
  · have i1 : ¬ (ks.length : Int) ≤ 6 := by omega
    have d1 : decide ((ks.length : Int) ≤ 6) = false := decide_eq_false i1
    refine wp_region_below W (by kernel_rfl) (by kernel_rfl) (Below.refl _ _) ?_
    repeat (first
      | go_big_quiet_skip
      | (go_big_quiet_want
         first
           | (go_big_quiet_op; go_big_quiet_on)
           | (refine q_load 43 _ _ _ rfl rfl L0 ?_; simp only [Act.put, List.setIfInBounds_toArray, List.set_cons_zero, List.set_cons_succ]; go_big_quiet_on)
           | (refine q_load 9 _ _ _ rfl rfl L1 ?_; simp only [Act.put, List.setIfInBounds_toArray, List.set_cons_zero, List.set_cons_succ]; go_big_quiet_on)
           | (go_big_quiet_op; refine ⟨_, fun _ _ => rfl, ?_⟩; go_big_quiet_on)
           | (go_big_quiet_op; apply Exists.intro; refine ⟨fun w' hw' => ?_, ?_⟩
              · first
                | (with_reducible refine (HK.out w' hw').mono ?_
                   rintro e w2 ⟨rfl, hb2⟩
                   exact ⟨rfl, hw'.trans (hb2.mono hw'.size)⟩)
                | (with_reducible refine (szero_below w').mono ?_
                   rintro e w2 ⟨rfl, hb2⟩
                   exact ⟨rfl, hw'.trans (hb2.mono hw'.size)⟩)
              go_big_quiet_on)))
    refine wpQuiet_nil ?_
    intro w9 hb9
    clear L0 L1
    go_wp2
    go_ret
    exact ⟨by simp [h1], HB.out.trans (hb9.mono HB.out.size)⟩
end Go.Proofs.YtadjmfhhpkjpaaaDoor
namespace Go.Proofs.YtadjmfhhpkjpaaaDoor
open Go.ChangeShapes Go.WideShapes Go.ChangeAt Go.RowKit Go.BigFrame
set_option linter.unusedVariables false

abbrev R3 := K2 × ByteArray
def r0 : R3 := ((0, 0), ByteArray.empty)
def rv (r : R3) : Value := .agg #[.int .i64 r.1.1, .int .i64 r.1.2, .string r.2]
def rdOkB (r : R3) : Bool := keyOkB r.1 && decide (r.2.size = 4)
/-- the slice value v leads to the readings rs -/
def rdAt (w : World) (v : Value) (rs : List R3) : Prop :=
  ∃ a cap, v = .slice a rs.length cap ∧ rs.length ≤ cap ∧ (rs.length = 0 ∨ ∃ g off, a = some ⟨g, off, none⟩ ∧ g < w.heap.size ∧
    ∀ i, i < rs.length → w.cell? ⟨g, off + i * 3, none⟩ = some (.int .i64 (rs.getD i r0).1.1) ∧ w.cell? ⟨g, off + i * 3 + 1, none⟩ = some (.int .i64 (rs.getD i r0).1.2) ∧
      w.cell? ⟨g, off + i * 3 + 2, none⟩ = some (.string (rs.getD i r0).2))
theorem rdAt_below {w w' : World} {v : Value} {rs : List R3} (h : rdAt w v rs) (hb : Below w.heap.size w w') : rdAt w' v rs := by
  obtain ⟨a, cap, h1, h2, h3⟩ := h
  refine ⟨a, cap, h1, h2, h3.imp_right ?_⟩
  rintro ⟨g, off, h4, h5, h6⟩
  refine ⟨g, off, h4, Nat.lt_of_lt_of_le h5 hb.size, fun i hi => ?_⟩
  rw [hb.cell (p := ⟨g, off + i * 3, none⟩) h5, hb.cell (p := ⟨g, off + i * 3 + 1, none⟩) h5, hb.cell (p := ⟨g, off + i * 3 + 2, none⟩) h5]
  exact h6 i hi
def rdCells (rs : List R3) : List Value := rs.flatMap fun r => [.int .i64 r.1.1, .int .i64 r.1.2, .string r.2]
theorem rdCells_len : ∀ rs : List R3, (rdCells rs).length = rs.length * 3
  | [] => rfl
  | r :: l => by
    have := rdCells_len l
    simp only [rdCells, List.flatMap_cons, List.length_append, List.length_cons, List.length_nil] at *
    omega
theorem rdCells_snoc (rs : List R3) (r : R3) : rdCells (rs ++ [r]) = rdCells rs ++ [.int .i64 r.1.1, .int .i64 r.1.2, .string r.2] := by simp [rdCells]
theorem rdCells_get : ∀ (rs : List R3) (i : Nat), i < rs.length → (rdCells rs)[i * 3]? = some (.int .i64 (rs.getD i r0).1.1) ∧ (rdCells rs)[i * 3 + 1]? = some (.int .i64 (rs.getD i r0).1.2) ∧ (rdCells rs)[i * 3 + 2]? = some (.string (rs.getD i r0).2)
  | [], _, h => by simp at h
  | k :: r, 0, _ => by simp [rdCells]
  | k :: r, i + 1, h => by
    have ih := rdCells_get r i (by simpa using h)
    have e1 : (i + 1) * 3 = i * 3 + 1 + 1 + 1 := by omega
    rw [e1, show i * 3 + 1 + 1 + 1 + 1 = i * 3 + 1 + 1 + 1 + 1 from rfl, show i * 3 + 1 + 1 + 1 + 2 = i * 3 + 2 + 1 + 1 + 1 by omega]
    simp only [rdCells, List.flatMap_cons, List.cons_append, List.nil_append, List.getElem?_cons_succ, List.getD_cons_succ] at *
    exact ih
/-- what is owned leads to its readings -/
theorem rdAt_own {w : World} {base : Nat} {v : Value} {rs : List R3} (h : w.ownsRow base 41 3 v rs.length (rdCells rs)) : rdAt w v rs := by
  rcases h.2 with ⟨rfl, h0⟩ | ⟨g, cap, cur, rfl, hb, hg, hn, hm, hs, ht⟩
  · exact ⟨none, 0, by rw [h0], by omega, .inl h0⟩
  · refine ⟨_, cap, rfl, hn, .inr ⟨g, 0, rfl, (Array.getElem?_eq_some_iff.1 hg).1, fun i hi => ?_⟩⟩
    have hc := rdCells_get rs i hi
    rw [Nat.zero_add, h.cellAt (i * 3) (by omega), h.cellAt (i * 3 + 1) (by omega), h.cellAt (i * 3 + 2) (by omega)]
    exact hc
theorem rd_load {w : World} {g o : Nat} {r : R3} (hc : w.cell? ⟨g, o, none⟩ = some (.int .i64 r.1.1) ∧ w.cell? ⟨g, o + 1, none⟩ = some (.int .i64 r.1.2) ∧ w.cell? ⟨g, o + 2, none⟩ = some (.string r.2)) {w' : World} (hg : g < w.heap.size) (hb : Below w.heap.size w w') :
    (loadVar 41 ⟨g, o, none⟩).run Tryd.prog w' = .ok (rv r) w' := by
  refine run_loadVar_mid w' g o 41 [.int .i64 r.1.1, .int .i64 r.1.2, .string r.2] _ (fun j v hj => ?_) Tryd.underlying41 rfl (by kernel_rfl)
  have hj2 : j < 3 := by have := (List.getElem?_eq_some_iff.1 hj).1; simpa using this
  rcases (by omega : j = 0 ∨ j = 1 ∨ j = 2) with rfl | rfl | rfl
  · rw [hb.cell (p := ⟨g, o + 0, none⟩) hg]
    simpa using hc.1.trans (by simpa using hj)
  · rw [hb.cell (p := ⟨g, o + 1, none⟩) hg]
    simpa using hc.2.1.trans (by simpa using hj)
  · rw [hb.cell (p := ⟨g, o + 2, none⟩) hg]
    simpa using hc.2.2.trans (by simpa using hj)
/-- the key of a reading, alone -/
theorem rdk_load {w : World} {g o : Nat} {r : R3} (hc : w.cell? ⟨g, o, none⟩ = some (.int .i64 r.1.1) ∧ w.cell? ⟨g, o + 1, none⟩ = some (.int .i64 r.1.2) ∧ w.cell? ⟨g, o + 2, none⟩ = some (.string r.2)) {w' : World} (hg : g < w.heap.size) (hb : Below w.heap.size w w') :
    (loadVar 39 ⟨g, o, none⟩).run Tryd.prog w' = .ok (kv r.1) w' := key_load ⟨hc.1, hc.2.1⟩ hg hb
end Go.Proofs.YtadjmfhhpkjpaaaDoor
namespace Go.Proofs.YtadjmfhhpkjpaaaDoor
open Go.ChangeShapes Go.WideShapes Go.ChangeAt Go.RowKit Go.BigFrame
set_option linter.unusedVariables false

theorem sreadingok_any (r : R3) (w : World) : Calls Tryd.prog 24 #[rv r] w fun e w' => e = .returned (.bool (rdOkB r)) ∧ Below w.heap.size w w' := by
  obtain ⟨⟨n, s⟩, x⟩ := r
  unfold rdOkB rv
  dsimp only
  have hb : Below w.heap.size w (w.alloc (.cells #[.int .i64 n, .int .i64 s, .string x] 41)) := (Below.refl _ _).alloc (Nat.le_refl _) _
  have L1 := rdk_load (r := ((n, s), x)) (w := w.alloc (.cells #[.int .i64 n, .int .i64 s, .string x] 41)) (g := w.heap.size) (o := 0) ⟨by simp, by simp, by simp⟩ (by simp) (Below.refl _ _)
  have c2 : (w.alloc (.cells #[.int .i64 n, .int .i64 s, .string x] 41)).cell? ⟨w.heap.size, 2, none⟩ = some (.string x) := by simp
  have hlt : w.heap.size < (w.alloc (.cells #[.int .i64 n, .int .i64 s, .string x] 41)).heap.size := by simp
  have H1 := fun w => skeyok_any (n, s) w
  go_enter Tryd.func24, Tryd.ntmps24
  have HZ := Lib.hid (show ((x.size : Int) = 4) = (x.size = 4) from propext (by omega))
  generalize keyOkB (n, s) = p at *
  dsimp only at L1
  cases p with
  | false =>
    go_wp2_with fail
    refine (H1 _).mono ?_
    rintro e w1 ⟨rfl, hb1⟩
    have hB := hb.trans (hb1.mono hb.size)
    go_wp2
    go_ret
    exact ⟨by simp, hB⟩
  | true =>
    go_wp2_with fail
    refine (H1 _).mono ?_
    rintro e w1 ⟨rfl, hb1⟩
    have hB := hb.trans (hb1.mono hb.size)
    have c3 : w1.cell? ⟨w.heap.size, 2, none⟩ = some (.string x) := (hb1.cell (p := ⟨w.heap.size, 2, none⟩) hlt).trans c2
    by_cases h4 : x.size = 4
    · have e4 : (x.size : Int) = 4 := by omega
      clear hb hb1 c2 H1 L1
      go_wp2
      go_ret
      exact ⟨by simp [h4], hB⟩
    · have e4 : ¬ (x.size : Int) = 4 := by omega
      clear hb hb1 c2 H1 L1
      go_wp2
      go_ret
      exact ⟨by simp [h4, e4], hB⟩
end Go.Proofs.YtadjmfhhpkjpaaaDoor
namespace Go.Proofs.YtadjmfhhpkjpaaaDoor
open Go.ChangeShapes Go.WideShapes Go.ChangeAt Go.RowKit Go.BigFrame
set_option linter.unusedVariables false

theorem addr_plusK (g off j : Nat) : (⟨g, off, none⟩ : Addr).add j = ⟨g, off + j, none⟩ := by
  unfold Addr.add
  split
  · rename_i h; simp [h]
  · rfl
end Go.Proofs.YtadjmfhhpkjpaaaDoor
namespace Go.Proofs.YtadjmfhhpkjpaaaDoor
open Go.ChangeShapes Go.WideShapes Go.ChangeAt Go.RowKit Go.BigFrame
set_option linter.unusedVariables false

/-- the cells of a word's result, of nothing yet -/
theorem cd_res {W : World} {b : Nat} {v0 : Value} {y0 : ByteArray} (h : W.heap[b]? = some (.cells #[v0, .string y0] 45)) (v : Value) (y : ByteArray) :
    (loadVar 45 ⟨b, 0, none⟩).run Tryd.prog ((W.setCell ⟨b, 0, none⟩ v).setCell ⟨b, 1, none⟩ (.string y)) = .ok (.agg #[v, .string y]) ((W.setCell ⟨b, 0, none⟩ v).setCell ⟨b, 1, none⟩ (.string y)) :=
  cd_load (set2 v (.string y) h) (Below.refl _ _)
theorem own_set2 {W : World} {base n b : Nat} {e : TypeId} {size : Nat} {v : Value} {xs : List Value} (h : W.ownsRow base e size v n xs) (hb : b < base) (p q : Value) : ((W.setCell ⟨b, 0, none⟩ p).setCell ⟨b, 1, none⟩ q).ownsRow base e size v n xs :=
  h.kept (grown2 W b p q) (by
    cases hv : v.ownBlock with
    | none => exact .inl rfl
    | some g => exact .inr (fun e => by cases e; have := (h.lt _ hv).1; omega))
end Go.Proofs.YtadjmfhhpkjpaaaDoor
namespace Go.Proofs.YtadjmfhhpkjpaaaDoor
open Go.ChangeShapes Go.WideShapes Go.ChangeAt Go.RowKit Go.BigFrame
set_option linter.unusedVariables false

theorem own_shape {w : World} {base n : Nat} {e : TypeId} {v : Value} {size : Nat} {xs : List Value} (h : w.ownsRow base e size v n xs) : ∃ a n c, v = .slice a n c := by
  rcases h.2 with ⟨h, _⟩ | ⟨g, cap, cur, h, _⟩
  · exact ⟨_, _, _, h⟩
  · exact ⟨_, _, _, h⟩
end Go.Proofs.YtadjmfhhpkjpaaaDoor
namespace Go.Proofs.YtadjmfhhpkjpaaaDoor
open Go.ChangeShapes Go.WideShapes Go.ChangeAt Go.RowKit Go.BigFrame
set_option linter.unusedVariables false

/-- the slice value v leads to the keys ks, in another block than b -/
def keysAv (w : World) (b : Option Nat) (v : Value) (ks : List K2) : Prop :=
  ∃ a cap, v = .slice a ks.length cap ∧ ks.length ≤ cap ∧ (ks.length = 0 ∨ ∃ g off, a = some ⟨g, off, none⟩ ∧ g < w.heap.size ∧ some g ≠ b ∧
    ∀ i, i < ks.length → w.cell? ⟨g, off + i * 2, none⟩ = some (.int .i64 (ks.getD i (0, 0)).1) ∧ w.cell? ⟨g, off + i * 2 + 1, none⟩ = some (.int .i64 (ks.getD i (0, 0)).2))
theorem keysAv.to {w : World} {b : Option Nat} {v : Value} {ks : List K2} (h : keysAv w b v ks) : keysAt w v ks := by
  obtain ⟨a, cap, h1, h2, h3⟩ := h
  refine ⟨a, cap, h1, h2, h3.imp_right ?_⟩
  rintro ⟨g, off, h4, h5, -, h6⟩
  exact ⟨g, off, h4, h5, h6⟩
theorem keysAv_of {w : World} {b : Option Nat} {v : Value} {ks : List K2} (h : keysAt w v ks) (hb : ∀ g, g < w.heap.size → some g ≠ b) : keysAv w b v ks := by
  obtain ⟨a, cap, h1, h2, h3⟩ := h
  refine ⟨a, cap, h1, h2, h3.imp_right ?_⟩
  rintro ⟨g, off, h4, h5, h6⟩
  exact ⟨g, off, h4, h5, hb g h5, h6⟩
theorem keysAv.avoid {w : World} {b b' : Option Nat} {v : Value} {ks : List K2} (h : keysAv w b v ks) (hb : ∀ g, g < w.heap.size → some g ≠ b') : keysAv w b' v ks := keysAv_of h.to hb
theorem keysAv.grown {w w' : World} {b : Option Nat} {v : Value} {ks : List K2} (h : keysAv w b v ks) (hg : w.grownBy w' b) : keysAv w' b v ks := by
  obtain ⟨a, cap, h1, h2, h3⟩ := h
  refine ⟨a, cap, h1, h2, h3.imp_right ?_⟩
  rintro ⟨g, off, h4, h5, h6, h7⟩
  refine ⟨g, off, h4, Nat.lt_of_lt_of_le h5 hg.size, h6, fun i hi => ?_⟩
  obtain ⟨c1, c2⟩ := h7 i hi
  exact ⟨hg.cell c1 h6, hg.cell c2 h6⟩
theorem keysAv.below {w w' : World} {b : Option Nat} {v : Value} {ks : List K2} (h : keysAv w b v ks) (hb : Below w.heap.size w w') : keysAv w' b v ks := h.grown (grown_of_below' hb b)
/-- what is owned above a block lies in another one -/
theorem keysAv_own {w : World} {base b : Nat} {v : Value} {ks : List K2} (h : w.ownsRow base 39 2 v ks.length (keyCells ks)) (hb : b < base) : keysAv w (some b) v ks := by
  rcases h.2 with ⟨rfl, h0⟩ | ⟨g, cap, cur, rfl, hbg, hg, hn, hm, hs, ht⟩
  · exact ⟨none, 0, by rw [h0], by omega, .inl h0⟩
  · refine ⟨_, cap, rfl, hn, .inr ⟨g, 0, rfl, (Array.getElem?_eq_some_iff.1 hg).1, fun e => by cases e; omega, fun i hi => ?_⟩⟩
    have hc := keyCells_get ks i hi
    rw [Nat.zero_add, h.cellAt (i * 2) (by omega), h.cellAt (i * 2 + 1) (by omega)]
    exact hc
/-- the slice value v leads to the words L, their keys in other blocks than b -/
def cdAv (w : World) (b : Option Nat) (v : Value) (L : List C2) : Prop :=
  ∃ a cap, v = .slice a L.length cap ∧ L.length ≤ cap ∧ (L.length = 0 ∨ ∃ g off, a = some ⟨g, off, none⟩ ∧ g < w.heap.size ∧
    ∀ i, i < L.length → ∃ u, w.cell? ⟨g, off + i * 2, none⟩ = some u ∧ w.cell? ⟨g, off + i * 2 + 1, none⟩ = some (.string (L.getD i blankC).2) ∧ keysAv w b u (L.getD i blankC).1)
theorem cdAv_below {w w' : World} {b : Option Nat} {v : Value} {L : List C2} (h : cdAv w b v L) (hb : Below w.heap.size w w') : cdAv w' b v L := by
  obtain ⟨a, cap, h1, h2, h3⟩ := h
  refine ⟨a, cap, h1, h2, h3.imp_right ?_⟩
  rintro ⟨g, off, h4, h5, h6⟩
  refine ⟨g, off, h4, Nat.lt_of_lt_of_le h5 hb.size, fun i hi => ?_⟩
  obtain ⟨u, c1, c2, c3⟩ := h6 i hi
  exact ⟨u, (hb.cell (p := ⟨g, off + i * 2, none⟩) h5).trans c1, (hb.cell (p := ⟨g, off + i * 2 + 1, none⟩) h5).trans c2, c3.below hb⟩
theorem cdAv.avoid {w : World} {b b' : Option Nat} {v : Value} {L : List C2} (h : cdAv w b v L) (hb : ∀ g, g < w.heap.size → some g ≠ b') : cdAv w b' v L := by
  obtain ⟨a, cap, h1, h2, h3⟩ := h
  refine ⟨a, cap, h1, h2, h3.imp_right ?_⟩
  rintro ⟨g, off, h4, h5, h6⟩
  refine ⟨g, off, h4, h5, fun i hi => ?_⟩
  obtain ⟨u, c1, c2, c3⟩ := h6 i hi
  exact ⟨u, c1, c2, c3.avoid hb⟩
def cdCells : List Value → List C2 → List Value
  | u :: us, x :: L => u :: .string x.2 :: cdCells us L
  | _, _ => []
theorem cdCells_len : ∀ (us : List Value) (L : List C2), us.length = L.length → (cdCells us L).length = L.length * 2
  | [], [], _ => rfl
  | u :: us, x :: L, h => by
    have := cdCells_len us L (by simpa using h)
    simp only [cdCells, List.length_cons]
    omega
  | [], _ :: _, h => by simp at h
  | _ :: _, [], h => by simp at h
theorem cdCells_app : ∀ (us us' : List Value) (L M : List C2), us.length = L.length → cdCells (us ++ us') (L ++ M) = cdCells us L ++ cdCells us' M
  | [], us', [], M, _ => rfl
  | u :: us, us', x :: L, M, h => by
    have := cdCells_app us us' L M (by simpa using h)
    simp only [List.cons_append, cdCells, this]
  | [], _, _ :: _, _, h => by simp at h
  | _ :: _, _, [], _, h => by simp at h
theorem cdCells_get : ∀ (us : List Value) (L : List C2) (i : Nat), us.length = L.length → i < L.length → (cdCells us L)[i * 2]? = some (us.getD i undef) ∧ (cdCells us L)[i * 2 + 1]? = some (.string (L.getD i blankC).2)
  | [], [], _, _, h => by simp at h
  | u :: us, x :: L, 0, _, _ => by simp [cdCells]
  | u :: us, x :: L, i + 1, h, hi => by
    have ih := cdCells_get us L i (by simpa using h) (by simpa using hi)
    have e1 : (i + 1) * 2 = i * 2 + 1 + 1 := by omega
    rw [e1]
    simp only [cdCells, List.getElem?_cons_succ, List.getD_cons_succ]
    exact ih
  | [], _ :: _, _, h, _ => by simp at h
  | _ :: _, [], _, h, _ => by simp at h
theorem cdCells_set : ∀ (us : List Value) (L : List C2) (i : Nat) (u : Value) (x : C2), us.length = L.length → ((cdCells us L).set (i * 2) u).set (i * 2 + 1) (.string x.2) = cdCells (us.set i u) (L.set i x)
  | [], [], _, _, _, _ => rfl
  | v :: us, y :: L, 0, u, x, _ => by simp [cdCells]
  | v :: us, y :: L, i + 1, u, x, h => by
    have ih := cdCells_set us L i u x (by simpa using h)
    have e1 : (i + 1) * 2 = i * 2 + 1 + 1 := by omega
    rw [e1]
    simp only [cdCells, List.set_cons_succ]
    rw [ih]
  | [], _ :: _, _, _, _, h => by simp at h
  | _ :: _, [], _, _, _, h => by simp at h
/-- a list of words of one's own: their keys' slices us, in other blocks -/
structure cdOwn (w : World) (base : Nat) (v : Value) (us : List Value) (L : List C2) : Prop where
  len : us.length = L.length
  own : w.ownsRow base 45 2 v L.length (cdCells us L)
  keys : ∀ i, i < L.length → keysAv w v.ownBlock (us.getD i undef) (L.getD i blankC).1
theorem cdOwn.below {w w' : World} {base : Nat} {v : Value} {us : List Value} {L : List C2} (h : cdOwn w base v us L) (hb : Below w.heap.size w w') : cdOwn w' base v us L :=
  ⟨h.len, own_below h.own hb, fun i hi => (h.keys i hi).below hb⟩
theorem cdOwn.drew {w : World} {base : Nat} {v : Value} {us : List Value} {L : List C2} (h : cdOwn w base v us L) : cdOwn w.drew base v us L := ⟨h.len, h.own, h.keys⟩
theorem cdOwn.base {w : World} {base base' : Nat} {v : Value} {us : List Value} {L : List C2} (h : cdOwn w base v us L) (hb : base' ≤ base) : cdOwn w base' v us L :=
  ⟨h.len, own_base h.own hb, h.keys⟩
/-- another block of one's own is written -/
theorem cdOwn.other {w w' : World} {base : Nat} {b : Option Nat} {v : Value} {us : List Value} {L : List C2} (h : cdOwn w base v us L) (hg : w.grownBy w' b) (h1 : v.ownBlock ≠ b) (h2 : ∀ i, i < L.length → keysAv w b (us.getD i undef) (L.getD i blankC).1) : cdOwn w' base v us L := by
  refine ⟨h.len, h.own.kept hg (.inr h1), fun i hi => ?_⟩
  obtain ⟨a, cap, e1, e2, e3⟩ := h.keys i hi
  obtain ⟨a', cap', f1, f2, f3⟩ := (h2 i hi).grown hg
  refine ⟨a', cap', f1, f2, ?_⟩
  rw [e1] at f1
  cases f1
  rcases e3 with e3 | ⟨g, off, rfl, g1, g2, g3⟩
  · exact .inl e3
  · rcases f3 with f3 | ⟨g', off', e, j1, j2, j3⟩
    · exact .inl f3
    · cases e
      exact .inr ⟨g, off, rfl, j1, g2, j3⟩
theorem cdOwn.to {w : World} {base : Nat} {v : Value} {us : List Value} {L : List C2} (h : cdOwn w base v us L) : cdAv w v.ownBlock v L := by
  rcases h.own.2 with ⟨rfl, h0⟩ | ⟨g, cap, cur, rfl, hb, hg, hn, hm, hs, ht⟩
  · exact ⟨none, 0, by rw [h0], by omega, .inl h0⟩
  · refine ⟨_, cap, rfl, hn, .inr ⟨g, 0, rfl, (Array.getElem?_eq_some_iff.1 hg).1, fun i hi => ?_⟩⟩
    have hc := cdCells_get us L i h.len hi
    rw [Nat.zero_add, h.own.cellAt (i * 2) (by omega), h.own.cellAt (i * 2 + 1) (by omega)]
    exact ⟨_, hc.1, hc.2, h.keys i hi⟩
theorem cdAv_any {w : World} {b : Option Nat} {v : Value} {L : List C2} (h : cdAv w b v L) : cdAv w none v L := h.avoid fun g _ e => by cases e
theorem cdOwn.nil (w : World) (base : Nat) : cdOwn w base (.slice none 0 0) [] [] := ⟨rfl, World.ownsRow_nil .., fun i hi => by simp at hi⟩
theorem infoC : (Tryd.prog.info? 45).map (fun i => (i.zero, i.size, i.bytes)) = some (some (.agg #[.slice none 0 0, .string ⟨#[]⟩]), 2, 40) := by kernel_rfl
/-- the slices of a list's words -/
theorem cdAv.slices {w : World} {b : Option Nat} {g off : Nat} {L : List C2} (h : ∀ i, i < L.length → ∃ u, w.cell? ⟨g, off + i * 2, none⟩ = some u ∧ w.cell? ⟨g, off + i * 2 + 1, none⟩ = some (.string (L.getD i blankC).2) ∧ keysAv w b u (L.getD i blankC).1) :
    ∃ us : List Value, us.length = L.length ∧ (∀ i, i < L.length → keysAv w b (us.getD i undef) (L.getD i blankC).1) ∧ (∀ u ∈ us, ∃ a n c, u = .slice a n c) ∧ ∀ j u, (cdCells us L)[j]? = some u → w.cell? ((⟨g, off, none⟩ : Addr).add j) = some u := by
  have hget : ∀ i, i < L.length → ((List.range L.length).map fun i => (w.cell? ⟨g, off + i * 2, none⟩).getD undef).getD i undef = (w.cell? ⟨g, off + i * 2, none⟩).getD undef := by
    intro i hi
    simp [List.getD, hi]
  have hlen : ((List.range L.length).map fun i => (w.cell? ⟨g, off + i * 2, none⟩).getD undef).length = L.length := by simp
  have hmem : ∀ u ∈ (List.range L.length).map fun i => (w.cell? ⟨g, off + i * 2, none⟩).getD undef, ∃ a n c, u = .slice a n c := by
    intro u hu
    obtain ⟨i, hi, rfl⟩ := List.mem_map.1 hu
    obtain ⟨u, c1, c2, a, cap, rfl, _⟩ := h i (List.mem_range.1 hi)
    rw [c1]; exact ⟨_, _, _, rfl⟩
  generalize ((List.range L.length).map fun i => (w.cell? ⟨g, off + i * 2, none⟩).getD undef) = us at *
  refine ⟨us, hlen, fun i hi => ?_, hmem, fun j u hu => ?_⟩
  · obtain ⟨u, c1, c2, c3⟩ := h i hi
    rw [hget i hi, c1]
    exact c3
  · have hl := cdCells_len us L hlen
    have hj : j < L.length * 2 := by rw [← hl]; exact (List.getElem?_eq_some_iff.1 hu).1
    have hc := cdCells_get us L (j / 2) hlen (by omega)
    obtain ⟨x, c1, c2, c3⟩ := h (j / 2) (by omega)
    rw [hget _ (by omega), c1] at hc
    rw [addr_plusK]
    rcases (by omega : j = j / 2 * 2 ∨ j = j / 2 * 2 + 1) with e | e
    · rw [← e] at hc c1
      rw [hc.1] at hu
      cases hu
      exact c1
    · rw [← e] at hc
      rw [hc.2] at hu
      cases hu
      rw [show off + j / 2 * 2 + 1 = off + j by omega] at c2
      exact c2
/-- a word of the list set anew -/
theorem cdOwn.set {w : World} {base g cap n : Nat} {us : List Value} {L : List C2} (h : cdOwn w base (.slice (some ⟨g, 0, none⟩) n cap) us L) (i : Nat) (u : Value) (x : C2) (hu : keysAv w (some g) u x.1) :
    cdOwn ((w.setCell ⟨g, i * 2, none⟩ u).setCell ⟨g, i * 2 + 1, none⟩ (.string x.2)) base (.slice (some ⟨g, 0, none⟩) n cap) (us.set i u) (L.set i x) := by
  have hn : n = L.length := by
    rcases h.own.2 with ⟨e, _⟩ | ⟨_, _, _, e, _⟩
    · cases e
    · cases e; rfl
  subst hn
  have st1 := h.own.stored (i * 2) u
  have st2 := st1.1.stored (i * 2 + 1) (.string x.2)
  rw [cdCells_set _ _ _ _ _ h.len] at st2
  have hg1 : w.grownBy ((w.setCell ⟨g, i * 2, none⟩ u).setCell ⟨g, i * 2 + 1, none⟩ (.string x.2)) (some g) := (Lib.grownBy_setCell w g (i * 2) u).trans (Lib.grownBy_setCell _ g (i * 2 + 1) (.string x.2))
  refine ⟨by simp [h.len], by rw [List.length_set]; exact st2.1, fun j hj => ?_⟩
  rw [List.length_set] at hj
  have hk : keysAv w (some g) ((us.set i u).getD j undef) ((L.set i x).getD j blankC).1 := by
    by_cases e : i = j
    · subst e
      have e1 : (us.set i u).getD i undef = u := by simp [List.getD, h.len, hj]
      have e2 : (L.set i x).getD i blankC = x := by simp [List.getD, hj]
      rw [e1, e2]; exact hu
    · have e1 : (us.set i u).getD j undef = us.getD j undef := by simp [List.getD, e]
      have e2 : (L.set i x).getD j blankC = L.getD j blankC := by simp [List.getD, e]
      rw [e1, e2]; exact h.keys j hj
  exact hk.grown hg1
end Go.Proofs.YtadjmfhhpkjpaaaDoor
namespace Go.Proofs.YtadjmfhhpkjpaaaDoor
open Go.ChangeShapes Go.WideShapes Go.ChangeAt Go.RowKit Go.BigFrame
set_option linter.unusedVariables false

theorem tokey_any (k : K2) (w : World) : Calls Tryd.prog 44 #[kv k] w fun e w' => e = .returned (kv k) ∧ Below w.heap.size w w' := by
  obtain ⟨n, s⟩ := k
  unfold kv
  dsimp only
  have hB : ∀ o1 o2 o3, Below w.heap.size w (((w.alloc o1).alloc o2).alloc o3) := fun o1 o2 o3 => (((Below.refl _ _).alloc (Nat.le_refl _) _).alloc (by simp) _).alloc (by simp; omega) _
  have HB := Lib.hid hB; clear hB
  go_enter Tryd.func44, Tryd.ntmps44
  go_wp2
  refine bodyPost_ret (v := .agg #[.int .i64 n, .int .i64 s]) ?_ rfl ⟨rfl, HB.out _ _ _⟩
  rw [results_cell (p := 2) (ty := 39) (by kernel_rfl)]
  have hl := run_loadVar_row (P := Tryd.prog) (((w.alloc (.cells #[.int .i64 n, .int .i64 s] 54)).alloc (.cells #[.int .i64 n, .int .i64 s] 39)).alloc (.cells #[.int .i64 n, .int .i64 s] 39)) (w.heap.size + 1) 39 39 #[.int .i64 n, .int .i64 s] (0, 0) _ (heap_mid w _ _ _) Tryd.underlying39 rfl (by kernel_rfl)
  simp [asAddr, Result.andThen, hl]
theorem eqkey_any (p q : K2) (w : World) : Calls Tryd.prog 52 #[kv p, kv q] w fun e w' => e = .returned (.bool (p == q)) ∧ Below w.heap.size w w' := by
  obtain ⟨a, b⟩ := p; obtain ⟨c, d⟩ := q
  have hB : ∀ o o', Below w.heap.size w ((w.alloc o).alloc o') := fun o o' => ((Below.refl _ _).alloc (Nat.le_refl _) _).alloc (by simp) _
  have HB := Lib.hid hB; clear hB
  by_cases h1 : a = c
  · by_cases h2 : b = d
    · have he : ((a, b) == (c, d)) = true := by simp [h1, h2]
      rw [he]
      unfold kv
      dsimp only
      subst h1; subst h2
      go_enter Tryd.func52, Tryd.ntmps52
      go_wp2
      go_ret
      exact ⟨rfl, HB.out _ _⟩
    · have he : ((a, b) == (c, d)) = false := by simp [h1, h2]
      rw [he]
      unfold kv
      dsimp only
      subst h1
      go_enter Tryd.func52, Tryd.ntmps52
      go_wp2
      go_ret
      exact ⟨rfl, HB.out _ _⟩
  · have he : ((a, b) == (c, d)) = false := by simp [h1]
    rw [he]
    unfold kv
    dsimp only
    go_enter Tryd.func52, Tryd.ntmps52
    go_wp2
    go_ret
    exact ⟨rfl, HB.out _ _⟩
end Go.Proofs.YtadjmfhhpkjpaaaDoor
namespace Go.Proofs.YtadjmfhhpkjpaaaDoor
open Go.ChangeShapes Go.WideShapes Go.ChangeAt Go.RowKit Go.BigFrame
set_option linter.unusedVariables false

theorem szkeys_any (v : Value) (ks : List K2) (left : Int) (w : World) (h : ∃ a cap, v = .slice a ks.length cap) (hl : 0 ≤ left ∧ left ≤ 1000000000) (hs : ks.length ≤ 9223372036854775807) :
    Calls Tryd.prog 40 #[v, .int .i64 left] w fun e w' => e = .returned (.int .i64 (if left - (ks.length : Int) < 0 then -1 else left - (ks.length : Int))) ∧ w' = w := by
  obtain ⟨a, cap, rfl⟩ := h
  by_cases hn : left - (ks.length : Int) < 0
  · rw [if_pos hn]
    have ew : IntKind.i64.wrap (left - (ks.length : Int)) = left - (ks.length : Int) := IntWalk.i64_in _ (by omega)
    go_enter Tryd.func40, Tryd.ntmps40
    go_wp2
    go_ret
    exact ⟨rfl, rfl⟩
  · rw [if_neg hn]
    have ew : IntKind.i64.wrap (left - (ks.length : Int)) = left - (ks.length : Int) := IntWalk.i64_in _ (by omega)
    go_enter Tryd.func40, Tryd.ntmps40
    go_wp2
    go_ret
    exact ⟨rfl, rfl⟩
theorem set_key (ks : List K2) (k : Nat) (p q : Int) (u1 u2 : Value) (rest : List Value) (hk : k < ks.length) (hx : ks.getD k (0, 0) = (p, q)) :
    ((keyCells (ks.take k) ++ u1 :: u2 :: rest).set (k * 2) (.int .i64 p)).set (k * 2 + 1) (.int .i64 q) = keyCells (ks.take (k + 1)) ++ rest := by
  have hl := keyCells_len (ks.take k)
  have hl2 : (keyCells (ks.take k)).length = k * 2 := by rw [hl]; simp; omega
  rw [List.take_succ_eq_append_getElem hk, keyCells_snoc, show ks[k] = (p, q) by rw [← hx]; simp [List.getD, hk]]
  rw [List.set_append_right _ _ (by omega), hl2, Nat.sub_self, List.set_cons_zero, List.set_append_right _ _ (by omega), hl2, show k * 2 + 1 - k * 2 = 1 by omega]
  simp
set_option maxRecDepth 100000 in
set_option maxHeartbeats 1000000 in
theorem tokeys_any (v : Value) (ks : List K2) (w : World) (h : keysAt w v ks) (hs : ks.length ≤ 2000000) : Calls Tryd.prog 45 #[v] w fun e w' => ∃ g, e = .returned (.slice (some ⟨g, 0, none⟩) ks.length ks.length) ∧ w.heap.size ≤ g ∧
    w'.ownsRow w.heap.size 39 2 (.slice (some ⟨g, 0, none⟩) ks.length ks.length) ks.length (keyCells ks) ∧ Below w.heap.size w w' := by
  obtain ⟨a, cap, rfl, hcap, hcells⟩ := h
  obtain ⟨i0, hi, hz0, hz1, hz2⟩ := info_parts infoK
  obtain ⟨W, hmk, hown0, hgr0⟩ := run_make_full (P := Tryd.prog) w w.heap.size 43 39 i0 _ 2 Tryd.underlying43 hi hz0 hz1 .i64 .i64 ks.length (by rw [hz2]; omega) (by unfold maxLen; omega) (Nat.le_refl _)
  have hb0 : Below w.heap.size w W := (Below.refl _ _).grown hgr0 (Nat.le_refl _) (by simp)
  have hrest : (madeCells (Value.agg #[.int .i64 0, .int .i64 0]).cells (ks.length * 2)).toList.length = ks.length * 2 := hown0.1
  generalize (madeCells (Value.agg #[.int .i64 0, .int .i64 0]).cells (ks.length * 2)).toList = Z at *
  go_enter Tryd.func45, Tryd.ntmps45
  go_wp2
  clear hmk hgr0
  go_loopw [4] (fun i wr => ∃ (k : Nat) (rest : List Value), k ≤ ks.length ∧ i = .int .i64 k ∧ wr.ownsRow w.heap.size 39 2 (.slice (some ⟨w.heap.size, 0, none⟩) ks.length ks.length) ks.length (keyCells (ks.take k) ++ rest) ∧ Below w.heap.size w wr)
    (fun i _ => ks.length - (intOf i).toNat)
  case atStart => exact ⟨0, Z, Nat.zero_le _, rfl, by simpa [keyCells] using hown0, hb0⟩
  case round =>
    obtain ⟨k, rest, hk, rfl, hown, hbr⟩ := hrel
    clear hown0 hb0 hrest
    by_cases hlt : k < ks.length
    · obtain ⟨ga, off, rfl, hg, hcs⟩ := hcells.resolve_left (by omega)
      have hc := hcs k hlt
      have z0 : (0 : Int) ≤ (k : Int) := by omega
      have z1 : (k : Int) < (ks.length : Int) := by omega
      have d1 : wr.cell? ⟨ga, off + k * 2, none⟩ = some (.int .i64 (ks.getD k (0, 0)).1) := by rw [hbr.cell (p := ⟨ga, off + k * 2, none⟩) hg]; exact hc.1
      have d2 : wr.cell? ⟨ga, off + k * 2 + 1, none⟩ = some (.int .i64 (ks.getD k (0, 0)).2) := by rw [hbr.cell (p := ⟨ga, off + k * 2 + 1, none⟩) hg]; exact hc.2
      clear hcs hc hcells
      have hkt : (ks.take k).length = k := by simp; omega
      have hkl := keyCells_len (ks.take k)
      have hrl : rest.length = (ks.length - k) * 2 := by
        have := hown.1
        rw [List.length_append, hkl, hkt] at this
        omega
      obtain ⟨u1, u2, rest2, rfl⟩ : ∃ u1 u2 r, rest = u1 :: u2 :: r := by
        match rest, hrl with
        | [], h => simp at h; omega
        | [_], h => simp at h; omega
        | a :: b :: r, _ => exact ⟨a, b, r, rfl⟩
      generalize hkx : ks.getD k (0, 0) = kx at *
      obtain ⟨p, q⟩ := kx
      have hset := set_key ks k p q u1 u2 rest2 hlt hkx
      have HSET := Lib.hid hset
      have HT := Lib.hid (tokey_any (p, q) wr)
      clear hkx hset hrl
      go_wp2_with fail
      refine HT.out.mono ?_
      rintro e w2 ⟨rfl, hb2⟩
      have hown2 := own_below hown hb2
      have hbq := hbr.trans (hb2.mono hbr.size)
      clear hown hbr hb2 HT d1 d2
      have st1 := hown2.stored (k * 2) (.int .i64 p)
      have st2 := st1.1.stored (k * 2 + 1) (.int .i64 q)
      rw [HSET.out] at st2
      have hbz := (hbq.setCell (p := ⟨w.heap.size, k * 2, none⟩) (Nat.le_refl _) (.int .i64 p)).setCell (p := ⟨w.heap.size, k * 2 + 1, none⟩) (Nat.le_refl _) (.int .i64 q)
      have R := Lib.hid (And.intro st2.1 hbz)
      clear st1 st2 hbz hbq HSET
      obtain ⟨s1, s2⟩ := own_cell hown2 (k * 2) (by omega)
      obtain ⟨s3, s4⟩ := own_cell hown2 (k * 2 + 1) (by omega)
      unfold kv
      dsimp only
      go_wp2
      exact ⟨⟨k + 1, rest2, by omega, by go_num, R.out.1, R.out.2⟩, by simp [intOf]; omega⟩
    · obtain rfl : k = ks.length := by omega
      rw [List.take_length] at hown
      have hr0 : rest = [] := by
        have h1 := hown.1
        rw [List.length_append, keyCells_len] at h1
        exact List.eq_nil_of_length_eq_zero (by omega)
      subst hr0
      rw [List.append_nil] at hown
      go_wp2
      go_ret
      exact ⟨w.heap.size, rfl, Nat.le_refl _, hown, hbr⟩
end Go.Proofs.YtadjmfhhpkjpaaaDoor
namespace Go.Proofs.YtadjmfhhpkjpaaaDoor
open Go.ChangeShapes Go.WideShapes Go.ChangeAt Go.RowKit Go.BigFrame
set_option linter.unusedVariables false
set_option maxRecDepth 100000 in
set_option maxHeartbeats 1000000 in
theorem eqkeys_any (va vb : Value) (A B : List K2) (w : World) (ha : keysAt w va A) (hb : keysAt w vb B) (hsA : A.length ≤ 4000000) (hsB : B.length ≤ 4000000) :
    Calls Tryd.prog 53 #[va, vb] w fun e w' => e = .returned (.bool (decide (A = B))) ∧ Below w.heap.size w w' := by
  obtain ⟨aa, ca, rfl, hca, hcA⟩ := ha
  obtain ⟨ab, cb, rfl, hcb, hcB⟩ := hb
  by_cases hl : A.length = B.length
  · have e0 : (A.length : Int) = (B.length : Int) := by omega
    go_enter Tryd.func53, Tryd.ntmps53
    rw [hl] at hca hcA ⊢
    go_wp2
    go_loopw [5] (fun i wr => ∃ k : Nat, k ≤ B.length ∧ i = .int .i64 k ∧ (∀ j, j < k → A.getD j (0, 0) = B.getD j (0, 0)) ∧ Below w.heap.size w wr) (fun i _ => B.length - (intOf i).toNat)
    case atStart => exact ⟨0, Nat.zero_le _, rfl, fun j hj => by omega, Below.refl _ _⟩
    case round =>
      obtain ⟨k, hk, rfl, hall, hbr⟩ := hrel
      by_cases hlt : k < B.length
      · obtain ⟨ga, offa, rfl, hga, hcsA⟩ := hcA.resolve_left (by omega)
        obtain ⟨gb, offb, rfl, hgb, hcsB⟩ := hcB.resolve_left (by omega)
        have cA := hcsA k hlt
        have cB := hcsB k hlt
        have z0 : (0 : Int) ≤ (k : Int) := by omega
        have z1 : (k : Int) < (B.length : Int) := by omega
        clear hcsA hcsB hcA hcB
        have L1 : ∀ w', Below w.heap.size w w' → (loadVar 39 ⟨ga, offa + k * 2, none⟩).run Tryd.prog w' = .ok (kv (A.getD k (0, 0))) w' := fun w' h => key_load cA hga h
        have L2 : ∀ w', Below w.heap.size w w' → (loadVar 39 ⟨gb, offb + k * 2, none⟩).run Tryd.prog w' = .ok (kv (B.getD k (0, 0))) w' := fun w' h => key_load cB hgb h
        have HE := Lib.hid (fun w => eqkey_any (A.getD k (0, 0)) (B.getD k (0, 0)) w)
        clear cA cB
        cases he : (A.getD k (0, 0) == B.getD k (0, 0)) with
        | true =>
          have hn : ∀ j, j < k + 1 → A.getD j (0, 0) = B.getD j (0, 0) := by
            intro j hj
            rcases (by omega : j < k ∨ j = k) with h1 | rfl
            · exact hall j h1
            · exact eq_of_beq he
          have HN := Lib.hid hn
          rw [he] at HE
          clear hall hn
          generalize A.getD k (0, 0) = kx at *
          generalize B.getD k (0, 0) = ky at *
          go_wp2
          refine wp_region_below w (by kernel_rfl) (by kernel_rfl) hbr ?_
          repeat (first
            | go_big_quiet_skip
            | (go_big_quiet_want
               first
                 | (go_big_quiet_op; go_big_quiet_on)
                 | (refine q_load 39 _ _ _ rfl rfl L1 ?_; simp only [Act.put, List.setIfInBounds_toArray, List.set_cons_zero, List.set_cons_succ]; go_big_quiet_on)
                 | (refine q_load 39 _ _ _ rfl rfl L2 ?_; simp only [Act.put, List.setIfInBounds_toArray, List.set_cons_zero, List.set_cons_succ]; go_big_quiet_on)
                 | (go_big_quiet_op; refine ⟨_, fun _ _ => rfl, ?_⟩; go_big_quiet_on)
                 | (go_big_quiet_op; apply Exists.intro; refine ⟨fun w' hw' => ?_, ?_⟩
                    · first
                      | (refine (HE.out w').mono ?_
                         rintro e w2 ⟨rfl, hb2⟩
                         exact ⟨rfl, hw'.trans (hb2.mono hw'.size)⟩)
                    go_big_quiet_on)))
          refine wpQuiet_nil ?_
          intro w2 hb2
          clear L1 L2 HE hbr
          go_wp2
          exact ⟨⟨k + 1, by omega, by go_num, HN.out, hb2⟩, by simp [intOf]; omega⟩
        | false =>
          have hne : decide (A = B) = false := by
            simp only [decide_eq_false_iff_not]
            intro e
            subst e
            simp at he
          have HD := Lib.hid hne
          rw [he] at HE
          clear hall hne
          generalize A.getD k (0, 0) = kx at *
          generalize B.getD k (0, 0) = ky at *
          go_wp2
          refine wp_region_below w (by kernel_rfl) (by kernel_rfl) hbr ?_
          repeat (first
            | go_big_quiet_skip
            | (go_big_quiet_want
               first
                 | (go_big_quiet_op; go_big_quiet_on)
                 | (refine q_load 39 _ _ _ rfl rfl L1 ?_; simp only [Act.put, List.setIfInBounds_toArray, List.set_cons_zero, List.set_cons_succ]; go_big_quiet_on)
                 | (refine q_load 39 _ _ _ rfl rfl L2 ?_; simp only [Act.put, List.setIfInBounds_toArray, List.set_cons_zero, List.set_cons_succ]; go_big_quiet_on)
                 | (go_big_quiet_op; refine ⟨_, fun _ _ => rfl, ?_⟩; go_big_quiet_on)
                 | (go_big_quiet_op; apply Exists.intro; refine ⟨fun w' hw' => ?_, ?_⟩
                    · first
                      | (refine (HE.out w').mono ?_
                         rintro e w2 ⟨rfl, hb2⟩
                         exact ⟨rfl, hw'.trans (hb2.mono hw'.size)⟩)
                    go_big_quiet_on)))
          refine wpQuiet_nil ?_
          intro w2 hb2
          clear L1 L2 HE hbr
          go_wp2
          go_ret
          exact ⟨by rw [HD.out]; rfl, hb2⟩
      · obtain rfl : k = B.length := by omega
        have he : decide (A = B) = true := by
          simp only [decide_eq_true_eq]
          apply List.ext_getElem hl
          intro i h1 h2
          have := hall i h2
          simpa [List.getD, h1, h2] using this
        have HD := Lib.hid he
        clear hall he
        go_wp2
        go_ret
        exact ⟨by rw [HD.out]; rfl, hbr⟩
  · have hne : decide (A = B) = false := by simp only [decide_eq_false_iff_not]; intro e; subst e; exact hl rfl
    have HD := Lib.hid hne
    have e0 : ¬ (A.length : Int) = (B.length : Int) := by omega
    clear hne
    go_enter Tryd.func53, Tryd.ntmps53
    go_wp2
    go_ret
    exact ⟨by rw [HD.out]; rfl, Below.refl _ _⟩
end Go.Proofs.YtadjmfhhpkjpaaaDoor
namespace Go.Proofs.YtadjmfhhpkjpaaaDoor
open Go.ChangeShapes Go.WideShapes Go.ChangeAt Go.RowKit Go.BigFrame
set_option linter.unusedVariables false

theorem two_boxes (w : World) (va : Value) (ya : ByteArray) (vb : Value) (yb : ByteArray) :
    Below w.heap.size w ((w.alloc (.cells #[va, .string ya] 45)).alloc (.cells #[vb, .string yb] 45)) ∧
    ((w.alloc (.cells #[va, .string ya] 45)).alloc (.cells #[vb, .string yb] 45)).heap[w.heap.size]? = some (.cells #[va, .string ya] 45) ∧
    ((w.alloc (.cells #[va, .string ya] 45)).alloc (.cells #[vb, .string yb] 45)).heap[w.heap.size + 1]? = some (.cells #[vb, .string yb] 45) := by
  have hb1 := (Below.refl w.heap.size w).alloc (Nat.le_refl _) (.cells #[va, .string ya] 45)
  have e1 : (w.alloc (.cells #[va, .string ya] 45)).heap.size = w.heap.size + 1 := by simp
  have r2 := heap_alloc_new (w.alloc (.cells #[va, .string ya] 45)) (.cells #[vb, .string yb] 45)
  rw [e1] at r2
  exact ⟨hb1.alloc hb1.size _, (Below.heap_alloc _ _ w.heap.size (by simp)).trans (heap_alloc_new w _), r2⟩
theorem str_eq (a b : ByteArray) : (a.toList == b.toList) = decide (a = b) := by
  rw [Bool.eq_iff_iff, decide_eq_true_eq, beq_iff_eq, bytes_toList_iff]
set_option maxRecDepth 100000 in
set_option maxHeartbeats 1000000 in
theorem eqcode_any (va : Value) (A : List K2) (ya : ByteArray) (vb : Value) (B : List K2) (yb : ByteArray) (w : World) (ha : keysAt w va A) (hb : keysAt w vb B) (hsA : A.length ≤ 4000000) (hsB : B.length ≤ 4000000) :
    Calls Tryd.prog 39 #[.agg #[va, .string ya], .agg #[vb, .string yb]] w fun e w' => e = .returned (.bool (decide (A = B) && decide (ya = yb))) ∧ Below w.heap.size w w' := by
  obtain ⟨t1, t2, t3⟩ := two_boxes w va ya vb yb
  have HB := Lib.hid t1; have HX := Lib.hid t2; have HY := Lib.hid t3
  have EQ := Lib.hid (fun w' (h : Below w.heap.size w w') => eqkeys_any va vb A B w' (keysAt_below ha h) (keysAt_below hb h) hsA hsB)
  obtain ⟨x0, x1, -, -⟩ := row2_of t2
  obtain ⟨y0, y1, -, -⟩ := row2_of t3
  have hne := str_eq ya yb
  clear t1 t2 t3 ha hb
  generalize decide (A = B) = p at *
  generalize decide (ya = yb) = q at *
  go_enter Tryd.func39, Tryd.ntmps39
  go_wp2_with fail
  generalize (w.alloc (.cells #[va, .string ya] 45)).alloc (.cells #[vb, .string yb] 45) = W at *
  refine (EQ.out _ HB.out).mono ?_
  rintro e w1 ⟨rfl, hb1⟩
  have HB1 := Lib.hid (HB.out.trans (hb1.mono HB.out.size))
  obtain ⟨c0, c1⟩ := cd_cells HX.out hb1
  obtain ⟨d0, d1⟩ := cd_cells HY.out hb1
  clear hb1 x0 x1 y0 y1 HB HX HY EQ
  cases p with
  | false =>
    go_wp2
    go_ret
    exact ⟨rfl, HB1.out⟩
  | true =>
    cases q with
    | false =>
      go_wp2
      go_ret
      exact ⟨rfl, HB1.out⟩
    | true =>
      go_wp2
      go_ret
      exact ⟨rfl, HB1.out⟩
end Go.Proofs.YtadjmfhhpkjpaaaDoor
namespace Go.Proofs.YtadjmfhhpkjpaaaDoor
open Go.ChangeShapes Go.WideShapes Go.ChangeAt Go.RowKit Go.BigFrame
set_option linter.unusedVariables false

def szC (left : Int) (n m : Nat) : Int := if left - (n : Int) < 0 then -1 else if left - (n : Int) - (m : Int) < 0 then -1 else left - (n : Int) - (m : Int)
set_option maxRecDepth 100000 in
set_option maxHeartbeats 1000000 in
theorem szcode_any (v : Value) (ks : List K2) (y : ByteArray) (left : Int) (w : World) (h : ∃ a cap, v = .slice a ks.length cap) (hl : 0 ≤ left ∧ left ≤ 1000000000) (hs : ks.length ≤ 9223372036854775807) (hy : y.size ≤ 9223372036854775807) :
    Calls Tryd.prog 23 #[.agg #[v, .string y], .int .i64 left] w fun e w' => e = .returned (.int .i64 (szC left ks.length y.size)) ∧ Below w.heap.size w w' := by
  have hb := (Below.refl w.heap.size w).alloc (Nat.le_refl _) (.cells #[v, .string y] 60)
  have SZ := Lib.hid (fun w' => szkeys_any v ks left w' h hl hs)
  obtain ⟨x0, x1, -, -⟩ := row2_of (heap_alloc_new w (.cells #[v, .string y] 60))
  have HB := Lib.hid hb
  clear hb h
  unfold szC
  go_enter Tryd.func23, Tryd.ntmps23
  go_wp2_with fail
  generalize w.alloc (.cells #[v, .string y] 60) = W at *
  refine (SZ.out _).mono ?_
  rintro e w1 ⟨rfl, rfl⟩
  clear SZ
  by_cases h1 : left - (ks.length : Int) < 0
  · rw [if_pos h1]
    go_wp2
    go_ret
    exact ⟨rfl, HB.out⟩
  · rw [if_neg h1]
    have ew : IntKind.i64.wrap (left - (ks.length : Int) - (y.size : Int)) = left - (ks.length : Int) - (y.size : Int) := IntWalk.i64_in _ (by omega)
    by_cases h2 : left - (ks.length : Int) - (y.size : Int) < 0
    · go_wp2
      go_ret
      exact ⟨rfl, HB.out⟩
    · go_wp2
      go_ret
      exact ⟨rfl, HB.out⟩
theorem three_boxes (w : World) (v : Value) (y : ByteArray) :
    Below w.heap.size w (((w.alloc (.cells #[v, .string y] 60)).alloc (.cells #[.slice none 0 0, .string ⟨#[]⟩] 45)).alloc (.cells #[.slice none 0 0, .string ⟨#[]⟩] 45)) ∧
    (((w.alloc (.cells #[v, .string y] 60)).alloc (.cells #[.slice none 0 0, .string ⟨#[]⟩] 45)).alloc (.cells #[.slice none 0 0, .string ⟨#[]⟩] 45)).heap[w.heap.size]? = some (.cells #[v, .string y] 60) ∧
    (((w.alloc (.cells #[v, .string y] 60)).alloc (.cells #[.slice none 0 0, .string ⟨#[]⟩] 45)).alloc (.cells #[.slice none 0 0, .string ⟨#[]⟩] 45)).heap[w.heap.size + 1]? = some (.cells #[.slice none 0 0, .string ⟨#[]⟩] 45) ∧
    (((w.alloc (.cells #[v, .string y] 60)).alloc (.cells #[.slice none 0 0, .string ⟨#[]⟩] 45)).alloc (.cells #[.slice none 0 0, .string ⟨#[]⟩] 45)).heap[w.heap.size + 2]? = some (.cells #[.slice none 0 0, .string ⟨#[]⟩] 45) ∧
    (((w.alloc (.cells #[v, .string y] 60)).alloc (.cells #[.slice none 0 0, .string ⟨#[]⟩] 45)).alloc (.cells #[.slice none 0 0, .string ⟨#[]⟩] 45)).heap.size = w.heap.size + 3 := by
  have hb1 := (Below.refl w.heap.size w).alloc (Nat.le_refl _) (.cells #[v, .string y] 60)
  have hb2 := hb1.alloc hb1.size (.cells #[.slice none 0 0, .string ⟨#[]⟩] 45)
  have e1 : (w.alloc (.cells #[v, .string y] 60)).heap.size = w.heap.size + 1 := by simp
  have e2 : ((w.alloc (.cells #[v, .string y] 60)).alloc (.cells #[.slice none 0 0, .string ⟨#[]⟩] 45)).heap.size = w.heap.size + 2 := by simp
  have r2 := heap_alloc_new (w.alloc (.cells #[v, .string y] 60)) (.cells #[.slice none 0 0, .string ⟨#[]⟩] 45)
  rw [e1] at r2
  have r3 := heap_alloc_new ((w.alloc (.cells #[v, .string y] 60)).alloc (.cells #[.slice none 0 0, .string ⟨#[]⟩] 45)) (.cells #[.slice none 0 0, .string ⟨#[]⟩] 45)
  rw [e2] at r3
  exact ⟨hb2.alloc hb2.size _, (Below.heap_alloc _ _ w.heap.size (by simp; omega)).trans ((Below.heap_alloc _ _ w.heap.size (by simp)).trans (heap_alloc_new w _)), (Below.heap_alloc _ _ (w.heap.size + 1) (by simp)).trans r2, r3, by simp⟩
set_option maxRecDepth 100000 in
set_option maxHeartbeats 1000000 in
theorem tocode_any (v : Value) (ks : List K2) (y : ByteArray) (w : World) (h : keysAt w v ks) (hs : ks.length ≤ 2000000) :
    Calls Tryd.prog 29 #[.agg #[v, .string y]] w fun e w' => ∃ v', e = .returned (.agg #[v', .string y]) ∧ w'.ownsRow w.heap.size 39 2 v' ks.length (keyCells ks) ∧ Below w.heap.size w w' := by
  obtain ⟨t1, t2, t3, t4, t5⟩ := three_boxes w v y
  have HB := Lib.hid t1; have HX := Lib.hid t2; have HR := Lib.hid t3; have HT := Lib.hid t4; have HS := Lib.hid t5
  have TK := Lib.hid (tokeys_any v ks (((w.alloc (.cells #[v, .string y] 60)).alloc (.cells #[.slice none 0 0, .string ⟨#[]⟩] 45)).alloc (.cells #[.slice none 0 0, .string ⟨#[]⟩] 45)) (keysAt_below h t1) hs)
  obtain ⟨x0, x1, -, -⟩ := row2_of t2
  clear t1 t2 t3 t4 t5 h
  go_enter Tryd.func29, Tryd.ntmps29
  go_wp2_with fail
  generalize ((w.alloc (.cells #[v, .string y] 60)).alloc (.cells #[.slice none 0 0, .string ⟨#[]⟩] 45)).alloc (.cells #[.slice none 0 0, .string ⟨#[]⟩] 45) = W at *
  refine TK.out.mono ?_
  rintro e w1 ⟨g, rfl, hg, ho1, hb1⟩
  have hB1 := HB.out.trans (hb1.mono HB.out.size)
  have hx1 := (hb1.block _ (Array.getElem?_eq_some_iff.1 HX.out).1).trans HX.out
  have hr1 := (hb1.block _ (Array.getElem?_eq_some_iff.1 HR.out).1).trans HR.out
  have ht1 := (hb1.block _ (Array.getElem?_eq_some_iff.1 HT.out).1).trans HT.out
  have hs := HS.out
  rw [hs] at ho1
  obtain ⟨p0, p1, -, -⟩ := row2_of hx1
  obtain ⟨q0, q1, g0, g1⟩ := row2_of ht1
  obtain ⟨c0, c1, f0, f1⟩ := row2_of hr1
  have hltx := (Array.getElem?_eq_some_iff.1 hx1).1
  have hltr := (Array.getElem?_eq_some_iff.1 hr1).1
  have hltt := (Array.getElem?_eq_some_iff.1 ht1).1
  -- the new word's own box, set
  have ht2 := set2 (.slice (some ⟨g, 0, none⟩) ks.length ks.length) (.string y) ht1
  have hr2 : ((w1.setCell ⟨w.heap.size + 2, 0, none⟩ (.slice (some ⟨g, 0, none⟩) ks.length ks.length)).setCell ⟨w.heap.size + 2, 1, none⟩ (.string y)).heap[w.heap.size + 1]? = some (.cells #[.slice none 0 0, .string ⟨#[]⟩] 45) := by
    rw [Below.heap_setCell _ _ _ _ (by simp), Below.heap_setCell _ _ _ _ (by simp)]
    exact hr1
  have ho2 := own_set2 ho1 (by omega : w.heap.size + 2 < w.heap.size + 3) (.slice (some ⟨g, 0, none⟩) ks.length ks.length) (.string y)
  have hB2 := below2 hB1 (by omega : w.heap.size ≤ w.heap.size + 2) (.slice (some ⟨g, 0, none⟩) ks.length ks.length) (.string y)
  have HT2 := Lib.hid ht2; have HR2 := Lib.hid hr2
  have L2 := Lib.hid (cd_res hr2 (.slice (some ⟨g, 0, none⟩) ks.length ks.length) y)
  have HF := Lib.hid (And.intro (own_base (own_set2 ho2 (by omega : w.heap.size + 1 < w.heap.size + 3) (.slice (some ⟨g, 0, none⟩) ks.length ks.length) (.string y)) (by omega : w.heap.size ≤ w.heap.size + 3)) (below2 hB2 (by omega : w.heap.size ≤ w.heap.size + 1) (.slice (some ⟨g, 0, none⟩) ks.length ks.length) (.string y)))
  clear ho1 ho2 hb1 hB1 hB2 hx1 hr1 ht1 ht2 hr2 HB HX HR HT HS TK x0 x1 hs
  go_wp2_with fail
  refine bodyPost_ret (v := .agg #[.slice (some ⟨g, 0, none⟩) ks.length ks.length, .string y]) ?_ rfl ⟨_, rfl, HF.out.1, HF.out.2⟩
  rw [results_cell (p := 2) (ty := 45) (by kernel_rfl)]
  have l2 := L2.out
  simp [asAddr, Result.andThen, l2]
end Go.Proofs.YtadjmfhhpkjpaaaDoor
namespace Go.Proofs.YtadjmfhhpkjpaaaDoor
open Go.ChangeShapes Go.WideShapes Go.ChangeAt Go.RowKit Go.BigFrame
set_option linter.unusedVariables false

def szS : List C2 → Int → Int
  | [], l => l
  | x :: L, l => if szC l x.1.length x.2.size < 0 then -1 else szS L (szC l x.1.length x.2.size)
def szL (L : List C2) (left : Int) : Int := if left - (L.length : Int) < 0 then -1 else szS L (left - (L.length : Int))
theorem szC_le {l : Int} {n m : Nat} (h : 0 ≤ szC l n m) : szC l n m ≤ l ∧ (n : Int) ≤ l ∧ (m : Int) ≤ l := by
  unfold szC at *
  by_cases h1 : l - (n : Int) < 0
  · rw [if_pos h1] at h; omega
  · rw [if_neg h1] at h ⊢
    by_cases h2 : l - (n : Int) - (m : Int) < 0
    · rw [if_pos h2] at h; omega
    · rw [if_neg h2]; omega
theorem szS_ok : ∀ (L : List C2) (l : Int), 0 ≤ szS L l → ∀ x ∈ L, (x.1.length : Int) ≤ l ∧ (x.2.size : Int) ≤ l
  | [], l, _, x, hx => by cases hx
  | y :: L, l, h, x, hx => by
    unfold szS at h
    by_cases h1 : szC l y.1.length y.2.size < 0
    · rw [if_pos h1] at h; omega
    · rw [if_neg h1] at h
      have h2 := szC_le (l := l) (n := y.1.length) (m := y.2.size) (by omega)
      rcases List.mem_cons.1 hx with rfl | hx
      · exact h2.2
      · have := szS_ok L _ h x hx
        omega
theorem szL_ok {L : List C2} {l : Int} (h : 0 ≤ szL L l) : (L.length : Int) ≤ l ∧ ∀ x ∈ L, (x.1.length : Int) ≤ l ∧ (x.2.size : Int) ≤ l := by
  unfold szL at h
  by_cases h1 : l - (L.length : Int) < 0
  · rw [if_pos h1] at h; omega
  · rw [if_neg h1] at h
    refine ⟨by omega, fun x hx => ?_⟩
    have := szS_ok L _ h x hx
    omega
theorem drop_get (L : List C2) (k : Nat) (hk : k < L.length) : L.drop k = L.getD k blankC :: L.drop (k + 1) := by
  rw [List.drop_eq_getElem_cons hk]
  simp [List.getD, hk]
set_option maxRecDepth 100000 in
set_option maxHeartbeats 1000000 in
theorem szcodes_any (v : Value) (L : List C2) (left : Int) (w : World) (h : cdAv w none v L) (hL : L.length ≤ maxLen) (hx : ∀ x ∈ L, x.1.length ≤ maxLen ∧ x.2.size ≤ maxLen) (hl : 0 ≤ left ∧ left ≤ 1000000000) :
    Calls Tryd.prog 10 #[v, .int .i64 left] w fun e w' => ∃ z, e = .returned (.int .i64 z) ∧ z = szL L left ∧ Below w.heap.size w w' := by
  obtain ⟨al, cl, rfl, hcl, hcells⟩ := h
  have hLm : (L.length : Int) ≤ 9223372036854775807 := by unfold maxLen at hL; omega
  have ew : IntKind.i64.wrap (left - (L.length : Int)) = left - (L.length : Int) := IntWalk.i64_in _ (by omega)
  unfold szL
  go_enter Tryd.func10, Tryd.ntmps10
  by_cases h0 : left - (L.length : Int) < 0
  · rw [if_pos h0]
    go_wp2
    go_ret
    exact ⟨_, rfl, rfl, Below.refl _ _⟩
  · rw [if_neg h0]
    go_wp2_with fail
    go_loopw [1, 5] (fun l i wr => ∃ (k : Nat) (m : Int), k ≤ L.length ∧ i = .int .i64 k ∧ l = .int .i64 m ∧ 0 ≤ m ∧ m ≤ 1000000000 ∧ szS (L.drop k) m = szS L (left - (L.length : Int)) ∧ Below w.heap.size w wr) (fun _ i _ => L.length - (intOf i).toNat)
    case atStart => exact ⟨0, _, Nat.zero_le _, rfl, rfl, by omega, by omega, rfl, Below.refl _ _⟩
    case round =>
      obtain ⟨k, m, hk, rfl, rfl, hm0, hm1, hsz, hb⟩ := hrel
      rename_i wr
      by_cases hlt : k < L.length
      · obtain ⟨g, off, rfl, hg, hcs⟩ := hcells.resolve_left (by omega)
        have z0 : (0 : Int) ≤ (k : Int) := by omega
        have z1 : (k : Int) < (L.length : Int) := by omega
        obtain ⟨u, c1, c2, c3⟩ := hcs k hlt
        have hxk := hx (L.getD k blankC) (by rw [List.getD, List.getElem?_eq_getElem hlt]; exact List.getElem_mem hlt)
        rw [drop_get L k hlt] at hsz
        generalize L.getD k blankC = x at *
        have d1 := (hb.cell (p := ⟨g, off + k * 2, none⟩) hg).trans c1
        have d2 := (hb.cell (p := ⟨g, off + k * 2 + 1, none⟩) hg).trans c2
        obtain ⟨au, cu, rfl, -, -⟩ := c3
        have HS := Lib.hid (fun w' => szcode_any (.slice au x.1.length cu) x.1 x.2 m w' ⟨_, _, rfl⟩ ⟨hm0, hm1⟩ (by unfold maxLen at hxk; omega) (by unfold maxLen at hxk; omega))
        have HB := Lib.hid hb
        have HZ := Lib.hid hsz
        have hle := fun h => szC_le (l := m) (n := x.1.length) (m := x.2.size) h
        have HLE := Lib.hid hle
        clear hcells hcs c1 c2 hx hxk hb hsz hle
        have hsz2 : szS (x :: L.drop (k + 1)) m = if szC m x.1.length x.2.size < 0 then -1 else szS (L.drop (k + 1)) (szC m x.1.length x.2.size) := rfl
        have HZ2 := Lib.hid hsz2
        clear hsz2
        generalize szC m x.1.length x.2.size = r at *
        by_cases hr : r < 0
        · go_wp2_with fail
          refine (HS.out _).mono ?_
          rintro e w2 ⟨rfl, hb2⟩
          have HB2 := Lib.hid (HB.out.trans (hb2.mono HB.out.size))
          clear hb2 HS HB
          go_wp2
          go_ret
          exact ⟨_, rfl, by rw [← HZ.out, HZ2.out, if_pos (by omega)], HB2.out⟩
        · have hr2 := HLE.out (by omega)
          go_wp2_with fail
          refine (HS.out _).mono ?_
          rintro e w2 ⟨rfl, hb2⟩
          have HB2 := Lib.hid (HB.out.trans (hb2.mono HB.out.size))
          clear hb2 HS HB
          go_wp2
          exact ⟨⟨k + 1, r, by omega, by go_num, rfl, by omega, by omega, by rw [← HZ.out, HZ2.out, if_neg (by omega)], HB2.out⟩, by simp [intOf]; omega⟩
      · obtain rfl : k = L.length := by omega
        rw [List.drop_length] at hsz
        have HZ := Lib.hid hsz
        clear hsz hcells hx
        go_wp2
        go_ret
        exact ⟨_, rfl, by rw [← HZ.out]; rfl, hb⟩
theorem cd_load_at {w w' : World} {g o : Nat} {u : Value} {y : ByteArray} (c1 : w.cell? ⟨g, o, none⟩ = some u) (c2 : w.cell? ⟨g, o + 1, none⟩ = some (.string y)) (hb : Below w.heap.size w w') :
    (loadVar 45 ⟨g, o, none⟩).run Tryd.prog w' = .ok (.agg #[u, .string y]) w' := by
  refine run_loadVar_mid w' g o 45 [u, .string y] _ (fun j v hj => ?_) Tryd.underlying45 rfl (by kernel_rfl)
  have hg := World.block_lt_of_cell? _ _ c1
  have hj2 : j < 2 := by have := (List.getElem?_eq_some_iff.1 hj).1; simpa using this
  rcases (by omega : j = 0 ∨ j = 1) with rfl | rfl
  · rw [hb.cell (p := ⟨g, o + 0, none⟩) hg]
    simpa using c1.trans (by simpa using hj)
  · rw [hb.cell (p := ⟨g, o + 1, none⟩) hg]
    simpa using c2.trans (by simpa using hj)
theorem take_get_eq (A B : List C2) (k : Nat) (hA : k < A.length) (hB : k < B.length) : (A.take (k + 1) = B.take (k + 1)) ↔ A.take k = B.take k ∧ A.getD k blankC = B.getD k blankC := by
  rw [List.take_succ_eq_append_getElem hA, List.take_succ_eq_append_getElem hB]
  have e1 : A.getD k blankC = A[k] := by simp [List.getD, hA]
  have e2 : B.getD k blankC = B[k] := by simp [List.getD, hB]
  rw [e1, e2]
  constructor
  · intro h
    have := List.append_inj h (by simp; omega)
    exact ⟨this.1, by simpa using this.2⟩
  · rintro ⟨h1, h2⟩; rw [h1, h2]
set_option maxRecDepth 100000 in
set_option maxHeartbeats 1000000 in
theorem eqcodes_any (va vb : Value) (A B : List C2) (w : World) (ha : cdAv w none va A) (hb : cdAv w none vb B) (hA : A.length ≤ 4000000) (hB : B.length ≤ 4000000) (hxA : ∀ x ∈ A, x.1.length ≤ 4000000) (hxB : ∀ x ∈ B, x.1.length ≤ 4000000) :
    Calls Tryd.prog 21 #[va, vb] w fun e w' => e = .returned (.bool (decide (A = B))) ∧ Below w.heap.size w w' := by
  obtain ⟨aa, ca, rfl, hca, hcellsA⟩ := ha
  obtain ⟨ab, cb, rfl, hcb, hcellsB⟩ := hb
  go_enter Tryd.func21, Tryd.ntmps21
  by_cases hl : A.length = B.length
  · have i0 : (A.length : Int) = (B.length : Int) := by omega
    go_wp2_with fail
    go_loopw [5] (fun i wr => ∃ k : Nat, k ≤ A.length ∧ i = .int .i64 k ∧ A.take k = B.take k ∧ Below w.heap.size w wr) (fun i _ => A.length - (intOf i).toNat)
    case atStart => exact ⟨0, Nat.zero_le _, rfl, rfl, Below.refl _ _⟩
    case round =>
      obtain ⟨k, hk, rfl, htk, hb⟩ := hrel
      rename_i wr
      by_cases hlt : k < A.length
      · obtain ⟨ga, oa, rfl, hga, hcsA⟩ := hcellsA.resolve_left (by omega)
        obtain ⟨gb, ob, rfl, hgb, hcsB⟩ := hcellsB.resolve_left (by omega)
        have z0 : (0 : Int) ≤ (k : Int) := by omega
        have z1 : (k : Int) < (A.length : Int) := by omega
        have z2 : (k : Int) < (B.length : Int) := by omega
        obtain ⟨u, c1, c2, c3⟩ := hcsA k hlt
        obtain ⟨v, e1, e2, e3⟩ := hcsB k (by omega)
        have hxa := hxA (A.getD k blankC) (by rw [List.getD, List.getElem?_eq_getElem hlt]; exact List.getElem_mem hlt)
        have hxb := hxB (B.getD k blankC) (by rw [List.getD, List.getElem?_eq_getElem (show k < B.length by omega)]; exact List.getElem_mem _)
        have hst := take_get_eq A B k hlt (by omega)
        generalize A.getD k blankC = x at *
        generalize B.getD k blankC = y at *
        have L1 := fun w' (hw : Below wr.heap.size wr w') => cd_load_at ((hb.cell (p := ⟨ga, oa + k * 2, none⟩) hga).trans c1) ((hb.cell (p := ⟨ga, oa + k * 2 + 1, none⟩) hga).trans c2) hw
        have L2 := fun w' (hw : Below wr.heap.size wr w') => cd_load_at ((hb.cell (p := ⟨gb, ob + k * 2, none⟩) hgb).trans e1) ((hb.cell (p := ⟨gb, ob + k * 2 + 1, none⟩) hgb).trans e2) hw
        have HK := Lib.hid (fun w' (hw : Below wr.heap.size wr w') => eqcode_any u x.1 x.2 v y.1 y.2 w' (keysAt_below (keysAt_below c3.to hb) hw) (keysAt_below (keysAt_below e3.to hb) hw) hxa hxb)
        have hdec : (decide (x.1 = y.1) && decide (x.2 = y.2)) = decide (x = y) := by
          rw [Bool.eq_iff_iff]; simp [Prod.ext_iff]
        rw [hdec] at HK
        have HB := Lib.hid hb
        have HT := Lib.hid htk
        have HST := Lib.hid hst
        clear hcellsA hcellsB hcsA hcsB c1 c2 c3 e1 e2 e3 hxA hxB hxa hxb hb htk hst hdec
        generalize hq : decide (x = y) = q at *
        go_wp2_with fail
        refine wp_region_below wr (by kernel_rfl) (by kernel_rfl) (Below.refl _ _) ?_
        repeat (first
          | go_big_quiet_skip
          | (go_big_quiet_want
             first
               | (go_big_quiet_op; go_big_quiet_on)
               | (refine q_load 45 _ _ _ rfl rfl L1 ?_; simp only [Act.put, List.setIfInBounds_toArray, List.set_cons_zero, List.set_cons_succ]; go_big_quiet_on)
               | (refine q_load 45 _ _ _ rfl rfl L2 ?_; simp only [Act.put, List.setIfInBounds_toArray, List.set_cons_zero, List.set_cons_succ]; go_big_quiet_on)
               | (go_big_quiet_op; refine ⟨_, fun _ _ => rfl, ?_⟩; go_big_quiet_on)
               | (go_big_quiet_op; apply Exists.intro; refine ⟨fun w' hw' => ?_, ?_⟩
                  · first
                    | (with_reducible refine (HK.out w' hw').mono ?_
                       rintro e w2 ⟨rfl, hb2⟩
                       exact ⟨rfl, hw'.trans (hb2.mono hw'.size)⟩)
                  go_big_quiet_on)))
        refine wpQuiet_nil ?_
        intro w2 hb2
        have HB2 := Lib.hid (HB.out.trans (hb2.mono HB.out.size))
        clear L1 L2 HK hb2 HB
        cases q with
        | true =>
          have hxy := of_decide_eq_true hq
          go_wp2_with fail
          exact ⟨⟨k + 1, by omega, by go_num, HST.out.2 ⟨HT.out, hxy⟩, HB2.out⟩, by simp [intOf]; omega⟩
        | false =>
          have hxy := of_decide_eq_false hq
          have hne : A ≠ B := fun e => hxy (HST.out.1 (by rw [e])).2
          have HN := Lib.hid (decide_eq_false hne)
          clear hxy hne hq
          go_wp2_with fail
          go_ret
          exact ⟨by rw [HN.out]; rfl, HB2.out⟩
      · obtain rfl : k = A.length := by omega
        rw [List.take_length, hl, List.take_length] at htk
        have HN := Lib.hid (decide_eq_true htk)
        clear htk hcellsA hcellsB hxA hxB hl
        go_wp2_with fail
        go_ret
        exact ⟨by rw [HN.out]; rfl, hb⟩
  · have i0 : ¬ (A.length : Int) = (B.length : Int) := by omega
    have hne : A ≠ B := fun e => hl (by rw [e])
    have HN := Lib.hid (decide_eq_false hne)
    clear hne hl hcellsA hcellsB
    go_wp2_with fail
    go_ret
    exact ⟨by rw [HN.out]; rfl, Below.refl _ _⟩
end Go.Proofs.YtadjmfhhpkjpaaaDoor
namespace Go.Proofs.YtadjmfhhpkjpaaaDoor
open Go.ChangeShapes Go.WideShapes Go.ChangeAt Go.RowKit Go.BigFrame
set_option linter.unusedVariables false

/-- a list of words made anew, each with keys of its own -/
structure TcO (w W : World) (g : Nat) (us : List Value) (L : List C2) : Prop where
  below : Below w.heap.size w W
  ge : w.heap.size ≤ g
  len : us.length = L.length
  own : W.ownsRow w.heap.size 45 2 (.slice (some ⟨g, 0, none⟩) L.length L.length) L.length (cdCells us L)
  keys : ∀ i, i < L.length → W.ownsRow (g + 1) 39 2 (us.getD i undef) (L.getD i blankC).1.length (keyCells (L.getD i blankC).1)
  dist : ∀ i j, i < j → j < L.length → ∀ b, (us.getD j undef).ownBlock = some b → (us.getD i undef).ownBlock ≠ some b
theorem TcO.next {w W W' : World} {g : Nat} {us : List Value} {L : List C2} (h : TcO w W g us L) (hb : Below W.heap.size W W') : TcO w W' g us L :=
  ⟨h.below.trans (hb.mono h.below.size), h.ge, h.len, own_below h.own hb, fun i hi => own_below (h.keys i hi) hb, h.dist⟩
theorem TcO.cd {w W : World} {g : Nat} {us : List Value} {L : List C2} (h : TcO w W g us L) : cdOwn W w.heap.size (.slice (some ⟨g, 0, none⟩) L.length L.length) us L :=
  ⟨h.len, h.own, fun i hi => keysAv_own (h.keys i hi) (Nat.lt_succ_self g)⟩
theorem TcO.at {w W : World} {g : Nat} {us : List Value} {L : List C2} (h : TcO w W g us L) : cdAv W none (.slice (some ⟨g, 0, none⟩) L.length L.length) L := cdAv_any h.cd.to
/-- a list on its way -/
structure TcW (w W : World) (n : Nat) (us : List Value) (L : List C2) (rest : List Value) : Prop where
  below : Below w.heap.size w W
  len : us.length = L.length
  own : W.ownsRow w.heap.size 45 2 (.slice (some ⟨w.heap.size, 0, none⟩) n n) n (cdCells us L ++ rest)
  keys : ∀ i, i < L.length → W.ownsRow (w.heap.size + 1) 39 2 (us.getD i undef) (L.getD i blankC).1.length (keyCells (L.getD i blankC).1)
  dist : ∀ i j, i < j → j < L.length → ∀ b, (us.getD j undef).ownBlock = some b → (us.getD i undef).ownBlock ≠ some b
theorem TcW.next {w W W' : World} {n : Nat} {us : List Value} {L : List C2} {rest : List Value} (h : TcW w W n us L rest) (hb : Below W.heap.size W W') : TcW w W' n us L rest :=
  ⟨h.below.trans (hb.mono h.below.size), h.len, own_below h.own hb, fun i hi => own_below (h.keys i hi) hb, h.dist⟩
theorem TcW.set {w W W1 : World} {n : Nat} {us : List Value} {L : List C2} {p q : Value} {rest : List Value} (h : TcW w W n us L (p :: q :: rest)) (hb : Below W.heap.size W W1) {u : Value} (x : C2) (hg : w.heap.size < W.heap.size)
    (hu : W1.ownsRow W.heap.size 39 2 u x.1.length (keyCells x.1)) :
    TcW w ((W1.setCell ⟨w.heap.size, L.length * 2, none⟩ u).setCell ⟨w.heap.size, L.length * 2 + 1, none⟩ (.string x.2)) n (us ++ [u]) (L ++ [x]) rest := by
  have h1 := h.next hb
  have hl := cdCells_len us L h.len
  have st1 := h1.own.stored (L.length * 2) u
  have st2 := st1.1.stored (L.length * 2 + 1) (.string x.2)
  have hset : ((cdCells us L ++ p :: q :: rest).set (L.length * 2) u).set (L.length * 2 + 1) (.string x.2) = cdCells (us ++ [u]) (L ++ [x]) ++ rest := by
    rw [List.set_append_right _ _ (by omega), hl, Nat.sub_self, List.set_cons_zero, List.set_append_right _ _ (by omega), hl, show L.length * 2 + 1 - L.length * 2 = 1 by omega, List.set_cons_succ, List.set_cons_zero, cdCells_app _ _ _ _ h.len]
    simp [cdCells]
  rw [hset] at st2
  have hgr : W1.grownBy ((W1.setCell ⟨w.heap.size, L.length * 2, none⟩ u).setCell ⟨w.heap.size, L.length * 2 + 1, none⟩ (.string x.2)) (some w.heap.size) := grown_trans (Lib.grownBy_setCell W1 w.heap.size (L.length * 2) u) (Lib.grownBy_setCell _ w.heap.size (L.length * 2 + 1) (.string x.2))
  have hkeep : ∀ (base : Nat) (v : Value) (ks : List K2), w.heap.size < base → W1.ownsRow base 39 2 v ks.length (keyCells ks) → ((W1.setCell ⟨w.heap.size, L.length * 2, none⟩ u).setCell ⟨w.heap.size, L.length * 2 + 1, none⟩ (.string x.2)).ownsRow base 39 2 v ks.length (keyCells ks) :=
    fun base v ks hbs ho => ho.kept hgr (.inr fun e => by have := (ho.lt _ e).1; omega)
  have hgu : ∀ i, i < L.length → (us ++ [u]).getD i undef = us.getD i undef := fun i hi => by simp only [List.getD]; rw [List.getElem?_append_left (by rw [h.len]; exact hi)]
  have hgL : ∀ i, i < L.length → (L ++ [x]).getD i blankC = L.getD i blankC := fun i hi => by simp only [List.getD]; rw [List.getElem?_append_left hi]
  have hgue : (us ++ [u]).getD L.length undef = u := by rw [← h.len]; simp [List.getD]
  have hgLe : (L ++ [x]).getD L.length blankC = x := by simp [List.getD]
  refine ⟨(h1.below.setCell (p := ⟨w.heap.size, L.length * 2, none⟩) (Nat.le_refl _) u).setCell (p := ⟨w.heap.size, L.length * 2 + 1, none⟩) (Nat.le_refl _) _, by simp [h.len], st2.1, fun i hi => ?_, fun i j hij hj b hbj => ?_⟩
  · rw [List.length_append, List.length_singleton] at hi
    rcases (by omega : i < L.length ∨ i = L.length) with hi | rfl
    · rw [hgu i hi, hgL i hi]; exact hkeep _ _ _ (by omega) (h1.keys i hi)
    · rw [hgue, hgLe]; exact hkeep _ _ _ (by omega) (own_base hu (by omega))
  · rw [List.length_append, List.length_singleton] at hj
    rcases (by omega : j < L.length ∨ j = L.length) with hj | rfl
    · rw [hgu j hj] at hbj
      rw [hgu i (by omega)]
      exact h.dist i j hij hj b hbj
    · rw [hgue] at hbj
      rw [hgu i hij]
      intro e
      have e1 := (hu.lt b hbj).1
      have e2 := ((h.keys i hij).lt b e).2
      omega
set_option maxRecDepth 100000 in
set_option maxHeartbeats 1000000 in
theorem tocodes_any (v : Value) (L : List C2) (w : World) (h : cdAv w none v L) (hL : L.length ≤ 1900000) (hx : ∀ x ∈ L, x.1.length ≤ 1900000) :
    Calls Tryd.prog 15 #[v] w fun e w' => ∃ g us, e = .returned (.slice (some ⟨g, 0, none⟩) L.length L.length) ∧ TcO w w' g us L := by
  obtain ⟨al, cl, rfl, hcl, hcells⟩ := h
  obtain ⟨i0, hi, hz0, hz1, hz2⟩ := info_parts infoC
  obtain ⟨W, hmk, hown0, hgr0⟩ := run_make_full (P := Tryd.prog) w w.heap.size 29 45 i0 _ 2 Tryd.underlying29 hi hz0 hz1 .i64 .i64 L.length (by rw [hz2]; omega) (by unfold maxLen; omega) (Nat.le_refl _)
  have hb0 : Below w.heap.size w W := (Below.refl _ _).grown hgr0 (Nat.le_refl _) (by simp)
  have hrest : (madeCells (Value.agg #[.slice none 0 0, .string ⟨#[]⟩]).cells (L.length * 2)).toList.length = L.length * 2 := hown0.1
  generalize (madeCells (Value.agg #[.slice none 0 0, .string ⟨#[]⟩]).cells (L.length * 2)).toList = Z at *
  have hW := (hown0.lt w.heap.size rfl).2
  have H0 := Lib.hid (show TcW w W L.length [] [] Z from ⟨hb0, rfl, hown0, fun i hi => by simp at hi, fun i j _ hj => by simp at hj⟩)
  go_enter Tryd.func15, Tryd.ntmps15
  go_wp2
  clear hmk hgr0 hown0 hb0
  go_loopw [4] (fun i wr => ∃ (k : Nat) (us : List Value) (rest : List Value), k ≤ L.length ∧ i = .int .i64 k ∧ rest.length = (L.length - k) * 2 ∧ w.heap.size < wr.heap.size ∧ TcW w wr L.length us (L.take k) rest)
    (fun i _ => L.length - (intOf i).toNat)
  case atStart => exact ⟨0, [], Z, Nat.zero_le _, rfl, by omega, hW, H0.out⟩
  case round =>
    obtain ⟨k, us, rest, hk, rfl, hrl, hwl, hT⟩ := hrel
    have HT := Lib.hid hT
    clear hT H0 hrest hW
    rename_i wr
    by_cases hlt : k < L.length
    · obtain ⟨ga, off, rfl, hg, hcs⟩ := hcells.resolve_left (by omega)
      have z0 : (0 : Int) ≤ (k : Int) := by omega
      have z1 : (k : Int) < (L.length : Int) := by omega
      obtain ⟨u, c1, c2, c3⟩ := hcs k hlt
      have hxk := hx (L.getD k blankC) (by rw [List.getD, List.getElem?_eq_getElem hlt]; exact List.getElem_mem hlt)
      have htk : L.take (k + 1) = L.take k ++ [L.getD k blankC] := by rw [List.take_succ_eq_append_getElem hlt]; simp [List.getD, hlt]
      have hkl : (L.take k).length = k := by rw [List.length_take]; omega
      generalize L.getD k blankC = x at *
      have hB := HT.out.below
      have d1 := (hB.cell (p := ⟨ga, off + k * 2, none⟩) hg).trans c1
      have d2 := (hB.cell (p := ⟨ga, off + k * 2 + 1, none⟩) hg).trans c2
      have HK := Lib.hid (tocode_any u x.1 x.2 wr (keysAt_below c3.to hB) (by omega))
      obtain ⟨au, cu, rfl, -, -⟩ := c3
      obtain ⟨p, q, rest2, rfl⟩ : ∃ p q r, rest = p :: q :: r := by
        match rest, hrl with
        | [], h => simp at h; omega
        | [_], h => simp at h; omega
        | a :: b :: r, _ => exact ⟨a, b, r, rfl⟩
      have HTK := Lib.hid htk
      clear hcells hcs c1 c2 hx hB htk
      go_wp2_with fail
      refine HK.out.mono ?_
      rintro e w2 ⟨v2, rfl, ho2, hb2⟩
      obtain ⟨a2, n2, c2, rfl⟩ := own_shape ho2
      have hset := HT.out.set hb2 x hwl ho2
      rw [hkl] at hset
      have HS := Lib.hid hset
      have hT2 := HT.out.next hb2
      have hol := cdCells_len us (L.take k) HT.out.len
      rw [hkl] at hol
      obtain ⟨s1, s2⟩ := own_cell hT2.own (k * 2) (by omega)
      obtain ⟨s3, s4⟩ := own_cell hT2.own (k * 2 + 1) (by omega)
      have hsz := hb2.size
      clear hset hT2 hb2 ho2 HK HT d1 d2 hol
      go_wp2_with fail
      exact ⟨⟨k + 1, us ++ [.slice a2 n2 c2], rest2, by omega, by go_num, by simp at hrl; omega, by simp; omega, by rw [HTK.out]; exact HS.out⟩, by simp [intOf]; omega⟩
    · obtain rfl : k = L.length := by omega
      have hr0 : rest = [] := List.eq_nil_of_length_eq_zero (by omega)
      subst hr0
      clear hcells hx
      have h1 := HT.out.own
      rw [List.take_length, List.append_nil] at h1
      have hl := HT.out.len
      have hkk := HT.out.keys
      have hdd := HT.out.dist
      rw [List.take_length] at hl hkk hdd
      have HF := Lib.hid (show TcO w _ w.heap.size us L from ⟨HT.out.below, Nat.le_refl _, hl, h1, hkk, hdd⟩)
      clear h1 hl hkk hdd HT
      go_wp2_with fail
      go_ret
      exact ⟨w.heap.size, us, rfl, HF.out⟩
end Go.Proofs.YtadjmfhhpkjpaaaDoor
namespace Go.Proofs.YtadjmfhhpkjpaaaDoor
open Go.ChangeShapes Go.WideShapes Go.ChangeAt Go.RowKit Go.BigFrame
set_option linter.unusedVariables false
set_option linter.unusedSimpArgs false

/-- the marks that a list of words takes -/
def szK : List C2 → Int
  | [] => 0
  | x :: L => 2 * (x.1.length : Int) + 1 + szK L
theorem szS_sum : ∀ (L : List C2) (l : Int), 0 ≤ szS L l → szK L ≤ 2 * l + (L.length : Int)
  | [], l, h => by unfold szS at h; unfold szK; simp; omega
  | x :: L, l, h => by
    unfold szS at h
    by_cases h1 : szC l x.1.length x.2.size < 0
    · rw [if_pos h1] at h; omega
    · rw [if_neg h1] at h
      have h2 := szS_sum L _ h
      have h3 : szC l x.1.length x.2.size = l - (x.1.length : Int) - (x.2.size : Int) := by
        unfold szC at h1 ⊢
        by_cases h4 : l - (x.1.length : Int) < 0
        · rw [if_pos h4] at h1; omega
        · rw [if_neg h4] at h1 ⊢
          by_cases h5 : l - (x.1.length : Int) - (x.2.size : Int) < 0
          · rw [if_pos h5] at h1; omega
          · rw [if_neg h5]
      rw [h3] at h2
      unfold szK
      simp only [List.length_cons]
      omega
theorem szL_sum {L : List C2} {l : Int} (h : 0 ≤ szL L l) : szK L ≤ 2 * l := by
  unfold szL at h
  by_cases h1 : l - (L.length : Int) < 0
  · rw [if_pos h1] at h; omega
  · rw [if_neg h1] at h
    have := szS_sum L _ h
    omega
end Go.Proofs.YtadjmfhhpkjpaaaDoor
namespace Go.Proofs.YtadjmfhhpkjpaaaDoor
open Go.ChangeShapes Go.WideShapes Go.ChangeAt Go.RowKit Go.BigFrame
set_option linter.unusedVariables false

theorem szreading_any (r : R3) (left : Int) (w : World) (hl : 0 ≤ left ∧ left ≤ 1000000000) (hx : r.2.size ≤ 9223372036854775807) :
    Calls Tryd.prog 22 #[rv r, .int .i64 left] w fun e w' => e = .returned (.int .i64 (if left - (r.2.size : Int) < 0 then -1 else left - (r.2.size : Int))) ∧ Below w.heap.size w w' := by
  obtain ⟨⟨n, s⟩, x⟩ := r
  unfold rv
  dsimp only at *
  have hb : Below w.heap.size w (w.alloc (.cells #[.int .i64 n, .int .i64 s, .string x] 56)) := (Below.refl _ _).alloc (Nat.le_refl _) _
  have HB := Lib.hid hb; clear hb
  have ew : IntKind.i64.wrap (left - (x.size : Int)) = left - (x.size : Int) := IntWalk.i64_in _ (by omega)
  have ew2 : wrap64 (left - (x.size : Int)) = left - (x.size : Int) := IntWalk.wrap64_in _ (by omega)
  by_cases hn : left - (x.size : Int) < 0
  · rw [if_pos hn]
    go_enter Tryd.func22, Tryd.ntmps22
    go_wp2
    go_ret
    exact ⟨rfl, HB.out⟩
  · rw [if_neg hn]
    go_enter Tryd.func22, Tryd.ntmps22
    go_wp2
    go_ret
    exact ⟨rfl, HB.out⟩
set_option maxRecDepth 100000 in
set_option maxHeartbeats 1000000 in
theorem szreadings_any (v : Value) (rs : List R3) (left : Int) (w : World) (h : rdAt w v rs) (hl : 0 ≤ left ∧ left ≤ 1000000000) (hs : rs.length ≤ 9223372036854775807) (hx : ∀ j, j < rs.length → (rs.getD j r0).2.size ≤ 9223372036854775807) :
    Calls Tryd.prog 9 #[v, .int .i64 left] w fun e w' => ∃ r : Int, e = .returned (.int .i64 r) ∧ (r = -1 ∨ (0 ≤ r ∧ r ≤ left - (rs.length : Int) ∧ ∀ j, j < rs.length → ((rs.getD j r0).2.size : Int) ≤ left)) ∧ Below w.heap.size w w' := by
  obtain ⟨a, cap, rfl, hcap, hcells⟩ := h
  have ew : IntKind.i64.wrap (left - (rs.length : Int)) = left - (rs.length : Int) := IntWalk.i64_in _ (by omega)
  have ew2 : wrap64 (left - (rs.length : Int)) = left - (rs.length : Int) := IntWalk.wrap64_in _ (by omega)
  by_cases hn : left - (rs.length : Int) < 0
  · go_enter Tryd.func9, Tryd.ntmps9
    go_wp2
    go_ret
    exact ⟨-1, rfl, .inl rfl, Below.refl _ _⟩
  · go_enter Tryd.func9, Tryd.ntmps9
    go_wp2
    clear ew ew2
    go_loopw [1, 5] (fun c i wr => ∃ (k : Nat) (l : Int), k ≤ rs.length ∧ i = .int .i64 k ∧ c = .int .i64 l ∧ 0 ≤ l ∧ l ≤ left - (rs.length : Int) ∧ (∀ j, j < k → ((rs.getD j r0).2.size : Int) ≤ left) ∧ Below w.heap.size w wr) (fun _ i _ => rs.length - (intOf i).toNat)
    case atStart => exact ⟨0, _, Nat.zero_le _, rfl, rfl, by omega, Int.le_refl _, fun j hj => by omega, Below.refl _ _⟩
    case round =>
      obtain ⟨k, l, hk, rfl, rfl, hl0, hl1, hall, hb⟩ := hrel
      by_cases hlt : k < rs.length
      · obtain ⟨g, off, rfl, hg, hcs⟩ := hcells.resolve_left (by omega)
        have z0 : (0 : Int) ≤ (k : Int) := by omega
        have z1 : (k : Int) < (rs.length : Int) := by omega
        have hc := hcs k hlt
        have hxk := hx k hlt
        have d1 : wr.cell? ⟨g, off + k * 3, none⟩ = some (.int .i64 (rs.getD k r0).1.1) := by rw [hb.cell (p := ⟨g, off + k * 3, none⟩) hg]; exact hc.1
        have d2 : wr.cell? ⟨g, off + k * 3 + 1, none⟩ = some (.int .i64 (rs.getD k r0).1.2) := by rw [hb.cell (p := ⟨g, off + k * 3 + 1, none⟩) hg]; exact hc.2.1
        have d3 : wr.cell? ⟨g, off + k * 3 + 2, none⟩ = some (.string (rs.getD k r0).2) := by rw [hb.cell (p := ⟨g, off + k * 3 + 2, none⟩) hg]; exact hc.2.2
        have hn2 : ((rs.getD k r0).2.size : Int) ≤ l → ∀ j, j < k + 1 → ((rs.getD j r0).2.size : Int) ≤ left := by
          intro hh j hj
          rcases (by omega : j < k ∨ j = k) with h1 | rfl
          · exact hall j h1
          · omega
        have HN := Lib.hid hn2
        have HX := Lib.hid hx
        clear hcs hc hcells hall hn2 hx
        have HZ := Lib.hid (szreading_any (rs.getD k r0) l wr ⟨hl0, by omega⟩ hxk)
        generalize rs.getD k r0 = kx at *
        obtain ⟨⟨p, q⟩, y⟩ := kx
        dsimp only at *
        go_wp2_with fail
        refine HZ.out.mono ?_
        try dsimp only
        rintro e w2 ⟨rfl, hb2⟩
        have hB := hb.trans (hb2.mono hb.size)
        clear HZ d1 d2 d3 hb hb2
        by_cases hneg : l - (y.size : Int) < 0
        · rw [if_pos hneg]
          go_wp2
          go_ret
          exact ⟨-1, rfl, .inl rfl, hB⟩
        · rw [if_neg hneg]
          have hN := Lib.hid (HN.out (by omega))
          clear HN
          generalize hl2 : l - (y.size : Int) = l2 at *
          have hl3 : 0 ≤ l2 ∧ l2 ≤ left - (rs.length : Int) := by omega
          go_wp2
          exact ⟨⟨k + 1, l2, by omega, by go_num, rfl, hl3.1, hl3.2, hN.out, hB⟩, by simp [intOf]; omega⟩
      · obtain rfl : k = rs.length := by omega
        have HA := Lib.hid hall
        clear hall hcells hx
        go_wp2
        go_ret
        exact ⟨l, rfl, .inr ⟨hl0, hl1, HA.out⟩, hb⟩
end Go.Proofs.YtadjmfhhpkjpaaaDoor
namespace Go.Proofs.YtadjmfhhpkjpaaaDoor
open Go.ChangeShapes Go.WideShapes Go.ChangeAt Go.RowKit Go.BigFrame
set_option linter.unusedVariables false

theorem tokey_exact (n s : Int) (w : World) : Calls Tryd.prog 44 #[.agg #[.int .i64 n, .int .i64 s]] w fun e w' => e = .returned (.agg #[.int .i64 n, .int .i64 s]) ∧
    w' = ((w.alloc (.cells #[.int .i64 n, .int .i64 s] 54)).alloc (.cells #[.int .i64 n, .int .i64 s] 39)).alloc (.cells #[.int .i64 n, .int .i64 s] 39) := by
  go_enter Tryd.func44, Tryd.ntmps44
  go_wp2
  refine bodyPost_ret (v := .agg #[.int .i64 n, .int .i64 s]) ?_ rfl ⟨rfl, rfl⟩
  rw [results_cell (p := 2) (ty := 39) (by kernel_rfl)]
  have hl := run_loadVar_row (P := Tryd.prog) (((w.alloc (.cells #[.int .i64 n, .int .i64 s] 54)).alloc (.cells #[.int .i64 n, .int .i64 s] 39)).alloc (.cells #[.int .i64 n, .int .i64 s] 39)) (w.heap.size + 1) 39 39 #[.int .i64 n, .int .i64 s] (0, 0) _ (heap_mid w _ _ _) Tryd.underlying39 rfl (by kernel_rfl)
  simp [asAddr, Result.andThen, hl]
theorem toreading_any (r : R3) (w : World) : Calls Tryd.prog 28 #[rv r] w fun e w' => e = .returned (rv r) ∧ Below w.heap.size w w' := by
  obtain ⟨⟨n, s⟩, x⟩ := r
  unfold rv
  dsimp only
  go_enter Tryd.func28, Tryd.ntmps28
  go_wp2_with fail
  refine (tokey_exact n s _).mono ?_
  rintro e w1 ⟨rfl, rfl⟩
  go_wp2_with fail
  have h0 := heap_mid w (.cells #[.int .i64 n, .int .i64 s, .string x] 56) (.cells #[.int .i64 n, .int .i64 s, .string x] 41) (.cells #[.int .i64 n, .int .i64 s, .string x] 41)
  have h1 := (Below.heap_alloc _ (.cells #[.int .i64 n, .int .i64 s] 54) _ (Array.getElem?_eq_some_iff.1 h0).1).trans h0
  have h2 := (Below.heap_alloc _ (.cells #[.int .i64 n, .int .i64 s] 39) _ (Array.getElem?_eq_some_iff.1 h1).1).trans h1
  have h3 := (Below.heap_alloc _ (.cells #[.int .i64 n, .int .i64 s] 39) _ (Array.getElem?_eq_some_iff.1 h2).1).trans h2
  have hB := (((((((Below.refl w.heap.size w).alloc (Nat.le_refl _) (.cells #[.int .i64 n, .int .i64 s, .string x] 56)).alloc (by simp) (.cells #[.int .i64 n, .int .i64 s, .string x] 41)).alloc (by simp; omega) (.cells #[.int .i64 n, .int .i64 s, .string x] 41)).alloc (by simp; omega) (.cells #[.int .i64 n, .int .i64 s] 54)).alloc (by simp; omega) (.cells #[.int .i64 n, .int .i64 s] 39)).alloc (by simp; omega) (.cells #[.int .i64 n, .int .i64 s] 39))
  refine bodyPost_ret (v := .agg #[.int .i64 n, .int .i64 s, .string x]) ?_ rfl ⟨rfl, hB⟩
  rw [results_cell (p := 2) (ty := 41) (by kernel_rfl)]
  have hl := run_loadVar_row (P := Tryd.prog) _ (w.heap.size + 1) 41 41 #[.int .i64 n, .int .i64 s, .string x] (0, 0) _ h3 Tryd.underlying41 rfl (by kernel_rfl)
  simp [asAddr, Result.andThen, hl]
theorem infoR : (Tryd.prog.info? 41).map (fun i => (i.zero, i.size, i.bytes)) = some (some (.agg #[.int .i64 0, .int .i64 0, .string ⟨#[]⟩]), 3, 32) := by kernel_rfl
theorem set_rd (ks : List R3) (k : Nat) (p q : Int) (y : ByteArray) (u1 u2 u3 : Value) (rest : List Value) (hk : k < ks.length) (hx : ks.getD k r0 = ((p, q), y)) :
    (((rdCells (ks.take k) ++ u1 :: u2 :: u3 :: rest).set (k * 3) (.int .i64 p)).set (k * 3 + 1) (.int .i64 q)).set (k * 3 + 2) (.string y) = rdCells (ks.take (k + 1)) ++ rest := by
  have hl := rdCells_len (ks.take k)
  have hl2 : (rdCells (ks.take k)).length = k * 3 := by rw [hl]; simp; omega
  rw [List.take_succ_eq_append_getElem hk, rdCells_snoc, show ks[k] = ((p, q), y) by rw [← hx]; simp [List.getD, hk]]
  rw [List.set_append_right _ _ (by omega), hl2, Nat.sub_self, List.set_cons_zero, List.set_append_right _ _ (by omega), hl2, show k * 3 + 1 - k * 3 = 1 by omega, List.set_append_right _ _ (by omega), hl2, show k * 3 + 2 - k * 3 = 2 by omega]
  simp
set_option maxRecDepth 100000 in
set_option maxHeartbeats 1000000 in
theorem toreadings_any (v : Value) (ks : List R3) (w : World) (h : rdAt w v ks) (hs : ks.length ≤ 2000000) : Calls Tryd.prog 14 #[v] w fun e w' => ∃ g, e = .returned (.slice (some ⟨g, 0, none⟩) ks.length ks.length) ∧ w.heap.size ≤ g ∧
    w'.ownsRow w.heap.size 41 3 (.slice (some ⟨g, 0, none⟩) ks.length ks.length) ks.length (rdCells ks) ∧ Below w.heap.size w w' := by
  obtain ⟨a, cap, rfl, hcap, hcells⟩ := h
  obtain ⟨i0, hi, hz0, hz1, hz2⟩ := info_parts infoR
  obtain ⟨W, hmk, hown0, hgr0⟩ := run_make_full (P := Tryd.prog) w w.heap.size 28 41 i0 _ 3 Tryd.underlying28 hi hz0 hz1 .i64 .i64 ks.length (by rw [hz2]; omega) (by unfold maxLen; omega) (Nat.le_refl _)
  have hb0 : Below w.heap.size w W := (Below.refl _ _).grown hgr0 (Nat.le_refl _) (by simp)
  have hrest : (madeCells (Value.agg #[.int .i64 0, .int .i64 0, .string ⟨#[]⟩]).cells (ks.length * 3)).toList.length = ks.length * 3 := hown0.1
  generalize (madeCells (Value.agg #[.int .i64 0, .int .i64 0, .string ⟨#[]⟩]).cells (ks.length * 3)).toList = Z at *
  go_enter Tryd.func14, Tryd.ntmps14
  go_wp2
  clear hmk hgr0
  go_loopw [4] (fun i wr => ∃ (k : Nat) (rest : List Value), k ≤ ks.length ∧ i = .int .i64 k ∧ wr.ownsRow w.heap.size 41 3 (.slice (some ⟨w.heap.size, 0, none⟩) ks.length ks.length) ks.length (rdCells (ks.take k) ++ rest) ∧ Below w.heap.size w wr)
    (fun i _ => ks.length - (intOf i).toNat)
  case atStart => exact ⟨0, Z, Nat.zero_le _, rfl, by simpa [rdCells] using hown0, hb0⟩
  case round =>
    obtain ⟨k, rest, hk, rfl, hown, hbr⟩ := hrel
    clear hown0 hb0 hrest
    by_cases hlt : k < ks.length
    · obtain ⟨ga, off, rfl, hg, hcs⟩ := hcells.resolve_left (by omega)
      have hc := hcs k hlt
      have z0 : (0 : Int) ≤ (k : Int) := by omega
      have z1 : (k : Int) < (ks.length : Int) := by omega
      have d1 : wr.cell? ⟨ga, off + k * 3, none⟩ = some (.int .i64 (ks.getD k r0).1.1) := by rw [hbr.cell (p := ⟨ga, off + k * 3, none⟩) hg]; exact hc.1
      have d2 : wr.cell? ⟨ga, off + k * 3 + 1, none⟩ = some (.int .i64 (ks.getD k r0).1.2) := by rw [hbr.cell (p := ⟨ga, off + k * 3 + 1, none⟩) hg]; exact hc.2.1
      have d3 : wr.cell? ⟨ga, off + k * 3 + 2, none⟩ = some (.string (ks.getD k r0).2) := by rw [hbr.cell (p := ⟨ga, off + k * 3 + 2, none⟩) hg]; exact hc.2.2
      clear hcs hc hcells
      have hkt : (ks.take k).length = k := by simp; omega
      have hkl := rdCells_len (ks.take k)
      have hrl : rest.length = (ks.length - k) * 3 := by
        have := hown.1
        rw [List.length_append, hkl, hkt] at this
        omega
      obtain ⟨u1, u2, u3, rest2, rfl⟩ : ∃ u1 u2 u3 r, rest = u1 :: u2 :: u3 :: r := by
        match rest, hrl with
        | [], h => simp at h; omega
        | [_], h => simp at h; omega
        | [_, _], h => simp at h; omega
        | a :: b :: c :: r, _ => exact ⟨a, b, c, r, rfl⟩
      generalize hkx : ks.getD k r0 = kx at *
      obtain ⟨⟨p, q⟩, y⟩ := kx
      dsimp only at d1 d2 d3
      have hset := set_rd ks k p q y u1 u2 u3 rest2 hlt hkx
      have HSET := Lib.hid hset
      have HT := Lib.hid (toreading_any ((p, q), y) wr)
      clear hkx hset hrl
      go_wp2_with fail
      refine HT.out.mono ?_
      rintro e w2 ⟨rfl, hb2⟩
      have hown2 := own_below hown hb2
      have hbq := hbr.trans (hb2.mono hbr.size)
      clear hown hbr hb2 HT d1 d2 d3
      have st1 := hown2.stored (k * 3) (.int .i64 p)
      have st2 := st1.1.stored (k * 3 + 1) (.int .i64 q)
      have st3 := st2.1.stored (k * 3 + 2) (.string y)
      rw [HSET.out] at st3
      have hbz := ((hbq.setCell (p := ⟨w.heap.size, k * 3, none⟩) (Nat.le_refl _) (.int .i64 p)).setCell (p := ⟨w.heap.size, k * 3 + 1, none⟩) (Nat.le_refl _) (.int .i64 q)).setCell (p := ⟨w.heap.size, k * 3 + 2, none⟩) (Nat.le_refl _) (.string y)
      have R := Lib.hid (And.intro st3.1 hbz)
      clear st1 st2 st3 hbz hbq HSET
      obtain ⟨s1, s2⟩ := own_cell hown2 (k * 3) (by omega)
      obtain ⟨s3, s4⟩ := own_cell hown2 (k * 3 + 1) (by omega)
      obtain ⟨s5, s6⟩ := own_cell hown2 (k * 3 + 2) (by omega)
      unfold rv
      dsimp only
      go_wp2
      exact ⟨⟨k + 1, rest2, by omega, by go_num, R.out.1, R.out.2⟩, by simp [intOf]; omega⟩
    · obtain rfl : k = ks.length := by omega
      rw [List.take_length] at hown
      have hr0 : rest = [] := by
        have h1 := hown.1
        rw [List.length_append, rdCells_len] at h1
        exact List.eq_nil_of_length_eq_zero (by omega)
      subst hr0
      rw [List.append_nil] at hown
      go_wp2
      go_ret
      exact ⟨w.heap.size, rfl, Nat.le_refl _, hown, hbr⟩
end Go.Proofs.YtadjmfhhpkjpaaaDoor
namespace Go.Proofs.YtadjmfhhpkjpaaaDoor
open Go.ChangeShapes Go.WideShapes Go.ChangeAt Go.RowKit Go.BigFrame
set_option linter.unusedVariables false

set_option maxHeartbeats 1000000 in
theorem eqreading_any (p q : R3) (w : World) : Calls Tryd.prog 38 #[rv p, rv q] w fun e w' => e = .returned (.bool (decide (p = q))) ∧ Below w.heap.size w w' := by
  obtain ⟨⟨a, b⟩, s⟩ := p; obtain ⟨⟨c, d⟩, t⟩ := q
  unfold rv
  dsimp only
  have hb : Below w.heap.size w ((w.alloc (.cells #[.int .i64 a, .int .i64 b, .string s] 41)).alloc (.cells #[.int .i64 c, .int .i64 d, .string t] 41)) := ((Below.refl _ _).alloc (Nat.le_refl _) _).alloc (by simp) _
  have f1 := heap_first w (.cells #[.int .i64 c, .int .i64 d, .string t] 41) (.cells #[.int .i64 a, .int .i64 b, .string s] 41)
  have f2 : ((w.alloc (.cells #[.int .i64 a, .int .i64 b, .string s] 41)).alloc (.cells #[.int .i64 c, .int .i64 d, .string t] 41)).heap[w.heap.size + 1]? = some (.cells #[.int .i64 c, .int .i64 d, .string t] 41) := by
    have := heap_alloc_new (w.alloc (.cells #[.int .i64 a, .int .i64 b, .string s] 41)) (.cells #[.int .i64 c, .int .i64 d, .string t] 41)
    simpa using this
  have hz : ((w.alloc (.cells #[.int .i64 a, .int .i64 b, .string s] 41)).alloc (.cells #[.int .i64 c, .int .i64 d, .string t] 41)).heap.size = w.heap.size + 1 + 1 := by simp
  have HE := fun w => eqkey_any (a, b) (c, d) w
  go_enter Tryd.func38, Tryd.ntmps38
  go_wp2_with fail
  generalize ((w.alloc (.cells #[.int .i64 a, .int .i64 b, .string s] 41)).alloc (.cells #[.int .i64 c, .int .i64 d, .string t] 41)) = W at *
  have cs : W.cell? ⟨w.heap.size, 2, none⟩ = some (.string s) := by rw [cell_of_row _ _ 2 _ _ _ f1]; rfl
  have ct : W.cell? ⟨w.heap.size + 1, 2, none⟩ = some (.string t) := by rw [cell_of_row _ _ 2 _ _ _ f2]; rfl
  refine (HE _).mono ?_
  rintro e w1 ⟨rfl, hb1⟩
  have cs1 := (hb1.cell (p := ⟨w.heap.size, 2, none⟩) (by rw [hz]; dsimp only; omega)).trans cs
  have ct1 := (hb1.cell (p := ⟨w.heap.size + 1, 2, none⟩) (by rw [hz]; dsimp only; omega)).trans ct
  have hB := hb.trans (hb1.mono hb.size)
  clear f1 f2 cs ct HE hb hb1 hz
  by_cases hk : (a, b) = (c, d)
  · have e1 : ((a, b) == (c, d)) = true := by rw [hk]; exact beq_self_eq_true _
    rw [e1]
    by_cases h3 : s = t
    · have e2 : s.toList = t.toList := by rw [h3]
      have e3 : decide (((a, b), s) = ((c, d), t)) = true := by rw [hk, h3]; simp
      have e4 : (s == t) = true := by rw [Go.beq_toListBytes, e2]; simp
      have E3 := Lib.hid e3
      clear e1 hk h3 e3
      go_wp2
      go_ret
      exact ⟨by rw [E3.out]; rfl, hB⟩
    · have e2 : ¬ s.toList = t.toList := fun h => h3 ((bytes_toList_iff _ _).1 h)
      have e3 : decide (((a, b), s) = ((c, d), t)) = false := by simp [h3]
      have e4 : (s.toList == t.toList) = false := beq_eq_false_iff_ne.2 e2
      have E3 := Lib.hid e3
      clear e1 hk h3 e3
      go_wp2
      go_ret
      exact ⟨by rw [E3.out]; rfl, hB⟩
  · have e1 : ((a, b) == (c, d)) = false := beq_eq_false_iff_ne.2 hk
    have e3 : decide (((a, b), s) = ((c, d), t)) = false := by
      rw [decide_eq_false_iff_not]; intro h; exact hk (Prod.mk.inj h).1
    rw [e1]
    have E3 := Lib.hid e3
    clear e1 e3 hk
    go_wp2
    go_ret
    exact ⟨by rw [E3.out]; rfl, hB⟩
set_option maxRecDepth 100000 in
set_option maxHeartbeats 1000000 in
theorem eqreadings_any (va vb : Value) (A B : List R3) (w : World) (ha : rdAt w va A) (hb : rdAt w vb B) (hsA : A.length ≤ 4000000) (hsB : B.length ≤ 4000000) :
    Calls Tryd.prog 20 #[va, vb] w fun e w' => e = .returned (.bool (decide (A = B))) ∧ Below w.heap.size w w' := by
  obtain ⟨aa, ca, rfl, hca, hcA⟩ := ha
  obtain ⟨ab, cb, rfl, hcb, hcB⟩ := hb
  by_cases hl : A.length = B.length
  · have e0 : (A.length : Int) = (B.length : Int) := by omega
    go_enter Tryd.func20, Tryd.ntmps20
    rw [hl] at hca hcA ⊢
    go_wp2
    go_loopw [5] (fun i wr => ∃ k : Nat, k ≤ B.length ∧ i = .int .i64 k ∧ (∀ j, j < k → A.getD j r0 = B.getD j r0) ∧ Below w.heap.size w wr) (fun i _ => B.length - (intOf i).toNat)
    case atStart => exact ⟨0, Nat.zero_le _, rfl, fun j hj => by omega, Below.refl _ _⟩
    case round =>
      obtain ⟨k, hk, rfl, hall, hbr⟩ := hrel
      by_cases hlt : k < B.length
      · obtain ⟨ga, offa, rfl, hga, hcsA⟩ := hcA.resolve_left (by omega)
        obtain ⟨gb, offb, rfl, hgb, hcsB⟩ := hcB.resolve_left (by omega)
        have cA := hcsA k hlt
        have cB := hcsB k hlt
        have z0 : (0 : Int) ≤ (k : Int) := by omega
        have z1 : (k : Int) < (B.length : Int) := by omega
        clear hcsA hcsB hcA hcB
        have L1 : ∀ w', Below w.heap.size w w' → (loadVar 41 ⟨ga, offa + k * 3, none⟩).run Tryd.prog w' = .ok (rv (A.getD k r0)) w' := fun w' h => rd_load cA hga h
        have L2 : ∀ w', Below w.heap.size w w' → (loadVar 41 ⟨gb, offb + k * 3, none⟩).run Tryd.prog w' = .ok (rv (B.getD k r0)) w' := fun w' h => rd_load cB hgb h
        have HE := Lib.hid (fun w => eqreading_any (A.getD k r0) (B.getD k r0) w)
        clear cA cB
        cases he : decide (A.getD k r0 = B.getD k r0) with
        | true =>
          have hn : ∀ j, j < k + 1 → A.getD j r0 = B.getD j r0 := by
            intro j hj
            rcases (by omega : j < k ∨ j = k) with h1 | rfl
            · exact hall j h1
            · exact of_decide_eq_true he
          have HN := Lib.hid hn
          rw [he] at HE
          clear hall hn
          generalize A.getD k r0 = kx at *
          generalize B.getD k r0 = ky at *
          go_wp2
          refine wp_region_below w (by kernel_rfl) (by kernel_rfl) hbr ?_
          repeat (first
            | go_big_quiet_skip
            | (go_big_quiet_want
               first
                 | (go_big_quiet_op; go_big_quiet_on)
                 | (refine q_load 41 _ _ _ rfl rfl L1 ?_; simp only [Act.put, List.setIfInBounds_toArray, List.set_cons_zero, List.set_cons_succ]; go_big_quiet_on)
                 | (refine q_load 41 _ _ _ rfl rfl L2 ?_; simp only [Act.put, List.setIfInBounds_toArray, List.set_cons_zero, List.set_cons_succ]; go_big_quiet_on)
                 | (go_big_quiet_op; refine ⟨_, fun _ _ => rfl, ?_⟩; go_big_quiet_on)
                 | (go_big_quiet_op; apply Exists.intro; refine ⟨fun w' hw' => ?_, ?_⟩
                    · first
                      | (refine (HE.out w').mono ?_
                         rintro e w2 ⟨rfl, hb2⟩
                         exact ⟨rfl, hw'.trans (hb2.mono hw'.size)⟩)
                    go_big_quiet_on)))
          refine wpQuiet_nil ?_
          intro w2 hb2
          clear L1 L2 HE hbr
          go_wp2
          exact ⟨⟨k + 1, by omega, by go_num, HN.out, hb2⟩, by simp [intOf]; omega⟩
        | false =>
          have hne : decide (A = B) = false := by
            simp only [decide_eq_false_iff_not]
            intro e
            subst e
            simp at he
          have HD := Lib.hid hne
          rw [he] at HE
          clear hall hne
          generalize A.getD k r0 = kx at *
          generalize B.getD k r0 = ky at *
          go_wp2
          refine wp_region_below w (by kernel_rfl) (by kernel_rfl) hbr ?_
          repeat (first
            | go_big_quiet_skip
            | (go_big_quiet_want
               first
                 | (go_big_quiet_op; go_big_quiet_on)
                 | (refine q_load 41 _ _ _ rfl rfl L1 ?_; simp only [Act.put, List.setIfInBounds_toArray, List.set_cons_zero, List.set_cons_succ]; go_big_quiet_on)
                 | (refine q_load 41 _ _ _ rfl rfl L2 ?_; simp only [Act.put, List.setIfInBounds_toArray, List.set_cons_zero, List.set_cons_succ]; go_big_quiet_on)
                 | (go_big_quiet_op; refine ⟨_, fun _ _ => rfl, ?_⟩; go_big_quiet_on)
                 | (go_big_quiet_op; apply Exists.intro; refine ⟨fun w' hw' => ?_, ?_⟩
                    · first
                      | (refine (HE.out w').mono ?_
                         rintro e w2 ⟨rfl, hb2⟩
                         exact ⟨rfl, hw'.trans (hb2.mono hw'.size)⟩)
                    go_big_quiet_on)))
          refine wpQuiet_nil ?_
          intro w2 hb2
          clear L1 L2 HE hbr
          go_wp2
          go_ret
          exact ⟨by rw [HD.out]; rfl, hb2⟩
      · obtain rfl : k = B.length := by omega
        have he : decide (A = B) = true := by
          simp only [decide_eq_true_eq]
          apply List.ext_getElem hl
          intro i h1 h2
          have := hall i h2
          simpa [List.getD, h1, h2] using this
        have HD := Lib.hid he
        clear hall he
        go_wp2
        go_ret
        exact ⟨by rw [HD.out]; rfl, hbr⟩
  · have hne : decide (A = B) = false := by simp only [decide_eq_false_iff_not]; intro e; subst e; exact hl rfl
    have HD := Lib.hid hne
    have e0 : ¬ (A.length : Int) = (B.length : Int) := by omega
    clear hne
    go_enter Tryd.func20, Tryd.ntmps20
    go_wp2
    go_ret
    exact ⟨by rw [HD.out]; rfl, Below.refl _ _⟩
end Go.Proofs.YtadjmfhhpkjpaaaDoor
namespace Go.Proofs.YtadjmfhhpkjpaaaDoor
open Go.ChangeShapes Go.WideShapes Go.ChangeAt Go.RowKit Go.BigFrame
set_option linter.unusedVariables false

theorem eqrds_self (va vb : Value) (A : List R3) (w : World) (ha : rdAt w va A) (hb : rdAt w vb A) (hs : A.length ≤ 4000000) : Calls Tryd.prog 20 #[va, vb] w fun e w' => e = .returned (.bool true) ∧ Below w.heap.size w w' := by
  have h := eqreadings_any va vb A A w ha hb hs hs
  rw [show decide (A = A) = true from decide_eq_true rfl] at h
  exact h
end Go.Proofs.YtadjmfhhpkjpaaaDoor
