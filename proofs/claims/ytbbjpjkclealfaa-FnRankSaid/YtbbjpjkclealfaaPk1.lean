/- What the laws lean on (own lemmas and walks of the called functions). -/
import Derived.StillTail
import Derived.OrdersIn
import Derived.RangeFuncCalls
import Derived.Deep.RegionHeld3
import Derived.KernelRfl
import Derived.Test.YtbbjpjkclealfaaRows
import Derived.WalkKit
import Derived.ProofKit
import Derived.OpenShut
import Derived.ShutString
import Derived.Below
import Derived.Outline
import Derived.WalkSpells
import Derived.WalkLawsBesides
import Derived.Deep.AppendLies
import Derived.StillTactics
import Derived.Laws.BytesArg
import Derived.Laws.OwnMore
import Derived.Maps.AppendAt
import Derived.Lib.Hide
import Derived.BigQuiet
import Derived.Deep.MidRow
import Derived.Laws.StructEq
import Derived.Deep.WholeRow
import Derived.Deep.QuietTactic
import Derived.RangeFuncBox
import Derived.Lib.SmallJoins
import Derived.Lib.BufferWrite
import Derived.Lib.Bytealg
import Derived.Deep.RegionLaw
import Derived.OrdersHeld
import Derived.Deep.Quiet
import Derived.RangeFuncNested
import Derived.RangeFuncLeaves
import Derived.Shelf.Abstract
import Derived.OwnWalkIn
import Derived.TacticsInMore
import Derived.LoopNIn
import Derived.LoopIn
import Derived.Maps.OwnIn
import Derived.Great.BuildSlice
import Derived.Lib.SlBuf
import Derived.Laws.CopyOwn
import Derived.Stop.BytesEq
import Derived.Deep.DeepCutAuto
import Derived.Deep.Cut
set_option linter.unusedVariables false
set_option linter.unusedSimpArgs false
namespace Go.Proofs.Ytbbjpjkclealfaa
open Go
section
variable {P : Program} {ops : Array Oper} {md : Region.Mode} {w : World}

def todo (n : Nat) (listed : Array Bool) : List Nat := (List.range n).filter fun i => !listed.getD i true
def rowsOf (ops : Array Oper) (is : List Nat) : List Oper := is.filterMap (ops[·]?)

def pairB (md : Region.Mode) (ops : Array Oper) (n : Nat) : Bool :=
  (List.range n).all fun i => (List.range i).all fun j => Region.waitsFor md ops i j || match ops[j]?, ops[i]? with
    | some oj, some oi => oj.apart ops oi
    | _, _ => false
def depsB (md : Region.Mode) (ops : Array Oper) (n : Nat) : Bool :=
  (List.range n).all fun i => match ops[i]? with
    | some o => o.after.all fun e => !Region.binds md e || decide (e.on < i)
    | none => false
def sinkFromB (md : Region.Mode) (ops : Array Oper) (n : Nat) (L0 : Array Bool) : Bool :=
  (List.range n).all fun i => L0.getD i true || (List.range (n + 1)).any fun j => decide (i < j) && Region.waitsFor md ops j i

theorem waits_listed {i j : Nat} {listed : Array Bool} (hr : i ∈ Region.ready md ops listed) (hw : Region.waitsFor md ops i j = true) : listed.getD j false = true := by
  obtain ⟨_, o, ho, hall⟩ := mem_ready.1 hr
  obtain ⟨o', ho', e, he, hb, hon⟩ := Region.waitsFor_spec hw
  obtain rfl : o' = o := Option.some.inj (ho'.symm.trans ho)
  rw [← hon]; exact hall e he hb

theorem tail_sleeps {n : Nat} {L0 listed : Array Bool} (hs : sinkFromB md ops n L0 = true) (hc : Region.chainB md ops n = true) (hn : n < ops.size) (h0 : L0.size = ops.size)
    (inv : HeadInv md ops n listed) (hle : ∀ i, L0.getD i false = true → listed.getD i false = true) :
    ∀ (d i : Nat), n - i ≤ d → i < n → listed.getD i true = false → ∀ t, n ≤ t → t ∉ Region.ready md ops listed := by
  intro d
  induction d with
  | zero => intro i h1 h2; omega
  | succ d ih =>
    intro i hd hi hun t ht hr
    have htl : t < ops.size := by
      obtain ⟨_, o, ho, _⟩ := mem_ready.1 hr
      exact (Array.getElem?_eq_some_iff.1 ho).1
    by_cases htn : n < t
    · have h1 := List.all_eq_true.1 hc t (List.mem_range.2 htl)
      simp only [Bool.or_eq_true, decide_eq_true_eq] at h1
      rcases h1 with h1 | h1
      · omega
      · have h2 := waits_listed hr h1
        have h3 := getD_both (inv.tail (t - 1) (by omega) (by omega))
        rw [h3] at h2; cases h2
    · obtain rfl : t = n := by omega
      have h1 := List.all_eq_true.1 hs i (List.mem_range.2 hi)
      simp only [Bool.or_eq_true] at h1
      rcases h1 with h1 | h1
      · have : L0.getD i false = true := by
          cases h4 : L0.getD i false with
          | true => rfl
          | false => rw [getD_in (by omega) h4] at h1; cases h1
        have := hle i this
        rw [getD_both hun] at this; cases this
      · obtain ⟨j, hj, h2⟩ := List.any_eq_true.1 h1
        simp only [Bool.and_eq_true, decide_eq_true_eq] at h2
        have hjn := List.mem_range.1 hj
        by_cases hjt : j = t
        · subst hjt
          have := waits_listed hr h2.2
          rw [getD_both hun] at this; cases this
        · cases hl : listed.getD j false with
          | true =>
            obtain ⟨o', ho', e, he, hb, hon⟩ := Region.waitsFor_spec h2.2
            have := inv.closed j o' ho' hl e he hb
            rw [hon, getD_both hun] at this; cases this
          | false => exact ih j (by omega) (by omega) (getD_in (by rw [inv.size]; omega) hl) t (by omega) hr

theorem bubble {i : Nat} {oi : Oper} {Lq : Act → Prop} (hi : ops[i]? = some oi) (hsel : ∀ (j : Nat) (o : Oper) cs b, ops[j]? = some o → o.op ≠ .select cs b) (post : List Oper) :
    ∀ (pre : List Oper) (a : Act), (∀ o ∈ pre, ∃ j : Nat, ops[j]? = some o ∧ o.apart ops oi = true) → wpStill P ops w Lq (pre ++ oi :: post) a → stOp P ops w i (wpStill P ops w Lq (pre ++ post)) a
  | [], a, _, h => by
    unfold stOp; simp only [hi]; exact h
  | o :: pre, a, hap, h => by
    obtain ⟨j, hj, hA⟩ := hap o (by simp)
    have h1 : stOp P ops w j (wpStill P ops w Lq (pre ++ oi :: post)) a := by unfold stOp; simp only [hj]; exact h
    obtain ⟨v, hy, hK⟩ := yieldsAt_of_stOp hj h1
    have h2 := bubble hi hsel post pre _ (fun o' ho' => hap o' (by simp [ho'])) hK
    refine stOp_mono (fun a' h3 => ?_) (stOp_put hi hA (fun cs b => hsel j o cs b hj) (fun cs b => hsel i oi cs b hi) hy h2)
    have h4 := h3.1.stOp (P := P) (ops := ops) (w := w) hj (K := wpStill P ops w Lq (pre ++ post)) h3.2
    unfold stOp at h4; simp only [hj] at h4; exact h4

theorem todo_split {n i : Nat} {listed : Array Bool} (hi : i < n) (hsz : i < listed.size) (hun : listed.getD i true = false) :
    ∃ pre post, todo n listed = pre ++ i :: post ∧ todo n (listed.setIfInBounds i true) = pre ++ post ∧ ∀ j ∈ pre, j < i ∧ listed.getD j true = false := by
  have hr : List.range n = List.range' 0 i ++ i :: List.range' (i + 1) (n - i - 1) := by
    rw [List.range_eq_range']
    have h1 : n = i + ((n - i - 1) + 1) := by omega
    conv => lhs; rw [h1]
    have h2 := List.range'_append (s := 0) (m := i) (n := (n - i - 1) + 1) (step := 1)
    rw [← h2]; simp [List.range'_succ]
  refine ⟨(List.range' 0 i).filter (fun k => !listed.getD k true), (List.range' (i + 1) (n - i - 1)).filter (fun k => !listed.getD k true), ?_, ?_, ?_⟩
  · unfold todo; rw [hr, List.filter_append, List.filter_cons]; simp only [hun]; simp
  · unfold todo
    rw [hr, List.filter_append, List.filter_cons]
    have hset : (listed.setIfInBounds i true).getD i true = true := by simp [hsz]
    simp only [hset]
    have e1 : ∀ k, k ≠ i → (listed.setIfInBounds i true).getD k true = listed.getD k true := fun k hk => getD_set_ne true (Ne.symm hk)
    have g1 : (List.range' 0 i).filter (fun k => !(listed.setIfInBounds i true).getD k true) = (List.range' 0 i).filter (fun k => !listed.getD k true) := by
      apply List.filter_congr; intro k hk; rw [e1 k (by have := List.mem_range'_1.1 hk; omega)]
    have g2 : (List.range' (i + 1) (n - i - 1)).filter (fun k => !(listed.setIfInBounds i true).getD k true) = (List.range' (i + 1) (n - i - 1)).filter (fun k => !listed.getD k true) := by
      apply List.filter_congr; intro k hk; rw [e1 k (by have := List.mem_range'_1.1 hk; omega)]
    rw [g1, g2]; simp
  · intro j hj
    have h1 := List.mem_filter.1 hj
    have h2 := List.mem_range'_1.1 h1.1
    refine ⟨by omega, ?_⟩
    have h3 := h1.2
    simp only [Bool.not_eq_true'] at h3
    exact h3

def fullHead (n m : Nat) : Array Bool := Array.replicate n true ++ Array.replicate (m - n) false

theorem full_of {n : Nat} {listed : Array Bool} (hn : n < ops.size) (inv : HeadInv md ops n listed) (h : todo n listed = []) : listed = fullHead n ops.size := by
  apply Array.ext
  · simp [fullHead, inv.size]; omega
  · intro k h1 h2
    by_cases hk : k < n
    · have h3 : k ∉ todo n listed := by rw [h]; simp
      simp only [todo, List.mem_filter, List.mem_range, hk, true_and] at h3
      have h4 : listed.getD k true = true := by
        cases hx : listed.getD k true with
        | true => rfl
        | false => rw [hx] at h3; simp at h3
      simp [h1] at h4
      simp [fullHead, hk, h4]
    · have h4 := inv.tail k (by omega) (by rw [← inv.size]; exact h1)
      simp [h1] at h4
      simp [fullHead, hk, h4, Array.getElem_append]

/-- 'wpAny', and as long as number c has not come, S behind each operation. -/
def wpAnyU (P : Program) (md : Region.Mode) (ops : Array Oper) (Q : Exit → Act → World → Prop) (S : World → Prop) (c : Nat) : Nat → Array Bool → Act → World → Prop
  | 0, listed, a, w => Region.ready md ops listed = [] ∧ Q .normal a w
  | f + 1, listed, a, w => (Region.ready md ops listed = [] → Q .normal a w) ∧
    ∀ i ∈ Region.ready md ops listed, wpOp P ops Q i (fun a' w' => ((listed.setIfInBounds i true).getD c true = false → S w') ∧ wpAnyU P md ops Q S c f (listed.setIfInBounds i true) a' w') a w

theorem wpAnyU_drop {Q : Exit → Act → World → Prop} {S : World → Prop} {c : Nat} : ∀ (f : Nat) (listed : Array Bool) (a : Act) (w : World), wpAnyU P md ops Q S c f listed a w → wpAny P md ops Q f listed a w
  | 0, _, _, _, h => h
  | f + 1, _, _, _, h => ⟨h.1, fun i hi => wpOp_mono (fun _ _ h' => wpAnyU_drop f _ _ _ h'.2) (h.2 i hi)⟩

theorem free_set {i j : Nat} {oi : Oper} {listed : Array Bool} (hjun : listed.getD j true = false)
    (hfree : ∀ k ok, ops[k]? = some ok → k ≠ i → listed.getD k true = false → (∀ e ∈ ok.after, Region.binds md e = true → e.on ≠ i) → oi.apart ops ok = true) :
    ∀ k ok, ops[k]? = some ok → k ≠ i → (listed.setIfInBounds j true).getD k true = false → (∀ e ∈ ok.after, Region.binds md e = true → e.on ≠ i) → oi.apart ops ok = true := by
  intro k ok hk hki hun hno
  refine hfree k ok hk hki ?_ hno
  by_cases hjk : j = k
  · subst hjk; exact hjun
  · rw [getD_set_ne true hjk] at hun; exact hun

theorem not_waits {i : Nat} {oj : Oper} {listed : Array Bool} (hr : i ∈ Region.ready md ops listed) (hall : ∀ e ∈ oj.after, Region.binds md e = true → listed.getD e.on false = true) :
    ∀ e ∈ oj.after, Region.binds md e = true → e.on ≠ i := fun e he hb heq => by
  have h1 := hall e he hb
  rw [heq, getD_both (mem_ready.1 hr).1] at h1; cases h1

/-- A move (it yields in whatever world) may be taken first. -/
theorem moveU {Q : Exit → Act → World → Prop} {S : World → Prop} {c i : Nat} {oi : Oper} {v : Value} (hi : ops[i]? = some oi) (hsel : ∀ (j : Nat) (o : Oper) cs b, ops[j]? = some o → o.op ≠ .select cs b)
    (hQ : ∀ ch a w, Q (.panic ch) (a.put oi.dst v) w → Q (.panic ch) a w) (hc : c ≠ i) :
    ∀ (fuel : Nat) (listed : Array Bool) (a : Act) (w : World),
      (∀ j oj, ops[j]? = some oj → j ≠ i → listed.getD j true = false → (∀ e ∈ oj.after, Region.binds md e = true → e.on ≠ i) → oi.apart ops oj = true) →
      i ∈ Region.ready md ops listed → Yields P ops oi v a → (listed.getD c true = false → S w) →
      wpAnyU P md ops Q S c fuel (listed.setIfInBounds i true) (a.put oi.dst v) w → wpAnyU P md ops Q S c (fuel + 1) listed a w := by
  intro fuel
  induction fuel with
  | zero =>
    intro listed a w _ hr hy hS H
    refine ⟨fun h => (by rw [h] at hr; cases hr), fun j hj => ?_⟩
    by_cases hji : j = i
    · subst hji; exact hy.wpOp hi ⟨fun h => hS (by rwa [getD_set_ne true (Ne.symm hc)] at h), H⟩
    · have := ready_mono hj hji
      rw [H.1] at this; cases this
  | succ fuel ih =>
    intro listed a w hfree hr hy hS H
    refine ⟨fun h => (by rw [h] at hr; cases hr), fun j hj => ?_⟩
    by_cases hji : j = i
    · subst hji; exact hy.wpOp hi ⟨fun h => hS (by rwa [getD_set_ne true (Ne.symm hc)] at h), H⟩
    · have h1 := H.2 j (ready_mono hj hji)
      obtain ⟨hjun, oj, hoj, hall⟩ := mem_ready.1 hj
      have h2 := wpOp_put hoj (hfree j oj hoj hji hjun (not_waits hr hall)) (fun cs b => hsel i oi cs b hi) (fun cs b => hsel j oj cs b hoj) hQ hy h1
      refine wpOp_mono (fun a' w' h3 => ?_) h2
      have hSw : (listed.setIfInBounds j true).getD c true = false → S w' := fun h => h3.2.1 (by rw [Array.setIfInBounds_comm _ _ (Ne.symm hji), getD_set_ne true (Ne.symm hc)]; exact h)
      refine ⟨hSw, ih (listed.setIfInBounds j true) a' w' (free_set hjun hfree) (ready_mono hr (Ne.symm hji)) h3.1 hSw ?_⟩
      rw [Array.setIfInBounds_comm _ _ hji]
      exact h3.2.2

/-- number c waits for number i, over some others -/
def waitsT (md : Region.Mode) (ops : Array Oper) : Nat → Nat → Nat → Bool
  | 0, c, i => Region.waitsFor md ops c i
  | f + 1, c, i => Region.waitsFor md ops c i || (List.range ops.size).any fun j => Region.waitsFor md ops c j && waitsT md ops f j i
theorem waitsT_some {i : Nat} : ∀ (f c : Nat), waitsT md ops f c i = true → ∃ j, Region.waitsFor md ops c j = true ∧ (j = i ∨ ∃ f', waitsT md ops f' j i = true ∧ f' < f)
  | 0, c, h => ⟨i, h, .inl rfl⟩
  | f + 1, c, h => by
    simp only [waitsT, Bool.or_eq_true] at h
    rcases h with h | h
    · exact ⟨i, h, .inl rfl⟩
    · obtain ⟨j, _, hj⟩ := List.any_eq_true.1 h
      simp only [Bool.and_eq_true] at hj
      exact ⟨j, hj.1, .inr ⟨f, hj.2, Nat.lt_succ_self f⟩⟩
theorem waitsT_unlisted {i : Nat} {listed : Array Bool} (inv : HeadInv md ops ops.size listed) (hun : listed.getD i true = false) : ∀ (f c : Nat), waitsT md ops f c i = true → listed.getD c true = false := by
  intro f
  induction f using Nat.strongRecOn with
  | _ f ih =>
    intro c h
    obtain ⟨j, hj, hji⟩ := waitsT_some f c h
    have hju : listed.getD j false = false := by
      rcases hji with rfl | ⟨f', h', hf⟩
      · exact getD_both hun
      · exact getD_both (ih f' hf j h')
    obtain ⟨o, ho, e, he, hb, hon⟩ := Region.waitsFor_spec hj
    refine getD_in (by rw [inv.size]; exact (Array.getElem?_eq_some_iff.1 ho).1) ?_
    cases hc : listed.getD c false with
    | false => rfl
    | true =>
      have := inv.closed c o ho hc e he hb
      rw [hon, hju] at this; cases this
theorem waitsT_sleeps {i f c : Nat} {listed : Array Bool} (inv : HeadInv md ops ops.size listed) (hun : listed.getD i true = false) (h : waitsT md ops f c i = true) : c ∉ Region.ready md ops listed := fun hr => by
  obtain ⟨j, hj, hji⟩ := waitsT_some f c h
  have h1 := waits_listed hr hj
  have hju : listed.getD j false = false := by
    rcases hji with rfl | ⟨f', h', hf⟩
    · exact getD_both hun
    · exact getD_both (waitsT_unlisted inv hun f' j h')
  rw [hju] at h1; cases h1

/-- What reads a cell that S names may be taken first, if number c waits for it. -/
theorem lateU {Q : Exit → Act → World → Prop} {S : World → Prop} {c i : Nat} {oi : Oper} {v : Value} (hi : ops[i]? = some oi) (hsel : ∀ (j : Nat) (o : Oper) cs b, ops[j]? = some o → o.op ≠ .select cs b)
    (hQ : ∀ ch a w, Q (.panic ch) (a.put oi.dst v) w → Q (.panic ch) a w) {F : Nat} (hc : c ≠ i) (hcw : waitsT md ops F c i = true) :
    ∀ (fuel : Nat) (listed : Array Bool) (a : Act) (w : World),
      (∀ j oj, ops[j]? = some oj → j ≠ i → listed.getD j true = false → (∀ e ∈ oj.after, Region.binds md e = true → e.on ≠ i) → oi.apart ops oj = true) →
      i ∈ Region.ready md ops listed → YieldsIf P ops S oi v a → HeadInv md ops ops.size listed → S w →
      wpAnyU P md ops Q S c fuel (listed.setIfInBounds i true) (a.put oi.dst v) w → wpAnyU P md ops Q S c (fuel + 1) listed a w := by
  intro fuel
  induction fuel with
  | zero =>
    intro listed a w _ hr hy inv hS H
    refine ⟨fun h => (by rw [h] at hr; cases hr), fun j hj => ?_⟩
    by_cases hji : j = i
    · subst hji; exact hy.wpOp hi hS ⟨fun _ => hS, H⟩
    · have := ready_mono hj hji
      rw [H.1] at this; cases this
  | succ fuel ih =>
    intro listed a w hfree hr hy inv hS H
    refine ⟨fun h => (by rw [h] at hr; cases hr), fun j hj => ?_⟩
    by_cases hji : j = i
    · subst hji; exact hy.wpOp hi hS ⟨fun _ => hS, H⟩
    · have h1 := H.2 j (ready_mono hj hji)
      obtain ⟨hjun, oj, hoj, hall⟩ := mem_ready.1 hj
      have hjc : j ≠ c := fun e => by
        subst e
        exact waitsT_sleeps inv (mem_ready.1 hr).1 hcw hj
      have h2 := wpOp_putIf hoj (hfree j oj hoj hji hjun (not_waits hr hall)) (fun cs b => hsel i oi cs b hi) (fun cs b => hsel j oj cs b hoj) hQ hy h1
      refine wpOp_mono (fun a' w' h3 => ?_) h2
      have inv' := inv.set hj (Array.getElem?_eq_some_iff.1 hoj).1
      have hcu' : (listed.setIfInBounds j true).getD c true = false := waitsT_unlisted inv' (mem_ready.1 (ready_mono hr (Ne.symm hji))).1 F c hcw
      have hSw : S w' := h3.2.1 (by rw [Array.setIfInBounds_comm _ _ (Ne.symm hji), getD_set_ne true (Ne.symm hc)]; exact hcu')
      refine ⟨fun _ => hSw, ih (listed.setIfInBounds j true) a' w' (free_set hjun hfree) (ready_mono hr (Ne.symm hji)) h3.1 inv' hSw ?_⟩
      rw [Array.setIfInBounds_comm _ _ hji]
      exact h3.2.2

theorem head_any {n g c : Nat} {L0 : Array Bool} {Lq : Act → Prop} {Q : Exit → Act → World → Prop} {S : World → Prop} (hSw : S w) (hsel : ∀ (j : Nat) (o : Oper) cs b, ops[j]? = some o → o.op ≠ .select cs b)
    (hs : sinkFromB md ops n L0 = true) (hc : Region.chainB md ops n = true) (hp : pairB md ops n = true) (hd : depsB md ops n = true) (hn : n < ops.size) (h0 : L0.size = ops.size)
    (htail : ∀ a, Lq a → wpAnyU P md ops Q S c g (fullHead n ops.size) a w) :
    ∀ (f : Nat) (listed : Array Bool) (a : Act), HeadInv md ops n listed → (∀ i, L0.getD i false = true → listed.getD i false = true) → (todo n listed).length = f →
      wpStill P ops w Lq (rowsOf ops (todo n listed)) a → wpAnyU P md ops Q S c (f + g) listed a w := by
  intro f
  induction f with
  | zero =>
    intro listed a inv _ hf h
    have he := List.length_eq_zero_iff.1 hf
    rw [full_of hn inv he, Nat.zero_add]
    rw [he] at h
    exact htail a h
  | succ f ih =>
    intro listed a inv hle hf h
    rw [show f + 1 + g = (f + g) + 1 by omega]
    obtain ⟨i0, rest0, h00⟩ : ∃ i0 rest0, todo n listed = i0 :: rest0 := by
      cases ht : todo n listed with
      | nil => rw [ht] at hf; simp at hf
      | cons x r => exact ⟨x, r, rfl⟩
    have hm0 : i0 ∈ todo n listed := by rw [h00]; simp
    have hm1 := List.mem_filter.1 hm0
    have hi0 : i0 < n := List.mem_range.1 hm1.1
    have hu0 : listed.getD i0 true = false := by have := hm1.2; simpa only [Bool.not_eq_true'] using this
    have hready0 : i0 ∈ Region.ready md ops listed := by
      refine mem_ready.2 ⟨hu0, ops[i0], by simp [show i0 < ops.size by omega], fun e he hb => ?_⟩
      have h1 := List.all_eq_true.1 hd i0 (List.mem_range.2 hi0)
      simp only [show ops[i0]? = some ops[i0] by simp [show i0 < ops.size by omega]] at h1
      have h2 := Array.all_eq_true_iff_forall_mem.1 h1 e he
      simp only [hb, Bool.not_true, Bool.false_or, decide_eq_true_eq] at h2
      cases hx : listed.getD e.on false with
      | true => rfl
      | false =>
        have hx' := getD_in (by rw [inv.size]; omega) hx
        obtain ⟨pre, post, e1, _, e3⟩ := todo_split (n := n) hi0 (by rw [inv.size]; omega) hu0
        have hmem : e.on ∈ todo n listed := List.mem_filter.2 ⟨List.mem_range.2 (by omega), by rw [hx']; rfl⟩
        have hpre : pre = [] := by
          cases pre with
          | nil => rfl
          | cons x r =>
            have h5 : i0 :: rest0 = (x :: r) ++ i0 :: post := h00.symm.trans e1
            have hxi : i0 = x := (List.cons.inj h5).1
            have := (e3 x (by simp)).1
            omega
        subst hpre
        have h5 : todo n listed = i0 :: post := by simpa using e1
        rw [h5] at hmem
        rcases List.mem_cons.1 hmem with h6 | h6
        · omega
        · have h7 : (i0 :: post).Pairwise (· < ·) := by rw [← h5]; exact List.Pairwise.filter _ (List.pairwise_lt_range)
          have := (List.pairwise_cons.1 h7).1 _ h6
          omega
    refine ⟨fun h1 => (by rw [h1] at hready0; cases hready0), fun i hi => ?_⟩
    have hin : i < n := by
      rcases Nat.lt_or_ge i n with h1 | h1
      · exact h1
      · exact absurd hi (tail_sleeps hs hc hn h0 inv hle _ i0 (Nat.le_refl _) hi0 hu0 i h1)
    obtain ⟨hun, oi, hoi, _⟩ := mem_ready.1 hi
    obtain ⟨pre, post, e1, e2, e3⟩ := todo_split (n := n) hin (by rw [inv.size]; omega) hun
    have hrows : rowsOf ops (todo n listed) = rowsOf ops pre ++ oi :: rowsOf ops post := by rw [e1]; simp [rowsOf, List.filterMap_append, hoi]
    rw [hrows] at h
    have hb := bubble hoi hsel (rowsOf ops post) (rowsOf ops pre) a (fun o ho => by
      obtain ⟨j, hj, hjo⟩ := List.mem_filterMap.1 ho
      refine ⟨j, hjo, ?_⟩
      have h1 := List.all_eq_true.1 (List.all_eq_true.1 hp i (List.mem_range.2 hin)) j (List.mem_range.2 (e3 j hj).1)
      simp only [Bool.or_eq_true, hjo, hoi] at h1
      rcases h1 with h1 | h1
      · have := waits_listed hi h1
        rw [getD_both (e3 j hj).2] at this; cases this
      · exact h1) h
    refine wpOp_of_stOp (fun a' h' => ⟨fun _ => hSw, ih (listed.setIfInBounds i true) a' (inv.set hi hin) (fun k hk => getD_set_true (hle k hk)) ?_ ?_⟩) hb
    · rw [e1] at hf; rw [e2]; simp at hf ⊢; omega
    · rw [e2]; simpa [rowsOf, List.filterMap_append] using h'

/-! ### moves that may come at any time -/
def setAll (listed : Array Bool) (is : List Nat) : Array Bool := is.foldl (fun l i => l.setIfInBounds i true) listed
def moveOf (o : Oper) : Option Operand := match o.guard, o.op with | none, .move x => some x | _, _ => none
def movesA (ops : Array Oper) : List Nat → Act → Act
  | [], a => a
  | i :: r, a => movesA ops r (match ops[i]? with | some o => (match moveOf o with | some x => a.put o.dst (a.eval x) | none => a) | none => a)
def takeB (md : Region.Mode) (ops : Array Oper) : List Nat → Array Bool → Bool
  | [], _ => true
  | i :: r, listed => (Region.ready md ops listed).contains i && Region.free md ops listed i && ((ops[i]?).bind moveOf).isSome && takeB md ops r (listed.setIfInBounds i true)

theorem moves_first {Q : Exit → Act → World → Prop} {S : World → Prop} {c fuel : Nat} (hsel : ∀ (j : Nat) (o : Oper) cs b, ops[j]? = some o → o.op ≠ .select cs b)
    (hQ : ∀ ch a d v w, Q (.panic ch) (a.put d v) w → Q (.panic ch) a w) (hSw : S w) : ∀ (is : List Nat) (listed : Array Bool) (a : Act), takeB md ops is listed = true → c ∉ is →
      wpAnyU P md ops Q S c fuel (setAll listed is) (movesA ops is a) w → wpAnyU P md ops Q S c (is.length + fuel) listed a w
  | [], listed, a, _, _, h => by simpa [setAll, movesA] using h
  | i :: r, listed, a, hB, hc, h => by
    simp only [takeB, Bool.and_eq_true] at hB
    obtain ⟨⟨⟨hr, hf⟩, hm⟩, hB'⟩ := hB
    obtain ⟨x, hx⟩ := Option.isSome_iff_exists.1 hm
    obtain ⟨o, ho, hox⟩ := Option.bind_eq_some_iff.1 hx
    have hy : Yields P ops o (a.eval x) a := by
      unfold moveOf at hox
      cases hg : o.guard with
      | some g => rw [hg] at hox; simp at hox
      | none =>
        rw [hg] at hox
        cases hop : o.op <;> rw [hop] at hox <;> simp at hox
        subst hox
        refine Or.inl ⟨by simp [Region.wanted, hg], fun w' => ?_⟩
        simp [execOp, hop, Sem.run_pure]
    rw [show (i :: r).length + fuel = (r.length + fuel) + 1 by simp; omega]
    refine moveU ho hsel (fun ch a w => hQ ch a o.dst _ w) (fun e => hc (by simp [e])) _ listed a w (Region.free_spec ho hf) (by simpa using hr) hy (fun _ => hSw) ?_
    refine moves_first hsel hQ hSw r _ _ hB' (fun h' => hc (by simp [h'])) ?_
    have : movesA ops (i :: r) a = movesA ops r (a.put o.dst (a.eval x)) := by simp [movesA, ho, hox]
    rw [this] at h
    exact h

/-! ### reads of cells that S names, which number c alone waits for -/
def lateB (md : Region.Mode) (ops : Array Oper) (c : Nat) : List Nat → Array Bool → Bool
  | [], _ => true
  | i :: r, listed => (Region.ready md ops listed).contains i && Region.free md ops listed i && (ops[i]?).isSome && decide (c ≠ i) && waitsT md ops ops.size c i && lateB md ops c r (listed.setIfInBounds i true)
def takesP (P : Program) (ops : Array Oper) (S : World → Prop) (K : Act → Prop) : List Oper → Act → Prop
  | [], a => K a
  | o :: r, a => ∃ v, (∀ w, S w → Region.wanted o (yielded ops a.tmps) = true ∧ (execOp a.eval o).run P w = .ok (.value v) w) ∧ takesP P ops S K r (a.put o.dst v)

theorem late_first {Q : Exit → Act → World → Prop} {S : World → Prop} {c fuel : Nat} {K : Act → Prop} (hsel : ∀ (j : Nat) (o : Oper) cs b, ops[j]? = some o → o.op ≠ .select cs b)
    (hQ : ∀ ch a d v w, Q (.panic ch) (a.put d v) w → Q (.panic ch) a w) (hSw : S w) : ∀ (is : List Nat) (listed : Array Bool) (a : Act), lateB md ops c is listed = true → HeadInv md ops ops.size listed →
      (∀ a, K a → wpAnyU P md ops Q S c fuel (setAll listed is) a w) → takesP P ops S K (rowsOf ops is) a → wpAnyU P md ops Q S c (is.length + fuel) listed a w
  | [], listed, a, _, _, hK, h => by simpa [setAll] using hK a h
  | i :: r, listed, a, hB, inv, hK, h => by
    simp only [lateB, Bool.and_eq_true, decide_eq_true_eq] at hB
    obtain ⟨⟨⟨⟨⟨hr, hf⟩, hm⟩, hc⟩, hcw⟩, hB'⟩ := hB
    obtain ⟨o, ho⟩ := Option.isSome_iff_exists.1 hm
    have hrows : rowsOf ops (i :: r) = o :: rowsOf ops r := by simp [rowsOf, ho]
    rw [hrows] at h
    obtain ⟨v, hv, h'⟩ := h
    rw [show (i :: r).length + fuel = (r.length + fuel) + 1 by simp; omega]
    refine lateU ho hsel (fun ch a w => hQ ch a o.dst _ w) hc hcw _ listed a w (Region.free_spec ho hf) (by simpa using hr) (Or.inl ⟨(hv w hSw).1, fun w' hw' => (hv w' hw').2⟩) inv hSw ?_
    exact late_first hsel hQ hSw r _ _ hB' (inv.set (by simpa using hr) (Array.getElem?_eq_some_iff.1 ho).1) (fun a ha => hK a ha) h'

/-- The tail, one operation behind the other; S behind each of the first p. -/
def chainS (P : Program) (ops : Array Oper) (Q : Exit → Act → World → Prop) (S : World → Prop) : Nat → List Oper → Act → World → Prop
  | 0, l, a, w => ∀ K : Exit → Act → World → Prop, (∀ a w, Q .normal a w → K .normal a w) → wpList P ops K l a w
  | _ + 1, [], a, w => Q .normal a w
  | p + 1, o :: r, a, w => ∀ K : Exit → Act → World → Prop, (∀ a' w', S w' → chainS P ops Q S p r a' w' → K .normal a' w') → wpList P ops K [o] a w

/-- Q at a normal end, and no other end. -/
def OnlyNormal (Q : Exit → Act → World → Prop) : Exit → Act → World → Prop
  | .normal, a, w => Q .normal a w
  | _, _, _ => False
theorem OnlyNormal.lets {Q : Exit → Act → World → Prop} : ¬ LetsOut (OnlyNormal Q) := fun ⟨_, _, h⟩ => h
theorem OnlyNormal.imp {Q : Exit → Act → World → Prop} : ∀ (e : Exit) (a : Act) (w : World), OnlyNormal Q e a w → Q e a w := fun e a w h => by
  cases e <;> first | exact h | exact (h : False).elim

theorem getD_listed {listed : Array Bool} {c k : Nat} (h : (listed.setIfInBounds k true).getD c true = false) (hc : listed.getD c true = true ∨ c = k) : False := by
  rcases hc with hc | rfl
  · by_cases hk : k = c
    · subst hk
      rcases Nat.lt_or_ge k listed.size with h' | h'
      · simp [h'] at h
      · simp [Array.getElem?_eq_none h'] at h
    · rw [getD_set_ne true hk, hc] at h; cases h
  · rcases Nat.lt_or_ge c listed.size with h' | h'
    · simp [h'] at h
    · simp [Array.getElem?_eq_none h'] at h

theorem wpAnyU_of_seq {Q : Exit → Act → World → Prop} {S : World → Prop} {c : Nat} : ∀ (l : List Oper) (k : Nat) (listed : Array Bool) (a : Act) (w : World), (∀ j, l[j]? = ops[k + j]?) →
    Region.seqB md ops l.length k listed = true → ((∀ w, S w) ∨ listed.getD c true = true ∨ c = k) → wpList P ops Q l a w → wpAnyU P md ops Q S c l.length listed a w
  | [], _, _, _, _, _, hB, _, h => ⟨by simpa [Region.seqB] using hB, h⟩
  | o :: l, k, listed, a, w, hl, hB, hc, h => by
    have h0 : ops[k]? = some o := by simpa using (hl 0).symm
    simp only [List.length_cons, Region.seqB, Bool.and_eq_true, decide_eq_true_eq] at hB
    refine ⟨fun h1 => (by rw [hB.1] at h1; cases h1), fun i hi => ?_⟩
    rw [hB.1] at hi
    obtain rfl : i = k := by simpa using hi
    have hw : wpOp P ops Q i (wpList P ops Q l) a w := by unfold wpOp; simp only [h0]; exact h
    refine wpOp_mono (fun a' w' h' => ⟨fun hx => ?_, wpAnyU_of_seq l (i + 1) _ a' w' (fun j => by have := hl (j + 1); simpa [Nat.add_assoc, Nat.add_comm 1 j] using this) hB.2 ?_ h'⟩) hw
    · rcases hc with hc | hc
      · exact hc w'
      · exact (getD_listed hx hc).elim
    · rcases hc with hc | hc
      · exact .inl hc
      · refine .inr (.inl ?_)
        cases hx : (listed.setIfInBounds i true).getD c true with
        | true => rfl
        | false => exact (getD_listed hx hc).elim

theorem wpOp_congrK {Q Q' : Exit → Act → World → Prop} {k : Nat} {o : Oper} {K : Act → World → Prop} {a : Act} {w : World} (h0 : ops[k]? = some o) (h : wpList P ops Q' [o] a w) (hK : ∀ a w, Q' .normal a w → K a w)
    (hQ : ∀ e a w, e ≠ .normal → Q' e a w → False) : wpOp P ops Q k K a w := by
  have hl : ¬ LetsOut Q' := fun ⟨a, w, h⟩ => hQ _ a w (fun e => by cases e) h
  unfold wpOp
  simp only [h0]
  simp only [wpList] at h
  split
  · rename_i hw
    rw [if_pos hw] at h
    rcases h with h | h
    · refine .inl ?_
      unfold Oper.wp at *
      generalize (execOp a.eval o).run P w = r at *
      cases r with
      | ok x w' =>
        cases x <;> simp only [Oper.upon] at h ⊢ <;>
          first
            | exact hK _ _ h
            | exact Calls.mono h (fun e w'' he => by cases e <;> first | exact hK _ _ he | exact (hQ _ _ _ (fun e => by cases e) he).elim | exact (hl he).elim)
            | exact Rows.mono h (fun _ _ he => hK _ _ he)
      | halt x w' => cases x <;> simp only [Oper.upon] at h ⊢ <;> first | exact h | exact (hQ _ _ _ (fun e => by cases e) h).elim | exact (hl h).elim
    · exact absurd h.2 hl
  · rename_i hw
    rw [if_neg hw] at h
    exact hK _ _ h

theorem wpAnyU_of_chain {Q : Exit → Act → World → Prop} {S : World → Prop} {c : Nat} : ∀ (p : Nat) (l : List Oper) (k : Nat) (listed : Array Bool) (a : Act) (w : World), (∀ j, l[j]? = ops[k + j]?) →
    Region.seqB md ops l.length k listed = true → ((∀ w, S w) ∨ listed.getD c true = true ∨ c = k + p) → chainS P ops Q S p l a w → wpAnyU P md ops (OnlyNormal Q) S c l.length listed a w
  | 0, l, k, listed, a, w, hl, hB, hc, h => wpAnyU_of_seq l k listed a w hl hB (by simpa using hc) (h _ fun _ _ h => h)
  | _ + 1, [], _, _, _, _, _, hB, _, h => ⟨by simpa [Region.seqB] using hB, h⟩
  | p + 1, o :: l, k, listed, a, w, hl, hB, hc, h => by
    have h0 : ops[k]? = some o := by simpa using (hl 0).symm
    simp only [List.length_cons, Region.seqB, Bool.and_eq_true, decide_eq_true_eq] at hB
    refine ⟨fun h1 => (by rw [hB.1] at h1; cases h1), fun i hi => ?_⟩
    rw [hB.1] at hi
    obtain rfl : i = k := by simpa using hi
    refine wpOp_congrK (Q' := OnlyNormal fun e a w => e = .normal ∧ S w ∧ chainS P ops Q S p l a w) h0 (h _ fun a' w' h1 h2 => ⟨rfl, h1, h2⟩) (fun a' w' h' => ⟨fun _ => h'.2.1, wpAnyU_of_chain p l (i + 1) _ a' w' (fun j => by have := hl (j + 1); simpa [Nat.add_assoc, Nat.add_comm 1 j] using this) hB.2 ?_ h'.2.2⟩)
      (fun e a w he h => by cases e <;> first | exact he rfl | exact h)
    rcases hc with hc | hc | hc
    · exact .inl hc
    · refine .inr (.inl ?_)
      cases hx : (listed.setIfInBounds i true).getD c true with
      | true => rfl
      | false => exact (getD_listed hx (.inl hc)).elim
    · exact .inr (.inr (by omega))

def closedB (md : Region.Mode) (ops : Array Oper) (L : Array Bool) : Bool :=
  (List.range ops.size).all fun j => !L.getD j false || match ops[j]? with
    | some o => o.after.all fun e => !Region.binds md e || L.getD e.on false
    | none => true

def planB (md : Region.Mode) (ops : Array Oper) (pre late : List Nat) (n c : Nat) : Bool :=
  let L0 := setAll (Array.replicate ops.size false) pre
  let L1 := setAll L0 late
  Region.noSelect ops && decide (n < ops.size) && takeB md ops pre (Array.replicate ops.size false) && closedB md ops L1 &&
  ((List.range ops.size).all fun t => decide (t < n) || !L1.getD t true) && sinkFromB md ops n L1 && Region.chainB md ops n && pairB md ops n && depsB md ops n &&
  Region.seqB md ops (ops.size - n) n (fullHead n ops.size) && decide (pre.length + (late.length + ((todo n L1).length + (ops.size - n))) = ops.size) && lateB md ops c late L0 && decide (c ∉ pre) && closedB md ops L0

theorem setAll_size (is : List Nat) : ∀ L : Array Bool, (setAll L is).size = L.size := by
  induction is with
  | nil => intro L; rfl
  | cons i r ih => intro L; show (setAll (L.setIfInBounds i true) r).size = _; rw [ih]; simp

def maskRows : List Bool → List Oper → List Oper
  | true :: m, o :: l => o :: maskRows m l
  | false :: m, _ :: l => maskRows m l
  | _, _ => []

theorem plan_any {Q : Exit → Act → World → Prop} {a : Act} {l : List Oper} (S : World → Prop) (pre late : List Nat) (n p : Nat) (hp : late = [] ∧ (∀ w, S w) ∨ True)
    (hB : planB .any l.toArray pre late n (n + p) = true) (hSw : S w)
    (h : takesP P l.toArray S (fun a1 => wpStill P l.toArray w (fun a' => chainS P l.toArray Q S p (l.drop n) a' w) (rowsOf l.toArray (todo n (setAll (setAll (Array.replicate l.toArray.size false) pre) late))) a1)
      (rowsOf l.toArray late) (movesA l.toArray pre a)) :
    wpAny P .any l.toArray (OnlyNormal Q) l.toArray.size (Array.replicate l.toArray.size false) a w := by
  clear hp
  simp only [planB, Bool.and_eq_true, decide_eq_true_eq] at hB
  obtain ⟨⟨⟨⟨⟨⟨⟨⟨⟨⟨⟨⟨⟨b1, b2⟩, b3⟩, b4⟩, b5⟩, b6⟩, b7⟩, b8⟩, b9⟩, b10⟩, b11⟩, b12⟩, b13⟩, b14⟩ := hB
  have hsel := Region.noSelect_spec b1
  have inv : HeadInv .any l.toArray n (setAll (setAll (Array.replicate l.toArray.size false) pre) late) := by
    refine ⟨by rw [setAll_size, setAll_size]; simp, fun j oj hj hl e he hb => ?_, fun t ht1 ht2 => ?_⟩
    · have h1 := List.all_eq_true.1 b4 j (List.mem_range.2 (Array.getElem?_eq_some_iff.1 hj).1)
      simp only [hl, Bool.not_true, Bool.false_or, hj] at h1
      have h2 := Array.all_eq_true_iff_forall_mem.1 h1 e he
      simpa only [hb, Bool.not_true, Bool.false_or] using h2
    · have h1 := List.all_eq_true.1 b5 t (List.mem_range.2 ht2)
      simp only [Bool.or_eq_true, decide_eq_true_eq, Bool.not_eq_true'] at h1
      rcases h1 with h1 | h1
      · omega
      · exact h1
  have inv0 : HeadInv .any l.toArray l.toArray.size (setAll (Array.replicate l.toArray.size false) pre) := by
    refine ⟨by rw [setAll_size]; simp, fun j oj hj hl e he hb => ?_, fun t ht1 ht2 => by omega⟩
    have h1 := List.all_eq_true.1 b14 j (List.mem_range.2 (Array.getElem?_eq_some_iff.1 hj).1)
    simp only [hl, Bool.not_true, Bool.false_or, hj] at h1
    have h2 := Array.all_eq_true_iff_forall_mem.1 h1 e he
    simpa only [hb, Bool.not_true, Bool.false_or] using h2
  have hdl : (l.drop n).length = l.toArray.size - n := by simp
  have H0 : ∀ a1, wpStill P l.toArray w (fun a' => chainS P l.toArray Q S p (l.drop n) a' w) (rowsOf l.toArray (todo n (setAll (setAll (Array.replicate l.toArray.size false) pre) late))) a1 → _ := fun a1 h1 =>
    head_any (md := .any) (g := l.toArray.size - n) (c := n + p) (Q := OnlyNormal Q) hSw hsel b6 b7 b8 b9 b2 (by rw [setAll_size, setAll_size]; simp) (fun a' hL => by
      have h1 := wpAnyU_of_chain (md := .any) (S := S) (c := n + p) p (l.drop n) n (fullHead n l.toArray.size) a' w (fun j => by simp [List.getElem?_drop]) (by rw [hdl]; exact b10) (.inr (.inr rfl)) hL
      rwa [hdl] at h1) _ _ a1 inv (fun i hi => hi) rfl h1
  have hQ : ∀ ch a d v w, OnlyNormal Q (.panic ch) (a.put d v) w → OnlyNormal Q (.panic ch) a w := fun _ _ _ _ _ h => h
  have H1 := late_first (md := .any) (c := n + p) hsel hQ hSw late _ _ b12 inv0 (fun a1 ha1 => H0 a1 ha1) h
  have H2 := moves_first hsel hQ hSw pre _ a b3 b13 H1
  rw [b11] at H2
  exact wpAnyU_drop _ _ _ _ H2

/-- THE LAW: the moves 'pre' first, then the other operations of the first n in the order of the text (each reads alone), then the rest as a plain list. -/
theorem wp_region_plan {id : Nat} {Q : Exit → Act → World → Prop} {a : Act} {l : List Oper} (pre : List Nat) (m : List Bool) (n : Nat) (hm : P.follows .mixedOrders = true)
    (hB : planB .any l.toArray pre [] n (n + 0) = true) (hR : rowsOf l.toArray (todo n (setAll (Array.replicate l.toArray.size false) pre)) = maskRows m l)
    (h : wpStill P l.toArray w.drew (fun a' => ∀ K : Exit → Act → World → Prop, (∀ a w, Q .normal a w → K .normal a w) → wpList P l.toArray K (l.drop n) a' w.drew) (maskRows m l) (movesA l.toArray pre a)) :
    (Code.region id l.toArray true).wp P Q a w := by
  rw [← hR] at h
  refine Code.wp_mono OnlyNormal.imp (wp_region_any hm ?_)
  exact plan_any (Q := Q) (fun _ => True) pre [] n 0 (.inr trivial) hB trivial h

/-! ### the same inside a round of a loop over a function -/
theorem rowsIn_of {l0 n : Nat} {row : String} {args : Array Value} {R : Value → World → Prop} (h : Rows P row args w R) : RowsIn (Fence.wide.inRound l0) n P row args w R := fun c cs _ =>
  let ⟨v, w', r, s⟩ := h c cs
  ⟨v, w', r, stepsIn_wide.2 s⟩
def noDefer (ops : Array Oper) : Bool := ops.all fun o => match o.op with | .defer _ => false | _ => true

theorem Oper_in {l0 n : Nat} {Q : Exit → Act → World → Prop} {o : Oper} {a : Act} {K : Act → World → Prop} (hd : ∀ c, o.op ≠ .defer c) (h : o.wp P a w K (OnlyNormal Q)) :
    o.wpIn (Fence.wide.inRound l0) n P a w K Q := by
  refine ⟨fun _ _ => trivial, ?_⟩
  rw [Oper.semAt_eq _ _ _ hd]
  unfold Oper.wp at h
  generalize (execOp a.eval o).run P w = r at *
  have hdep : (Fence.wide.inRound l0).depth.isSome = true → 1 ≤ n := fun h => by simp [Fence.wide] at h
  cases r with
  | ok x w' =>
    cases x <;> simp only [Oper.upon, Oper.uponIn] at h ⊢ <;>
      first
        | exact h
        | exact ⟨hdep, CallsIn.inRound l0 (callsIn_wide.2 (Calls.mono h (fun e w'' he => by cases e <;> first | exact he | exact (he : False).elim | exact (OnlyNormal.lets he).elim)))⟩
        | exact ⟨hdep, rowsIn_of h⟩
  | halt x w' => cases x <;> simp only [Oper.upon, Oper.uponIn] at h ⊢ <;> first | exact h | exact (h : False).elim | exact (OnlyNormal.lets h).elim

theorem wpOps_in {l0 n : Nat} {Q : Exit → Act → World → Prop} (hd : noDefer ops = true) : ∀ (σ : List Nat) (a : Act) (w : World), wpOps P ops (OnlyNormal Q) σ a w → wpOpsIn (Fence.wide.inRound l0) n P ops Q σ a w
  | [], _, _, h => h
  | i :: r, a, w, h => by
    unfold wpOps at h
    unfold wpOpsIn
    cases ho : ops[i]? with
    | none => simp only [ho] at h ⊢; exact wpOps_in hd r a w h
    | some o =>
      simp only [ho] at h ⊢
      have hdo : ∀ c, o.op ≠ .defer c := fun c e => by
        have := Array.all_eq_true_iff_forall_mem.1 hd o (Array.mem_of_getElem? ho)
        simp [e] at this
      split
      · rename_i hw
        rw [if_pos hw] at h
        rcases h with h | h
        · exact Oper.wpIn_mono (fun a w h => wpOps_in hd r a w h) (Oper_in hdo h)
        · exact (OnlyNormal.lets h.2).elim
      · rename_i hw
        rw [if_neg hw] at h
        exact ⟨fun _ _ => trivial, wpOps_in hd r _ w h⟩

end
end Go.Proofs.Ytbbjpjkclealfaa
namespace Go.Proofs.Ytbbjpjkclealfaa
open Go.ChangeShapes Go.WideShapes Go.ChangeAt Go.RowKit
set_option linter.unusedVariables false

theorem info5 : (Try.prog.info? 5).map (fun i => (i.zero, i.size, i.bytes)) = some (some (.int .u8 0), 1, 1) := by kernel_rfl
theorem run_string_own {P : Program} {w : World} {base n : Nat} {v : Value} {xs : List Int} (src e dst : TypeId) (hs : P.underlying src = some (.slice e)) (he : P.underlying e = some (.int .u8)) (hd : P.underlying dst = some .string)
    (hown : w.ownsRow base e 1 v n (xs.map (Value.int .u8))) : (convert src dst v).run P w = .ok (.string (strOfNums xs)) w := by
  have hn : xs.length = n := by have := hown.1; simpa using this
  rcases hown.2 with ⟨rfl, h0⟩ | ⟨g, cap, cur, rfl, _⟩
  · have hx : xs = [] := List.length_eq_zero_iff.1 (by omega)
    subst hx
    exact run_convert_bytes_nil w src e hs he 0 0 dst hd
  · refine run_convert_bytes_arg w src e hs he g 0 n cap xs hn (fun i hi => ?_) dst hd
    rw [Nat.zero_add, hown.cellAt i (by omega)]
    simp [show i < xs.length by omega]

theorem grown_of_below' {A B : World} (h : Below A.heap.size A B) (row : Option Nat) : A.grownBy B row := ⟨h.os, h.tape, h.output, h.size, fun k hk _ => h.block k hk⟩
theorem grown_trans {A B C : World} {row : Option Nat} (h : A.grownBy B row) (k : B.grownBy C row) : A.grownBy C row :=
  ⟨k.os.trans h.os, k.tape.trans h.tape, k.output.trans h.output, Nat.le_trans h.size k.size, fun j hj hr => (k.block j (Nat.lt_of_lt_of_le hj h.size) hr).trans (h.block j hj hr)⟩
end Go.Proofs.Ytbbjpjkclealfaa
namespace Go.Proofs.Ytbbjpjkclealfaa
set_option linter.unusedVariables false

def xorL (a b : List UInt8) : List UInt8 := List.zipWith (· ^^^ ·) a b
def leB : Nat → Nat → List UInt8
  | 0, _ => []
  | k + 1, w => UInt8.ofNat (w % 256) :: leB k (w / 256)
theorem leB_len : ∀ (k w : Nat), (leB k w).length = k
  | 0, _ => rfl
  | k + 1, w => by simp [leB, leB_len k]
def ones : Nat := 4294967295
end Go.Proofs.Ytbbjpjkclealfaa
namespace Go.Proofs.Ytbbjpjkclealfaa
open Go.ChangeShapes Go.WideShapes Go.ChangeAt Go.RowKit
set_option linter.unusedVariables false

theorem bv_nat (k n : Nat) : BitVec.ofInt k (n : Int) = BitVec.ofNat k n := by
  apply BitVec.eq_of_toNat_eq
  rw [BitVec.toNat_ofInt, BitVec.toNat_ofNat]
  exact Int.toNat_natCast _
theorem u8_xor (a b : UInt8) : bits .xor .u8 (a.toNat : Int) (b.toNat : Int) = ((a ^^^ b).toNat : Int) := by
  have ha := a.toNat_lt; have hb := b.toNat_lt
  have hx := Nat.xor_lt_two_pow (n := 8) ha hb
  show IntKind.u8.wrap ((BitVec.ofInt 8 (a.toNat : Int) ^^^ BitVec.ofInt 8 (b.toNat : Int)).toNat : Nat) = _
  rw [bv_nat, bv_nat, BitVec.toNat_xor, BitVec.toNat_ofNat, BitVec.toNat_ofNat, Nat.mod_eq_of_lt (by omega), Nat.mod_eq_of_lt (by omega), UInt8.toNat_xor]
  generalize a.toNat ^^^ b.toNat = z at *
  rw [IntKind.wrap_u8]; omega
def xorS (a b : ByteArray) : ByteArray := if a.size = b.size then ⟨(xorL a.data.toList b.data.toList).toArray⟩ else ByteArray.empty
theorem xorL_len (a b : ByteArray) (h : a.size = b.size) : (xorL a.data.toList b.data.toList).length = a.size := by simp [xorL, h]
theorem xorL_take (a b : ByteArray) (h : a.size = b.size) (k : Nat) (hk : k < a.size) : (xorL a.data.toList b.data.toList).take (k + 1) = (xorL a.data.toList b.data.toList).take k ++ [a[k] ^^^ b[k]'(by omega)] := by
  rw [List.take_succ_eq_append_getElem (by rw [xorL_len a b h]; exact hk)]
  congr 2
  simp [xorL]
  rfl
end Go.Proofs.Ytbbjpjkclealfaa
namespace Go.Proofs.Ytbbjpjkclealfaa
open Go
set_option linter.unusedVariables false

theorem xorL_comm : ∀ a b : List UInt8, xorL a b = xorL b a
  | [], [] => rfl
  | [], _ :: _ => rfl
  | _ :: _, [] => rfl
  | x :: a, y :: b => by
    show (x ^^^ y) :: xorL a b = (y ^^^ x) :: xorL b a
    rw [xorL_comm a b, UInt8.xor_comm]
theorem xorS_eq (s t : ByteArray) (h : s.size = t.size) : xorS s t = ⟨(xorL s.data.toList t.data.toList).toArray⟩ := by unfold xorS; rw [if_pos h]
theorem xorS_size (s t : ByteArray) (h : s.size = t.size) : (xorS s t).size = s.size := by
  rw [xorS_eq s t h]
  show (xorL s.data.toList t.data.toList).toArray.size = _
  simpa using xorL_len s t h
theorem xorS_data (s t : ByteArray) (h : s.size = t.size) : (xorS s t).data.toList = xorL s.data.toList t.data.toList := by rw [xorS_eq s t h]
theorem xorL_assoc : ∀ a b c : List UInt8, xorL (xorL a b) c = xorL a (xorL b c)
  | [], _, _ => rfl
  | _ :: _, [], _ => rfl
  | _ :: _, _ :: _, [] => rfl
  | x :: a, y :: b, z :: c => by
    show (x ^^^ y ^^^ z) :: xorL (xorL a b) c = (x ^^^ (y ^^^ z)) :: xorL a (xorL b c)
    rw [xorL_assoc a b c, UInt8.xor_assoc]
theorem ba_ext {s t : ByteArray} (h : s.data.toList = t.data.toList) : s = t := by
  apply ByteArray.ext
  exact Array.toList_inj.1 h
theorem xorS_comm (a b : ByteArray) (h : a.size = b.size) : xorS a b = xorS b a := by
  apply ba_ext
  rw [xorS_data a b h, xorS_data b a h.symm, xorL_comm]
theorem xorS_assoc (a b c : ByteArray) (h : a.size = b.size) (h2 : b.size = c.size) : xorS (xorS a b) c = xorS a (xorS b c) := by
  apply ba_ext
  rw [xorS_data _ c (by rw [xorS_size a b h]; omega), xorS_data a b h, xorS_data a _ (by rw [xorS_size b c h2]; exact h), xorS_data b c h2, xorL_assoc]
/-- a load of noughts -/
def z4 : ByteArray := ⟨#[0, 0, 0, 0]⟩
theorem xorS_z4 (a : ByteArray) (h : a.size = 4) : xorS a z4 = a := by
  apply ba_ext
  rw [xorS_data a z4 h]
  obtain ⟨⟨l⟩⟩ := a
  match l, h with
  | [p, q, r, s], _ => simp [xorL, z4]
theorem xorS_z4l (a : ByteArray) (h : a.size = 4) : xorS z4 a = a := by rw [xorS_comm z4 a h.symm, xorS_z4 a h]
theorem xorS_self (a : ByteArray) (h : a.size = 4) : xorS a a = z4 := by
  apply ba_ext
  rw [xorS_data a a rfl]
  obtain ⟨⟨l⟩⟩ := a
  match l, h with
  | [p, q, r, s], _ => simp [xorL, z4]
end Go.Proofs.Ytbbjpjkclealfaa
namespace Go.Proofs.Ytbbjpjkclealfaa
open Go.ChangeShapes Go.WideShapes Go.ChangeAt Go.RowKit
set_option linter.unusedVariables false

abbrev K2 := Int × Int
def kv (k : K2) : Value := .agg #[.int .i64 k.1, .int .i64 k.2]
def keyOkB (k : K2) : Bool := (decide (1 ≤ k.1) && decide (k.1 ≤ 20)) && (decide (1 ≤ k.2) && decide (k.2 ≤ 99))
def aheadB (a b : K2) : Bool := if a.1 = b.1 then decide (a.2 < b.2) else decide (a.1 < b.1)
/-- the slice value v leads to the keys ks -/
def keysAt (w : World) (v : Value) (ks : List K2) : Prop :=
  ∃ a cap, v = .slice a ks.length cap ∧ ks.length ≤ cap ∧ (ks.length = 0 ∨ ∃ g off, a = some ⟨g, off, none⟩ ∧ g < w.heap.size ∧
    ∀ i, i < ks.length → w.cell? ⟨g, off + i * 2, none⟩ = some (.int .i64 (ks.getD i (0, 0)).1) ∧ w.cell? ⟨g, off + i * 2 + 1, none⟩ = some (.int .i64 (ks.getD i (0, 0)).2))
theorem keysAt_below {w w' : World} {v : Value} {ks : List K2} (h : keysAt w v ks) (hb : Below w.heap.size w w') : keysAt w' v ks := by
  obtain ⟨a, cap, h1, h2, h3⟩ := h
  refine ⟨a, cap, h1, h2, h3.imp_right ?_⟩
  rintro ⟨g, off, h4, h5, h6⟩
  refine ⟨g, off, h4, Nat.lt_of_lt_of_le h5 hb.size, fun i hi => ?_⟩
  rw [hb.cell (p := ⟨g, off + i * 2, none⟩) h5, hb.cell (p := ⟨g, off + i * 2 + 1, none⟩) h5]
  exact h6 i hi
end Go.Proofs.Ytbbjpjkclealfaa
namespace Go.Proofs.Ytbbjpjkclealfaa
open Go.ChangeShapes Go.WideShapes Go.ChangeAt Go.RowKit
set_option linter.unusedVariables false

theorem sin_any (x a b : Int) (w : World) : Calls Try.prog 100 #[.int .i64 x, .int .i64 a, .int .i64 b] w fun e w' => e = .returned (.bool (decide (a ≤ x) && decide (x ≤ b))) ∧ w' = w := by
  by_cases h1 : a ≤ x <;> by_cases h2 : x ≤ b
  all_goals
    go_enter Try.func100, Try.ntmps100
    go_wp2
    go_ret
    simp [h1, h2]
end Go.Proofs.Ytbbjpjkclealfaa
namespace Go.Proofs.Ytbbjpjkclealfaa
open Go.BigFrame Go.RowKit Go.ChangeShapes Go.WideShapes
section
variable {P : Program} {ops : Array Oper} {C : World → Prop} {Q : Act → Prop} {a : Act} {o : Oper} {rest : List Oper} {K : Act → Prop}
theorem q_load (ty : TypeId) (x : Operand) (p : Addr) (v : Value) (ho : o.op = .load ty x) (hx : a.eval x = .pointer (some p)) (hl : ∀ w, C w → (loadVar ty p).run P w = .ok v w) (hk : K (a.put o.dst v)) : o.quiet P a C K := by
  refine ⟨v, fun w hw => ?_, hk⟩
  unfold Oper.quietAt execOp
  simp only [ho, hx, Instr.loadAt, Instr.sureAddr, Sem.run_bind, Sem.run_pure, Result.andThen_ok, hl w hw]
  exact ⟨rfl, rfl⟩
theorem q_bin (op : BinOp) (t ty : TypeId) (x y : Operand) (u v z : Value) (ho : o.op = .binOp op t x y ty) (hx : a.eval x = u) (hy : a.eval y = v) (hg : ∀ w, (eqGuard op t x y u v).run P w = .ok () w) (hb : ∀ w, (binOp op t u v).run P w = .ok z w)
    (hk : K (a.put o.dst z)) : o.quiet P a C K := by
  refine ⟨z, fun w hw => ?_, hk⟩
  unfold Oper.quietAt execOp
  simp only [ho, hx, hy, Sem.run_bind, hg w, hb w, Result.andThen_ok, Sem.run_pure]
  exact ⟨rfl, rfl⟩
end
/-- the class: new blocks alone -/
theorem wp_region_below {P : Program} {id : Nat} {Q : Exit → Act → World → Prop} {a : Act} {w : World} {l : List Oper} (w0 : World) (hm : P.follows .mixedOrders = true) (hB : Region.lexB .any l.toArray = true) (h0 : Below w0.heap.size w0 w)
    (h : wpQuiet P l.toArray (fun w' => Below w0.heap.size w0 w') (fun a' => ∀ w', Below w0.heap.size w0 w' → Q .normal a' w') l a) : (Code.region id l.toArray true).wp P Q a w :=
  wp_region_quiet (C := fun w' => Below w0.heap.size w0 w') hm hB h0.drew (by simpa using h)
end Go.Proofs.Ytbbjpjkclealfaa
namespace Go.Proofs.Ytbbjpjkclealfaa
open Go.ChangeShapes Go.WideShapes Go.ChangeAt Go.RowKit Go.BigFrame
set_option linter.unusedVariables false

theorem skeyok_any (k : K2) (w : World) : Calls Try.prog 69 #[kv k] w fun e w' => e = .returned (.bool (keyOkB k)) ∧ Below w.heap.size w w' := by
  obtain ⟨n, s⟩ := k
  unfold keyOkB kv
  dsimp only
  have hb : ∀ o, Below w.heap.size w (w.alloc o) := fun o => (Below.refl _ _).alloc (Nat.le_refl _) _
  generalize hp : (decide (1 ≤ n) && decide (n ≤ 20)) = p
  generalize hq : (decide (1 ≤ s) && decide (s ≤ 99)) = q
  have H1 := fun w => sin_any n 1 20 w
  have H2 := fun w => sin_any s 1 99 w
  rw [hp] at H1; rw [hq] at H2
  clear hp hq
  go_enter Try.func69, Try.ntmps69
  cases p with
  | false =>
    go_wp2_with (go_at_call 100; refine (H1 _).mono ?_; rintro e w1 ⟨rfl, rfl⟩)
    go_ret
    exact ⟨by simp, hb _⟩
  | true =>
    go_wp2_with fail
    refine (H1 _).mono ?_
    rintro e w1 ⟨rfl, rfl⟩
    go_wp2_with fail
    refine (H2 _).mono ?_
    rintro e w1 ⟨rfl, rfl⟩
    go_wp2
    go_ret
    exact ⟨by simp, hb _⟩
theorem sahead_any (a b : K2) (w : World) : Calls Try.prog 94 #[kv a, kv b] w fun e w' => e = .returned (.bool (aheadB a b)) ∧ Below w.heap.size w w' := by
  obtain ⟨n, s⟩ := a
  obtain ⟨m, t⟩ := b
  have hb : ∀ o o', Below w.heap.size w ((w.alloc o).alloc o') := fun o o' => ((Below.refl _ _).alloc (Nat.le_refl _) _).alloc (by simp) _
  by_cases h : n = m
  · have ha : aheadB (n, s) (m, t) = decide (s < t) := by unfold aheadB; rw [if_pos h]
    rw [ha]
    unfold kv
    dsimp only
    subst h
    go_enter Try.func94, Try.ntmps94
    go_wp2
    go_ret
    exact ⟨rfl, hb _ _⟩
  · have ha : aheadB (n, s) (m, t) = decide (n < m) := by unfold aheadB; rw [if_neg h]
    rw [ha]
    unfold kv
    dsimp only
    go_enter Try.func94, Try.ntmps94
    go_wp2
    go_ret
    exact ⟨rfl, hb _ _⟩

theorem key_load {w : World} {g o : Nat} {k : K2} (hc : w.cell? ⟨g, o, none⟩ = some (.int .i64 k.1) ∧ w.cell? ⟨g, o + 1, none⟩ = some (.int .i64 k.2)) {w' : World} (hg : g < w.heap.size) (hb : Below w.heap.size w w') :
    (loadVar 41 ⟨g, o, none⟩).run Try.prog w' = .ok (kv k) w' := by
  refine run_loadVar_mid w' g o 41 [.int .i64 k.1, .int .i64 k.2] _ (fun j v hj => ?_) Try.underlying41 rfl (by kernel_rfl)
  have hj2 : j < 2 := by have := (List.getElem?_eq_some_iff.1 hj).1; simpa using this
  rcases (by omega : j = 0 ∨ j = 1) with rfl | rfl
  · rw [hb.cell (p := ⟨g, o + 0, none⟩) hg]
    simpa using hc.1.trans (by simpa using hj)
  · rw [hb.cell (p := ⟨g, o + 1, none⟩) hg]
    simpa using hc.2.trans (by simpa using hj)
end Go.Proofs.Ytbbjpjkclealfaa
namespace Go.Proofs.Ytbbjpjkclealfaa
open Go.ChangeShapes Go.WideShapes Go.ChangeAt Go.RowKit Go.BigFrame
set_option linter.unusedVariables false
theorem key_equal (p q : K2) (w : World) : (Op.equalIn 10000 41 (kv p) (kv q)).run Try.prog w = .ok (p == q) w := by
  obtain ⟨a, b⟩ := p; obtain ⟨c, d⟩ := q
  have u3 := Try.underlying3
  have hS : Try.prog.underlying 41 = some (.struct (Try.prog.fieldsOf 41)) := by kernel_rfl
  unfold kv
  rw [show (10000 : Nat) = 9999 + 1 from rfl, run_equalIn_agg w 9999 41 _ _ hS (by kernel_rfl)]
  simp only [Program.fieldsOf, Try.underlying41]
  go_simp
  by_cases h1 : a = c <;> by_cases h2 : b = d <;> simp [h1, h2]
theorem key_eql (p q : K2) (w : World) : (binOp .eql 41 (kv p) (kv q)).run Try.prog w = .ok (.bool (p == q)) w := by
  have := key_equal p q w
  unfold kv at *
  rw [run_eql_struct, this]; rfl
theorem key_neq (p q : K2) (w : World) : (binOp .neq 41 (kv p) (kv q)).run Try.prog w = .ok (.bool (!(p == q))) w := by
  have := key_equal p q w
  unfold kv at *
  rw [run_neq_struct, this]; rfl
theorem key_guard (op : BinOp) (x y : Operand) (p q : K2) (w : World) : (eqGuard op 41 x y (kv p) (kv q)).run Try.prog w = .ok () w := by
  unfold kv
  exact run_eqGuard_agg w op 41 x y _ _ (by kernel_rfl)
end Go.Proofs.Ytbbjpjkclealfaa
namespace Go.Proofs.Ytbbjpjkclealfaa
open Go.ChangeShapes Go.WideShapes Go.ChangeAt Go.RowKit Go.BigFrame
set_option linter.unusedVariables false

theorem infoK : (Try.prog.info? 41).map (fun i => (i.zero, i.size, i.bytes)) = some (some (.agg #[.int .i64 0, .int .i64 0]), 2, 16) := by kernel_rfl
def keyCells (ks : List K2) : List Value := ks.flatMap fun k => [.int .i64 k.1, .int .i64 k.2]
theorem keyCells_len : ∀ ks : List K2, (keyCells ks).length = ks.length * 2
  | [] => rfl
  | k :: r => by
    have := keyCells_len r
    simp only [keyCells, List.flatMap_cons, List.length_append, List.length_cons, List.length_nil] at *
    omega
theorem keyCells_snoc (ks : List K2) (k : K2) : keyCells (ks ++ [k]) = keyCells ks ++ [.int .i64 k.1, .int .i64 k.2] := by simp [keyCells]
theorem keyCells_get : ∀ (ks : List K2) (i : Nat), i < ks.length → (keyCells ks)[i * 2]? = some (.int .i64 (ks.getD i (0, 0)).1) ∧ (keyCells ks)[i * 2 + 1]? = some (.int .i64 (ks.getD i (0, 0)).2)
  | [], _, h => by simp at h
  | k :: r, 0, _ => by simp [keyCells]
  | k :: r, i + 1, h => by
    have ih := keyCells_get r i (by simpa using h)
    have e1 : (i + 1) * 2 = i * 2 + 1 + 1 := by omega
    have e2 : (i + 1) * 2 + 1 = i * 2 + 1 + 1 + 1 := by omega
    rw [e1]
    simp only [keyCells, List.flatMap_cons, List.cons_append, List.nil_append, List.getElem?_cons_succ, List.getD_cons_succ] at *
    exact ih
/-- what is owned leads to its keys -/
theorem keysAt_own {w : World} {base : Nat} {v : Value} {ks : List K2} (h : w.ownsRow base 41 2 v ks.length (keyCells ks)) : keysAt w v ks := by
  rcases h.2 with ⟨rfl, h0⟩ | ⟨g, cap, cur, rfl, hb, hg, hn, hm, hs, ht⟩
  · exact ⟨none, 0, by rw [h0], by omega, .inl h0⟩
  · refine ⟨_, cap, rfl, hn, .inr ⟨g, 0, rfl, (Array.getElem?_eq_some_iff.1 hg).1, fun i hi => ?_⟩⟩
    have hc := keyCells_get ks i hi
    rw [Nat.zero_add, h.cellAt (i * 2) (by omega), h.cellAt (i * 2 + 1) (by omega)]
    exact hc
theorem own_below {w w' : World} {base n : Nat} {e : TypeId} {size : Nat} {v : Value} {xs : List Value} (h : w.ownsRow base e size v n xs) (hb : Below w.heap.size w w') : w'.ownsRow base e size v n xs :=
  h.kept (grown_of_below' hb none) (by cases hv : v.ownBlock <;> simp)

def mergeL (both : Bool) : List K2 → List K2 → List K2
  | a, [] => a
  | [], b => b
  | x :: a, y :: b => if aheadB x y then x :: mergeL both a (y :: b) else if aheadB y x then y :: mergeL both (x :: a) b else (if both then [x] else []) ++ mergeL both a b
termination_by a b => a.length + b.length
theorem mergeL_nil_r (both : Bool) (a : List K2) : mergeL both a [] = a := by unfold mergeL; cases a <;> rfl
theorem mergeL_nil_l (both : Bool) (b : List K2) : mergeL both [] b = b := by cases b <;> simp [mergeL]
theorem mergeL_cons (both : Bool) (x : K2) (a : List K2) (y : K2) (b : List K2) : mergeL both (x :: a) (y :: b) =
    if aheadB x y then x :: mergeL both a (y :: b) else if aheadB y x then y :: mergeL both (x :: a) b else (if both then [x] else []) ++ mergeL both a b := by rw [mergeL]
theorem mergeL_len (both : Bool) : ∀ (a b : List K2), (mergeL both a b).length ≤ a.length + b.length
  | a, [] => by rw [mergeL_nil_r]; simp
  | [], b => by rw [mergeL_nil_l]; simp
  | x :: a, y :: b => by
    rw [mergeL_cons]
    split
    · have := mergeL_len both a (y :: b); simp only [List.length_cons] at *; omega
    · split
      · have := mergeL_len both (x :: a) b; simp only [List.length_cons] at *; omega
      · have := mergeL_len both a b
        cases both <;> simp only [List.length_append, List.length_cons, List.length_nil, if_true, Bool.false_eq_true, if_false] at * <;> omega
termination_by a b => a.length + b.length
theorem drop_at (a : List K2) (i : Nat) (h : i < a.length) : a.drop i = a.getD i (0, 0) :: a.drop (i + 1) := by
  rw [List.drop_eq_getElem_cons h]
  simp [List.getD, h]
end Go.Proofs.Ytbbjpjkclealfaa
namespace Go.Proofs.Ytbbjpjkclealfaa

def stepB (ks : List K2) (i : Nat) : Bool := keyOkB (ks.getD i (0, 0)) && (decide (i = 0) || aheadB (ks.getD (i - 1) (0, 0)) (ks.getD i (0, 0)))
def keysOkR (ks : List K2) : Bool := (List.range ks.length).all (stepB ks)
theorem stepB_false {ks : List K2} {k : Nat} (hk : k < ks.length) (h : stepB ks k = false) : keysOkR ks = false := by
  unfold keysOkR
  rw [List.all_eq_false]
  exact ⟨k, List.mem_range.2 hk, by simp [h]⟩
theorem keysR_succ (ks : List K2) (k : Nat) : (List.range (k + 1)).all (stepB ks) = ((List.range k).all (stepB ks) && stepB ks k) := by
  rw [List.range_succ, List.all_append]
  simp
end Go.Proofs.Ytbbjpjkclealfaa
namespace Go.Proofs.Ytbbjpjkclealfaa
open Go

def mergeV (both : Bool) (a b : List K2) : List K2 := if keysOkR a && keysOkR b then mergeL both a b else []
def hasKeyB (ks : List K2) (k : K2) : Bool := ks.any fun x => x == k
end Go.Proofs.Ytbbjpjkclealfaa
namespace Go.Proofs.Ytbbjpjkclealfaa

theorem ahead_iff (a b : K2) : aheadB a b = true ↔ (a.1 < b.1 ∨ (a.1 = b.1 ∧ a.2 < b.2)) := by
  unfold aheadB
  by_cases h : a.1 = b.1
  · rw [if_pos h]; simp; omega
  · rw [if_neg h]; simp; omega
theorem ahead_irrefl (a : K2) : aheadB a a = false := by
  cases h : aheadB a a with
  | false => rfl
  | true => rw [ahead_iff] at h; omega
theorem ahead_trans {a b c : K2} (h1 : aheadB a b = true) (h2 : aheadB b c = true) : aheadB a c = true := by
  rw [ahead_iff] at *; omega
theorem ahead_asymm {a b : K2} (h1 : aheadB a b = true) : aheadB b a = false := by
  cases h : aheadB b a with
  | false => rfl
  | true => rw [ahead_iff] at *; omega
theorem ahead_total {a b : K2} (h1 : aheadB a b = false) (h2 : aheadB b a = false) : a = b := by
  have n1 : ¬ aheadB a b = true := by rw [h1]; exact Bool.false_ne_true
  have n2 : ¬ aheadB b a = true := by rw [h2]; exact Bool.false_ne_true
  rw [ahead_iff] at n1 n2
  obtain ⟨x, y⟩ := a; obtain ⟨z, u⟩ := b
  simp only at n1 n2
  have e1 : x = z := by omega
  have e2 : y = u := by omega
  rw [e1, e2]
def Rising (l : List K2) : Prop := l.Pairwise fun a b => aheadB a b = true
theorem keysR_iff (ks : List K2) : keysOkR ks = true ↔ (∀ k ∈ ks, keyOkB k = true) ∧ Rising ks := by
  unfold keysOkR
  rw [List.all_eq_true]
  constructor
  · intro h
    have hs : ∀ i, i < ks.length → keyOkB (ks.getD i (0, 0)) = true ∧ (i = 0 ∨ aheadB (ks.getD (i - 1) (0, 0)) (ks.getD i (0, 0)) = true) := by
      intro i hi
      have := h i (List.mem_range.2 hi)
      simpa [stepB] using this
    refine ⟨fun k hk => ?_, ?_⟩
    · obtain ⟨i, hi, rfl⟩ := List.getElem_of_mem hk
      have := (hs i hi).1
      simpa [List.getD, hi] using this
    · have hd : ∀ d i, i + d + 1 < ks.length → aheadB (ks.getD i (0, 0)) (ks.getD (i + d + 1) (0, 0)) = true := by
        intro d
        induction d with
        | zero =>
          intro i hi
          have := (hs (i + 1) (by omega)).2.resolve_left (by omega)
          simpa using this
        | succ d ih =>
          intro i hi
          have h1 := ih i (by omega)
          have h2 := (hs (i + (d + 1) + 1) hi).2.resolve_left (by omega)
          rw [show i + (d + 1) + 1 - 1 = i + d + 1 by omega] at h2
          exact ahead_trans h1 h2
      unfold Rising
      rw [List.pairwise_iff_getElem]
      intro i j hi hj hij
      have := hd (j - i - 1) i (by omega)
      rw [show i + (j - i - 1) + 1 = j by omega] at this
      simpa [List.getD, hi, hj] using this
  · rintro ⟨h1, h2⟩ i hi
    have hi2 := List.mem_range.1 hi
    unfold stepB
    have e : ks.getD i (0, 0) = ks[i] := by simp [List.getD, hi2]
    rw [e, h1 _ (List.getElem_mem hi2)]
    by_cases h0 : i = 0
    · simp [h0]
    · have e2 : ks.getD (i - 1) (0, 0) = ks[i - 1] := by simp [List.getD, show i - 1 < ks.length by omega]
      rw [e2]
      unfold Rising at h2
      rw [List.pairwise_iff_getElem] at h2
      simp [h2 (i - 1) i (by omega) hi2 (by omega)]
/-- of two rising lists of the same keys one is the other -/
theorem rising_ext : ∀ (a b : List K2), Rising a → Rising b → (∀ k, k ∈ a ↔ k ∈ b) → a = b
  | [], [], _, _, _ => rfl
  | [], y :: b, _, _, h => by have := (h y).2 (by simp); simp at this
  | x :: a, [], _, _, h => by have := (h x).1 (by simp); simp at this
  | x :: a, y :: b, ha, hb, h => by
    have ha' := List.pairwise_cons.1 ha
    have hb' := List.pairwise_cons.1 hb
    have hxy : x = y := by
      rcases List.mem_cons.1 ((h x).1 (by simp)) with h1 | h1
      · exact h1
      · rcases List.mem_cons.1 ((h y).2 (by simp)) with h2 | h2
        · exact h2.symm
        · have e1 := hb'.1 x h1
          have e2 := ha'.1 y h2
          rw [ahead_asymm e1] at e2; cases e2
    subst hxy
    congr 1
    refine rising_ext a b ha'.2 hb'.2 fun k => ⟨fun hk => ?_, fun hk => ?_⟩
    · rcases List.mem_cons.1 ((h k).1 (by simp [hk])) with h1 | h1
      · subst h1
        have := ha'.1 k hk
        rw [ahead_irrefl] at this; cases this
      · exact h1
    · rcases List.mem_cons.1 ((h k).2 (by simp [hk])) with h1 | h1
      · subst h1
        have := hb'.1 k hk
        rw [ahead_irrefl] at this; cases this
      · exact h1
/-- what merging makes: rising, and of which keys -/
theorem merge_spec (both : Bool) : ∀ (a b : List K2), Rising a → Rising b → Rising (mergeL both a b) ∧ ∀ k, k ∈ mergeL both a b ↔ ((k ∈ a ∨ k ∈ b) ∧ (both = true ∨ ¬ (k ∈ a ∧ k ∈ b)))
  | a, [], ha, _ => by rw [mergeL_nil_r]; exact ⟨ha, fun k => by simp⟩
  | [], b, _, hb => by rw [mergeL_nil_l]; exact ⟨hb, fun k => by simp⟩
  | x :: a, y :: b, ha, hb => by
    have ha' := List.pairwise_cons.1 ha
    have hb' := List.pairwise_cons.1 hb
    rw [mergeL_cons]
    have nxa : x ∉ a := fun h => by have := ha'.1 x h; rw [ahead_irrefl] at this; cases this
    have nyb : y ∉ b := fun h => by have := hb'.1 y h; rw [ahead_irrefl] at this; cases this
    by_cases hxy : aheadB x y = true
    · rw [if_pos hxy]
      obtain ⟨r1, r2⟩ := merge_spec both a (y :: b) ha'.2 hb
      have hlow : ∀ z, z ∈ y :: b → aheadB x z = true := by
        intro z hz
        rcases List.mem_cons.1 hz with rfl | h
        · exact hxy
        · exact ahead_trans hxy (hb'.1 z h)
      have nxb : x ∉ y :: b := fun h => by have := hlow x h; rw [ahead_irrefl] at this; cases this
      refine ⟨List.pairwise_cons.2 ⟨fun z hz => ?_, r1⟩, fun k => ?_⟩
      · rcases ((r2 z).1 hz).1 with h | h
        · exact ha'.1 z h
        · exact hlow z h
      · rw [List.mem_cons, r2 k]
        by_cases hk : k = x
        · subst hk
          simp [nxb]
        · simp [hk]
    · rw [if_neg hxy]
      by_cases hyx : aheadB y x = true
      · rw [if_pos hyx]
        obtain ⟨r1, r2⟩ := merge_spec both (x :: a) b ha hb'.2
        have hlow : ∀ z, z ∈ x :: a → aheadB y z = true := by
          intro z hz
          rcases List.mem_cons.1 hz with rfl | h
          · exact hyx
          · exact ahead_trans hyx (ha'.1 z h)
        have nya : y ∉ x :: a := fun h => by have := hlow y h; rw [ahead_irrefl] at this; cases this
        refine ⟨List.pairwise_cons.2 ⟨fun z hz => ?_, r1⟩, fun k => ?_⟩
        · rcases ((r2 z).1 hz).1 with h | h
          · exact hlow z h
          · exact hb'.1 z h
        · rw [List.mem_cons, r2 k]
          by_cases hk : k = y
          · subst hk
            simp [nya]
          · simp [hk]
      · rw [if_neg hyx]
        have e := ahead_total (Bool.eq_false_iff.2 hxy) (Bool.eq_false_iff.2 hyx)
        subst e
        obtain ⟨r1, r2⟩ := merge_spec both a b ha'.2 hb'.2
        cases both with
        | true =>
          rw [if_pos rfl]
          refine ⟨List.pairwise_cons.2 ⟨fun z hz => ?_, r1⟩, fun k => ?_⟩
          · rcases ((r2 z).1 hz).1 with h | h
            · exact ha'.1 z h
            · exact hb'.1 z h
          · show k ∈ x :: mergeL true a b ↔ _
            rw [List.mem_cons, r2 k]
            by_cases hk : k = x <;> simp [hk]
        | false =>
          rw [if_neg (by decide), List.nil_append]
          refine ⟨r1, fun k => ?_⟩
          rw [r2 k]
          by_cases hk : k = x
          · subst hk
            simp [nxa, nyb]
          · simp [hk]
termination_by a b => a.length + b.length
theorem merge_ok (both : Bool) (a b : List K2) (ha : keysOkR a = true) (hb : keysOkR b = true) : keysOkR (mergeL both a b) = true := by
  rw [keysR_iff] at *
  obtain ⟨r1, r2⟩ := merge_spec both a b ha.2 hb.2
  refine ⟨fun k hk => ?_, r1⟩
  rcases ((r2 k).1 hk).1 with h | h
  · exact ha.1 k h
  · exact hb.1 k h
/-- the same keys, rising: the same list -/
theorem ok_ext {a b : List K2} (ha : keysOkR a = true) (hb : keysOkR b = true) (h : ∀ k, k ∈ a ↔ k ∈ b) : a = b :=
  rising_ext a b ((keysR_iff a).1 ha).2 ((keysR_iff b).1 hb).2 h
theorem merge_mem {both : Bool} {a b : List K2} (ha : keysOkR a = true) (hb : keysOkR b = true) (k : K2) : k ∈ mergeL both a b ↔ ((k ∈ a ∨ k ∈ b) ∧ (both = true ∨ ¬ (k ∈ a ∧ k ∈ b))) :=
  (merge_spec both a b ((keysR_iff a).1 ha).2 ((keysR_iff b).1 hb).2).2 k
theorem merge_comm (both : Bool) {a b : List K2} (ha : keysOkR a = true) (hb : keysOkR b = true) : mergeL both b a = mergeL both a b := by
  refine ok_ext (merge_ok both b a hb ha) (merge_ok both a b ha hb) fun k => ?_
  rw [merge_mem hb ha, merge_mem ha hb]
  by_cases h1 : k ∈ a <;> by_cases h2 : k ∈ b <;> simp [h1, h2]
theorem parted_self {a : List K2} (ha : keysOkR a = true) : mergeL false a a = [] := by
  have hn : keysOkR ([] : List K2) = true := rfl
  refine ok_ext (merge_ok false a a ha ha) hn fun k => ?_
  rw [merge_mem ha ha]
  simp
end Go.Proofs.Ytbbjpjkclealfaa
namespace Go.Proofs.Ytbbjpjkclealfaa
open Go
set_option linter.unusedVariables false

/-- a word: its keys, its load -/
abbrev C2 := List K2 × ByteArray
def codeOkB (x : C2) : Bool := (decide (x.1.length ≤ 6) && keysOkR x.1) && (decide (x.2.size = 4) && (decide (0 < x.1.length) || decide (x.2 = z4)))
def blankC : C2 := ([], z4)
theorem codeOk_iff (x : C2) : codeOkB x = true ↔ x.1.length ≤ 6 ∧ keysOkR x.1 = true ∧ x.2.size = 4 ∧ (x.1 = [] → x.2 = z4) := by
  simp only [codeOkB, Bool.and_eq_true, Bool.or_eq_true, decide_eq_true_eq]
  constructor
  · rintro ⟨⟨h1, h2⟩, h3, h4⟩
    refine ⟨h1, h2, h3, fun h => h4.resolve_left ?_⟩
    rw [h]; simp
  · rintro ⟨h1, h2, h3, h4⟩
    refine ⟨⟨h1, h2⟩, h3, ?_⟩
    rcases Nat.eq_zero_or_pos x.1.length with h | h
    · exact .inr (h4 (List.length_eq_zero_iff.1 h))
    · exact .inl h
end Go.Proofs.Ytbbjpjkclealfaa
namespace Go.Proofs.Ytbbjpjkclealfaa
open Go.ChangeShapes Go.WideShapes Go.ChangeAt Go.RowKit Go.BigFrame
set_option linter.unusedVariables false

set_option maxRecDepth 100000 in
theorem skeysok_any (v : Value) (ks : List K2) (w : World) (h : keysAt w v ks) (hs : ks.length ≤ 2000000) : Calls Try.prog 52 #[v] w fun e w' => e = .returned (.bool (keysOkR ks)) ∧ Below w.heap.size w w' := by
  obtain ⟨a, cap, rfl, hcap, hcells⟩ := h
  go_enter Try.func52, Try.ntmps52
  go_wp2
  go_loopw [3] (fun i wr => ∃ k : Nat, k ≤ ks.length ∧ i = .int .i64 k ∧ (List.range k).all (stepB ks) = true ∧ Below w.heap.size w wr) (fun i _ => ks.length - (intOf i).toNat)
  case atStart => exact ⟨0, Nat.zero_le _, rfl, rfl, Below.refl _ _⟩
  case round =>
    obtain ⟨k, hk, rfl, hall, hb⟩ := hrel
    by_cases hlt : k < ks.length
    · obtain ⟨g, off, rfl, hg, hcs⟩ := hcells.resolve_left (by omega)
      have z0 : (0 : Int) ≤ (k : Int) := by omega
      have z1 : (k : Int) < (ks.length : Int) := by omega
      have c1 := hcs k hlt
      have HK := Lib.hid (fun w => skeyok_any (ks.getD k (0, 0)) w)
      have hst : stepB ks k = (keyOkB (ks.getD k (0, 0)) && (decide (k = 0) || aheadB (ks.getD (k - 1) (0, 0)) (ks.getD k (0, 0)))) := rfl
      have hsu := keysR_succ ks k
      have HST := Lib.hid hst; clear hst
      cases hko : keyOkB (ks.getD k (0, 0)) with
      | false =>
        rw [hko] at HK HST
        have hf : keysOkR ks = false := stepB_false hlt (by rw [HST.out]; rfl)
        have HF := Lib.hid hf
        clear hcs hcells hko hf HST hsu
        generalize ks.getD k (0, 0) = kx at *
        have L1 := fun w' hb => key_load c1 (w' := w') hg hb
        clear c1
        go_wp2
        refine wp_region_below w (by kernel_rfl) (by kernel_rfl) hb ?_
        repeat (first
          | go_big_quiet_skip
          | (go_big_quiet_want
             first
               | (go_big_quiet_op; go_big_quiet_on)
               | (refine q_load 41 _ _ _ rfl rfl L1 ?_; simp only [Act.put, List.setIfInBounds_toArray, List.set_cons_zero, List.set_cons_succ]; go_big_quiet_on)
               | (go_big_quiet_op; refine ⟨_, fun _ _ => rfl, ?_⟩; go_big_quiet_on)
               | (go_big_quiet_op; apply Exists.intro; refine ⟨fun w' hw' => ?_, ?_⟩
                  · first
                    | (refine (HK.out w').mono ?_
                       rintro e w2 ⟨rfl, hb2⟩
                       exact ⟨rfl, hw'.trans (hb2.mono hw'.size)⟩)
                  go_big_quiet_on)))
        refine wpQuiet_nil ?_
        intro w2 hb2
        clear L1 HK hb
        go_wp2
        go_ret
        exact ⟨by rw [HF.out]; rfl, hb2⟩
      | true =>
        rw [hko] at HK HST
        by_cases hk0 : k = 0
        · subst hk0
          have ht : (List.range (0 + 1)).all (stepB ks) = true := by rw [hsu, HST.out]; rfl
          have HT := Lib.hid ht
          clear hcs hcells hko ht HST hsu hall
          generalize ks.getD 0 (0, 0) = kx at *
          have L1 := fun w' hb => key_load c1 (w' := w') hg hb
          clear c1
          have y0 : ¬ (0 : Int) < ((0 : Nat) : Int) := by omega
          simp only [Nat.zero_mul, Nat.add_zero] at L1
          go_wp2
          refine wp_region_below w (by kernel_rfl) (by kernel_rfl) hb ?_
          repeat (first
            | go_big_quiet_skip
            | (go_big_quiet_want
               first
                 | (go_big_quiet_op; go_big_quiet_on)
                 | (refine q_load 41 _ _ _ rfl rfl L1 ?_; simp only [Act.put, List.setIfInBounds_toArray, List.set_cons_zero, List.set_cons_succ]; go_big_quiet_on)
                 | (go_big_quiet_op; refine ⟨_, fun _ _ => rfl, ?_⟩; go_big_quiet_on)
                 | (go_big_quiet_op; apply Exists.intro; refine ⟨fun w' hw' => ?_, ?_⟩
                    · first
                      | (refine (HK.out w').mono ?_
                         rintro e w2 ⟨rfl, hb2⟩
                         exact ⟨rfl, hw'.trans (hb2.mono hw'.size)⟩)
                    go_big_quiet_on)))
          refine wpQuiet_nil ?_
          intro w2 hb2
          clear L1 HK hb
          go_wp2
          exact ⟨⟨1, by omega, by go_num, HT.out, hb2⟩, by simp [intOf]; omega⟩
        · have ha := hcs (k - 1) (by omega)
          rw [show off + (k - 1) * 2 = off + (k - 1) * 2 from rfl] at ha
          have HA := Lib.hid (fun w => sahead_any (ks.getD (k - 1) (0, 0)) (ks.getD k (0, 0)) w)
          have d0 : decide (k = 0) = false := by simpa using hk0
          rw [d0] at HST
          have y0 : (0 : Int) < (k : Int) := by omega
          have yk : 0 < k := by omega
          have y1 : (0 : Int) ≤ (k : Int) - 1 := by omega
          have y2 : (k : Int) - 1 < (ks.length : Int) := by omega
          have ew : IntKind.i64.wrap ((k : Int) - 1) = (k : Int) - 1 := IntWalk.i64_in _ (by omega)
          have et : ((k : Int) - 1).toNat = k - 1 := by omega
          cases hah : aheadB (ks.getD (k - 1) (0, 0)) (ks.getD k (0, 0)) with
          | false =>
            rw [hah] at HA HST
            have hf : keysOkR ks = false := stepB_false hlt (by rw [HST.out]; rfl)
            have HF := Lib.hid hf
            clear hcs hcells hko hf HST hsu hah
            generalize ks.getD k (0, 0) = kx at *
            generalize ks.getD (k - 1) (0, 0) = ky at *
            have L1 := fun w' hb => key_load c1 (w' := w') hg hb
            have L2 := fun w' hb => key_load ha (w' := w') hg hb
            clear c1 ha
            go_wp2
            refine wp_region_below w (by kernel_rfl) (by kernel_rfl) hb ?_
            repeat (first
              | go_big_quiet_skip
              | (go_big_quiet_want
                 first
                   | (go_big_quiet_op; go_big_quiet_on)
                   | (refine q_load 41 _ _ _ rfl rfl L1 ?_; simp only [Act.put, List.setIfInBounds_toArray, List.set_cons_zero, List.set_cons_succ]; go_big_quiet_on)
                   | (refine q_load 41 _ _ _ rfl rfl L2 ?_; simp only [Act.put, List.setIfInBounds_toArray, List.set_cons_zero, List.set_cons_succ]; go_big_quiet_on)
                   | (go_big_quiet_op; refine ⟨_, fun _ _ => rfl, ?_⟩; go_big_quiet_on)
                   | (go_big_quiet_op; apply Exists.intro; refine ⟨fun w' hw' => ?_, ?_⟩
                      · first
                        | (refine (HK.out w').mono ?_
                           rintro e w2 ⟨rfl, hb2⟩
                           exact ⟨rfl, hw'.trans (hb2.mono hw'.size)⟩)
                        | (refine (HA.out w').mono ?_
                           rintro e w2 ⟨rfl, hb2⟩
                           exact ⟨rfl, hw'.trans (hb2.mono hw'.size)⟩)
                      go_big_quiet_on)))
            refine wpQuiet_nil ?_
            intro w2 hb2
            clear L1 L2 HK HA hb
            go_wp2
            go_ret
            exact ⟨by rw [HF.out]; rfl, hb2⟩
          | true =>
            rw [hah] at HA HST
            have ht : (List.range (k + 1)).all (stepB ks) = true := by rw [hsu, hall, HST.out]; rfl
            have HT := Lib.hid ht
            clear hcs hcells hko ht HST hsu hah hall
            generalize ks.getD k (0, 0) = kx at *
            generalize ks.getD (k - 1) (0, 0) = ky at *
            have L1 := fun w' hb => key_load c1 (w' := w') hg hb
            have L2 := fun w' hb => key_load ha (w' := w') hg hb
            clear c1 ha
            go_wp2
            refine wp_region_below w (by kernel_rfl) (by kernel_rfl) hb ?_
            repeat (first
              | go_big_quiet_skip
              | (go_big_quiet_want
                 first
                   | (go_big_quiet_op; go_big_quiet_on)
                   | (refine q_load 41 _ _ _ rfl rfl L1 ?_; simp only [Act.put, List.setIfInBounds_toArray, List.set_cons_zero, List.set_cons_succ]; go_big_quiet_on)
                   | (refine q_load 41 _ _ _ rfl rfl L2 ?_; simp only [Act.put, List.setIfInBounds_toArray, List.set_cons_zero, List.set_cons_succ]; go_big_quiet_on)
                   | (go_big_quiet_op; refine ⟨_, fun _ _ => rfl, ?_⟩; go_big_quiet_on)
                   | (go_big_quiet_op; apply Exists.intro; refine ⟨fun w' hw' => ?_, ?_⟩
                      · first
                        | (refine (HK.out w').mono ?_
                           rintro e w2 ⟨rfl, hb2⟩
                           exact ⟨rfl, hw'.trans (hb2.mono hw'.size)⟩)
                        | (refine (HA.out w').mono ?_
                           rintro e w2 ⟨rfl, hb2⟩
                           exact ⟨rfl, hw'.trans (hb2.mono hw'.size)⟩)
                      go_big_quiet_on)))
            refine wpQuiet_nil ?_
            intro w2 hb2
            clear L1 L2 HK HA hb
            go_wp2
            exact ⟨⟨k + 1, by omega, by go_num, HT.out, hb2⟩, by simp [intOf]; omega⟩
    · obtain rfl : k = ks.length := by omega
      have HF := Lib.hid hall
      go_wp2
      go_ret
      exact ⟨by unfold keysOkR; rw [HF.out]; rfl, hb⟩
end Go.Proofs.Ytbbjpjkclealfaa
namespace Go.Proofs.Ytbbjpjkclealfaa
open Go.ChangeShapes Go.WideShapes Go.ChangeAt Go.RowKit Go.BigFrame
set_option linter.unusedVariables false
theorem ownsRowK_shape {w : World} {base n : Nat} {e : TypeId} {v : Value} {size : Nat} {xs : List Value} (h : w.ownsRow base e size v n xs) :
    (v = .slice none 0 0 ∧ n = 0) ∨ ∃ g cap, v = .slice (some ⟨g, 0, none⟩) n cap ∧ n ≤ cap ∧ cap ≤ maxLen ∧ base ≤ g ∧ g < w.heap.size := by
  rcases h.2 with h1 | ⟨g, cap, cur, rfl, h2, h3, h4, h5, _⟩
  · exact .inl h1
  · exact .inr ⟨g, cap, rfl, h4, h5, h2, (Array.getElem?_eq_some_iff.1 h3).1⟩
theorem own_base {w : World} {base base' n : Nat} {e : TypeId} {size : Nat} {v : Value} {xs : List Value} (h : w.ownsRow base' e size v n xs) (hb : base ≤ base') : w.ownsRow base e size v n xs := by
  refine ⟨h.1, h.2.imp_right ?_⟩
  rintro ⟨g, cap, cur, h1, h2, h3⟩
  exact ⟨g, cap, cur, h1, Nat.le_trans hb h2, h3⟩
end Go.Proofs.Ytbbjpjkclealfaa
namespace Go.Proofs.Ytbbjpjkclealfaa
set_option linter.unusedVariables false

theorem cell_two_new (w : World) (x y : Value) (e : TypeId) : ∀ j u, ([x, y] : List Value)[j]? = some u → (w.alloc (.cells #[x, y] e)).cell? ((⟨w.heap.size, 0, none⟩ : Addr).add j) = some u := by
  intro j u hj
  have : j < 2 := by have := (List.getElem?_eq_some_iff.1 hj).1; simpa using this
  rcases (by omega : j = 0 ∨ j = 1) with rfl | rfl <;> simpa [Addr.add_lit] using hj
end Go.Proofs.Ytbbjpjkclealfaa
namespace Go.Proofs.Ytbbjpjkclealfaa
open Go.ChangeShapes Go.WideShapes Go.ChangeAt Go.RowKit
set_option linter.unusedVariables false
theorem results_cell {fn : Func} {p : Tmp} {ty : TypeId} (h : fn.results = #[.cell p ty]) (tmps : Array Value) (P : Program) (w : World) :
    (results fn tmps).run P w = ((asAddr (tmps.getD p undef)).run P w).andThen fun a w₁ => (loadVar ty a).run P w₁ := by
  simp only [results, h]
  simp [Sem.run_bind]
theorem heap_first (w : World) (o c : Obj) : ((w.alloc c).alloc o).heap[w.heap.size]? = some c := by
  show ((w.heap.push c).push o)[w.heap.size]? = some c
  rw [Array.getElem?_push, if_neg (by simp), Array.getElem?_push, if_pos rfl]
theorem heap_mid (w : World) (a b c : Obj) : (((w.alloc a).alloc b).alloc c).heap[w.heap.size + 1]? = some b := by
  show (((w.heap.push a).push b).push c)[w.heap.size + 1]? = some b
  rw [Array.getElem?_push, if_neg (by simp), Array.getElem?_push, if_pos (by simp)]
theorem results_tmp_cell {fn : Func} {p u : Tmp} {ty : TypeId} (h : fn.results = #[.tmp u, .cell p ty]) (tmps : Array Value) (P : Program) (w : World) :
    (results fn tmps).run P w = ((asAddr (tmps.getD p undef)).run P w).andThen fun a w₁ => ((loadVar ty a).run P w₁).andThen fun v w₂ => .ok (.tuple #[tmps.getD u undef, v]) w₂ := by
  simp only [results, h]
  simp [Sem.run_bind, Result.andThen]
end Go.Proofs.Ytbbjpjkclealfaa
namespace Go.Proofs.Ytbbjpjkclealfaa
open Go.ChangeShapes Go.WideShapes Go.ChangeAt Go.RowKit Go.BigFrame
set_option linter.unusedVariables false

theorem set_cellsD {w : World} {B j : Nat} {cs : Array Value} {t : TypeId} (u : Value) (h : w.heap[B]? = some (.cells cs t (0, 0))) : (w.setCell ⟨B, j, none⟩ u).heap[B]? = some (.cells (cs.setIfInBounds j u) t (0, 0)) := by
  obtain ⟨hlt, hk⟩ := Array.getElem?_eq_some_iff.1 h
  show (w.heap.modify B _)[B]? = _
  rw [Array.getElem?_eq_getElem (by rw [Array.size_modify]; exact hlt), Array.getElem_modify_self, hk]
  rfl
end Go.Proofs.Ytbbjpjkclealfaa
namespace Go.Proofs.Ytbbjpjkclealfaa
set_option linter.unusedVariables false

theorem bytes_toList_iff (a b : ByteArray) : a.toList = b.toList ↔ a = b := by
  refine ⟨fun h => ?_, fun h => by rw [h]⟩
  rw [ByteArray.toList_eq, ByteArray.toList_eq] at h
  exact ByteArray.ext (Array.toList_inj.1 h)
end Go.Proofs.Ytbbjpjkclealfaa
namespace Go.Proofs.Ytbbjpjkclealfaa
open Go.ChangeShapes Go.WideShapes Go.ChangeAt Go.RowKit
set_option linter.unusedVariables false

/-- The code's bytes, in old memory. -/
def CodeAt (n₀ : Nat) (w : World) (a : Option Addr) (len : Nat) (zs : List Int) : Prop :=
  len ≤ 1048576 ∧ (∀ k : Nat, 0 ≤ zs[k]?.getD 0 ∧ zs[k]?.getD 0 ≤ 255) ∧ (len = 0 ∨ ∃ b off, a = some ⟨b, off, none⟩ ∧ b < n₀ ∧ ∀ k, k < len → w.cell? ⟨b, off + k, none⟩ = some (.int .u8 (zs[k]?.getD 0)))
theorem CodeAt.below {n₀ : Nat} {w w' : World} {a : Option Addr} {len : Nat} {zs : List Int} (h : CodeAt n₀ w a len zs) (hb : Below n₀ w w') : CodeAt n₀ w' a len zs := by
  obtain ⟨h1, h2, h3⟩ := h
  refine ⟨h1, h2, ?_⟩
  rcases h3 with h3 | ⟨b, off, h4, h5, h6⟩
  · exact .inl h3
  · exact .inr ⟨b, off, h4, h5, fun k hk => (hb.cell (p := ⟨b, off + k, none⟩) h5).trans (h6 k hk)⟩

structure DrawSt (n₀ : Nat) (w : World) (g : Nat) (a : Option Addr) (len cap : Nat) (zs : List Int) (i : Nat) (h : Int) : Prop where
  code : CodeAt n₀ w a len zs
  cur : w.heap[g]? = some (.cells #[.slice a len cap, .int .i64 i, .int .i64 h] 124 (0, 0))
  hg : n₀ ≤ g
  hi : i ≤ len

def lcg (h : Int) : Int := wrap64 (wrap64 (h * 6364136223846793005) + 1442695040888963407)

theorem i64_and255 (n : Int) : bits .and .i64 n 255 = n % 256 := by
  have h255 : (BitVec.ofInt 64 255).toNat = 2 ^ 8 - 1 := by decide
  have key : (BitVec.ofInt 64 n &&& BitVec.ofInt 64 255).toNat = (n % ((2 ^ 64 : Nat) : Int)).toNat % 2 ^ 8 := by
    rw [BitVec.toNat_and, BitVec.toNat_ofInt, h255, Nat.and_two_pow_sub_one_eq_mod]
  show IntKind.i64.wrap ((BitVec.ofInt 64 n &&& BitVec.ofInt 64 255).toNat : Nat) = n % 256
  rw [key, IntKind.wrap_i64]
  omega
theorem i64_and30 (n : Int) : bits .and .i64 n 1073741823 = n % 1073741824 := by
  have h255 : (BitVec.ofInt 64 1073741823).toNat = 2 ^ 30 - 1 := by decide
  have key : (BitVec.ofInt 64 n &&& BitVec.ofInt 64 1073741823).toNat = (n % ((2 ^ 64 : Nat) : Int)).toNat % 2 ^ 30 := by
    rw [BitVec.toNat_and, BitVec.toNat_ofInt, h255, Nat.and_two_pow_sub_one_eq_mod]
  show IntKind.i64.wrap ((BitVec.ofInt 64 n &&& BitVec.ofInt 64 1073741823).toNat : Nat) = n % 1073741824
  rw [key, IntKind.wrap_i64]
  omega

/-- what a state gives -/
def outb (H : Int) : Int := bits BinOp.xor IntKind.i64 (H / 8589934592) (H / 35184372088832) % 256
theorem outb_bd (H : Int) : 0 ≤ outb H ∧ outb H ≤ 255 := by unfold outb; omega
structure Cu where
  i : Nat
  h : Int
/-- a byte, and the state behind -/
def byteF (zs : List Int) (len : Nat) (c : Cu) : Int × Cu :=
  if c.i < len then ((outb (lcg c.h) + zs[c.i]?.getD 0) % 256, ⟨c.i + 1, lcg c.h⟩) else (outb (lcg c.h), ⟨c.i, lcg c.h⟩)
theorem byteF_bd (zs : List Int) (len : Nat) (c : Cu) : 0 ≤ (byteF zs len c).1 ∧ (byteF zs len c).1 ≤ 255 := by
  have := outb_bd (lcg c.h)
  unfold byteF; split <;> simp <;> omega
/-- what a draw leaves: the cursor's block alone has turned -/
structure Drew (n₀ g : Nat) (a : Option Addr) (len cap : Nat) (zs : List Int) (c' : Cu) (w w' : World) : Prop where
  st : DrawSt n₀ w' g a len cap zs c'.i c'.h
  below : Below n₀ w w'
  grown : w.grownBy w' (some g)
theorem grownT {A B C : World} {row : Option Nat} (h : A.grownBy B row) (k : B.grownBy C row) : A.grownBy C row :=
  ⟨k.os.trans h.os, k.tape.trans h.tape, k.output.trans h.output, Nat.le_trans h.size k.size, fun j hj hr => (k.block j (Nat.lt_of_lt_of_le hj h.size) hr).trans (h.block j hj hr)⟩
theorem Drew.trans {n₀ g : Nat} {a : Option Addr} {len cap : Nat} {zs : List Int} {c c' : Cu} {w w1 w2 : World} (h : Drew n₀ g a len cap zs c w w1) (k : Drew n₀ g a len cap zs c' w1 w2) : Drew n₀ g a len cap zs c' w w2 :=
  ⟨k.st, h.below.trans k.below, grownT h.grown k.grown⟩

theorem drew_of {n₀ g len cap i' : Nat} {a : Option Addr} {zs : List Int} {h' : Int} {w w' : World} (hcode : CodeAt n₀ w a len zs) (hg0 : n₀ ≤ g) (hgl : g < w.heap.size) (hi : i' ≤ len)
    (hcur : w'.heap[g]? = some (.cells #[.slice a len cap, .int .i64 i', .int .i64 h'] 124 (0, 0))) (hgr : w.grownBy w' (some g)) : Drew n₀ g a len cap zs ⟨i', h'⟩ w w' := by
  have hb : Below n₀ w w' := (Below.refl n₀ w).grown hgr (by omega) (fun k e => by cases e; exact hg0)
  exact ⟨⟨hcode.below hb, hcur, hg0, hi⟩, hb, hgr⟩

set_option maxHeartbeats 800000 in
theorem byte_any (n₀ g len cap : Nat) (a : Option Addr) (zs : List Int) (c : Cu) (w : World) (hs : DrawSt n₀ w g a len cap zs c.i c.h) :
    Calls Try.prog 105 #[.pointer (some ⟨g, 0, none⟩)] w fun e w' => e = .returned (.int .i64 (byteF zs len c).1) ∧ Drew n₀ g a len cap zs (byteF zs len c).2 w w' := by
  obtain ⟨i, h⟩ := c
  dsimp only at hs
  have hc := hs.cur
  have c0 : w.cell? ⟨g, 0, none⟩ = some (.slice a len cap) := by simp [World.cell?, hc]
  have c1 : w.cell? ⟨g, 1, none⟩ = some (.int .i64 i) := by simp [World.cell?, hc]
  have c2 : w.cell? ⟨g, 2, none⟩ = some (.int .i64 h) := by simp [World.cell?, hc]
  have f1 : w.frozen? ⟨g, 1, none⟩ = false := by simp [World.frozen?, hc]
  have f2 : w.frozen? ⟨g, 2, none⟩ = false := by simp [World.frozen?, hc]
  have hlen := hs.code.1
  have hil := hs.hi
  have hcode := Lib.hid hs.code
  have hg0 := hs.hg
  clear hs
  go_enter Try.func105, Try.ntmps105
  go_wp2
  have hc1 := Joins.block_setCell (i := 2) hc (.int .i64 (lcg h))
  have hg1 : w.grownBy (w.setCell ⟨g, 2, none⟩ (.int .i64 (lcg h))) (some g) := ⟨rfl, rfl, rfl, by simp, fun k _ hk => Below.heap_setCell _ _ _ k (fun e => hk (by rw [e]))⟩
  have hH : lcg h = wrap64 (wrap64 (h * 6364136223846793005) + 1442695040888963407) := rfl
  rw [← hH]
  have HC := Lib.hid hc; clear hc hH c0 c1 c2 f1 f2
  generalize hw1 : w.setCell ⟨g, 2, none⟩ (.int .i64 (lcg h)) = w1 at *
  clear hw1
  generalize hl : lcg h = H at *
  have HL := Lib.hid hl; clear hl
  have c0 : w1.cell? ⟨g, 0, none⟩ = some (.slice a len cap) := by simp [World.cell?, hc1]
  have c1 : w1.cell? ⟨g, 1, none⟩ = some (.int .i64 i) := by simp [World.cell?, hc1]
  have c2 : w1.cell? ⟨g, 2, none⟩ = some (.int .i64 H) := by simp [World.cell?, hc1]
  have f1 : w1.frozen? ⟨g, 1, none⟩ = false := by simp [World.frozen?, hc1]
  have hob : bits BinOp.and IntKind.i64 (bits BinOp.xor IntKind.i64 (H / 8589934592) (H / 35184372088832)) 255 = outb H := i64_and255 _
  have hbd := outb_bd H
  go_quiet (fail)
  go_wp2
  generalize hx : outb H = x at *
  have HX := Lib.hid hx; clear hx hob
  by_cases hlt : i < len
  · have z1 : (i : Int) < (len : Int) := by omega
    have z0 : (0 : Int) ≤ (i : Int) := by omega
    obtain ⟨b, off, rfl, hb0, hcells⟩ : ∃ b off, a = some ⟨b, off, none⟩ ∧ b < n₀ ∧ ∀ k, k < len → w.cell? ⟨b, off + k, none⟩ = some (.int .u8 (zs[k]?.getD 0)) := by
      rcases hcode.out.2.2 with h | h
      · omega
      · exact h
    have hz := hcode.out.2.1 i
    have cz : w1.cell? ⟨b, off + i, none⟩ = some (.int .u8 (zs[i]?.getD 0)) := (World.cell?_of_block (a := ⟨b, off + i, none⟩) (hg1.block b (World.block_lt_of_cell? w _ (hcells i hlt)) (by simp; omega))).trans (hcells i hlt)
    have HCELLS := Lib.hid hcells; clear hcells
    generalize hy : zs[i]?.getD 0 = y at *
    have HY := Lib.hid hy; clear hy
    have ew : wrap64 (x + y) = x + y := IntWalk.wrap64_in _ (by omega)
    have eb : bits BinOp.and IntKind.i64 (x + y) 255 = (x + y) % 256 := i64_and255 _
    go_quiet (fail)
    go_wp2
    go_quiet (fail)
    go_wp2
    go_ret
    have hbf : byteF zs len ⟨i, h⟩ = ((x + y) % 256, ⟨i + 1, H⟩) := by unfold byteF; rw [if_pos hlt, HL.out, HX.out, HY.out]
    rw [hbf]
    have hgl := (Array.getElem?_eq_some_iff.1 HC.out).1
    have hfin := Joins.block_setCell (i := 1) hc1 (.int .i64 ((i : Int) + 1))
    exact ⟨rfl, drew_of hcode.out hg0 hgl (by show i + 1 ≤ len; omega) hfin (grownT hg1 ⟨rfl, rfl, rfl, by simp, fun k _ hk => Below.heap_setCell _ _ _ k (fun e => hk (by rw [e]))⟩)⟩
  · go_quiet (fail)
    go_wp2
    go_ret
    have hbf : byteF zs len ⟨i, h⟩ = (x, ⟨i, H⟩) := by unfold byteF; rw [if_neg hlt, HL.out, HX.out]
    rw [hbf]
    have hgl := (Array.getElem?_eq_some_iff.1 HC.out).1
    exact ⟨rfl, drew_of hcode.out hg0 hgl hil hc1 (grownT hg1 ⟨rfl, rfl, rfl, Nat.le_refl _, fun _ _ _ => rfl⟩)⟩

/-! ### numbers below a bound -/
def belowF (zs : List Int) (len : Nat) (c : Cu) (n : Int) : Int × Cu :=
  if n ≤ 0 then (0, c) else if n ≤ 256 then ((byteF zs len c).1 % n, (byteF zs len c).2) else
    let b1 := byteF zs len c; let b2 := byteF zs len b1.2; let b3 := byteF zs len b2.2; let b4 := byteF zs len b3.2
    ((b1.1 * 16777216 + b2.1 * 65536 + b3.1 * 256 + b4.1) % n, b4.2)
theorem belowF_bd (zs : List Int) (len : Nat) (c : Cu) (n : Int) : 0 ≤ (belowF zs len c n).1 ∧ (0 < n → (belowF zs len c n).1 < n) := by
  unfold belowF
  split
  · exact ⟨Int.le_refl _, fun h => by omega⟩
  · split
    · exact ⟨Int.emod_nonneg _ (by omega), fun _ => Int.emod_lt_of_pos _ (by omega)⟩
    · exact ⟨Int.emod_nonneg _ (by omega), fun _ => Int.emod_lt_of_pos _ (by omega)⟩

set_option maxHeartbeats 400000 in
theorem below_any (n₀ g len cap : Nat) (a : Option Addr) (zs : List Int) (c : Cu) (n : Int) (w : World) (hs : DrawSt n₀ w g a len cap zs c.i c.h) (hn : -9223372036854775808 ≤ n ∧ n ≤ 9223372036854775807) :
    Calls Try.prog 81 #[.pointer (some ⟨g, 0, none⟩), .int .i64 n] w fun e w' => e = .returned (.int .i64 (belowF zs len c n).1) ∧ Drew n₀ g a len cap zs (belowF zs len c n).2 w w' := by
  by_cases h0 : n ≤ 0
  · have hf : belowF zs len c n = (0, c) := by unfold belowF; rw [if_pos h0]
    rw [hf]
    have HS := Lib.hid hs; clear hs hf
    go_enter Try.func81, Try.ntmps81
    go_wp2
    go_ret
    exact ⟨rfl, ⟨HS.out, Below.refl _ _, ⟨rfl, rfl, rfl, Nat.le_refl _, fun _ _ _ => rfl⟩⟩⟩
  · by_cases h1 : n ≤ 256
    · have hf : belowF zs len c n = ((byteF zs len c).1 % n, (byteF zs len c).2) := by unfold belowF; rw [if_neg h0, if_pos h1]
      rw [hf]
      have hbd := byteF_bd zs len c
      have H1 := Lib.hid (byte_any n₀ g len cap a zs c w hs); clear hs hf
      generalize hb : byteF zs len c = b at *
      have HB := Lib.hid hb; clear hb
      go_enter Try.func81, Try.ntmps81
      go_wp2_with fail
      refine H1.out.mono ?_
      clear H1
      rintro e w1 ⟨rfl, hd⟩
      go_wp2
      go_ret
      exact ⟨rfl, hd⟩
    · have hf : belowF zs len c n = (((byteF zs len c).1 * 16777216 + (byteF zs len (byteF zs len c).2).1 * 65536 + (byteF zs len (byteF zs len (byteF zs len c).2).2).1 * 256 + (byteF zs len (byteF zs len (byteF zs len (byteF zs len c).2).2).2).1) % n, (byteF zs len (byteF zs len (byteF zs len (byteF zs len c).2).2).2).2) := by
        unfold belowF; rw [if_neg h0, if_neg h1]
      rw [hf]
      clear hf
      have hbd1 := byteF_bd zs len c
      have H1 := Lib.hid (byte_any n₀ g len cap a zs c w hs)
      generalize byteF zs len c = b1 at *
      have hbd2 := byteF_bd zs len b1.2
      have H2 := Lib.hid (fun w => byte_any n₀ g len cap a zs b1.2 w)
      generalize byteF zs len b1.2 = b2 at *
      have hbd3 := byteF_bd zs len b2.2
      have H3 := Lib.hid (fun w => byte_any n₀ g len cap a zs b2.2 w)
      generalize byteF zs len b2.2 = b3 at *
      have hbd4 := byteF_bd zs len b3.2
      have H4 := Lib.hid (fun w => byte_any n₀ g len cap a zs b3.2 w)
      generalize byteF zs len b3.2 = b4 at *
      obtain ⟨x1, c1⟩ := b1; obtain ⟨x2, c2⟩ := b2; obtain ⟨x3, c3⟩ := b3; obtain ⟨x4, c4⟩ := b4
      dsimp only at *
      clear hs
      go_enter Try.func81, Try.ntmps81
      go_wp2_with fail
      refine H1.out.mono ?_
      clear H1
      rintro e w1 ⟨rfl, hd1⟩
      go_wp2_with fail
      refine (H2.out w1 hd1.st).mono ?_
      clear H2
      rintro e w2 ⟨rfl, hd2⟩
      go_wp2_with fail
      refine (H3.out w2 hd2.st).mono ?_
      clear H3
      rintro e w3 ⟨rfl, hd3⟩
      go_wp2_with fail
      refine (H4.out w3 hd3.st).mono ?_
      clear H4
      rintro e w4 ⟨rfl, hd4⟩
      have hd := ((hd1.trans hd2).trans hd3).trans hd4
      clear hd1 hd2 hd3 hd4
      go_wp2
      go_ret
      exact ⟨rfl, hd⟩

end Go.Proofs.Ytbbjpjkclealfaa
namespace Go.Proofs.Ytbbjpjkclealfaa
open Go.ChangeShapes Go.WideShapes Go.ChangeAt Go.RowKit Go.BigFrame
set_option linter.unusedVariables false

/-- a word in memory: two cells -/
theorem cd_cells {W w' : World} {b : Nat} {v : Value} {y : ByteArray} {T : TypeId} (h : W.heap[b]? = some (.cells #[v, .string y] T)) (hb : Below W.heap.size W w') :
    w'.cell? ⟨b, 0, none⟩ = some v ∧ w'.cell? ⟨b, 1, none⟩ = some (.string y) := by
  have h1 := (hb.block _ (Array.getElem?_eq_some_iff.1 h).1).trans h
  exact ⟨by rw [cell_of_row _ _ 0 _ _ _ h1]; rfl, by rw [cell_of_row _ _ 1 _ _ _ h1]; rfl⟩
theorem agg_str (w : World) : (isAgg 9).run Try.prog w = .ok false w := by simp [isAgg, underlying, Try.underlying9]
theorem agg_keys (w : World) : (isAgg 25).run Try.prog w = .ok false w := by simp [isAgg, underlying, Try.underlying25]
theorem load_one {t : TypeId} {w : World} {p : Addr} {v : Value} (ht : ∀ w, (isAgg t).run Try.prog w = .ok false w) (h : w.cell? p = some v) : (loadVar t p).run Try.prog w = .ok v w := by
  unfold loadVar
  simp only [Sem.run_bind, ht, Result.andThen_ok]
  rw [if_neg (by simp)]
  simp [h]
theorem cd_load {W w' : World} {b : Nat} {v : Value} {y : ByteArray} {T : TypeId} (h : W.heap[b]? = some (.cells #[v, .string y] T)) (hb : Below W.heap.size W w') :
    (loadVar 27 ⟨b, 0, none⟩).run Try.prog w' = .ok (.agg #[v, .string y]) w' := by
  obtain ⟨h0, h1⟩ := cd_cells h hb
  refine run_loadVar_mid w' b 0 27 [v, .string y] _ (fun j u hj => ?_) Try.underlying27 rfl (by kernel_rfl)
  have hj2 : j < 2 := by have := (List.getElem?_eq_some_iff.1 hj).1; simpa using this
  rcases (by omega : j = 0 ∨ j = 1) with rfl | rfl
  · simpa using h0.trans (by simpa using hj)
  · simpa using h1.trans (by simpa using hj)
theorem szero_any (w : World) : Calls Try.prog 54 #[] w fun e w' => e = .returned (.string z4) ∧ w' = w := by
  go_enter Try.func54, Try.ntmps54
  go_wp2
  go_ret
  exact ⟨rfl, rfl⟩
theorem cd_loadk {W w' : World} {b : Nat} {v : Value} {y : ByteArray} {T : TypeId} (h : W.heap[b]? = some (.cells #[v, .string y] T)) (hb : Below W.heap.size W w') :
    (loadVar 25 ⟨b, 0, none⟩).run Try.prog w' = .ok v w' := load_one agg_keys (cd_cells h hb).1
theorem cd_loads {W w' : World} {b : Nat} {v : Value} {y : ByteArray} {T : TypeId} (h : W.heap[b]? = some (.cells #[v, .string y] T)) (hb : Below W.heap.size W w') :
    (loadVar 9 ⟨b, 1, none⟩).run Try.prog w' = .ok (.string y) w' := load_one agg_str (cd_cells h hb).2
structure Row2 (w : World) (b : Nat) (x y : Value) : Prop where
  c0 : w.cell? ⟨b, 0, none⟩ = some x
  c1 : w.cell? ⟨b, 1, none⟩ = some y
  f0 : w.frozen? ⟨b, 0, none⟩ = false
  f1 : w.frozen? ⟨b, 1, none⟩ = false
theorem row2_of {w : World} {b : Nat} {x y : Value} {t : TypeId} (h : w.heap[b]? = some (.cells #[x, y] t (0, 0))) : Row2 w b x y :=
  ⟨by rw [cell_of_row _ _ 0 _ _ _ h]; rfl, by rw [cell_of_row _ _ 1 _ _ _ h]; rfl, by simp [World.frozen?, h], by simp [World.frozen?, h]⟩
theorem set2 {w : World} {b : Nat} {x y : Value} {t : TypeId} (p q : Value) (h : w.heap[b]? = some (.cells #[x, y] t (0, 0))) :
    ((w.setCell ⟨b, 0, none⟩ p).setCell ⟨b, 1, none⟩ q).heap[b]? = some (.cells #[p, q] t (0, 0)) := set_cellsD _ (set_cellsD _ h)
theorem grown2 (w : World) (b : Nat) (p q : Value) : w.grownBy ((w.setCell ⟨b, 0, none⟩ p).setCell ⟨b, 1, none⟩ q) (some b) :=
  grownT (Lib.grownBy_setCell w b 0 p) (Lib.grownBy_setCell _ b 1 q)
theorem below2 {w W : World} {n b : Nat} (hb : Below n w W) (h : n ≤ b) (p q : Value) : Below n w ((W.setCell ⟨b, 0, none⟩ p).setCell ⟨b, 1, none⟩ q) :=
  (hb.setCell (p := ⟨b, 0, none⟩) h p).setCell (p := ⟨b, 1, none⟩) h q
theorem szero_below (w : World) : Calls Try.prog 54 #[] w fun e w' => e = .returned (.string z4) ∧ Below w.heap.size w w' :=
  (szero_any w).mono fun e w' h => ⟨h.1, by rw [h.2]; exact Below.refl _ _⟩
set_option maxRecDepth 100000 in
set_option maxHeartbeats 1000000 in
theorem scodeok_any (v : Value) (ks : List K2) (y : ByteArray) (w : World) (h : keysAt w v ks) (hs : ks.length ≤ 2000000) :
    Calls Try.prog 13 #[.agg #[v, .string y]] w fun e w' => e = .returned (.bool (codeOkB (ks, y))) ∧ Below w.heap.size w w' := by
  have hb := (Below.refl w.heap.size w).alloc (Nat.le_refl _) (.cells #[v, .string y] 27)
  have HB := Lib.hid hb
  have HX := Lib.hid (heap_alloc_new w (.cells #[v, .string y] 27))
  have HK := Lib.hid (fun w' (hb' : Below (w.alloc (.cells #[v, .string y] 27)).heap.size (w.alloc (.cells #[v, .string y] 27)) w') => skeysok_any v ks w' (keysAt_below h (hb.trans (hb'.mono hb.size))) hs)
  obtain ⟨a, cap, rfl, -, -⟩ := h
  unfold codeOkB
  dsimp only
  go_enter Try.func13, Try.ntmps13
  go_wp2
  generalize w.alloc (.cells #[.slice a ks.length cap, .string y] 27) = W at *
  have L0 := fun w' (hb' : Below W.heap.size W w') => cd_loadk HX.out hb'
  have L1 := fun w' (hb' : Below W.heap.size W w') => cd_loads HX.out hb'

  clear hb
  by_cases h1 : ks.length ≤ 6
  · have i1 : (ks.length : Int) ≤ 6 := by omega
    have d1 : decide ((ks.length : Int) ≤ 6) = true := decide_eq_true i1
    cases h2 : keysOkR ks with
    | false =>
      rw [h2] at HK
      refine wp_region_below W (by kernel_rfl) (by kernel_rfl) (Below.refl _ _) ?_
      repeat (first
        | go_big_quiet_skip
        | (go_big_quiet_want
           first
             | (go_big_quiet_op; go_big_quiet_on)
             | (refine q_load 25 _ _ _ rfl rfl L0 ?_; simp only [Act.put, List.setIfInBounds_toArray, List.set_cons_zero, List.set_cons_succ]; go_big_quiet_on)
             | (refine q_load 9 _ _ _ rfl rfl L1 ?_; simp only [Act.put, List.setIfInBounds_toArray, List.set_cons_zero, List.set_cons_succ]; go_big_quiet_on)
             | (go_big_quiet_op; refine ⟨_, fun _ _ => rfl, ?_⟩; go_big_quiet_on)
             | (go_big_quiet_op; apply Exists.intro; refine ⟨fun w' hw' => ?_, ?_⟩
                · first
                  | (with_reducible refine (HK.out w' hw').mono ?_
                     rintro e w2 ⟨rfl, hb2⟩
                     exact ⟨rfl, hw'.trans (hb2.mono hw'.size)⟩)
                  | (with_reducible refine (szero_below w').mono ?_
                     rintro e w2 ⟨rfl, hb2⟩
                     exact ⟨rfl, hw'.trans (hb2.mono hw'.size)⟩)
                go_big_quiet_on)))
      refine wpQuiet_nil ?_
      intro w9 hb9
      clear L0 L1
      go_wp2
      go_ret
      exact ⟨by simp [h1, h2], HB.out.trans (hb9.mono HB.out.size)⟩
    | true =>
      rw [h2] at HK
      by_cases h3 : y.size = 4
      · have i3 : (y.size : Int) = 4 := by omega
        have b3 : ((y.size : Int) == 4) = true := by simpa using i3
        by_cases h4 : 0 < ks.length
        · have i4 : (0 : Int) < (ks.length : Int) := by omega
          have d4 : decide ((0 : Int) < (ks.length : Int)) = true := decide_eq_true i4
          refine wp_region_below W (by kernel_rfl) (by kernel_rfl) (Below.refl _ _) ?_
          repeat (first
            | go_big_quiet_skip
            | (go_big_quiet_want
               first
                 | (go_big_quiet_op; go_big_quiet_on)
                 | (refine q_load 25 _ _ _ rfl rfl L0 ?_; simp only [Act.put, List.setIfInBounds_toArray, List.set_cons_zero, List.set_cons_succ]; go_big_quiet_on)
                 | (refine q_load 9 _ _ _ rfl rfl L1 ?_; simp only [Act.put, List.setIfInBounds_toArray, List.set_cons_zero, List.set_cons_succ]; go_big_quiet_on)
                 | (go_big_quiet_op; refine ⟨_, fun _ _ => rfl, ?_⟩; go_big_quiet_on)
                 | (go_big_quiet_op; apply Exists.intro; refine ⟨fun w' hw' => ?_, ?_⟩
                    · first
                      | (with_reducible refine (HK.out w' hw').mono ?_
                         rintro e w2 ⟨rfl, hb2⟩
                         exact ⟨rfl, hw'.trans (hb2.mono hw'.size)⟩)
                      | (with_reducible refine (szero_below w').mono ?_
                         rintro e w2 ⟨rfl, hb2⟩
                         exact ⟨rfl, hw'.trans (hb2.mono hw'.size)⟩)
                    go_big_quiet_on)))
          refine wpQuiet_nil ?_
          intro w9 hb9
          clear L0 L1
          go_wp2
          go_ret
          exact ⟨by simp [h1, h2, h3, h4], HB.out.trans (hb9.mono HB.out.size)⟩
        · have i4 : ¬ (0 : Int) < (ks.length : Int) := by omega
          have d4 : decide ((0 : Int) < (ks.length : Int)) = false := decide_eq_false i4
          have hy : decide (y = z4) = (y.toList == z4.toList) := by
            rw [Bool.eq_iff_iff, decide_eq_true_eq, beq_iff_eq, bytes_toList_iff]
          refine wp_region_below W (by kernel_rfl) (by kernel_rfl) (Below.refl _ _) ?_
          repeat (first
            | go_big_quiet_skip
            | (go_big_quiet_want
               first
                 | (go_big_quiet_op; go_big_quiet_on)
                 | (refine q_load 25 _ _ _ rfl rfl L0 ?_; simp only [Act.put, List.setIfInBounds_toArray, List.set_cons_zero, List.set_cons_succ]; go_big_quiet_on)
                 | (refine q_load 9 _ _ _ rfl rfl L1 ?_; simp only [Act.put, List.setIfInBounds_toArray, List.set_cons_zero, List.set_cons_succ]; go_big_quiet_on)
                 | (go_big_quiet_op; refine ⟨_, fun _ _ => rfl, ?_⟩; go_big_quiet_on)
                 | (go_big_quiet_op; apply Exists.intro; refine ⟨fun w' hw' => ?_, ?_⟩
                    · first
                      | (with_reducible refine (HK.out w' hw').mono ?_
                         rintro e w2 ⟨rfl, hb2⟩
                         exact ⟨rfl, hw'.trans (hb2.mono hw'.size)⟩)
                      | (with_reducible refine (szero_below w').mono ?_
                         rintro e w2 ⟨rfl, hb2⟩
                         exact ⟨rfl, hw'.trans (hb2.mono hw'.size)⟩)
                    go_big_quiet_on)))
          refine wpQuiet_nil ?_
          intro w9 hb9
          clear L0 L1
          go_wp2
          go_ret
          exact ⟨by simp [h1, h2, h3, h4, hy], HB.out.trans (hb9.mono HB.out.size)⟩
      · have i3 : ¬ (y.size : Int) = 4 := by omega
        have b3 : ((y.size : Int) == 4) = false := by simpa using i3
        refine wp_region_below W (by kernel_rfl) (by kernel_rfl) (Below.refl _ _) ?_
        repeat (first
          | go_big_quiet_skip
          | (go_big_quiet_want
             first
               | (go_big_quiet_op; go_big_quiet_on)
               | (refine q_load 25 _ _ _ rfl rfl L0 ?_; simp only [Act.put, List.setIfInBounds_toArray, List.set_cons_zero, List.set_cons_succ]; go_big_quiet_on)
               | (refine q_load 9 _ _ _ rfl rfl L1 ?_; simp only [Act.put, List.setIfInBounds_toArray, List.set_cons_zero, List.set_cons_succ]; go_big_quiet_on)
               | (go_big_quiet_op; refine ⟨_, fun _ _ => rfl, ?_⟩; go_big_quiet_on)
               | (go_big_quiet_op; apply Exists.intro; refine ⟨fun w' hw' => ?_, ?_⟩
                  · first
                    | (with_reducible refine (HK.out w' hw').mono ?_
                       rintro e w2 ⟨rfl, hb2⟩
                       exact ⟨rfl, hw'.trans (hb2.mono hw'.size)⟩)
                    | (with_reducible refine (szero_below w').mono ?_
                       rintro e w2 ⟨rfl, hb2⟩
                       exact ⟨rfl, hw'.trans (hb2.mono hw'.size)⟩)
                  go_big_quiet_on)))
        refine wpQuiet_nil ?_
        intro w9 hb9
        clear L0 L1
        go_wp2
        go_ret
        exact ⟨by simp [h1, h2, h3], HB.out.trans (hb9.mono HB.out.size)⟩
  · have i1 : ¬ (ks.length : Int) ≤ 6 := by omega
    have d1 : decide ((ks.length : Int) ≤ 6) = false := decide_eq_false i1
    refine wp_region_below W (by kernel_rfl) (by kernel_rfl) (Below.refl _ _) ?_
    repeat (first
      | go_big_quiet_skip
      | (go_big_quiet_want
         first
           | (go_big_quiet_op; go_big_quiet_on)
           | (refine q_load 25 _ _ _ rfl rfl L0 ?_; simp only [Act.put, List.setIfInBounds_toArray, List.set_cons_zero, List.set_cons_succ]; go_big_quiet_on)
           | (refine q_load 9 _ _ _ rfl rfl L1 ?_; simp only [Act.put, List.setIfInBounds_toArray, List.set_cons_zero, List.set_cons_succ]; go_big_quiet_on)
           | (go_big_quiet_op; refine ⟨_, fun _ _ => rfl, ?_⟩; go_big_quiet_on)
           | (go_big_quiet_op; apply Exists.intro; refine ⟨fun w' hw' => ?_, ?_⟩
              · first
                | (with_reducible refine (HK.out w' hw').mono ?_
                   rintro e w2 ⟨rfl, hb2⟩
                   exact ⟨rfl, hw'.trans (hb2.mono hw'.size)⟩)
                | (with_reducible refine (szero_below w').mono ?_
                   rintro e w2 ⟨rfl, hb2⟩
                   exact ⟨rfl, hw'.trans (hb2.mono hw'.size)⟩)
              go_big_quiet_on)))
    refine wpQuiet_nil ?_
    intro w9 hb9
    clear L0 L1
    go_wp2
    go_ret
    exact ⟨by simp [h1], HB.out.trans (hb9.mono HB.out.size)⟩
end Go.Proofs.Ytbbjpjkclealfaa
namespace Go.Proofs.Ytbbjpjkclealfaa
open Go.ChangeShapes Go.WideShapes Go.ChangeAt Go.RowKit Go.BigFrame
set_option linter.unusedVariables false

abbrev R3 := K2 × ByteArray
def r0 : R3 := ((0, 0), ByteArray.empty)
end Go.Proofs.Ytbbjpjkclealfaa
namespace Go.Proofs.Ytbbjpjkclealfaa
open Go.ChangeShapes Go.WideShapes Go.ChangeAt Go.RowKit
set_option linter.unusedVariables false
def numsOf (l : List UInt8) : List Int := l.map fun c => (c.toNat : Int)
theorem nums_back (l : List UInt8) : strOfNums (numsOf l) = ⟨l.toArray⟩ := by
  unfold strOfNums numsOf
  rw [List.map_map]
  congr 2
  conv => rhs; rw [← List.map_id l]
  apply List.map_congr_left
  intro c _
  simp
end Go.Proofs.Ytbbjpjkclealfaa
namespace Go.Proofs.Ytbbjpjkclealfaa
open Go.ChangeShapes Go.WideShapes Go.ChangeAt Go.RowKit
set_option linter.unusedVariables false

theorem leB_get : ∀ (k n i : Nat), i < k → (leB k n)[i]? = some (UInt8.ofNat (n / 256 ^ i % 256))
  | 0, _, _, h => by omega
  | k + 1, n, 0, _ => by simp [leB]
  | k + 1, n, i + 1, h => by
    show (leB k (n / 256))[i]? = _
    rw [leB_get k (n / 256) i (by omega), Nat.div_div_eq_div_mul, Nat.pow_succ, Nat.mul_comm 256]
def beL (n k : Nat) : List UInt8 := (leB k n).reverse
theorem beL_len (n k : Nat) : (beL n k).length = k := by simp [beL, leB_len]
theorem beL_take (n k j : Nat) (hj : 0 < j) (hk : j ≤ k) : numsOf ((beL n k).take (k - j + 1)) = numsOf ((beL n k).take (k - j)) ++ [((n / 256 ^ (j - 1) % 256 : Nat) : Int)] := by
  have hl := beL_len n k
  rw [List.take_succ_eq_append_getElem (by omega)]
  have hg : (beL n k)[k - j]'(by omega) = UInt8.ofNat (n / 256 ^ (j - 1) % 256) := by
    have h1 := leB_get k n (j - 1) (by omega)
    have h2 : (beL n k)[k - j]? = some (UInt8.ofNat (n / 256 ^ (j - 1) % 256)) := by
      unfold beL
      rw [List.getElem?_reverse (by rw [leB_len]; omega), leB_len, show k - 1 - (k - j) = j - 1 by omega]
      exact h1
    rw [List.getElem?_eq_getElem (by omega)] at h2
    exact Option.some.inj h2
  rw [hg]
  simp only [numsOf, List.map_append, List.map_cons, List.map_nil, UInt8.toNat_ofNat']
  congr 3
  omega
def putV (n k : Int) : ByteArray := if n < 0 ∨ k < 1 ∨ 4 < k then ByteArray.empty else ⟨(beL n.toNat k.toNat).toArray⟩
set_option maxRecDepth 100000 in
set_option maxHeartbeats 1000000 in
theorem sput_any (n k : Int) (w : World) (hn : n ≤ 9223372036854775807) :
    Calls Try.prog 108 #[.int .i64 n, .int .i64 k] w fun e w' => e = .returned (.string (putV n k)) ∧ Below w.heap.size w w' := by
  by_cases hn0 : n < 0
  · have hv : putV n k = ByteArray.empty := by unfold putV; rw [if_pos (.inl hn0)]
    have HV := Lib.hid hv; clear hv
    go_enter Try.func108, Try.ntmps108
    go_wp2
    go_ret
    exact ⟨by rw [HV.out]; rfl, Below.refl _ _⟩
  · by_cases hk : k < 1 ∨ 4 < k
    · have hv : putV n k = ByteArray.empty := by unfold putV; rw [if_pos (.inr hk)]
      have HV := Lib.hid hv; clear hv
      have hb : (decide (1 ≤ k) && decide (k ≤ 4)) = false := by simp; omega
      clear hk
      go_enter Try.func108, Try.ntmps108
      go_wp2_with (go_at_call 100; refine (sin_any _ _ _ _).mono ?_; rintro e w ⟨rfl, rfl⟩)
      go_ret
      exact ⟨by rw [HV.out]; rfl, Below.refl _ _⟩
    · have hv : putV n k = ⟨(beL n.toNat k.toNat).toArray⟩ := by unfold putV; rw [if_neg (by omega)]
      have hb : (decide (1 ≤ k) && decide (k ≤ 4)) = true := by simp; omega
      obtain ⟨N, rfl⟩ : ∃ N : Nat, n = N := ⟨n.toNat, by omega⟩
      obtain ⟨K, rfl⟩ : ∃ K : Nat, k = K := ⟨k.toNat, by omega⟩
      have hK : 1 ≤ K ∧ K ≤ 4 := by omega
      simp only [Int.toNat_natCast] at hv
      have htk := beL_take N K
      have hbl := beL_len N K
      generalize beL N K = X at *
      have HV := Lib.hid hv; have HTK := Lib.hid htk; clear hv htk hk
      obtain ⟨i0, hi, hz0, hz1, hz2⟩ := info_parts info5
      have ew : IntKind.i64.wrap ((K : Int) - 1) = (K : Int) - 1 := IntWalk.i64_in _ (by omega)
      go_enter Try.func108, Try.ntmps108
      go_wp2_with (go_at_call 100; refine (sin_any _ _ _ _).mono ?_; rintro e w ⟨rfl, rfl⟩)
      have hown0 := World.ownsRow_made (base := w.heap.size) (e := 5) (size := 1) w #[] 0 (Nat.le_refl _) (by unfold maxLen; omega) rfl
      have hb0 := (Below.refl w.heap.size w).alloc (Nat.le_refl _) (.cells #[] 5)
      go_loopw [5, 6] (fun v i wr => ∃ j : Nat, j ≤ K ∧ i = .int .i64 ((j : Int) - 1) ∧ wr.ownsRow w.heap.size 5 1 v (K - j) ((numsOf (X.take (K - j))).map (Value.int .u8)) ∧ Below w.heap.size w wr)
        (fun _ i _ => (intOf i + 1).toNat)
      case atStart => exact ⟨K, Nat.le_refl _, rfl, by simpa [numsOf] using hown0, hb0⟩
      case round =>
        obtain ⟨j, hj, rfl, hown, hnx⟩ := hrel
        clear hown0 hb0
        have hns := hnx.size
        by_cases hj0 : 0 < j
        · have hel := HTK.out j hj0 hj
          have hlen : K - j ≤ 4 := by omega
          have hrel2 : ∀ (v' : Value) (w1 : World), w1.ownsRow w.heap.size 5 1 v' (K - j + 1) ((numsOf (X.take (K - j))).map (Value.int .u8) ++ [.int .u8 ((N / 256 ^ (j - 1) % 256 : Nat) : Int)]) → w1.ownsRow w.heap.size 5 1 v' (K - (j - 1)) ((numsOf (X.take (K - (j - 1)))).map (Value.int .u8)) := by
            intro v' w1 ho
            rw [show K - (j - 1) = K - j + 1 by omega, hel, List.map_append]
            exact ho
          have HR := Lib.hid hrel2; clear hrel2 hel
          rcases (by omega : j = 1 ∨ j = 2 ∨ j = 3 ∨ j = 4) with rfl | rfl | rfl | rfl
          · go_wp2_with (at_builtin; refine wpList_append_own _ rfl (.tmp 21) (.tmp 28) 22 rfl w.heap.size 5 i0 (.int .u8 0) 1 1 Try.underlying22 hi hz0 hz1 hz2 rfl (by decide) _ _ _ rfl (hown.alloc _) ⟨wr.heap.size, 0, none⟩ 1 1 [.int .u8 _] rfl rfl (cell_one_new _ _ _) (by intro u hu; simp at hu; subst hu; rfl) (by unfold maxLen; omega) (by omega) (by simp; omega) ?_; intro v' w5 hown' hgrow _)
            have hg2 : (wr.alloc (.cells #[.int .u8 ((N : Int) % 256)] 5)).grownBy w5 u5.ownBlock := hgrow
            have e : ((N / 256 ^ (1 - 1) % 256 : Nat) : Int) = (N : Int) % 256 := by
              show ((N / 1 % 256 : Nat) : Int) = _
              omega
            have ho2 := HR.out v' w5 (by rw [e]; exact hown')
            have hb2 : Below w.heap.size w w5 := (hnx.alloc hns _).grown hg2 (by simp; omega) (fun g hg => (hown.lt g hg).1)
            exact ⟨⟨1 - 1, by omega, rfl, ho2, hb2⟩, by simp [intOf]⟩
          · go_wp2_with (at_builtin; refine wpList_append_own _ rfl (.tmp 21) (.tmp 28) 22 rfl w.heap.size 5 i0 (.int .u8 0) 1 1 Try.underlying22 hi hz0 hz1 hz2 rfl (by decide) _ _ _ rfl (hown.alloc _) ⟨wr.heap.size, 0, none⟩ 1 1 [.int .u8 _] rfl rfl (cell_one_new _ _ _) (by intro u hu; simp at hu; subst hu; rfl) (by unfold maxLen; omega) (by omega) (by simp; omega) ?_; intro v' w5 hown' hgrow _)
            have hg2 : (wr.alloc (.cells #[.int .u8 ((N : Int) / 256 % 256)] 5)).grownBy w5 u5.ownBlock := hgrow
            have e : ((N / 256 ^ (2 - 1) % 256 : Nat) : Int) = (N : Int) / 256 % 256 := by
              show ((N / 256 % 256 : Nat) : Int) = _
              omega
            have ho2 := HR.out v' w5 (by rw [e]; exact hown')
            have hb2 : Below w.heap.size w w5 := (hnx.alloc hns _).grown hg2 (by simp; omega) (fun g hg => (hown.lt g hg).1)
            exact ⟨⟨2 - 1, by omega, rfl, ho2, hb2⟩, by simp [intOf]⟩
          · go_wp2_with (at_builtin; refine wpList_append_own _ rfl (.tmp 21) (.tmp 28) 22 rfl w.heap.size 5 i0 (.int .u8 0) 1 1 Try.underlying22 hi hz0 hz1 hz2 rfl (by decide) _ _ _ rfl (hown.alloc _) ⟨wr.heap.size, 0, none⟩ 1 1 [.int .u8 _] rfl rfl (cell_one_new _ _ _) (by intro u hu; simp at hu; subst hu; rfl) (by unfold maxLen; omega) (by omega) (by simp; omega) ?_; intro v' w5 hown' hgrow _)
            have hg2 : (wr.alloc (.cells #[.int .u8 ((N : Int) / 65536 % 256)] 5)).grownBy w5 u5.ownBlock := hgrow
            have e : ((N / 256 ^ (3 - 1) % 256 : Nat) : Int) = (N : Int) / 65536 % 256 := by
              show ((N / 65536 % 256 : Nat) : Int) = _
              omega
            have ho2 := HR.out v' w5 (by rw [e]; exact hown')
            have hb2 : Below w.heap.size w w5 := (hnx.alloc hns _).grown hg2 (by simp; omega) (fun g hg => (hown.lt g hg).1)
            exact ⟨⟨3 - 1, by omega, rfl, ho2, hb2⟩, by simp [intOf]⟩
          · go_wp2_with (at_builtin; refine wpList_append_own _ rfl (.tmp 21) (.tmp 28) 22 rfl w.heap.size 5 i0 (.int .u8 0) 1 1 Try.underlying22 hi hz0 hz1 hz2 rfl (by decide) _ _ _ rfl (hown.alloc _) ⟨wr.heap.size, 0, none⟩ 1 1 [.int .u8 _] rfl rfl (cell_one_new _ _ _) (by intro u hu; simp at hu; subst hu; rfl) (by unfold maxLen; omega) (by omega) (by simp; omega) ?_; intro v' w5 hown' hgrow _)
            have hg2 : (wr.alloc (.cells #[.int .u8 ((N : Int) / 16777216 % 256)] 5)).grownBy w5 u5.ownBlock := hgrow
            have e : ((N / 256 ^ (4 - 1) % 256 : Nat) : Int) = (N : Int) / 16777216 % 256 := by
              show ((N / 16777216 % 256 : Nat) : Int) = _
              omega
            have ho2 := HR.out v' w5 (by rw [e]; exact hown')
            have hb2 : Below w.heap.size w w5 := (hnx.alloc hns _).grown hg2 (by simp; omega) (fun g hg => (hown.lt g hg).1)
            exact ⟨⟨4 - 1, by omega, rfl, ho2, hb2⟩, by simp [intOf]⟩
        · obtain rfl : j = 0 := by omega
          rw [Nat.sub_zero, List.take_of_length_le (by omega)] at hown
          have hcv := run_string_own (P := Try.prog) 22 5 9 Try.underlying22 Try.underlying5 Try.underlying9 hown
          rw [nums_back] at hcv
          clear hown
          go_wp2
          go_ret
          exact ⟨by rw [HV.out]; rfl, hnx⟩

end Go.Proofs.Ytbbjpjkclealfaa
namespace Go.Proofs.Ytbbjpjkclealfaa
open Go.ChangeShapes Go.WideShapes Go.ChangeAt Go.RowKit
set_option linter.unusedVariables false

def hashN (zs : List Int) : Nat → Int → Int
  | 0, h => h
  | k + 1, h => (hashN zs k h * 131 + zs[k]?.getD 0 + 7) % 1073741824
def newC (zs : List Int) (len : Nat) : Cu := ⟨0, hashN zs (min len 4000) (746746 + len)⟩
theorem hashN_bd (zs : List Int) (len : Nat) (hl : len ≤ 1048576) : ∀ k, 0 ≤ hashN zs k (746746 + len) ∧ hashN zs k (746746 + len) < 1073741824
  | 0 => by simp [hashN]; omega
  | k + 1 => by simp [hashN]; omega

set_option maxHeartbeats 800000 in
theorem new_end {n₀ len cap : Nat} {a : Option Addr} {zs : List Int} {w wr : World} {H : Int} (hc : CodeAt n₀ w a len zs) (hw : n₀ ≤ w.heap.size) (hgr : w.grownBy wr none) (hi : 0 ≤ len) :
    DrawSt n₀ (wr.alloc (.cells #[.slice a len cap, .int .i64 0, .int .i64 H] 124)) wr.heap.size a len cap zs 0 H ∧ Below n₀ w (wr.alloc (.cells #[.slice a len cap, .int .i64 0, .int .i64 H] 124)) ∧
      w.grownBy (wr.alloc (.cells #[.slice a len cap, .int .i64 0, .int .i64 H] 124)) none := by
  have hg2 := grownT hgr (World.grownBy_alloc wr (.cells #[.slice a len cap, .int .i64 0, .int .i64 H] 124) none)
  have hb : Below n₀ w (wr.alloc (.cells #[.slice a len cap, .int .i64 0, .int .i64 H] 124)) := (Below.refl _ _).grown hg2 hw (by simp)
  exact ⟨⟨hc.below hb, heap_alloc_new wr _, Nat.le_trans hw hgr.size, Nat.zero_le _⟩, hb, hg2⟩

set_option maxRecDepth 20000 in
theorem new_any (n₀ len cap : Nat) (a : Option Addr) (zs : List Int) (w : World) (hc : CodeAt n₀ w a len zs) (hw : n₀ ≤ w.heap.size) :
    Calls Try.prog 39 #[.slice a len cap] w fun e w' => ∃ g, e = .returned (.pointer (some ⟨g, 0, none⟩)) ∧ w.heap.size ≤ g ∧ DrawSt n₀ w' g a len cap zs (newC zs len).i (newC zs len).h ∧ Below n₀ w w' ∧ w.grownBy w' none := by
  have hlen := hc.1
  have hz := hc.2.1
  have hp := hc.2.2
  have hh := hashN_bd zs len hlen
  have HC := Lib.hid hc; clear hc
  go_enter Try.func39, Try.ntmps39
  go_wp2
  go_loopw [3, 4] (fun h i wr => ∃ j : Nat, j ≤ len ∧ j ≤ 4000 ∧ i = .int .i64 j ∧ h = .int .i64 (hashN zs j (746746 + len)) ∧ w.grownBy wr none)
    (fun _ i _ => len - (intOf i).toNat)
  case atStart => exact ⟨0, Nat.zero_le _, Nat.zero_le _, rfl, rfl, World.grownBy.refl _ _⟩
  case round =>
    obtain ⟨j, hj, hj4, rfl, rfl, hgr⟩ := hrel
    have hhj := hh j
    have hb : Below n₀ w wr := (Below.refl _ _).grown hgr hw (by simp)
    have hfin : (¬ (j < len ∧ j < 4000)) → newC zs len = ⟨0, hashN zs j (746746 + len)⟩ := by
      intro hn; unfold newC; congr; omega
    generalize hH : hashN zs j (746746 + len) = H at *
    have HF := Lib.hid hfin; clear hfin
    have hsz := hgr.size
    by_cases hlt : j < len
    · have z1 : (j : Int) < (len : Int) := by omega
      have z0 : (0 : Int) ≤ (j : Int) := by omega
      obtain ⟨b, off, rfl, hb0, hcells⟩ := hp.resolve_left (by omega)
      have cz : wr.cell? ⟨b, off + j, none⟩ = some (.int .u8 (zs[j]?.getD 0)) := (hb.cell (p := ⟨b, off + j, none⟩) hb0).trans (hcells j hlt)
      have hzj := hz j
      have hHs : hashN zs (j + 1) (746746 + len) = (H * 131 + zs[j]?.getD 0 + 7) % 1073741824 := by show (hashN zs j _ * 131 + _ + 7) % 1073741824 = _; rw [hH]
      have HHS := Lib.hid hHs; clear hHs hh hH
      generalize zs[j]?.getD 0 = y at *
      have HCELLS := Lib.hid hcells; clear hcells hp
      have HZ := Lib.hid hz; clear hz
      by_cases hlt4 : j < 4000
      · have e1 : wrap64 (H * 131) = H * 131 := IntWalk.wrap64_in _ (by omega)
        have e2 : wrap64 (H * 131 + y) = H * 131 + y := IntWalk.wrap64_in _ (by omega)
        have e3 : wrap64 (H * 131 + y + 7) = H * 131 + y + 7 := IntWalk.wrap64_in _ (by omega)
        have e5 : IntKind.i64.wrap (H * 131 + y) = H * 131 + y := IntWalk.i64_in _ (by omega)
        have e6 : IntKind.i64.wrap (H * 131 + y + 7) = H * 131 + y + 7 := IntWalk.i64_in _ (by omega)
        have e7 : IntKind.i64.wrap (H * 131) = H * 131 := IntWalk.i64_in _ (by omega)
        have e4 : bits BinOp.and IntKind.i64 (H * 131 + y + 7) 1073741823 = (H * 131 + y + 7) % 1073741824 := i64_and30 _
        go_wp2
        go_roundw
        case rel => exact ⟨j + 1, by omega, by omega, by go_num, by rw [HHS.out], hgr⟩
        case measure => simp [intOf]; omega
      · clear HHS HCELLS HZ
        go_wp2
        go_ret
        refine ⟨_, rfl, hsz, ?_⟩
        rw [HF.out (by omega)]
        exact new_end HC.out hw hgr (by omega)
    · clear hz hp hh
      have z1 : ¬ (j : Int) < (len : Int) := by omega
      go_wp2
      go_ret
      refine ⟨_, rfl, hsz, ?_⟩
      rw [HF.out (by omega)]
      exact new_end HC.out hw hgr (by omega)

theorem pickint_any (n₀ g len cap lb n : Nat) (a : Option Addr) (zs : List Int) (c : Cu) (xs : List Int) (w : World) (hs : DrawSt n₀ w g a len cap zs c.i c.h) (hn : 0 < n) (hn2 : n ≤ 256) (hx : xs.length = n) (hlg : lb ≠ g)
    (hcells : ∀ k, k < n → w.cell? ⟨lb, k, none⟩ = some (.int .i64 (xs[k]?.getD 0))) :
    Calls Try.prog 123 #[.pointer (some ⟨g, 0, none⟩), .slice (some ⟨lb, 0, none⟩) n n] w fun e w' => e = .returned (.int .i64 (xs[(belowF zs len c n).1.toNat]?.getD 0)) ∧ Drew n₀ g a len cap zs (belowF zs len c n).2 w w' := by
  have H1 := Lib.hid (below_any n₀ g len cap a zs c n w hs (by omega)); clear hs
  have hbd := belowF_bd zs len c n
  generalize belowF zs len c n = b at *
  obtain ⟨x, c'⟩ := b
  dsimp only at *
  have hx0 : 0 ≤ x := hbd.1
  have hx1 : x < (n : Int) := hbd.2 (by omega)
  obtain ⟨m, rfl⟩ : ∃ m : Nat, x = m := ⟨x.toNat, by omega⟩
  have hm : m < n := by omega
  have hc := hcells m hm
  have e1 : (m : Int).toNat = m := by omega
  rw [e1]
  generalize xs[m]?.getD 0 = y at *
  clear hcells hbd
  go_enter Try.func123, Try.ntmps123
  go_wp2_with fail
  refine H1.out.mono ?_
  clear H1
  rintro e w1 ⟨rfl, hd⟩
  have hc1 : w1.cell? ⟨lb, m, none⟩ = some (.int .i64 y) := hd.grown.cell hc (by simpa using hlg)
  go_wp2
  go_ret
  exact ⟨rfl, hd⟩
theorem Drew.alloc {n₀ g : Nat} {a : Option Addr} {len cap : Nat} {zs : List Int} {c : Cu} {w w1 : World} (h : Drew n₀ g a len cap zs c w w1) (o : Obj) : Drew n₀ g a len cap zs c w (w1.alloc o) := by
  have hgl := (Array.getElem?_eq_some_iff.1 h.st.cur).1
  have hg0 := h.st.hg
  refine ⟨⟨h.st.code.below ((Below.refl _ _).alloc (by omega) o), ?_, hg0, h.st.hi⟩, h.below.trans ((Below.refl _ _).alloc (by omega) o), grownT h.grown (World.grownBy_alloc _ _ _)⟩
  exact ((World.grownBy_alloc w1 o none).block g hgl (by simp)).trans h.st.cur
theorem DrawSt.lt {n₀ g : Nat} {a : Option Addr} {len cap : Nat} {zs : List Int} {i : Nat} {h : Int} {w : World} (hs : DrawSt n₀ w g a len cap zs i h) : g < w.heap.size := (Array.getElem?_eq_some_iff.1 hs.cur).1
theorem lit_cell (w : World) (cs : Array Value) (e : TypeId) (k : Nat) : (w.alloc (.cells cs e)).cell? ⟨w.heap.size, k, none⟩ = cs[k]? := cell_of_row _ _ _ _ _ _ (heap_alloc_new w _)

theorem Drew.grow {n₀ g : Nat} {a : Option Addr} {len cap : Nat} {zs : List Int} {c : Cu} {w w1 w2 : World} {row : Option Nat} (h : Drew n₀ g a len cap zs c w w1) (hgl : g < w.heap.size) (k : w1.grownBy w2 row) (hr : ∀ b, row = some b → w.heap.size ≤ b) : Drew n₀ g a len cap zs c w w2 := by
  have hg0 := h.st.hg
  have hsz := h.grown.size
  have hb : Below n₀ w1 w2 := (Below.refl n₀ w1).grown k (by omega) (fun b e => by have := hr b e; omega)
  refine ⟨⟨h.st.code.below hb, ?_, hg0, h.st.hi⟩, h.below.trans hb, ⟨k.os.trans h.grown.os, k.tape.trans h.grown.tape, k.output.trans h.grown.output, Nat.le_trans hsz k.size, fun j hj hn => ?_⟩⟩
  · refine (k.block g (by omega) (fun e => ?_)).trans h.st.cur
    have := hr g e.symm; omega
  · refine (k.block j (by omega) (fun e => ?_)).trans (h.grown.block j hj hn)
    have := hr j e.symm; omega

/-- what a walk is told of bytes that came in -/
def IsRow (k : IntKind) (w : World) (a : Option Addr) (len cap : Nat) (zs : List Int) : Prop :=
  (a = none ∧ len = 0 ∧ cap = 0 ∧ zs = []) ∨
  ∃ x, a = some x ∧ len ≤ cap ∧ cap ≤ maxLen ∧ zs.length = cap ∧ (∀ i, i < zs.length → w.cell? (x.add i) = some (.int k (zs.getD i 0))) ∧ ∀ n ∈ zs, (Lit.int k n).wf = true
theorem codeAt_of {w : World} {a : Option Addr} {len cap : Nat} {zs : List Int} (h : IsRow .u8 w a len cap zs) (hl : len ≤ 1048576) : CodeAt w.heap.size w a len zs := by
  rcases h with ⟨rfl, rfl, rfl, rfl⟩ | ⟨x, rfl, h1, h2, h3, h4, h5⟩
  · exact ⟨hl, by simp, .inl rfl⟩
  · refine ⟨hl, fun k => range_u8 h5 k, ?_⟩
    · rcases Nat.eq_zero_or_pos len with h0 | h0
      · exact .inl h0
      · obtain ⟨b, off, spot⟩ := x
        have hc := h4 0 (by omega)
        have hs : spot = none := by simpa [Addr.add] using World.cell?_spot hc
        subst hs
        refine .inr ⟨b, off, rfl, World.block_lt_of_cell? w ⟨b, off, none⟩ (by simpa [Addr.add] using hc), fun k hk => ?_⟩
        have := h4 k (by omega)
        rw [List.getD_eq_getElem?_getD] at this
        rw [← this]
        unfold Addr.add
        split
        · rename_i e; subst e; rfl
        · rfl
theorem big_any (a : Option Addr) (len cap : Nat) (w : World) (hl : len ≤ 1048576) : Calls Try.prog 7 #[.slice a len cap] w fun e w' => e = .returned (.bool false) ∧ w' = w := by
  have z1 : ¬ (1048576 : Int) < (len : Int) := by omega
  go_enter Try.func7, Try.ntmps7
  go_wp2
  go_ret
  exact ⟨rfl, rfl⟩
theorem big_true (a : Option Addr) (len cap : Nat) (w : World) (hl : ¬ len ≤ 1048576) : Calls Try.prog 7 #[.slice a len cap] w fun e w' => e = .returned (.bool true) ∧ w' = w := by
  have z1 : (1048576 : Int) < (len : Int) := by omega
  go_enter Try.func7, Try.ntmps7
  go_wp2
  go_ret
  exact ⟨rfl, rfl⟩

end Go.Proofs.Ytbbjpjkclealfaa
namespace Go.Proofs.Ytbbjpjkclealfaa
open Go.ChangeShapes Go.WideShapes Go.ChangeAt Go.RowKit
set_option linter.unusedVariables false

/-- a block that a draw leaves alone -/
theorem Drew.keeps {n₀ g : Nat} {a : Option Addr} {len cap : Nat} {zs : List Int} {c : Cu} {w w1 : World} (h : Drew n₀ g a len cap zs c w w1) {b : Nat} {o : Obj} (hb : w.heap[b]? = some o) (hne : b ≠ g) : w1.heap[b]? = some o := by
  rw [h.grown.block b (Array.getElem?_eq_some_iff.1 hb).1 (fun e => hne (by cases e; rfl))]
  exact hb
theorem two_set {w : World} {b : Nat} {e : TypeId} (x y p q : Value) (h : w.heap[b]? = some (.cells #[x, y] e (0, 0))) :
    w.cell? ⟨b, 0, none⟩ = some x ∧ w.cell? ⟨b, 1, none⟩ = some y ∧ w.frozen? ⟨b, 0, none⟩ = false ∧ w.frozen? ⟨b, 1, none⟩ = false ∧
    ((w.setCell ⟨b, 0, none⟩ p).setCell ⟨b, 1, none⟩ q).cell? ⟨b, 0, none⟩ = some p ∧ ((w.setCell ⟨b, 0, none⟩ p).setCell ⟨b, 1, none⟩ q).cell? ⟨b, 1, none⟩ = some q := by
  have c0 : w.cell? ⟨b, 0, none⟩ = some x := by rw [cell_of_row _ _ 0 _ _ _ h]; rfl
  have c1 : w.cell? ⟨b, 1, none⟩ = some y := by rw [cell_of_row _ _ 1 _ _ _ h]; rfl
  have d1 : (w.setCell ⟨b, 0, none⟩ p).cell? ⟨b, 1, none⟩ = some y := by rw [World.cell?_setCell_other _ _ _ _ (fun e => by cases e)]; exact c1
  refine ⟨c0, c1, by simp [World.frozen?, h], by simp [World.frozen?, h], ?_, World.cell?_setCell_same _ _ _ d1⟩
  rw [World.cell?_setCell_other _ _ _ _ (fun e => by cases e)]
  exact World.cell?_setCell_same _ _ _ c0
theorem grown_two (w : World) (b : Nat) (p q : Value) : w.grownBy ((w.setCell ⟨b, 0, none⟩ p).setCell ⟨b, 1, none⟩ q) (some b) := by
  refine ⟨rfl, rfl, rfl, by simp [World.setCell], fun k hk hr => ?_⟩
  have hk2 : k ≠ b := fun e => hr (by rw [e])
  rw [Below.heap_setCell _ _ _ _ hk2, Below.heap_setCell _ _ _ _ hk2]
theorem build_key (a b : Int) (w : World) : (Instr.build 41 #[(0, .int .i64 a), (1, .int .i64 b)]).run Try.prog w = .ok (.agg #[.int .i64 a, .int .i64 b]) w := run_build w 41 _ _ (by kernel_rfl)
theorem key_any (n₀ g len cap : Nat) (a : Option Addr) (zs : List Int) (c : Cu) (w : World) (hs : DrawSt n₀ w g a len cap zs c.i c.h) :
    Calls Try.prog 107 #[.pointer (some ⟨g, 0, none⟩)] w fun e w' => ∃ (k : K2) (c' : Cu), e = .returned (kv k) ∧ (1 ≤ k.1 ∧ k.1 ≤ 5 ∧ 1 ≤ k.2 ∧ k.2 ≤ 2) ∧ Drew n₀ g a len cap zs c' w w' := by
  have hd0 : Drew n₀ g a len cap zs c w w := ⟨hs, Below.refl _ _, World.grownBy.refl _ _⟩
  have hgl := hs.lt
  go_enter Try.func107, Try.ntmps107
  go_wp2_with fail
  have hd1 := hd0.alloc (.cells #[.int .i64 0, .int .i64 0] 41)
  refine (below_any n₀ g len cap a zs c 5 _ hd1.st (by omega)).mono ?_
  rintro e w1 ⟨rfl, hd⟩
  have hbd := belowF_bd zs len c 5
  generalize belowF zs len c 5 = b at *
  obtain ⟨x, c1⟩ := b
  dsimp only at *
  go_wp2_with fail
  refine (below_any n₀ g len cap a zs c1 2 _ hd.st (by omega)).mono ?_
  rintro e w2 ⟨rfl, hd2⟩
  have hbd2 := belowF_bd zs len c1 2
  generalize belowF zs len c1 2 = b at *
  obtain ⟨y, c2⟩ := b
  dsimp only at *
  have hD := hd1.trans (hd.trans hd2)
  have ew : wrap64 (1 + x) = 1 + x := IntWalk.wrap64_in _ (by omega)
  have ew2 : wrap64 (1 + y) = 1 + y := IntWalk.wrap64_in _ (by omega)
  have hbk := fun w => build_key (1 + x) (1 + y) w
  have hb1 := hd2.keeps (hd.keeps (heap_alloc_new w (.cells #[.int .i64 0, .int .i64 0] 41)) (by omega)) (by omega)
  obtain ⟨s1, s2, s3, s4, s5, s6⟩ := two_set (.int .i64 0) (.int .i64 0) (.int .i64 (1 + x)) (.int .i64 (1 + y)) hb1
  have hG := hD.grow hgl (grown_two w2 w.heap.size (.int .i64 (1 + x)) (.int .i64 (1 + y))) (fun b e => by cases e; omega)
  have HG := Lib.hid hG; have S56 := Lib.hid (And.intro s5 s6)
  have hsz : w.heap.size < w2.heap.size := (Array.getElem?_eq_some_iff.1 hb1).1
  clear hD hd hd1 hd2 hG s5 s6 hb1 hd0 hs
  go_wp2
  refine bodyPost_ret (v := kv (1 + x, 1 + y)) ?_ rfl ⟨(1 + x, 1 + y), c2, rfl, by dsimp only; omega, HG.out⟩
  rw [results_cell (p := 2) (ty := 41) (by kernel_rfl)]
  have hl := key_load (k := (1 + x, 1 + y)) (o := 0) S56.out (by simp [World.setCell]; omega) (Below.refl _ _)
  simp [asAddr, Result.andThen, hl]
theorem odd_any (n₀ g len cap : Nat) (a : Option Addr) (zs : List Int) (c : Cu) (w : World) (hs : DrawSt n₀ w g a len cap zs c.i c.h) :
    Calls Try.prog 109 #[.pointer (some ⟨g, 0, none⟩)] w fun e w' => ∃ (k : K2) (c' : Cu), e = .returned (kv k) ∧ (-5 ≤ k.1 ∧ k.1 ≤ 100 ∧ -5 ≤ k.2 ∧ k.2 ≤ 100) ∧ Drew n₀ g a len cap zs c' w w' := by
  have hd0 : Drew n₀ g a len cap zs c w w := ⟨hs, Below.refl _ _, World.grownBy.refl _ _⟩
  have hgl := hs.lt
  go_enter Try.func109, Try.ntmps109
  go_wp2_with fail
  have hd1 := hd0.alloc (.cells #[.int .i64 0, .int .i64 0] 41)
  have hd2 := hd1.alloc (.cells #[.int .i64 0, .int .i64 1, .int .i64 20, .int .i64 21, .int .i64 (-1), .int .i64 5] 3)
  have hq1 := heap_first w (.cells #[.int .i64 0, .int .i64 1, .int .i64 20, .int .i64 21, .int .i64 (-1), .int .i64 5] 3) (.cells #[.int .i64 0, .int .i64 0] 41)
  refine (pickint_any n₀ g len cap (w.heap.size + 1) 6 a zs c [0, 1, 20, 21, -1, 5] _ hd2.st (by omega) (by omega) rfl (by omega) ?_).mono ?_
  · intro k hk
    have := lit_cell (w.alloc (.cells #[.int .i64 0, .int .i64 0] 41)) #[.int .i64 0, .int .i64 1, .int .i64 20, .int .i64 21, .int .i64 (-1), .int .i64 5] 3 k
    rw [show (w.alloc (.cells #[.int .i64 0, .int .i64 0] 41)).heap.size = w.heap.size + 1 by simp] at this
    rw [this]
    rcases (by omega : k = 0 ∨ k = 1 ∨ k = 2 ∨ k = 3 ∨ k = 4 ∨ k = 5) with rfl | rfl | rfl | rfl | rfl | rfl <;> rfl
  · rintro e w1 ⟨rfl, hd⟩
    have hbd := belowF_bd zs len c (6 : Nat)
    generalize belowF zs len c (6 : Nat) = b at *
    obtain ⟨x0, c1⟩ := b
    dsimp only at *
    have hx : -1 ≤ [0, 1, 20, 21, -1, (5 : Int)][x0.toNat]?.getD 0 ∧ [0, 1, 20, 21, -1, (5 : Int)][x0.toNat]?.getD 0 ≤ 21 := by
      rcases (by omega : x0.toNat = 0 ∨ x0.toNat = 1 ∨ x0.toNat = 2 ∨ x0.toNat = 3 ∨ x0.toNat = 4 ∨ x0.toNat = 5) with h | h | h | h | h | h <;> rw [h] <;> simp
    generalize [0, 1, 20, 21, -1, (5 : Int)][x0.toNat]?.getD 0 = x at *
    have hD := hd2.trans hd
    have hq2 := hd.keeps hq1 (by omega)
    have hgw := hD.st.lt
    clear hd hd1 hd2 hq1 hd0 hs
    go_wp2_with fail
    have hd3 := hD.alloc (.cells #[.int .i64 0, .int .i64 1, .int .i64 99, .int .i64 100, .int .i64 (-5)] 3)
    have hwz : w.heap.size ≤ w1.heap.size := hD.grown.size
    refine (pickint_any n₀ g len cap w1.heap.size 5 a zs c1 [0, 1, 99, 100, -5] _ hd3.st (by omega) (by omega) rfl (by omega) ?_).mono ?_
    · intro k hk
      rw [lit_cell]
      rcases (by omega : k = 0 ∨ k = 1 ∨ k = 2 ∨ k = 3 ∨ k = 4) with rfl | rfl | rfl | rfl | rfl <;> rfl
    · rintro e w2 ⟨rfl, hd⟩
      have hbd2 := belowF_bd zs len c1 (5 : Nat)
      generalize belowF zs len c1 (5 : Nat) = b at *
      obtain ⟨y0, c2⟩ := b
      dsimp only at *
      have hy : -5 ≤ [0, 1, 99, 100, (-5 : Int)][y0.toNat]?.getD 0 ∧ [0, 1, 99, 100, (-5 : Int)][y0.toNat]?.getD 0 ≤ 100 := by
        rcases (by omega : y0.toNat = 0 ∨ y0.toNat = 1 ∨ y0.toNat = 2 ∨ y0.toNat = 3 ∨ y0.toNat = 4) with h | h | h | h | h <;> rw [h] <;> simp
      generalize [0, 1, 99, 100, (-5 : Int)][y0.toNat]?.getD 0 = y at *
      have hq3 : (w1.alloc (.cells #[.int .i64 0, .int .i64 1, .int .i64 99, .int .i64 100, .int .i64 (-5)] 3)).heap[w.heap.size]? = some (.cells #[.int .i64 0, .int .i64 0] 41) := by
        rw [Below.heap_alloc _ _ _ (Array.getElem?_eq_some_iff.1 hq2).1]; exact hq2
      have hb1 := hd.keeps hq3 (by omega)
      have hDD := hd3.trans hd
      have hbk := fun w => build_key x y w
      obtain ⟨s1, s2, s3, s4, s5, s6⟩ := two_set (.int .i64 0) (.int .i64 0) (.int .i64 x) (.int .i64 y) hb1
      have hG := hDD.grow hgl (grown_two w2 w.heap.size (.int .i64 x) (.int .i64 y)) (fun b e => by cases e; omega)
      have HG := Lib.hid hG; have S56 := Lib.hid (And.intro s5 s6)
      have hsz : w.heap.size < w2.heap.size := (Array.getElem?_eq_some_iff.1 hb1).1
      clear hD hd hd3 hDD hG s5 s6 hb1 hq3 hq2
      go_wp2
      refine bodyPost_ret (v := kv (x, y)) ?_ rfl ⟨(x, y), c2, rfl, by dsimp only; omega, HG.out⟩
      rw [results_cell (p := 2) (ty := 41) (by kernel_rfl)]
      have hl := key_load (k := (x, y)) (o := 0) S56.out (by simp [World.setCell]; omega) (Below.refl _ _)
      simp [asAddr, Result.andThen, hl]
end Go.Proofs.Ytbbjpjkclealfaa
namespace Go.Proofs.Ytbbjpjkclealfaa
open Go.ChangeShapes Go.WideShapes Go.ChangeAt Go.RowKit
set_option linter.unusedVariables false

theorem once_any (n₀ g len cap : Nat) (a : Option Addr) (zs : List Int) (c : Cu) (n : Int) (w : World) (hs : DrawSt n₀ w g a len cap zs c.i c.h) (hn : -9223372036854775808 ≤ n ∧ n ≤ 9223372036854775807) :
    Calls Try.prog 41 #[.pointer (some ⟨g, 0, none⟩), .int .i64 n] w fun e w' => e = .returned (.bool ((belowF zs len c n).1 == 0)) ∧ Drew n₀ g a len cap zs (belowF zs len c n).2 w w' := by
  have H1 := Lib.hid (below_any n₀ g len cap a zs c n w hs hn); clear hs
  generalize belowF zs len c n = b at *
  go_enter Try.func41, Try.ntmps41
  go_wp2_with fail
  refine H1.out.mono ?_
  clear H1
  rintro e w1 ⟨rfl, hd⟩
  go_wp2
  go_ret
  exact ⟨rfl, hd⟩
end Go.Proofs.Ytbbjpjkclealfaa
namespace Go.Proofs.Ytbbjpjkclealfaa
open Go.ChangeShapes Go.WideShapes Go.ChangeAt Go.RowKit
set_option linter.unusedVariables false

theorem pick_any (n₀ g len cap lb n : Nat) (a : Option Addr) (zs : List Int) (c : Cu) (xs : List ByteArray) (w : World) (hs : DrawSt n₀ w g a len cap zs c.i c.h) (hn : 0 < n) (hn2 : n ≤ 256) (hx : xs.length = n) (hlg : lb ≠ g)
    (hcells : ∀ k, k < n → w.cell? ⟨lb, k, none⟩ = some (.string (xs[k]?.getD ByteArray.empty))) :
    Calls Try.prog 87 #[.pointer (some ⟨g, 0, none⟩), .slice (some ⟨lb, 0, none⟩) n n] w fun e w' => e = .returned (.string (xs[(belowF zs len c n).1.toNat]?.getD ByteArray.empty)) ∧ Drew n₀ g a len cap zs (belowF zs len c n).2 w w' := by
  have H1 := Lib.hid (below_any n₀ g len cap a zs c n w hs (by omega)); clear hs
  have hbd := belowF_bd zs len c n
  generalize belowF zs len c n = b at *
  obtain ⟨x, c'⟩ := b
  dsimp only at *
  have hx0 : 0 ≤ x := hbd.1
  have hx1 : x < (n : Int) := hbd.2 (by omega)
  obtain ⟨m, rfl⟩ : ∃ m : Nat, x = m := ⟨x.toNat, by omega⟩
  have hm : m < n := by omega
  have hc := hcells m hm
  have e1 : (m : Int).toNat = m := by omega
  rw [e1]
  generalize xs[m]?.getD ByteArray.empty = y at *
  clear hcells hbd
  go_enter Try.func87, Try.ntmps87
  go_wp2_with fail
  refine H1.out.mono ?_
  clear H1
  rintro e w1 ⟨rfl, hd⟩
  have hc1 : w1.cell? ⟨lb, m, none⟩ = some (.string y) := hd.grown.cell hc (by simpa using hlg)
  go_wp2
  go_ret
  exact ⟨rfl, hd⟩

end Go.Proofs.Ytbbjpjkclealfaa
namespace Go.Proofs.Ytbbjpjkclealfaa
open Go.ChangeShapes Go.WideShapes Go.ChangeAt Go.RowKit Go.BigFrame
set_option linter.unusedVariables false

def truthV (k : K2) : ByteArray := putV (1000003 * k.1 + 77777 * k.2 + 12345) 4
theorem truth_any (k : K2) (w : World) (h1 : 0 ≤ k.1 ∧ k.1 ≤ 1000) (h2 : 0 ≤ k.2 ∧ k.2 ≤ 1000) : Calls Try.prog 85 #[kv k] w fun e w' => e = .returned (.string (truthV k)) ∧ Below w.heap.size w w' := by
  obtain ⟨n, s⟩ := k
  unfold kv truthV
  dsimp only at *
  have hb : Below w.heap.size w (w.alloc (.cells #[.int .i64 n, .int .i64 s] 41)) := (Below.refl _ _).alloc (Nat.le_refl _) _
  have e1 : wrap64 (1000003 * n) = 1000003 * n := IntWalk.wrap64_in _ (by omega)
  have e2 : wrap64 (77777 * s) = 77777 * s := IntWalk.wrap64_in _ (by omega)
  have e3 : wrap64 (1000003 * n + 77777 * s) = 1000003 * n + 77777 * s := IntWalk.wrap64_in _ (by omega)
  have e4 : wrap64 (1000003 * n + 77777 * s + 12345) = 1000003 * n + 77777 * s + 12345 := IntWalk.wrap64_in _ (by omega)
  have HP := Lib.hid (fun w => sput_any (1000003 * n + 77777 * s + 12345) 4 w (by omega))
  go_enter Try.func85, Try.ntmps85
  go_wp2_with fail
  refine (HP.out _).mono ?_
  rintro e w1 ⟨rfl, hb1⟩
  have hB := hb.trans (hb1.mono hb.size)
  clear HP hb hb1
  go_wp2
  go_ret
  exact ⟨rfl, hB⟩
end Go.Proofs.Ytbbjpjkclealfaa
namespace Go.Proofs.Ytbbjpjkclealfaa
open Go.ChangeShapes Go.WideShapes Go.ChangeAt Go.RowKit Go.BigFrame
set_option linter.unusedVariables false

theorem Drew.drewR {n₀ g : Nat} {a : Option Addr} {len cap : Nat} {zs : List Int} {c : Cu} {w w1 : World} (h : Drew n₀ g a len cap zs c w w1) : Drew n₀ g a len cap zs c w w1.drew :=
  ⟨⟨h.st.code, h.st.cur, h.st.hg, h.st.hi⟩, h.below.drew, grownT h.grown ⟨rfl, rfl, rfl, Nat.le_refl _, fun _ _ _ => rfl⟩⟩
theorem truthV_size (k : K2) (h1 : 0 ≤ k.1 ∧ k.1 ≤ 1000) (h2 : 0 ≤ k.2 ∧ k.2 ≤ 1000) : (truthV k).size = 4 := by
  unfold truthV putV
  rw [if_neg (by omega)]
  show (beL _ (4 : Int).toNat).toArray.size = 4
  have := beL_len (1000003 * k.1 + 77777 * k.2 + 12345).toNat (4 : Int).toNat
  simpa using this
end Go.Proofs.Ytbbjpjkclealfaa
namespace Go.Proofs.Ytbbjpjkclealfaa
open Go.ChangeShapes Go.WideShapes Go.ChangeAt Go.RowKit Go.BigFrame
set_option linter.unusedVariables false

theorem addr_plusK (g off j : Nat) : (⟨g, off, none⟩ : Addr).add j = ⟨g, off + j, none⟩ := by
  unfold Addr.add
  split
  · rename_i h; simp [h]
  · rfl
theorem kyCells_one (ks : List K2) : ∀ u ∈ keyCells ks, u.oneCell' = true := by
  intro u hu
  simp only [keyCells, List.mem_flatMap, List.mem_cons, List.not_mem_nil, or_false] at hu
  obtain ⟨k, _, rfl | rfl⟩ := hu <;> rfl
theorem kyCells_at {w : World} {g off : Nat} {ks : List K2} (h : ∀ i, i < ks.length → w.cell? ⟨g, off + i * 2, none⟩ = some (.int .i64 (ks.getD i (0, 0)).1) ∧ w.cell? ⟨g, off + i * 2 + 1, none⟩ = some (.int .i64 (ks.getD i (0, 0)).2)) :
    ∀ j u, (keyCells ks)[j]? = some u → w.cell? ((⟨g, off, none⟩ : Addr).add j) = some u := by
  intro j u hu
  have hj : j < ks.length * 2 := by rw [← keyCells_len]; exact (List.getElem?_eq_some_iff.1 hu).1
  have hc := keyCells_get ks (j / 2) (by omega)
  have hw := h (j / 2) (by omega)
  rw [addr_plusK]
  rcases (by omega : j = j / 2 * 2 ∨ j = j / 2 * 2 + 1) with e | e
  · rw [← e] at hc
    rw [show off + j / 2 * 2 = off + j by omega] at hw
    rw [hc.1] at hu; cases hu
    exact hw.1
  · rw [← e] at hc
    rw [show off + j / 2 * 2 + 1 = off + j by omega] at hw
    rw [hc.2] at hu; cases hu
    exact hw.2
theorem key_append_none {w : World} {base n : Nat} {v : Value} {xs : List Value} (h : w.ownsRow base 41 2 v n xs) (ar : Option Addr) (cr : Nat) (ty : TypeId) :
    (Builtin.append_ #[25, 25] ty #[v, .slice ar 0 cr]).run Try.prog w = .ok v w := by
  obtain ⟨i0, hi, hz0, hz1, hz2⟩ := info_parts infoK
  have u := Try.underlying25
  rcases h.2 with ⟨rfl, h0⟩ | ⟨g, cap, cur, rfl, _, _, hn, _⟩
  · cases ar <;> simp [Builtin.append_, run_underlying u, sizeOf, typeInfo, hi, storeCells, go_sem]
  · cases ar <;> simp [Builtin.append_, run_underlying u, sizeOf, typeInfo, hi, storeCells, hn, go_sem]
theorem run_append_key {w : World} {base n : Nat} {v : Value} {xs : List Value} (hown : w.ownsRow base 41 2 v n xs) (u : Value) (ks : List K2) (hu : keysAt w u ks) (ty : TypeId) (hn : n + ks.length ≤ 4000000) (hbase : base ≤ w.heap.size) :
    ∃ v' w', (Builtin.append_ #[25, 25] ty #[v, u]).run Try.prog w = .ok v' w' ∧ w'.ownsRow base 41 2 v' (n + ks.length) (xs ++ keyCells ks) ∧ w.grownBy w' v.ownBlock ∧ (v'.ownBlock = v.ownBlock ∨ v'.ownBlock = some w.heap.size) := by
  obtain ⟨i0, hi, hz0, hz1, hz2⟩ := info_parts infoK
  obtain ⟨a, cap, rfl, hcap, hcells⟩ := hu
  by_cases h0 : ks.length = 0
  · obtain rfl : ks = [] := List.length_eq_zero_iff.1 h0
    exact ⟨v, w, key_append_none hown a cap ty, by simpa [keyCells] using hown, World.grownBy.refl _ _, .inl rfl⟩
  · obtain ⟨g, off, rfl, hg, hcs⟩ := hcells.resolve_left h0
    obtain ⟨v', w', hr, h2, h3, h4, h5⟩ := run_append_own_at (P := Try.prog) w base 25 ty 41 i0 (.agg #[.int .i64 0, .int .i64 0]) 2 16 Try.underlying25 hi hz0 hz1 hz2 rfl (by decide) v n xs hown ⟨g, off, none⟩ ks.length cap (keyCells ks) (keyCells_len ks) (kyCells_at hcs) (kyCells_one ks) (by unfold maxLen; omega) (by omega) hbase
    exact ⟨v', w', hr, h2, h3, h5⟩
theorem wpList_append_key {ops : Array Oper} {rest : List Oper} {o : Oper} {a : Act} {w : World} {Q : Exit → Act → World → Prop} (hgd : o.guard = none) (s x : Operand)
    (ho : o.op = .call { callee := .builtin .append, args := #[s, x], argTypes := #[25, 25] })
    {base n : Nat} {v : Value} {xs : List Value} (hown : w.ownsRow base 41 2 v n xs) (u : Value) (ks : List K2) (hu : keysAt w u ks) (hs : a.eval s = v) (hx : a.eval x = u) (hn : n + ks.length ≤ 4000000) (hbase : base ≤ w.heap.size)
    (h : ∀ v' w', w'.ownsRow base 41 2 v' (n + ks.length) (xs ++ keyCells ks) → w.grownBy w' v.ownBlock → (v'.ownBlock = v.ownBlock ∨ v'.ownBlock = some w.heap.size) → wpList Try.prog ops Q rest (a.put o.dst v') w') : wpList Try.prog ops Q (o :: rest) a w := by
  refine wpList_plain hgd fun K hK => ?_
  obtain ⟨v', w', hr, h2, h3, h5⟩ := run_append_key hown u ks hu o.type hn hbase
  unfold Oper.wp execOp
  simp only [ho, resolve, invoke, builtin, Sem.run_bind, Sem.run_pure, Result.andThen_ok, List.map_toArray, List.map_cons, List.map_nil, hs, hx, hr]
  exact hK _ _ (h v' w' h2 h3 h5)
/-- a list of one key, as it is made -/
theorem own_one {w : World} {base : Nat} (p q : Int) (hb : base ≤ w.heap.size) : (w.alloc (.cells #[.int .i64 p, .int .i64 q] 41)).ownsRow base 41 2 (.slice (some ⟨w.heap.size, 0, none⟩) 1 1) 1 (keyCells [(p, q)]) :=
  ⟨by simp [keyCells], .inr ⟨w.heap.size, 1, #[.int .i64 p, .int .i64 q], rfl, hb, heap_alloc_new w _, Nat.le_refl _, by unfold maxLen; omega, rfl, by simp [keyCells]⟩⟩
end Go.Proofs.Ytbbjpjkclealfaa
namespace Go.Proofs.Ytbbjpjkclealfaa
open Go.ChangeShapes Go.WideShapes Go.ChangeAt Go.RowKit Go.BigFrame
set_option linter.unusedVariables false

/-- the cells of a word's result, of nothing yet -/
theorem cd_res {W : World} {b : Nat} {v0 : Value} {y0 : ByteArray} (h : W.heap[b]? = some (.cells #[v0, .string y0] 27)) (v : Value) (y : ByteArray) :
    (loadVar 27 ⟨b, 0, none⟩).run Try.prog ((W.setCell ⟨b, 0, none⟩ v).setCell ⟨b, 1, none⟩ (.string y)) = .ok (.agg #[v, .string y]) ((W.setCell ⟨b, 0, none⟩ v).setCell ⟨b, 1, none⟩ (.string y)) :=
  cd_load (set2 v (.string y) h) (Below.refl _ _)
theorem own_set2 {W : World} {base n b : Nat} {e : TypeId} {size : Nat} {v : Value} {xs : List Value} (h : W.ownsRow base e size v n xs) (hb : b < base) (p q : Value) : ((W.setCell ⟨b, 0, none⟩ p).setCell ⟨b, 1, none⟩ q).ownsRow base e size v n xs :=
  h.kept (grown2 W b p q) (by
    cases hv : v.ownBlock with
    | none => exact .inl rfl
    | some g => exact .inr (fun e => by cases e; have := (h.lt _ hv).1; omega))
end Go.Proofs.Ytbbjpjkclealfaa
namespace Go.Proofs.Ytbbjpjkclealfaa
open Go.ChangeShapes Go.WideShapes Go.ChangeAt Go.RowKit Go.BigFrame
set_option linter.unusedVariables false

/-- what is known of a world in which a word's copy is on its way: the word, the result's place -/
structure CpC (w W : World) (v0 : Value) (y0 : ByteArray) : Prop where
  below : Below w.heap.size w W
  row : W.heap[w.heap.size]? = some (.cells #[v0, .string y0] 27)
  res : W.heap[w.heap.size + 1]? = some (.cells #[.slice none 0 0, .string ⟨#[]⟩] 27)
theorem cpc_new (w : World) (v : Value) (y : ByteArray) : CpC w ((w.alloc (.cells #[v, .string y] 27)).alloc (.cells #[.slice none 0 0, .string ⟨#[]⟩] 27)) v y := by
  have hb1 := (Below.refl w.heap.size w).alloc (Nat.le_refl _) (.cells #[v, .string y] 27)
  have hr2 := heap_alloc_new (w.alloc (.cells #[v, .string y] 27)) (.cells #[.slice none 0 0, .string ⟨#[]⟩] 27)
  have e1 : (w.alloc (.cells #[v, .string y] 27)).heap.size = w.heap.size + 1 := by simp
  rw [e1] at hr2
  exact ⟨hb1.alloc hb1.size _, (Below.heap_alloc _ _ w.heap.size (by simp)).trans (heap_alloc_new w _), hr2⟩
theorem CpC.next {w W W' : World} {v0 : Value} {y0 : ByteArray} {own : Option Nat} (h : CpC w W v0 y0) (hg : W.grownBy W' own) (ho : ∀ g, own = some g → w.heap.size + 2 ≤ g) : CpC w W' v0 y0 := by
  have l1 := (Array.getElem?_eq_some_iff.1 h.res).1
  refine ⟨h.below.grown hg h.below.size (fun g e => by have := ho g e; omega), (hg.block _ (by omega) (fun e => by have := ho _ e.symm; omega)).trans h.row, (hg.block _ l1 (fun e => by have := ho _ e.symm; omega)).trans h.res⟩
theorem own_shape {w : World} {base n : Nat} {e : TypeId} {v : Value} {size : Nat} {xs : List Value} (h : w.ownsRow base e size v n xs) : ∃ a n c, v = .slice a n c := by
  rcases h.2 with ⟨h, _⟩ | ⟨g, cap, cur, h, _⟩
  · exact ⟨_, _, _, h⟩
  · exact ⟨_, _, _, h⟩
end Go.Proofs.Ytbbjpjkclealfaa
namespace Go.Proofs.Ytbbjpjkclealfaa
open Go
section
variable {P : Program} {ops : Array Oper} {Q : Exit → Act → World → Prop} {md : Region.Mode} {S : World → Prop}

/-- whatever order is picked from here on; behind each operation a sharper condition holds -/
def wpG (P : Program) (md : Region.Mode) (ops : Array Oper) (Q : Exit → Act → World → Prop) : Nat → (World → Prop) → Array Bool → Act → World → Prop
  | 0, _, listed, a, w => Region.ready md ops listed = [] ∧ Q .normal a w
  | fuel + 1, S, listed, a, w =>
    (Region.ready md ops listed = [] → Q .normal a w) ∧
    ∀ i ∈ Region.ready md ops listed, wpOp P ops Q i (fun a' w' => ∃ S' : World → Prop, (∀ x, S' x → S x) ∧ S' w' ∧ wpG P md ops Q fuel S' (listed.setIfInBounds i true) a' w') a w

theorem wpAny_of_G : ∀ (fuel : Nat) (S : World → Prop) (listed : Array Bool) (a : Act) (w : World), wpG P md ops Q fuel S listed a w → wpAny P md ops Q fuel listed a w
  | 0, _, _, _, _, h => h
  | fuel + 1, S, _, _, _, h => ⟨h.1, fun i hi => wpOp_mono (fun a' w' ⟨S', _, _, h'⟩ => wpAny_of_G fuel S' _ a' w' h') (h.2 i hi)⟩

theorem YieldsIf.sharper {S' : World → Prop} {o : Oper} {v : Value} {a : Act} (h : ∀ x, S' x → S x) (hy : YieldsIf P ops S o v a) : YieldsIf P ops S' o v a :=
  hy.imp (fun ⟨hw, hv⟩ => ⟨hw, fun w hs => hv w (h w hs)⟩) id

theorem wpG_first {i : Nat} {oi : Oper} {v : Value} (hi : ops[i]? = some oi) (hsel : ∀ (j : Nat) (o : Oper) cs b, ops[j]? = some o → o.op ≠ .select cs b)
    (hQ : ∀ c a w, Q (.panic c) (a.put oi.dst v) w → Q (.panic c) a w) :
    ∀ (fuel : Nat) (S : World → Prop) (listed : Array Bool) (a : Act) (w : World),
      (∀ j oj, ops[j]? = some oj → j ≠ i → listed.getD j true = false → (∀ e ∈ oj.after, Region.binds md e = true → e.on ≠ i) → oi.apart ops oj = true) →
      i ∈ Region.ready md ops listed → YieldsIf P ops S oi v a → S w →
      wpG P md ops Q fuel S (listed.setIfInBounds i true) (a.put oi.dst v) w → wpG P md ops Q (fuel + 1) S listed a w := by
  intro fuel
  induction fuel with
  | zero =>
    intro S listed a w _ hr hy hS H
    refine ⟨fun h => (by rw [h] at hr; cases hr), fun j hj => ?_⟩
    by_cases hji : j = i
    · subst hji; exact hy.wpOp hi hS ⟨S, fun _ h => h, hS, H⟩
    · have := ready_mono hj hji
      rw [H.1] at this
      cases this
  | succ fuel ih =>
    intro S listed a w hfree hr hy hS H
    refine ⟨fun h => (by rw [h] at hr; cases hr), fun j hj => ?_⟩
    by_cases hji : j = i
    · subst hji; exact hy.wpOp hi hS ⟨S, fun _ h => h, hS, H⟩
    · have h1 := H.2 j (ready_mono hj hji)
      obtain ⟨hjun, oj, hoj, hall⟩ := mem_ready.1 hj
      have hnot : ∀ e ∈ oj.after, Region.binds md e = true → e.on ≠ i := fun e he hb heq => by
        have h1 := hall e he hb
        have h0 := (mem_ready.1 hr).1
        rw [heq] at h1
        rcases Nat.lt_or_ge i listed.size with h' | h'
        · simp [h'] at h0 h1; rw [h0] at h1; cases h1
        · simp [Array.getElem?_eq_none h'] at h1
      have h2 := wpOp_putIf hoj (hfree j oj hoj hji hjun hnot) (fun cs b => hsel i oi cs b hi) (fun cs b => hsel j oj cs b hoj) hQ hy h1
      have hfree' : ∀ k ok, ops[k]? = some ok → k ≠ i → (listed.setIfInBounds j true).getD k true = false →
          (∀ e ∈ ok.after, Region.binds md e = true → e.on ≠ i) → oi.apart ops ok = true := fun k ok hk hki hun hno => by
        refine hfree k ok hk hki ?_ hno
        by_cases hjk : j = k
        · subst hjk; exact hjun
        · rw [getD_set_ne true hjk] at hun; exact hun
      refine wpOp_mono (fun a' w' h3 => ?_) h2
      obtain ⟨hy3, S', hs, hs2, h4⟩ := h3
      refine ⟨S', hs, hs2, ih S' (listed.setIfInBounds j true) a' w' hfree' (ready_mono hr (Ne.symm hji)) (YieldsIf.sharper hs hy3) hs2 ?_⟩
      rw [Array.setIfInBounds_comm _ _ hji]
      exact h4

/-- an operation that hands back a value and nothing else -/
def valueOp : Op → Bool
  | .move _ | .assign _ | .pick _ _ _ | .load _ _ | .binOp _ _ _ _ _ | .unOp _ _ _ | .convert _ _ _ | .slice _ _ _ _ _ | .fieldAddr _ _ _ | .field _ _ _ | .indexAddr _ _ _ | .index _ _ _ | .extract _ _ => true
  | _ => false
theorem value_of_run {α : Type} (s : Sem α) (f : α → Value) (w w' : World) (n : Next) (h : ((do pure (Next.value (f (← s)))) : Sem Next).run P w = .ok n w') : ∃ u, n = .value u := by
  rw [Sem.run_bind] at h
  cases hs : s.run P w with
  | ok v w1 =>
    rw [hs] at h
    simp only [Result.andThen, Sem.run_pure, Result.ok.injEq] at h
    exact ⟨_, h.1.symm⟩
  | halt x w1 => rw [hs] at h; simp [Result.andThen] at h
theorem valueOp_spec {o : Oper} (h : valueOp o.op = true) (ρ : Operand → Value) (w w' : World) (n : Next) (hr : (execOp ρ o).run P w = .ok n w') : ∃ u, n = .value u := by
  unfold execOp at hr
  cases ho : o.op <;> rw [ho] at h hr <;> simp only [valueOp] at h <;> try (exact absurd h Bool.false_ne_true)
  all_goals dsimp only at hr
  all_goals first
    | (simp only [Sem.run_pure, Result.ok.injEq] at hr; exact ⟨_, hr.1.symm⟩)
    | exact value_of_run _ (fun v => v) w w' n hr
    | exact value_of_run _ _ w w' n hr
theorem yields_of_quiet {o : Oper} {a : Act} {v : Value} (hv : valueOp o.op = true) (hw : Region.wanted o (yielded ops a.tmps) = true) (h : ∀ w, S w → o.quietAt P a S w v) : YieldsIf P ops S o v a := by
  refine .inl ⟨hw, fun w hs => ?_⟩
  have h1 := h w hs
  unfold Oper.quietAt at h1
  cases hr : (execOp a.eval o).run P w with
  | ok n w' =>
    obtain ⟨u, rfl⟩ := valueOp_spec hv a.eval w w' n hr
    rw [hr] at h1
    simp only [Oper.quietUpon] at h1
    obtain ⟨rfl, rfl⟩ := h1
    rfl
  | halt x w' => rw [hr] at h1; exact absurd h1 (by simp [Oper.quietUpon])

/-- the takes of a segment, in the order of the text -/
def takesB (md : Region.Mode) (l : List Oper) : List Bool → Nat → Array Bool → Bool
  | true :: m, i, listed => (match l[i]? with | some o => valueOp o.op | none => false) && Region.free md l.toArray listed i && (Region.ready md l.toArray listed).contains i && takesB md l m (i + 1) (listed.setIfInBounds i true)
  | false :: m, i, listed => takesB md l m (i + 1) listed
  | [], _, _ => true
def takenL : List Bool → Nat → Array Bool → Array Bool
  | true :: m, i, listed => takenL m (i + 1) (listed.setIfInBounds i true)
  | false :: m, i, listed => takenL m (i + 1) listed
  | [], _, listed => listed
def countT : List Bool → Nat
  | true :: m => countT m + 1
  | false :: m => countT m
  | [] => 0
theorem takes_G {l : List Oper} (hs : Region.noSelect l.toArray = true) (hQ : ∀ c a d v w, Q (.panic c) (Act.put a d v) w → Q (.panic c) a w) {S : World → Prop} {w : World} (hS : S w) {R : Act → Prop} :
    ∀ (m : List Bool) (i fuel : Nat) (listed : Array Bool) (a : Act), takesB md l m i listed = true → m.length + i ≤ l.length →
      (∀ a', R a' → wpG P md l.toArray Q fuel S (takenL m i listed) a' w) → wpQuiet P l.toArray S R (maskRows m (l.drop i)) a → wpG P md l.toArray Q (fuel + countT m) S listed a w
  | [], i, fuel, listed, a, _, _, hk, h => hk a (by simpa [maskRows, wpQuiet] using h)
  | false :: m, i, fuel, listed, a, hb, hl, hk, h => by
    have hlt : i < l.length := by simp only [List.length_cons] at hl; omega
    rw [List.drop_eq_getElem_cons hlt] at h
    exact takes_G hs hQ hS m (i + 1) fuel listed a hb (by simp only [List.length_cons] at hl; omega) hk h
  | true :: m, i, fuel, listed, a, hb, hl, hk, h => by
    have hlt : i < l.length := by simp only [List.length_cons] at hl; omega
    rw [List.drop_eq_getElem_cons hlt] at h
    simp only [takesB, Bool.and_eq_true] at hb
    obtain ⟨⟨⟨hv, hf⟩, hr⟩, hb⟩ := hb
    have ho : l.toArray[i]? = some l[i] := by simp [hlt]
    rw [show l[i]? = some l[i] from by simp [hlt]] at hv
    dsimp only at hv
    simp only [maskRows, wpQuiet] at h
    have hin : i ∈ Region.ready md l.toArray listed := by simpa using hr
    show wpG P md l.toArray Q (fuel + countT m + 1) S listed a w
    by_cases hw : Region.wanted l[i] (yielded l.toArray a.tmps) = true
    · rw [if_pos hw] at h
      obtain ⟨v, h1, h2⟩ := h
      exact wpG_first ho (Region.noSelect_spec hs) (fun c a w => hQ c a _ _ w) _ S listed a w (Region.free_spec ho hf) hin (yields_of_quiet hv hw h1) hS
        (takes_G hs hQ hS m (i + 1) fuel _ _ hb (by simp only [List.length_cons] at hl; omega) hk h2)
    · rw [if_neg hw] at h
      exact wpG_first ho (Region.noSelect_spec hs) (fun c a w => hQ c a _ _ w) _ S listed a w (Region.free_spec ho hf) hin (.inr ⟨by simpa using hw, rfl⟩) hS
        (takes_G hs hQ hS m (i + 1) fuel _ _ hb (by simp only [List.length_cons] at hl; omega) hk h)
theorem wpG_done {listed : Array Bool} {a : Act} {w : World} (hr : Region.ready md ops listed = []) (h : Q .normal a w) : ∀ fuel, wpG P md ops Q fuel S listed a w
  | 0 => ⟨hr, h⟩
  | _ + 1 => ⟨fun _ => h, by rw [hr]; simp⟩
end
end Go.Proofs.Ytbbjpjkclealfaa
namespace Go.Proofs.Ytbbjpjkclealfaa
open Go
section
variable {P : Program} {Q : Exit → Act → World → Prop} {md : Region.Mode} {S : World → Prop}
def segtB (md : Region.Mode) (l : List Oper) (m : List Bool) (rd : List Nat) (fuel fuel' : Nat) (listed : Array Bool) : Bool :=
  decide (fuel = fuel' + 1 + countT m) && decide (m.length ≤ l.length) && takesB md l m 0 listed && decide (Region.ready md l.toArray (takenL m 0 listed) = rd) && !rd.isEmpty
/-- what reads is taken; then one after another of what is ready is tried -/
theorem wpG_seg {l : List Oper} (m : List Bool) (rd : List Nat) (fuel' : Nat) {fuel : Nat} {listed : Array Bool} {a : Act} {w : World} (hs : Region.noSelect l.toArray = true)
    (hQ : ∀ c a d v w, Q (.panic c) (Act.put a d v) w → Q (.panic c) a w) (hb : segtB md l m rd fuel fuel' listed = true) (hS : S w)
    (h : wpQuiet P l.toArray S (fun a' => ∀ i ∈ rd, wpOp P l.toArray Q i (fun a'' w'' => ∃ S' : World → Prop, (∀ x, S' x → S x) ∧ S' w'' ∧ wpG P md l.toArray Q fuel' S' ((takenL m 0 listed).setIfInBounds i true) a'' w'') a' w) (maskRows m l) a) :
    wpG P md l.toArray Q fuel S listed a w := by
  simp only [segtB, Bool.and_eq_true, decide_eq_true_eq, Bool.not_eq_true'] at hb
  obtain ⟨⟨⟨⟨h1, h2⟩, h3⟩, h4⟩, h5⟩ := hb
  subst h1
  refine takes_G (P := P) (md := md) hs hQ hS (R := fun a' => ∀ i ∈ rd, wpOp P l.toArray Q i (fun a'' w'' => ∃ S' : World → Prop, (∀ x, S' x → S x) ∧ S' w'' ∧ wpG P md l.toArray Q fuel' S' ((takenL m 0 listed).setIfInBounds i true) a'' w'') a' w) m 0 (fuel' + 1) listed a h3 (by omega) (fun a' hq => ?_) (by simpa using h)
  refine ⟨fun h0 => (by rw [h4] at h0; rw [h0] at h5; cases h5), fun j hj => ?_⟩
  rw [h4] at hj
  exact hq j hj
def segeB (md : Region.Mode) (l : List Oper) (m : List Bool) (fuel : Nat) (listed : Array Bool) : Bool :=
  decide (countT m ≤ fuel) && decide (m.length ≤ l.length) && takesB md l m 0 listed && decide (Region.ready md l.toArray (takenL m 0 listed) = [])
theorem wpG_end {l : List Oper} (m : List Bool) {fuel : Nat} {listed : Array Bool} {a : Act} {w : World} (hs : Region.noSelect l.toArray = true)
    (hQ : ∀ c a d v w, Q (.panic c) (Act.put a d v) w → Q (.panic c) a w) (hb : segeB md l m fuel listed = true) (hS : S w)
    (h : wpQuiet P l.toArray S (fun a' => Q .normal a' w) (maskRows m l) a) : wpG P md l.toArray Q fuel S listed a w := by
  simp only [segeB, Bool.and_eq_true, decide_eq_true_eq] at hb
  obtain ⟨⟨⟨h1, h2⟩, h3⟩, h4⟩ := hb
  have := takes_G (P := P) (md := md) hs hQ hS (R := fun a' => Q .normal a' w) m 0 (fuel - countT m) listed a h3 (by omega) (fun a' hq => wpG_done h4 hq _) (by simpa using h)
  rwa [Nat.sub_add_cancel h1] at this
theorem wp_region_G {id : Nat} {a : Act} {w : World} {l : List Oper} (S : World → Prop) (hm : P.follows .mixedOrders = true) (h : wpG P .any l.toArray Q l.length S (Array.replicate l.length false) a w.drew) :
    (Code.region id l.toArray true).wp P Q a w := wp_region_any hm (wpAny_of_G _ _ _ _ _ (by simpa using h))
/-- one that is carried out -/
theorem segt_run {l : List Oper} {fuel : Nat} {listed : Array Bool} {i : Nat} {o : Oper} {a : Act} {w : World} (ho : l.toArray[i]? = some o) (hw : Region.wanted o (yielded l.toArray a.tmps) = true)
    (h : ∀ K : Act → World → Prop, (∀ a' w', (∃ S' : World → Prop, (∀ x, S' x → S x) ∧ S' w' ∧ wpG P md l.toArray Q fuel S' listed a' w') → K a' w') → o.wp P a w K Q) :
    wpOp P l.toArray Q i (fun a'' w'' => ∃ S' : World → Prop, (∀ x, S' x → S x) ∧ S' w'' ∧ wpG P md l.toArray Q fuel S' listed a'' w'') a w := by
  unfold wpOp
  simp only [ho, hw, if_true]
  exact .inl (h _ fun _ _ h => h)
end
end Go.Proofs.Ytbbjpjkclealfaa
namespace Go.Proofs.Ytbbjpjkclealfaa
open Go.ChangeShapes Go.WideShapes Go.ChangeAt Go.RowKit Go.BigFrame
set_option linter.unusedVariables false

/-- what is known of a world in which two words are put together -/
structure CbC (w W : World) (va : Value) (ya : ByteArray) (vb : Value) (yb : ByteArray) : Prop where
  below : Below w.heap.size w W
  size : w.heap.size + 3 ≤ W.heap.size
  rowa : W.heap[w.heap.size]? = some (.cells #[va, .string ya] 27)
  rowb : W.heap[w.heap.size + 1]? = some (.cells #[vb, .string yb] 27)
  res : W.heap[w.heap.size + 2]? = some (.cells #[.slice none 0 0, .string ⟨#[]⟩] 27)
theorem cbc_new (w : World) (va : Value) (ya : ByteArray) (vb : Value) (yb : ByteArray) : CbC w (((w.alloc (.cells #[va, .string ya] 27)).alloc (.cells #[vb, .string yb] 27)).alloc (.cells #[.slice none 0 0, .string ⟨#[]⟩] 27)) va ya vb yb := by
  have hb1 := (Below.refl w.heap.size w).alloc (Nat.le_refl _) (.cells #[va, .string ya] 27)
  have hb2 := hb1.alloc hb1.size (.cells #[vb, .string yb] 27)
  have e1 : (w.alloc (.cells #[va, .string ya] 27)).heap.size = w.heap.size + 1 := by simp
  have e2 : ((w.alloc (.cells #[va, .string ya] 27)).alloc (.cells #[vb, .string yb] 27)).heap.size = w.heap.size + 2 := by simp
  have r2 := heap_alloc_new (w.alloc (.cells #[va, .string ya] 27)) (.cells #[vb, .string yb] 27)
  rw [e1] at r2
  have r3 := heap_alloc_new ((w.alloc (.cells #[va, .string ya] 27)).alloc (.cells #[vb, .string yb] 27)) (.cells #[.slice none 0 0, .string ⟨#[]⟩] 27)
  rw [e2] at r3
  exact ⟨hb2.alloc hb2.size _, by simp, (Below.heap_alloc _ _ w.heap.size (by simp; omega)).trans ((Below.heap_alloc _ _ w.heap.size (by simp)).trans (heap_alloc_new w _)), (Below.heap_alloc _ _ (w.heap.size + 1) (by simp)).trans r2, r3⟩
theorem CbC.next {w W W' : World} {va : Value} {ya : ByteArray} {vb : Value} {yb : ByteArray} (h : CbC w W va ya vb yb) (hb : Below W.heap.size W W') : CbC w W' va ya vb yb := by
  have hs := h.size
  exact ⟨h.below.trans (hb.mono h.below.size), Nat.le_trans hs hb.size, (hb.block _ (by omega)).trans h.rowa, (hb.block _ (by omega)).trans h.rowb, (hb.block _ (by omega)).trans h.res⟩
theorem row_set2 {W : World} {b b' : Nat} {o : Obj} (h : W.heap[b']? = some o) (hne : b' ≠ b) (p q : Value) : ((W.setCell ⟨b, 0, none⟩ p).setCell ⟨b, 1, none⟩ q).heap[b']? = some o := by
  rw [Below.heap_setCell _ _ _ _ hne, Below.heap_setCell _ _ _ _ hne]; exact h
end Go.Proofs.Ytbbjpjkclealfaa
namespace Go.Proofs.Ytbbjpjkclealfaa
open Go.ChangeShapes Go.WideShapes Go.ChangeAt Go.RowKit Go.BigFrame
set_option linter.unusedVariables false

set_option maxRecDepth 100000 in
set_option maxHeartbeats 4000000 in
theorem smerge_any (va vb : Value) (A B : List K2) (both : Bool) (w : World) (ha : keysAt w va A) (hb : keysAt w vb B) (hsA : A.length ≤ 2000000) (hsB : B.length ≤ 2000000) :
    Calls Try.prog 101 #[va, vb, .bool both] w fun e w' => ∃ v, e = .returned v ∧ w'.ownsRow w.heap.size 41 2 v (mergeV both A B).length (keyCells (mergeV both A B)) ∧ Below w.heap.size w w' := by
  obtain ⟨i0, hi, hz0, hz1, hz2⟩ := info_parts infoK
  have hown0 := World.ownsRow_made (base := w.heap.size) (e := 41) (size := 2) w #[] 0 (Nat.le_refl _) (by unfold maxLen; omega) rfl
  have hb0 := (Below.refl w.heap.size w).alloc (Nat.le_refl _) (.cells #[] 41)
  have KA := Lib.hid (fun w' (h : Below w.heap.size w w') => skeysok_any va A w' (keysAt_below ha h) hsA)
  have KB := Lib.hid (fun w' (h : Below w.heap.size w w') => skeysok_any vb B w' (keysAt_below hb h) hsB)
  generalize hmv : mergeV both A B = M
  go_enter Try.func101, Try.ntmps101
  go_wp2_with fail
  generalize w.alloc (.cells #[] 41) = W at *
  refine (KA.out _ hb0).mono ?_
  rintro e w1 ⟨rfl, hbx⟩
  have hown1 := own_below hown0 hbx
  have hb1 := hb0.trans (hbx.mono hb0.size)
  clear hbx hown0 hb0 KA
  cases hA : keysOkR A with
  | false =>
    obtain rfl : M = [] := by rw [← hmv]; unfold mergeV; rw [hA]; rfl
    go_wp2
    go_ret
    exact ⟨_, rfl, hown1, hb1⟩
  | true =>
    go_wp2_with fail
    refine (KB.out _ hb1).mono ?_
    rintro e w2 ⟨rfl, hbx⟩
    have hown2 := own_below hown1 hbx
    have hb2 := hb1.trans (hbx.mono hb1.size)
    clear hbx hown1 hb1 KB
    cases hB : keysOkR B with
    | false =>
      obtain rfl : M = [] := by rw [← hmv]; unfold mergeV; rw [hA, hB]; rfl
      go_wp2
      go_ret
      exact ⟨_, rfl, hown2, hb2⟩
    | true =>
      have hML : mergeL both A B = M := by rw [← hmv]; unfold mergeV; rw [hA, hB]; rfl
      have hlen := mergeL_len both A B
      rw [hML] at hlen
      obtain ⟨aa, ca, rfl, hca, hcA⟩ := ha
      obtain ⟨ab, cb, rfl, hcb, hcB⟩ := hb
      clear hA hB hmv
      go_wp2
      go_loopw [7, 8, 9] (fun v i j wr => ∃ (x y : Nat) (out : List K2), x ≤ A.length ∧ y ≤ B.length ∧ i = .int .i64 x ∧ j = .int .i64 y ∧ out ++ mergeL both (A.drop x) (B.drop y) = M ∧
          wr.ownsRow w.heap.size 41 2 v out.length (keyCells out) ∧ Below w.heap.size w wr) (fun _ i j _ => (A.length - (intOf i).toNat) + (B.length - (intOf j).toNat))
      case atStart => exact ⟨0, 0, [], by omega, by omega, rfl, rfl, by simpa using hML, hown2, hb2⟩
      case round =>
        obtain ⟨x, y, out, hx, hy, rfl, rfl, hout, hown, hbr⟩ := hrel
        clear hown2 hb2
        have hol : out.length ≤ M.length := by rw [← hout]; simp
        by_cases hxA : x < A.length
        · by_cases hyB : y < B.length
          ·
            obtain ⟨ga, offa, rfl, hga, hcsA⟩ := hcA.resolve_left (by omega)
            have cA := hcsA x hxA
            have LA : ∀ w', Below wr.heap.size wr w' → (loadVar 41 ⟨ga, offa + x * 2, none⟩).run Try.prog w' = .ok (kv (A.getD x (0, 0))) w' := fun w' h => key_load cA hga (hbr.trans (h.mono hbr.size))
            clear hcsA hcA
            obtain ⟨gb, offb, rfl, hgb, hcsB⟩ := hcB.resolve_left (by omega)
            have cB := hcsB y hyB
            have LB : ∀ w', Below wr.heap.size wr w' → (loadVar 41 ⟨gb, offb + y * 2, none⟩).run Try.prog w' = .ok (kv (B.getD y (0, 0))) w' := fun w' h => key_load cB hgb (hbr.trans (h.mono hbr.size))
            clear hcsB hcB
            have hdA := drop_at A x hxA
            have hdB := drop_at B y hyB
            have hco := mergeL_cons both (A.getD x (0, 0)) (A.drop (x + 1)) (B.getD y (0, 0)) (B.drop (y + 1))
            rw [← hdA, ← hdB] at hco
            have HAB := Lib.hid (fun w => sahead_any (A.getD x (0, 0)) (B.getD y (0, 0)) w)
            have HBA := Lib.hid (fun w => sahead_any (B.getD y (0, 0)) (A.getD x (0, 0)) w)
            cases hab : aheadB (A.getD x (0, 0)) (B.getD y (0, 0)) with
            | true =>
              rw [hab] at HAB
              rw [if_pos hab] at hco
              have hnx : (out ++ [A.getD x (0, 0)]) ++ mergeL both (A.drop (x + 1)) (B.drop y) = M := by
                rw [← hout, hco]; simp
              clear HBA hco hdA hdB hout hab
              generalize B.getD y (0, 0) = ky at *
              generalize A.getD x (0, 0) = kx at *
              obtain ⟨p, q⟩ := kx
              have HNX := Lib.hid hnx; have CA := Lib.hid cA
              clear hnx cA cB
              have z0 : (0 : Int) ≤ (x : Int) := by omega
              have z1 : (x : Int) < (A.length : Int) := by omega
              have y0 : (0 : Int) ≤ (y : Int) := by omega
              have y1 : (y : Int) < (B.length : Int) := by omega
              have n1 : ¬ (y : Int) = (B.length : Int) := by omega
              have n2 : ¬ y = B.length := by omega
              have n3 : ((y : Int) == (B.length : Int)) = false := beq_eq_false_iff_ne.2 n1
              have m1 : ¬ (x : Int) = (A.length : Int) := by omega
              have m2 : ¬ x = A.length := by omega
              have m3 : ((x : Int) == (A.length : Int)) = false := beq_eq_false_iff_ne.2 m1
              go_wp2
              refine wp_region_below wr (by kernel_rfl) (by kernel_rfl) (Below.refl _ _) ?_
              repeat (first
                | go_big_quiet_skip
                | (go_big_quiet_want
                   first
                     | (go_big_quiet_op; go_big_quiet_on)
                     | (refine q_load 41 _ _ _ rfl rfl LA ?_; simp only [Act.put, List.setIfInBounds_toArray, List.set_cons_zero, List.set_cons_succ]; go_big_quiet_on)
                     | (refine q_load 41 _ _ _ rfl rfl LB ?_; simp only [Act.put, List.setIfInBounds_toArray, List.set_cons_zero, List.set_cons_succ]; go_big_quiet_on)
                     | (go_big_quiet_op; refine ⟨_, fun _ _ => rfl, ?_⟩; go_big_quiet_on)
                     | (go_big_quiet_op; apply Exists.intro; refine ⟨fun w' hw' => ?_, ?_⟩
                        · first
                          | (refine (HAB.out w').mono ?_
                             rintro e w2 ⟨rfl, hb2⟩
                             exact ⟨rfl, hw'.trans (hb2.mono hw'.size)⟩)
                        go_big_quiet_on)))
              refine wpQuiet_nil ?_
              intro w2 hb2
              clear LA LB HAB
              have hown2 := own_below hown hb2
              have hbq := hbr.trans (hb2.mono hbr.size)
              have d1 : w2.cell? ⟨ga, offa + x * 2, none⟩ = some (.int .i64 p) := by rw [hbq.cell (p := ⟨ga, offa + x * 2, none⟩) hga]; exact CA.out.1
              have d2 : w2.cell? ⟨ga, offa + x * 2 + 1, none⟩ = some (.int .i64 q) := by rw [hbq.cell (p := ⟨ga, offa + x * 2 + 1, none⟩) hga]; exact CA.out.2
              have hns := hbq.size
              clear hown hbr hb2
              go_wp2_with (at_builtin; refine wpList_append_own _ rfl (.tmp 64) (.tmp 69) 25 rfl w.heap.size 41 i0 (.agg #[.int .i64 0, .int .i64 0]) 2 16 Try.underlying25 hi hz0 hz1 hz2 rfl (by decide) _ _ _ rfl (hown2.alloc _) ⟨w2.heap.size, 0, none⟩ 1 1 [.int .i64 p, .int .i64 q] rfl rfl (cell_two_new _ _ _ _) (by intro u hu; simp at hu; rcases hu with rfl | rfl <;> rfl) (by unfold maxLen; omega) (by omega) (by simp; omega) ?_; intro v' w5 hown' hgrow _)
              have R : w5.ownsRow w.heap.size 41 2 v' (out ++ [(p, q)]).length (keyCells (out ++ [(p, q)])) ∧ Below w.heap.size w w5 := by
                refine ⟨by rw [keyCells_snoc]; simpa using hown', (hbq.alloc hbq.size _).grown hgrow (by simp; omega) (fun g hg => (hown2.lt g hg).1)⟩
              have HR := Lib.hid R
              clear R hown' hgrow hown2 hbq
              go_wp2
              exact ⟨⟨x + 1, y, out ++ [(p, q)], by omega, by omega, by go_num, by go_num, HNX.out, HR.out.1, HR.out.2⟩, by simp [intOf]; omega⟩
            | false =>
              cases hba : aheadB (B.getD y (0, 0)) (A.getD x (0, 0)) with
              | true =>
                rw [hab] at HAB
                rw [hba] at HBA
                rw [if_neg (by rw [hab]; exact Bool.false_ne_true), if_pos hba] at hco
                have hnx : (out ++ [B.getD y (0, 0)]) ++ mergeL both (A.drop x) (B.drop (y + 1)) = M := by
                  rw [← hout, hco]; simp
                clear hco hdA hdB hout hab hba
                generalize A.getD x (0, 0) = kx at *
                generalize B.getD y (0, 0) = ky at *
                obtain ⟨p, q⟩ := ky
                have HNX := Lib.hid hnx; have CB := Lib.hid cB
                clear hnx cA cB
                have z0 : (0 : Int) ≤ (x : Int) := by omega
                have z1 : (x : Int) < (A.length : Int) := by omega
                have y0 : (0 : Int) ≤ (y : Int) := by omega
                have y1 : (y : Int) < (B.length : Int) := by omega
                have n1 : ¬ (y : Int) = (B.length : Int) := by omega
                have n2 : ¬ y = B.length := by omega
                have n3 : ((y : Int) == (B.length : Int)) = false := beq_eq_false_iff_ne.2 n1
                have m1 : ¬ (x : Int) = (A.length : Int) := by omega
                have m2 : ¬ x = A.length := by omega
                have m3 : ((x : Int) == (A.length : Int)) = false := beq_eq_false_iff_ne.2 m1
                go_wp2
                refine wp_region_below wr (by kernel_rfl) (by kernel_rfl) (Below.refl _ _) ?_
                repeat (first
                  | go_big_quiet_skip
                  | (go_big_quiet_want
                     first
                       | (go_big_quiet_op; go_big_quiet_on)
                       | (refine q_load 41 _ _ _ rfl rfl LA ?_; simp only [Act.put, List.setIfInBounds_toArray, List.set_cons_zero, List.set_cons_succ]; go_big_quiet_on)
                       | (refine q_load 41 _ _ _ rfl rfl LB ?_; simp only [Act.put, List.setIfInBounds_toArray, List.set_cons_zero, List.set_cons_succ]; go_big_quiet_on)
                       | (go_big_quiet_op; refine ⟨_, fun _ _ => rfl, ?_⟩; go_big_quiet_on)
                       | (go_big_quiet_op; apply Exists.intro; refine ⟨fun w' hw' => ?_, ?_⟩
                          · first
                            | (refine (HAB.out w').mono ?_
                               rintro e w2 ⟨rfl, hb2⟩
                               exact ⟨rfl, hw'.trans (hb2.mono hw'.size)⟩)
                          go_big_quiet_on)))
                refine wpQuiet_nil ?_
                intro w1' hb1'
                go_wp2
                refine wp_region_below wr (by kernel_rfl) (by kernel_rfl) hb1' ?_
                repeat (first
                  | go_big_quiet_skip
                  | (go_big_quiet_want
                     first
                       | (go_big_quiet_op; go_big_quiet_on)
                       | (refine q_load 41 _ _ _ rfl rfl LA ?_; simp only [Act.put, List.setIfInBounds_toArray, List.set_cons_zero, List.set_cons_succ]; go_big_quiet_on)
                       | (refine q_load 41 _ _ _ rfl rfl LB ?_; simp only [Act.put, List.setIfInBounds_toArray, List.set_cons_zero, List.set_cons_succ]; go_big_quiet_on)
                       | (go_big_quiet_op; refine ⟨_, fun _ _ => rfl, ?_⟩; go_big_quiet_on)
                       | (go_big_quiet_op; apply Exists.intro; refine ⟨fun w' hw' => ?_, ?_⟩
                          · first
                            | (refine (HBA.out w').mono ?_
                               rintro e w2 ⟨rfl, hb2⟩
                               exact ⟨rfl, hw'.trans (hb2.mono hw'.size)⟩)
                          go_big_quiet_on)))
                refine wpQuiet_nil ?_
                intro w2 hb2
                clear LA LB HAB HBA hb1'
                have hown2 := own_below hown hb2
                have hbq := hbr.trans (hb2.mono hbr.size)
                have d1 : w2.cell? ⟨gb, offb + y * 2, none⟩ = some (.int .i64 p) := by rw [hbq.cell (p := ⟨gb, offb + y * 2, none⟩) hgb]; exact CB.out.1
                have d2 : w2.cell? ⟨gb, offb + y * 2 + 1, none⟩ = some (.int .i64 q) := by rw [hbq.cell (p := ⟨gb, offb + y * 2 + 1, none⟩) hgb]; exact CB.out.2
                have hns := hbq.size
                clear hown hbr hb2
                go_wp2_with (at_builtin; refine wpList_append_own _ rfl (.tmp 89) (.tmp 94) 25 rfl w.heap.size 41 i0 (.agg #[.int .i64 0, .int .i64 0]) 2 16 Try.underlying25 hi hz0 hz1 hz2 rfl (by decide) _ _ _ rfl (hown2.alloc _) ⟨w2.heap.size, 0, none⟩ 1 1 [.int .i64 p, .int .i64 q] rfl rfl (cell_two_new _ _ _ _) (by intro u hu; simp at hu; rcases hu with rfl | rfl <;> rfl) (by unfold maxLen; omega) (by omega) (by simp; omega) ?_; intro v' w5 hown' hgrow _)
                have R : w5.ownsRow w.heap.size 41 2 v' (out ++ [(p, q)]).length (keyCells (out ++ [(p, q)])) ∧ Below w.heap.size w w5 := by
                  refine ⟨by rw [keyCells_snoc]; simpa using hown', (hbq.alloc hbq.size _).grown hgrow (by simp; omega) (fun g hg => (hown2.lt g hg).1)⟩
                have HR := Lib.hid R
                clear R hown' hgrow hown2 hbq
                go_wp2
                exact ⟨⟨x, y + 1, out ++ [(p, q)], by omega, by omega, by go_num, by go_num, HNX.out, HR.out.1, HR.out.2⟩, by simp [intOf]; omega⟩
              | false =>
                rw [hab] at HAB
                rw [hba] at HBA
                rw [if_neg (by rw [hab]; exact Bool.false_ne_true), if_neg (by rw [hba]; exact Bool.false_ne_true)] at hco
                have hnx : (out ++ (if both then [A.getD x (0, 0)] else [])) ++ mergeL both (A.drop (x + 1)) (B.drop (y + 1)) = M := by
                  rw [← hout, hco]; simp
                clear hco hdA hdB hout hab hba
                generalize A.getD x (0, 0) = kx at *
                generalize B.getD y (0, 0) = ky at *
                obtain ⟨p, q⟩ := kx
                have z0 : (0 : Int) ≤ (x : Int) := by omega
                have z1 : (x : Int) < (A.length : Int) := by omega
                have y0 : (0 : Int) ≤ (y : Int) := by omega
                have y1 : (y : Int) < (B.length : Int) := by omega
                have n1 : ¬ (y : Int) = (B.length : Int) := by omega
                have n2 : ¬ y = B.length := by omega
                have n3 : ((y : Int) == (B.length : Int)) = false := beq_eq_false_iff_ne.2 n1
                have m1 : ¬ (x : Int) = (A.length : Int) := by omega
                have m2 : ¬ x = A.length := by omega
                have m3 : ((x : Int) == (A.length : Int)) = false := beq_eq_false_iff_ne.2 m1
                cases both with
                | true =>
                  have hnx2 : (out ++ [(p, q)]) ++ mergeL true (A.drop (x + 1)) (B.drop (y + 1)) = M := hnx
                  have HNX := Lib.hid hnx2; have CA := Lib.hid cA
                  clear hnx hnx2 cA cB
                  go_wp2
                  refine wp_region_below wr (by kernel_rfl) (by kernel_rfl) (Below.refl _ _) ?_
                  repeat (first
                    | go_big_quiet_skip
                    | (go_big_quiet_want
                       first
                         | (go_big_quiet_op; go_big_quiet_on)
                         | (refine q_load 41 _ _ _ rfl rfl LA ?_; simp only [Act.put, List.setIfInBounds_toArray, List.set_cons_zero, List.set_cons_succ]; go_big_quiet_on)
                         | (refine q_load 41 _ _ _ rfl rfl LB ?_; simp only [Act.put, List.setIfInBounds_toArray, List.set_cons_zero, List.set_cons_succ]; go_big_quiet_on)
                         | (go_big_quiet_op; refine ⟨_, fun _ _ => rfl, ?_⟩; go_big_quiet_on)
                         | (go_big_quiet_op; apply Exists.intro; refine ⟨fun w' hw' => ?_, ?_⟩
                            · first
                              | (refine (HAB.out w').mono ?_
                                 rintro e w2 ⟨rfl, hb2⟩
                                 exact ⟨rfl, hw'.trans (hb2.mono hw'.size)⟩)
                            go_big_quiet_on)))
                  refine wpQuiet_nil ?_
                  intro w1' hb1'
                  go_wp2
                  refine wp_region_below wr (by kernel_rfl) (by kernel_rfl) hb1' ?_
                  repeat (first
                    | go_big_quiet_skip
                    | (go_big_quiet_want
                       first
                         | (go_big_quiet_op; go_big_quiet_on)
                         | (refine q_load 41 _ _ _ rfl rfl LA ?_; simp only [Act.put, List.setIfInBounds_toArray, List.set_cons_zero, List.set_cons_succ]; go_big_quiet_on)
                         | (refine q_load 41 _ _ _ rfl rfl LB ?_; simp only [Act.put, List.setIfInBounds_toArray, List.set_cons_zero, List.set_cons_succ]; go_big_quiet_on)
                         | (go_big_quiet_op; refine ⟨_, fun _ _ => rfl, ?_⟩; go_big_quiet_on)
                         | (go_big_quiet_op; apply Exists.intro; refine ⟨fun w' hw' => ?_, ?_⟩
                            · first
                              | (refine (HBA.out w').mono ?_
                                 rintro e w2 ⟨rfl, hb2⟩
                                 exact ⟨rfl, hw'.trans (hb2.mono hw'.size)⟩)
                            go_big_quiet_on)))
                  refine wpQuiet_nil ?_
                  intro w2 hb2
                  clear LA LB HAB HBA hb1'
                  have hown2 := own_below hown hb2
                  have hbq := hbr.trans (hb2.mono hbr.size)
                  have d1 : w2.cell? ⟨ga, offa + x * 2, none⟩ = some (.int .i64 p) := by rw [hbq.cell (p := ⟨ga, offa + x * 2, none⟩) hga]; exact CA.out.1
                  have d2 : w2.cell? ⟨ga, offa + x * 2 + 1, none⟩ = some (.int .i64 q) := by rw [hbq.cell (p := ⟨ga, offa + x * 2 + 1, none⟩) hga]; exact CA.out.2
                  have hns := hbq.size
                  clear hown hbr hb2
                  go_wp2_with (at_builtin; refine wpList_append_own _ rfl (.tmp 31) (.tmp 36) 25 rfl w.heap.size 41 i0 (.agg #[.int .i64 0, .int .i64 0]) 2 16 Try.underlying25 hi hz0 hz1 hz2 rfl (by decide) _ _ _ rfl (hown2.alloc _) ⟨w2.heap.size, 0, none⟩ 1 1 [.int .i64 p, .int .i64 q] rfl rfl (cell_two_new _ _ _ _) (by intro u hu; simp at hu; rcases hu with rfl | rfl <;> rfl) (by unfold maxLen; omega) (by omega) (by simp; omega) ?_; intro v' w5 hown' hgrow _)
                  have R : w5.ownsRow w.heap.size 41 2 v' (out ++ [(p, q)]).length (keyCells (out ++ [(p, q)])) ∧ Below w.heap.size w w5 := by
                    refine ⟨by rw [keyCells_snoc]; simpa using hown', (hbq.alloc hbq.size _).grown hgrow (by simp; omega) (fun g hg => (hown2.lt g hg).1)⟩
                  have HR := Lib.hid R
                  clear R hown' hgrow hown2 hbq
                  go_wp2
                  exact ⟨⟨x + 1, y + 1, out ++ [(p, q)], by omega, by omega, by go_num, by go_num, HNX.out, HR.out.1, HR.out.2⟩, by simp [intOf]; omega⟩
                | false =>
                  have hnx2 : out ++ mergeL false (A.drop (x + 1)) (B.drop (y + 1)) = M := by simpa using hnx
                  have HNX := Lib.hid hnx2
                  clear hnx hnx2 cA cB
                  go_wp2
                  refine wp_region_below wr (by kernel_rfl) (by kernel_rfl) (Below.refl _ _) ?_
                  repeat (first
                    | go_big_quiet_skip
                    | (go_big_quiet_want
                       first
                         | (go_big_quiet_op; go_big_quiet_on)
                         | (refine q_load 41 _ _ _ rfl rfl LA ?_; simp only [Act.put, List.setIfInBounds_toArray, List.set_cons_zero, List.set_cons_succ]; go_big_quiet_on)
                         | (refine q_load 41 _ _ _ rfl rfl LB ?_; simp only [Act.put, List.setIfInBounds_toArray, List.set_cons_zero, List.set_cons_succ]; go_big_quiet_on)
                         | (go_big_quiet_op; refine ⟨_, fun _ _ => rfl, ?_⟩; go_big_quiet_on)
                         | (go_big_quiet_op; apply Exists.intro; refine ⟨fun w' hw' => ?_, ?_⟩
                            · first
                              | (refine (HAB.out w').mono ?_
                                 rintro e w2 ⟨rfl, hb2⟩
                                 exact ⟨rfl, hw'.trans (hb2.mono hw'.size)⟩)
                            go_big_quiet_on)))
                  refine wpQuiet_nil ?_
                  intro w1' hb1'
                  go_wp2
                  refine wp_region_below wr (by kernel_rfl) (by kernel_rfl) hb1' ?_
                  repeat (first
                    | go_big_quiet_skip
                    | (go_big_quiet_want
                       first
                         | (go_big_quiet_op; go_big_quiet_on)
                         | (refine q_load 41 _ _ _ rfl rfl LA ?_; simp only [Act.put, List.setIfInBounds_toArray, List.set_cons_zero, List.set_cons_succ]; go_big_quiet_on)
                         | (refine q_load 41 _ _ _ rfl rfl LB ?_; simp only [Act.put, List.setIfInBounds_toArray, List.set_cons_zero, List.set_cons_succ]; go_big_quiet_on)
                         | (go_big_quiet_op; refine ⟨_, fun _ _ => rfl, ?_⟩; go_big_quiet_on)
                         | (go_big_quiet_op; apply Exists.intro; refine ⟨fun w' hw' => ?_, ?_⟩
                            · first
                              | (refine (HBA.out w').mono ?_
                                 rintro e w2 ⟨rfl, hb2⟩
                                 exact ⟨rfl, hw'.trans (hb2.mono hw'.size)⟩)
                            go_big_quiet_on)))
                  refine wpQuiet_nil ?_
                  intro w2 hb2
                  clear LA LB HAB HBA hb1'
                  have hown2 := own_below hown hb2
                  have hbq := hbr.trans (hb2.mono hbr.size)
                  go_wp2
                  exact ⟨⟨x + 1, y + 1, out, by omega, by omega, by go_num, by go_num, HNX.out, hown2, hbq⟩, by simp [intOf]; omega⟩
          ·
            obtain rfl : y = B.length := by omega
            obtain ⟨ga, offa, rfl, hga, hcsA⟩ := hcA.resolve_left (by omega)
            have cA := hcsA x hxA
            have LA : ∀ w', Below wr.heap.size wr w' → (loadVar 41 ⟨ga, offa + x * 2, none⟩).run Try.prog w' = .ok (kv (A.getD x (0, 0))) w' := fun w' h => key_load cA hga (hbr.trans (h.mono hbr.size))
            clear hcsA hcA
            have hdA := drop_at A x hxA
            have hdB : B.drop B.length = [] := List.drop_eq_nil_of_le (Nat.le_refl _)
            have hnx : (out ++ [A.getD x (0, 0)]) ++ mergeL both (A.drop (x + 1)) (B.drop B.length) = M := by
              rw [← hout, hdB, mergeL_nil_r, mergeL_nil_r, hdA]; simp
            generalize A.getD x (0, 0) = kx at *
            obtain ⟨p, q⟩ := kx
            have HNX := Lib.hid hnx; have CA := Lib.hid cA
            clear hdA hdB hnx hout cA
            have z0 : (0 : Int) ≤ (x : Int) := by omega
            have z1 : (x : Int) < (A.length : Int) := by omega
            have z2 : ¬ (B.length : Int) < (B.length : Int) := by omega
            go_wp2
            refine wp_region_below wr (by kernel_rfl) (by kernel_rfl) (Below.refl _ _) ?_
            repeat (first
              | go_big_quiet_skip
              | (go_big_quiet_want
                 first
                   | (go_big_quiet_op; go_big_quiet_on)
                   | (refine q_load 41 _ _ _ rfl rfl LA ?_; simp only [Act.put, List.setIfInBounds_toArray, List.set_cons_zero, List.set_cons_succ]; go_big_quiet_on)
                   | (go_big_quiet_op; refine ⟨_, fun _ _ => rfl, ?_⟩; go_big_quiet_on)
                   | (go_big_quiet_op; go_big_quiet_on)))
            refine wpQuiet_nil ?_
            intro w2 hb2
            clear LA
            have hown2 := own_below hown hb2
            have hbq := hbr.trans (hb2.mono hbr.size)
            have d1 : w2.cell? ⟨ga, offa + x * 2, none⟩ = some (.int .i64 p) := by rw [hbq.cell (p := ⟨ga, offa + x * 2, none⟩) hga]; exact CA.out.1
            have d2 : w2.cell? ⟨ga, offa + x * 2 + 1, none⟩ = some (.int .i64 q) := by rw [hbq.cell (p := ⟨ga, offa + x * 2 + 1, none⟩) hga]; exact CA.out.2
            have hns := hbq.size
            clear hown hbr hb2
            go_wp2_with (at_builtin; refine wpList_append_own _ rfl (.tmp 64) (.tmp 69) 25 rfl w.heap.size 41 i0 (.agg #[.int .i64 0, .int .i64 0]) 2 16 Try.underlying25 hi hz0 hz1 hz2 rfl (by decide) _ _ _ rfl (hown2.alloc _) ⟨w2.heap.size, 0, none⟩ 1 1 [.int .i64 p, .int .i64 q] rfl rfl (cell_two_new _ _ _ _) (by intro u hu; simp at hu; rcases hu with rfl | rfl <;> rfl) (by unfold maxLen; omega) (by omega) (by simp; omega) ?_; intro v' w5 hown' hgrow _)
            have R : w5.ownsRow w.heap.size 41 2 v' (out ++ [(p, q)]).length (keyCells (out ++ [(p, q)])) ∧ Below w.heap.size w w5 := by
              refine ⟨by rw [keyCells_snoc]; simpa using hown', (hbq.alloc hbq.size _).grown hgrow (by simp; omega) (fun g hg => (hown2.lt g hg).1)⟩
            have HR := Lib.hid R
            clear R hown' hgrow hown2 hbq
            go_wp2
            exact ⟨⟨x + 1, B.length, out ++ [(p, q)], by omega, by omega, by go_num, by go_num, HNX.out, HR.out.1, HR.out.2⟩, by simp [intOf]; omega⟩
        · by_cases hyB : y < B.length
          ·
            obtain rfl : x = A.length := by omega
            obtain ⟨gb, offb, rfl, hgb, hcsB⟩ := hcB.resolve_left (by omega)
            have cB := hcsB y hyB
            have LB : ∀ w', Below wr.heap.size wr w' → (loadVar 41 ⟨gb, offb + y * 2, none⟩).run Try.prog w' = .ok (kv (B.getD y (0, 0))) w' := fun w' h => key_load cB hgb (hbr.trans (h.mono hbr.size))
            clear hcsB hcB
            have hdB := drop_at B y hyB
            have hdA : A.drop A.length = [] := List.drop_eq_nil_of_le (Nat.le_refl _)
            have hnx : (out ++ [B.getD y (0, 0)]) ++ mergeL both (A.drop A.length) (B.drop (y + 1)) = M := by
              rw [← hout, hdA, mergeL_nil_l, mergeL_nil_l, hdB]; simp
            generalize B.getD y (0, 0) = ky at *
            obtain ⟨p, q⟩ := ky
            have HNX := Lib.hid hnx; have CB := Lib.hid cB
            clear hdA hdB hnx hout cB
            have y0 : (0 : Int) ≤ (y : Int) := by omega
            have y1 : (y : Int) < (B.length : Int) := by omega
            have n1 : ¬ (y : Int) = (B.length : Int) := by omega
            have n2 : ¬ y = B.length := by omega
            have n3 : ((y : Int) == (B.length : Int)) = false := beq_eq_false_iff_ne.2 n1
            have z2 : ¬ (A.length : Int) < (A.length : Int) := by omega
            go_wp2
            refine wp_region_below wr (by kernel_rfl) (by kernel_rfl) (Below.refl _ _) ?_
            repeat (first
              | go_big_quiet_skip
              | (go_big_quiet_want
                 first
                   | (go_big_quiet_op; go_big_quiet_on)
                   | (refine q_load 41 _ _ _ rfl rfl LB ?_; simp only [Act.put, List.setIfInBounds_toArray, List.set_cons_zero, List.set_cons_succ]; go_big_quiet_on)
                   | (go_big_quiet_op; refine ⟨_, fun _ _ => rfl, ?_⟩; go_big_quiet_on)
                   | (go_big_quiet_op; go_big_quiet_on)))
            refine wpQuiet_nil ?_
            intro w1' hb1'
            go_wp2
            refine wp_region_below wr (by kernel_rfl) (by kernel_rfl) hb1' ?_
            repeat (first
              | go_big_quiet_skip
              | (go_big_quiet_want
                 first
                   | (go_big_quiet_op; go_big_quiet_on)
                   | (refine q_load 41 _ _ _ rfl rfl LB ?_; simp only [Act.put, List.setIfInBounds_toArray, List.set_cons_zero, List.set_cons_succ]; go_big_quiet_on)
                   | (go_big_quiet_op; refine ⟨_, fun _ _ => rfl, ?_⟩; go_big_quiet_on)
                   | (go_big_quiet_op; go_big_quiet_on)))
            refine wpQuiet_nil ?_
            intro w2 hb2
            clear LB hb1'
            have hown2 := own_below hown hb2
            have hbq := hbr.trans (hb2.mono hbr.size)
            have d1 : w2.cell? ⟨gb, offb + y * 2, none⟩ = some (.int .i64 p) := by rw [hbq.cell (p := ⟨gb, offb + y * 2, none⟩) hgb]; exact CB.out.1
            have d2 : w2.cell? ⟨gb, offb + y * 2 + 1, none⟩ = some (.int .i64 q) := by rw [hbq.cell (p := ⟨gb, offb + y * 2 + 1, none⟩) hgb]; exact CB.out.2
            have hns := hbq.size
            clear hown hbr hb2
            go_wp2_with (at_builtin; refine wpList_append_own _ rfl (.tmp 89) (.tmp 94) 25 rfl w.heap.size 41 i0 (.agg #[.int .i64 0, .int .i64 0]) 2 16 Try.underlying25 hi hz0 hz1 hz2 rfl (by decide) _ _ _ rfl (hown2.alloc _) ⟨w2.heap.size, 0, none⟩ 1 1 [.int .i64 p, .int .i64 q] rfl rfl (cell_two_new _ _ _ _) (by intro u hu; simp at hu; rcases hu with rfl | rfl <;> rfl) (by unfold maxLen; omega) (by omega) (by simp; omega) ?_; intro v' w5 hown' hgrow _)
            have R : w5.ownsRow w.heap.size 41 2 v' (out ++ [(p, q)]).length (keyCells (out ++ [(p, q)])) ∧ Below w.heap.size w w5 := by
              refine ⟨by rw [keyCells_snoc]; simpa using hown', (hbq.alloc hbq.size _).grown hgrow (by simp; omega) (fun g hg => (hown2.lt g hg).1)⟩
            have HR := Lib.hid R
            clear R hown' hgrow hown2 hbq
            go_wp2
            exact ⟨⟨A.length, y + 1, out ++ [(p, q)], by omega, by omega, by go_num, by go_num, HNX.out, HR.out.1, HR.out.2⟩, by simp [intOf]; omega⟩
          ·
            obtain rfl : x = A.length := by omega
            obtain rfl : y = B.length := by omega
            have hdA : A.drop A.length = [] := List.drop_eq_nil_of_le (Nat.le_refl _)
            have hdB : B.drop B.length = [] := List.drop_eq_nil_of_le (Nat.le_refl _)
            rw [hdA, hdB, mergeL_nil_r, List.append_nil] at hout
            subst hout
            have z2 : ¬ (A.length : Int) < (A.length : Int) := by omega
            have z3 : ¬ (B.length : Int) < (B.length : Int) := by omega
            go_wp2
            go_ret
            exact ⟨_, rfl, hown, hbr⟩
end Go.Proofs.Ytbbjpjkclealfaa
namespace Go.Proofs.Ytbbjpjkclealfaa
open Go.ChangeShapes Go.WideShapes Go.ChangeAt Go.RowKit Go.BigFrame
set_option linter.unusedVariables false

theorem sparted_any (va vb : Value) (A B : List K2) (w : World) (ha : keysAt w va A) (hb : keysAt w vb B) (hsA : A.length ≤ 2000000) (hsB : B.length ≤ 2000000) :
    Calls Try.prog 83 #[va, vb] w fun e w' => ∃ v, e = .returned v ∧ w'.ownsRow w.heap.size 41 2 v (mergeV false A B).length (keyCells (mergeV false A B)) ∧ Below w.heap.size w w' := by
  have H := Lib.hid (smerge_any va vb A B false w ha hb hsA hsB)
  go_enter Try.func83, Try.ntmps83
  go_wp2_with fail
  refine H.out.mono ?_
  rintro e w1 ⟨v, rfl, ho, hB⟩
  go_wp2
  go_ret
  exact ⟨v, rfl, ho, hB⟩
end Go.Proofs.Ytbbjpjkclealfaa
namespace Go.Proofs.Ytbbjpjkclealfaa
open Go.ChangeShapes Go.WideShapes Go.ChangeAt Go.RowKit
set_option linter.unusedVariables false

set_option maxRecDepth 100000 in
theorem sxor_any (s t : ByteArray) (w : World) (hs : s.size ≤ 2000000) (ht : t.size ≤ 2000000) :
    Calls Try.prog 84 #[.string s, .string t] w fun e w' => e = .returned (.string (xorS s t)) ∧ Below w.heap.size w w' := by
  by_cases hst : s.size = t.size
  · obtain ⟨i0, hi, hz0, hz1, hz2⟩ := info_parts info5
    have hx : xorS s t = ⟨(xorL s.data.toList t.data.toList).toArray⟩ := by unfold xorS; rw [if_pos hst]
    have hxl := xorL_len s t hst
    have htk := xorL_take s t hst
    have e0 : (s.size : Int) = (t.size : Int) := by omega
    generalize xorL s.data.toList t.data.toList = X at *
    have HX := Lib.hid hx; have HTK := Lib.hid htk; clear hx htk
    go_enter Try.func84, Try.ntmps84
    go_wp2
    have hown0 := World.ownsRow_made (base := w.heap.size) (e := 5) (size := 1) w #[] 0 (Nat.le_refl _) (by unfold maxLen; omega) rfl
    have hb0 := (Below.refl w.heap.size w).alloc (Nat.le_refl _) (.cells #[] 5)
    go_loopw [5, 6] (fun v i wr => ∃ k : Nat, k ≤ s.size ∧ i = .int .i64 k ∧ wr.ownsRow w.heap.size 5 1 v k ((numsOf (X.take k)).map (Value.int .u8)) ∧ Below w.heap.size w wr)
      (fun _ i _ => s.size - (intOf i).toNat)
    case atStart => exact ⟨0, Nat.zero_le _, rfl, hown0, hb0⟩
    case round =>
      obtain ⟨k, hk, rfl, hown, hnx⟩ := hrel
      clear hown0 hb0
      by_cases hlt : k < s.size
      · have h0 : (0 : Int) ≤ (k : Int) := Int.natCast_nonneg _
        have h1 : (k : Int) < (s.size : Int) := by omega
        have h2 : (k : Int) < (t.size : Int) := by omega
        have hk2 : k < t.size := by omega
        have hc := s[k].toNat_lt
        have hd := t[k].toNat_lt
        have hxx := u8_xor s[k] t[k]
        have hns := hnx.size
        go_wp2
        refine wp_region_plan [0] [false, true, true, true, true, true, true, true] 8 (by kernel_rfl) (by kernel_rfl) (by kernel_rfl) ?_
        simp only [maskRows, movesA, moveOf, List.getElem?_toArray, List.getElem?_cons_zero, List.drop_succ_cons, List.drop_zero]
        repeat still_step
        refine wpStill_nil ?_
        intro K1 hK1
        go_wp2_with (at_builtin; refine wpList_append_own _ rfl (.tmp 19) (.tmp 27) 22 rfl w.heap.size 5 i0 (.int .u8 0) 1 1 Try.underlying22 hi hz0 hz1 hz2 rfl (by decide) _ _ _ rfl ((hown.alloc _).drew) ⟨wr.heap.size, 0, none⟩ 1 1 [.int .u8 ((s[k] ^^^ t[k]).toNat : Int)] rfl rfl (cell_one_new _ _ _) (by intro u hu; simp at hu; subst hu; rfl) (by unfold maxLen; omega) (by omega) (by simp; omega) ?_; intro v' w1 hown' hgrow _)
        have R : w1.ownsRow w.heap.size 5 1 v' (k + 1) ((numsOf (X.take (k + 1))).map (Value.int .u8)) ∧ Below w.heap.size w w1 := by
          refine ⟨?_, ((hnx.alloc hnx.size _).drew).grown hgrow (by have := hnx.size; simp; omega) (fun g hg => (hown.lt g hg).1)⟩
          rw [HTK.out k hlt]
          simpa [numsOf] using hown'
        clear hown' hgrow hown
        go_wp2
        go_roundw
        case rel => exact ⟨k + 1, by omega, by go_num, R.1, R.2⟩
        case measure => simp [intOf]; omega
      · obtain rfl : k = s.size := by omega
        rw [List.take_of_length_le (by omega)] at hown
        have hcv := run_string_own (P := Try.prog) 22 5 9 Try.underlying22 Try.underlying5 Try.underlying9 hown
        rw [nums_back] at hcv
        clear hown
        go_wp2
        go_ret
        exact ⟨by rw [HX.out]; rfl, hnx⟩
  · have hx : xorS s t = ByteArray.empty := by unfold xorS; rw [if_neg hst]
    have HX := Lib.hid hx; clear hx
    have e1 : ¬ (s.size : Int) = (t.size : Int) := by omega
    go_enter Try.func84, Try.ntmps84
    go_wp2
    go_ret
    exact ⟨by rw [HX.out]; rfl, Below.refl _ _⟩
end Go.Proofs.Ytbbjpjkclealfaa
namespace Go.Proofs.Ytbbjpjkclealfaa
set_option linter.unusedVariables false
set_option linter.unusedSimpArgs false

/-- what adds up, each with itself to nothing -/
structure Grp (V : Type) where
  add : V → V → V
  zero : V
  comm : ∀ x y, add x y = add y x
  assoc : ∀ x y z, add (add x y) z = add x (add y z)
  self : ∀ x, add x x = zero
  zl : ∀ x, add zero x = x
namespace Grp
variable {V : Type} (G : Grp V)
theorem zr (x : V) : G.add x G.zero = x := by rw [G.comm, G.zl]
theorem back (x y : V) : G.add x (G.add x y) = y := by rw [← G.assoc, G.self, G.zl]
theorem left (x y z : V) : G.add x (G.add y z) = G.add y (G.add x z) := by rw [← G.assoc, G.comm x y, G.assoc]
end Grp
inductive Span {V : Type} (G : Grp V) (S : V → Prop) : V → Prop
  | zero : Span G S G.zero
  | step {x y : V} : S x → Span G S y → Span G S (G.add x y)
namespace Span
variable {V : Type} {G : Grp V} {S T : V → Prop}
theorem of {x : V} (h : S x) : Span G S x := by have := Span.step (G := G) h .zero; rwa [G.zr] at this
theorem plus {x y : V} (hx : Span G S x) (hy : Span G S y) : Span G S (G.add x y) := by
  induction hx with
  | zero => rwa [G.zl]
  | step h _ ih => rw [G.assoc]; exact .step h ih
theorem le (h : ∀ x, S x → Span G T x) {y : V} (hy : Span G S y) : Span G T y := by
  induction hy with
  | zero => exact .zero
  | step h1 _ ih => exact (h _ h1).plus ih
theorem mono (h : ∀ x, S x → T x) {y : V} (hy : Span G S y) : Span G T y := hy.le fun x hx => .of (h x hx)
theorem cancel {x y : V} (hx : Span G S x) (h : Span G S (G.add x y)) : Span G S y := by have := hx.plus h; rwa [G.back] at this
theorem only {f : V → Bool} (h0 : f G.zero = false) (hf : ∀ x y, f (G.add x y) = (f x != f y)) (h : ∀ x, S x → f x = false) {y : V} (hy : Span G S y) : f y = false := by
  induction hy with
  | zero => exact h0
  | step h1 _ ih => rw [hf, h _ h1, ih]; rfl
theorem none_iff {y : V} : Span G (· ∈ ([] : List V)) y ↔ y = G.zero := by
  constructor
  · intro h
    cases h with
    | zero => rfl
    | step h1 _ => cases h1
  · rintro rfl; exact .zero
theorem cons_iff {b : V} {B : List V} {y : V} : Span G (· ∈ b :: B) y ↔ Span G (· ∈ B) y ∨ Span G (· ∈ B) (G.add b y) := by
  constructor
  · intro h
    induction h with
    | zero => exact .inl .zero
    | @step x z h1 _ ih =>
      rcases List.mem_cons.1 h1 with rfl | h2
      · rcases ih with ih | ih
        · exact .inr (by rwa [G.back])
        · exact .inl ih
      · rcases ih with ih | ih
        · exact .inl (.step h2 ih)
        · exact .inr (by rw [G.left]; exact .step h2 ih)
  · rintro (h | h)
    · exact h.mono fun x hx => List.mem_cons_of_mem _ hx
    · exact Span.cancel (x := b) (.of (List.mem_cons_self ..)) (h.mono fun x hx => List.mem_cons_of_mem _ hx)
end Span
/-- places: each row has a first one, has adds up -/
structure Pla (V K : Type) (G : Grp V) where
  piv : V → K
  has : V → K → Bool
  has0 : ∀ k, has G.zero k = false
  hasA : ∀ x y k, has (G.add x y) k = (has x k != has y k)
section
variable {V K : Type} {G : Grp V} (P : Pla V K G)
/-- each has its own first place, no other one has it -/
def Redu (B : List V) : Prop := (∀ b ∈ B, P.has b (P.piv b) = true) ∧ B.Pairwise fun b c => P.has b (P.piv c) = false ∧ P.has c (P.piv b) = false
theorem Redu.tail {b : V} {B : List V} (h : Redu P (b :: B)) : Redu P B := ⟨fun c hc => h.1 c (List.mem_cons_of_mem _ hc), (List.pairwise_cons.1 h.2).2⟩
/-- the row without the first places of others -/
def lessS (x b : V) : V := if P.has x (P.piv b) = true then G.add x b else x
def lessG (B : List V) (x : V) : V := B.foldl (lessS P) x
theorem lessS_has (x b : V) (k : K) : P.has (lessS P x b) k = (P.has x k != (P.has x (P.piv b) && P.has b k)) := by
  unfold lessS
  split
  · rename_i h; rw [P.hasA, h]; simp
  · rename_i h
    have h1 : P.has x (P.piv b) = false := by simpa using h
    rw [h1]; simp
theorem less_span (B : List V) : ∀ x, Span G (· ∈ B) (G.add x (lessG P B x)) := by
  induction B with
  | nil => intro x; show Span G _ (G.add x x); rw [G.self]; exact .zero
  | cons b B ih =>
    intro x
    have h := (ih (lessS P x b)).mono (T := (· ∈ b :: B)) fun y hy => List.mem_cons_of_mem _ hy
    show Span G _ (G.add x (lessG P B (lessS P x b)))
    unfold lessS at *
    split
    · rename_i hb
      rw [if_pos hb] at h
      have h2 := Span.step (G := G) (S := (· ∈ b :: B)) (List.mem_cons_self ..) h
      rw [G.assoc, G.left b x, G.back] at h2
      exact h2
    · rename_i hb
      rw [if_neg hb] at h
      exact h
theorem less_keep (B : List V) (k : K) (h : ∀ b ∈ B, P.has b k = false) : ∀ x, P.has (lessG P B x) k = P.has x k := by
  induction B with
  | nil => intro x; rfl
  | cons b B ih =>
    intro x
    show P.has (lessG P B (lessS P x b)) k = _
    rw [ih (fun c hc => h c (List.mem_cons_of_mem _ hc)), lessS_has, h b (List.mem_cons_self ..)]
    simp
theorem less_free {B : List V} (hB : Redu P B) : ∀ x, ∀ b ∈ B, P.has (lessG P B x) (P.piv b) = false := by
  induction B with
  | nil => intro x b hb; cases hb
  | cons b B ih =>
    intro x c hc
    show P.has (lessG P B (lessS P x b)) (P.piv c) = false
    rcases List.mem_cons.1 hc with rfl | hc
    · rw [less_keep P B _ (fun d hd => ((List.pairwise_cons.1 hB.2).1 d hd).2), lessS_has, hB.1 c (List.mem_cons_self ..)]
      simp
    · exact ih hB.tail _ c hc
theorem free_zero {B : List V} (hB : Redu P B) : ∀ y, Span G (· ∈ B) y → (∀ b ∈ B, P.has y (P.piv b) = false) → y = G.zero := by
  induction B with
  | nil => intro y hy _; exact Span.none_iff.1 hy
  | cons b B ih =>
    intro y hy hf
    rcases Span.cons_iff.1 hy with h | h
    · exact ih hB.tail y h fun c hc => hf c (List.mem_cons_of_mem _ hc)
    · exfalso
      have h1 : P.has (G.add b y) (P.piv b) = false := h.only (f := fun v => P.has v (P.piv b)) (P.has0 _) (fun u v => P.hasA u v _) fun c hc => ((List.pairwise_cons.1 hB.2).1 c hc).2
      rw [P.hasA, hB.1 b (List.mem_cons_self ..), hf b (List.mem_cons_self ..)] at h1
      cases h1
/-- what is of the span of the rows and of others without their places -/
theorem less_iff {B Z : List V} (hB : Redu P B) (hZ : ∀ z ∈ Z, ∀ b ∈ B, P.has z (P.piv b) = false) (x : V) : Span G (· ∈ B ++ Z) x ↔ Span G (· ∈ Z) (lessG P B x) := by
  have hl := less_span P B x
  have hl2 := hl.mono (T := (· ∈ B ++ Z)) fun y hy => List.mem_append_left _ hy
  have hpart : ∀ y, Span G (· ∈ B ++ Z) y → ∃ b z, Span G (· ∈ B) b ∧ Span G (· ∈ Z) z ∧ y = G.add b z := by
    intro y hy
    induction hy with
    | zero => exact ⟨_, _, .zero, .zero, (G.zl _).symm⟩
    | @step u v h1 _ ih =>
      obtain ⟨b, z, hb, hz, rfl⟩ := ih
      rcases List.mem_append.1 h1 with h | h
      · exact ⟨G.add u b, z, .step h hb, hz, (G.assoc ..).symm⟩
      · exact ⟨b, G.add u z, hb, .step h hz, G.left ..⟩
  constructor
  · intro h
    have h2 : Span G (· ∈ B ++ Z) (lessG P B x) := by
      have := h.plus hl2
      rwa [G.back] at this
    obtain ⟨b, z, hb, hz, e⟩ := hpart _ h2
    have hb0 : b = G.zero := by
      refine free_zero P hB b hb fun c hc => ?_
      have h3 := less_free P hB x c hc
      have h4 : P.has z (P.piv c) = false := hz.only (f := fun v => P.has v (P.piv c)) (P.has0 _) (fun u v => P.hasA u v _) fun d hd => hZ d hd c hc
      rw [e, P.hasA, h4] at h3
      simpa using h3
    rw [e, hb0, G.zl]
    exact hz
  · intro h
    have h2 := hl2.plus (h.mono (T := (· ∈ B ++ Z)) fun y hy => List.mem_append_right _ hy)
    rwa [G.assoc, G.self, G.zr] at h2
/-- a row more, its first place taken from the others -/
def insS (x b : V) : V := if P.has b (P.piv x) = true then G.add b x else b
def insG (B : List V) (x : V) : List V := B.map (insS P x) ++ [x]
theorem insS_has (x b : V) (k : K) : P.has (insS P x b) k = (P.has b k != (P.has b (P.piv x) && P.has x k)) := by
  unfold insS
  split
  · rename_i h; rw [P.hasA, h]; simp
  · rename_i h
    have h1 : P.has b (P.piv x) = false := by simpa using h
    rw [h1]; simp
theorem ins_redu {B : List V} {x : V} (hB : Redu P B) (hx : ∀ b ∈ B, P.has x (P.piv b) = false) (h1 : P.has x (P.piv x) = true) (hp : ∀ b ∈ B, P.piv (insS P x b) = P.piv b) : Redu P (insG P B x) := by
  refine ⟨?_, ?_⟩
  · intro c hc
    rcases List.mem_append.1 hc with h | h
    · obtain ⟨b, hb, rfl⟩ := List.mem_map.1 h
      rw [hp b hb, insS_has, hB.1 b hb, hx b hb]
      simp
    · rw [List.mem_singleton.1 h]; exact h1
  · refine List.pairwise_append.2 ⟨?_, List.pairwise_singleton .., ?_⟩
    · rw [List.pairwise_map]
      refine (List.Pairwise.and_mem.1 hB.2).imp ?_
      rintro b c ⟨hb, hc, h2, h3⟩
      rw [hp b hb, hp c hc, insS_has, insS_has, h2, h3, hx b hb, hx c hc]
      simp
    · intro c hc d hd
      obtain ⟨b, hb, rfl⟩ := List.mem_map.1 hc
      rw [List.mem_singleton.1 hd, hp b hb, insS_has, h1, hx b hb]
      simp
theorem ins_span (B : List V) (x : V) (y : V) : Span G (· ∈ insG P B x) y ↔ Span G (· ∈ x :: B) y := by
  have hx1 : Span G (· ∈ insG P B x) x := .of (List.mem_append_right _ (List.mem_singleton.2 rfl))
  have hx2 : Span G (· ∈ x :: B) x := .of (List.mem_cons_self ..)
  constructor
  · refine Span.le fun c hc => ?_
    rcases List.mem_append.1 hc with h | h
    · obtain ⟨b, hb, rfl⟩ := List.mem_map.1 h
      have h2 : Span G (· ∈ x :: B) b := .of (List.mem_cons_of_mem _ hb)
      unfold insS
      split
      · exact h2.plus hx2
      · exact h2
    · rw [List.mem_singleton.1 h]; exact hx2
  · refine Span.le fun c hc => ?_
    rcases List.mem_cons.1 hc with rfl | h
    · exact hx1
    · have h2 : Span G (· ∈ insG P B x) (insS P x c) := .of (List.mem_append_left _ (List.mem_map.2 ⟨c, h, rfl⟩))
      unfold insS at h2
      split at h2
      · rw [G.comm] at h2; exact hx1.cancel h2
      · exact h2
end
end Go.Proofs.Ytbbjpjkclealfaa
namespace Go.Proofs.Ytbbjpjkclealfaa
set_option linter.unusedVariables false
set_option linter.unusedSimpArgs false

theorem nodup_le {K : Type} [DecidableEq K] : ∀ (l m : List K), l.Nodup → (∀ x ∈ l, x ∈ m) → l.length ≤ m.length
  | [], m, _, _ => by simp
  | a :: l, m, h, hm => by
    obtain ⟨h1, h2⟩ := List.nodup_cons.1 h
    have ha := hm a (List.mem_cons_self ..)
    have ih := nodup_le l (m.erase a) h2 fun x hx => (List.mem_erase_of_ne (fun e => h1 (by rw [← e]; exact hx))).2 (hm x (List.mem_cons_of_mem _ hx))
    rw [List.length_erase_of_mem ha] at ih
    have := List.length_pos_of_mem ha
    simp only [List.length_cons]
    omega
theorem span_no {V : Type} {G : Grp V} {y : V} (h : Span G (fun _ => False) y) : y = G.zero := by
  cases h with
  | zero => rfl
  | step h _ => exact h.elim
/-- places in an order; a row without any, or its first one -/
structure Ord (V K : Type) (G : Grp V) extends Pla V K G where
  lt : K → K → Prop
  tri : ∀ a b, lt a b ∨ a = b ∨ lt b a
  trans : ∀ a b c, lt a b → lt b c → lt a c
  bare : V → Bool
  bare1 : ∀ v, bare v = true → ∀ k, has v k = false
  bare2 : ∀ v, bare v = false → has v (piv v) = true ∧ ∀ k, lt k (piv v) → has v k = false
  uniq : ∀ v q, has v q = true → (∀ k, lt k q → has v k = false) → piv v = q
section
variable {V K : Type} {G : Grp V} (O : Ord V K G)
def Low (B : List V) : Prop := ∀ b ∈ B, ∀ k, O.lt k (O.piv b) → O.has b k = false
theorem bare_of {v : V} (h : ∀ k, O.has v k = false) : O.bare v = true := by
  cases hb : O.bare v with
  | true => rfl
  | false => have := (O.bare2 v hb).1; rw [h] at this; cases this
theorem less_same {B : List V} (hB : Redu O.toPla B) (q : K) : ∀ y, (∀ b ∈ B, O.has y (O.piv b) = true → O.has b q = false) → O.has (lessG O.toPla B y) q = O.has y q := by
  induction B with
  | nil => intro y _; rfl
  | cons b B ih =>
    intro y hy
    show O.has (lessG O.toPla B (lessS O.toPla y b)) q = _
    have hs : O.has (lessS O.toPla y b) q = O.has y q := by
      rw [lessS_has]
      cases h : O.has y (O.piv b) with
      | true => rw [hy b (List.mem_cons_self ..) h]; simp
      | false => simp
    rw [ih hB.tail, hs]
    intro c hc h
    refine hy c (List.mem_cons_of_mem _ hc) ?_
    rw [lessS_has, ((List.pairwise_cons.1 hB.2).1 c hc).1] at h
    simpa using h
theorem span_bare {Z : List V} (hZ : ∀ z ∈ Z, O.bare z = true) {y : V} (hy : Span G (· ∈ Z) y) (k : K) : O.has y k = false :=
  hy.only (f := fun v => O.has v k) (O.has0 _) (fun u v => O.hasA u v _) fun z hz => O.bare1 z (hZ z hz) k
/-- the first place of what is of the span is a row's -/
theorem lead_in {B Z : List V} (hB : Redu O.toPla B) (hL : Low O B) (hZ : ∀ z ∈ Z, O.bare z = true) {y : V} {q : K} (hy : Span G (· ∈ B ++ Z) y) (hq : O.has y q = true) (hm : ∀ k, O.lt k q → O.has y k = false) : ∃ b ∈ B, O.piv b = q := by
  refine Classical.byContradiction fun hn => ?_
  have hne : ∀ b ∈ B, O.piv b ≠ q := fun b hb e => hn ⟨b, hb, e⟩
  have h1 := less_same O hB q y fun b hb h => by
    rcases O.tri (O.piv b) q with h2 | h2 | h2
    · rw [hm _ h2] at h; cases h
    · exact absurd h2 (hne b hb)
    · exact hL b hb q h2
  have h2 := (less_iff O.toPla hB (fun z hz b _ => O.bare1 z (hZ z hz) _) y).1 hy
  rw [span_bare O hZ h2 q, hq] at h1
  cases h1
theorem redu_nodup {B : List V} (hB : Redu O.toPla B) : (B.map O.piv).Nodup := by
  rw [List.Nodup, List.pairwise_map]
  refine (List.Pairwise.and_mem.1 hB.2).imp ?_
  rintro b c ⟨hb, hc, h2, h3⟩ e
  rw [← e, hB.1 b hb] at h2
  cases h2
structure Inv (B Z L : List V) : Prop where
  redu : Redu O.toPla B
  low : Low O B
  bare : ∀ z ∈ Z, O.bare z = true
  span : ∀ y, Span G (· ∈ B ++ Z) y ↔ Span G (· ∈ L) y
theorem inv_le [DecidableEq K] {B Z L B' Z' L' : List V} (h : Inv O B Z L) (h' : Inv O B' Z' L') (hs : ∀ y, Span G (· ∈ L) y → Span G (· ∈ L') y) : B.length ≤ B'.length := by
  have := nodup_le (B.map O.piv) (B'.map O.piv) (redu_nodup O h.redu) fun q hq => by
    obtain ⟨b, hb, rfl⟩ := List.mem_map.1 hq
    have h1 : Span G (· ∈ B' ++ Z') b := (h'.span b).2 (hs b ((h.span b).1 (.of (List.mem_append_left _ hb))))
    obtain ⟨c, hc, e⟩ := lead_in O h'.redu h'.low h'.bare h1 (h.redu.1 b hb) (h.low b hb)
    exact List.mem_map.2 ⟨c, hc, e⟩
  simpa using this
def baseS (s : List V × List V) (x : V) : List V × List V :=
  if O.bare (lessG O.toPla s.1 x) = true then (s.1, s.2 ++ [lessG O.toPla s.1 x]) else (insG O.toPla s.1 (lessG O.toPla s.1 x), s.2)
def baseG (L : List V) : List V × List V := L.foldl (baseS O) ([], [])
theorem ins_piv {B : List V} {x : V} (hB : Redu O.toPla B) (hL : Low O B) (hb : O.bare x = false) (hx : ∀ b ∈ B, O.has x (O.piv b) = false) : ∀ b ∈ B, O.piv (insS O.toPla x b) = O.piv b ∧ ∀ k, O.lt k (O.piv b) → O.has (insS O.toPla x b) k = false := by
  intro b hbB
  obtain ⟨h1, h2⟩ := O.bare2 x hb
  have h3 : ∀ k, O.lt k (O.piv b) → O.has (insS O.toPla x b) k = false := by
    intro k hk
    rw [insS_has, hL b hbB k hk]
    cases h4 : O.has b (O.piv x) with
    | false => rfl
    | true =>
      have h5 : O.lt (O.piv b) (O.piv x) := by
        rcases O.tri (O.piv b) (O.piv x) with h | h | h
        · exact h
        · rw [← h, hx b hbB] at h1; cases h1
        · rw [hL b hbB _ h] at h4; cases h4
      rw [h2 k (O.trans _ _ _ hk h5)]
      rfl
  refine ⟨O.uniq _ _ ?_ h3, h3⟩
  rw [insS_has, hB.1 b hbB, hx b hbB]
  simp
theorem inv_step {B Z L : List V} (h : Inv O B Z L) (x : V) : Inv O (baseS O (B, Z) x).1 (baseS O (B, Z) x).2 (L ++ [x]) := by
  have hl := less_span O.toPla B x
  have hf := less_free O.toPla h.redu x
  have hspan : ∀ (M : List V), (∀ y, Span G (· ∈ M) y ↔ Span G (· ∈ lessG O.toPla B x :: (B ++ Z)) y) → ∀ y, Span G (· ∈ M) y ↔ Span G (· ∈ L ++ [x]) y := by
    intro M hM y
    rw [hM]
    have g1 : ∀ v, Span G (· ∈ B ++ Z) v → Span G (· ∈ L ++ [x]) v := fun v hv => ((h.span v).1 hv).mono fun u hu => List.mem_append_left _ hu
    have g2 : Span G (· ∈ L ++ [x]) x := .of (List.mem_append_right _ (List.mem_singleton.2 rfl))
    have g3 : ∀ v, Span G (· ∈ B ++ Z) v → Span G (· ∈ lessG O.toPla B x :: (B ++ Z)) v := fun v hv => hv.mono fun u hu => List.mem_cons_of_mem _ hu
    have hl2 := hl.mono (T := (· ∈ B ++ Z)) fun u hu => List.mem_append_left _ hu
    constructor
    · refine Span.le fun v hv => ?_
      rcases List.mem_cons.1 hv with rfl | hv
      · exact Span.cancel g2 (g1 _ hl2)
      · exact g1 v (.of hv)
    · refine Span.le fun v hv => ?_
      rcases List.mem_append.1 hv with hv | hv
      · exact g3 v ((h.span v).2 (.of hv))
      · rw [List.mem_singleton.1 hv]
        have e := g3 _ hl2
        rw [G.comm] at e
        exact Span.cancel (.of (List.mem_cons_self ..)) e
  unfold baseS
  dsimp only
  cases hb : O.bare (lessG O.toPla B x) with
  | true =>
    rw [if_pos rfl]
    refine ⟨h.redu, h.low, fun z hz => ?_, hspan _ fun y => ?_⟩
    · rcases List.mem_append.1 hz with hz | hz
      · exact h.bare z hz
      · rw [List.mem_singleton.1 hz]; exact hb
    · constructor
      · refine Span.mono fun v hv => ?_
        simp only [List.mem_append, List.mem_cons, List.mem_singleton, List.not_mem_nil, or_false] at hv ⊢
        rcases hv with hv | hv | hv
        · exact .inr (.inl hv)
        · exact .inr (.inr hv)
        · exact .inl hv
      · refine Span.mono fun v hv => ?_
        simp only [List.mem_append, List.mem_cons, List.mem_singleton, List.not_mem_nil, or_false] at hv ⊢
        rcases hv with hv | hv | hv
        · exact .inr (.inr hv)
        · exact .inl hv
        · exact .inr (.inl hv)
  | false =>
    rw [if_neg (by simp)]
    have hp := ins_piv O h.redu h.low hb hf
    refine ⟨ins_redu O.toPla h.redu hf (O.bare2 _ hb).1 fun b hbB => (hp b hbB).1, ?_, h.bare, hspan _ fun y => ?_⟩
    · intro c hc k hk
      rcases List.mem_append.1 hc with hc | hc
      · obtain ⟨b, hbB, rfl⟩ := List.mem_map.1 hc
        rw [(hp b hbB).1] at hk
        exact (hp b hbB).2 k hk
      · rw [List.mem_singleton.1 hc] at hk ⊢
        exact (O.bare2 _ hb).2 k hk
    · have hi := ins_span O.toPla B (lessG O.toPla B x)
      constructor
      · refine Span.le fun v hv => ?_
        rcases List.mem_append.1 hv with hv | hv
        · exact ((hi v).1 (.of hv)).mono fun u hu => by
            rcases List.mem_cons.1 hu with rfl | hu
            · exact List.mem_cons_self ..
            · exact List.mem_cons_of_mem _ (List.mem_append_left _ hu)
        · exact .of (List.mem_cons_of_mem _ (List.mem_append_right _ hv))
      · refine Span.le fun v hv => ?_
        rcases List.mem_cons.1 hv with rfl | hv
        · exact ((hi _).2 (.of (List.mem_cons_self ..))).mono fun u hu => List.mem_append_left _ hu
        · rcases List.mem_append.1 hv with hv | hv
          · exact ((hi _).2 (.of (List.mem_cons_of_mem _ hv))).mono fun u hu => List.mem_append_left _ hu
          · exact .of (List.mem_append_right _ hv)
theorem base_snoc (L : List V) (x : V) : baseG O (L ++ [x]) = baseS O (baseG O L) x := by simp [baseG, List.foldl_append]
theorem base_inv (L : List V) : Inv O (baseG O L).1 (baseG O L).2 L := by
  suffices H : ∀ n (L : List V), L.length = n → Inv O (baseG O L).1 (baseG O L).2 L from H _ L rfl
  intro n
  induction n with
  | zero =>
    intro L hL
    obtain rfl : L = [] := List.length_eq_zero_iff.1 hL
    exact ⟨⟨fun b hb => (by cases hb), List.Pairwise.nil⟩, fun b hb => (by cases hb), fun z hz => (by cases hz), fun y => Iff.rfl⟩
  | succ n ih =>
    intro L hL
    have hne : L ≠ [] := by intro e; rw [e] at hL; cases hL
    rw [← List.dropLast_concat_getLast hne]
    have hi := ih L.dropLast (by simp [hL])
    rw [base_snoc]
    exact inv_step O hi _
/-- how many rows there are tells the span alone -/
theorem rank_eq [DecidableEq K] {L M : List V} (h : ∀ y, Span G (· ∈ L) y ↔ Span G (· ∈ M) y) : (baseG O L).1.length = (baseG O M).1.length :=
  Nat.le_antisymm (inv_le O (base_inv O L) (base_inv O M) fun y => (h y).1) (inv_le O (base_inv O M) (base_inv O L) fun y => (h y).2)
theorem rank_more (L : List V) (x : V) : (baseG O (L ++ [x])).1.length = (baseG O L).1.length ∨ (baseG O (L ++ [x])).1.length = (baseG O L).1.length + 1 := by
  rw [base_snoc]
  unfold baseS
  split
  · exact .inl rfl
  · exact .inr (by simp [insG])
theorem rank_le (L : List V) : (baseG O L).1.length ≤ L.length := by
  suffices H : ∀ n (L : List V), L.length = n → (baseG O L).1.length ≤ n from H _ L rfl
  intro n
  induction n with
  | zero => intro L hL; obtain rfl : L = [] := List.length_eq_zero_iff.1 hL; exact Nat.le_refl _
  | succ n ih =>
    intro L hL
    have hne : L ≠ [] := by intro e; rw [e] at hL; cases hL
    have hi := ih L.dropLast (by simp [hL])
    have := rank_more O L.dropLast (L.getLast hne)
    rw [List.dropLast_concat_getLast hne] at this
    omega
theorem rank_span [DecidableEq K] {L : List V} {x : V} (h : Span G (· ∈ L) x) : (baseG O (L ++ [x])).1.length = (baseG O L).1.length := by
  refine rank_eq O fun y => ⟨Span.le fun v hv => ?_, Span.mono fun v hv => List.mem_append_left _ hv⟩
  rcases List.mem_append.1 hv with hv | hv
  · exact .of hv
  · rw [List.mem_singleton.1 hv]; exact h
/-- what is of the span -/
theorem spanned_iff (L : List V) (x : V) : Span G (· ∈ L) x ↔ Span G (· ∈ (baseG O L).2) (lessG O.toPla (baseG O L).1 x) := by
  have hI := base_inv O L
  rw [← hI.span]
  exact less_iff O.toPla hI.redu (fun z hz b _ => O.bare1 z (hI.bare z hz) _) x
theorem spanned_agreed (L : List V) (x : V) (h : ∀ z ∈ (baseG O L).2, z = G.zero) : Span G (· ∈ L) x ↔ lessG O.toPla (baseG O L).1 x = G.zero := by
  rw [spanned_iff O L x]
  constructor
  · intro h1
    have h3 := h1.le (T := fun _ => False) fun z hzm => by rw [h z hzm]; exact .zero
    exact span_no h3
  · intro e; rw [e]; exact .zero
end
end Go.Proofs.Ytbbjpjkclealfaa
namespace Go.Proofs.Ytbbjpjkclealfaa
set_option linter.unusedVariables false
set_option linter.unusedSimpArgs false

section
variable {V K : Type} {G : Grp V} (P : Pla V K G)
def elimF (one : V) (k : K) (v : V) : V := if P.has v k = true then G.add v one else v
def elimS (s : List V × V) (k : K) : List V × V :=
  match s.1.find? fun z => P.has z k with
  | none => s
  | some one => (s.1.map (elimF P one k), elimF P one k s.2)
theorem elim_has {one : V} {k : K} (h1 : P.has one k = true) (v : V) (j : K) : P.has (elimF P one k v) j = (P.has v j != (P.has v k && P.has one j)) := by
  unfold elimF
  split
  · rename_i h; rw [P.hasA, h]; simp
  · rename_i h
    have h2 : P.has v k = false := by simpa using h
    rw [h2]; simp
theorem elim_span {Z : List V} {one : V} {k : K} (h1 : P.has one k = true) (hm : one ∈ Z) (v : V) : Span G (· ∈ Z) v ↔ Span G (· ∈ Z.map (elimF P one k)) (elimF P one k v) := by
  have hz0 : ∀ z ∈ Z.map (elimF P one k), P.has z k = false := by
    intro z hz
    obtain ⟨u, hu, rfl⟩ := List.mem_map.1 hz
    rw [elim_has P h1, h1]; simp
  have hback : ∀ u, Span G (· ∈ Z.map (elimF P one k)) u → Span G (· ∈ Z) u := fun u hu => hu.le fun z hz => by
    obtain ⟨t, ht, rfl⟩ := List.mem_map.1 hz
    unfold elimF
    split
    · exact (Span.of ht).plus (.of hm)
    · exact .of ht
  have hfor : ∀ u, Span G (· ∈ Z) u → Span G (· ∈ one :: Z.map (elimF P one k)) u := fun u hu => hu.le fun z hz => by
    have h2 : Span G (· ∈ one :: Z.map (elimF P one k)) (elimF P one k z) := .of (List.mem_cons_of_mem _ (List.mem_map.2 ⟨z, hz, rfl⟩))
    unfold elimF at h2
    split at h2
    · rw [G.comm] at h2; exact Span.cancel (.of (List.mem_cons_self ..)) h2
    · exact h2
  constructor
  · intro h
    unfold elimF
    rcases Span.cons_iff.1 (hfor v h) with h2 | h2
    · have h3 : P.has v k = false := h2.only (f := fun u => P.has u k) (P.has0 _) (fun x y => P.hasA x y _) hz0
      rw [if_neg (by rw [h3]; simp)]
      exact h2
    · have h3 : P.has (G.add one v) k = false := h2.only (f := fun u => P.has u k) (P.has0 _) (fun x y => P.hasA x y _) hz0
      rw [P.hasA, h1] at h3
      rw [if_pos (by simpa using h3), G.comm]
      exact h2
  · intro h
    have h2 := hback _ h
    unfold elimF at h2
    split at h2
    · rw [G.comm] at h2; exact Span.cancel (.of hm) h2
    · exact h2
theorem elim_step (s : List V × V) (k : K) : (Span G (· ∈ s.1) s.2 ↔ Span G (· ∈ (elimS P s k).1) (elimS P s k).2) ∧ (∀ z ∈ (elimS P s k).1, P.has z k = false) ∧ ∀ j, (∀ z ∈ s.1, P.has z j = false) → ∀ z ∈ (elimS P s k).1, P.has z j = false := by
  unfold elimS
  split
  · rename_i h
    refine ⟨Iff.rfl, fun z hz => ?_, fun j hj => hj⟩
    have := List.find?_eq_none.1 h z hz
    simpa using this
  · rename_i one h
    have h1 : P.has one k = true := by simpa using List.find?_some h
    have hm := List.mem_of_find?_eq_some h
    refine ⟨elim_span P h1 hm _, fun z hz => ?_, fun j hj z hz => ?_⟩
    · obtain ⟨u, hu, rfl⟩ := List.mem_map.1 hz
      rw [elim_has P h1, h1]; simp
    · obtain ⟨u, hu, rfl⟩ := List.mem_map.1 hz
      rw [elim_has P h1, hj u hu, hj one hm]; simp
theorem elim_all : ∀ (ks : List K) (s : List V × V), (Span G (· ∈ s.1) s.2 ↔ Span G (· ∈ (ks.foldl (elimS P) s).1) (ks.foldl (elimS P) s).2) ∧ (∀ k ∈ ks, ∀ z ∈ (ks.foldl (elimS P) s).1, P.has z k = false) ∧ ∀ j, (∀ z ∈ s.1, P.has z j = false) → ∀ z ∈ (ks.foldl (elimS P) s).1, P.has z j = false
  | [], s => ⟨Iff.rfl, fun k hk => (by cases hk), fun j h => h⟩
  | k :: ks, s => by
    obtain ⟨a1, a2, a3⟩ := elim_step P s k
    obtain ⟨b1, b2, b3⟩ := elim_all ks (elimS P s k)
    refine ⟨a1.trans b1, fun j hj => ?_, fun j h => b3 j (a3 j h)⟩
    rcases List.mem_cons.1 hj with rfl | hj
    · exact b3 _ a2
    · exact b2 j hj
/-- with all places taken, what is of the span has come to nothing -/
theorem elim_end (ks : List K) (Z : List V) (v : V) (sep : ∀ z, Span G (· ∈ Z) z → (∀ k ∈ ks, P.has z k = false) → z = G.zero) : Span G (· ∈ Z) v ↔ (ks.foldl (elimS P) (Z, v)).2 = G.zero := by
  obtain ⟨h1, h2, -⟩ := elim_all P ks (Z, v)
  have hsub : ∀ (ks : List K) (s : List V × V), ∀ z ∈ (ks.foldl (elimS P) s).1, Span G (· ∈ s.1) z := by
    intro ks
    induction ks with
    | nil => intro s z hz; exact .of hz
    | cons k ks ih =>
      intro s z hz
      refine (ih (elimS P s k) z hz).le fun u hu => ?_
      unfold elimS at hu
      split at hu
      · exact .of hu
      · rename_i one h
        obtain ⟨t, ht, rfl⟩ := List.mem_map.1 hu
        unfold elimF
        split
        · exact (Span.of ht).plus (.of (List.mem_of_find?_eq_some h))
        · exact .of ht
  have h0 : ∀ z ∈ (ks.foldl (elimS P) (Z, v)).1, z = G.zero := fun z hz => sep z (hsub ks (Z, v) z hz) fun k hk => h2 k hk z hz
  refine h1.trans ⟨fun h => ?_, fun h => by rw [h]; exact .zero⟩
  exact span_no (h.le fun z hz => by rw [h0 z hz]; exact .zero)
end
end Go.Proofs.Ytbbjpjkclealfaa
namespace Go.Proofs.Ytbbjpjkclealfaa
open Go
set_option linter.unusedVariables false
set_option linter.unusedSimpArgs false

/-- a word whose keys are right and rise and whose load is four bytes -/
def wOk (x : C2) : Prop := keysOkR x.1 = true ∧ x.2.size = 4
abbrev W2 := { x : C2 // wOk x }
def addC (a b : C2) : C2 := (mergeL false a.1 b.1, xorS a.2 b.2)
theorem addC_ok {a b : C2} (ha : wOk a) (hb : wOk b) : wOk (addC a b) := ⟨merge_ok false a.1 b.1 ha.1 hb.1, by show (xorS a.2 b.2).size = 4; rw [xorS_size a.2 b.2 (by rw [ha.2, hb.2]), ha.2]⟩
theorem merge_iff {a b : List K2} (ha : keysOkR a = true) (hb : keysOkR b = true) (k : K2) : k ∈ mergeL false a b ↔ ((k ∈ a ∨ k ∈ b) ∧ ¬ (k ∈ a ∧ k ∈ b)) := by
  rw [merge_mem ha hb]; simp
theorem merge_assoc {a b c : List K2} (ha : keysOkR a = true) (hb : keysOkR b = true) (hc : keysOkR c = true) : mergeL false (mergeL false a b) c = mergeL false a (mergeL false b c) := by
  have h1 := merge_ok false a b ha hb
  have h2 := merge_ok false b c hb hc
  refine ok_ext (merge_ok false _ _ h1 hc) (merge_ok false _ _ ha h2) fun k => ?_
  rw [merge_iff h1 hc, merge_iff ha h2, merge_iff ha hb, merge_iff hb hc]
  by_cases x : k ∈ a <;> by_cases y : k ∈ b <;> by_cases z : k ∈ c <;> simp [x, y, z]
theorem key_nil : keysOkR [] = true := by decide
def grpW : Grp W2 where
  add a b := ⟨addC a.1 b.1, addC_ok a.2 b.2⟩
  zero := ⟨blankC, key_nil, rfl⟩
  comm := fun a b => Subtype.ext (by
    show addC a.1 b.1 = addC b.1 a.1
    unfold addC
    rw [merge_comm false a.2.1 b.2.1, xorS_comm a.1.2 b.1.2 (by rw [a.2.2, b.2.2])])
  assoc := fun a b c => Subtype.ext (by
    show addC (addC a.1 b.1) c.1 = addC a.1 (addC b.1 c.1)
    unfold addC
    dsimp only
    rw [merge_assoc a.2.1 b.2.1 c.2.1, xorS_assoc a.1.2 b.1.2 c.1.2 (by rw [a.2.2, b.2.2]) (by rw [b.2.2, c.2.2])])
  self := fun a => Subtype.ext (by
    show addC a.1 a.1 = blankC
    unfold addC
    rw [parted_self a.2.1, xorS_self _ a.2.2]; rfl)
  zl := fun a => Subtype.ext (by
    show addC blankC a.1 = a.1
    unfold addC blankC
    dsimp only
    rw [mergeL_nil_l, xorS_z4l _ a.2.2])
def hasW (a : W2) (k : K2) : Bool := decide (k ∈ a.1.1)
theorem hasW_add (x y : W2) (k : K2) : hasW (grpW.add x y) k = (hasW x k != hasW y k) := by
  show decide (k ∈ mergeL false x.1.1 y.1.1) = (decide (k ∈ x.1.1) != decide (k ∈ y.1.1))
  by_cases h1 : k ∈ x.1.1 <;> by_cases h2 : k ∈ y.1.1 <;> simp [merge_iff x.2.1 y.2.1, h1, h2]
def ordW : Ord W2 K2 grpW where
  piv a := a.1.1.headD (0, 0)
  has := hasW
  has0 := fun k => by show decide (k ∈ ([] : List K2)) = false; simp
  hasA := hasW_add
  lt a b := aheadB a b = true
  tri := fun a b => by
    cases h1 : aheadB a b with
    | true => exact .inl rfl
    | false =>
      cases h2 : aheadB b a with
      | true => exact .inr (.inr rfl)
      | false => exact .inr (.inl (ahead_total h1 h2))
  trans := fun a b c h1 h2 => ahead_trans h1 h2
  bare a := a.1.1.isEmpty
  bare1 := fun v h k => by
    unfold hasW
    rw [List.isEmpty_iff.1 h]; simp
  bare2 := fun v h => by
    have hr := ((keysR_iff v.1.1).1 v.2.1).2
    unfold hasW
    cases hv : v.1.1 with
    | nil => rw [hv] at h; cases h
    | cons a l =>
      rw [hv] at hr
      refine ⟨by simp, fun k hk => ?_⟩
      have hk' : aheadB k a = true := hk
      have hn : ¬ k ∈ a :: l := by
        intro hm
        rcases List.mem_cons.1 hm with rfl | hm
        · rw [ahead_irrefl] at hk'; cases hk'
        · have h3 := (List.pairwise_cons.1 hr).1 k hm
          rw [ahead_asymm h3] at hk'; cases hk'
      simpa using hn
  uniq := fun v q h1 h2 => by
    have hr := ((keysR_iff v.1.1).1 v.2.1).2
    unfold hasW at h1 h2
    cases hv : v.1.1 with
    | nil => rw [hv] at h1; simp at h1
    | cons a l =>
      rw [hv] at hr h1 h2
      show a = q
      rcases List.mem_cons.1 (by simpa using h1) with h | h
      · exact h.symm
      · have h3 := (List.pairwise_cons.1 hr).1 q h
        have h4 := h2 a h3
        simp at h4
theorem bareW (v : W2) : ordW.bare v = true ↔ v.1.1 = [] := List.isEmpty_iff
theorem zeroW (v : W2) (h : v.1.1 = []) : v = grpW.zero ↔ v.1.2 = z4 := by
  constructor
  · rintro rfl; rfl
  · intro h2
    refine Subtype.ext ?_
    show v.1 = ([], z4)
    rw [← h, ← h2]
end Go.Proofs.Ytbbjpjkclealfaa
namespace Go.Proofs.Ytbbjpjkclealfaa
open Go.ChangeShapes Go.WideShapes Go.ChangeAt Go.RowKit Go.BigFrame
set_option linter.unusedVariables false

theorem keys_few {ks : List K2} (h : keysOkR ks = true) : ks.length ≤ 1980 := by
  obtain ⟨h1, h2⟩ := (keysR_iff ks).1 h
  have hm : ∀ (l : List K2) (n : Int), (∀ k ∈ l, keyOkB k = true) → Rising l → (∀ k ∈ l, n ≤ (k.1 - 1) * 99 + k.2) → n ≤ 1981 → (l.length : Int) ≤ 1981 - n := by
    intro l
    induction l with
    | nil => intro n _ _ _ h; simp; omega
    | cons a l ih =>
      intro n g1 g2 g3 g4
      have ha := g1 a (List.mem_cons_self ..)
      have hp := g3 a (List.mem_cons_self ..)
      have g2' := List.pairwise_cons.1 g2
      have hb : (1 ≤ a.1 ∧ a.1 ≤ 20) ∧ 1 ≤ a.2 ∧ a.2 ≤ 99 := by unfold keyOkB at ha; simpa using ha
      have := ih ((a.1 - 1) * 99 + a.2 + 1) (fun k hk => g1 k (List.mem_cons_of_mem _ hk)) g2'.2 (fun k hk => by
        have h3 := g2'.1 k hk
        have hk1 := g1 k (List.mem_cons_of_mem _ hk)
        have hkb : (1 ≤ k.1 ∧ k.1 ≤ 20) ∧ 1 ≤ k.2 ∧ k.2 ≤ 99 := by unfold keyOkB at hk1; simpa using hk1
        rw [ahead_iff] at h3
        omega) (by omega)
      simp only [List.length_cons]
      omega
  have := hm ks 1 h1 h2 (fun k hk => by
    have hk1 := h1 k hk
    have hkb : (1 ≤ k.1 ∧ k.1 ≤ 20) ∧ 1 ≤ k.2 ∧ k.2 ≤ 99 := by unfold keyOkB at hk1; simpa using hk1
    omega) (by omega)
  omega
set_option maxRecDepth 100000 in
set_option maxHeartbeats 4000000 in
theorem sadd_any (va : Value) (A : List K2) (ya : ByteArray) (vb : Value) (B : List K2) (yb : ByteArray) (w : World) (ha : keysAt w va A) (hb : keysAt w vb B) (hA : wOk (A, ya)) (hB : wOk (B, yb)) :
    Calls Try.prog 42 #[.agg #[va, .string ya], .agg #[vb, .string yb]] w fun e w' => ∃ v', e = .returned (.agg #[v', .string (addC (A, ya) (B, yb)).2]) ∧
      w'.ownsRow w.heap.size 41 2 v' (addC (A, ya) (B, yb)).1.length (keyCells (addC (A, ya) (B, yb)).1) ∧ Below w.heap.size w w' := by
  have hAl := keys_few hA.1; have hBl := keys_few hB.1
  have hya : ya.size = 4 := hA.2
  have hyb : yb.size = 4 := hB.2
  have HP := Lib.hid (cbc_new w va ya vb yb)
  have SP := Lib.hid (fun w' (h : Below w.heap.size w w') => sparted_any va vb A B w' (keysAt_below ha h) (keysAt_below hb h) (by dsimp only at hAl; omega) (by dsimp only at hBl; omega))
  have SX := Lib.hid (fun w' => sxor_any ya yb w' (by omega) (by omega))
  have HMV : mergeV false A B = mergeL false A B := by
    have h1 : keysOkR A = true := hA.1
    have h2 : keysOkR B = true := hB.1
    unfold mergeV; rw [h1, h2]; rfl
  rw [HMV] at SP
  obtain ⟨aa, ca, hva, -, -⟩ := ha
  obtain ⟨ab, cb, hvb, -, -⟩ := hb
  subst hva; subst hvb
  unfold addC
  dsimp only
  clear HMV hAl hBl hya hyb hA hB
  go_enter Try.func42, Try.ntmps42
  go_wp2_with fail
  generalize ((w.alloc (.cells #[.slice aa A.length ca, .string ya] 27)).alloc (.cells #[.slice ab B.length cb, .string yb] 27)).alloc (.cells #[.slice none 0 0, .string ⟨#[]⟩] 27) = W at *
  have L1 : ∀ w' : World, w'.heap[w.heap.size]? = some (.cells #[.slice aa A.length ca, .string ya] 27) ∧ w'.heap[w.heap.size + 1]? = some (.cells #[.slice ab B.length cb, .string yb] 27) → (loadVar 25 ⟨w.heap.size, 0, none⟩).run Try.prog w' = .ok (.slice aa A.length ca) w' := fun w' h => cd_loadk h.1 (Below.refl _ _)
  have L2 : ∀ w' : World, w'.heap[w.heap.size]? = some (.cells #[.slice aa A.length ca, .string ya] 27) ∧ w'.heap[w.heap.size + 1]? = some (.cells #[.slice ab B.length cb, .string yb] 27) → (loadVar 9 ⟨w.heap.size, 1, none⟩).run Try.prog w' = .ok (.string ya) w' := fun w' h => cd_loads h.1 (Below.refl _ _)
  have L3 : ∀ w' : World, w'.heap[w.heap.size]? = some (.cells #[.slice aa A.length ca, .string ya] 27) ∧ w'.heap[w.heap.size + 1]? = some (.cells #[.slice ab B.length cb, .string yb] 27) → (loadVar 25 ⟨w.heap.size + 1, 0, none⟩).run Try.prog w' = .ok (.slice ab B.length cb) w' := fun w' h => cd_loadk h.2 (Below.refl _ _)
  have L4 : ∀ w' : World, w'.heap[w.heap.size]? = some (.cells #[.slice aa A.length ca, .string ya] 27) ∧ w'.heap[w.heap.size + 1]? = some (.cells #[.slice ab B.length cb, .string yb] 27) → (loadVar 9 ⟨w.heap.size + 1, 1, none⟩).run Try.prog w' = .ok (.string yb) w' := fun w' h => cd_loads h.2 (Below.refl _ _)
  have HRA := Lib.hid HP.out.rowa
  have HRB := Lib.hid HP.out.rowb
  have HRES := Lib.hid HP.out.res
  have HB0 := Lib.hid HP.out.below
  have HSZ := Lib.hid HP.out.size
  clear HP
  refine wp_region_G (fun w' => w'.heap[w.heap.size]? = some (.cells #[.slice aa A.length ca, .string ya] 27) ∧ w'.heap[w.heap.size + 1]? = some (.cells #[.slice ab B.length cb, .string yb] 27)) (by kernel_rfl) ?_
  replace HRA := Lib.hid (show (World.drew _).heap[_]? = _ from HRA.out)
  replace HRB := Lib.hid (show (World.drew _).heap[_]? = _ from HRB.out)
  replace HB0 := Lib.hid (HB0.out.drew)
  replace HRES := Lib.hid (show (World.drew _).heap[_]? = _ from HRES.out)
  replace HSZ := Lib.hid (show _ ≤ (World.drew _).heap.size from HSZ.out)
  generalize (W).drew = wD at *
  refine wpG_seg [true, true, true, true, false, true, true, true, true] [4] 3 (by kernel_rfl) (by intro c a d v w h; cases d <;> exact h) (by kernel_rfl) ⟨HRA.out, HRB.out⟩ ?_
  try simp only [maskRows]
  repeat (first
    | go_big_quiet_skip
    | (go_big_quiet_want
       first
         | (go_big_quiet_op; go_big_quiet_on)
         | (refine q_load 25 _ _ _ rfl rfl L1 ?_; simp only [Act.put, List.setIfInBounds_toArray, List.set_cons_zero, List.set_cons_succ]; go_big_quiet_on)
         | (refine q_load 9 _ _ _ rfl rfl L2 ?_; simp only [Act.put, List.setIfInBounds_toArray, List.set_cons_zero, List.set_cons_succ]; go_big_quiet_on)
         | (refine q_load 25 _ _ _ rfl rfl L3 ?_; simp only [Act.put, List.setIfInBounds_toArray, List.set_cons_zero, List.set_cons_succ]; go_big_quiet_on)
         | (refine q_load 9 _ _ _ rfl rfl L4 ?_; simp only [Act.put, List.setIfInBounds_toArray, List.set_cons_zero, List.set_cons_succ]; go_big_quiet_on)
         | (go_big_quiet_op; refine ⟨_, fun _ _ => rfl, ?_⟩; go_big_quiet_on)
         | (go_big_quiet_op; refine ⟨_, fun _ _ _ => rfl, ?_⟩; go_big_quiet_on)))
  refine wpQuiet_nil ?_
  refine List.forall_mem_singleton.2 ?_
  refine segt_run rfl (by rfl) (fun K hK => ?_)
  go_simp
  refine (SP.out _ HB0.out).mono ?_
  rintro e w3 ⟨v3, rfl, ho3, hb⟩
  dsimp only
  have HSZo := Lib.hid HSZ.out
  have hNE := fun (b6 : Nat) (hl : b6 < wD.heap.size) (e : v3.ownBlock = some b6) => (absurd (ho3.lt b6 e).1 (Nat.not_le.2 hl) : False)
  replace HRA := Lib.hid ((hb.block _ (Array.getElem?_eq_some_iff.1 HRA.out).1).trans HRA.out)
  replace HRB := Lib.hid ((hb.block _ (Array.getElem?_eq_some_iff.1 HRB.out).1).trans HRB.out)
  replace HB0 := Lib.hid (HB0.out.trans (hb.mono HB0.out.size))
  replace HRES := Lib.hid ((hb.block _ (Array.getElem?_eq_some_iff.1 HRES.out).1).trans HRES.out)
  replace HSZ := Lib.hid (Nat.le_trans HSZ.out hb.size)
  clear hNE
  obtain ⟨a3, n3, k3, rfl⟩ := own_shape ho3
  have HO := Lib.hid (own_base ho3 HSZo.out)
  clear ho3 HSZo
  clear hb
  refine hK _ _ ⟨_, fun _ h => h, ⟨HRA.out, HRB.out⟩, ?_⟩
  clear hK K
  try simp only [Act.put, List.setIfInBounds_toArray, List.set_cons_zero, List.set_cons_succ]
  refine wpG_seg [] [9] 2 (by kernel_rfl) (by intro c a d v w h; cases d <;> exact h) (by kernel_rfl) ⟨HRA.out, HRB.out⟩ ?_
  try simp only [maskRows]
  refine wpQuiet_nil ?_
  refine List.forall_mem_singleton.2 ?_
  refine segt_run rfl (by rfl) (fun K hK => ?_)
  go_simp
  refine (SX.out _).mono ?_
  rintro e w4 ⟨rfl, hb⟩
  dsimp only
  replace HRA := Lib.hid ((hb.block _ (Array.getElem?_eq_some_iff.1 HRA.out).1).trans HRA.out)
  replace HRB := Lib.hid ((hb.block _ (Array.getElem?_eq_some_iff.1 HRB.out).1).trans HRB.out)
  replace HB0 := Lib.hid (HB0.out.trans (hb.mono HB0.out.size))
  replace HRES := Lib.hid ((hb.block _ (Array.getElem?_eq_some_iff.1 HRES.out).1).trans HRES.out)
  replace HSZ := Lib.hid (Nat.le_trans HSZ.out hb.size)
  replace HO := Lib.hid (own_below HO.out hb)
  clear hb
  refine hK _ _ ⟨_, fun _ h => h, ⟨HRA.out, HRB.out⟩, ?_⟩
  clear hK K
  try simp only [Act.put, List.setIfInBounds_toArray, List.set_cons_zero, List.set_cons_succ]
  refine wpG_seg [] [10] 1 (by kernel_rfl) (by intro c a d v w h; cases d <;> exact h) (by kernel_rfl) ⟨HRA.out, HRB.out⟩ ?_
  try simp only [maskRows]
  refine wpQuiet_nil ?_
  refine List.forall_mem_singleton.2 ?_
  refine segt_run rfl (by rfl) (fun K hK => ?_)
  go_simp
  refine hK _ _ ⟨_, fun _ h => h, ⟨HRA.out, HRB.out⟩, ?_⟩
  clear hK K
  try simp only [Act.put, List.setIfInBounds_toArray, List.set_cons_zero, List.set_cons_succ]
  refine wpG_seg [] [11] 0 (by kernel_rfl) (by intro c a d v w h; cases d <;> exact h) (by kernel_rfl) ⟨HRA.out, HRB.out⟩ ?_
  try simp only [maskRows]
  refine wpQuiet_nil ?_
  refine List.forall_mem_singleton.2 ?_
  obtain ⟨c0, c1, f0, f1⟩ := row2_of HRES.out
  have hlt := (Array.getElem?_eq_some_iff.1 HRES.out).1
  have HF := Lib.hid (And.intro (cd_res HRES.out (.slice a3 n3 k3) (xorS ya yb)) (And.intro (own_base (own_set2 HO.out (by omega : w.heap.size + 2 < w.heap.size + 3) (.slice a3 n3 k3) (.string (xorS ya yb))) (by omega : w.heap.size ≤ w.heap.size + 3)) (below2 HB0.out (by omega : w.heap.size ≤ w.heap.size + 2) (.slice a3 n3 k3) (.string (xorS ya yb)))))
  have HRA' := Lib.hid (row_set2 HRA.out (by omega : w.heap.size ≠ w.heap.size + 2) (.slice a3 n3 k3) (.string (xorS ya yb)))
  have HRB' := Lib.hid (row_set2 HRB.out (by omega : w.heap.size + 1 ≠ w.heap.size + 2) (.slice a3 n3 k3) (.string (xorS ya yb)))
  clear HRES HO HB0 HSZ
  refine segt_run rfl (by rfl) (fun K hK => ?_)
  go_simp
  replace HRA := HRA'
  replace HRB := HRB'
  clear HRA' HRB' c0 c1 f0 f1 hlt
  refine hK _ _ ⟨_, fun _ h => h, ⟨HRA.out, HRB.out⟩, ?_⟩
  clear hK K
  try simp only [Act.put, List.setIfInBounds_toArray, List.set_cons_zero, List.set_cons_succ]
  refine wpG_end [] (by kernel_rfl) (by intro c a d v w h; cases d <;> exact h) (by kernel_rfl) ⟨HRA.out, HRB.out⟩ ?_
  try simp only [maskRows]
  refine wpQuiet_nil ?_
  clear HRA HRB
  go_wp2_with fail
  refine bodyPost_ret (v := .agg #[.slice a3 n3 k3, .string (xorS ya yb)]) ?_ rfl ⟨_, rfl, HF.out.2.1, HF.out.2.2⟩
  rw [results_cell (p := 4) (ty := 27) (by kernel_rfl)]
  have l2 := HF.out.1
  simp [asAddr, Result.andThen, l2]
end Go.Proofs.Ytbbjpjkclealfaa
