/- What the laws lean on (own lemmas and walks of the called functions). -/
import Derived.StillTail
import Derived.OrdersIn
import Derived.RangeFuncCalls
import Derived.Deep.RegionHeld3
import Derived.KernelRfl
import Derived.Test.YtcecodjipeahkaaRows
import Derived.WalkKit
import Derived.ProofKit
import Derived.OpenShut
import Derived.ShutString
import Derived.Below
import Derived.Outline
import Derived.WalkSpells
import Derived.WalkLawsBesides
import Derived.Deep.AppendLies
import Derived.StillTactics
import Derived.Laws.BytesArg
import Derived.Laws.OwnMore
import Derived.Maps.AppendAt
import Derived.Lib.Hide
import Derived.BigQuiet
import Derived.Deep.MidRow
import Derived.Laws.StructEq
import Derived.Deep.WholeRow
import Derived.Deep.QuietTactic
import Derived.RangeFuncBox
import Derived.Lib.SmallJoins
import Derived.Lib.BufferWrite
import Derived.Lib.Bytealg
import Derived.Deep.RegionLaw
import Derived.RangeFuncNested
import Derived.RangeFuncLeaves
import Derived.Shelf.Abstract
import Derived.OwnWalkIn
import Derived.TacticsInMore
import Derived.LoopNIn
import Derived.LoopIn
import Derived.OrdersHeld
import Derived.Deep.Quiet
import Derived.Maps.OwnIn
import Derived.Great.BuildSlice
import Derived.Lib.SlBuf
import Derived.Laws.CopyOwn
import Derived.Stop.BytesEq
import Derived.Deep.DeepCutAuto
import Derived.Deep.SlicePairs
set_option linter.unusedVariables false
set_option linter.unusedSimpArgs false
namespace Go.Proofs.Ytcecodjipeahkaa
open Go
section
variable {P : Program} {ops : Array Oper} {md : Region.Mode} {w : World}

def todo (n : Nat) (listed : Array Bool) : List Nat := (List.range n).filter fun i => !listed.getD i true
def rowsOf (ops : Array Oper) (is : List Nat) : List Oper := is.filterMap (ops[·]?)

def pairB (md : Region.Mode) (ops : Array Oper) (n : Nat) : Bool :=
  (List.range n).all fun i => (List.range i).all fun j => Region.waitsFor md ops i j || match ops[j]?, ops[i]? with
    | some oj, some oi => oj.apart ops oi
    | _, _ => false
def depsB (md : Region.Mode) (ops : Array Oper) (n : Nat) : Bool :=
  (List.range n).all fun i => match ops[i]? with
    | some o => o.after.all fun e => !Region.binds md e || decide (e.on < i)
    | none => false
def sinkFromB (md : Region.Mode) (ops : Array Oper) (n : Nat) (L0 : Array Bool) : Bool :=
  (List.range n).all fun i => L0.getD i true || (List.range (n + 1)).any fun j => decide (i < j) && Region.waitsFor md ops j i

theorem waits_listed {i j : Nat} {listed : Array Bool} (hr : i ∈ Region.ready md ops listed) (hw : Region.waitsFor md ops i j = true) : listed.getD j false = true := by
  obtain ⟨_, o, ho, hall⟩ := mem_ready.1 hr
  obtain ⟨o', ho', e, he, hb, hon⟩ := Region.waitsFor_spec hw
  obtain rfl : o' = o := Option.some.inj (ho'.symm.trans ho)
  rw [← hon]; exact hall e he hb

theorem tail_sleeps {n : Nat} {L0 listed : Array Bool} (hs : sinkFromB md ops n L0 = true) (hc : Region.chainB md ops n = true) (hn : n < ops.size) (h0 : L0.size = ops.size)
    (inv : HeadInv md ops n listed) (hle : ∀ i, L0.getD i false = true → listed.getD i false = true) :
    ∀ (d i : Nat), n - i ≤ d → i < n → listed.getD i true = false → ∀ t, n ≤ t → t ∉ Region.ready md ops listed := by
  intro d
  induction d with
  | zero => intro i h1 h2; omega
  | succ d ih =>
    intro i hd hi hun t ht hr
    have htl : t < ops.size := by
      obtain ⟨_, o, ho, _⟩ := mem_ready.1 hr
      exact (Array.getElem?_eq_some_iff.1 ho).1
    by_cases htn : n < t
    · have h1 := List.all_eq_true.1 hc t (List.mem_range.2 htl)
      simp only [Bool.or_eq_true, decide_eq_true_eq] at h1
      rcases h1 with h1 | h1
      · omega
      · have h2 := waits_listed hr h1
        have h3 := getD_both (inv.tail (t - 1) (by omega) (by omega))
        rw [h3] at h2; cases h2
    · obtain rfl : t = n := by omega
      have h1 := List.all_eq_true.1 hs i (List.mem_range.2 hi)
      simp only [Bool.or_eq_true] at h1
      rcases h1 with h1 | h1
      · have : L0.getD i false = true := by
          cases h4 : L0.getD i false with
          | true => rfl
          | false => rw [getD_in (by omega) h4] at h1; cases h1
        have := hle i this
        rw [getD_both hun] at this; cases this
      · obtain ⟨j, hj, h2⟩ := List.any_eq_true.1 h1
        simp only [Bool.and_eq_true, decide_eq_true_eq] at h2
        have hjn := List.mem_range.1 hj
        by_cases hjt : j = t
        · subst hjt
          have := waits_listed hr h2.2
          rw [getD_both hun] at this; cases this
        · cases hl : listed.getD j false with
          | true =>
            obtain ⟨o', ho', e, he, hb, hon⟩ := Region.waitsFor_spec h2.2
            have := inv.closed j o' ho' hl e he hb
            rw [hon, getD_both hun] at this; cases this
          | false => exact ih j (by omega) (by omega) (getD_in (by rw [inv.size]; omega) hl) t (by omega) hr

theorem bubble {i : Nat} {oi : Oper} {Lq : Act → Prop} (hi : ops[i]? = some oi) (hsel : ∀ (j : Nat) (o : Oper) cs b, ops[j]? = some o → o.op ≠ .select cs b) (post : List Oper) :
    ∀ (pre : List Oper) (a : Act), (∀ o ∈ pre, ∃ j : Nat, ops[j]? = some o ∧ o.apart ops oi = true) → wpStill P ops w Lq (pre ++ oi :: post) a → stOp P ops w i (wpStill P ops w Lq (pre ++ post)) a
  | [], a, _, h => by
    unfold stOp; simp only [hi]; exact h
  | o :: pre, a, hap, h => by
    obtain ⟨j, hj, hA⟩ := hap o (by simp)
    have h1 : stOp P ops w j (wpStill P ops w Lq (pre ++ oi :: post)) a := by unfold stOp; simp only [hj]; exact h
    obtain ⟨v, hy, hK⟩ := yieldsAt_of_stOp hj h1
    have h2 := bubble hi hsel post pre _ (fun o' ho' => hap o' (by simp [ho'])) hK
    refine stOp_mono (fun a' h3 => ?_) (stOp_put hi hA (fun cs b => hsel j o cs b hj) (fun cs b => hsel i oi cs b hi) hy h2)
    have h4 := h3.1.stOp (P := P) (ops := ops) (w := w) hj (K := wpStill P ops w Lq (pre ++ post)) h3.2
    unfold stOp at h4; simp only [hj] at h4; exact h4

theorem todo_split {n i : Nat} {listed : Array Bool} (hi : i < n) (hsz : i < listed.size) (hun : listed.getD i true = false) :
    ∃ pre post, todo n listed = pre ++ i :: post ∧ todo n (listed.setIfInBounds i true) = pre ++ post ∧ ∀ j ∈ pre, j < i ∧ listed.getD j true = false := by
  have hr : List.range n = List.range' 0 i ++ i :: List.range' (i + 1) (n - i - 1) := by
    rw [List.range_eq_range']
    have h1 : n = i + ((n - i - 1) + 1) := by omega
    conv => lhs; rw [h1]
    have h2 := List.range'_append (s := 0) (m := i) (n := (n - i - 1) + 1) (step := 1)
    rw [← h2]; simp [List.range'_succ]
  refine ⟨(List.range' 0 i).filter (fun k => !listed.getD k true), (List.range' (i + 1) (n - i - 1)).filter (fun k => !listed.getD k true), ?_, ?_, ?_⟩
  · unfold todo; rw [hr, List.filter_append, List.filter_cons]; simp only [hun]; simp
  · unfold todo
    rw [hr, List.filter_append, List.filter_cons]
    have hset : (listed.setIfInBounds i true).getD i true = true := by simp [hsz]
    simp only [hset]
    have e1 : ∀ k, k ≠ i → (listed.setIfInBounds i true).getD k true = listed.getD k true := fun k hk => getD_set_ne true (Ne.symm hk)
    have g1 : (List.range' 0 i).filter (fun k => !(listed.setIfInBounds i true).getD k true) = (List.range' 0 i).filter (fun k => !listed.getD k true) := by
      apply List.filter_congr; intro k hk; rw [e1 k (by have := List.mem_range'_1.1 hk; omega)]
    have g2 : (List.range' (i + 1) (n - i - 1)).filter (fun k => !(listed.setIfInBounds i true).getD k true) = (List.range' (i + 1) (n - i - 1)).filter (fun k => !listed.getD k true) := by
      apply List.filter_congr; intro k hk; rw [e1 k (by have := List.mem_range'_1.1 hk; omega)]
    rw [g1, g2]; simp
  · intro j hj
    have h1 := List.mem_filter.1 hj
    have h2 := List.mem_range'_1.1 h1.1
    refine ⟨by omega, ?_⟩
    have h3 := h1.2
    simp only [Bool.not_eq_true'] at h3
    exact h3

def fullHead (n m : Nat) : Array Bool := Array.replicate n true ++ Array.replicate (m - n) false

theorem full_of {n : Nat} {listed : Array Bool} (hn : n < ops.size) (inv : HeadInv md ops n listed) (h : todo n listed = []) : listed = fullHead n ops.size := by
  apply Array.ext
  · simp [fullHead, inv.size]; omega
  · intro k h1 h2
    by_cases hk : k < n
    · have h3 : k ∉ todo n listed := by rw [h]; simp
      simp only [todo, List.mem_filter, List.mem_range, hk, true_and] at h3
      have h4 : listed.getD k true = true := by
        cases hx : listed.getD k true with
        | true => rfl
        | false => rw [hx] at h3; simp at h3
      simp [h1] at h4
      simp [fullHead, hk, h4]
    · have h4 := inv.tail k (by omega) (by rw [← inv.size]; exact h1)
      simp [h1] at h4
      simp [fullHead, hk, h4, Array.getElem_append]

/-- 'wpAny', and as long as number c has not come, S behind each operation. -/
def wpAnyU (P : Program) (md : Region.Mode) (ops : Array Oper) (Q : Exit → Act → World → Prop) (S : World → Prop) (c : Nat) : Nat → Array Bool → Act → World → Prop
  | 0, listed, a, w => Region.ready md ops listed = [] ∧ Q .normal a w
  | f + 1, listed, a, w => (Region.ready md ops listed = [] → Q .normal a w) ∧
    ∀ i ∈ Region.ready md ops listed, wpOp P ops Q i (fun a' w' => ((listed.setIfInBounds i true).getD c true = false → S w') ∧ wpAnyU P md ops Q S c f (listed.setIfInBounds i true) a' w') a w

theorem wpAnyU_drop {Q : Exit → Act → World → Prop} {S : World → Prop} {c : Nat} : ∀ (f : Nat) (listed : Array Bool) (a : Act) (w : World), wpAnyU P md ops Q S c f listed a w → wpAny P md ops Q f listed a w
  | 0, _, _, _, h => h
  | f + 1, _, _, _, h => ⟨h.1, fun i hi => wpOp_mono (fun _ _ h' => wpAnyU_drop f _ _ _ h'.2) (h.2 i hi)⟩

theorem free_set {i j : Nat} {oi : Oper} {listed : Array Bool} (hjun : listed.getD j true = false)
    (hfree : ∀ k ok, ops[k]? = some ok → k ≠ i → listed.getD k true = false → (∀ e ∈ ok.after, Region.binds md e = true → e.on ≠ i) → oi.apart ops ok = true) :
    ∀ k ok, ops[k]? = some ok → k ≠ i → (listed.setIfInBounds j true).getD k true = false → (∀ e ∈ ok.after, Region.binds md e = true → e.on ≠ i) → oi.apart ops ok = true := by
  intro k ok hk hki hun hno
  refine hfree k ok hk hki ?_ hno
  by_cases hjk : j = k
  · subst hjk; exact hjun
  · rw [getD_set_ne true hjk] at hun; exact hun

theorem not_waits {i : Nat} {oj : Oper} {listed : Array Bool} (hr : i ∈ Region.ready md ops listed) (hall : ∀ e ∈ oj.after, Region.binds md e = true → listed.getD e.on false = true) :
    ∀ e ∈ oj.after, Region.binds md e = true → e.on ≠ i := fun e he hb heq => by
  have h1 := hall e he hb
  rw [heq, getD_both (mem_ready.1 hr).1] at h1; cases h1

/-- A move (it yields in whatever world) may be taken first. -/
theorem moveU {Q : Exit → Act → World → Prop} {S : World → Prop} {c i : Nat} {oi : Oper} {v : Value} (hi : ops[i]? = some oi) (hsel : ∀ (j : Nat) (o : Oper) cs b, ops[j]? = some o → o.op ≠ .select cs b)
    (hQ : ∀ ch a w, Q (.panic ch) (a.put oi.dst v) w → Q (.panic ch) a w) (hc : c ≠ i) :
    ∀ (fuel : Nat) (listed : Array Bool) (a : Act) (w : World),
      (∀ j oj, ops[j]? = some oj → j ≠ i → listed.getD j true = false → (∀ e ∈ oj.after, Region.binds md e = true → e.on ≠ i) → oi.apart ops oj = true) →
      i ∈ Region.ready md ops listed → Yields P ops oi v a → (listed.getD c true = false → S w) →
      wpAnyU P md ops Q S c fuel (listed.setIfInBounds i true) (a.put oi.dst v) w → wpAnyU P md ops Q S c (fuel + 1) listed a w := by
  intro fuel
  induction fuel with
  | zero =>
    intro listed a w _ hr hy hS H
    refine ⟨fun h => (by rw [h] at hr; cases hr), fun j hj => ?_⟩
    by_cases hji : j = i
    · subst hji; exact hy.wpOp hi ⟨fun h => hS (by rwa [getD_set_ne true (Ne.symm hc)] at h), H⟩
    · have := ready_mono hj hji
      rw [H.1] at this; cases this
  | succ fuel ih =>
    intro listed a w hfree hr hy hS H
    refine ⟨fun h => (by rw [h] at hr; cases hr), fun j hj => ?_⟩
    by_cases hji : j = i
    · subst hji; exact hy.wpOp hi ⟨fun h => hS (by rwa [getD_set_ne true (Ne.symm hc)] at h), H⟩
    · have h1 := H.2 j (ready_mono hj hji)
      obtain ⟨hjun, oj, hoj, hall⟩ := mem_ready.1 hj
      have h2 := wpOp_put hoj (hfree j oj hoj hji hjun (not_waits hr hall)) (fun cs b => hsel i oi cs b hi) (fun cs b => hsel j oj cs b hoj) hQ hy h1
      refine wpOp_mono (fun a' w' h3 => ?_) h2
      have hSw : (listed.setIfInBounds j true).getD c true = false → S w' := fun h => h3.2.1 (by rw [Array.setIfInBounds_comm _ _ (Ne.symm hji), getD_set_ne true (Ne.symm hc)]; exact h)
      refine ⟨hSw, ih (listed.setIfInBounds j true) a' w' (free_set hjun hfree) (ready_mono hr (Ne.symm hji)) h3.1 hSw ?_⟩
      rw [Array.setIfInBounds_comm _ _ hji]
      exact h3.2.2

/-- number c waits for number i, over some others -/
def waitsT (md : Region.Mode) (ops : Array Oper) : Nat → Nat → Nat → Bool
  | 0, c, i => Region.waitsFor md ops c i
  | f + 1, c, i => Region.waitsFor md ops c i || (List.range ops.size).any fun j => Region.waitsFor md ops c j && waitsT md ops f j i
theorem waitsT_some {i : Nat} : ∀ (f c : Nat), waitsT md ops f c i = true → ∃ j, Region.waitsFor md ops c j = true ∧ (j = i ∨ ∃ f', waitsT md ops f' j i = true ∧ f' < f)
  | 0, c, h => ⟨i, h, .inl rfl⟩
  | f + 1, c, h => by
    simp only [waitsT, Bool.or_eq_true] at h
    rcases h with h | h
    · exact ⟨i, h, .inl rfl⟩
    · obtain ⟨j, _, hj⟩ := List.any_eq_true.1 h
      simp only [Bool.and_eq_true] at hj
      exact ⟨j, hj.1, .inr ⟨f, hj.2, Nat.lt_succ_self f⟩⟩
theorem waitsT_unlisted {i : Nat} {listed : Array Bool} (inv : HeadInv md ops ops.size listed) (hun : listed.getD i true = false) : ∀ (f c : Nat), waitsT md ops f c i = true → listed.getD c true = false := by
  intro f
  induction f using Nat.strongRecOn with
  | _ f ih =>
    intro c h
    obtain ⟨j, hj, hji⟩ := waitsT_some f c h
    have hju : listed.getD j false = false := by
      rcases hji with rfl | ⟨f', h', hf⟩
      · exact getD_both hun
      · exact getD_both (ih f' hf j h')
    obtain ⟨o, ho, e, he, hb, hon⟩ := Region.waitsFor_spec hj
    refine getD_in (by rw [inv.size]; exact (Array.getElem?_eq_some_iff.1 ho).1) ?_
    cases hc : listed.getD c false with
    | false => rfl
    | true =>
      have := inv.closed c o ho hc e he hb
      rw [hon, hju] at this; cases this
theorem waitsT_sleeps {i f c : Nat} {listed : Array Bool} (inv : HeadInv md ops ops.size listed) (hun : listed.getD i true = false) (h : waitsT md ops f c i = true) : c ∉ Region.ready md ops listed := fun hr => by
  obtain ⟨j, hj, hji⟩ := waitsT_some f c h
  have h1 := waits_listed hr hj
  have hju : listed.getD j false = false := by
    rcases hji with rfl | ⟨f', h', hf⟩
    · exact getD_both hun
    · exact getD_both (waitsT_unlisted inv hun f' j h')
  rw [hju] at h1; cases h1

/-- What reads a cell that S names may be taken first, if number c waits for it. -/
theorem lateU {Q : Exit → Act → World → Prop} {S : World → Prop} {c i : Nat} {oi : Oper} {v : Value} (hi : ops[i]? = some oi) (hsel : ∀ (j : Nat) (o : Oper) cs b, ops[j]? = some o → o.op ≠ .select cs b)
    (hQ : ∀ ch a w, Q (.panic ch) (a.put oi.dst v) w → Q (.panic ch) a w) {F : Nat} (hc : c ≠ i) (hcw : waitsT md ops F c i = true) :
    ∀ (fuel : Nat) (listed : Array Bool) (a : Act) (w : World),
      (∀ j oj, ops[j]? = some oj → j ≠ i → listed.getD j true = false → (∀ e ∈ oj.after, Region.binds md e = true → e.on ≠ i) → oi.apart ops oj = true) →
      i ∈ Region.ready md ops listed → YieldsIf P ops S oi v a → HeadInv md ops ops.size listed → S w →
      wpAnyU P md ops Q S c fuel (listed.setIfInBounds i true) (a.put oi.dst v) w → wpAnyU P md ops Q S c (fuel + 1) listed a w := by
  intro fuel
  induction fuel with
  | zero =>
    intro listed a w _ hr hy inv hS H
    refine ⟨fun h => (by rw [h] at hr; cases hr), fun j hj => ?_⟩
    by_cases hji : j = i
    · subst hji; exact hy.wpOp hi hS ⟨fun _ => hS, H⟩
    · have := ready_mono hj hji
      rw [H.1] at this; cases this
  | succ fuel ih =>
    intro listed a w hfree hr hy inv hS H
    refine ⟨fun h => (by rw [h] at hr; cases hr), fun j hj => ?_⟩
    by_cases hji : j = i
    · subst hji; exact hy.wpOp hi hS ⟨fun _ => hS, H⟩
    · have h1 := H.2 j (ready_mono hj hji)
      obtain ⟨hjun, oj, hoj, hall⟩ := mem_ready.1 hj
      have hjc : j ≠ c := fun e => by
        subst e
        exact waitsT_sleeps inv (mem_ready.1 hr).1 hcw hj
      have h2 := wpOp_putIf hoj (hfree j oj hoj hji hjun (not_waits hr hall)) (fun cs b => hsel i oi cs b hi) (fun cs b => hsel j oj cs b hoj) hQ hy h1
      refine wpOp_mono (fun a' w' h3 => ?_) h2
      have inv' := inv.set hj (Array.getElem?_eq_some_iff.1 hoj).1
      have hcu' : (listed.setIfInBounds j true).getD c true = false := waitsT_unlisted inv' (mem_ready.1 (ready_mono hr (Ne.symm hji))).1 F c hcw
      have hSw : S w' := h3.2.1 (by rw [Array.setIfInBounds_comm _ _ (Ne.symm hji), getD_set_ne true (Ne.symm hc)]; exact hcu')
      refine ⟨fun _ => hSw, ih (listed.setIfInBounds j true) a' w' (free_set hjun hfree) (ready_mono hr (Ne.symm hji)) h3.1 inv' hSw ?_⟩
      rw [Array.setIfInBounds_comm _ _ hji]
      exact h3.2.2

theorem head_any {n g c : Nat} {L0 : Array Bool} {Lq : Act → Prop} {Q : Exit → Act → World → Prop} {S : World → Prop} (hSw : S w) (hsel : ∀ (j : Nat) (o : Oper) cs b, ops[j]? = some o → o.op ≠ .select cs b)
    (hs : sinkFromB md ops n L0 = true) (hc : Region.chainB md ops n = true) (hp : pairB md ops n = true) (hd : depsB md ops n = true) (hn : n < ops.size) (h0 : L0.size = ops.size)
    (htail : ∀ a, Lq a → wpAnyU P md ops Q S c g (fullHead n ops.size) a w) :
    ∀ (f : Nat) (listed : Array Bool) (a : Act), HeadInv md ops n listed → (∀ i, L0.getD i false = true → listed.getD i false = true) → (todo n listed).length = f →
      wpStill P ops w Lq (rowsOf ops (todo n listed)) a → wpAnyU P md ops Q S c (f + g) listed a w := by
  intro f
  induction f with
  | zero =>
    intro listed a inv _ hf h
    have he := List.length_eq_zero_iff.1 hf
    rw [full_of hn inv he, Nat.zero_add]
    rw [he] at h
    exact htail a h
  | succ f ih =>
    intro listed a inv hle hf h
    rw [show f + 1 + g = (f + g) + 1 by omega]
    obtain ⟨i0, rest0, h00⟩ : ∃ i0 rest0, todo n listed = i0 :: rest0 := by
      cases ht : todo n listed with
      | nil => rw [ht] at hf; simp at hf
      | cons x r => exact ⟨x, r, rfl⟩
    have hm0 : i0 ∈ todo n listed := by rw [h00]; simp
    have hm1 := List.mem_filter.1 hm0
    have hi0 : i0 < n := List.mem_range.1 hm1.1
    have hu0 : listed.getD i0 true = false := by have := hm1.2; simpa only [Bool.not_eq_true'] using this
    have hready0 : i0 ∈ Region.ready md ops listed := by
      refine mem_ready.2 ⟨hu0, ops[i0], by simp [show i0 < ops.size by omega], fun e he hb => ?_⟩
      have h1 := List.all_eq_true.1 hd i0 (List.mem_range.2 hi0)
      simp only [show ops[i0]? = some ops[i0] by simp [show i0 < ops.size by omega]] at h1
      have h2 := Array.all_eq_true_iff_forall_mem.1 h1 e he
      simp only [hb, Bool.not_true, Bool.false_or, decide_eq_true_eq] at h2
      cases hx : listed.getD e.on false with
      | true => rfl
      | false =>
        have hx' := getD_in (by rw [inv.size]; omega) hx
        obtain ⟨pre, post, e1, _, e3⟩ := todo_split (n := n) hi0 (by rw [inv.size]; omega) hu0
        have hmem : e.on ∈ todo n listed := List.mem_filter.2 ⟨List.mem_range.2 (by omega), by rw [hx']; rfl⟩
        have hpre : pre = [] := by
          cases pre with
          | nil => rfl
          | cons x r =>
            have h5 : i0 :: rest0 = (x :: r) ++ i0 :: post := h00.symm.trans e1
            have hxi : i0 = x := (List.cons.inj h5).1
            have := (e3 x (by simp)).1
            omega
        subst hpre
        have h5 : todo n listed = i0 :: post := by simpa using e1
        rw [h5] at hmem
        rcases List.mem_cons.1 hmem with h6 | h6
        · omega
        · have h7 : (i0 :: post).Pairwise (· < ·) := by rw [← h5]; exact List.Pairwise.filter _ (List.pairwise_lt_range)
          have := (List.pairwise_cons.1 h7).1 _ h6
          omega
    refine ⟨fun h1 => (by rw [h1] at hready0; cases hready0), fun i hi => ?_⟩
    have hin : i < n := by
      rcases Nat.lt_or_ge i n with h1 | h1
      · exact h1
      · exact absurd hi (tail_sleeps hs hc hn h0 inv hle _ i0 (Nat.le_refl _) hi0 hu0 i h1)
    obtain ⟨hun, oi, hoi, _⟩ := mem_ready.1 hi
    obtain ⟨pre, post, e1, e2, e3⟩ := todo_split (n := n) hin (by rw [inv.size]; omega) hun
    have hrows : rowsOf ops (todo n listed) = rowsOf ops pre ++ oi :: rowsOf ops post := by rw [e1]; simp [rowsOf, List.filterMap_append, hoi]
    rw [hrows] at h
    have hb := bubble hoi hsel (rowsOf ops post) (rowsOf ops pre) a (fun o ho => by
      obtain ⟨j, hj, hjo⟩ := List.mem_filterMap.1 ho
      refine ⟨j, hjo, ?_⟩
      have h1 := List.all_eq_true.1 (List.all_eq_true.1 hp i (List.mem_range.2 hin)) j (List.mem_range.2 (e3 j hj).1)
      simp only [Bool.or_eq_true, hjo, hoi] at h1
      rcases h1 with h1 | h1
      · have := waits_listed hi h1
        rw [getD_both (e3 j hj).2] at this; cases this
      · exact h1) h
    refine wpOp_of_stOp (fun a' h' => ⟨fun _ => hSw, ih (listed.setIfInBounds i true) a' (inv.set hi hin) (fun k hk => getD_set_true (hle k hk)) ?_ ?_⟩) hb
    · rw [e1] at hf; rw [e2]; simp at hf ⊢; omega
    · rw [e2]; simpa [rowsOf, List.filterMap_append] using h'

/-! ### moves that may come at any time -/
def setAll (listed : Array Bool) (is : List Nat) : Array Bool := is.foldl (fun l i => l.setIfInBounds i true) listed
def moveOf (o : Oper) : Option Operand := match o.guard, o.op with | none, .move x => some x | _, _ => none
def movesA (ops : Array Oper) : List Nat → Act → Act
  | [], a => a
  | i :: r, a => movesA ops r (match ops[i]? with | some o => (match moveOf o with | some x => a.put o.dst (a.eval x) | none => a) | none => a)
def takeB (md : Region.Mode) (ops : Array Oper) : List Nat → Array Bool → Bool
  | [], _ => true
  | i :: r, listed => (Region.ready md ops listed).contains i && Region.free md ops listed i && ((ops[i]?).bind moveOf).isSome && takeB md ops r (listed.setIfInBounds i true)

theorem moves_first {Q : Exit → Act → World → Prop} {S : World → Prop} {c fuel : Nat} (hsel : ∀ (j : Nat) (o : Oper) cs b, ops[j]? = some o → o.op ≠ .select cs b)
    (hQ : ∀ ch a d v w, Q (.panic ch) (a.put d v) w → Q (.panic ch) a w) (hSw : S w) : ∀ (is : List Nat) (listed : Array Bool) (a : Act), takeB md ops is listed = true → c ∉ is →
      wpAnyU P md ops Q S c fuel (setAll listed is) (movesA ops is a) w → wpAnyU P md ops Q S c (is.length + fuel) listed a w
  | [], listed, a, _, _, h => by simpa [setAll, movesA] using h
  | i :: r, listed, a, hB, hc, h => by
    simp only [takeB, Bool.and_eq_true] at hB
    obtain ⟨⟨⟨hr, hf⟩, hm⟩, hB'⟩ := hB
    obtain ⟨x, hx⟩ := Option.isSome_iff_exists.1 hm
    obtain ⟨o, ho, hox⟩ := Option.bind_eq_some_iff.1 hx
    have hy : Yields P ops o (a.eval x) a := by
      unfold moveOf at hox
      cases hg : o.guard with
      | some g => rw [hg] at hox; simp at hox
      | none =>
        rw [hg] at hox
        cases hop : o.op <;> rw [hop] at hox <;> simp at hox
        subst hox
        refine Or.inl ⟨by simp [Region.wanted, hg], fun w' => ?_⟩
        simp [execOp, hop, Sem.run_pure]
    rw [show (i :: r).length + fuel = (r.length + fuel) + 1 by simp; omega]
    refine moveU ho hsel (fun ch a w => hQ ch a o.dst _ w) (fun e => hc (by simp [e])) _ listed a w (Region.free_spec ho hf) (by simpa using hr) hy (fun _ => hSw) ?_
    refine moves_first hsel hQ hSw r _ _ hB' (fun h' => hc (by simp [h'])) ?_
    have : movesA ops (i :: r) a = movesA ops r (a.put o.dst (a.eval x)) := by simp [movesA, ho, hox]
    rw [this] at h
    exact h

/-! ### reads of cells that S names, which number c alone waits for -/
def lateB (md : Region.Mode) (ops : Array Oper) (c : Nat) : List Nat → Array Bool → Bool
  | [], _ => true
  | i :: r, listed => (Region.ready md ops listed).contains i && Region.free md ops listed i && (ops[i]?).isSome && decide (c ≠ i) && waitsT md ops ops.size c i && lateB md ops c r (listed.setIfInBounds i true)
def takesP (P : Program) (ops : Array Oper) (S : World → Prop) (K : Act → Prop) : List Oper → Act → Prop
  | [], a => K a
  | o :: r, a => ∃ v, (∀ w, S w → Region.wanted o (yielded ops a.tmps) = true ∧ (execOp a.eval o).run P w = .ok (.value v) w) ∧ takesP P ops S K r (a.put o.dst v)

theorem late_first {Q : Exit → Act → World → Prop} {S : World → Prop} {c fuel : Nat} {K : Act → Prop} (hsel : ∀ (j : Nat) (o : Oper) cs b, ops[j]? = some o → o.op ≠ .select cs b)
    (hQ : ∀ ch a d v w, Q (.panic ch) (a.put d v) w → Q (.panic ch) a w) (hSw : S w) : ∀ (is : List Nat) (listed : Array Bool) (a : Act), lateB md ops c is listed = true → HeadInv md ops ops.size listed →
      (∀ a, K a → wpAnyU P md ops Q S c fuel (setAll listed is) a w) → takesP P ops S K (rowsOf ops is) a → wpAnyU P md ops Q S c (is.length + fuel) listed a w
  | [], listed, a, _, _, hK, h => by simpa [setAll] using hK a h
  | i :: r, listed, a, hB, inv, hK, h => by
    simp only [lateB, Bool.and_eq_true, decide_eq_true_eq] at hB
    obtain ⟨⟨⟨⟨⟨hr, hf⟩, hm⟩, hc⟩, hcw⟩, hB'⟩ := hB
    obtain ⟨o, ho⟩ := Option.isSome_iff_exists.1 hm
    have hrows : rowsOf ops (i :: r) = o :: rowsOf ops r := by simp [rowsOf, ho]
    rw [hrows] at h
    obtain ⟨v, hv, h'⟩ := h
    rw [show (i :: r).length + fuel = (r.length + fuel) + 1 by simp; omega]
    refine lateU ho hsel (fun ch a w => hQ ch a o.dst _ w) hc hcw _ listed a w (Region.free_spec ho hf) (by simpa using hr) (Or.inl ⟨(hv w hSw).1, fun w' hw' => (hv w' hw').2⟩) inv hSw ?_
    exact late_first hsel hQ hSw r _ _ hB' (inv.set (by simpa using hr) (Array.getElem?_eq_some_iff.1 ho).1) (fun a ha => hK a ha) h'

/-- The tail, one operation behind the other; S behind each of the first p. -/
def chainS (P : Program) (ops : Array Oper) (Q : Exit → Act → World → Prop) (S : World → Prop) : Nat → List Oper → Act → World → Prop
  | 0, l, a, w => ∀ K : Exit → Act → World → Prop, (∀ a w, Q .normal a w → K .normal a w) → wpList P ops K l a w
  | _ + 1, [], a, w => Q .normal a w
  | p + 1, o :: r, a, w => ∀ K : Exit → Act → World → Prop, (∀ a' w', S w' → chainS P ops Q S p r a' w' → K .normal a' w') → wpList P ops K [o] a w

/-- Q at a normal end, and no other end. -/
def OnlyNormal (Q : Exit → Act → World → Prop) : Exit → Act → World → Prop
  | .normal, a, w => Q .normal a w
  | _, _, _ => False
theorem OnlyNormal.lets {Q : Exit → Act → World → Prop} : ¬ LetsOut (OnlyNormal Q) := fun ⟨_, _, h⟩ => h
theorem OnlyNormal.imp {Q : Exit → Act → World → Prop} : ∀ (e : Exit) (a : Act) (w : World), OnlyNormal Q e a w → Q e a w := fun e a w h => by
  cases e <;> first | exact h | exact (h : False).elim

theorem getD_listed {listed : Array Bool} {c k : Nat} (h : (listed.setIfInBounds k true).getD c true = false) (hc : listed.getD c true = true ∨ c = k) : False := by
  rcases hc with hc | rfl
  · by_cases hk : k = c
    · subst hk
      rcases Nat.lt_or_ge k listed.size with h' | h'
      · simp [h'] at h
      · simp [Array.getElem?_eq_none h'] at h
    · rw [getD_set_ne true hk, hc] at h; cases h
  · rcases Nat.lt_or_ge c listed.size with h' | h'
    · simp [h'] at h
    · simp [Array.getElem?_eq_none h'] at h

theorem wpAnyU_of_seq {Q : Exit → Act → World → Prop} {S : World → Prop} {c : Nat} : ∀ (l : List Oper) (k : Nat) (listed : Array Bool) (a : Act) (w : World), (∀ j, l[j]? = ops[k + j]?) →
    Region.seqB md ops l.length k listed = true → ((∀ w, S w) ∨ listed.getD c true = true ∨ c = k) → wpList P ops Q l a w → wpAnyU P md ops Q S c l.length listed a w
  | [], _, _, _, _, _, hB, _, h => ⟨by simpa [Region.seqB] using hB, h⟩
  | o :: l, k, listed, a, w, hl, hB, hc, h => by
    have h0 : ops[k]? = some o := by simpa using (hl 0).symm
    simp only [List.length_cons, Region.seqB, Bool.and_eq_true, decide_eq_true_eq] at hB
    refine ⟨fun h1 => (by rw [hB.1] at h1; cases h1), fun i hi => ?_⟩
    rw [hB.1] at hi
    obtain rfl : i = k := by simpa using hi
    have hw : wpOp P ops Q i (wpList P ops Q l) a w := by unfold wpOp; simp only [h0]; exact h
    refine wpOp_mono (fun a' w' h' => ⟨fun hx => ?_, wpAnyU_of_seq l (i + 1) _ a' w' (fun j => by have := hl (j + 1); simpa [Nat.add_assoc, Nat.add_comm 1 j] using this) hB.2 ?_ h'⟩) hw
    · rcases hc with hc | hc
      · exact hc w'
      · exact (getD_listed hx hc).elim
    · rcases hc with hc | hc
      · exact .inl hc
      · refine .inr (.inl ?_)
        cases hx : (listed.setIfInBounds i true).getD c true with
        | true => rfl
        | false => exact (getD_listed hx hc).elim

theorem wpOp_congrK {Q Q' : Exit → Act → World → Prop} {k : Nat} {o : Oper} {K : Act → World → Prop} {a : Act} {w : World} (h0 : ops[k]? = some o) (h : wpList P ops Q' [o] a w) (hK : ∀ a w, Q' .normal a w → K a w)
    (hQ : ∀ e a w, e ≠ .normal → Q' e a w → False) : wpOp P ops Q k K a w := by
  have hl : ¬ LetsOut Q' := fun ⟨a, w, h⟩ => hQ _ a w (fun e => by cases e) h
  unfold wpOp
  simp only [h0]
  simp only [wpList] at h
  split
  · rename_i hw
    rw [if_pos hw] at h
    rcases h with h | h
    · refine .inl ?_
      unfold Oper.wp at *
      generalize (execOp a.eval o).run P w = r at *
      cases r with
      | ok x w' =>
        cases x <;> simp only [Oper.upon] at h ⊢ <;>
          first
            | exact hK _ _ h
            | exact Calls.mono h (fun e w'' he => by cases e <;> first | exact hK _ _ he | exact (hQ _ _ _ (fun e => by cases e) he).elim | exact (hl he).elim)
            | exact Rows.mono h (fun _ _ he => hK _ _ he)
      | halt x w' => cases x <;> simp only [Oper.upon] at h ⊢ <;> first | exact h | exact (hQ _ _ _ (fun e => by cases e) h).elim | exact (hl h).elim
    · exact absurd h.2 hl
  · rename_i hw
    rw [if_neg hw] at h
    exact hK _ _ h

theorem wpAnyU_of_chain {Q : Exit → Act → World → Prop} {S : World → Prop} {c : Nat} : ∀ (p : Nat) (l : List Oper) (k : Nat) (listed : Array Bool) (a : Act) (w : World), (∀ j, l[j]? = ops[k + j]?) →
    Region.seqB md ops l.length k listed = true → ((∀ w, S w) ∨ listed.getD c true = true ∨ c = k + p) → chainS P ops Q S p l a w → wpAnyU P md ops (OnlyNormal Q) S c l.length listed a w
  | 0, l, k, listed, a, w, hl, hB, hc, h => wpAnyU_of_seq l k listed a w hl hB (by simpa using hc) (h _ fun _ _ h => h)
  | _ + 1, [], _, _, _, _, _, hB, _, h => ⟨by simpa [Region.seqB] using hB, h⟩
  | p + 1, o :: l, k, listed, a, w, hl, hB, hc, h => by
    have h0 : ops[k]? = some o := by simpa using (hl 0).symm
    simp only [List.length_cons, Region.seqB, Bool.and_eq_true, decide_eq_true_eq] at hB
    refine ⟨fun h1 => (by rw [hB.1] at h1; cases h1), fun i hi => ?_⟩
    rw [hB.1] at hi
    obtain rfl : i = k := by simpa using hi
    refine wpOp_congrK (Q' := OnlyNormal fun e a w => e = .normal ∧ S w ∧ chainS P ops Q S p l a w) h0 (h _ fun a' w' h1 h2 => ⟨rfl, h1, h2⟩) (fun a' w' h' => ⟨fun _ => h'.2.1, wpAnyU_of_chain p l (i + 1) _ a' w' (fun j => by have := hl (j + 1); simpa [Nat.add_assoc, Nat.add_comm 1 j] using this) hB.2 ?_ h'.2.2⟩)
      (fun e a w he h => by cases e <;> first | exact he rfl | exact h)
    rcases hc with hc | hc | hc
    · exact .inl hc
    · refine .inr (.inl ?_)
      cases hx : (listed.setIfInBounds i true).getD c true with
      | true => rfl
      | false => exact (getD_listed hx (.inl hc)).elim
    · exact .inr (.inr (by omega))

def closedB (md : Region.Mode) (ops : Array Oper) (L : Array Bool) : Bool :=
  (List.range ops.size).all fun j => !L.getD j false || match ops[j]? with
    | some o => o.after.all fun e => !Region.binds md e || L.getD e.on false
    | none => true

def planB (md : Region.Mode) (ops : Array Oper) (pre late : List Nat) (n c : Nat) : Bool :=
  let L0 := setAll (Array.replicate ops.size false) pre
  let L1 := setAll L0 late
  Region.noSelect ops && decide (n < ops.size) && takeB md ops pre (Array.replicate ops.size false) && closedB md ops L1 &&
  ((List.range ops.size).all fun t => decide (t < n) || !L1.getD t true) && sinkFromB md ops n L1 && Region.chainB md ops n && pairB md ops n && depsB md ops n &&
  Region.seqB md ops (ops.size - n) n (fullHead n ops.size) && decide (pre.length + (late.length + ((todo n L1).length + (ops.size - n))) = ops.size) && lateB md ops c late L0 && decide (c ∉ pre) && closedB md ops L0

theorem setAll_size (is : List Nat) : ∀ L : Array Bool, (setAll L is).size = L.size := by
  induction is with
  | nil => intro L; rfl
  | cons i r ih => intro L; show (setAll (L.setIfInBounds i true) r).size = _; rw [ih]; simp

def maskRows : List Bool → List Oper → List Oper
  | true :: m, o :: l => o :: maskRows m l
  | false :: m, _ :: l => maskRows m l
  | _, _ => []

theorem plan_any {Q : Exit → Act → World → Prop} {a : Act} {l : List Oper} (S : World → Prop) (pre late : List Nat) (n p : Nat) (hp : late = [] ∧ (∀ w, S w) ∨ True)
    (hB : planB .any l.toArray pre late n (n + p) = true) (hSw : S w)
    (h : takesP P l.toArray S (fun a1 => wpStill P l.toArray w (fun a' => chainS P l.toArray Q S p (l.drop n) a' w) (rowsOf l.toArray (todo n (setAll (setAll (Array.replicate l.toArray.size false) pre) late))) a1)
      (rowsOf l.toArray late) (movesA l.toArray pre a)) :
    wpAny P .any l.toArray (OnlyNormal Q) l.toArray.size (Array.replicate l.toArray.size false) a w := by
  clear hp
  simp only [planB, Bool.and_eq_true, decide_eq_true_eq] at hB
  obtain ⟨⟨⟨⟨⟨⟨⟨⟨⟨⟨⟨⟨⟨b1, b2⟩, b3⟩, b4⟩, b5⟩, b6⟩, b7⟩, b8⟩, b9⟩, b10⟩, b11⟩, b12⟩, b13⟩, b14⟩ := hB
  have hsel := Region.noSelect_spec b1
  have inv : HeadInv .any l.toArray n (setAll (setAll (Array.replicate l.toArray.size false) pre) late) := by
    refine ⟨by rw [setAll_size, setAll_size]; simp, fun j oj hj hl e he hb => ?_, fun t ht1 ht2 => ?_⟩
    · have h1 := List.all_eq_true.1 b4 j (List.mem_range.2 (Array.getElem?_eq_some_iff.1 hj).1)
      simp only [hl, Bool.not_true, Bool.false_or, hj] at h1
      have h2 := Array.all_eq_true_iff_forall_mem.1 h1 e he
      simpa only [hb, Bool.not_true, Bool.false_or] using h2
    · have h1 := List.all_eq_true.1 b5 t (List.mem_range.2 ht2)
      simp only [Bool.or_eq_true, decide_eq_true_eq, Bool.not_eq_true'] at h1
      rcases h1 with h1 | h1
      · omega
      · exact h1
  have inv0 : HeadInv .any l.toArray l.toArray.size (setAll (Array.replicate l.toArray.size false) pre) := by
    refine ⟨by rw [setAll_size]; simp, fun j oj hj hl e he hb => ?_, fun t ht1 ht2 => by omega⟩
    have h1 := List.all_eq_true.1 b14 j (List.mem_range.2 (Array.getElem?_eq_some_iff.1 hj).1)
    simp only [hl, Bool.not_true, Bool.false_or, hj] at h1
    have h2 := Array.all_eq_true_iff_forall_mem.1 h1 e he
    simpa only [hb, Bool.not_true, Bool.false_or] using h2
  have hdl : (l.drop n).length = l.toArray.size - n := by simp
  have H0 : ∀ a1, wpStill P l.toArray w (fun a' => chainS P l.toArray Q S p (l.drop n) a' w) (rowsOf l.toArray (todo n (setAll (setAll (Array.replicate l.toArray.size false) pre) late))) a1 → _ := fun a1 h1 =>
    head_any (md := .any) (g := l.toArray.size - n) (c := n + p) (Q := OnlyNormal Q) hSw hsel b6 b7 b8 b9 b2 (by rw [setAll_size, setAll_size]; simp) (fun a' hL => by
      have h1 := wpAnyU_of_chain (md := .any) (S := S) (c := n + p) p (l.drop n) n (fullHead n l.toArray.size) a' w (fun j => by simp [List.getElem?_drop]) (by rw [hdl]; exact b10) (.inr (.inr rfl)) hL
      rwa [hdl] at h1) _ _ a1 inv (fun i hi => hi) rfl h1
  have hQ : ∀ ch a d v w, OnlyNormal Q (.panic ch) (a.put d v) w → OnlyNormal Q (.panic ch) a w := fun _ _ _ _ _ h => h
  have H1 := late_first (md := .any) (c := n + p) hsel hQ hSw late _ _ b12 inv0 (fun a1 ha1 => H0 a1 ha1) h
  have H2 := moves_first hsel hQ hSw pre _ a b3 b13 H1
  rw [b11] at H2
  exact wpAnyU_drop _ _ _ _ H2

/-- THE LAW: the moves 'pre' first, then the other operations of the first n in the order of the text (each reads alone), then the rest as a plain list. -/
theorem wp_region_plan {id : Nat} {Q : Exit → Act → World → Prop} {a : Act} {l : List Oper} (pre : List Nat) (m : List Bool) (n : Nat) (hm : P.follows .mixedOrders = true)
    (hB : planB .any l.toArray pre [] n (n + 0) = true) (hR : rowsOf l.toArray (todo n (setAll (Array.replicate l.toArray.size false) pre)) = maskRows m l)
    (h : wpStill P l.toArray w.drew (fun a' => ∀ K : Exit → Act → World → Prop, (∀ a w, Q .normal a w → K .normal a w) → wpList P l.toArray K (l.drop n) a' w.drew) (maskRows m l) (movesA l.toArray pre a)) :
    (Code.region id l.toArray true).wp P Q a w := by
  rw [← hR] at h
  refine Code.wp_mono OnlyNormal.imp (wp_region_any hm ?_)
  exact plan_any (Q := Q) (fun _ => True) pre [] n 0 (.inr trivial) hB trivial h

/-! ### the same inside a round of a loop over a function -/
theorem rowsIn_of {l0 n : Nat} {row : String} {args : Array Value} {R : Value → World → Prop} (h : Rows P row args w R) : RowsIn (Fence.wide.inRound l0) n P row args w R := fun c cs _ =>
  let ⟨v, w', r, s⟩ := h c cs
  ⟨v, w', r, stepsIn_wide.2 s⟩
def noDefer (ops : Array Oper) : Bool := ops.all fun o => match o.op with | .defer _ => false | _ => true

theorem Oper_in {l0 n : Nat} {Q : Exit → Act → World → Prop} {o : Oper} {a : Act} {K : Act → World → Prop} (hd : ∀ c, o.op ≠ .defer c) (h : o.wp P a w K (OnlyNormal Q)) :
    o.wpIn (Fence.wide.inRound l0) n P a w K Q := by
  refine ⟨fun _ _ => trivial, ?_⟩
  rw [Oper.semAt_eq _ _ _ hd]
  unfold Oper.wp at h
  generalize (execOp a.eval o).run P w = r at *
  have hdep : (Fence.wide.inRound l0).depth.isSome = true → 1 ≤ n := fun h => by simp [Fence.wide] at h
  cases r with
  | ok x w' =>
    cases x <;> simp only [Oper.upon, Oper.uponIn] at h ⊢ <;>
      first
        | exact h
        | exact ⟨hdep, CallsIn.inRound l0 (callsIn_wide.2 (Calls.mono h (fun e w'' he => by cases e <;> first | exact he | exact (he : False).elim | exact (OnlyNormal.lets he).elim)))⟩
        | exact ⟨hdep, rowsIn_of h⟩
  | halt x w' => cases x <;> simp only [Oper.upon, Oper.uponIn] at h ⊢ <;> first | exact h | exact (h : False).elim | exact (OnlyNormal.lets h).elim

theorem wpOps_in {l0 n : Nat} {Q : Exit → Act → World → Prop} (hd : noDefer ops = true) : ∀ (σ : List Nat) (a : Act) (w : World), wpOps P ops (OnlyNormal Q) σ a w → wpOpsIn (Fence.wide.inRound l0) n P ops Q σ a w
  | [], _, _, h => h
  | i :: r, a, w, h => by
    unfold wpOps at h
    unfold wpOpsIn
    cases ho : ops[i]? with
    | none => simp only [ho] at h ⊢; exact wpOps_in hd r a w h
    | some o =>
      simp only [ho] at h ⊢
      have hdo : ∀ c, o.op ≠ .defer c := fun c e => by
        have := Array.all_eq_true_iff_forall_mem.1 hd o (Array.mem_of_getElem? ho)
        simp [e] at this
      split
      · rename_i hw
        rw [if_pos hw] at h
        rcases h with h | h
        · exact Oper.wpIn_mono (fun a w h => wpOps_in hd r a w h) (Oper_in hdo h)
        · exact (OnlyNormal.lets h.2).elim
      · rename_i hw
        rw [if_neg hw] at h
        exact ⟨fun _ _ => trivial, wpOps_in hd r _ w h⟩

end
end Go.Proofs.Ytcecodjipeahkaa
namespace Go.Proofs.Ytcecodjipeahkaa
open Go.ChangeShapes Go.WideShapes Go.ChangeAt Go.RowKit
set_option linter.unusedVariables false

theorem info5 : (Try.prog.info? 5).map (fun i => (i.zero, i.size, i.bytes)) = some (some (.int .u8 0), 1, 1) := by kernel_rfl
theorem run_string_own {P : Program} {w : World} {base n : Nat} {v : Value} {xs : List Int} (src e dst : TypeId) (hs : P.underlying src = some (.slice e)) (he : P.underlying e = some (.int .u8)) (hd : P.underlying dst = some .string)
    (hown : w.ownsRow base e 1 v n (xs.map (Value.int .u8))) : (convert src dst v).run P w = .ok (.string (strOfNums xs)) w := by
  have hn : xs.length = n := by have := hown.1; simpa using this
  rcases hown.2 with ⟨rfl, h0⟩ | ⟨g, cap, cur, rfl, _⟩
  · have hx : xs = [] := List.length_eq_zero_iff.1 (by omega)
    subst hx
    exact run_convert_bytes_nil w src e hs he 0 0 dst hd
  · refine run_convert_bytes_arg w src e hs he g 0 n cap xs hn (fun i hi => ?_) dst hd
    rw [Nat.zero_add, hown.cellAt i (by omega)]
    simp [show i < xs.length by omega]

theorem grown_of_below' {A B : World} (h : Below A.heap.size A B) (row : Option Nat) : A.grownBy B row := ⟨h.os, h.tape, h.output, h.size, fun k hk _ => h.block k hk⟩
theorem grown_trans {A B C : World} {row : Option Nat} (h : A.grownBy B row) (k : B.grownBy C row) : A.grownBy C row :=
  ⟨k.os.trans h.os, k.tape.trans h.tape, k.output.trans h.output, Nat.le_trans h.size k.size, fun j hj hr => (k.block j (Nat.lt_of_lt_of_le hj h.size) hr).trans (h.block j hj hr)⟩
end Go.Proofs.Ytcecodjipeahkaa
namespace Go.Proofs.Ytcecodjipeahkaa
set_option linter.unusedVariables false

def xorL (a b : List UInt8) : List UInt8 := List.zipWith (· ^^^ ·) a b
def ones : Nat := 4294967295
end Go.Proofs.Ytcecodjipeahkaa
namespace Go.Proofs.Ytcecodjipeahkaa
open Go.ChangeShapes Go.WideShapes Go.ChangeAt Go.RowKit
set_option linter.unusedVariables false

theorem bv_nat (k n : Nat) : BitVec.ofInt k (n : Int) = BitVec.ofNat k n := by
  apply BitVec.eq_of_toNat_eq
  rw [BitVec.toNat_ofInt, BitVec.toNat_ofNat]
  exact Int.toNat_natCast _
theorem u8_xor (a b : UInt8) : bits .xor .u8 (a.toNat : Int) (b.toNat : Int) = ((a ^^^ b).toNat : Int) := by
  have ha := a.toNat_lt; have hb := b.toNat_lt
  have hx := Nat.xor_lt_two_pow (n := 8) ha hb
  show IntKind.u8.wrap ((BitVec.ofInt 8 (a.toNat : Int) ^^^ BitVec.ofInt 8 (b.toNat : Int)).toNat : Nat) = _
  rw [bv_nat, bv_nat, BitVec.toNat_xor, BitVec.toNat_ofNat, BitVec.toNat_ofNat, Nat.mod_eq_of_lt (by omega), Nat.mod_eq_of_lt (by omega), UInt8.toNat_xor]
  generalize a.toNat ^^^ b.toNat = z at *
  rw [IntKind.wrap_u8]; omega
def xorS (a b : ByteArray) : ByteArray := if a.size = b.size then ⟨(xorL a.data.toList b.data.toList).toArray⟩ else ByteArray.empty
theorem xorL_len (a b : ByteArray) (h : a.size = b.size) : (xorL a.data.toList b.data.toList).length = a.size := by simp [xorL, h]
theorem xorL_take (a b : ByteArray) (h : a.size = b.size) (k : Nat) (hk : k < a.size) : (xorL a.data.toList b.data.toList).take (k + 1) = (xorL a.data.toList b.data.toList).take k ++ [a[k] ^^^ b[k]'(by omega)] := by
  rw [List.take_succ_eq_append_getElem (by rw [xorL_len a b h]; exact hk)]
  congr 2
  simp [xorL]
  rfl
end Go.Proofs.Ytcecodjipeahkaa
namespace Go.Proofs.Ytcecodjipeahkaa
open Go
set_option linter.unusedVariables false

theorem xorL_comm : ∀ a b : List UInt8, xorL a b = xorL b a
  | [], [] => rfl
  | [], _ :: _ => rfl
  | _ :: _, [] => rfl
  | x :: a, y :: b => by
    show (x ^^^ y) :: xorL a b = (y ^^^ x) :: xorL b a
    rw [xorL_comm a b, UInt8.xor_comm]
theorem xorS_eq (s t : ByteArray) (h : s.size = t.size) : xorS s t = ⟨(xorL s.data.toList t.data.toList).toArray⟩ := by unfold xorS; rw [if_pos h]
theorem xorS_size (s t : ByteArray) (h : s.size = t.size) : (xorS s t).size = s.size := by
  rw [xorS_eq s t h]
  show (xorL s.data.toList t.data.toList).toArray.size = _
  simpa using xorL_len s t h
theorem xorS_data (s t : ByteArray) (h : s.size = t.size) : (xorS s t).data.toList = xorL s.data.toList t.data.toList := by rw [xorS_eq s t h]
theorem xorL_assoc : ∀ a b c : List UInt8, xorL (xorL a b) c = xorL a (xorL b c)
  | [], _, _ => rfl
  | _ :: _, [], _ => rfl
  | _ :: _, _ :: _, [] => rfl
  | x :: a, y :: b, z :: c => by
    show (x ^^^ y ^^^ z) :: xorL (xorL a b) c = (x ^^^ (y ^^^ z)) :: xorL a (xorL b c)
    rw [xorL_assoc a b c, UInt8.xor_assoc]
theorem ba_ext {s t : ByteArray} (h : s.data.toList = t.data.toList) : s = t := by
  apply ByteArray.ext
  exact Array.toList_inj.1 h
theorem xorS_comm (a b : ByteArray) (h : a.size = b.size) : xorS a b = xorS b a := by
  apply ba_ext
  rw [xorS_data a b h, xorS_data b a h.symm, xorL_comm]
theorem xorS_assoc (a b c : ByteArray) (h : a.size = b.size) (h2 : b.size = c.size) : xorS (xorS a b) c = xorS a (xorS b c) := by
  apply ba_ext
  rw [xorS_data _ c (by rw [xorS_size a b h]; omega), xorS_data a b h, xorS_data a _ (by rw [xorS_size b c h2]; exact h), xorS_data b c h2, xorL_assoc]
/-- a load of noughts -/
def z4 : ByteArray := ⟨#[0, 0, 0, 0]⟩
theorem xorS_z4 (a : ByteArray) (h : a.size = 4) : xorS a z4 = a := by
  apply ba_ext
  rw [xorS_data a z4 h]
  obtain ⟨⟨l⟩⟩ := a
  match l, h with
  | [p, q, r, s], _ => simp [xorL, z4]
theorem xorS_z4l (a : ByteArray) (h : a.size = 4) : xorS z4 a = a := by rw [xorS_comm z4 a h.symm, xorS_z4 a h]
theorem xorS_self (a : ByteArray) (h : a.size = 4) : xorS a a = z4 := by
  apply ba_ext
  rw [xorS_data a a rfl]
  obtain ⟨⟨l⟩⟩ := a
  match l, h with
  | [p, q, r, s], _ => simp [xorL, z4]
end Go.Proofs.Ytcecodjipeahkaa
namespace Go.Proofs.Ytcecodjipeahkaa
open Go.ChangeShapes Go.WideShapes Go.ChangeAt Go.RowKit
set_option linter.unusedVariables false

abbrev K2 := Int × Int
def kv (k : K2) : Value := .agg #[.int .i64 k.1, .int .i64 k.2]
def keyOkB (k : K2) : Bool := (decide (1 ≤ k.1) && decide (k.1 ≤ 20)) && (decide (1 ≤ k.2) && decide (k.2 ≤ 99))
def aheadB (a b : K2) : Bool := if a.1 = b.1 then decide (a.2 < b.2) else decide (a.1 < b.1)
/-- the slice value v leads to the keys ks -/
def keysAt (w : World) (v : Value) (ks : List K2) : Prop :=
  ∃ a cap, v = .slice a ks.length cap ∧ ks.length ≤ cap ∧ (ks.length = 0 ∨ ∃ g off, a = some ⟨g, off, none⟩ ∧ g < w.heap.size ∧
    ∀ i, i < ks.length → w.cell? ⟨g, off + i * 2, none⟩ = some (.int .i64 (ks.getD i (0, 0)).1) ∧ w.cell? ⟨g, off + i * 2 + 1, none⟩ = some (.int .i64 (ks.getD i (0, 0)).2))
theorem keysAt_below {w w' : World} {v : Value} {ks : List K2} (h : keysAt w v ks) (hb : Below w.heap.size w w') : keysAt w' v ks := by
  obtain ⟨a, cap, h1, h2, h3⟩ := h
  refine ⟨a, cap, h1, h2, h3.imp_right ?_⟩
  rintro ⟨g, off, h4, h5, h6⟩
  refine ⟨g, off, h4, Nat.lt_of_lt_of_le h5 hb.size, fun i hi => ?_⟩
  rw [hb.cell (p := ⟨g, off + i * 2, none⟩) h5, hb.cell (p := ⟨g, off + i * 2 + 1, none⟩) h5]
  exact h6 i hi
end Go.Proofs.Ytcecodjipeahkaa
namespace Go.Proofs.Ytcecodjipeahkaa
open Go.ChangeShapes Go.WideShapes Go.ChangeAt Go.RowKit
set_option linter.unusedVariables false

theorem sin_any (x a b : Int) (w : World) : Calls Try.prog 101 #[.int .i64 x, .int .i64 a, .int .i64 b] w fun e w' => e = .returned (.bool (decide (a ≤ x) && decide (x ≤ b))) ∧ w' = w := by
  by_cases h1 : a ≤ x <;> by_cases h2 : x ≤ b
  all_goals
    go_enter Try.func101, Try.ntmps101
    go_wp2
    go_ret
    simp [h1, h2]
end Go.Proofs.Ytcecodjipeahkaa
namespace Go.Proofs.Ytcecodjipeahkaa
open Go.BigFrame Go.RowKit Go.ChangeShapes Go.WideShapes
section
variable {P : Program} {ops : Array Oper} {C : World → Prop} {Q : Act → Prop} {a : Act} {o : Oper} {rest : List Oper} {K : Act → Prop}
theorem q_load (ty : TypeId) (x : Operand) (p : Addr) (v : Value) (ho : o.op = .load ty x) (hx : a.eval x = .pointer (some p)) (hl : ∀ w, C w → (loadVar ty p).run P w = .ok v w) (hk : K (a.put o.dst v)) : o.quiet P a C K := by
  refine ⟨v, fun w hw => ?_, hk⟩
  unfold Oper.quietAt execOp
  simp only [ho, hx, Instr.loadAt, Instr.sureAddr, Sem.run_bind, Sem.run_pure, Result.andThen_ok, hl w hw]
  exact ⟨rfl, rfl⟩
theorem q_bin (op : BinOp) (t ty : TypeId) (x y : Operand) (u v z : Value) (ho : o.op = .binOp op t x y ty) (hx : a.eval x = u) (hy : a.eval y = v) (hg : ∀ w, (eqGuard op t x y u v).run P w = .ok () w) (hb : ∀ w, (binOp op t u v).run P w = .ok z w)
    (hk : K (a.put o.dst z)) : o.quiet P a C K := by
  refine ⟨z, fun w hw => ?_, hk⟩
  unfold Oper.quietAt execOp
  simp only [ho, hx, hy, Sem.run_bind, hg w, hb w, Result.andThen_ok, Sem.run_pure]
  exact ⟨rfl, rfl⟩
end
/-- the class: new blocks alone -/
theorem wp_region_below {P : Program} {id : Nat} {Q : Exit → Act → World → Prop} {a : Act} {w : World} {l : List Oper} (w0 : World) (hm : P.follows .mixedOrders = true) (hB : Region.lexB .any l.toArray = true) (h0 : Below w0.heap.size w0 w)
    (h : wpQuiet P l.toArray (fun w' => Below w0.heap.size w0 w') (fun a' => ∀ w', Below w0.heap.size w0 w' → Q .normal a' w') l a) : (Code.region id l.toArray true).wp P Q a w :=
  wp_region_quiet (C := fun w' => Below w0.heap.size w0 w') hm hB h0.drew (by simpa using h)
end Go.Proofs.Ytcecodjipeahkaa
namespace Go.Proofs.Ytcecodjipeahkaa
open Go.ChangeShapes Go.WideShapes Go.ChangeAt Go.RowKit Go.BigFrame
set_option linter.unusedVariables false

theorem skeyok_any (k : K2) (w : World) : Calls Try.prog 84 #[kv k] w fun e w' => e = .returned (.bool (keyOkB k)) ∧ Below w.heap.size w w' := by
  obtain ⟨n, s⟩ := k
  unfold keyOkB kv
  dsimp only
  have hb : ∀ o, Below w.heap.size w (w.alloc o) := fun o => (Below.refl _ _).alloc (Nat.le_refl _) _
  generalize hp : (decide (1 ≤ n) && decide (n ≤ 20)) = p
  generalize hq : (decide (1 ≤ s) && decide (s ≤ 99)) = q
  have H1 := fun w => sin_any n 1 20 w
  have H2 := fun w => sin_any s 1 99 w
  rw [hp] at H1; rw [hq] at H2
  clear hp hq
  go_enter Try.func84, Try.ntmps84
  cases p with
  | false =>
    go_wp2_with (go_at_call 101; refine (H1 _).mono ?_; rintro e w1 ⟨rfl, rfl⟩)
    go_ret
    exact ⟨by simp, hb _⟩
  | true =>
    go_wp2_with fail
    refine (H1 _).mono ?_
    rintro e w1 ⟨rfl, rfl⟩
    go_wp2_with fail
    refine (H2 _).mono ?_
    rintro e w1 ⟨rfl, rfl⟩
    go_wp2
    go_ret
    exact ⟨by simp, hb _⟩
theorem sahead_any (a b : K2) (w : World) : Calls Try.prog 85 #[kv a, kv b] w fun e w' => e = .returned (.bool (aheadB a b)) ∧ Below w.heap.size w w' := by
  obtain ⟨n, s⟩ := a
  obtain ⟨m, t⟩ := b
  have hb : ∀ o o', Below w.heap.size w ((w.alloc o).alloc o') := fun o o' => ((Below.refl _ _).alloc (Nat.le_refl _) _).alloc (by simp) _
  by_cases h : n = m
  · have ha : aheadB (n, s) (m, t) = decide (s < t) := by unfold aheadB; rw [if_pos h]
    rw [ha]
    unfold kv
    dsimp only
    subst h
    go_enter Try.func85, Try.ntmps85
    go_wp2
    go_ret
    exact ⟨rfl, hb _ _⟩
  · have ha : aheadB (n, s) (m, t) = decide (n < m) := by unfold aheadB; rw [if_neg h]
    rw [ha]
    unfold kv
    dsimp only
    go_enter Try.func85, Try.ntmps85
    go_wp2
    go_ret
    exact ⟨rfl, hb _ _⟩

theorem key_load {w : World} {g o : Nat} {k : K2} (hc : w.cell? ⟨g, o, none⟩ = some (.int .i64 k.1) ∧ w.cell? ⟨g, o + 1, none⟩ = some (.int .i64 k.2)) {w' : World} (hg : g < w.heap.size) (hb : Below w.heap.size w w') :
    (loadVar 44 ⟨g, o, none⟩).run Try.prog w' = .ok (kv k) w' := by
  refine run_loadVar_mid w' g o 44 [.int .i64 k.1, .int .i64 k.2] _ (fun j v hj => ?_) Try.underlying44 rfl (by kernel_rfl)
  have hj2 : j < 2 := by have := (List.getElem?_eq_some_iff.1 hj).1; simpa using this
  rcases (by omega : j = 0 ∨ j = 1) with rfl | rfl
  · rw [hb.cell (p := ⟨g, o + 0, none⟩) hg]
    simpa using hc.1.trans (by simpa using hj)
  · rw [hb.cell (p := ⟨g, o + 1, none⟩) hg]
    simpa using hc.2.trans (by simpa using hj)
end Go.Proofs.Ytcecodjipeahkaa
namespace Go.Proofs.Ytcecodjipeahkaa
open Go.ChangeShapes Go.WideShapes Go.ChangeAt Go.RowKit Go.BigFrame
set_option linter.unusedVariables false
theorem key_equal (p q : K2) (w : World) : (Op.equalIn 10000 44 (kv p) (kv q)).run Try.prog w = .ok (p == q) w := by
  obtain ⟨a, b⟩ := p; obtain ⟨c, d⟩ := q
  have u3 := Try.underlying3
  have hS : Try.prog.underlying 44 = some (.struct (Try.prog.fieldsOf 44)) := by kernel_rfl
  unfold kv
  rw [show (10000 : Nat) = 9999 + 1 from rfl, run_equalIn_agg w 9999 44 _ _ hS (by kernel_rfl)]
  simp only [Program.fieldsOf, Try.underlying44]
  go_simp
  by_cases h1 : a = c <;> by_cases h2 : b = d <;> simp [h1, h2]
theorem key_eql (p q : K2) (w : World) : (binOp .eql 44 (kv p) (kv q)).run Try.prog w = .ok (.bool (p == q)) w := by
  have := key_equal p q w
  unfold kv at *
  rw [run_eql_struct, this]; rfl
theorem key_neq (p q : K2) (w : World) : (binOp .neq 44 (kv p) (kv q)).run Try.prog w = .ok (.bool (!(p == q))) w := by
  have := key_equal p q w
  unfold kv at *
  rw [run_neq_struct, this]; rfl
theorem key_guard (op : BinOp) (x y : Operand) (p q : K2) (w : World) : (eqGuard op 44 x y (kv p) (kv q)).run Try.prog w = .ok () w := by
  unfold kv
  exact run_eqGuard_agg w op 44 x y _ _ (by kernel_rfl)
end Go.Proofs.Ytcecodjipeahkaa
namespace Go.Proofs.Ytcecodjipeahkaa
open Go.ChangeShapes Go.WideShapes Go.ChangeAt Go.RowKit Go.BigFrame
set_option linter.unusedVariables false

theorem infoK : (Try.prog.info? 44).map (fun i => (i.zero, i.size, i.bytes)) = some (some (.agg #[.int .i64 0, .int .i64 0]), 2, 16) := by kernel_rfl
def keyCells (ks : List K2) : List Value := ks.flatMap fun k => [.int .i64 k.1, .int .i64 k.2]
theorem keyCells_len : ∀ ks : List K2, (keyCells ks).length = ks.length * 2
  | [] => rfl
  | k :: r => by
    have := keyCells_len r
    simp only [keyCells, List.flatMap_cons, List.length_append, List.length_cons, List.length_nil] at *
    omega
theorem keyCells_snoc (ks : List K2) (k : K2) : keyCells (ks ++ [k]) = keyCells ks ++ [.int .i64 k.1, .int .i64 k.2] := by simp [keyCells]
theorem keyCells_get : ∀ (ks : List K2) (i : Nat), i < ks.length → (keyCells ks)[i * 2]? = some (.int .i64 (ks.getD i (0, 0)).1) ∧ (keyCells ks)[i * 2 + 1]? = some (.int .i64 (ks.getD i (0, 0)).2)
  | [], _, h => by simp at h
  | k :: r, 0, _ => by simp [keyCells]
  | k :: r, i + 1, h => by
    have ih := keyCells_get r i (by simpa using h)
    have e1 : (i + 1) * 2 = i * 2 + 1 + 1 := by omega
    have e2 : (i + 1) * 2 + 1 = i * 2 + 1 + 1 + 1 := by omega
    rw [e1]
    simp only [keyCells, List.flatMap_cons, List.cons_append, List.nil_append, List.getElem?_cons_succ, List.getD_cons_succ] at *
    exact ih
/-- what is owned leads to its keys -/
theorem keysAt_own {w : World} {base : Nat} {v : Value} {ks : List K2} (h : w.ownsRow base 44 2 v ks.length (keyCells ks)) : keysAt w v ks := by
  rcases h.2 with ⟨rfl, h0⟩ | ⟨g, cap, cur, rfl, hb, hg, hn, hm, hs, ht⟩
  · exact ⟨none, 0, by rw [h0], by omega, .inl h0⟩
  · refine ⟨_, cap, rfl, hn, .inr ⟨g, 0, rfl, (Array.getElem?_eq_some_iff.1 hg).1, fun i hi => ?_⟩⟩
    have hc := keyCells_get ks i hi
    rw [Nat.zero_add, h.cellAt (i * 2) (by omega), h.cellAt (i * 2 + 1) (by omega)]
    exact hc
theorem own_below {w w' : World} {base n : Nat} {e : TypeId} {size : Nat} {v : Value} {xs : List Value} (h : w.ownsRow base e size v n xs) (hb : Below w.heap.size w w') : w'.ownsRow base e size v n xs :=
  h.kept (grown_of_below' hb none) (by cases hv : v.ownBlock <;> simp)

def mergeL (both : Bool) : List K2 → List K2 → List K2
  | a, [] => a
  | [], b => b
  | x :: a, y :: b => if aheadB x y then x :: mergeL both a (y :: b) else if aheadB y x then y :: mergeL both (x :: a) b else (if both then [x] else []) ++ mergeL both a b
termination_by a b => a.length + b.length
theorem mergeL_nil_r (both : Bool) (a : List K2) : mergeL both a [] = a := by unfold mergeL; cases a <;> rfl
theorem mergeL_nil_l (both : Bool) (b : List K2) : mergeL both [] b = b := by cases b <;> simp [mergeL]
theorem mergeL_cons (both : Bool) (x : K2) (a : List K2) (y : K2) (b : List K2) : mergeL both (x :: a) (y :: b) =
    if aheadB x y then x :: mergeL both a (y :: b) else if aheadB y x then y :: mergeL both (x :: a) b else (if both then [x] else []) ++ mergeL both a b := by rw [mergeL]
theorem mergeL_len (both : Bool) : ∀ (a b : List K2), (mergeL both a b).length ≤ a.length + b.length
  | a, [] => by rw [mergeL_nil_r]; simp
  | [], b => by rw [mergeL_nil_l]; simp
  | x :: a, y :: b => by
    rw [mergeL_cons]
    split
    · have := mergeL_len both a (y :: b); simp only [List.length_cons] at *; omega
    · split
      · have := mergeL_len both (x :: a) b; simp only [List.length_cons] at *; omega
      · have := mergeL_len both a b
        cases both <;> simp only [List.length_append, List.length_cons, List.length_nil, if_true, Bool.false_eq_true, if_false] at * <;> omega
termination_by a b => a.length + b.length
theorem drop_at (a : List K2) (i : Nat) (h : i < a.length) : a.drop i = a.getD i (0, 0) :: a.drop (i + 1) := by
  rw [List.drop_eq_getElem_cons h]
  simp [List.getD, h]
end Go.Proofs.Ytcecodjipeahkaa
namespace Go.Proofs.Ytcecodjipeahkaa

def stepB (ks : List K2) (i : Nat) : Bool := keyOkB (ks.getD i (0, 0)) && (decide (i = 0) || aheadB (ks.getD (i - 1) (0, 0)) (ks.getD i (0, 0)))
def keysOkR (ks : List K2) : Bool := (List.range ks.length).all (stepB ks)
theorem stepB_false {ks : List K2} {k : Nat} (hk : k < ks.length) (h : stepB ks k = false) : keysOkR ks = false := by
  unfold keysOkR
  rw [List.all_eq_false]
  exact ⟨k, List.mem_range.2 hk, by simp [h]⟩
theorem keysR_succ (ks : List K2) (k : Nat) : (List.range (k + 1)).all (stepB ks) = ((List.range k).all (stepB ks) && stepB ks k) := by
  rw [List.range_succ, List.all_append]
  simp
end Go.Proofs.Ytcecodjipeahkaa
namespace Go.Proofs.Ytcecodjipeahkaa
open Go

def mergeV (both : Bool) (a b : List K2) : List K2 := if keysOkR a && keysOkR b then mergeL both a b else []
def hasKeyB (ks : List K2) (k : K2) : Bool := ks.any fun x => x == k
end Go.Proofs.Ytcecodjipeahkaa
namespace Go.Proofs.Ytcecodjipeahkaa

theorem ahead_iff (a b : K2) : aheadB a b = true ↔ (a.1 < b.1 ∨ (a.1 = b.1 ∧ a.2 < b.2)) := by
  unfold aheadB
  by_cases h : a.1 = b.1
  · rw [if_pos h]; simp; omega
  · rw [if_neg h]; simp; omega
theorem ahead_irrefl (a : K2) : aheadB a a = false := by
  cases h : aheadB a a with
  | false => rfl
  | true => rw [ahead_iff] at h; omega
theorem ahead_trans {a b c : K2} (h1 : aheadB a b = true) (h2 : aheadB b c = true) : aheadB a c = true := by
  rw [ahead_iff] at *; omega
theorem ahead_asymm {a b : K2} (h1 : aheadB a b = true) : aheadB b a = false := by
  cases h : aheadB b a with
  | false => rfl
  | true => rw [ahead_iff] at *; omega
theorem ahead_total {a b : K2} (h1 : aheadB a b = false) (h2 : aheadB b a = false) : a = b := by
  have n1 : ¬ aheadB a b = true := by rw [h1]; exact Bool.false_ne_true
  have n2 : ¬ aheadB b a = true := by rw [h2]; exact Bool.false_ne_true
  rw [ahead_iff] at n1 n2
  obtain ⟨x, y⟩ := a; obtain ⟨z, u⟩ := b
  simp only at n1 n2
  have e1 : x = z := by omega
  have e2 : y = u := by omega
  rw [e1, e2]
def Rising (l : List K2) : Prop := l.Pairwise fun a b => aheadB a b = true
theorem keysR_iff (ks : List K2) : keysOkR ks = true ↔ (∀ k ∈ ks, keyOkB k = true) ∧ Rising ks := by
  unfold keysOkR
  rw [List.all_eq_true]
  constructor
  · intro h
    have hs : ∀ i, i < ks.length → keyOkB (ks.getD i (0, 0)) = true ∧ (i = 0 ∨ aheadB (ks.getD (i - 1) (0, 0)) (ks.getD i (0, 0)) = true) := by
      intro i hi
      have := h i (List.mem_range.2 hi)
      simpa [stepB] using this
    refine ⟨fun k hk => ?_, ?_⟩
    · obtain ⟨i, hi, rfl⟩ := List.getElem_of_mem hk
      have := (hs i hi).1
      simpa [List.getD, hi] using this
    · have hd : ∀ d i, i + d + 1 < ks.length → aheadB (ks.getD i (0, 0)) (ks.getD (i + d + 1) (0, 0)) = true := by
        intro d
        induction d with
        | zero =>
          intro i hi
          have := (hs (i + 1) (by omega)).2.resolve_left (by omega)
          simpa using this
        | succ d ih =>
          intro i hi
          have h1 := ih i (by omega)
          have h2 := (hs (i + (d + 1) + 1) hi).2.resolve_left (by omega)
          rw [show i + (d + 1) + 1 - 1 = i + d + 1 by omega] at h2
          exact ahead_trans h1 h2
      unfold Rising
      rw [List.pairwise_iff_getElem]
      intro i j hi hj hij
      have := hd (j - i - 1) i (by omega)
      rw [show i + (j - i - 1) + 1 = j by omega] at this
      simpa [List.getD, hi, hj] using this
  · rintro ⟨h1, h2⟩ i hi
    have hi2 := List.mem_range.1 hi
    unfold stepB
    have e : ks.getD i (0, 0) = ks[i] := by simp [List.getD, hi2]
    rw [e, h1 _ (List.getElem_mem hi2)]
    by_cases h0 : i = 0
    · simp [h0]
    · have e2 : ks.getD (i - 1) (0, 0) = ks[i - 1] := by simp [List.getD, show i - 1 < ks.length by omega]
      rw [e2]
      unfold Rising at h2
      rw [List.pairwise_iff_getElem] at h2
      simp [h2 (i - 1) i (by omega) hi2 (by omega)]
/-- of two rising lists of the same keys one is the other -/
theorem rising_ext : ∀ (a b : List K2), Rising a → Rising b → (∀ k, k ∈ a ↔ k ∈ b) → a = b
  | [], [], _, _, _ => rfl
  | [], y :: b, _, _, h => by have := (h y).2 (by simp); simp at this
  | x :: a, [], _, _, h => by have := (h x).1 (by simp); simp at this
  | x :: a, y :: b, ha, hb, h => by
    have ha' := List.pairwise_cons.1 ha
    have hb' := List.pairwise_cons.1 hb
    have hxy : x = y := by
      rcases List.mem_cons.1 ((h x).1 (by simp)) with h1 | h1
      · exact h1
      · rcases List.mem_cons.1 ((h y).2 (by simp)) with h2 | h2
        · exact h2.symm
        · have e1 := hb'.1 x h1
          have e2 := ha'.1 y h2
          rw [ahead_asymm e1] at e2; cases e2
    subst hxy
    congr 1
    refine rising_ext a b ha'.2 hb'.2 fun k => ⟨fun hk => ?_, fun hk => ?_⟩
    · rcases List.mem_cons.1 ((h k).1 (by simp [hk])) with h1 | h1
      · subst h1
        have := ha'.1 k hk
        rw [ahead_irrefl] at this; cases this
      · exact h1
    · rcases List.mem_cons.1 ((h k).2 (by simp [hk])) with h1 | h1
      · subst h1
        have := hb'.1 k hk
        rw [ahead_irrefl] at this; cases this
      · exact h1
/-- what merging makes: rising, and of which keys -/
theorem merge_spec (both : Bool) : ∀ (a b : List K2), Rising a → Rising b → Rising (mergeL both a b) ∧ ∀ k, k ∈ mergeL both a b ↔ ((k ∈ a ∨ k ∈ b) ∧ (both = true ∨ ¬ (k ∈ a ∧ k ∈ b)))
  | a, [], ha, _ => by rw [mergeL_nil_r]; exact ⟨ha, fun k => by simp⟩
  | [], b, _, hb => by rw [mergeL_nil_l]; exact ⟨hb, fun k => by simp⟩
  | x :: a, y :: b, ha, hb => by
    have ha' := List.pairwise_cons.1 ha
    have hb' := List.pairwise_cons.1 hb
    rw [mergeL_cons]
    have nxa : x ∉ a := fun h => by have := ha'.1 x h; rw [ahead_irrefl] at this; cases this
    have nyb : y ∉ b := fun h => by have := hb'.1 y h; rw [ahead_irrefl] at this; cases this
    by_cases hxy : aheadB x y = true
    · rw [if_pos hxy]
      obtain ⟨r1, r2⟩ := merge_spec both a (y :: b) ha'.2 hb
      have hlow : ∀ z, z ∈ y :: b → aheadB x z = true := by
        intro z hz
        rcases List.mem_cons.1 hz with rfl | h
        · exact hxy
        · exact ahead_trans hxy (hb'.1 z h)
      have nxb : x ∉ y :: b := fun h => by have := hlow x h; rw [ahead_irrefl] at this; cases this
      refine ⟨List.pairwise_cons.2 ⟨fun z hz => ?_, r1⟩, fun k => ?_⟩
      · rcases ((r2 z).1 hz).1 with h | h
        · exact ha'.1 z h
        · exact hlow z h
      · rw [List.mem_cons, r2 k]
        by_cases hk : k = x
        · subst hk
          simp [nxb]
        · simp [hk]
    · rw [if_neg hxy]
      by_cases hyx : aheadB y x = true
      · rw [if_pos hyx]
        obtain ⟨r1, r2⟩ := merge_spec both (x :: a) b ha hb'.2
        have hlow : ∀ z, z ∈ x :: a → aheadB y z = true := by
          intro z hz
          rcases List.mem_cons.1 hz with rfl | h
          · exact hyx
          · exact ahead_trans hyx (ha'.1 z h)
        have nya : y ∉ x :: a := fun h => by have := hlow y h; rw [ahead_irrefl] at this; cases this
        refine ⟨List.pairwise_cons.2 ⟨fun z hz => ?_, r1⟩, fun k => ?_⟩
        · rcases ((r2 z).1 hz).1 with h | h
          · exact hlow z h
          · exact hb'.1 z h
        · rw [List.mem_cons, r2 k]
          by_cases hk : k = y
          · subst hk
            simp [nya]
          · simp [hk]
      · rw [if_neg hyx]
        have e := ahead_total (Bool.eq_false_iff.2 hxy) (Bool.eq_false_iff.2 hyx)
        subst e
        obtain ⟨r1, r2⟩ := merge_spec both a b ha'.2 hb'.2
        cases both with
        | true =>
          rw [if_pos rfl]
          refine ⟨List.pairwise_cons.2 ⟨fun z hz => ?_, r1⟩, fun k => ?_⟩
          · rcases ((r2 z).1 hz).1 with h | h
            · exact ha'.1 z h
            · exact hb'.1 z h
          · show k ∈ x :: mergeL true a b ↔ _
            rw [List.mem_cons, r2 k]
            by_cases hk : k = x <;> simp [hk]
        | false =>
          rw [if_neg (by decide), List.nil_append]
          refine ⟨r1, fun k => ?_⟩
          rw [r2 k]
          by_cases hk : k = x
          · subst hk
            simp [nxa, nyb]
          · simp [hk]
termination_by a b => a.length + b.length
theorem merge_ok (both : Bool) (a b : List K2) (ha : keysOkR a = true) (hb : keysOkR b = true) : keysOkR (mergeL both a b) = true := by
  rw [keysR_iff] at *
  obtain ⟨r1, r2⟩ := merge_spec both a b ha.2 hb.2
  refine ⟨fun k hk => ?_, r1⟩
  rcases ((r2 k).1 hk).1 with h | h
  · exact ha.1 k h
  · exact hb.1 k h
/-- the same keys, rising: the same list -/
theorem ok_ext {a b : List K2} (ha : keysOkR a = true) (hb : keysOkR b = true) (h : ∀ k, k ∈ a ↔ k ∈ b) : a = b :=
  rising_ext a b ((keysR_iff a).1 ha).2 ((keysR_iff b).1 hb).2 h
theorem merge_mem {both : Bool} {a b : List K2} (ha : keysOkR a = true) (hb : keysOkR b = true) (k : K2) : k ∈ mergeL both a b ↔ ((k ∈ a ∨ k ∈ b) ∧ (both = true ∨ ¬ (k ∈ a ∧ k ∈ b))) :=
  (merge_spec both a b ((keysR_iff a).1 ha).2 ((keysR_iff b).1 hb).2).2 k
theorem merge_comm (both : Bool) {a b : List K2} (ha : keysOkR a = true) (hb : keysOkR b = true) : mergeL both b a = mergeL both a b := by
  refine ok_ext (merge_ok both b a hb ha) (merge_ok both a b ha hb) fun k => ?_
  rw [merge_mem hb ha, merge_mem ha hb]
  by_cases h1 : k ∈ a <;> by_cases h2 : k ∈ b <;> simp [h1, h2]
theorem parted_self {a : List K2} (ha : keysOkR a = true) : mergeL false a a = [] := by
  have hn : keysOkR ([] : List K2) = true := rfl
  refine ok_ext (merge_ok false a a ha ha) hn fun k => ?_
  rw [merge_mem ha ha]
  simp
end Go.Proofs.Ytcecodjipeahkaa
namespace Go.Proofs.Ytcecodjipeahkaa
open Go
set_option linter.unusedVariables false

/-- a word: its keys, its load -/
abbrev C2 := List K2 × ByteArray
def codeOkB (x : C2) : Bool := (decide (x.1.length ≤ 6) && keysOkR x.1) && (decide (x.2.size = 4) && (decide (0 < x.1.length) || decide (x.2 = z4)))
def blankC : C2 := ([], z4)
theorem codeOk_iff (x : C2) : codeOkB x = true ↔ x.1.length ≤ 6 ∧ keysOkR x.1 = true ∧ x.2.size = 4 ∧ (x.1 = [] → x.2 = z4) := by
  simp only [codeOkB, Bool.and_eq_true, Bool.or_eq_true, decide_eq_true_eq]
  constructor
  · rintro ⟨⟨h1, h2⟩, h3, h4⟩
    refine ⟨h1, h2, h3, fun h => h4.resolve_left ?_⟩
    rw [h]; simp
  · rintro ⟨h1, h2, h3, h4⟩
    refine ⟨⟨h1, h2⟩, h3, ?_⟩
    rcases Nat.eq_zero_or_pos x.1.length with h | h
    · exact .inr (h4 (List.length_eq_zero_iff.1 h))
    · exact .inl h
end Go.Proofs.Ytcecodjipeahkaa
namespace Go.Proofs.Ytcecodjipeahkaa
open Go.ChangeShapes Go.WideShapes Go.ChangeAt Go.RowKit Go.BigFrame
set_option linter.unusedVariables false

set_option maxRecDepth 100000 in
theorem skeysok_any (v : Value) (ks : List K2) (w : World) (h : keysAt w v ks) (hs : ks.length ≤ 2000000) : Calls Try.prog 51 #[v] w fun e w' => e = .returned (.bool (keysOkR ks)) ∧ Below w.heap.size w w' := by
  obtain ⟨a, cap, rfl, hcap, hcells⟩ := h
  go_enter Try.func51, Try.ntmps51
  go_wp2
  go_loopw [3] (fun i wr => ∃ k : Nat, k ≤ ks.length ∧ i = .int .i64 k ∧ (List.range k).all (stepB ks) = true ∧ Below w.heap.size w wr) (fun i _ => ks.length - (intOf i).toNat)
  case atStart => exact ⟨0, Nat.zero_le _, rfl, rfl, Below.refl _ _⟩
  case round =>
    obtain ⟨k, hk, rfl, hall, hb⟩ := hrel
    by_cases hlt : k < ks.length
    · obtain ⟨g, off, rfl, hg, hcs⟩ := hcells.resolve_left (by omega)
      have z0 : (0 : Int) ≤ (k : Int) := by omega
      have z1 : (k : Int) < (ks.length : Int) := by omega
      have c1 := hcs k hlt
      have HK := Lib.hid (fun w => skeyok_any (ks.getD k (0, 0)) w)
      have hst : stepB ks k = (keyOkB (ks.getD k (0, 0)) && (decide (k = 0) || aheadB (ks.getD (k - 1) (0, 0)) (ks.getD k (0, 0)))) := rfl
      have hsu := keysR_succ ks k
      have HST := Lib.hid hst; clear hst
      cases hko : keyOkB (ks.getD k (0, 0)) with
      | false =>
        rw [hko] at HK HST
        have hf : keysOkR ks = false := stepB_false hlt (by rw [HST.out]; rfl)
        have HF := Lib.hid hf
        clear hcs hcells hko hf HST hsu
        generalize ks.getD k (0, 0) = kx at *
        have L1 := fun w' hb => key_load c1 (w' := w') hg hb
        clear c1
        go_wp2
        refine wp_region_below w (by kernel_rfl) (by kernel_rfl) hb ?_
        repeat (first
          | go_big_quiet_skip
          | (go_big_quiet_want
             first
               | (go_big_quiet_op; go_big_quiet_on)
               | (refine q_load 44 _ _ _ rfl rfl L1 ?_; simp only [Act.put, List.setIfInBounds_toArray, List.set_cons_zero, List.set_cons_succ]; go_big_quiet_on)
               | (go_big_quiet_op; refine ⟨_, fun _ _ => rfl, ?_⟩; go_big_quiet_on)
               | (go_big_quiet_op; apply Exists.intro; refine ⟨fun w' hw' => ?_, ?_⟩
                  · first
                    | (refine (HK.out w').mono ?_
                       rintro e w2 ⟨rfl, hb2⟩
                       exact ⟨rfl, hw'.trans (hb2.mono hw'.size)⟩)
                  go_big_quiet_on)))
        refine wpQuiet_nil ?_
        intro w2 hb2
        clear L1 HK hb
        go_wp2
        go_ret
        exact ⟨by rw [HF.out]; rfl, hb2⟩
      | true =>
        rw [hko] at HK HST
        by_cases hk0 : k = 0
        · subst hk0
          have ht : (List.range (0 + 1)).all (stepB ks) = true := by rw [hsu, HST.out]; rfl
          have HT := Lib.hid ht
          clear hcs hcells hko ht HST hsu hall
          generalize ks.getD 0 (0, 0) = kx at *
          have L1 := fun w' hb => key_load c1 (w' := w') hg hb
          clear c1
          have y0 : ¬ (0 : Int) < ((0 : Nat) : Int) := by omega
          simp only [Nat.zero_mul, Nat.add_zero] at L1
          go_wp2
          refine wp_region_below w (by kernel_rfl) (by kernel_rfl) hb ?_
          repeat (first
            | go_big_quiet_skip
            | (go_big_quiet_want
               first
                 | (go_big_quiet_op; go_big_quiet_on)
                 | (refine q_load 44 _ _ _ rfl rfl L1 ?_; simp only [Act.put, List.setIfInBounds_toArray, List.set_cons_zero, List.set_cons_succ]; go_big_quiet_on)
                 | (go_big_quiet_op; refine ⟨_, fun _ _ => rfl, ?_⟩; go_big_quiet_on)
                 | (go_big_quiet_op; apply Exists.intro; refine ⟨fun w' hw' => ?_, ?_⟩
                    · first
                      | (refine (HK.out w').mono ?_
                         rintro e w2 ⟨rfl, hb2⟩
                         exact ⟨rfl, hw'.trans (hb2.mono hw'.size)⟩)
                    go_big_quiet_on)))
          refine wpQuiet_nil ?_
          intro w2 hb2
          clear L1 HK hb
          go_wp2
          exact ⟨⟨1, by omega, by go_num, HT.out, hb2⟩, by simp [intOf]; omega⟩
        · have ha := hcs (k - 1) (by omega)
          rw [show off + (k - 1) * 2 = off + (k - 1) * 2 from rfl] at ha
          have HA := Lib.hid (fun w => sahead_any (ks.getD (k - 1) (0, 0)) (ks.getD k (0, 0)) w)
          have d0 : decide (k = 0) = false := by simpa using hk0
          rw [d0] at HST
          have y0 : (0 : Int) < (k : Int) := by omega
          have yk : 0 < k := by omega
          have y1 : (0 : Int) ≤ (k : Int) - 1 := by omega
          have y2 : (k : Int) - 1 < (ks.length : Int) := by omega
          have ew : IntKind.i64.wrap ((k : Int) - 1) = (k : Int) - 1 := IntWalk.i64_in _ (by omega)
          have et : ((k : Int) - 1).toNat = k - 1 := by omega
          cases hah : aheadB (ks.getD (k - 1) (0, 0)) (ks.getD k (0, 0)) with
          | false =>
            rw [hah] at HA HST
            have hf : keysOkR ks = false := stepB_false hlt (by rw [HST.out]; rfl)
            have HF := Lib.hid hf
            clear hcs hcells hko hf HST hsu hah
            generalize ks.getD k (0, 0) = kx at *
            generalize ks.getD (k - 1) (0, 0) = ky at *
            have L1 := fun w' hb => key_load c1 (w' := w') hg hb
            have L2 := fun w' hb => key_load ha (w' := w') hg hb
            clear c1 ha
            go_wp2
            refine wp_region_below w (by kernel_rfl) (by kernel_rfl) hb ?_
            repeat (first
              | go_big_quiet_skip
              | (go_big_quiet_want
                 first
                   | (go_big_quiet_op; go_big_quiet_on)
                   | (refine q_load 44 _ _ _ rfl rfl L1 ?_; simp only [Act.put, List.setIfInBounds_toArray, List.set_cons_zero, List.set_cons_succ]; go_big_quiet_on)
                   | (refine q_load 44 _ _ _ rfl rfl L2 ?_; simp only [Act.put, List.setIfInBounds_toArray, List.set_cons_zero, List.set_cons_succ]; go_big_quiet_on)
                   | (go_big_quiet_op; refine ⟨_, fun _ _ => rfl, ?_⟩; go_big_quiet_on)
                   | (go_big_quiet_op; apply Exists.intro; refine ⟨fun w' hw' => ?_, ?_⟩
                      · first
                        | (refine (HK.out w').mono ?_
                           rintro e w2 ⟨rfl, hb2⟩
                           exact ⟨rfl, hw'.trans (hb2.mono hw'.size)⟩)
                        | (refine (HA.out w').mono ?_
                           rintro e w2 ⟨rfl, hb2⟩
                           exact ⟨rfl, hw'.trans (hb2.mono hw'.size)⟩)
                      go_big_quiet_on)))
            refine wpQuiet_nil ?_
            intro w2 hb2
            clear L1 L2 HK HA hb
            go_wp2
            go_ret
            exact ⟨by rw [HF.out]; rfl, hb2⟩
          | true =>
            rw [hah] at HA HST
            have ht : (List.range (k + 1)).all (stepB ks) = true := by rw [hsu, hall, HST.out]; rfl
            have HT := Lib.hid ht
            clear hcs hcells hko ht HST hsu hah hall
            generalize ks.getD k (0, 0) = kx at *
            generalize ks.getD (k - 1) (0, 0) = ky at *
            have L1 := fun w' hb => key_load c1 (w' := w') hg hb
            have L2 := fun w' hb => key_load ha (w' := w') hg hb
            clear c1 ha
            go_wp2
            refine wp_region_below w (by kernel_rfl) (by kernel_rfl) hb ?_
            repeat (first
              | go_big_quiet_skip
              | (go_big_quiet_want
                 first
                   | (go_big_quiet_op; go_big_quiet_on)
                   | (refine q_load 44 _ _ _ rfl rfl L1 ?_; simp only [Act.put, List.setIfInBounds_toArray, List.set_cons_zero, List.set_cons_succ]; go_big_quiet_on)
                   | (refine q_load 44 _ _ _ rfl rfl L2 ?_; simp only [Act.put, List.setIfInBounds_toArray, List.set_cons_zero, List.set_cons_succ]; go_big_quiet_on)
                   | (go_big_quiet_op; refine ⟨_, fun _ _ => rfl, ?_⟩; go_big_quiet_on)
                   | (go_big_quiet_op; apply Exists.intro; refine ⟨fun w' hw' => ?_, ?_⟩
                      · first
                        | (refine (HK.out w').mono ?_
                           rintro e w2 ⟨rfl, hb2⟩
                           exact ⟨rfl, hw'.trans (hb2.mono hw'.size)⟩)
                        | (refine (HA.out w').mono ?_
                           rintro e w2 ⟨rfl, hb2⟩
                           exact ⟨rfl, hw'.trans (hb2.mono hw'.size)⟩)
                      go_big_quiet_on)))
            refine wpQuiet_nil ?_
            intro w2 hb2
            clear L1 L2 HK HA hb
            go_wp2
            exact ⟨⟨k + 1, by omega, by go_num, HT.out, hb2⟩, by simp [intOf]; omega⟩
    · obtain rfl : k = ks.length := by omega
      have HF := Lib.hid hall
      go_wp2
      go_ret
      exact ⟨by unfold keysOkR; rw [HF.out]; rfl, hb⟩
end Go.Proofs.Ytcecodjipeahkaa
namespace Go.Proofs.Ytcecodjipeahkaa
open Go.ChangeShapes Go.WideShapes Go.ChangeAt Go.RowKit Go.BigFrame
set_option linter.unusedVariables false
theorem own_cell {w : World} {base g n cap : Nat} {e : TypeId} {size : Nat} {xs : List Value} (h : w.ownsRow base e size (.slice (some ⟨g, 0, none⟩) n cap) n xs) (j : Nat) (hj : j < n * size) :
    w.cell? ⟨g, j, none⟩ = some (xs.getD j undef) ∧ w.frozen? ⟨g, j, none⟩ = false := by
  have hl : xs.length = n * size := h.1
  refine ⟨?_, ?_⟩
  · rw [h.cellAt j hj]
    simp [List.getD, show j < xs.length by omega]
  · rcases h.2 with ⟨h1, _⟩ | ⟨g', cap', cur, h1, _, hg, _⟩
    · simp at h1
    · simp only [Value.slice.injEq, Option.some.injEq, Addr.mk.injEq, and_true, true_and] at h1
      obtain ⟨rfl, rfl⟩ := h1
      simp [World.frozen?, hg]
theorem ownsRowK_shape {w : World} {base n : Nat} {e : TypeId} {v : Value} {size : Nat} {xs : List Value} (h : w.ownsRow base e size v n xs) :
    (v = .slice none 0 0 ∧ n = 0) ∨ ∃ g cap, v = .slice (some ⟨g, 0, none⟩) n cap ∧ n ≤ cap ∧ cap ≤ maxLen ∧ base ≤ g ∧ g < w.heap.size := by
  rcases h.2 with h1 | ⟨g, cap, cur, rfl, h2, h3, h4, h5, _⟩
  · exact .inl h1
  · exact .inr ⟨g, cap, rfl, h4, h5, h2, (Array.getElem?_eq_some_iff.1 h3).1⟩
theorem own_base {w : World} {base base' n : Nat} {e : TypeId} {size : Nat} {v : Value} {xs : List Value} (h : w.ownsRow base' e size v n xs) (hb : base ≤ base') : w.ownsRow base e size v n xs := by
  refine ⟨h.1, h.2.imp_right ?_⟩
  rintro ⟨g, cap, cur, h1, h2, h3⟩
  exact ⟨g, cap, cur, h1, Nat.le_trans hb h2, h3⟩
end Go.Proofs.Ytcecodjipeahkaa
namespace Go.Proofs.Ytcecodjipeahkaa
set_option linter.unusedVariables false

theorem cell_two_new (w : World) (x y : Value) (e : TypeId) : ∀ j u, ([x, y] : List Value)[j]? = some u → (w.alloc (.cells #[x, y] e)).cell? ((⟨w.heap.size, 0, none⟩ : Addr).add j) = some u := by
  intro j u hj
  have : j < 2 := by have := (List.getElem?_eq_some_iff.1 hj).1; simpa using this
  rcases (by omega : j = 0 ∨ j = 1) with rfl | rfl <;> simpa [Addr.add_lit] using hj
end Go.Proofs.Ytcecodjipeahkaa
namespace Go.Proofs.Ytcecodjipeahkaa
open Go.ChangeShapes Go.WideShapes Go.ChangeAt Go.RowKit
set_option linter.unusedVariables false
theorem results_cell {fn : Func} {p : Tmp} {ty : TypeId} (h : fn.results = #[.cell p ty]) (tmps : Array Value) (P : Program) (w : World) :
    (results fn tmps).run P w = ((asAddr (tmps.getD p undef)).run P w).andThen fun a w₁ => (loadVar ty a).run P w₁ := by
  simp only [results, h]
  simp [Sem.run_bind]
theorem heap_first (w : World) (o c : Obj) : ((w.alloc c).alloc o).heap[w.heap.size]? = some c := by
  show ((w.heap.push c).push o)[w.heap.size]? = some c
  rw [Array.getElem?_push, if_neg (by simp), Array.getElem?_push, if_pos rfl]
theorem heap_mid (w : World) (a b c : Obj) : (((w.alloc a).alloc b).alloc c).heap[w.heap.size + 1]? = some b := by
  show (((w.heap.push a).push b).push c)[w.heap.size + 1]? = some b
  rw [Array.getElem?_push, if_neg (by simp), Array.getElem?_push, if_pos (by simp)]
end Go.Proofs.Ytcecodjipeahkaa
namespace Go.Proofs.Ytcecodjipeahkaa
open Go.ChangeShapes Go.WideShapes Go.ChangeAt Go.RowKit Go.BigFrame
set_option linter.unusedVariables false

theorem set_cellsD {w : World} {B j : Nat} {cs : Array Value} {t : TypeId} (u : Value) (h : w.heap[B]? = some (.cells cs t (0, 0))) : (w.setCell ⟨B, j, none⟩ u).heap[B]? = some (.cells (cs.setIfInBounds j u) t (0, 0)) := by
  obtain ⟨hlt, hk⟩ := Array.getElem?_eq_some_iff.1 h
  show (w.heap.modify B _)[B]? = _
  rw [Array.getElem?_eq_getElem (by rw [Array.size_modify]; exact hlt), Array.getElem_modify_self, hk]
  rfl
end Go.Proofs.Ytcecodjipeahkaa
namespace Go.Proofs.Ytcecodjipeahkaa
set_option linter.unusedVariables false

theorem bytes_toList_iff (a b : ByteArray) : a.toList = b.toList ↔ a = b := by
  refine ⟨fun h => ?_, fun h => by rw [h]⟩
  rw [ByteArray.toList_eq, ByteArray.toList_eq] at h
  exact ByteArray.ext (Array.toList_inj.1 h)
end Go.Proofs.Ytcecodjipeahkaa
namespace Go.Proofs.Ytcecodjipeahkaa
open Go.ChangeShapes Go.WideShapes Go.ChangeAt Go.RowKit
set_option linter.unusedVariables false

theorem grownT {A B C : World} {row : Option Nat} (h : A.grownBy B row) (k : B.grownBy C row) : A.grownBy C row :=
  ⟨k.os.trans h.os, k.tape.trans h.tape, k.output.trans h.output, Nat.le_trans h.size k.size, fun j hj hr => (k.block j (Nat.lt_of_lt_of_le hj h.size) hr).trans (h.block j hj hr)⟩
end Go.Proofs.Ytcecodjipeahkaa
namespace Go.Proofs.Ytcecodjipeahkaa
open Go.ChangeShapes Go.WideShapes Go.ChangeAt Go.RowKit Go.BigFrame
set_option linter.unusedVariables false

/-- a word in memory: two cells -/
theorem cd_cells {W w' : World} {b : Nat} {v : Value} {y : ByteArray} {T : TypeId} (h : W.heap[b]? = some (.cells #[v, .string y] T)) (hb : Below W.heap.size W w') :
    w'.cell? ⟨b, 0, none⟩ = some v ∧ w'.cell? ⟨b, 1, none⟩ = some (.string y) := by
  have h1 := (hb.block _ (Array.getElem?_eq_some_iff.1 h).1).trans h
  exact ⟨by rw [cell_of_row _ _ 0 _ _ _ h1]; rfl, by rw [cell_of_row _ _ 1 _ _ _ h1]; rfl⟩
theorem agg_str (w : World) : (isAgg 9).run Try.prog w = .ok false w := by simp [isAgg, underlying, Try.underlying9]
theorem agg_keys (w : World) : (isAgg 25).run Try.prog w = .ok false w := by simp [isAgg, underlying, Try.underlying25]
theorem load_one {t : TypeId} {w : World} {p : Addr} {v : Value} (ht : ∀ w, (isAgg t).run Try.prog w = .ok false w) (h : w.cell? p = some v) : (loadVar t p).run Try.prog w = .ok v w := by
  unfold loadVar
  simp only [Sem.run_bind, ht, Result.andThen_ok]
  rw [if_neg (by simp)]
  simp [h]
theorem cd_load {W w' : World} {b : Nat} {v : Value} {y : ByteArray} {T : TypeId} (h : W.heap[b]? = some (.cells #[v, .string y] T)) (hb : Below W.heap.size W w') :
    (loadVar 27 ⟨b, 0, none⟩).run Try.prog w' = .ok (.agg #[v, .string y]) w' := by
  obtain ⟨h0, h1⟩ := cd_cells h hb
  refine run_loadVar_mid w' b 0 27 [v, .string y] _ (fun j u hj => ?_) Try.underlying27 rfl (by kernel_rfl)
  have hj2 : j < 2 := by have := (List.getElem?_eq_some_iff.1 hj).1; simpa using this
  rcases (by omega : j = 0 ∨ j = 1) with rfl | rfl
  · simpa using h0.trans (by simpa using hj)
  · simpa using h1.trans (by simpa using hj)
theorem szero_any (w : World) : Calls Try.prog 53 #[] w fun e w' => e = .returned (.string z4) ∧ w' = w := by
  go_enter Try.func53, Try.ntmps53
  go_wp2
  go_ret
  exact ⟨rfl, rfl⟩
theorem cd_loadk {W w' : World} {b : Nat} {v : Value} {y : ByteArray} {T : TypeId} (h : W.heap[b]? = some (.cells #[v, .string y] T)) (hb : Below W.heap.size W w') :
    (loadVar 25 ⟨b, 0, none⟩).run Try.prog w' = .ok v w' := load_one agg_keys (cd_cells h hb).1
theorem cd_loads {W w' : World} {b : Nat} {v : Value} {y : ByteArray} {T : TypeId} (h : W.heap[b]? = some (.cells #[v, .string y] T)) (hb : Below W.heap.size W w') :
    (loadVar 9 ⟨b, 1, none⟩).run Try.prog w' = .ok (.string y) w' := load_one agg_str (cd_cells h hb).2
structure Row2 (w : World) (b : Nat) (x y : Value) : Prop where
  c0 : w.cell? ⟨b, 0, none⟩ = some x
  c1 : w.cell? ⟨b, 1, none⟩ = some y
  f0 : w.frozen? ⟨b, 0, none⟩ = false
  f1 : w.frozen? ⟨b, 1, none⟩ = false
theorem row2_of {w : World} {b : Nat} {x y : Value} {t : TypeId} (h : w.heap[b]? = some (.cells #[x, y] t (0, 0))) : Row2 w b x y :=
  ⟨by rw [cell_of_row _ _ 0 _ _ _ h]; rfl, by rw [cell_of_row _ _ 1 _ _ _ h]; rfl, by simp [World.frozen?, h], by simp [World.frozen?, h]⟩
theorem set2 {w : World} {b : Nat} {x y : Value} {t : TypeId} (p q : Value) (h : w.heap[b]? = some (.cells #[x, y] t (0, 0))) :
    ((w.setCell ⟨b, 0, none⟩ p).setCell ⟨b, 1, none⟩ q).heap[b]? = some (.cells #[p, q] t (0, 0)) := set_cellsD _ (set_cellsD _ h)
theorem grown2 (w : World) (b : Nat) (p q : Value) : w.grownBy ((w.setCell ⟨b, 0, none⟩ p).setCell ⟨b, 1, none⟩ q) (some b) :=
  grownT (Lib.grownBy_setCell w b 0 p) (Lib.grownBy_setCell _ b 1 q)
theorem below2 {w W : World} {n b : Nat} (hb : Below n w W) (h : n ≤ b) (p q : Value) : Below n w ((W.setCell ⟨b, 0, none⟩ p).setCell ⟨b, 1, none⟩ q) :=
  (hb.setCell (p := ⟨b, 0, none⟩) h p).setCell (p := ⟨b, 1, none⟩) h q
theorem szero_below (w : World) : Calls Try.prog 53 #[] w fun e w' => e = .returned (.string z4) ∧ Below w.heap.size w w' :=
  (szero_any w).mono fun e w' h => ⟨h.1, by rw [h.2]; exact Below.refl _ _⟩
set_option maxRecDepth 100000 in
set_option maxHeartbeats 1000000 in
theorem scodeok_any (v : Value) (ks : List K2) (y : ByteArray) (w : World) (h : keysAt w v ks) (hs : ks.length ≤ 2000000) :
    Calls Try.prog 16 #[.agg #[v, .string y]] w fun e w' => e = .returned (.bool (codeOkB (ks, y))) ∧ Below w.heap.size w w' := by
  have hb := (Below.refl w.heap.size w).alloc (Nat.le_refl _) (.cells #[v, .string y] 27)
  have HB := Lib.hid hb
  have HX := Lib.hid (heap_alloc_new w (.cells #[v, .string y] 27))
  have HK := Lib.hid (fun w' (hb' : Below (w.alloc (.cells #[v, .string y] 27)).heap.size (w.alloc (.cells #[v, .string y] 27)) w') => skeysok_any v ks w' (keysAt_below h (hb.trans (hb'.mono hb.size))) hs)
  obtain ⟨a, cap, rfl, -, -⟩ := h
  unfold codeOkB
  dsimp only
  go_enter Try.func16, Try.ntmps16
  go_wp2
  generalize w.alloc (.cells #[.slice a ks.length cap, .string y] 27) = W at *
  have L0 := fun w' (hb' : Below W.heap.size W w') => cd_loadk HX.out hb'
  have L1 := fun w' (hb' : Below W.heap.size W w') => cd_loads HX.out hb'

  clear hb
  by_cases h1 : ks.length ≤ 6
  · have i1 : (ks.length : Int) ≤ 6 := by omega
    have d1 : decide ((ks.length : Int) ≤ 6) = true := decide_eq_true i1
    cases h2 : keysOkR ks with
    | false =>
      rw [h2] at HK
      refine wp_region_below W (by kernel_rfl) (by kernel_rfl) (Below.refl _ _) ?_
      repeat (first
        | go_big_quiet_skip
        | (go_big_quiet_want
           first
             | (go_big_quiet_op; go_big_quiet_on)
             | (refine q_load 25 _ _ _ rfl rfl L0 ?_; simp only [Act.put, List.setIfInBounds_toArray, List.set_cons_zero, List.set_cons_succ]; go_big_quiet_on)
             | (refine q_load 9 _ _ _ rfl rfl L1 ?_; simp only [Act.put, List.setIfInBounds_toArray, List.set_cons_zero, List.set_cons_succ]; go_big_quiet_on)
             | (go_big_quiet_op; refine ⟨_, fun _ _ => rfl, ?_⟩; go_big_quiet_on)
             | (go_big_quiet_op; apply Exists.intro; refine ⟨fun w' hw' => ?_, ?_⟩
                · first
                  | (with_reducible refine (HK.out w' hw').mono ?_
                     rintro e w2 ⟨rfl, hb2⟩
                     exact ⟨rfl, hw'.trans (hb2.mono hw'.size)⟩)
                  | (with_reducible refine (szero_below w').mono ?_
                     rintro e w2 ⟨rfl, hb2⟩
                     exact ⟨rfl, hw'.trans (hb2.mono hw'.size)⟩)
                go_big_quiet_on)))
      refine wpQuiet_nil ?_
      intro w9 hb9
      clear L0 L1
      go_wp2
      go_ret
      exact ⟨by simp [h1, h2], HB.out.trans (hb9.mono HB.out.size)⟩
    | true =>
      rw [h2] at HK
      by_cases h3 : y.size = 4
      · have i3 : (y.size : Int) = 4 := by omega
        have b3 : ((y.size : Int) == 4) = true := by simpa using i3
        by_cases h4 : 0 < ks.length
        · have i4 : (0 : Int) < (ks.length : Int) := by omega
          have d4 : decide ((0 : Int) < (ks.length : Int)) = true := decide_eq_true i4
          refine wp_region_below W (by kernel_rfl) (by kernel_rfl) (Below.refl _ _) ?_
          repeat (first
            | go_big_quiet_skip
            | (go_big_quiet_want
               first
                 | (go_big_quiet_op; go_big_quiet_on)
                 | (refine q_load 25 _ _ _ rfl rfl L0 ?_; simp only [Act.put, List.setIfInBounds_toArray, List.set_cons_zero, List.set_cons_succ]; go_big_quiet_on)
                 | (refine q_load 9 _ _ _ rfl rfl L1 ?_; simp only [Act.put, List.setIfInBounds_toArray, List.set_cons_zero, List.set_cons_succ]; go_big_quiet_on)
                 | (go_big_quiet_op; refine ⟨_, fun _ _ => rfl, ?_⟩; go_big_quiet_on)
                 | (go_big_quiet_op; apply Exists.intro; refine ⟨fun w' hw' => ?_, ?_⟩
                    · first
                      | (with_reducible refine (HK.out w' hw').mono ?_
                         rintro e w2 ⟨rfl, hb2⟩
                         exact ⟨rfl, hw'.trans (hb2.mono hw'.size)⟩)
                      | (with_reducible refine (szero_below w').mono ?_
                         rintro e w2 ⟨rfl, hb2⟩
                         exact ⟨rfl, hw'.trans (hb2.mono hw'.size)⟩)
                    go_big_quiet_on)))
          refine wpQuiet_nil ?_
          intro w9 hb9
          clear L0 L1
          go_wp2
          go_ret
          exact ⟨by simp [h1, h2, h3, h4], HB.out.trans (hb9.mono HB.out.size)⟩
        · have i4 : ¬ (0 : Int) < (ks.length : Int) := by omega
          have d4 : decide ((0 : Int) < (ks.length : Int)) = false := decide_eq_false i4
          have hy : decide (y = z4) = (y.toList == z4.toList) := by
            rw [Bool.eq_iff_iff, decide_eq_true_eq, beq_iff_eq, bytes_toList_iff]
          refine wp_region_below W (by kernel_rfl) (by kernel_rfl) (Below.refl _ _) ?_
          repeat (first
            | go_big_quiet_skip
            | (go_big_quiet_want
               first
                 | (go_big_quiet_op; go_big_quiet_on)
                 | (refine q_load 25 _ _ _ rfl rfl L0 ?_; simp only [Act.put, List.setIfInBounds_toArray, List.set_cons_zero, List.set_cons_succ]; go_big_quiet_on)
                 | (refine q_load 9 _ _ _ rfl rfl L1 ?_; simp only [Act.put, List.setIfInBounds_toArray, List.set_cons_zero, List.set_cons_succ]; go_big_quiet_on)
                 | (go_big_quiet_op; refine ⟨_, fun _ _ => rfl, ?_⟩; go_big_quiet_on)
                 | (go_big_quiet_op; apply Exists.intro; refine ⟨fun w' hw' => ?_, ?_⟩
                    · first
                      | (with_reducible refine (HK.out w' hw').mono ?_
                         rintro e w2 ⟨rfl, hb2⟩
                         exact ⟨rfl, hw'.trans (hb2.mono hw'.size)⟩)
                      | (with_reducible refine (szero_below w').mono ?_
                         rintro e w2 ⟨rfl, hb2⟩
                         exact ⟨rfl, hw'.trans (hb2.mono hw'.size)⟩)
                    go_big_quiet_on)))
          refine wpQuiet_nil ?_
          intro w9 hb9
          clear L0 L1
          go_wp2
          go_ret
          exact ⟨by simp [h1, h2, h3, h4, hy], HB.out.trans (hb9.mono HB.out.size)⟩
      · have i3 : ¬ (y.size : Int) = 4 := by omega
        have b3 : ((y.size : Int) == 4) = false := by simpa using i3
        refine wp_region_below W (by kernel_rfl) (by kernel_rfl) (Below.refl _ _) ?_
        repeat (first
          | go_big_quiet_skip
          | (go_big_quiet_want
             first
               | (go_big_quiet_op; go_big_quiet_on)
               | (refine q_load 25 _ _ _ rfl rfl L0 ?_; simp only [Act.put, List.setIfInBounds_toArray, List.set_cons_zero, List.set_cons_succ]; go_big_quiet_on)
               | (refine q_load 9 _ _ _ rfl rfl L1 ?_; simp only [Act.put, List.setIfInBounds_toArray, List.set_cons_zero, List.set_cons_succ]; go_big_quiet_on)
               | (go_big_quiet_op; refine ⟨_, fun _ _ => rfl, ?_⟩; go_big_quiet_on)
               | (go_big_quiet_op; apply Exists.intro; refine ⟨fun w' hw' => ?_, ?_⟩
                  · first
                    | (with_reducible refine (HK.out w' hw').mono ?_
                       rintro e w2 ⟨rfl, hb2⟩
                       exact ⟨rfl, hw'.trans (hb2.mono hw'.size)⟩)
                    | (with_reducible refine (szero_below w').mono ?_
                       rintro e w2 ⟨rfl, hb2⟩
                       exact ⟨rfl, hw'.trans (hb2.mono hw'.size)⟩)
                  go_big_quiet_on)))
        refine wpQuiet_nil ?_
        intro w9 hb9
        clear L0 L1
        go_wp2
        go_ret
        exact ⟨by simp [h1, h2, h3], HB.out.trans (hb9.mono HB.out.size)⟩
  · have i1 : ¬ (ks.length : Int) ≤ 6 := by omega
    have d1 : decide ((ks.length : Int) ≤ 6) = false := decide_eq_false i1
    refine wp_region_below W (by kernel_rfl) (by kernel_rfl) (Below.refl _ _) ?_
    repeat (first
      | go_big_quiet_skip
      | (go_big_quiet_want
         first
           | (go_big_quiet_op; go_big_quiet_on)
           | (refine q_load 25 _ _ _ rfl rfl L0 ?_; simp only [Act.put, List.setIfInBounds_toArray, List.set_cons_zero, List.set_cons_succ]; go_big_quiet_on)
           | (refine q_load 9 _ _ _ rfl rfl L1 ?_; simp only [Act.put, List.setIfInBounds_toArray, List.set_cons_zero, List.set_cons_succ]; go_big_quiet_on)
           | (go_big_quiet_op; refine ⟨_, fun _ _ => rfl, ?_⟩; go_big_quiet_on)
           | (go_big_quiet_op; apply Exists.intro; refine ⟨fun w' hw' => ?_, ?_⟩
              · first
                | (with_reducible refine (HK.out w' hw').mono ?_
                   rintro e w2 ⟨rfl, hb2⟩
                   exact ⟨rfl, hw'.trans (hb2.mono hw'.size)⟩)
                | (with_reducible refine (szero_below w').mono ?_
                   rintro e w2 ⟨rfl, hb2⟩
                   exact ⟨rfl, hw'.trans (hb2.mono hw'.size)⟩)
              go_big_quiet_on)))
    refine wpQuiet_nil ?_
    intro w9 hb9
    clear L0 L1
    go_wp2
    go_ret
    exact ⟨by simp [h1], HB.out.trans (hb9.mono HB.out.size)⟩
end Go.Proofs.Ytcecodjipeahkaa
namespace Go.Proofs.Ytcecodjipeahkaa
open Go.ChangeShapes Go.WideShapes Go.ChangeAt Go.RowKit
set_option linter.unusedVariables false
def numsOf (l : List UInt8) : List Int := l.map fun c => (c.toNat : Int)
theorem nums_back (l : List UInt8) : strOfNums (numsOf l) = ⟨l.toArray⟩ := by
  unfold strOfNums numsOf
  rw [List.map_map]
  congr 2
  conv => rhs; rw [← List.map_id l]
  apply List.map_congr_left
  intro c _
  simp
end Go.Proofs.Ytcecodjipeahkaa
namespace Go.Proofs.Ytcecodjipeahkaa
open Go.ChangeShapes Go.WideShapes Go.ChangeAt Go.RowKit Go.BigFrame
set_option linter.unusedVariables false

theorem addr_plusK (g off j : Nat) : (⟨g, off, none⟩ : Addr).add j = ⟨g, off + j, none⟩ := by
  unfold Addr.add
  split
  · rename_i h; simp [h]
  · rfl
end Go.Proofs.Ytcecodjipeahkaa
namespace Go.Proofs.Ytcecodjipeahkaa
open Go.ChangeShapes Go.WideShapes Go.ChangeAt Go.RowKit Go.BigFrame
set_option linter.unusedVariables false

/-- the cells of a word's result, of nothing yet -/
theorem cd_res {W : World} {b : Nat} {v0 : Value} {y0 : ByteArray} (h : W.heap[b]? = some (.cells #[v0, .string y0] 27)) (v : Value) (y : ByteArray) :
    (loadVar 27 ⟨b, 0, none⟩).run Try.prog ((W.setCell ⟨b, 0, none⟩ v).setCell ⟨b, 1, none⟩ (.string y)) = .ok (.agg #[v, .string y]) ((W.setCell ⟨b, 0, none⟩ v).setCell ⟨b, 1, none⟩ (.string y)) :=
  cd_load (set2 v (.string y) h) (Below.refl _ _)
theorem own_set2 {W : World} {base n b : Nat} {e : TypeId} {size : Nat} {v : Value} {xs : List Value} (h : W.ownsRow base e size v n xs) (hb : b < base) (p q : Value) : ((W.setCell ⟨b, 0, none⟩ p).setCell ⟨b, 1, none⟩ q).ownsRow base e size v n xs :=
  h.kept (grown2 W b p q) (by
    cases hv : v.ownBlock with
    | none => exact .inl rfl
    | some g => exact .inr (fun e => by cases e; have := (h.lt _ hv).1; omega))
end Go.Proofs.Ytcecodjipeahkaa
namespace Go.Proofs.Ytcecodjipeahkaa
open Go.ChangeShapes Go.WideShapes Go.ChangeAt Go.RowKit Go.BigFrame
set_option linter.unusedVariables false

/-- what is known of a world in which a word's copy is on its way: the word, the result's place -/
structure CpC (w W : World) (v0 : Value) (y0 : ByteArray) : Prop where
  below : Below w.heap.size w W
  row : W.heap[w.heap.size]? = some (.cells #[v0, .string y0] 27)
  res : W.heap[w.heap.size + 1]? = some (.cells #[.slice none 0 0, .string ⟨#[]⟩] 27)
theorem cpc_new (w : World) (v : Value) (y : ByteArray) : CpC w ((w.alloc (.cells #[v, .string y] 27)).alloc (.cells #[.slice none 0 0, .string ⟨#[]⟩] 27)) v y := by
  have hb1 := (Below.refl w.heap.size w).alloc (Nat.le_refl _) (.cells #[v, .string y] 27)
  have hr2 := heap_alloc_new (w.alloc (.cells #[v, .string y] 27)) (.cells #[.slice none 0 0, .string ⟨#[]⟩] 27)
  have e1 : (w.alloc (.cells #[v, .string y] 27)).heap.size = w.heap.size + 1 := by simp
  rw [e1] at hr2
  exact ⟨hb1.alloc hb1.size _, (Below.heap_alloc _ _ w.heap.size (by simp)).trans (heap_alloc_new w _), hr2⟩
theorem CpC.next {w W W' : World} {v0 : Value} {y0 : ByteArray} {own : Option Nat} (h : CpC w W v0 y0) (hg : W.grownBy W' own) (ho : ∀ g, own = some g → w.heap.size + 2 ≤ g) : CpC w W' v0 y0 := by
  have l1 := (Array.getElem?_eq_some_iff.1 h.res).1
  refine ⟨h.below.grown hg h.below.size (fun g e => by have := ho g e; omega), (hg.block _ (by omega) (fun e => by have := ho _ e.symm; omega)).trans h.row, (hg.block _ l1 (fun e => by have := ho _ e.symm; omega)).trans h.res⟩
theorem own_shape {w : World} {base n : Nat} {e : TypeId} {v : Value} {size : Nat} {xs : List Value} (h : w.ownsRow base e size v n xs) : ∃ a n c, v = .slice a n c := by
  rcases h.2 with ⟨h, _⟩ | ⟨g, cap, cur, h, _⟩
  · exact ⟨_, _, _, h⟩
  · exact ⟨_, _, _, h⟩
end Go.Proofs.Ytcecodjipeahkaa
namespace Go.Proofs.Ytcecodjipeahkaa
open Go.ChangeShapes Go.WideShapes Go.ChangeAt Go.RowKit Go.BigFrame
set_option linter.unusedVariables false

/-- the slice value v leads to the keys ks, in another block than b -/
def keysAv (w : World) (b : Option Nat) (v : Value) (ks : List K2) : Prop :=
  ∃ a cap, v = .slice a ks.length cap ∧ ks.length ≤ cap ∧ (ks.length = 0 ∨ ∃ g off, a = some ⟨g, off, none⟩ ∧ g < w.heap.size ∧ some g ≠ b ∧
    ∀ i, i < ks.length → w.cell? ⟨g, off + i * 2, none⟩ = some (.int .i64 (ks.getD i (0, 0)).1) ∧ w.cell? ⟨g, off + i * 2 + 1, none⟩ = some (.int .i64 (ks.getD i (0, 0)).2))
theorem keysAv.to {w : World} {b : Option Nat} {v : Value} {ks : List K2} (h : keysAv w b v ks) : keysAt w v ks := by
  obtain ⟨a, cap, h1, h2, h3⟩ := h
  refine ⟨a, cap, h1, h2, h3.imp_right ?_⟩
  rintro ⟨g, off, h4, h5, -, h6⟩
  exact ⟨g, off, h4, h5, h6⟩
theorem keysAv_of {w : World} {b : Option Nat} {v : Value} {ks : List K2} (h : keysAt w v ks) (hb : ∀ g, g < w.heap.size → some g ≠ b) : keysAv w b v ks := by
  obtain ⟨a, cap, h1, h2, h3⟩ := h
  refine ⟨a, cap, h1, h2, h3.imp_right ?_⟩
  rintro ⟨g, off, h4, h5, h6⟩
  exact ⟨g, off, h4, h5, hb g h5, h6⟩
theorem keysAv.avoid {w : World} {b b' : Option Nat} {v : Value} {ks : List K2} (h : keysAv w b v ks) (hb : ∀ g, g < w.heap.size → some g ≠ b') : keysAv w b' v ks := keysAv_of h.to hb
theorem keysAv.grown {w w' : World} {b : Option Nat} {v : Value} {ks : List K2} (h : keysAv w b v ks) (hg : w.grownBy w' b) : keysAv w' b v ks := by
  obtain ⟨a, cap, h1, h2, h3⟩ := h
  refine ⟨a, cap, h1, h2, h3.imp_right ?_⟩
  rintro ⟨g, off, h4, h5, h6, h7⟩
  refine ⟨g, off, h4, Nat.lt_of_lt_of_le h5 hg.size, h6, fun i hi => ?_⟩
  obtain ⟨c1, c2⟩ := h7 i hi
  exact ⟨hg.cell c1 h6, hg.cell c2 h6⟩
theorem keysAv.below {w w' : World} {b : Option Nat} {v : Value} {ks : List K2} (h : keysAv w b v ks) (hb : Below w.heap.size w w') : keysAv w' b v ks := h.grown (grown_of_below' hb b)
/-- what is owned above a block lies in another one -/
theorem keysAv_own {w : World} {base b : Nat} {v : Value} {ks : List K2} (h : w.ownsRow base 44 2 v ks.length (keyCells ks)) (hb : b < base) : keysAv w (some b) v ks := by
  rcases h.2 with ⟨rfl, h0⟩ | ⟨g, cap, cur, rfl, hbg, hg, hn, hm, hs, ht⟩
  · exact ⟨none, 0, by rw [h0], by omega, .inl h0⟩
  · refine ⟨_, cap, rfl, hn, .inr ⟨g, 0, rfl, (Array.getElem?_eq_some_iff.1 hg).1, fun e => by cases e; omega, fun i hi => ?_⟩⟩
    have hc := keyCells_get ks i hi
    rw [Nat.zero_add, h.cellAt (i * 2) (by omega), h.cellAt (i * 2 + 1) (by omega)]
    exact hc
/-- the slice value v leads to the words L, their keys in other blocks than b -/
def cdAv (w : World) (b : Option Nat) (v : Value) (L : List C2) : Prop :=
  ∃ a cap, v = .slice a L.length cap ∧ L.length ≤ cap ∧ (L.length = 0 ∨ ∃ g off, a = some ⟨g, off, none⟩ ∧ g < w.heap.size ∧
    ∀ i, i < L.length → ∃ u, w.cell? ⟨g, off + i * 2, none⟩ = some u ∧ w.cell? ⟨g, off + i * 2 + 1, none⟩ = some (.string (L.getD i blankC).2) ∧ keysAv w b u (L.getD i blankC).1)
theorem cdAv_below {w w' : World} {b : Option Nat} {v : Value} {L : List C2} (h : cdAv w b v L) (hb : Below w.heap.size w w') : cdAv w' b v L := by
  obtain ⟨a, cap, h1, h2, h3⟩ := h
  refine ⟨a, cap, h1, h2, h3.imp_right ?_⟩
  rintro ⟨g, off, h4, h5, h6⟩
  refine ⟨g, off, h4, Nat.lt_of_lt_of_le h5 hb.size, fun i hi => ?_⟩
  obtain ⟨u, c1, c2, c3⟩ := h6 i hi
  exact ⟨u, (hb.cell (p := ⟨g, off + i * 2, none⟩) h5).trans c1, (hb.cell (p := ⟨g, off + i * 2 + 1, none⟩) h5).trans c2, c3.below hb⟩
theorem cdAv.avoid {w : World} {b b' : Option Nat} {v : Value} {L : List C2} (h : cdAv w b v L) (hb : ∀ g, g < w.heap.size → some g ≠ b') : cdAv w b' v L := by
  obtain ⟨a, cap, h1, h2, h3⟩ := h
  refine ⟨a, cap, h1, h2, h3.imp_right ?_⟩
  rintro ⟨g, off, h4, h5, h6⟩
  refine ⟨g, off, h4, h5, fun i hi => ?_⟩
  obtain ⟨u, c1, c2, c3⟩ := h6 i hi
  exact ⟨u, c1, c2, c3.avoid hb⟩
def cdCells : List Value → List C2 → List Value
  | u :: us, x :: L => u :: .string x.2 :: cdCells us L
  | _, _ => []
theorem cdCells_len : ∀ (us : List Value) (L : List C2), us.length = L.length → (cdCells us L).length = L.length * 2
  | [], [], _ => rfl
  | u :: us, x :: L, h => by
    have := cdCells_len us L (by simpa using h)
    simp only [cdCells, List.length_cons]
    omega
  | [], _ :: _, h => by simp at h
  | _ :: _, [], h => by simp at h
theorem cdCells_app : ∀ (us us' : List Value) (L M : List C2), us.length = L.length → cdCells (us ++ us') (L ++ M) = cdCells us L ++ cdCells us' M
  | [], us', [], M, _ => rfl
  | u :: us, us', x :: L, M, h => by
    have := cdCells_app us us' L M (by simpa using h)
    simp only [List.cons_append, cdCells, this]
  | [], _, _ :: _, _, h => by simp at h
  | _ :: _, _, [], _, h => by simp at h
theorem cdCells_get : ∀ (us : List Value) (L : List C2) (i : Nat), us.length = L.length → i < L.length → (cdCells us L)[i * 2]? = some (us.getD i undef) ∧ (cdCells us L)[i * 2 + 1]? = some (.string (L.getD i blankC).2)
  | [], [], _, _, h => by simp at h
  | u :: us, x :: L, 0, _, _ => by simp [cdCells]
  | u :: us, x :: L, i + 1, h, hi => by
    have ih := cdCells_get us L i (by simpa using h) (by simpa using hi)
    have e1 : (i + 1) * 2 = i * 2 + 1 + 1 := by omega
    rw [e1]
    simp only [cdCells, List.getElem?_cons_succ, List.getD_cons_succ]
    exact ih
  | [], _ :: _, _, h, _ => by simp at h
  | _ :: _, [], _, h, _ => by simp at h
theorem cdCells_set : ∀ (us : List Value) (L : List C2) (i : Nat) (u : Value) (x : C2), us.length = L.length → ((cdCells us L).set (i * 2) u).set (i * 2 + 1) (.string x.2) = cdCells (us.set i u) (L.set i x)
  | [], [], _, _, _, _ => rfl
  | v :: us, y :: L, 0, u, x, _ => by simp [cdCells]
  | v :: us, y :: L, i + 1, u, x, h => by
    have ih := cdCells_set us L i u x (by simpa using h)
    have e1 : (i + 1) * 2 = i * 2 + 1 + 1 := by omega
    rw [e1]
    simp only [cdCells, List.set_cons_succ]
    rw [ih]
  | [], _ :: _, _, _, _, h => by simp at h
  | _ :: _, [], _, _, _, h => by simp at h
/-- a list of words of one's own: their keys' slices us, in other blocks -/
structure cdOwn (w : World) (base : Nat) (v : Value) (us : List Value) (L : List C2) : Prop where
  len : us.length = L.length
  own : w.ownsRow base 27 2 v L.length (cdCells us L)
  keys : ∀ i, i < L.length → keysAv w v.ownBlock (us.getD i undef) (L.getD i blankC).1
theorem cdOwn.below {w w' : World} {base : Nat} {v : Value} {us : List Value} {L : List C2} (h : cdOwn w base v us L) (hb : Below w.heap.size w w') : cdOwn w' base v us L :=
  ⟨h.len, own_below h.own hb, fun i hi => (h.keys i hi).below hb⟩
theorem cdOwn.drew {w : World} {base : Nat} {v : Value} {us : List Value} {L : List C2} (h : cdOwn w base v us L) : cdOwn w.drew base v us L := ⟨h.len, h.own, h.keys⟩
theorem cdOwn.base {w : World} {base base' : Nat} {v : Value} {us : List Value} {L : List C2} (h : cdOwn w base v us L) (hb : base' ≤ base) : cdOwn w base' v us L :=
  ⟨h.len, own_base h.own hb, h.keys⟩
/-- another block of one's own is written -/
theorem cdOwn.other {w w' : World} {base : Nat} {b : Option Nat} {v : Value} {us : List Value} {L : List C2} (h : cdOwn w base v us L) (hg : w.grownBy w' b) (h1 : v.ownBlock ≠ b) (h2 : ∀ i, i < L.length → keysAv w b (us.getD i undef) (L.getD i blankC).1) : cdOwn w' base v us L := by
  refine ⟨h.len, h.own.kept hg (.inr h1), fun i hi => ?_⟩
  obtain ⟨a, cap, e1, e2, e3⟩ := h.keys i hi
  obtain ⟨a', cap', f1, f2, f3⟩ := (h2 i hi).grown hg
  refine ⟨a', cap', f1, f2, ?_⟩
  rw [e1] at f1
  cases f1
  rcases e3 with e3 | ⟨g, off, rfl, g1, g2, g3⟩
  · exact .inl e3
  · rcases f3 with f3 | ⟨g', off', e, j1, j2, j3⟩
    · exact .inl f3
    · cases e
      exact .inr ⟨g, off, rfl, j1, g2, j3⟩
theorem cdOwn.to {w : World} {base : Nat} {v : Value} {us : List Value} {L : List C2} (h : cdOwn w base v us L) : cdAv w v.ownBlock v L := by
  rcases h.own.2 with ⟨rfl, h0⟩ | ⟨g, cap, cur, rfl, hb, hg, hn, hm, hs, ht⟩
  · exact ⟨none, 0, by rw [h0], by omega, .inl h0⟩
  · refine ⟨_, cap, rfl, hn, .inr ⟨g, 0, rfl, (Array.getElem?_eq_some_iff.1 hg).1, fun i hi => ?_⟩⟩
    have hc := cdCells_get us L i h.len hi
    rw [Nat.zero_add, h.own.cellAt (i * 2) (by omega), h.own.cellAt (i * 2 + 1) (by omega)]
    exact ⟨_, hc.1, hc.2, h.keys i hi⟩
theorem cdAv_any {w : World} {b : Option Nat} {v : Value} {L : List C2} (h : cdAv w b v L) : cdAv w none v L := h.avoid fun g _ e => by cases e
theorem cdOwn.nil (w : World) (base : Nat) : cdOwn w base (.slice none 0 0) [] [] := ⟨rfl, World.ownsRow_nil .., fun i hi => by simp at hi⟩
theorem infoC : (Try.prog.info? 27).map (fun i => (i.zero, i.size, i.bytes)) = some (some (.agg #[.slice none 0 0, .string ⟨#[]⟩]), 2, 40) := by kernel_rfl
theorem cdCells_one : ∀ (us : List Value) (L : List C2), (∀ u ∈ us, ∃ a n c, u = .slice a n c) → ∀ u ∈ cdCells us L, u.oneCell' = true
  | [], _, _, u, h => by cases h
  | _ :: _, [], _, u, h => by cases h
  | v :: us, x :: L, hs, u, h => by
    simp only [cdCells, List.mem_cons] at h
    rcases h with rfl | rfl | h
    · obtain ⟨a, n, c, rfl⟩ := hs _ (List.mem_cons_self ..)
      rfl
    · rfl
    · exact cdCells_one us L (fun w hw => hs w (List.mem_cons_of_mem _ hw)) u h
/-- the slices of a list's words -/
theorem cdAv.slices {w : World} {b : Option Nat} {g off : Nat} {L : List C2} (h : ∀ i, i < L.length → ∃ u, w.cell? ⟨g, off + i * 2, none⟩ = some u ∧ w.cell? ⟨g, off + i * 2 + 1, none⟩ = some (.string (L.getD i blankC).2) ∧ keysAv w b u (L.getD i blankC).1) :
    ∃ us : List Value, us.length = L.length ∧ (∀ i, i < L.length → keysAv w b (us.getD i undef) (L.getD i blankC).1) ∧ (∀ u ∈ us, ∃ a n c, u = .slice a n c) ∧ ∀ j u, (cdCells us L)[j]? = some u → w.cell? ((⟨g, off, none⟩ : Addr).add j) = some u := by
  have hget : ∀ i, i < L.length → ((List.range L.length).map fun i => (w.cell? ⟨g, off + i * 2, none⟩).getD undef).getD i undef = (w.cell? ⟨g, off + i * 2, none⟩).getD undef := by
    intro i hi
    simp [List.getD, hi]
  have hlen : ((List.range L.length).map fun i => (w.cell? ⟨g, off + i * 2, none⟩).getD undef).length = L.length := by simp
  have hmem : ∀ u ∈ (List.range L.length).map fun i => (w.cell? ⟨g, off + i * 2, none⟩).getD undef, ∃ a n c, u = .slice a n c := by
    intro u hu
    obtain ⟨i, hi, rfl⟩ := List.mem_map.1 hu
    obtain ⟨u, c1, c2, a, cap, rfl, _⟩ := h i (List.mem_range.1 hi)
    rw [c1]; exact ⟨_, _, _, rfl⟩
  generalize ((List.range L.length).map fun i => (w.cell? ⟨g, off + i * 2, none⟩).getD undef) = us at *
  refine ⟨us, hlen, fun i hi => ?_, hmem, fun j u hu => ?_⟩
  · obtain ⟨u, c1, c2, c3⟩ := h i hi
    rw [hget i hi, c1]
    exact c3
  · have hl := cdCells_len us L hlen
    have hj : j < L.length * 2 := by rw [← hl]; exact (List.getElem?_eq_some_iff.1 hu).1
    have hc := cdCells_get us L (j / 2) hlen (by omega)
    obtain ⟨x, c1, c2, c3⟩ := h (j / 2) (by omega)
    rw [hget _ (by omega), c1] at hc
    rw [addr_plusK]
    rcases (by omega : j = j / 2 * 2 ∨ j = j / 2 * 2 + 1) with e | e
    · rw [← e] at hc c1
      rw [hc.1] at hu
      cases hu
      exact c1
    · rw [← e] at hc
      rw [hc.2] at hu
      cases hu
      rw [show off + j / 2 * 2 + 1 = off + j by omega] at c2
      exact c2
theorem cd_append_none {w : World} {base n : Nat} {v : Value} {xs : List Value} (h : w.ownsRow base 27 2 v n xs) (ar : Option Addr) (cr : Nat) (ty : TypeId) :
    (Builtin.append_ #[24, 24] ty #[v, .slice ar 0 cr]).run Try.prog w = .ok v w := by
  obtain ⟨i0, hi, hz0, hz1, hz2⟩ := info_parts infoC
  have u := Try.underlying24
  rcases h.2 with ⟨rfl, h0⟩ | ⟨g, cap, cur, rfl, _, _, hn, _⟩
  · cases ar <;> simp [Builtin.append_, run_underlying u, sizeOf, typeInfo, hi, storeCells, go_sem]
  · cases ar <;> simp [Builtin.append_, run_underlying u, sizeOf, typeInfo, hi, storeCells, hn, go_sem]
/-- words put behind words of one's own -/
theorem run_append_cd {w : World} {base : Nat} {v : Value} {us : List Value} {L : List C2} (hown : cdOwn w base v us L) (u : Value) (M : List C2) (hu : cdAv w v.ownBlock u M) (ty : TypeId) (hn : L.length + M.length ≤ 2000000) (hbase : base ≤ w.heap.size) :
    ∃ v' w' us', (Builtin.append_ #[24, 24] ty #[v, u]).run Try.prog w = .ok v' w' ∧ cdOwn w' base v' (us ++ us') (L ++ M) ∧ us'.length = M.length ∧ w.grownBy w' v.ownBlock ∧ (v'.ownBlock = v.ownBlock ∨ v'.ownBlock = some w.heap.size) := by
  obtain ⟨i0, hi, hz0, hz1, hz2⟩ := info_parts infoC
  obtain ⟨a, cap, rfl, hcap, hcells⟩ := hu
  by_cases h0 : M.length = 0
  · obtain rfl : M = [] := List.length_eq_zero_iff.1 h0
    exact ⟨v, w, [], cd_append_none hown.own a cap ty, by simpa using hown, rfl, World.grownBy.refl _ _, .inl rfl⟩
  · obtain ⟨g, off, rfl, hg, hcs⟩ := hcells.resolve_left h0
    obtain ⟨us', h1, h2, h3, h4⟩ := cdAv.slices hcs
    obtain ⟨v', w', hr, ho, hgr, -, h5⟩ := run_append_own_at (P := Try.prog) w base 24 ty 27 i0 (.agg #[.slice none 0 0, .string ⟨#[]⟩]) 2 40 Try.underlying24 hi hz0 hz1 hz2 rfl (by decide) v L.length (cdCells us L) hown.own ⟨g, off, none⟩ M.length cap (cdCells us' M) (cdCells_len us' M h1) h4 (cdCells_one us' M h3) (by unfold maxLen; omega) (by omega) hbase
    refine ⟨v', w', us', hr, ⟨by simp [hown.len, h1], by rw [cdCells_app _ _ _ _ hown.len, List.length_append]; exact ho, fun i hi => ?_⟩, h1, hgr, h5⟩
    have hk : keysAv w v.ownBlock ((us ++ us').getD i undef) ((L ++ M).getD i blankC).1 := by
      by_cases hlt : i < L.length
      · have e1 : (us ++ us').getD i undef = us.getD i undef := by simp only [List.getD]; rw [List.getElem?_append_left (by rw [hown.len]; exact hlt)]
        have e2 : (L ++ M).getD i blankC = L.getD i blankC := by simp only [List.getD]; rw [List.getElem?_append_left hlt]
        rw [e1, e2]; exact hown.keys i hlt
      · rw [List.length_append] at hi
        have e1 : (us ++ us').getD i undef = us'.getD (i - L.length) undef := by simp only [List.getD]; rw [List.getElem?_append_right (by rw [hown.len]; omega), hown.len]
        have e2 : (L ++ M).getD i blankC = M.getD (i - L.length) blankC := by simp only [List.getD]; rw [List.getElem?_append_right (by omega)]
        rw [e1, e2]; exact h2 _ (by omega)
    have hk' := hk.grown hgr
    rcases h5 with h5 | h5
    · rw [h5]; exact hk'
    · obtain ⟨a, cap, e1, e2, e3⟩ := hk
      obtain ⟨a', cap', f1, f2, f3⟩ := hk'
      rw [h5]
      refine ⟨a', cap', f1, f2, ?_⟩
      rw [e1] at f1; cases f1
      rcases e3 with e3 | ⟨g', off', rfl, g1, g2, g3⟩
      · exact .inl e3
      · rcases f3 with f3 | ⟨g'', off'', e, j1, j2, j3⟩
        · exact .inl f3
        · cases e
          exact .inr ⟨g', off', rfl, j1, fun e => by cases e; omega, j3⟩
theorem wpList_append_cd {ops : Array Oper} {rest : List Oper} {o : Oper} {a : Act} {w : World} {Q : Exit → Act → World → Prop} (hgd : o.guard = none) (s x : Operand)
    (ho : o.op = .call { callee := .builtin .append, args := #[s, x], argTypes := #[24, 24] })
    {base : Nat} {v : Value} {us : List Value} {L : List C2} (hown : cdOwn w base v us L) (u : Value) (M : List C2) (hu : cdAv w v.ownBlock u M) (hs : a.eval s = v) (hx : a.eval x = u) (hn : L.length + M.length ≤ 2000000) (hbase : base ≤ w.heap.size)
    (h : ∀ v' w' us', cdOwn w' base v' (us ++ us') (L ++ M) → us'.length = M.length → w.grownBy w' v.ownBlock → (v'.ownBlock = v.ownBlock ∨ v'.ownBlock = some w.heap.size) → wpList Try.prog ops Q rest (a.put o.dst v') w') : wpList Try.prog ops Q (o :: rest) a w := by
  refine wpList_plain hgd fun K hK => ?_
  obtain ⟨v', w', us', hr, h2, h3, h4, h5⟩ := run_append_cd hown u M hu o.type hn hbase
  unfold Oper.wp execOp
  simp only [ho, resolve, invoke, builtin, Sem.run_bind, Sem.run_pure, Result.andThen_ok, List.map_toArray, List.map_cons, List.map_nil, hs, hx, hr]
  exact hK _ _ (h v' w' us' h2 h3 h4 h5)
/-- a list of one word, as it is made -/
theorem cd_one {w : World} {b : Option Nat} {u : Value} {ks : List K2} (y : ByteArray) (h : keysAv w b u ks) : cdAv (w.alloc (.cells #[u, .string y] 27)) b (.slice (some ⟨w.heap.size, 0, none⟩) 1 1) [(ks, y)] := by
  refine ⟨_, 1, rfl, Nat.le_refl _, .inr ⟨w.heap.size, 0, rfl, by simp, fun i hi => ?_⟩⟩
  obtain rfl : i = 0 := by simpa using hi
  have hr := heap_alloc_new w (.cells #[u, .string y] 27)
  refine ⟨u, ?_, ?_, h.below ((Below.refl _ _).alloc (Nat.le_refl _) _)⟩
  · rw [cell_of_row _ _ _ _ _ _ hr]; rfl
  · rw [cell_of_row _ _ _ _ _ _ hr]; rfl
/-- a word of the list set anew -/
theorem cdOwn.set {w : World} {base g cap n : Nat} {us : List Value} {L : List C2} (h : cdOwn w base (.slice (some ⟨g, 0, none⟩) n cap) us L) (i : Nat) (u : Value) (x : C2) (hu : keysAv w (some g) u x.1) :
    cdOwn ((w.setCell ⟨g, i * 2, none⟩ u).setCell ⟨g, i * 2 + 1, none⟩ (.string x.2)) base (.slice (some ⟨g, 0, none⟩) n cap) (us.set i u) (L.set i x) := by
  have hn : n = L.length := by
    rcases h.own.2 with ⟨e, _⟩ | ⟨_, _, _, e, _⟩
    · cases e
    · cases e; rfl
  subst hn
  have st1 := h.own.stored (i * 2) u
  have st2 := st1.1.stored (i * 2 + 1) (.string x.2)
  rw [cdCells_set _ _ _ _ _ h.len] at st2
  have hg1 : w.grownBy ((w.setCell ⟨g, i * 2, none⟩ u).setCell ⟨g, i * 2 + 1, none⟩ (.string x.2)) (some g) := (Lib.grownBy_setCell w g (i * 2) u).trans (Lib.grownBy_setCell _ g (i * 2 + 1) (.string x.2))
  refine ⟨by simp [h.len], by rw [List.length_set]; exact st2.1, fun j hj => ?_⟩
  rw [List.length_set] at hj
  have hk : keysAv w (some g) ((us.set i u).getD j undef) ((L.set i x).getD j blankC).1 := by
    by_cases e : i = j
    · subst e
      have e1 : (us.set i u).getD i undef = u := by simp [List.getD, h.len, hj]
      have e2 : (L.set i x).getD i blankC = x := by simp [List.getD, hj]
      rw [e1, e2]; exact hu
    · have e1 : (us.set i u).getD j undef = us.getD j undef := by simp [List.getD, e]
      have e2 : (L.set i x).getD j blankC = L.getD j blankC := by simp [List.getD, e]
      rw [e1, e2]; exact h.keys j hj
  exact hk.grown hg1
end Go.Proofs.Ytcecodjipeahkaa
namespace Go.Proofs.Ytcecodjipeahkaa
open Go.ChangeShapes Go.WideShapes Go.ChangeAt Go.RowKit Go.BigFrame
set_option linter.unusedVariables false

set_option maxRecDepth 100000 in
set_option maxHeartbeats 4000000 in
theorem smerge_any (va vb : Value) (A B : List K2) (both : Bool) (w : World) (ha : keysAt w va A) (hb : keysAt w vb B) (hsA : A.length ≤ 2000000) (hsB : B.length ≤ 2000000) :
    Calls Try.prog 87 #[va, vb, .bool both] w fun e w' => ∃ v, e = .returned v ∧ w'.ownsRow w.heap.size 44 2 v (mergeV both A B).length (keyCells (mergeV both A B)) ∧ Below w.heap.size w w' := by
  obtain ⟨i0, hi, hz0, hz1, hz2⟩ := info_parts infoK
  have hown0 := World.ownsRow_made (base := w.heap.size) (e := 44) (size := 2) w #[] 0 (Nat.le_refl _) (by unfold maxLen; omega) rfl
  have hb0 := (Below.refl w.heap.size w).alloc (Nat.le_refl _) (.cells #[] 44)
  have KA := Lib.hid (fun w' (h : Below w.heap.size w w') => skeysok_any va A w' (keysAt_below ha h) hsA)
  have KB := Lib.hid (fun w' (h : Below w.heap.size w w') => skeysok_any vb B w' (keysAt_below hb h) hsB)
  generalize hmv : mergeV both A B = M
  go_enter Try.func87, Try.ntmps87
  go_wp2_with fail
  generalize w.alloc (.cells #[] 44) = W at *
  refine (KA.out _ hb0).mono ?_
  rintro e w1 ⟨rfl, hbx⟩
  have hown1 := own_below hown0 hbx
  have hb1 := hb0.trans (hbx.mono hb0.size)
  clear hbx hown0 hb0 KA
  cases hA : keysOkR A with
  | false =>
    obtain rfl : M = [] := by rw [← hmv]; unfold mergeV; rw [hA]; rfl
    go_wp2
    go_ret
    exact ⟨_, rfl, hown1, hb1⟩
  | true =>
    go_wp2_with fail
    refine (KB.out _ hb1).mono ?_
    rintro e w2 ⟨rfl, hbx⟩
    have hown2 := own_below hown1 hbx
    have hb2 := hb1.trans (hbx.mono hb1.size)
    clear hbx hown1 hb1 KB
    cases hB : keysOkR B with
    | false =>
      obtain rfl : M = [] := by rw [← hmv]; unfold mergeV; rw [hA, hB]; rfl
      go_wp2
      go_ret
      exact ⟨_, rfl, hown2, hb2⟩
    | true =>
      have hML : mergeL both A B = M := by rw [← hmv]; unfold mergeV; rw [hA, hB]; rfl
      have hlen := mergeL_len both A B
      rw [hML] at hlen
      obtain ⟨aa, ca, rfl, hca, hcA⟩ := ha
      obtain ⟨ab, cb, rfl, hcb, hcB⟩ := hb
      clear hA hB hmv
      go_wp2
      go_loopw [7, 8, 9] (fun v i j wr => ∃ (x y : Nat) (out : List K2), x ≤ A.length ∧ y ≤ B.length ∧ i = .int .i64 x ∧ j = .int .i64 y ∧ out ++ mergeL both (A.drop x) (B.drop y) = M ∧
          wr.ownsRow w.heap.size 44 2 v out.length (keyCells out) ∧ Below w.heap.size w wr) (fun _ i j _ => (A.length - (intOf i).toNat) + (B.length - (intOf j).toNat))
      case atStart => exact ⟨0, 0, [], by omega, by omega, rfl, rfl, by simpa using hML, hown2, hb2⟩
      case round =>
        obtain ⟨x, y, out, hx, hy, rfl, rfl, hout, hown, hbr⟩ := hrel
        clear hown2 hb2
        have hol : out.length ≤ M.length := by rw [← hout]; simp
        by_cases hxA : x < A.length
        · by_cases hyB : y < B.length
          ·
            obtain ⟨ga, offa, rfl, hga, hcsA⟩ := hcA.resolve_left (by omega)
            have cA := hcsA x hxA
            have LA : ∀ w', Below wr.heap.size wr w' → (loadVar 44 ⟨ga, offa + x * 2, none⟩).run Try.prog w' = .ok (kv (A.getD x (0, 0))) w' := fun w' h => key_load cA hga (hbr.trans (h.mono hbr.size))
            clear hcsA hcA
            obtain ⟨gb, offb, rfl, hgb, hcsB⟩ := hcB.resolve_left (by omega)
            have cB := hcsB y hyB
            have LB : ∀ w', Below wr.heap.size wr w' → (loadVar 44 ⟨gb, offb + y * 2, none⟩).run Try.prog w' = .ok (kv (B.getD y (0, 0))) w' := fun w' h => key_load cB hgb (hbr.trans (h.mono hbr.size))
            clear hcsB hcB
            have hdA := drop_at A x hxA
            have hdB := drop_at B y hyB
            have hco := mergeL_cons both (A.getD x (0, 0)) (A.drop (x + 1)) (B.getD y (0, 0)) (B.drop (y + 1))
            rw [← hdA, ← hdB] at hco
            have HAB := Lib.hid (fun w => sahead_any (A.getD x (0, 0)) (B.getD y (0, 0)) w)
            have HBA := Lib.hid (fun w => sahead_any (B.getD y (0, 0)) (A.getD x (0, 0)) w)
            cases hab : aheadB (A.getD x (0, 0)) (B.getD y (0, 0)) with
            | true =>
              rw [hab] at HAB
              rw [if_pos hab] at hco
              have hnx : (out ++ [A.getD x (0, 0)]) ++ mergeL both (A.drop (x + 1)) (B.drop y) = M := by
                rw [← hout, hco]; simp
              clear HBA hco hdA hdB hout hab
              generalize B.getD y (0, 0) = ky at *
              generalize A.getD x (0, 0) = kx at *
              obtain ⟨p, q⟩ := kx
              have HNX := Lib.hid hnx; have CA := Lib.hid cA
              clear hnx cA cB
              have z0 : (0 : Int) ≤ (x : Int) := by omega
              have z1 : (x : Int) < (A.length : Int) := by omega
              have y0 : (0 : Int) ≤ (y : Int) := by omega
              have y1 : (y : Int) < (B.length : Int) := by omega
              have n1 : ¬ (y : Int) = (B.length : Int) := by omega
              have n2 : ¬ y = B.length := by omega
              have n3 : ((y : Int) == (B.length : Int)) = false := beq_eq_false_iff_ne.2 n1
              have m1 : ¬ (x : Int) = (A.length : Int) := by omega
              have m2 : ¬ x = A.length := by omega
              have m3 : ((x : Int) == (A.length : Int)) = false := beq_eq_false_iff_ne.2 m1
              go_wp2
              refine wp_region_below wr (by kernel_rfl) (by kernel_rfl) (Below.refl _ _) ?_
              repeat (first
                | go_big_quiet_skip
                | (go_big_quiet_want
                   first
                     | (go_big_quiet_op; go_big_quiet_on)
                     | (refine q_load 44 _ _ _ rfl rfl LA ?_; simp only [Act.put, List.setIfInBounds_toArray, List.set_cons_zero, List.set_cons_succ]; go_big_quiet_on)
                     | (refine q_load 44 _ _ _ rfl rfl LB ?_; simp only [Act.put, List.setIfInBounds_toArray, List.set_cons_zero, List.set_cons_succ]; go_big_quiet_on)
                     | (go_big_quiet_op; refine ⟨_, fun _ _ => rfl, ?_⟩; go_big_quiet_on)
                     | (go_big_quiet_op; apply Exists.intro; refine ⟨fun w' hw' => ?_, ?_⟩
                        · first
                          | (refine (HAB.out w').mono ?_
                             rintro e w2 ⟨rfl, hb2⟩
                             exact ⟨rfl, hw'.trans (hb2.mono hw'.size)⟩)
                        go_big_quiet_on)))
              refine wpQuiet_nil ?_
              intro w2 hb2
              clear LA LB HAB
              have hown2 := own_below hown hb2
              have hbq := hbr.trans (hb2.mono hbr.size)
              have d1 : w2.cell? ⟨ga, offa + x * 2, none⟩ = some (.int .i64 p) := by rw [hbq.cell (p := ⟨ga, offa + x * 2, none⟩) hga]; exact CA.out.1
              have d2 : w2.cell? ⟨ga, offa + x * 2 + 1, none⟩ = some (.int .i64 q) := by rw [hbq.cell (p := ⟨ga, offa + x * 2 + 1, none⟩) hga]; exact CA.out.2
              have hns := hbq.size
              clear hown hbr hb2
              go_wp2_with (at_builtin; refine wpList_append_own _ rfl (.tmp 64) (.tmp 69) 25 rfl w.heap.size 44 i0 (.agg #[.int .i64 0, .int .i64 0]) 2 16 Try.underlying25 hi hz0 hz1 hz2 rfl (by decide) _ _ _ rfl (hown2.alloc _) ⟨w2.heap.size, 0, none⟩ 1 1 [.int .i64 p, .int .i64 q] rfl rfl (cell_two_new _ _ _ _) (by intro u hu; simp at hu; rcases hu with rfl | rfl <;> rfl) (by unfold maxLen; omega) (by omega) (by simp; omega) ?_; intro v' w5 hown' hgrow _)
              have R : w5.ownsRow w.heap.size 44 2 v' (out ++ [(p, q)]).length (keyCells (out ++ [(p, q)])) ∧ Below w.heap.size w w5 := by
                refine ⟨by rw [keyCells_snoc]; simpa using hown', (hbq.alloc hbq.size _).grown hgrow (by simp; omega) (fun g hg => (hown2.lt g hg).1)⟩
              have HR := Lib.hid R
              clear R hown' hgrow hown2 hbq
              go_wp2
              exact ⟨⟨x + 1, y, out ++ [(p, q)], by omega, by omega, by go_num, by go_num, HNX.out, HR.out.1, HR.out.2⟩, by simp [intOf]; omega⟩
            | false =>
              cases hba : aheadB (B.getD y (0, 0)) (A.getD x (0, 0)) with
              | true =>
                rw [hab] at HAB
                rw [hba] at HBA
                rw [if_neg (by rw [hab]; exact Bool.false_ne_true), if_pos hba] at hco
                have hnx : (out ++ [B.getD y (0, 0)]) ++ mergeL both (A.drop x) (B.drop (y + 1)) = M := by
                  rw [← hout, hco]; simp
                clear hco hdA hdB hout hab hba
                generalize A.getD x (0, 0) = kx at *
                generalize B.getD y (0, 0) = ky at *
                obtain ⟨p, q⟩ := ky
                have HNX := Lib.hid hnx; have CB := Lib.hid cB
                clear hnx cA cB
                have z0 : (0 : Int) ≤ (x : Int) := by omega
                have z1 : (x : Int) < (A.length : Int) := by omega
                have y0 : (0 : Int) ≤ (y : Int) := by omega
                have y1 : (y : Int) < (B.length : Int) := by omega
                have n1 : ¬ (y : Int) = (B.length : Int) := by omega
                have n2 : ¬ y = B.length := by omega
                have n3 : ((y : Int) == (B.length : Int)) = false := beq_eq_false_iff_ne.2 n1
                have m1 : ¬ (x : Int) = (A.length : Int) := by omega
                have m2 : ¬ x = A.length := by omega
                have m3 : ((x : Int) == (A.length : Int)) = false := beq_eq_false_iff_ne.2 m1
                go_wp2
                refine wp_region_below wr (by kernel_rfl) (by kernel_rfl) (Below.refl _ _) ?_
                repeat (first
                  | go_big_quiet_skip
                  | (go_big_quiet_want
                     first
                       | (go_big_quiet_op; go_big_quiet_on)
                       | (refine q_load 44 _ _ _ rfl rfl LA ?_; simp only [Act.put, List.setIfInBounds_toArray, List.set_cons_zero, List.set_cons_succ]; go_big_quiet_on)
                       | (refine q_load 44 _ _ _ rfl rfl LB ?_; simp only [Act.put, List.setIfInBounds_toArray, List.set_cons_zero, List.set_cons_succ]; go_big_quiet_on)
                       | (go_big_quiet_op; refine ⟨_, fun _ _ => rfl, ?_⟩; go_big_quiet_on)
                       | (go_big_quiet_op; apply Exists.intro; refine ⟨fun w' hw' => ?_, ?_⟩
                          · first
                            | (refine (HAB.out w').mono ?_
                               rintro e w2 ⟨rfl, hb2⟩
                               exact ⟨rfl, hw'.trans (hb2.mono hw'.size)⟩)
                          go_big_quiet_on)))
                refine wpQuiet_nil ?_
                intro w1' hb1'
                go_wp2
                refine wp_region_below wr (by kernel_rfl) (by kernel_rfl) hb1' ?_
                repeat (first
                  | go_big_quiet_skip
                  | (go_big_quiet_want
                     first
                       | (go_big_quiet_op; go_big_quiet_on)
                       | (refine q_load 44 _ _ _ rfl rfl LA ?_; simp only [Act.put, List.setIfInBounds_toArray, List.set_cons_zero, List.set_cons_succ]; go_big_quiet_on)
                       | (refine q_load 44 _ _ _ rfl rfl LB ?_; simp only [Act.put, List.setIfInBounds_toArray, List.set_cons_zero, List.set_cons_succ]; go_big_quiet_on)
                       | (go_big_quiet_op; refine ⟨_, fun _ _ => rfl, ?_⟩; go_big_quiet_on)
                       | (go_big_quiet_op; apply Exists.intro; refine ⟨fun w' hw' => ?_, ?_⟩
                          · first
                            | (refine (HBA.out w').mono ?_
                               rintro e w2 ⟨rfl, hb2⟩
                               exact ⟨rfl, hw'.trans (hb2.mono hw'.size)⟩)
                          go_big_quiet_on)))
                refine wpQuiet_nil ?_
                intro w2 hb2
                clear LA LB HAB HBA hb1'
                have hown2 := own_below hown hb2
                have hbq := hbr.trans (hb2.mono hbr.size)
                have d1 : w2.cell? ⟨gb, offb + y * 2, none⟩ = some (.int .i64 p) := by rw [hbq.cell (p := ⟨gb, offb + y * 2, none⟩) hgb]; exact CB.out.1
                have d2 : w2.cell? ⟨gb, offb + y * 2 + 1, none⟩ = some (.int .i64 q) := by rw [hbq.cell (p := ⟨gb, offb + y * 2 + 1, none⟩) hgb]; exact CB.out.2
                have hns := hbq.size
                clear hown hbr hb2
                go_wp2_with (at_builtin; refine wpList_append_own _ rfl (.tmp 89) (.tmp 94) 25 rfl w.heap.size 44 i0 (.agg #[.int .i64 0, .int .i64 0]) 2 16 Try.underlying25 hi hz0 hz1 hz2 rfl (by decide) _ _ _ rfl (hown2.alloc _) ⟨w2.heap.size, 0, none⟩ 1 1 [.int .i64 p, .int .i64 q] rfl rfl (cell_two_new _ _ _ _) (by intro u hu; simp at hu; rcases hu with rfl | rfl <;> rfl) (by unfold maxLen; omega) (by omega) (by simp; omega) ?_; intro v' w5 hown' hgrow _)
                have R : w5.ownsRow w.heap.size 44 2 v' (out ++ [(p, q)]).length (keyCells (out ++ [(p, q)])) ∧ Below w.heap.size w w5 := by
                  refine ⟨by rw [keyCells_snoc]; simpa using hown', (hbq.alloc hbq.size _).grown hgrow (by simp; omega) (fun g hg => (hown2.lt g hg).1)⟩
                have HR := Lib.hid R
                clear R hown' hgrow hown2 hbq
                go_wp2
                exact ⟨⟨x, y + 1, out ++ [(p, q)], by omega, by omega, by go_num, by go_num, HNX.out, HR.out.1, HR.out.2⟩, by simp [intOf]; omega⟩
              | false =>
                rw [hab] at HAB
                rw [hba] at HBA
                rw [if_neg (by rw [hab]; exact Bool.false_ne_true), if_neg (by rw [hba]; exact Bool.false_ne_true)] at hco
                have hnx : (out ++ (if both then [A.getD x (0, 0)] else [])) ++ mergeL both (A.drop (x + 1)) (B.drop (y + 1)) = M := by
                  rw [← hout, hco]; simp
                clear hco hdA hdB hout hab hba
                generalize A.getD x (0, 0) = kx at *
                generalize B.getD y (0, 0) = ky at *
                obtain ⟨p, q⟩ := kx
                have z0 : (0 : Int) ≤ (x : Int) := by omega
                have z1 : (x : Int) < (A.length : Int) := by omega
                have y0 : (0 : Int) ≤ (y : Int) := by omega
                have y1 : (y : Int) < (B.length : Int) := by omega
                have n1 : ¬ (y : Int) = (B.length : Int) := by omega
                have n2 : ¬ y = B.length := by omega
                have n3 : ((y : Int) == (B.length : Int)) = false := beq_eq_false_iff_ne.2 n1
                have m1 : ¬ (x : Int) = (A.length : Int) := by omega
                have m2 : ¬ x = A.length := by omega
                have m3 : ((x : Int) == (A.length : Int)) = false := beq_eq_false_iff_ne.2 m1
                cases both with
                | true =>
                  have hnx2 : (out ++ [(p, q)]) ++ mergeL true (A.drop (x + 1)) (B.drop (y + 1)) = M := hnx
                  have HNX := Lib.hid hnx2; have CA := Lib.hid cA
                  clear hnx hnx2 cA cB
                  go_wp2
                  refine wp_region_below wr (by kernel_rfl) (by kernel_rfl) (Below.refl _ _) ?_
                  repeat (first
                    | go_big_quiet_skip
                    | (go_big_quiet_want
                       first
                         | (go_big_quiet_op; go_big_quiet_on)
                         | (refine q_load 44 _ _ _ rfl rfl LA ?_; simp only [Act.put, List.setIfInBounds_toArray, List.set_cons_zero, List.set_cons_succ]; go_big_quiet_on)
                         | (refine q_load 44 _ _ _ rfl rfl LB ?_; simp only [Act.put, List.setIfInBounds_toArray, List.set_cons_zero, List.set_cons_succ]; go_big_quiet_on)
                         | (go_big_quiet_op; refine ⟨_, fun _ _ => rfl, ?_⟩; go_big_quiet_on)
                         | (go_big_quiet_op; apply Exists.intro; refine ⟨fun w' hw' => ?_, ?_⟩
                            · first
                              | (refine (HAB.out w').mono ?_
                                 rintro e w2 ⟨rfl, hb2⟩
                                 exact ⟨rfl, hw'.trans (hb2.mono hw'.size)⟩)
                            go_big_quiet_on)))
                  refine wpQuiet_nil ?_
                  intro w1' hb1'
                  go_wp2
                  refine wp_region_below wr (by kernel_rfl) (by kernel_rfl) hb1' ?_
                  repeat (first
                    | go_big_quiet_skip
                    | (go_big_quiet_want
                       first
                         | (go_big_quiet_op; go_big_quiet_on)
                         | (refine q_load 44 _ _ _ rfl rfl LA ?_; simp only [Act.put, List.setIfInBounds_toArray, List.set_cons_zero, List.set_cons_succ]; go_big_quiet_on)
                         | (refine q_load 44 _ _ _ rfl rfl LB ?_; simp only [Act.put, List.setIfInBounds_toArray, List.set_cons_zero, List.set_cons_succ]; go_big_quiet_on)
                         | (go_big_quiet_op; refine ⟨_, fun _ _ => rfl, ?_⟩; go_big_quiet_on)
                         | (go_big_quiet_op; apply Exists.intro; refine ⟨fun w' hw' => ?_, ?_⟩
                            · first
                              | (refine (HBA.out w').mono ?_
                                 rintro e w2 ⟨rfl, hb2⟩
                                 exact ⟨rfl, hw'.trans (hb2.mono hw'.size)⟩)
                            go_big_quiet_on)))
                  refine wpQuiet_nil ?_
                  intro w2 hb2
                  clear LA LB HAB HBA hb1'
                  have hown2 := own_below hown hb2
                  have hbq := hbr.trans (hb2.mono hbr.size)
                  have d1 : w2.cell? ⟨ga, offa + x * 2, none⟩ = some (.int .i64 p) := by rw [hbq.cell (p := ⟨ga, offa + x * 2, none⟩) hga]; exact CA.out.1
                  have d2 : w2.cell? ⟨ga, offa + x * 2 + 1, none⟩ = some (.int .i64 q) := by rw [hbq.cell (p := ⟨ga, offa + x * 2 + 1, none⟩) hga]; exact CA.out.2
                  have hns := hbq.size
                  clear hown hbr hb2
                  go_wp2_with (at_builtin; refine wpList_append_own _ rfl (.tmp 31) (.tmp 36) 25 rfl w.heap.size 44 i0 (.agg #[.int .i64 0, .int .i64 0]) 2 16 Try.underlying25 hi hz0 hz1 hz2 rfl (by decide) _ _ _ rfl (hown2.alloc _) ⟨w2.heap.size, 0, none⟩ 1 1 [.int .i64 p, .int .i64 q] rfl rfl (cell_two_new _ _ _ _) (by intro u hu; simp at hu; rcases hu with rfl | rfl <;> rfl) (by unfold maxLen; omega) (by omega) (by simp; omega) ?_; intro v' w5 hown' hgrow _)
                  have R : w5.ownsRow w.heap.size 44 2 v' (out ++ [(p, q)]).length (keyCells (out ++ [(p, q)])) ∧ Below w.heap.size w w5 := by
                    refine ⟨by rw [keyCells_snoc]; simpa using hown', (hbq.alloc hbq.size _).grown hgrow (by simp; omega) (fun g hg => (hown2.lt g hg).1)⟩
                  have HR := Lib.hid R
                  clear R hown' hgrow hown2 hbq
                  go_wp2
                  exact ⟨⟨x + 1, y + 1, out ++ [(p, q)], by omega, by omega, by go_num, by go_num, HNX.out, HR.out.1, HR.out.2⟩, by simp [intOf]; omega⟩
                | false =>
                  have hnx2 : out ++ mergeL false (A.drop (x + 1)) (B.drop (y + 1)) = M := by simpa using hnx
                  have HNX := Lib.hid hnx2
                  clear hnx hnx2 cA cB
                  go_wp2
                  refine wp_region_below wr (by kernel_rfl) (by kernel_rfl) (Below.refl _ _) ?_
                  repeat (first
                    | go_big_quiet_skip
                    | (go_big_quiet_want
                       first
                         | (go_big_quiet_op; go_big_quiet_on)
                         | (refine q_load 44 _ _ _ rfl rfl LA ?_; simp only [Act.put, List.setIfInBounds_toArray, List.set_cons_zero, List.set_cons_succ]; go_big_quiet_on)
                         | (refine q_load 44 _ _ _ rfl rfl LB ?_; simp only [Act.put, List.setIfInBounds_toArray, List.set_cons_zero, List.set_cons_succ]; go_big_quiet_on)
                         | (go_big_quiet_op; refine ⟨_, fun _ _ => rfl, ?_⟩; go_big_quiet_on)
                         | (go_big_quiet_op; apply Exists.intro; refine ⟨fun w' hw' => ?_, ?_⟩
                            · first
                              | (refine (HAB.out w').mono ?_
                                 rintro e w2 ⟨rfl, hb2⟩
                                 exact ⟨rfl, hw'.trans (hb2.mono hw'.size)⟩)
                            go_big_quiet_on)))
                  refine wpQuiet_nil ?_
                  intro w1' hb1'
                  go_wp2
                  refine wp_region_below wr (by kernel_rfl) (by kernel_rfl) hb1' ?_
                  repeat (first
                    | go_big_quiet_skip
                    | (go_big_quiet_want
                       first
                         | (go_big_quiet_op; go_big_quiet_on)
                         | (refine q_load 44 _ _ _ rfl rfl LA ?_; simp only [Act.put, List.setIfInBounds_toArray, List.set_cons_zero, List.set_cons_succ]; go_big_quiet_on)
                         | (refine q_load 44 _ _ _ rfl rfl LB ?_; simp only [Act.put, List.setIfInBounds_toArray, List.set_cons_zero, List.set_cons_succ]; go_big_quiet_on)
                         | (go_big_quiet_op; refine ⟨_, fun _ _ => rfl, ?_⟩; go_big_quiet_on)
                         | (go_big_quiet_op; apply Exists.intro; refine ⟨fun w' hw' => ?_, ?_⟩
                            · first
                              | (refine (HBA.out w').mono ?_
                                 rintro e w2 ⟨rfl, hb2⟩
                                 exact ⟨rfl, hw'.trans (hb2.mono hw'.size)⟩)
                            go_big_quiet_on)))
                  refine wpQuiet_nil ?_
                  intro w2 hb2
                  clear LA LB HAB HBA hb1'
                  have hown2 := own_below hown hb2
                  have hbq := hbr.trans (hb2.mono hbr.size)
                  go_wp2
                  exact ⟨⟨x + 1, y + 1, out, by omega, by omega, by go_num, by go_num, HNX.out, hown2, hbq⟩, by simp [intOf]; omega⟩
          ·
            obtain rfl : y = B.length := by omega
            obtain ⟨ga, offa, rfl, hga, hcsA⟩ := hcA.resolve_left (by omega)
            have cA := hcsA x hxA
            have LA : ∀ w', Below wr.heap.size wr w' → (loadVar 44 ⟨ga, offa + x * 2, none⟩).run Try.prog w' = .ok (kv (A.getD x (0, 0))) w' := fun w' h => key_load cA hga (hbr.trans (h.mono hbr.size))
            clear hcsA hcA
            have hdA := drop_at A x hxA
            have hdB : B.drop B.length = [] := List.drop_eq_nil_of_le (Nat.le_refl _)
            have hnx : (out ++ [A.getD x (0, 0)]) ++ mergeL both (A.drop (x + 1)) (B.drop B.length) = M := by
              rw [← hout, hdB, mergeL_nil_r, mergeL_nil_r, hdA]; simp
            generalize A.getD x (0, 0) = kx at *
            obtain ⟨p, q⟩ := kx
            have HNX := Lib.hid hnx; have CA := Lib.hid cA
            clear hdA hdB hnx hout cA
            have z0 : (0 : Int) ≤ (x : Int) := by omega
            have z1 : (x : Int) < (A.length : Int) := by omega
            have z2 : ¬ (B.length : Int) < (B.length : Int) := by omega
            go_wp2
            refine wp_region_below wr (by kernel_rfl) (by kernel_rfl) (Below.refl _ _) ?_
            repeat (first
              | go_big_quiet_skip
              | (go_big_quiet_want
                 first
                   | (go_big_quiet_op; go_big_quiet_on)
                   | (refine q_load 44 _ _ _ rfl rfl LA ?_; simp only [Act.put, List.setIfInBounds_toArray, List.set_cons_zero, List.set_cons_succ]; go_big_quiet_on)
                   | (go_big_quiet_op; refine ⟨_, fun _ _ => rfl, ?_⟩; go_big_quiet_on)
                   | (go_big_quiet_op; go_big_quiet_on)))
            refine wpQuiet_nil ?_
            intro w2 hb2
            clear LA
            have hown2 := own_below hown hb2
            have hbq := hbr.trans (hb2.mono hbr.size)
            have d1 : w2.cell? ⟨ga, offa + x * 2, none⟩ = some (.int .i64 p) := by rw [hbq.cell (p := ⟨ga, offa + x * 2, none⟩) hga]; exact CA.out.1
            have d2 : w2.cell? ⟨ga, offa + x * 2 + 1, none⟩ = some (.int .i64 q) := by rw [hbq.cell (p := ⟨ga, offa + x * 2 + 1, none⟩) hga]; exact CA.out.2
            have hns := hbq.size
            clear hown hbr hb2
            go_wp2_with (at_builtin; refine wpList_append_own _ rfl (.tmp 64) (.tmp 69) 25 rfl w.heap.size 44 i0 (.agg #[.int .i64 0, .int .i64 0]) 2 16 Try.underlying25 hi hz0 hz1 hz2 rfl (by decide) _ _ _ rfl (hown2.alloc _) ⟨w2.heap.size, 0, none⟩ 1 1 [.int .i64 p, .int .i64 q] rfl rfl (cell_two_new _ _ _ _) (by intro u hu; simp at hu; rcases hu with rfl | rfl <;> rfl) (by unfold maxLen; omega) (by omega) (by simp; omega) ?_; intro v' w5 hown' hgrow _)
            have R : w5.ownsRow w.heap.size 44 2 v' (out ++ [(p, q)]).length (keyCells (out ++ [(p, q)])) ∧ Below w.heap.size w w5 := by
              refine ⟨by rw [keyCells_snoc]; simpa using hown', (hbq.alloc hbq.size _).grown hgrow (by simp; omega) (fun g hg => (hown2.lt g hg).1)⟩
            have HR := Lib.hid R
            clear R hown' hgrow hown2 hbq
            go_wp2
            exact ⟨⟨x + 1, B.length, out ++ [(p, q)], by omega, by omega, by go_num, by go_num, HNX.out, HR.out.1, HR.out.2⟩, by simp [intOf]; omega⟩
        · by_cases hyB : y < B.length
          ·
            obtain rfl : x = A.length := by omega
            obtain ⟨gb, offb, rfl, hgb, hcsB⟩ := hcB.resolve_left (by omega)
            have cB := hcsB y hyB
            have LB : ∀ w', Below wr.heap.size wr w' → (loadVar 44 ⟨gb, offb + y * 2, none⟩).run Try.prog w' = .ok (kv (B.getD y (0, 0))) w' := fun w' h => key_load cB hgb (hbr.trans (h.mono hbr.size))
            clear hcsB hcB
            have hdB := drop_at B y hyB
            have hdA : A.drop A.length = [] := List.drop_eq_nil_of_le (Nat.le_refl _)
            have hnx : (out ++ [B.getD y (0, 0)]) ++ mergeL both (A.drop A.length) (B.drop (y + 1)) = M := by
              rw [← hout, hdA, mergeL_nil_l, mergeL_nil_l, hdB]; simp
            generalize B.getD y (0, 0) = ky at *
            obtain ⟨p, q⟩ := ky
            have HNX := Lib.hid hnx; have CB := Lib.hid cB
            clear hdA hdB hnx hout cB
            have y0 : (0 : Int) ≤ (y : Int) := by omega
            have y1 : (y : Int) < (B.length : Int) := by omega
            have n1 : ¬ (y : Int) = (B.length : Int) := by omega
            have n2 : ¬ y = B.length := by omega
            have n3 : ((y : Int) == (B.length : Int)) = false := beq_eq_false_iff_ne.2 n1
            have z2 : ¬ (A.length : Int) < (A.length : Int) := by omega
            go_wp2
            refine wp_region_below wr (by kernel_rfl) (by kernel_rfl) (Below.refl _ _) ?_
            repeat (first
              | go_big_quiet_skip
              | (go_big_quiet_want
                 first
                   | (go_big_quiet_op; go_big_quiet_on)
                   | (refine q_load 44 _ _ _ rfl rfl LB ?_; simp only [Act.put, List.setIfInBounds_toArray, List.set_cons_zero, List.set_cons_succ]; go_big_quiet_on)
                   | (go_big_quiet_op; refine ⟨_, fun _ _ => rfl, ?_⟩; go_big_quiet_on)
                   | (go_big_quiet_op; go_big_quiet_on)))
            refine wpQuiet_nil ?_
            intro w1' hb1'
            go_wp2
            refine wp_region_below wr (by kernel_rfl) (by kernel_rfl) hb1' ?_
            repeat (first
              | go_big_quiet_skip
              | (go_big_quiet_want
                 first
                   | (go_big_quiet_op; go_big_quiet_on)
                   | (refine q_load 44 _ _ _ rfl rfl LB ?_; simp only [Act.put, List.setIfInBounds_toArray, List.set_cons_zero, List.set_cons_succ]; go_big_quiet_on)
                   | (go_big_quiet_op; refine ⟨_, fun _ _ => rfl, ?_⟩; go_big_quiet_on)
                   | (go_big_quiet_op; go_big_quiet_on)))
            refine wpQuiet_nil ?_
            intro w2 hb2
            clear LB hb1'
            have hown2 := own_below hown hb2
            have hbq := hbr.trans (hb2.mono hbr.size)
            have d1 : w2.cell? ⟨gb, offb + y * 2, none⟩ = some (.int .i64 p) := by rw [hbq.cell (p := ⟨gb, offb + y * 2, none⟩) hgb]; exact CB.out.1
            have d2 : w2.cell? ⟨gb, offb + y * 2 + 1, none⟩ = some (.int .i64 q) := by rw [hbq.cell (p := ⟨gb, offb + y * 2 + 1, none⟩) hgb]; exact CB.out.2
            have hns := hbq.size
            clear hown hbr hb2
            go_wp2_with (at_builtin; refine wpList_append_own _ rfl (.tmp 89) (.tmp 94) 25 rfl w.heap.size 44 i0 (.agg #[.int .i64 0, .int .i64 0]) 2 16 Try.underlying25 hi hz0 hz1 hz2 rfl (by decide) _ _ _ rfl (hown2.alloc _) ⟨w2.heap.size, 0, none⟩ 1 1 [.int .i64 p, .int .i64 q] rfl rfl (cell_two_new _ _ _ _) (by intro u hu; simp at hu; rcases hu with rfl | rfl <;> rfl) (by unfold maxLen; omega) (by omega) (by simp; omega) ?_; intro v' w5 hown' hgrow _)
            have R : w5.ownsRow w.heap.size 44 2 v' (out ++ [(p, q)]).length (keyCells (out ++ [(p, q)])) ∧ Below w.heap.size w w5 := by
              refine ⟨by rw [keyCells_snoc]; simpa using hown', (hbq.alloc hbq.size _).grown hgrow (by simp; omega) (fun g hg => (hown2.lt g hg).1)⟩
            have HR := Lib.hid R
            clear R hown' hgrow hown2 hbq
            go_wp2
            exact ⟨⟨A.length, y + 1, out ++ [(p, q)], by omega, by omega, by go_num, by go_num, HNX.out, HR.out.1, HR.out.2⟩, by simp [intOf]; omega⟩
          ·
            obtain rfl : x = A.length := by omega
            obtain rfl : y = B.length := by omega
            have hdA : A.drop A.length = [] := List.drop_eq_nil_of_le (Nat.le_refl _)
            have hdB : B.drop B.length = [] := List.drop_eq_nil_of_le (Nat.le_refl _)
            rw [hdA, hdB, mergeL_nil_r, List.append_nil] at hout
            subst hout
            have z2 : ¬ (A.length : Int) < (A.length : Int) := by omega
            have z3 : ¬ (B.length : Int) < (B.length : Int) := by omega
            go_wp2
            go_ret
            exact ⟨_, rfl, hown, hbr⟩
end Go.Proofs.Ytcecodjipeahkaa
namespace Go.Proofs.Ytcecodjipeahkaa
open Go.ChangeShapes Go.WideShapes Go.ChangeAt Go.RowKit Go.BigFrame
set_option linter.unusedVariables false

theorem tokey_any (k : K2) (w : World) : Calls Try.prog 92 #[kv k] w fun e w' => e = .returned (kv k) ∧ Below w.heap.size w w' := by
  obtain ⟨n, s⟩ := k
  unfold kv
  dsimp only
  have hB : ∀ o1 o2 o3, Below w.heap.size w (((w.alloc o1).alloc o2).alloc o3) := fun o1 o2 o3 => (((Below.refl _ _).alloc (Nat.le_refl _) _).alloc (by simp) _).alloc (by simp; omega) _
  have HB := Lib.hid hB; clear hB
  go_enter Try.func92, Try.ntmps92
  go_wp2
  refine bodyPost_ret (v := .agg #[.int .i64 n, .int .i64 s]) ?_ rfl ⟨rfl, HB.out _ _ _⟩
  rw [results_cell (p := 2) (ty := 44) (by kernel_rfl)]
  have hl := run_loadVar_row (P := Try.prog) (((w.alloc (.cells #[.int .i64 n, .int .i64 s] 125)).alloc (.cells #[.int .i64 n, .int .i64 s] 44)).alloc (.cells #[.int .i64 n, .int .i64 s] 44)) (w.heap.size + 1) 44 44 #[.int .i64 n, .int .i64 s] (0, 0) _ (heap_mid w _ _ _) Try.underlying44 rfl (by kernel_rfl)
  simp [asAddr, Result.andThen, hl]
theorem eqkey_any (p q : K2) (w : World) : Calls Try.prog 93 #[kv p, kv q] w fun e w' => e = .returned (.bool (p == q)) ∧ Below w.heap.size w w' := by
  obtain ⟨a, b⟩ := p; obtain ⟨c, d⟩ := q
  have hB : ∀ o o', Below w.heap.size w ((w.alloc o).alloc o') := fun o o' => ((Below.refl _ _).alloc (Nat.le_refl _) _).alloc (by simp) _
  have HB := Lib.hid hB; clear hB
  by_cases h1 : a = c
  · by_cases h2 : b = d
    · have he : ((a, b) == (c, d)) = true := by simp [h1, h2]
      rw [he]
      unfold kv
      dsimp only
      subst h1; subst h2
      go_enter Try.func93, Try.ntmps93
      go_wp2
      go_ret
      exact ⟨rfl, HB.out _ _⟩
    · have he : ((a, b) == (c, d)) = false := by simp [h1, h2]
      rw [he]
      unfold kv
      dsimp only
      subst h1
      go_enter Try.func93, Try.ntmps93
      go_wp2
      go_ret
      exact ⟨rfl, HB.out _ _⟩
  · have he : ((a, b) == (c, d)) = false := by simp [h1]
    rw [he]
    unfold kv
    dsimp only
    go_enter Try.func93, Try.ntmps93
    go_wp2
    go_ret
    exact ⟨rfl, HB.out _ _⟩
end Go.Proofs.Ytcecodjipeahkaa
namespace Go.Proofs.Ytcecodjipeahkaa
open Go.ChangeShapes Go.WideShapes Go.ChangeAt Go.RowKit Go.BigFrame
set_option linter.unusedVariables false

theorem szkeys_any (v : Value) (ks : List K2) (left : Int) (w : World) (h : ∃ a cap, v = .slice a ks.length cap) (hl : 0 ≤ left ∧ left ≤ 1000000000) (hs : ks.length ≤ 9223372036854775807) :
    Calls Try.prog 66 #[v, .int .i64 left] w fun e w' => e = .returned (.int .i64 (if left - (ks.length : Int) < 0 then -1 else left - (ks.length : Int))) ∧ w' = w := by
  obtain ⟨a, cap, rfl⟩ := h
  by_cases hn : left - (ks.length : Int) < 0
  · rw [if_pos hn]
    have ew : IntKind.i64.wrap (left - (ks.length : Int)) = left - (ks.length : Int) := IntWalk.i64_in _ (by omega)
    go_enter Try.func66, Try.ntmps66
    go_wp2
    go_ret
    exact ⟨rfl, rfl⟩
  · rw [if_neg hn]
    have ew : IntKind.i64.wrap (left - (ks.length : Int)) = left - (ks.length : Int) := IntWalk.i64_in _ (by omega)
    go_enter Try.func66, Try.ntmps66
    go_wp2
    go_ret
    exact ⟨rfl, rfl⟩
theorem set_key (ks : List K2) (k : Nat) (p q : Int) (u1 u2 : Value) (rest : List Value) (hk : k < ks.length) (hx : ks.getD k (0, 0) = (p, q)) :
    ((keyCells (ks.take k) ++ u1 :: u2 :: rest).set (k * 2) (.int .i64 p)).set (k * 2 + 1) (.int .i64 q) = keyCells (ks.take (k + 1)) ++ rest := by
  have hl := keyCells_len (ks.take k)
  have hl2 : (keyCells (ks.take k)).length = k * 2 := by rw [hl]; simp; omega
  rw [List.take_succ_eq_append_getElem hk, keyCells_snoc, show ks[k] = (p, q) by rw [← hx]; simp [List.getD, hk]]
  rw [List.set_append_right _ _ (by omega), hl2, Nat.sub_self, List.set_cons_zero, List.set_append_right _ _ (by omega), hl2, show k * 2 + 1 - k * 2 = 1 by omega]
  simp
set_option maxRecDepth 100000 in
set_option maxHeartbeats 1000000 in
theorem tokeys_any (v : Value) (ks : List K2) (w : World) (h : keysAt w v ks) (hs : ks.length ≤ 2000000) : Calls Try.prog 67 #[v] w fun e w' => ∃ g, e = .returned (.slice (some ⟨g, 0, none⟩) ks.length ks.length) ∧ w.heap.size ≤ g ∧
    w'.ownsRow w.heap.size 44 2 (.slice (some ⟨g, 0, none⟩) ks.length ks.length) ks.length (keyCells ks) ∧ Below w.heap.size w w' := by
  obtain ⟨a, cap, rfl, hcap, hcells⟩ := h
  obtain ⟨i0, hi, hz0, hz1, hz2⟩ := info_parts infoK
  obtain ⟨W, hmk, hown0, hgr0⟩ := run_make_full (P := Try.prog) w w.heap.size 25 44 i0 _ 2 Try.underlying25 hi hz0 hz1 .i64 .i64 ks.length (by rw [hz2]; omega) (by unfold maxLen; omega) (Nat.le_refl _)
  have hb0 : Below w.heap.size w W := (Below.refl _ _).grown hgr0 (Nat.le_refl _) (by simp)
  have hrest : (madeCells (Value.agg #[.int .i64 0, .int .i64 0]).cells (ks.length * 2)).toList.length = ks.length * 2 := hown0.1
  generalize (madeCells (Value.agg #[.int .i64 0, .int .i64 0]).cells (ks.length * 2)).toList = Z at *
  go_enter Try.func67, Try.ntmps67
  go_wp2
  clear hmk hgr0
  go_loopw [4] (fun i wr => ∃ (k : Nat) (rest : List Value), k ≤ ks.length ∧ i = .int .i64 k ∧ wr.ownsRow w.heap.size 44 2 (.slice (some ⟨w.heap.size, 0, none⟩) ks.length ks.length) ks.length (keyCells (ks.take k) ++ rest) ∧ Below w.heap.size w wr)
    (fun i _ => ks.length - (intOf i).toNat)
  case atStart => exact ⟨0, Z, Nat.zero_le _, rfl, by simpa [keyCells] using hown0, hb0⟩
  case round =>
    obtain ⟨k, rest, hk, rfl, hown, hbr⟩ := hrel
    clear hown0 hb0 hrest
    by_cases hlt : k < ks.length
    · obtain ⟨ga, off, rfl, hg, hcs⟩ := hcells.resolve_left (by omega)
      have hc := hcs k hlt
      have z0 : (0 : Int) ≤ (k : Int) := by omega
      have z1 : (k : Int) < (ks.length : Int) := by omega
      have d1 : wr.cell? ⟨ga, off + k * 2, none⟩ = some (.int .i64 (ks.getD k (0, 0)).1) := by rw [hbr.cell (p := ⟨ga, off + k * 2, none⟩) hg]; exact hc.1
      have d2 : wr.cell? ⟨ga, off + k * 2 + 1, none⟩ = some (.int .i64 (ks.getD k (0, 0)).2) := by rw [hbr.cell (p := ⟨ga, off + k * 2 + 1, none⟩) hg]; exact hc.2
      clear hcs hc hcells
      have hkt : (ks.take k).length = k := by simp; omega
      have hkl := keyCells_len (ks.take k)
      have hrl : rest.length = (ks.length - k) * 2 := by
        have := hown.1
        rw [List.length_append, hkl, hkt] at this
        omega
      obtain ⟨u1, u2, rest2, rfl⟩ : ∃ u1 u2 r, rest = u1 :: u2 :: r := by
        match rest, hrl with
        | [], h => simp at h; omega
        | [_], h => simp at h; omega
        | a :: b :: r, _ => exact ⟨a, b, r, rfl⟩
      generalize hkx : ks.getD k (0, 0) = kx at *
      obtain ⟨p, q⟩ := kx
      have hset := set_key ks k p q u1 u2 rest2 hlt hkx
      have HSET := Lib.hid hset
      have HT := Lib.hid (tokey_any (p, q) wr)
      clear hkx hset hrl
      go_wp2_with fail
      refine HT.out.mono ?_
      rintro e w2 ⟨rfl, hb2⟩
      have hown2 := own_below hown hb2
      have hbq := hbr.trans (hb2.mono hbr.size)
      clear hown hbr hb2 HT d1 d2
      have st1 := hown2.stored (k * 2) (.int .i64 p)
      have st2 := st1.1.stored (k * 2 + 1) (.int .i64 q)
      rw [HSET.out] at st2
      have hbz := (hbq.setCell (p := ⟨w.heap.size, k * 2, none⟩) (Nat.le_refl _) (.int .i64 p)).setCell (p := ⟨w.heap.size, k * 2 + 1, none⟩) (Nat.le_refl _) (.int .i64 q)
      have R := Lib.hid (And.intro st2.1 hbz)
      clear st1 st2 hbz hbq HSET
      obtain ⟨s1, s2⟩ := own_cell hown2 (k * 2) (by omega)
      obtain ⟨s3, s4⟩ := own_cell hown2 (k * 2 + 1) (by omega)
      unfold kv
      dsimp only
      go_wp2
      exact ⟨⟨k + 1, rest2, by omega, by go_num, R.out.1, R.out.2⟩, by simp [intOf]; omega⟩
    · obtain rfl : k = ks.length := by omega
      rw [List.take_length] at hown
      have hr0 : rest = [] := by
        have h1 := hown.1
        rw [List.length_append, keyCells_len] at h1
        exact List.eq_nil_of_length_eq_zero (by omega)
      subst hr0
      rw [List.append_nil] at hown
      go_wp2
      go_ret
      exact ⟨w.heap.size, rfl, Nat.le_refl _, hown, hbr⟩
end Go.Proofs.Ytcecodjipeahkaa
namespace Go.Proofs.Ytcecodjipeahkaa
open Go.ChangeShapes Go.WideShapes Go.ChangeAt Go.RowKit Go.BigFrame
set_option linter.unusedVariables false
set_option maxRecDepth 100000 in
set_option maxHeartbeats 1000000 in
theorem eqkeys_any (va vb : Value) (A B : List K2) (w : World) (ha : keysAt w va A) (hb : keysAt w vb B) (hsA : A.length ≤ 4000000) (hsB : B.length ≤ 4000000) :
    Calls Try.prog 68 #[va, vb] w fun e w' => e = .returned (.bool (decide (A = B))) ∧ Below w.heap.size w w' := by
  obtain ⟨aa, ca, rfl, hca, hcA⟩ := ha
  obtain ⟨ab, cb, rfl, hcb, hcB⟩ := hb
  by_cases hl : A.length = B.length
  · have e0 : (A.length : Int) = (B.length : Int) := by omega
    go_enter Try.func68, Try.ntmps68
    rw [hl] at hca hcA ⊢
    go_wp2
    go_loopw [5] (fun i wr => ∃ k : Nat, k ≤ B.length ∧ i = .int .i64 k ∧ (∀ j, j < k → A.getD j (0, 0) = B.getD j (0, 0)) ∧ Below w.heap.size w wr) (fun i _ => B.length - (intOf i).toNat)
    case atStart => exact ⟨0, Nat.zero_le _, rfl, fun j hj => by omega, Below.refl _ _⟩
    case round =>
      obtain ⟨k, hk, rfl, hall, hbr⟩ := hrel
      by_cases hlt : k < B.length
      · obtain ⟨ga, offa, rfl, hga, hcsA⟩ := hcA.resolve_left (by omega)
        obtain ⟨gb, offb, rfl, hgb, hcsB⟩ := hcB.resolve_left (by omega)
        have cA := hcsA k hlt
        have cB := hcsB k hlt
        have z0 : (0 : Int) ≤ (k : Int) := by omega
        have z1 : (k : Int) < (B.length : Int) := by omega
        clear hcsA hcsB hcA hcB
        have L1 : ∀ w', Below w.heap.size w w' → (loadVar 44 ⟨ga, offa + k * 2, none⟩).run Try.prog w' = .ok (kv (A.getD k (0, 0))) w' := fun w' h => key_load cA hga h
        have L2 : ∀ w', Below w.heap.size w w' → (loadVar 44 ⟨gb, offb + k * 2, none⟩).run Try.prog w' = .ok (kv (B.getD k (0, 0))) w' := fun w' h => key_load cB hgb h
        have HE := Lib.hid (fun w => eqkey_any (A.getD k (0, 0)) (B.getD k (0, 0)) w)
        clear cA cB
        cases he : (A.getD k (0, 0) == B.getD k (0, 0)) with
        | true =>
          have hn : ∀ j, j < k + 1 → A.getD j (0, 0) = B.getD j (0, 0) := by
            intro j hj
            rcases (by omega : j < k ∨ j = k) with h1 | rfl
            · exact hall j h1
            · exact eq_of_beq he
          have HN := Lib.hid hn
          rw [he] at HE
          clear hall hn
          generalize A.getD k (0, 0) = kx at *
          generalize B.getD k (0, 0) = ky at *
          go_wp2
          refine wp_region_below w (by kernel_rfl) (by kernel_rfl) hbr ?_
          repeat (first
            | go_big_quiet_skip
            | (go_big_quiet_want
               first
                 | (go_big_quiet_op; go_big_quiet_on)
                 | (refine q_load 44 _ _ _ rfl rfl L1 ?_; simp only [Act.put, List.setIfInBounds_toArray, List.set_cons_zero, List.set_cons_succ]; go_big_quiet_on)
                 | (refine q_load 44 _ _ _ rfl rfl L2 ?_; simp only [Act.put, List.setIfInBounds_toArray, List.set_cons_zero, List.set_cons_succ]; go_big_quiet_on)
                 | (go_big_quiet_op; refine ⟨_, fun _ _ => rfl, ?_⟩; go_big_quiet_on)
                 | (go_big_quiet_op; apply Exists.intro; refine ⟨fun w' hw' => ?_, ?_⟩
                    · first
                      | (refine (HE.out w').mono ?_
                         rintro e w2 ⟨rfl, hb2⟩
                         exact ⟨rfl, hw'.trans (hb2.mono hw'.size)⟩)
                    go_big_quiet_on)))
          refine wpQuiet_nil ?_
          intro w2 hb2
          clear L1 L2 HE hbr
          go_wp2
          exact ⟨⟨k + 1, by omega, by go_num, HN.out, hb2⟩, by simp [intOf]; omega⟩
        | false =>
          have hne : decide (A = B) = false := by
            simp only [decide_eq_false_iff_not]
            intro e
            subst e
            simp at he
          have HD := Lib.hid hne
          rw [he] at HE
          clear hall hne
          generalize A.getD k (0, 0) = kx at *
          generalize B.getD k (0, 0) = ky at *
          go_wp2
          refine wp_region_below w (by kernel_rfl) (by kernel_rfl) hbr ?_
          repeat (first
            | go_big_quiet_skip
            | (go_big_quiet_want
               first
                 | (go_big_quiet_op; go_big_quiet_on)
                 | (refine q_load 44 _ _ _ rfl rfl L1 ?_; simp only [Act.put, List.setIfInBounds_toArray, List.set_cons_zero, List.set_cons_succ]; go_big_quiet_on)
                 | (refine q_load 44 _ _ _ rfl rfl L2 ?_; simp only [Act.put, List.setIfInBounds_toArray, List.set_cons_zero, List.set_cons_succ]; go_big_quiet_on)
                 | (go_big_quiet_op; refine ⟨_, fun _ _ => rfl, ?_⟩; go_big_quiet_on)
                 | (go_big_quiet_op; apply Exists.intro; refine ⟨fun w' hw' => ?_, ?_⟩
                    · first
                      | (refine (HE.out w').mono ?_
                         rintro e w2 ⟨rfl, hb2⟩
                         exact ⟨rfl, hw'.trans (hb2.mono hw'.size)⟩)
                    go_big_quiet_on)))
          refine wpQuiet_nil ?_
          intro w2 hb2
          clear L1 L2 HE hbr
          go_wp2
          go_ret
          exact ⟨by rw [HD.out]; rfl, hb2⟩
      · obtain rfl : k = B.length := by omega
        have he : decide (A = B) = true := by
          simp only [decide_eq_true_eq]
          apply List.ext_getElem hl
          intro i h1 h2
          have := hall i h2
          simpa [List.getD, h1, h2] using this
        have HD := Lib.hid he
        clear hall he
        go_wp2
        go_ret
        exact ⟨by rw [HD.out]; rfl, hbr⟩
  · have hne : decide (A = B) = false := by simp only [decide_eq_false_iff_not]; intro e; subst e; exact hl rfl
    have HD := Lib.hid hne
    have e0 : ¬ (A.length : Int) = (B.length : Int) := by omega
    clear hne
    go_enter Try.func68, Try.ntmps68
    go_wp2
    go_ret
    exact ⟨by rw [HD.out]; rfl, Below.refl _ _⟩
end Go.Proofs.Ytcecodjipeahkaa
namespace Go.Proofs.Ytcecodjipeahkaa
open Go.ChangeShapes Go.WideShapes Go.ChangeAt Go.RowKit Go.BigFrame
set_option linter.unusedVariables false

theorem two_boxes (w : World) (va : Value) (ya : ByteArray) (vb : Value) (yb : ByteArray) :
    Below w.heap.size w ((w.alloc (.cells #[va, .string ya] 27)).alloc (.cells #[vb, .string yb] 27)) ∧
    ((w.alloc (.cells #[va, .string ya] 27)).alloc (.cells #[vb, .string yb] 27)).heap[w.heap.size]? = some (.cells #[va, .string ya] 27) ∧
    ((w.alloc (.cells #[va, .string ya] 27)).alloc (.cells #[vb, .string yb] 27)).heap[w.heap.size + 1]? = some (.cells #[vb, .string yb] 27) := by
  have hb1 := (Below.refl w.heap.size w).alloc (Nat.le_refl _) (.cells #[va, .string ya] 27)
  have e1 : (w.alloc (.cells #[va, .string ya] 27)).heap.size = w.heap.size + 1 := by simp
  have r2 := heap_alloc_new (w.alloc (.cells #[va, .string ya] 27)) (.cells #[vb, .string yb] 27)
  rw [e1] at r2
  exact ⟨hb1.alloc hb1.size _, (Below.heap_alloc _ _ w.heap.size (by simp)).trans (heap_alloc_new w _), r2⟩
theorem str_eq (a b : ByteArray) : (a.toList == b.toList) = decide (a = b) := by
  rw [Bool.eq_iff_iff, decide_eq_true_eq, beq_iff_eq, bytes_toList_iff]
set_option maxRecDepth 100000 in
set_option maxHeartbeats 1000000 in
theorem eqcode_any (va : Value) (A : List K2) (ya : ByteArray) (vb : Value) (B : List K2) (yb : ByteArray) (w : World) (ha : keysAt w va A) (hb : keysAt w vb B) (hsA : A.length ≤ 4000000) (hsB : B.length ≤ 4000000) :
    Calls Try.prog 33 #[.agg #[va, .string ya], .agg #[vb, .string yb]] w fun e w' => e = .returned (.bool (decide (A = B) && decide (ya = yb))) ∧ Below w.heap.size w w' := by
  obtain ⟨t1, t2, t3⟩ := two_boxes w va ya vb yb
  have HB := Lib.hid t1; have HX := Lib.hid t2; have HY := Lib.hid t3
  have EQ := Lib.hid (fun w' (h : Below w.heap.size w w') => eqkeys_any va vb A B w' (keysAt_below ha h) (keysAt_below hb h) hsA hsB)
  obtain ⟨x0, x1, -, -⟩ := row2_of t2
  obtain ⟨y0, y1, -, -⟩ := row2_of t3
  have hne := str_eq ya yb
  clear t1 t2 t3 ha hb
  generalize decide (A = B) = p at *
  generalize decide (ya = yb) = q at *
  go_enter Try.func33, Try.ntmps33
  go_wp2_with fail
  generalize (w.alloc (.cells #[va, .string ya] 27)).alloc (.cells #[vb, .string yb] 27) = W at *
  refine (EQ.out _ HB.out).mono ?_
  rintro e w1 ⟨rfl, hb1⟩
  have HB1 := Lib.hid (HB.out.trans (hb1.mono HB.out.size))
  obtain ⟨c0, c1⟩ := cd_cells HX.out hb1
  obtain ⟨d0, d1⟩ := cd_cells HY.out hb1
  clear hb1 x0 x1 y0 y1 HB HX HY EQ
  cases p with
  | false =>
    go_wp2
    go_ret
    exact ⟨rfl, HB1.out⟩
  | true =>
    cases q with
    | false =>
      go_wp2
      go_ret
      exact ⟨rfl, HB1.out⟩
    | true =>
      go_wp2
      go_ret
      exact ⟨rfl, HB1.out⟩
end Go.Proofs.Ytcecodjipeahkaa
namespace Go.Proofs.Ytcecodjipeahkaa
open Go.ChangeShapes Go.WideShapes Go.ChangeAt Go.RowKit Go.BigFrame
set_option linter.unusedVariables false

def szC (left : Int) (n m : Nat) : Int := if left - (n : Int) < 0 then -1 else if left - (n : Int) - (m : Int) < 0 then -1 else left - (n : Int) - (m : Int)
set_option maxRecDepth 100000 in
set_option maxHeartbeats 1000000 in
theorem szcode_any (v : Value) (ks : List K2) (y : ByteArray) (left : Int) (w : World) (h : ∃ a cap, v = .slice a ks.length cap) (hl : 0 ≤ left ∧ left ≤ 1000000000) (hs : ks.length ≤ 9223372036854775807) (hy : y.size ≤ 9223372036854775807) :
    Calls Try.prog 31 #[.agg #[v, .string y], .int .i64 left] w fun e w' => e = .returned (.int .i64 (szC left ks.length y.size)) ∧ Below w.heap.size w w' := by
  have hb := (Below.refl w.heap.size w).alloc (Nat.le_refl _) (.cells #[v, .string y] 54)
  have SZ := Lib.hid (fun w' => szkeys_any v ks left w' h hl hs)
  obtain ⟨x0, x1, -, -⟩ := row2_of (heap_alloc_new w (.cells #[v, .string y] 54))
  have HB := Lib.hid hb
  clear hb h
  unfold szC
  go_enter Try.func31, Try.ntmps31
  go_wp2_with fail
  generalize w.alloc (.cells #[v, .string y] 54) = W at *
  refine (SZ.out _).mono ?_
  rintro e w1 ⟨rfl, rfl⟩
  clear SZ
  by_cases h1 : left - (ks.length : Int) < 0
  · rw [if_pos h1]
    go_wp2
    go_ret
    exact ⟨rfl, HB.out⟩
  · rw [if_neg h1]
    have ew : IntKind.i64.wrap (left - (ks.length : Int) - (y.size : Int)) = left - (ks.length : Int) - (y.size : Int) := IntWalk.i64_in _ (by omega)
    by_cases h2 : left - (ks.length : Int) - (y.size : Int) < 0
    · go_wp2
      go_ret
      exact ⟨rfl, HB.out⟩
    · go_wp2
      go_ret
      exact ⟨rfl, HB.out⟩
theorem three_boxes (w : World) (v : Value) (y : ByteArray) :
    Below w.heap.size w (((w.alloc (.cells #[v, .string y] 54)).alloc (.cells #[.slice none 0 0, .string ⟨#[]⟩] 27)).alloc (.cells #[.slice none 0 0, .string ⟨#[]⟩] 27)) ∧
    (((w.alloc (.cells #[v, .string y] 54)).alloc (.cells #[.slice none 0 0, .string ⟨#[]⟩] 27)).alloc (.cells #[.slice none 0 0, .string ⟨#[]⟩] 27)).heap[w.heap.size]? = some (.cells #[v, .string y] 54) ∧
    (((w.alloc (.cells #[v, .string y] 54)).alloc (.cells #[.slice none 0 0, .string ⟨#[]⟩] 27)).alloc (.cells #[.slice none 0 0, .string ⟨#[]⟩] 27)).heap[w.heap.size + 1]? = some (.cells #[.slice none 0 0, .string ⟨#[]⟩] 27) ∧
    (((w.alloc (.cells #[v, .string y] 54)).alloc (.cells #[.slice none 0 0, .string ⟨#[]⟩] 27)).alloc (.cells #[.slice none 0 0, .string ⟨#[]⟩] 27)).heap[w.heap.size + 2]? = some (.cells #[.slice none 0 0, .string ⟨#[]⟩] 27) ∧
    (((w.alloc (.cells #[v, .string y] 54)).alloc (.cells #[.slice none 0 0, .string ⟨#[]⟩] 27)).alloc (.cells #[.slice none 0 0, .string ⟨#[]⟩] 27)).heap.size = w.heap.size + 3 := by
  have hb1 := (Below.refl w.heap.size w).alloc (Nat.le_refl _) (.cells #[v, .string y] 54)
  have hb2 := hb1.alloc hb1.size (.cells #[.slice none 0 0, .string ⟨#[]⟩] 27)
  have e1 : (w.alloc (.cells #[v, .string y] 54)).heap.size = w.heap.size + 1 := by simp
  have e2 : ((w.alloc (.cells #[v, .string y] 54)).alloc (.cells #[.slice none 0 0, .string ⟨#[]⟩] 27)).heap.size = w.heap.size + 2 := by simp
  have r2 := heap_alloc_new (w.alloc (.cells #[v, .string y] 54)) (.cells #[.slice none 0 0, .string ⟨#[]⟩] 27)
  rw [e1] at r2
  have r3 := heap_alloc_new ((w.alloc (.cells #[v, .string y] 54)).alloc (.cells #[.slice none 0 0, .string ⟨#[]⟩] 27)) (.cells #[.slice none 0 0, .string ⟨#[]⟩] 27)
  rw [e2] at r3
  exact ⟨hb2.alloc hb2.size _, (Below.heap_alloc _ _ w.heap.size (by simp; omega)).trans ((Below.heap_alloc _ _ w.heap.size (by simp)).trans (heap_alloc_new w _)), (Below.heap_alloc _ _ (w.heap.size + 1) (by simp)).trans r2, r3, by simp⟩
set_option maxRecDepth 100000 in
set_option maxHeartbeats 1000000 in
theorem tocode_any (v : Value) (ks : List K2) (y : ByteArray) (w : World) (h : keysAt w v ks) (hs : ks.length ≤ 2000000) :
    Calls Try.prog 32 #[.agg #[v, .string y]] w fun e w' => ∃ v', e = .returned (.agg #[v', .string y]) ∧ w'.ownsRow w.heap.size 44 2 v' ks.length (keyCells ks) ∧ Below w.heap.size w w' := by
  obtain ⟨t1, t2, t3, t4, t5⟩ := three_boxes w v y
  have HB := Lib.hid t1; have HX := Lib.hid t2; have HR := Lib.hid t3; have HT := Lib.hid t4; have HS := Lib.hid t5
  have TK := Lib.hid (tokeys_any v ks (((w.alloc (.cells #[v, .string y] 54)).alloc (.cells #[.slice none 0 0, .string ⟨#[]⟩] 27)).alloc (.cells #[.slice none 0 0, .string ⟨#[]⟩] 27)) (keysAt_below h t1) hs)
  obtain ⟨x0, x1, -, -⟩ := row2_of t2
  clear t1 t2 t3 t4 t5 h
  go_enter Try.func32, Try.ntmps32
  go_wp2_with fail
  generalize ((w.alloc (.cells #[v, .string y] 54)).alloc (.cells #[.slice none 0 0, .string ⟨#[]⟩] 27)).alloc (.cells #[.slice none 0 0, .string ⟨#[]⟩] 27) = W at *
  refine TK.out.mono ?_
  rintro e w1 ⟨g, rfl, hg, ho1, hb1⟩
  have hB1 := HB.out.trans (hb1.mono HB.out.size)
  have hx1 := (hb1.block _ (Array.getElem?_eq_some_iff.1 HX.out).1).trans HX.out
  have hr1 := (hb1.block _ (Array.getElem?_eq_some_iff.1 HR.out).1).trans HR.out
  have ht1 := (hb1.block _ (Array.getElem?_eq_some_iff.1 HT.out).1).trans HT.out
  have hs := HS.out
  rw [hs] at ho1
  obtain ⟨p0, p1, -, -⟩ := row2_of hx1
  obtain ⟨q0, q1, g0, g1⟩ := row2_of ht1
  obtain ⟨c0, c1, f0, f1⟩ := row2_of hr1
  have hltx := (Array.getElem?_eq_some_iff.1 hx1).1
  have hltr := (Array.getElem?_eq_some_iff.1 hr1).1
  have hltt := (Array.getElem?_eq_some_iff.1 ht1).1
  -- the new word's own box, set
  have ht2 := set2 (.slice (some ⟨g, 0, none⟩) ks.length ks.length) (.string y) ht1
  have hr2 : ((w1.setCell ⟨w.heap.size + 2, 0, none⟩ (.slice (some ⟨g, 0, none⟩) ks.length ks.length)).setCell ⟨w.heap.size + 2, 1, none⟩ (.string y)).heap[w.heap.size + 1]? = some (.cells #[.slice none 0 0, .string ⟨#[]⟩] 27) := by
    rw [Below.heap_setCell _ _ _ _ (by simp), Below.heap_setCell _ _ _ _ (by simp)]
    exact hr1
  have ho2 := own_set2 ho1 (by omega : w.heap.size + 2 < w.heap.size + 3) (.slice (some ⟨g, 0, none⟩) ks.length ks.length) (.string y)
  have hB2 := below2 hB1 (by omega : w.heap.size ≤ w.heap.size + 2) (.slice (some ⟨g, 0, none⟩) ks.length ks.length) (.string y)
  have HT2 := Lib.hid ht2; have HR2 := Lib.hid hr2
  have L2 := Lib.hid (cd_res hr2 (.slice (some ⟨g, 0, none⟩) ks.length ks.length) y)
  have HF := Lib.hid (And.intro (own_base (own_set2 ho2 (by omega : w.heap.size + 1 < w.heap.size + 3) (.slice (some ⟨g, 0, none⟩) ks.length ks.length) (.string y)) (by omega : w.heap.size ≤ w.heap.size + 3)) (below2 hB2 (by omega : w.heap.size ≤ w.heap.size + 1) (.slice (some ⟨g, 0, none⟩) ks.length ks.length) (.string y)))
  clear ho1 ho2 hb1 hB1 hB2 hx1 hr1 ht1 ht2 hr2 HB HX HR HT HS TK x0 x1 hs
  go_wp2_with fail
  refine bodyPost_ret (v := .agg #[.slice (some ⟨g, 0, none⟩) ks.length ks.length, .string y]) ?_ rfl ⟨_, rfl, HF.out.1, HF.out.2⟩
  rw [results_cell (p := 2) (ty := 27) (by kernel_rfl)]
  have l2 := L2.out
  simp [asAddr, Result.andThen, l2]
end Go.Proofs.Ytcecodjipeahkaa
namespace Go.Proofs.Ytcecodjipeahkaa
open Go.ChangeShapes Go.WideShapes Go.ChangeAt Go.RowKit Go.BigFrame
set_option linter.unusedVariables false

def szS : List C2 → Int → Int
  | [], l => l
  | x :: L, l => if szC l x.1.length x.2.size < 0 then -1 else szS L (szC l x.1.length x.2.size)
def szL (L : List C2) (left : Int) : Int := if left - (L.length : Int) < 0 then -1 else szS L (left - (L.length : Int))
theorem szC_le {l : Int} {n m : Nat} (h : 0 ≤ szC l n m) : szC l n m ≤ l ∧ (n : Int) ≤ l ∧ (m : Int) ≤ l := by
  unfold szC at *
  by_cases h1 : l - (n : Int) < 0
  · rw [if_pos h1] at h; omega
  · rw [if_neg h1] at h ⊢
    by_cases h2 : l - (n : Int) - (m : Int) < 0
    · rw [if_pos h2] at h; omega
    · rw [if_neg h2]; omega
theorem szS_ok : ∀ (L : List C2) (l : Int), 0 ≤ szS L l → ∀ x ∈ L, (x.1.length : Int) ≤ l ∧ (x.2.size : Int) ≤ l
  | [], l, _, x, hx => by cases hx
  | y :: L, l, h, x, hx => by
    unfold szS at h
    by_cases h1 : szC l y.1.length y.2.size < 0
    · rw [if_pos h1] at h; omega
    · rw [if_neg h1] at h
      have h2 := szC_le (l := l) (n := y.1.length) (m := y.2.size) (by omega)
      rcases List.mem_cons.1 hx with rfl | hx
      · exact h2.2
      · have := szS_ok L _ h x hx
        omega
theorem szL_ok {L : List C2} {l : Int} (h : 0 ≤ szL L l) : (L.length : Int) ≤ l ∧ ∀ x ∈ L, (x.1.length : Int) ≤ l ∧ (x.2.size : Int) ≤ l := by
  unfold szL at h
  by_cases h1 : l - (L.length : Int) < 0
  · rw [if_pos h1] at h; omega
  · rw [if_neg h1] at h
    refine ⟨by omega, fun x hx => ?_⟩
    have := szS_ok L _ h x hx
    omega
theorem drop_get (L : List C2) (k : Nat) (hk : k < L.length) : L.drop k = L.getD k blankC :: L.drop (k + 1) := by
  rw [List.drop_eq_getElem_cons hk]
  simp [List.getD, hk]
set_option maxRecDepth 100000 in
set_option maxHeartbeats 1000000 in
theorem szcodes_any (v : Value) (L : List C2) (left : Int) (w : World) (h : cdAv w none v L) (hL : L.length ≤ maxLen) (hx : ∀ x ∈ L, x.1.length ≤ maxLen ∧ x.2.size ≤ maxLen) (hl : 0 ≤ left ∧ left ≤ 1000000000) :
    Calls Try.prog 28 #[v, .int .i64 left] w fun e w' => ∃ z, e = .returned (.int .i64 z) ∧ z = szL L left ∧ Below w.heap.size w w' := by
  obtain ⟨al, cl, rfl, hcl, hcells⟩ := h
  have hLm : (L.length : Int) ≤ 9223372036854775807 := by unfold maxLen at hL; omega
  have ew : IntKind.i64.wrap (left - (L.length : Int)) = left - (L.length : Int) := IntWalk.i64_in _ (by omega)
  unfold szL
  go_enter Try.func28, Try.ntmps28
  by_cases h0 : left - (L.length : Int) < 0
  · rw [if_pos h0]
    go_wp2
    go_ret
    exact ⟨_, rfl, rfl, Below.refl _ _⟩
  · rw [if_neg h0]
    go_wp2_with fail
    go_loopw [1, 5] (fun l i wr => ∃ (k : Nat) (m : Int), k ≤ L.length ∧ i = .int .i64 k ∧ l = .int .i64 m ∧ 0 ≤ m ∧ m ≤ 1000000000 ∧ szS (L.drop k) m = szS L (left - (L.length : Int)) ∧ Below w.heap.size w wr) (fun _ i _ => L.length - (intOf i).toNat)
    case atStart => exact ⟨0, _, Nat.zero_le _, rfl, rfl, by omega, by omega, rfl, Below.refl _ _⟩
    case round =>
      obtain ⟨k, m, hk, rfl, rfl, hm0, hm1, hsz, hb⟩ := hrel
      rename_i wr
      by_cases hlt : k < L.length
      · obtain ⟨g, off, rfl, hg, hcs⟩ := hcells.resolve_left (by omega)
        have z0 : (0 : Int) ≤ (k : Int) := by omega
        have z1 : (k : Int) < (L.length : Int) := by omega
        obtain ⟨u, c1, c2, c3⟩ := hcs k hlt
        have hxk := hx (L.getD k blankC) (by rw [List.getD, List.getElem?_eq_getElem hlt]; exact List.getElem_mem hlt)
        rw [drop_get L k hlt] at hsz
        generalize L.getD k blankC = x at *
        have d1 := (hb.cell (p := ⟨g, off + k * 2, none⟩) hg).trans c1
        have d2 := (hb.cell (p := ⟨g, off + k * 2 + 1, none⟩) hg).trans c2
        obtain ⟨au, cu, rfl, -, -⟩ := c3
        have HS := Lib.hid (fun w' => szcode_any (.slice au x.1.length cu) x.1 x.2 m w' ⟨_, _, rfl⟩ ⟨hm0, hm1⟩ (by unfold maxLen at hxk; omega) (by unfold maxLen at hxk; omega))
        have HB := Lib.hid hb
        have HZ := Lib.hid hsz
        have hle := fun h => szC_le (l := m) (n := x.1.length) (m := x.2.size) h
        have HLE := Lib.hid hle
        clear hcells hcs c1 c2 hx hxk hb hsz hle
        have hsz2 : szS (x :: L.drop (k + 1)) m = if szC m x.1.length x.2.size < 0 then -1 else szS (L.drop (k + 1)) (szC m x.1.length x.2.size) := rfl
        have HZ2 := Lib.hid hsz2
        clear hsz2
        generalize szC m x.1.length x.2.size = r at *
        by_cases hr : r < 0
        · go_wp2_with fail
          refine (HS.out _).mono ?_
          rintro e w2 ⟨rfl, hb2⟩
          have HB2 := Lib.hid (HB.out.trans (hb2.mono HB.out.size))
          clear hb2 HS HB
          go_wp2
          go_ret
          exact ⟨_, rfl, by rw [← HZ.out, HZ2.out, if_pos (by omega)], HB2.out⟩
        · have hr2 := HLE.out (by omega)
          go_wp2_with fail
          refine (HS.out _).mono ?_
          rintro e w2 ⟨rfl, hb2⟩
          have HB2 := Lib.hid (HB.out.trans (hb2.mono HB.out.size))
          clear hb2 HS HB
          go_wp2
          exact ⟨⟨k + 1, r, by omega, by go_num, rfl, by omega, by omega, by rw [← HZ.out, HZ2.out, if_neg (by omega)], HB2.out⟩, by simp [intOf]; omega⟩
      · obtain rfl : k = L.length := by omega
        rw [List.drop_length] at hsz
        have HZ := Lib.hid hsz
        clear hsz hcells hx
        go_wp2
        go_ret
        exact ⟨_, rfl, by rw [← HZ.out]; rfl, hb⟩
theorem cd_load_at {w w' : World} {g o : Nat} {u : Value} {y : ByteArray} (c1 : w.cell? ⟨g, o, none⟩ = some u) (c2 : w.cell? ⟨g, o + 1, none⟩ = some (.string y)) (hb : Below w.heap.size w w') :
    (loadVar 27 ⟨g, o, none⟩).run Try.prog w' = .ok (.agg #[u, .string y]) w' := by
  refine run_loadVar_mid w' g o 27 [u, .string y] _ (fun j v hj => ?_) Try.underlying27 rfl (by kernel_rfl)
  have hg := World.block_lt_of_cell? _ _ c1
  have hj2 : j < 2 := by have := (List.getElem?_eq_some_iff.1 hj).1; simpa using this
  rcases (by omega : j = 0 ∨ j = 1) with rfl | rfl
  · rw [hb.cell (p := ⟨g, o + 0, none⟩) hg]
    simpa using c1.trans (by simpa using hj)
  · rw [hb.cell (p := ⟨g, o + 1, none⟩) hg]
    simpa using c2.trans (by simpa using hj)
theorem take_get_eq (A B : List C2) (k : Nat) (hA : k < A.length) (hB : k < B.length) : (A.take (k + 1) = B.take (k + 1)) ↔ A.take k = B.take k ∧ A.getD k blankC = B.getD k blankC := by
  rw [List.take_succ_eq_append_getElem hA, List.take_succ_eq_append_getElem hB]
  have e1 : A.getD k blankC = A[k] := by simp [List.getD, hA]
  have e2 : B.getD k blankC = B[k] := by simp [List.getD, hB]
  rw [e1, e2]
  constructor
  · intro h
    have := List.append_inj h (by simp; omega)
    exact ⟨this.1, by simpa using this.2⟩
  · rintro ⟨h1, h2⟩; rw [h1, h2]
set_option maxRecDepth 100000 in
set_option maxHeartbeats 1000000 in
theorem eqcodes_any (va vb : Value) (A B : List C2) (w : World) (ha : cdAv w none va A) (hb : cdAv w none vb B) (hA : A.length ≤ 4000000) (hB : B.length ≤ 4000000) (hxA : ∀ x ∈ A, x.1.length ≤ 4000000) (hxB : ∀ x ∈ B, x.1.length ≤ 4000000) :
    Calls Try.prog 30 #[va, vb] w fun e w' => e = .returned (.bool (decide (A = B))) ∧ Below w.heap.size w w' := by
  obtain ⟨aa, ca, rfl, hca, hcellsA⟩ := ha
  obtain ⟨ab, cb, rfl, hcb, hcellsB⟩ := hb
  go_enter Try.func30, Try.ntmps30
  by_cases hl : A.length = B.length
  · have i0 : (A.length : Int) = (B.length : Int) := by omega
    go_wp2_with fail
    go_loopw [5] (fun i wr => ∃ k : Nat, k ≤ A.length ∧ i = .int .i64 k ∧ A.take k = B.take k ∧ Below w.heap.size w wr) (fun i _ => A.length - (intOf i).toNat)
    case atStart => exact ⟨0, Nat.zero_le _, rfl, rfl, Below.refl _ _⟩
    case round =>
      obtain ⟨k, hk, rfl, htk, hb⟩ := hrel
      rename_i wr
      by_cases hlt : k < A.length
      · obtain ⟨ga, oa, rfl, hga, hcsA⟩ := hcellsA.resolve_left (by omega)
        obtain ⟨gb, ob, rfl, hgb, hcsB⟩ := hcellsB.resolve_left (by omega)
        have z0 : (0 : Int) ≤ (k : Int) := by omega
        have z1 : (k : Int) < (A.length : Int) := by omega
        have z2 : (k : Int) < (B.length : Int) := by omega
        obtain ⟨u, c1, c2, c3⟩ := hcsA k hlt
        obtain ⟨v, e1, e2, e3⟩ := hcsB k (by omega)
        have hxa := hxA (A.getD k blankC) (by rw [List.getD, List.getElem?_eq_getElem hlt]; exact List.getElem_mem hlt)
        have hxb := hxB (B.getD k blankC) (by rw [List.getD, List.getElem?_eq_getElem (show k < B.length by omega)]; exact List.getElem_mem _)
        have hst := take_get_eq A B k hlt (by omega)
        generalize A.getD k blankC = x at *
        generalize B.getD k blankC = y at *
        have L1 := fun w' (hw : Below wr.heap.size wr w') => cd_load_at ((hb.cell (p := ⟨ga, oa + k * 2, none⟩) hga).trans c1) ((hb.cell (p := ⟨ga, oa + k * 2 + 1, none⟩) hga).trans c2) hw
        have L2 := fun w' (hw : Below wr.heap.size wr w') => cd_load_at ((hb.cell (p := ⟨gb, ob + k * 2, none⟩) hgb).trans e1) ((hb.cell (p := ⟨gb, ob + k * 2 + 1, none⟩) hgb).trans e2) hw
        have HK := Lib.hid (fun w' (hw : Below wr.heap.size wr w') => eqcode_any u x.1 x.2 v y.1 y.2 w' (keysAt_below (keysAt_below c3.to hb) hw) (keysAt_below (keysAt_below e3.to hb) hw) hxa hxb)
        have hdec : (decide (x.1 = y.1) && decide (x.2 = y.2)) = decide (x = y) := by
          rw [Bool.eq_iff_iff]; simp [Prod.ext_iff]
        rw [hdec] at HK
        have HB := Lib.hid hb
        have HT := Lib.hid htk
        have HST := Lib.hid hst
        clear hcellsA hcellsB hcsA hcsB c1 c2 c3 e1 e2 e3 hxA hxB hxa hxb hb htk hst hdec
        generalize hq : decide (x = y) = q at *
        go_wp2_with fail
        refine wp_region_below wr (by kernel_rfl) (by kernel_rfl) (Below.refl _ _) ?_
        repeat (first
          | go_big_quiet_skip
          | (go_big_quiet_want
             first
               | (go_big_quiet_op; go_big_quiet_on)
               | (refine q_load 27 _ _ _ rfl rfl L1 ?_; simp only [Act.put, List.setIfInBounds_toArray, List.set_cons_zero, List.set_cons_succ]; go_big_quiet_on)
               | (refine q_load 27 _ _ _ rfl rfl L2 ?_; simp only [Act.put, List.setIfInBounds_toArray, List.set_cons_zero, List.set_cons_succ]; go_big_quiet_on)
               | (go_big_quiet_op; refine ⟨_, fun _ _ => rfl, ?_⟩; go_big_quiet_on)
               | (go_big_quiet_op; apply Exists.intro; refine ⟨fun w' hw' => ?_, ?_⟩
                  · first
                    | (with_reducible refine (HK.out w' hw').mono ?_
                       rintro e w2 ⟨rfl, hb2⟩
                       exact ⟨rfl, hw'.trans (hb2.mono hw'.size)⟩)
                  go_big_quiet_on)))
        refine wpQuiet_nil ?_
        intro w2 hb2
        have HB2 := Lib.hid (HB.out.trans (hb2.mono HB.out.size))
        clear L1 L2 HK hb2 HB
        cases q with
        | true =>
          have hxy := of_decide_eq_true hq
          go_wp2_with fail
          exact ⟨⟨k + 1, by omega, by go_num, HST.out.2 ⟨HT.out, hxy⟩, HB2.out⟩, by simp [intOf]; omega⟩
        | false =>
          have hxy := of_decide_eq_false hq
          have hne : A ≠ B := fun e => hxy (HST.out.1 (by rw [e])).2
          have HN := Lib.hid (decide_eq_false hne)
          clear hxy hne hq
          go_wp2_with fail
          go_ret
          exact ⟨by rw [HN.out]; rfl, HB2.out⟩
      · obtain rfl : k = A.length := by omega
        rw [List.take_length, hl, List.take_length] at htk
        have HN := Lib.hid (decide_eq_true htk)
        clear htk hcellsA hcellsB hxA hxB hl
        go_wp2_with fail
        go_ret
        exact ⟨by rw [HN.out]; rfl, hb⟩
  · have i0 : ¬ (A.length : Int) = (B.length : Int) := by omega
    have hne : A ≠ B := fun e => hl (by rw [e])
    have HN := Lib.hid (decide_eq_false hne)
    clear hne hl hcellsA hcellsB
    go_wp2_with fail
    go_ret
    exact ⟨by rw [HN.out]; rfl, Below.refl _ _⟩
end Go.Proofs.Ytcecodjipeahkaa
namespace Go.Proofs.Ytcecodjipeahkaa
open Go.ChangeShapes Go.WideShapes Go.ChangeAt Go.RowKit Go.BigFrame
set_option linter.unusedVariables false

/-- a list of words made anew, each with keys of its own -/
structure TcO (w W : World) (g : Nat) (us : List Value) (L : List C2) : Prop where
  below : Below w.heap.size w W
  ge : w.heap.size ≤ g
  len : us.length = L.length
  own : W.ownsRow w.heap.size 27 2 (.slice (some ⟨g, 0, none⟩) L.length L.length) L.length (cdCells us L)
  keys : ∀ i, i < L.length → W.ownsRow (g + 1) 44 2 (us.getD i undef) (L.getD i blankC).1.length (keyCells (L.getD i blankC).1)
  dist : ∀ i j, i < j → j < L.length → ∀ b, (us.getD j undef).ownBlock = some b → (us.getD i undef).ownBlock ≠ some b
theorem TcO.next {w W W' : World} {g : Nat} {us : List Value} {L : List C2} (h : TcO w W g us L) (hb : Below W.heap.size W W') : TcO w W' g us L :=
  ⟨h.below.trans (hb.mono h.below.size), h.ge, h.len, own_below h.own hb, fun i hi => own_below (h.keys i hi) hb, h.dist⟩
theorem TcO.cd {w W : World} {g : Nat} {us : List Value} {L : List C2} (h : TcO w W g us L) : cdOwn W w.heap.size (.slice (some ⟨g, 0, none⟩) L.length L.length) us L :=
  ⟨h.len, h.own, fun i hi => keysAv_own (h.keys i hi) (Nat.lt_succ_self g)⟩
theorem TcO.at {w W : World} {g : Nat} {us : List Value} {L : List C2} (h : TcO w W g us L) : cdAv W none (.slice (some ⟨g, 0, none⟩) L.length L.length) L := cdAv_any h.cd.to
/-- a list on its way -/
structure TcW (w W : World) (n : Nat) (us : List Value) (L : List C2) (rest : List Value) : Prop where
  below : Below w.heap.size w W
  len : us.length = L.length
  own : W.ownsRow w.heap.size 27 2 (.slice (some ⟨w.heap.size, 0, none⟩) n n) n (cdCells us L ++ rest)
  keys : ∀ i, i < L.length → W.ownsRow (w.heap.size + 1) 44 2 (us.getD i undef) (L.getD i blankC).1.length (keyCells (L.getD i blankC).1)
  dist : ∀ i j, i < j → j < L.length → ∀ b, (us.getD j undef).ownBlock = some b → (us.getD i undef).ownBlock ≠ some b
theorem TcW.next {w W W' : World} {n : Nat} {us : List Value} {L : List C2} {rest : List Value} (h : TcW w W n us L rest) (hb : Below W.heap.size W W') : TcW w W' n us L rest :=
  ⟨h.below.trans (hb.mono h.below.size), h.len, own_below h.own hb, fun i hi => own_below (h.keys i hi) hb, h.dist⟩
theorem TcW.set {w W W1 : World} {n : Nat} {us : List Value} {L : List C2} {p q : Value} {rest : List Value} (h : TcW w W n us L (p :: q :: rest)) (hb : Below W.heap.size W W1) {u : Value} (x : C2) (hg : w.heap.size < W.heap.size)
    (hu : W1.ownsRow W.heap.size 44 2 u x.1.length (keyCells x.1)) :
    TcW w ((W1.setCell ⟨w.heap.size, L.length * 2, none⟩ u).setCell ⟨w.heap.size, L.length * 2 + 1, none⟩ (.string x.2)) n (us ++ [u]) (L ++ [x]) rest := by
  have h1 := h.next hb
  have hl := cdCells_len us L h.len
  have st1 := h1.own.stored (L.length * 2) u
  have st2 := st1.1.stored (L.length * 2 + 1) (.string x.2)
  have hset : ((cdCells us L ++ p :: q :: rest).set (L.length * 2) u).set (L.length * 2 + 1) (.string x.2) = cdCells (us ++ [u]) (L ++ [x]) ++ rest := by
    rw [List.set_append_right _ _ (by omega), hl, Nat.sub_self, List.set_cons_zero, List.set_append_right _ _ (by omega), hl, show L.length * 2 + 1 - L.length * 2 = 1 by omega, List.set_cons_succ, List.set_cons_zero, cdCells_app _ _ _ _ h.len]
    simp [cdCells]
  rw [hset] at st2
  have hgr : W1.grownBy ((W1.setCell ⟨w.heap.size, L.length * 2, none⟩ u).setCell ⟨w.heap.size, L.length * 2 + 1, none⟩ (.string x.2)) (some w.heap.size) := grown_trans (Lib.grownBy_setCell W1 w.heap.size (L.length * 2) u) (Lib.grownBy_setCell _ w.heap.size (L.length * 2 + 1) (.string x.2))
  have hkeep : ∀ (base : Nat) (v : Value) (ks : List K2), w.heap.size < base → W1.ownsRow base 44 2 v ks.length (keyCells ks) → ((W1.setCell ⟨w.heap.size, L.length * 2, none⟩ u).setCell ⟨w.heap.size, L.length * 2 + 1, none⟩ (.string x.2)).ownsRow base 44 2 v ks.length (keyCells ks) :=
    fun base v ks hbs ho => ho.kept hgr (.inr fun e => by have := (ho.lt _ e).1; omega)
  have hgu : ∀ i, i < L.length → (us ++ [u]).getD i undef = us.getD i undef := fun i hi => by simp only [List.getD]; rw [List.getElem?_append_left (by rw [h.len]; exact hi)]
  have hgL : ∀ i, i < L.length → (L ++ [x]).getD i blankC = L.getD i blankC := fun i hi => by simp only [List.getD]; rw [List.getElem?_append_left hi]
  have hgue : (us ++ [u]).getD L.length undef = u := by rw [← h.len]; simp [List.getD]
  have hgLe : (L ++ [x]).getD L.length blankC = x := by simp [List.getD]
  refine ⟨(h1.below.setCell (p := ⟨w.heap.size, L.length * 2, none⟩) (Nat.le_refl _) u).setCell (p := ⟨w.heap.size, L.length * 2 + 1, none⟩) (Nat.le_refl _) _, by simp [h.len], st2.1, fun i hi => ?_, fun i j hij hj b hbj => ?_⟩
  · rw [List.length_append, List.length_singleton] at hi
    rcases (by omega : i < L.length ∨ i = L.length) with hi | rfl
    · rw [hgu i hi, hgL i hi]; exact hkeep _ _ _ (by omega) (h1.keys i hi)
    · rw [hgue, hgLe]; exact hkeep _ _ _ (by omega) (own_base hu (by omega))
  · rw [List.length_append, List.length_singleton] at hj
    rcases (by omega : j < L.length ∨ j = L.length) with hj | rfl
    · rw [hgu j hj] at hbj
      rw [hgu i (by omega)]
      exact h.dist i j hij hj b hbj
    · rw [hgue] at hbj
      rw [hgu i hij]
      intro e
      have e1 := (hu.lt b hbj).1
      have e2 := ((h.keys i hij).lt b e).2
      omega
set_option maxRecDepth 100000 in
set_option maxHeartbeats 1000000 in
theorem tocodes_any (v : Value) (L : List C2) (w : World) (h : cdAv w none v L) (hL : L.length ≤ 1900000) (hx : ∀ x ∈ L, x.1.length ≤ 1900000) :
    Calls Try.prog 29 #[v] w fun e w' => ∃ g us, e = .returned (.slice (some ⟨g, 0, none⟩) L.length L.length) ∧ TcO w w' g us L := by
  obtain ⟨al, cl, rfl, hcl, hcells⟩ := h
  obtain ⟨i0, hi, hz0, hz1, hz2⟩ := info_parts infoC
  obtain ⟨W, hmk, hown0, hgr0⟩ := run_make_full (P := Try.prog) w w.heap.size 24 27 i0 _ 2 Try.underlying24 hi hz0 hz1 .i64 .i64 L.length (by rw [hz2]; omega) (by unfold maxLen; omega) (Nat.le_refl _)
  have hb0 : Below w.heap.size w W := (Below.refl _ _).grown hgr0 (Nat.le_refl _) (by simp)
  have hrest : (madeCells (Value.agg #[.slice none 0 0, .string ⟨#[]⟩]).cells (L.length * 2)).toList.length = L.length * 2 := hown0.1
  generalize (madeCells (Value.agg #[.slice none 0 0, .string ⟨#[]⟩]).cells (L.length * 2)).toList = Z at *
  have hW := (hown0.lt w.heap.size rfl).2
  have H0 := Lib.hid (show TcW w W L.length [] [] Z from ⟨hb0, rfl, hown0, fun i hi => by simp at hi, fun i j _ hj => by simp at hj⟩)
  go_enter Try.func29, Try.ntmps29
  go_wp2
  clear hmk hgr0 hown0 hb0
  go_loopw [4] (fun i wr => ∃ (k : Nat) (us : List Value) (rest : List Value), k ≤ L.length ∧ i = .int .i64 k ∧ rest.length = (L.length - k) * 2 ∧ w.heap.size < wr.heap.size ∧ TcW w wr L.length us (L.take k) rest)
    (fun i _ => L.length - (intOf i).toNat)
  case atStart => exact ⟨0, [], Z, Nat.zero_le _, rfl, by omega, hW, H0.out⟩
  case round =>
    obtain ⟨k, us, rest, hk, rfl, hrl, hwl, hT⟩ := hrel
    have HT := Lib.hid hT
    clear hT H0 hrest hW
    rename_i wr
    by_cases hlt : k < L.length
    · obtain ⟨ga, off, rfl, hg, hcs⟩ := hcells.resolve_left (by omega)
      have z0 : (0 : Int) ≤ (k : Int) := by omega
      have z1 : (k : Int) < (L.length : Int) := by omega
      obtain ⟨u, c1, c2, c3⟩ := hcs k hlt
      have hxk := hx (L.getD k blankC) (by rw [List.getD, List.getElem?_eq_getElem hlt]; exact List.getElem_mem hlt)
      have htk : L.take (k + 1) = L.take k ++ [L.getD k blankC] := by rw [List.take_succ_eq_append_getElem hlt]; simp [List.getD, hlt]
      have hkl : (L.take k).length = k := by rw [List.length_take]; omega
      generalize L.getD k blankC = x at *
      have hB := HT.out.below
      have d1 := (hB.cell (p := ⟨ga, off + k * 2, none⟩) hg).trans c1
      have d2 := (hB.cell (p := ⟨ga, off + k * 2 + 1, none⟩) hg).trans c2
      have HK := Lib.hid (tocode_any u x.1 x.2 wr (keysAt_below c3.to hB) (by omega))
      obtain ⟨au, cu, rfl, -, -⟩ := c3
      obtain ⟨p, q, rest2, rfl⟩ : ∃ p q r, rest = p :: q :: r := by
        match rest, hrl with
        | [], h => simp at h; omega
        | [_], h => simp at h; omega
        | a :: b :: r, _ => exact ⟨a, b, r, rfl⟩
      have HTK := Lib.hid htk
      clear hcells hcs c1 c2 hx hB htk
      go_wp2_with fail
      refine HK.out.mono ?_
      rintro e w2 ⟨v2, rfl, ho2, hb2⟩
      obtain ⟨a2, n2, c2, rfl⟩ := own_shape ho2
      have hset := HT.out.set hb2 x hwl ho2
      rw [hkl] at hset
      have HS := Lib.hid hset
      have hT2 := HT.out.next hb2
      have hol := cdCells_len us (L.take k) HT.out.len
      rw [hkl] at hol
      obtain ⟨s1, s2⟩ := own_cell hT2.own (k * 2) (by omega)
      obtain ⟨s3, s4⟩ := own_cell hT2.own (k * 2 + 1) (by omega)
      have hsz := hb2.size
      clear hset hT2 hb2 ho2 HK HT d1 d2 hol
      go_wp2_with fail
      exact ⟨⟨k + 1, us ++ [.slice a2 n2 c2], rest2, by omega, by go_num, by simp at hrl; omega, by simp; omega, by rw [HTK.out]; exact HS.out⟩, by simp [intOf]; omega⟩
    · obtain rfl : k = L.length := by omega
      have hr0 : rest = [] := List.eq_nil_of_length_eq_zero (by omega)
      subst hr0
      clear hcells hx
      have h1 := HT.out.own
      rw [List.take_length, List.append_nil] at h1
      have hl := HT.out.len
      have hkk := HT.out.keys
      have hdd := HT.out.dist
      rw [List.take_length] at hl hkk hdd
      have HF := Lib.hid (show TcO w _ w.heap.size us L from ⟨HT.out.below, Nat.le_refl _, hl, h1, hkk, hdd⟩)
      clear h1 hl hkk hdd HT
      go_wp2_with fail
      go_ret
      exact ⟨w.heap.size, us, rfl, HF.out⟩
end Go.Proofs.Ytcecodjipeahkaa
namespace Go.Proofs.Ytcecodjipeahkaa
set_option linter.unusedVariables false
set_option linter.unusedSimpArgs false

/-- what adds up, each with itself to nothing -/
structure Grp (V : Type) where
  add : V → V → V
  zero : V
  comm : ∀ x y, add x y = add y x
  assoc : ∀ x y z, add (add x y) z = add x (add y z)
  self : ∀ x, add x x = zero
  zl : ∀ x, add zero x = x
namespace Grp
variable {V : Type} (G : Grp V)
theorem zr (x : V) : G.add x G.zero = x := by rw [G.comm, G.zl]
theorem back (x y : V) : G.add x (G.add x y) = y := by rw [← G.assoc, G.self, G.zl]
theorem left (x y z : V) : G.add x (G.add y z) = G.add y (G.add x z) := by rw [← G.assoc, G.comm x y, G.assoc]
end Grp
inductive Span {V : Type} (G : Grp V) (S : V → Prop) : V → Prop
  | zero : Span G S G.zero
  | step {x y : V} : S x → Span G S y → Span G S (G.add x y)
namespace Span
variable {V : Type} {G : Grp V} {S T : V → Prop}
theorem of {x : V} (h : S x) : Span G S x := by have := Span.step (G := G) h .zero; rwa [G.zr] at this
theorem plus {x y : V} (hx : Span G S x) (hy : Span G S y) : Span G S (G.add x y) := by
  induction hx with
  | zero => rwa [G.zl]
  | step h _ ih => rw [G.assoc]; exact .step h ih
theorem le (h : ∀ x, S x → Span G T x) {y : V} (hy : Span G S y) : Span G T y := by
  induction hy with
  | zero => exact .zero
  | step h1 _ ih => exact (h _ h1).plus ih
theorem mono (h : ∀ x, S x → T x) {y : V} (hy : Span G S y) : Span G T y := hy.le fun x hx => .of (h x hx)
theorem cancel {x y : V} (hx : Span G S x) (h : Span G S (G.add x y)) : Span G S y := by have := hx.plus h; rwa [G.back] at this
theorem only {f : V → Bool} (h0 : f G.zero = false) (hf : ∀ x y, f (G.add x y) = (f x != f y)) (h : ∀ x, S x → f x = false) {y : V} (hy : Span G S y) : f y = false := by
  induction hy with
  | zero => exact h0
  | step h1 _ ih => rw [hf, h _ h1, ih]; rfl
theorem none_iff {y : V} : Span G (· ∈ ([] : List V)) y ↔ y = G.zero := by
  constructor
  · intro h
    cases h with
    | zero => rfl
    | step h1 _ => cases h1
  · rintro rfl; exact .zero
theorem cons_iff {b : V} {B : List V} {y : V} : Span G (· ∈ b :: B) y ↔ Span G (· ∈ B) y ∨ Span G (· ∈ B) (G.add b y) := by
  constructor
  · intro h
    induction h with
    | zero => exact .inl .zero
    | @step x z h1 _ ih =>
      rcases List.mem_cons.1 h1 with rfl | h2
      · rcases ih with ih | ih
        · exact .inr (by rwa [G.back])
        · exact .inl ih
      · rcases ih with ih | ih
        · exact .inl (.step h2 ih)
        · exact .inr (by rw [G.left]; exact .step h2 ih)
  · rintro (h | h)
    · exact h.mono fun x hx => List.mem_cons_of_mem _ hx
    · exact Span.cancel (x := b) (.of (List.mem_cons_self ..)) (h.mono fun x hx => List.mem_cons_of_mem _ hx)
end Span
/-- places: each row has a first one, has adds up -/
structure Pla (V K : Type) (G : Grp V) where
  piv : V → K
  has : V → K → Bool
  has0 : ∀ k, has G.zero k = false
  hasA : ∀ x y k, has (G.add x y) k = (has x k != has y k)
section
variable {V K : Type} {G : Grp V} (P : Pla V K G)
/-- each has its own first place, no other one has it -/
def Redu (B : List V) : Prop := (∀ b ∈ B, P.has b (P.piv b) = true) ∧ B.Pairwise fun b c => P.has b (P.piv c) = false ∧ P.has c (P.piv b) = false
theorem Redu.tail {b : V} {B : List V} (h : Redu P (b :: B)) : Redu P B := ⟨fun c hc => h.1 c (List.mem_cons_of_mem _ hc), (List.pairwise_cons.1 h.2).2⟩
/-- the row without the first places of others -/
def lessS (x b : V) : V := if P.has x (P.piv b) = true then G.add x b else x
def lessG (B : List V) (x : V) : V := B.foldl (lessS P) x
theorem lessS_has (x b : V) (k : K) : P.has (lessS P x b) k = (P.has x k != (P.has x (P.piv b) && P.has b k)) := by
  unfold lessS
  split
  · rename_i h; rw [P.hasA, h]; simp
  · rename_i h
    have h1 : P.has x (P.piv b) = false := by simpa using h
    rw [h1]; simp
theorem less_span (B : List V) : ∀ x, Span G (· ∈ B) (G.add x (lessG P B x)) := by
  induction B with
  | nil => intro x; show Span G _ (G.add x x); rw [G.self]; exact .zero
  | cons b B ih =>
    intro x
    have h := (ih (lessS P x b)).mono (T := (· ∈ b :: B)) fun y hy => List.mem_cons_of_mem _ hy
    show Span G _ (G.add x (lessG P B (lessS P x b)))
    unfold lessS at *
    split
    · rename_i hb
      rw [if_pos hb] at h
      have h2 := Span.step (G := G) (S := (· ∈ b :: B)) (List.mem_cons_self ..) h
      rw [G.assoc, G.left b x, G.back] at h2
      exact h2
    · rename_i hb
      rw [if_neg hb] at h
      exact h
theorem less_keep (B : List V) (k : K) (h : ∀ b ∈ B, P.has b k = false) : ∀ x, P.has (lessG P B x) k = P.has x k := by
  induction B with
  | nil => intro x; rfl
  | cons b B ih =>
    intro x
    show P.has (lessG P B (lessS P x b)) k = _
    rw [ih (fun c hc => h c (List.mem_cons_of_mem _ hc)), lessS_has, h b (List.mem_cons_self ..)]
    simp
theorem less_free {B : List V} (hB : Redu P B) : ∀ x, ∀ b ∈ B, P.has (lessG P B x) (P.piv b) = false := by
  induction B with
  | nil => intro x b hb; cases hb
  | cons b B ih =>
    intro x c hc
    show P.has (lessG P B (lessS P x b)) (P.piv c) = false
    rcases List.mem_cons.1 hc with rfl | hc
    · rw [less_keep P B _ (fun d hd => ((List.pairwise_cons.1 hB.2).1 d hd).2), lessS_has, hB.1 c (List.mem_cons_self ..)]
      simp
    · exact ih hB.tail _ c hc
theorem free_zero {B : List V} (hB : Redu P B) : ∀ y, Span G (· ∈ B) y → (∀ b ∈ B, P.has y (P.piv b) = false) → y = G.zero := by
  induction B with
  | nil => intro y hy _; exact Span.none_iff.1 hy
  | cons b B ih =>
    intro y hy hf
    rcases Span.cons_iff.1 hy with h | h
    · exact ih hB.tail y h fun c hc => hf c (List.mem_cons_of_mem _ hc)
    · exfalso
      have h1 : P.has (G.add b y) (P.piv b) = false := h.only (f := fun v => P.has v (P.piv b)) (P.has0 _) (fun u v => P.hasA u v _) fun c hc => ((List.pairwise_cons.1 hB.2).1 c hc).2
      rw [P.hasA, hB.1 b (List.mem_cons_self ..), hf b (List.mem_cons_self ..)] at h1
      cases h1
/-- what is of the span of the rows and of others without their places -/
theorem less_iff {B Z : List V} (hB : Redu P B) (hZ : ∀ z ∈ Z, ∀ b ∈ B, P.has z (P.piv b) = false) (x : V) : Span G (· ∈ B ++ Z) x ↔ Span G (· ∈ Z) (lessG P B x) := by
  have hl := less_span P B x
  have hl2 := hl.mono (T := (· ∈ B ++ Z)) fun y hy => List.mem_append_left _ hy
  have hpart : ∀ y, Span G (· ∈ B ++ Z) y → ∃ b z, Span G (· ∈ B) b ∧ Span G (· ∈ Z) z ∧ y = G.add b z := by
    intro y hy
    induction hy with
    | zero => exact ⟨_, _, .zero, .zero, (G.zl _).symm⟩
    | @step u v h1 _ ih =>
      obtain ⟨b, z, hb, hz, rfl⟩ := ih
      rcases List.mem_append.1 h1 with h | h
      · exact ⟨G.add u b, z, .step h hb, hz, (G.assoc ..).symm⟩
      · exact ⟨b, G.add u z, hb, .step h hz, G.left ..⟩
  constructor
  · intro h
    have h2 : Span G (· ∈ B ++ Z) (lessG P B x) := by
      have := h.plus hl2
      rwa [G.back] at this
    obtain ⟨b, z, hb, hz, e⟩ := hpart _ h2
    have hb0 : b = G.zero := by
      refine free_zero P hB b hb fun c hc => ?_
      have h3 := less_free P hB x c hc
      have h4 : P.has z (P.piv c) = false := hz.only (f := fun v => P.has v (P.piv c)) (P.has0 _) (fun u v => P.hasA u v _) fun d hd => hZ d hd c hc
      rw [e, P.hasA, h4] at h3
      simpa using h3
    rw [e, hb0, G.zl]
    exact hz
  · intro h
    have h2 := hl2.plus (h.mono (T := (· ∈ B ++ Z)) fun y hy => List.mem_append_right _ hy)
    rwa [G.assoc, G.self, G.zr] at h2
/-- a row more, its first place taken from the others -/
def insS (x b : V) : V := if P.has b (P.piv x) = true then G.add b x else b
def insG (B : List V) (x : V) : List V := B.map (insS P x) ++ [x]
theorem insS_has (x b : V) (k : K) : P.has (insS P x b) k = (P.has b k != (P.has b (P.piv x) && P.has x k)) := by
  unfold insS
  split
  · rename_i h; rw [P.hasA, h]; simp
  · rename_i h
    have h1 : P.has b (P.piv x) = false := by simpa using h
    rw [h1]; simp
theorem ins_redu {B : List V} {x : V} (hB : Redu P B) (hx : ∀ b ∈ B, P.has x (P.piv b) = false) (h1 : P.has x (P.piv x) = true) (hp : ∀ b ∈ B, P.piv (insS P x b) = P.piv b) : Redu P (insG P B x) := by
  refine ⟨?_, ?_⟩
  · intro c hc
    rcases List.mem_append.1 hc with h | h
    · obtain ⟨b, hb, rfl⟩ := List.mem_map.1 h
      rw [hp b hb, insS_has, hB.1 b hb, hx b hb]
      simp
    · rw [List.mem_singleton.1 h]; exact h1
  · refine List.pairwise_append.2 ⟨?_, List.pairwise_singleton .., ?_⟩
    · rw [List.pairwise_map]
      refine (List.Pairwise.and_mem.1 hB.2).imp ?_
      rintro b c ⟨hb, hc, h2, h3⟩
      rw [hp b hb, hp c hc, insS_has, insS_has, h2, h3, hx b hb, hx c hc]
      simp
    · intro c hc d hd
      obtain ⟨b, hb, rfl⟩ := List.mem_map.1 hc
      rw [List.mem_singleton.1 hd, hp b hb, insS_has, h1, hx b hb]
      simp
theorem ins_span (B : List V) (x : V) (y : V) : Span G (· ∈ insG P B x) y ↔ Span G (· ∈ x :: B) y := by
  have hx1 : Span G (· ∈ insG P B x) x := .of (List.mem_append_right _ (List.mem_singleton.2 rfl))
  have hx2 : Span G (· ∈ x :: B) x := .of (List.mem_cons_self ..)
  constructor
  · refine Span.le fun c hc => ?_
    rcases List.mem_append.1 hc with h | h
    · obtain ⟨b, hb, rfl⟩ := List.mem_map.1 h
      have h2 : Span G (· ∈ x :: B) b := .of (List.mem_cons_of_mem _ hb)
      unfold insS
      split
      · exact h2.plus hx2
      · exact h2
    · rw [List.mem_singleton.1 h]; exact hx2
  · refine Span.le fun c hc => ?_
    rcases List.mem_cons.1 hc with rfl | h
    · exact hx1
    · have h2 : Span G (· ∈ insG P B x) (insS P x c) := .of (List.mem_append_left _ (List.mem_map.2 ⟨c, h, rfl⟩))
      unfold insS at h2
      split at h2
      · rw [G.comm] at h2; exact hx1.cancel h2
      · exact h2
end
end Go.Proofs.Ytcecodjipeahkaa
namespace Go.Proofs.Ytcecodjipeahkaa
set_option linter.unusedVariables false
set_option linter.unusedSimpArgs false

theorem span_no {V : Type} {G : Grp V} {y : V} (h : Span G (fun _ => False) y) : y = G.zero := by
  cases h with
  | zero => rfl
  | step h _ => exact h.elim
/-- places in an order; a row without any, or its first one -/
structure Ord (V K : Type) (G : Grp V) extends Pla V K G where
  lt : K → K → Prop
  tri : ∀ a b, lt a b ∨ a = b ∨ lt b a
  trans : ∀ a b c, lt a b → lt b c → lt a c
  bare : V → Bool
  bare1 : ∀ v, bare v = true → ∀ k, has v k = false
  bare2 : ∀ v, bare v = false → has v (piv v) = true ∧ ∀ k, lt k (piv v) → has v k = false
  uniq : ∀ v q, has v q = true → (∀ k, lt k q → has v k = false) → piv v = q
section
variable {V K : Type} {G : Grp V} (O : Ord V K G)
def Low (B : List V) : Prop := ∀ b ∈ B, ∀ k, O.lt k (O.piv b) → O.has b k = false
theorem bare_of {v : V} (h : ∀ k, O.has v k = false) : O.bare v = true := by
  cases hb : O.bare v with
  | true => rfl
  | false => have := (O.bare2 v hb).1; rw [h] at this; cases this
theorem span_bare {Z : List V} (hZ : ∀ z ∈ Z, O.bare z = true) {y : V} (hy : Span G (· ∈ Z) y) (k : K) : O.has y k = false :=
  hy.only (f := fun v => O.has v k) (O.has0 _) (fun u v => O.hasA u v _) fun z hz => O.bare1 z (hZ z hz) k
structure Inv (B Z L : List V) : Prop where
  redu : Redu O.toPla B
  low : Low O B
  bare : ∀ z ∈ Z, O.bare z = true
  span : ∀ y, Span G (· ∈ B ++ Z) y ↔ Span G (· ∈ L) y
def baseS (s : List V × List V) (x : V) : List V × List V :=
  if O.bare (lessG O.toPla s.1 x) = true then (s.1, s.2 ++ [lessG O.toPla s.1 x]) else (insG O.toPla s.1 (lessG O.toPla s.1 x), s.2)
def baseG (L : List V) : List V × List V := L.foldl (baseS O) ([], [])
theorem ins_piv {B : List V} {x : V} (hB : Redu O.toPla B) (hL : Low O B) (hb : O.bare x = false) (hx : ∀ b ∈ B, O.has x (O.piv b) = false) : ∀ b ∈ B, O.piv (insS O.toPla x b) = O.piv b ∧ ∀ k, O.lt k (O.piv b) → O.has (insS O.toPla x b) k = false := by
  intro b hbB
  obtain ⟨h1, h2⟩ := O.bare2 x hb
  have h3 : ∀ k, O.lt k (O.piv b) → O.has (insS O.toPla x b) k = false := by
    intro k hk
    rw [insS_has, hL b hbB k hk]
    cases h4 : O.has b (O.piv x) with
    | false => rfl
    | true =>
      have h5 : O.lt (O.piv b) (O.piv x) := by
        rcases O.tri (O.piv b) (O.piv x) with h | h | h
        · exact h
        · rw [← h, hx b hbB] at h1; cases h1
        · rw [hL b hbB _ h] at h4; cases h4
      rw [h2 k (O.trans _ _ _ hk h5)]
      rfl
  refine ⟨O.uniq _ _ ?_ h3, h3⟩
  rw [insS_has, hB.1 b hbB, hx b hbB]
  simp
theorem inv_step {B Z L : List V} (h : Inv O B Z L) (x : V) : Inv O (baseS O (B, Z) x).1 (baseS O (B, Z) x).2 (L ++ [x]) := by
  have hl := less_span O.toPla B x
  have hf := less_free O.toPla h.redu x
  have hspan : ∀ (M : List V), (∀ y, Span G (· ∈ M) y ↔ Span G (· ∈ lessG O.toPla B x :: (B ++ Z)) y) → ∀ y, Span G (· ∈ M) y ↔ Span G (· ∈ L ++ [x]) y := by
    intro M hM y
    rw [hM]
    have g1 : ∀ v, Span G (· ∈ B ++ Z) v → Span G (· ∈ L ++ [x]) v := fun v hv => ((h.span v).1 hv).mono fun u hu => List.mem_append_left _ hu
    have g2 : Span G (· ∈ L ++ [x]) x := .of (List.mem_append_right _ (List.mem_singleton.2 rfl))
    have g3 : ∀ v, Span G (· ∈ B ++ Z) v → Span G (· ∈ lessG O.toPla B x :: (B ++ Z)) v := fun v hv => hv.mono fun u hu => List.mem_cons_of_mem _ hu
    have hl2 := hl.mono (T := (· ∈ B ++ Z)) fun u hu => List.mem_append_left _ hu
    constructor
    · refine Span.le fun v hv => ?_
      rcases List.mem_cons.1 hv with rfl | hv
      · exact Span.cancel g2 (g1 _ hl2)
      · exact g1 v (.of hv)
    · refine Span.le fun v hv => ?_
      rcases List.mem_append.1 hv with hv | hv
      · exact g3 v ((h.span v).2 (.of hv))
      · rw [List.mem_singleton.1 hv]
        have e := g3 _ hl2
        rw [G.comm] at e
        exact Span.cancel (.of (List.mem_cons_self ..)) e
  unfold baseS
  dsimp only
  cases hb : O.bare (lessG O.toPla B x) with
  | true =>
    rw [if_pos rfl]
    refine ⟨h.redu, h.low, fun z hz => ?_, hspan _ fun y => ?_⟩
    · rcases List.mem_append.1 hz with hz | hz
      · exact h.bare z hz
      · rw [List.mem_singleton.1 hz]; exact hb
    · constructor
      · refine Span.mono fun v hv => ?_
        simp only [List.mem_append, List.mem_cons, List.mem_singleton, List.not_mem_nil, or_false] at hv ⊢
        rcases hv with hv | hv | hv
        · exact .inr (.inl hv)
        · exact .inr (.inr hv)
        · exact .inl hv
      · refine Span.mono fun v hv => ?_
        simp only [List.mem_append, List.mem_cons, List.mem_singleton, List.not_mem_nil, or_false] at hv ⊢
        rcases hv with hv | hv | hv
        · exact .inr (.inr hv)
        · exact .inl hv
        · exact .inr (.inl hv)
  | false =>
    rw [if_neg (by simp)]
    have hp := ins_piv O h.redu h.low hb hf
    refine ⟨ins_redu O.toPla h.redu hf (O.bare2 _ hb).1 fun b hbB => (hp b hbB).1, ?_, h.bare, hspan _ fun y => ?_⟩
    · intro c hc k hk
      rcases List.mem_append.1 hc with hc | hc
      · obtain ⟨b, hbB, rfl⟩ := List.mem_map.1 hc
        rw [(hp b hbB).1] at hk
        exact (hp b hbB).2 k hk
      · rw [List.mem_singleton.1 hc] at hk ⊢
        exact (O.bare2 _ hb).2 k hk
    · have hi := ins_span O.toPla B (lessG O.toPla B x)
      constructor
      · refine Span.le fun v hv => ?_
        rcases List.mem_append.1 hv with hv | hv
        · exact ((hi v).1 (.of hv)).mono fun u hu => by
            rcases List.mem_cons.1 hu with rfl | hu
            · exact List.mem_cons_self ..
            · exact List.mem_cons_of_mem _ (List.mem_append_left _ hu)
        · exact .of (List.mem_cons_of_mem _ (List.mem_append_right _ hv))
      · refine Span.le fun v hv => ?_
        rcases List.mem_cons.1 hv with rfl | hv
        · exact ((hi _).2 (.of (List.mem_cons_self ..))).mono fun u hu => List.mem_append_left _ hu
        · rcases List.mem_append.1 hv with hv | hv
          · exact ((hi _).2 (.of (List.mem_cons_of_mem _ hv))).mono fun u hu => List.mem_append_left _ hu
          · exact .of (List.mem_append_right _ hv)
theorem base_snoc (L : List V) (x : V) : baseG O (L ++ [x]) = baseS O (baseG O L) x := by simp [baseG, List.foldl_append]
theorem base_inv (L : List V) : Inv O (baseG O L).1 (baseG O L).2 L := by
  suffices H : ∀ n (L : List V), L.length = n → Inv O (baseG O L).1 (baseG O L).2 L from H _ L rfl
  intro n
  induction n with
  | zero =>
    intro L hL
    obtain rfl : L = [] := List.length_eq_zero_iff.1 hL
    exact ⟨⟨fun b hb => (by cases hb), List.Pairwise.nil⟩, fun b hb => (by cases hb), fun z hz => (by cases hz), fun y => Iff.rfl⟩
  | succ n ih =>
    intro L hL
    have hne : L ≠ [] := by intro e; rw [e] at hL; cases hL
    rw [← List.dropLast_concat_getLast hne]
    have hi := ih L.dropLast (by simp [hL])
    rw [base_snoc]
    exact inv_step O hi _
theorem rank_more (L : List V) (x : V) : (baseG O (L ++ [x])).1.length = (baseG O L).1.length ∨ (baseG O (L ++ [x])).1.length = (baseG O L).1.length + 1 := by
  rw [base_snoc]
  unfold baseS
  split
  · exact .inl rfl
  · exact .inr (by simp [insG])
theorem rank_le (L : List V) : (baseG O L).1.length ≤ L.length := by
  suffices H : ∀ n (L : List V), L.length = n → (baseG O L).1.length ≤ n from H _ L rfl
  intro n
  induction n with
  | zero => intro L hL; obtain rfl : L = [] := List.length_eq_zero_iff.1 hL; exact Nat.le_refl _
  | succ n ih =>
    intro L hL
    have hne : L ≠ [] := by intro e; rw [e] at hL; cases hL
    have hi := ih L.dropLast (by simp [hL])
    have := rank_more O L.dropLast (L.getLast hne)
    rw [List.dropLast_concat_getLast hne] at this
    omega
/-- what is of the span -/
theorem spanned_iff (L : List V) (x : V) : Span G (· ∈ L) x ↔ Span G (· ∈ (baseG O L).2) (lessG O.toPla (baseG O L).1 x) := by
  have hI := base_inv O L
  rw [← hI.span]
  exact less_iff O.toPla hI.redu (fun z hz b _ => O.bare1 z (hI.bare z hz) _) x
theorem spanned_agreed (L : List V) (x : V) (h : ∀ z ∈ (baseG O L).2, z = G.zero) : Span G (· ∈ L) x ↔ lessG O.toPla (baseG O L).1 x = G.zero := by
  rw [spanned_iff O L x]
  constructor
  · intro h1
    have h3 := h1.le (T := fun _ => False) fun z hzm => by rw [h z hzm]; exact .zero
    exact span_no h3
  · intro e; rw [e]; exact .zero
end
end Go.Proofs.Ytcecodjipeahkaa
namespace Go.Proofs.Ytcecodjipeahkaa
set_option linter.unusedVariables false
set_option linter.unusedSimpArgs false

section
variable {V K : Type} {G : Grp V} (P : Pla V K G)
def elimF (one : V) (k : K) (v : V) : V := if P.has v k = true then G.add v one else v
def elimS (s : List V × V) (k : K) : List V × V :=
  match s.1.find? fun z => P.has z k with
  | none => s
  | some one => (s.1.map (elimF P one k), elimF P one k s.2)
theorem elim_has {one : V} {k : K} (h1 : P.has one k = true) (v : V) (j : K) : P.has (elimF P one k v) j = (P.has v j != (P.has v k && P.has one j)) := by
  unfold elimF
  split
  · rename_i h; rw [P.hasA, h]; simp
  · rename_i h
    have h2 : P.has v k = false := by simpa using h
    rw [h2]; simp
theorem elim_span {Z : List V} {one : V} {k : K} (h1 : P.has one k = true) (hm : one ∈ Z) (v : V) : Span G (· ∈ Z) v ↔ Span G (· ∈ Z.map (elimF P one k)) (elimF P one k v) := by
  have hz0 : ∀ z ∈ Z.map (elimF P one k), P.has z k = false := by
    intro z hz
    obtain ⟨u, hu, rfl⟩ := List.mem_map.1 hz
    rw [elim_has P h1, h1]; simp
  have hback : ∀ u, Span G (· ∈ Z.map (elimF P one k)) u → Span G (· ∈ Z) u := fun u hu => hu.le fun z hz => by
    obtain ⟨t, ht, rfl⟩ := List.mem_map.1 hz
    unfold elimF
    split
    · exact (Span.of ht).plus (.of hm)
    · exact .of ht
  have hfor : ∀ u, Span G (· ∈ Z) u → Span G (· ∈ one :: Z.map (elimF P one k)) u := fun u hu => hu.le fun z hz => by
    have h2 : Span G (· ∈ one :: Z.map (elimF P one k)) (elimF P one k z) := .of (List.mem_cons_of_mem _ (List.mem_map.2 ⟨z, hz, rfl⟩))
    unfold elimF at h2
    split at h2
    · rw [G.comm] at h2; exact Span.cancel (.of (List.mem_cons_self ..)) h2
    · exact h2
  constructor
  · intro h
    unfold elimF
    rcases Span.cons_iff.1 (hfor v h) with h2 | h2
    · have h3 : P.has v k = false := h2.only (f := fun u => P.has u k) (P.has0 _) (fun x y => P.hasA x y _) hz0
      rw [if_neg (by rw [h3]; simp)]
      exact h2
    · have h3 : P.has (G.add one v) k = false := h2.only (f := fun u => P.has u k) (P.has0 _) (fun x y => P.hasA x y _) hz0
      rw [P.hasA, h1] at h3
      rw [if_pos (by simpa using h3), G.comm]
      exact h2
  · intro h
    have h2 := hback _ h
    unfold elimF at h2
    split at h2
    · rw [G.comm] at h2; exact Span.cancel (.of hm) h2
    · exact h2
theorem elim_step (s : List V × V) (k : K) : (Span G (· ∈ s.1) s.2 ↔ Span G (· ∈ (elimS P s k).1) (elimS P s k).2) ∧ (∀ z ∈ (elimS P s k).1, P.has z k = false) ∧ ∀ j, (∀ z ∈ s.1, P.has z j = false) → ∀ z ∈ (elimS P s k).1, P.has z j = false := by
  unfold elimS
  split
  · rename_i h
    refine ⟨Iff.rfl, fun z hz => ?_, fun j hj => hj⟩
    have := List.find?_eq_none.1 h z hz
    simpa using this
  · rename_i one h
    have h1 : P.has one k = true := by simpa using List.find?_some h
    have hm := List.mem_of_find?_eq_some h
    refine ⟨elim_span P h1 hm _, fun z hz => ?_, fun j hj z hz => ?_⟩
    · obtain ⟨u, hu, rfl⟩ := List.mem_map.1 hz
      rw [elim_has P h1, h1]; simp
    · obtain ⟨u, hu, rfl⟩ := List.mem_map.1 hz
      rw [elim_has P h1, hj u hu, hj one hm]; simp
theorem elim_all : ∀ (ks : List K) (s : List V × V), (Span G (· ∈ s.1) s.2 ↔ Span G (· ∈ (ks.foldl (elimS P) s).1) (ks.foldl (elimS P) s).2) ∧ (∀ k ∈ ks, ∀ z ∈ (ks.foldl (elimS P) s).1, P.has z k = false) ∧ ∀ j, (∀ z ∈ s.1, P.has z j = false) → ∀ z ∈ (ks.foldl (elimS P) s).1, P.has z j = false
  | [], s => ⟨Iff.rfl, fun k hk => (by cases hk), fun j h => h⟩
  | k :: ks, s => by
    obtain ⟨a1, a2, a3⟩ := elim_step P s k
    obtain ⟨b1, b2, b3⟩ := elim_all ks (elimS P s k)
    refine ⟨a1.trans b1, fun j hj => ?_, fun j h => b3 j (a3 j h)⟩
    rcases List.mem_cons.1 hj with rfl | hj
    · exact b3 _ a2
    · exact b2 j hj
/-- with all places taken, what is of the span has come to nothing -/
theorem elim_end (ks : List K) (Z : List V) (v : V) (sep : ∀ z, Span G (· ∈ Z) z → (∀ k ∈ ks, P.has z k = false) → z = G.zero) : Span G (· ∈ Z) v ↔ (ks.foldl (elimS P) (Z, v)).2 = G.zero := by
  obtain ⟨h1, h2, -⟩ := elim_all P ks (Z, v)
  have hsub : ∀ (ks : List K) (s : List V × V), ∀ z ∈ (ks.foldl (elimS P) s).1, Span G (· ∈ s.1) z := by
    intro ks
    induction ks with
    | nil => intro s z hz; exact .of hz
    | cons k ks ih =>
      intro s z hz
      refine (ih (elimS P s k) z hz).le fun u hu => ?_
      unfold elimS at hu
      split at hu
      · exact .of hu
      · rename_i one h
        obtain ⟨t, ht, rfl⟩ := List.mem_map.1 hu
        unfold elimF
        split
        · exact (Span.of ht).plus (.of (List.mem_of_find?_eq_some h))
        · exact .of ht
  have h0 : ∀ z ∈ (ks.foldl (elimS P) (Z, v)).1, z = G.zero := fun z hz => sep z (hsub ks (Z, v) z hz) fun k hk => h2 k hk z hz
  refine h1.trans ⟨fun h => ?_, fun h => by rw [h]; exact .zero⟩
  exact span_no (h.le fun z hz => by rw [h0 z hz]; exact .zero)
end
end Go.Proofs.Ytcecodjipeahkaa
namespace Go.Proofs.Ytcecodjipeahkaa
open Go
set_option linter.unusedVariables false
set_option linter.unusedSimpArgs false

/-- a word whose keys are right and rise and whose load is four bytes -/
def wOk (x : C2) : Prop := keysOkR x.1 = true ∧ x.2.size = 4
abbrev W2 := { x : C2 // wOk x }
def addC (a b : C2) : C2 := (mergeL false a.1 b.1, xorS a.2 b.2)
theorem addC_ok {a b : C2} (ha : wOk a) (hb : wOk b) : wOk (addC a b) := ⟨merge_ok false a.1 b.1 ha.1 hb.1, by show (xorS a.2 b.2).size = 4; rw [xorS_size a.2 b.2 (by rw [ha.2, hb.2]), ha.2]⟩
theorem merge_iff {a b : List K2} (ha : keysOkR a = true) (hb : keysOkR b = true) (k : K2) : k ∈ mergeL false a b ↔ ((k ∈ a ∨ k ∈ b) ∧ ¬ (k ∈ a ∧ k ∈ b)) := by
  rw [merge_mem ha hb]; simp
theorem merge_assoc {a b c : List K2} (ha : keysOkR a = true) (hb : keysOkR b = true) (hc : keysOkR c = true) : mergeL false (mergeL false a b) c = mergeL false a (mergeL false b c) := by
  have h1 := merge_ok false a b ha hb
  have h2 := merge_ok false b c hb hc
  refine ok_ext (merge_ok false _ _ h1 hc) (merge_ok false _ _ ha h2) fun k => ?_
  rw [merge_iff h1 hc, merge_iff ha h2, merge_iff ha hb, merge_iff hb hc]
  by_cases x : k ∈ a <;> by_cases y : k ∈ b <;> by_cases z : k ∈ c <;> simp [x, y, z]
theorem key_nil : keysOkR [] = true := by decide
def grpW : Grp W2 where
  add a b := ⟨addC a.1 b.1, addC_ok a.2 b.2⟩
  zero := ⟨blankC, key_nil, rfl⟩
  comm := fun a b => Subtype.ext (by
    show addC a.1 b.1 = addC b.1 a.1
    unfold addC
    rw [merge_comm false a.2.1 b.2.1, xorS_comm a.1.2 b.1.2 (by rw [a.2.2, b.2.2])])
  assoc := fun a b c => Subtype.ext (by
    show addC (addC a.1 b.1) c.1 = addC a.1 (addC b.1 c.1)
    unfold addC
    dsimp only
    rw [merge_assoc a.2.1 b.2.1 c.2.1, xorS_assoc a.1.2 b.1.2 c.1.2 (by rw [a.2.2, b.2.2]) (by rw [b.2.2, c.2.2])])
  self := fun a => Subtype.ext (by
    show addC a.1 a.1 = blankC
    unfold addC
    rw [parted_self a.2.1, xorS_self _ a.2.2]; rfl)
  zl := fun a => Subtype.ext (by
    show addC blankC a.1 = a.1
    unfold addC blankC
    dsimp only
    rw [mergeL_nil_l, xorS_z4l _ a.2.2])
def hasW (a : W2) (k : K2) : Bool := decide (k ∈ a.1.1)
theorem hasW_add (x y : W2) (k : K2) : hasW (grpW.add x y) k = (hasW x k != hasW y k) := by
  show decide (k ∈ mergeL false x.1.1 y.1.1) = (decide (k ∈ x.1.1) != decide (k ∈ y.1.1))
  by_cases h1 : k ∈ x.1.1 <;> by_cases h2 : k ∈ y.1.1 <;> simp [merge_iff x.2.1 y.2.1, h1, h2]
def ordW : Ord W2 K2 grpW where
  piv a := a.1.1.headD (0, 0)
  has := hasW
  has0 := fun k => by show decide (k ∈ ([] : List K2)) = false; simp
  hasA := hasW_add
  lt a b := aheadB a b = true
  tri := fun a b => by
    cases h1 : aheadB a b with
    | true => exact .inl rfl
    | false =>
      cases h2 : aheadB b a with
      | true => exact .inr (.inr rfl)
      | false => exact .inr (.inl (ahead_total h1 h2))
  trans := fun a b c h1 h2 => ahead_trans h1 h2
  bare a := a.1.1.isEmpty
  bare1 := fun v h k => by
    unfold hasW
    rw [List.isEmpty_iff.1 h]; simp
  bare2 := fun v h => by
    have hr := ((keysR_iff v.1.1).1 v.2.1).2
    unfold hasW
    cases hv : v.1.1 with
    | nil => rw [hv] at h; cases h
    | cons a l =>
      rw [hv] at hr
      refine ⟨by simp, fun k hk => ?_⟩
      have hk' : aheadB k a = true := hk
      have hn : ¬ k ∈ a :: l := by
        intro hm
        rcases List.mem_cons.1 hm with rfl | hm
        · rw [ahead_irrefl] at hk'; cases hk'
        · have h3 := (List.pairwise_cons.1 hr).1 k hm
          rw [ahead_asymm h3] at hk'; cases hk'
      simpa using hn
  uniq := fun v q h1 h2 => by
    have hr := ((keysR_iff v.1.1).1 v.2.1).2
    unfold hasW at h1 h2
    cases hv : v.1.1 with
    | nil => rw [hv] at h1; simp at h1
    | cons a l =>
      rw [hv] at hr h1 h2
      show a = q
      rcases List.mem_cons.1 (by simpa using h1) with h | h
      · exact h.symm
      · have h3 := (List.pairwise_cons.1 hr).1 q h
        have h4 := h2 a h3
        simp at h4
theorem bareW (v : W2) : ordW.bare v = true ↔ v.1.1 = [] := List.isEmpty_iff
theorem zeroW (v : W2) (h : v.1.1 = []) : v = grpW.zero ↔ v.1.2 = z4 := by
  constructor
  · rintro rfl; rfl
  · intro h2
    refine Subtype.ext ?_
    show v.1 = ([], z4)
    rw [← h, ← h2]
end Go.Proofs.Ytcecodjipeahkaa
namespace Go.Proofs.Ytcecodjipeahkaa
open Go
set_option linter.unusedVariables false
set_option linter.unusedSimpArgs false

abbrev L4 := { s : ByteArray // s.size = 4 }
def grpL : Grp L4 where
  add a b := ⟨xorS a.1 b.1, by rw [xorS_size a.1 b.1 (by rw [a.2, b.2]), a.2]⟩
  zero := ⟨z4, rfl⟩
  comm := fun a b => Subtype.ext (xorS_comm a.1 b.1 (by rw [a.2, b.2]))
  assoc := fun a b c => Subtype.ext (xorS_assoc a.1 b.1 c.1 (by rw [a.2, b.2]) (by rw [b.2, c.2]))
  self := fun a => Subtype.ext (xorS_self a.1 a.2)
  zl := fun a => Subtype.ext (xorS_z4l a.1 a.2)
def bitL (s : ByteArray) (i : Nat) : Bool := (s.data.toList.getD (i / 8) 0).toNat.testBit (i % 8)
theorem xorL_getD : ∀ (a b : List UInt8) (i : Nat), a.length = b.length → (xorL a b).getD i 0 = a.getD i 0 ^^^ b.getD i 0
  | [], [], i, _ => by simp [xorL]
  | [], b :: l, i, h => by simp at h
  | a :: k, [], i, h => by simp at h
  | a :: k, b :: l, 0, h => by simp [xorL]
  | a :: k, b :: l, i + 1, h => by
    have := xorL_getD k l i (by simpa using h)
    simpa [xorL] using this
def bitsPla : Pla L4 Nat grpL where
  piv _ := 0
  has a i := bitL a.1 i
  has0 := fun i => by
    show bitL z4 i = false
    unfold bitL
    have h : ∀ k, z4.data.toList.getD k 0 = 0 := by
      intro k
      show [0, 0, 0, 0].getD k (0 : UInt8) = 0
      rcases k with _ | _ | _ | _ | k <;> simp
    rw [h]; simp
  hasA := fun a b i => by
    show bitL (xorS a.1 b.1) i = (bitL a.1 i != bitL b.1 i)
    unfold bitL
    rw [xorS_data a.1 b.1 (by rw [a.2, b.2]), xorL_getD _ _ _ (by simp [a.2, b.2]), UInt8.toNat_xor, Nat.testBit_xor]
theorem bits_zero (a : L4) (h : ∀ i, i < 32 → bitL a.1 i = false) : a = grpL.zero := by
  have hl : a.1.data.toList.length = 4 := by simp [a.2]
  have hb : ∀ k, k < 4 → a.1.data.toList.getD k 0 = 0 := by
    intro k hk
    refine UInt8.toNat_inj.1 (Nat.eq_of_testBit_eq fun i => ?_)
    rw [show (0 : UInt8).toNat = 0 from rfl, Nat.zero_testBit]
    by_cases hi : i < 8
    · have := h (8 * k + i) (by omega)
      unfold bitL at this
      rwa [show (8 * k + i) / 8 = k by omega, show (8 * k + i) % 8 = i by omega] at this
    · have hlt := (a.1.data.toList.getD k 0).toNat_lt
      exact Nat.testBit_lt_two_pow (Nat.lt_of_lt_of_le hlt (Nat.pow_le_pow_right (by decide) (show 8 ≤ i by omega)))
  refine Subtype.ext (ba_ext ?_)
  show a.1.data.toList = [0, 0, 0, 0]
  obtain ⟨s, hs⟩ := a
  dsimp only at hl hb ⊢
  revert hb
  match s.data.toList, hl with
  | [x, y, z, u], _ =>
    intro hb
    have h0 := hb 0 (by omega); have h1 := hb 1 (by omega); have h2 := hb 2 (by omega); have h3 := hb 3 (by omega)
    simp at h0 h1 h2 h3
    rw [h0, h1, h2, h3]
/-- all bits taken from all loads: what is of their span has come to nothing -/
theorem loads_iff (Z : List L4) (v : L4) : Span grpL (· ∈ Z) v ↔ ((List.range 32).foldl (elimS bitsPla) (Z, v)).2 = grpL.zero :=
  elim_end bitsPla _ Z v fun z _ h => bits_zero z fun i hi => h i (List.mem_range.2 hi)
def ldW (v : W2) : L4 := ⟨v.1.2, v.2.2⟩
theorem ldW_inj {u v : W2} (hu : u.1.1 = []) (hv : v.1.1 = []) (h : ldW u = ldW v) : u = v := by
  refine Subtype.ext (Prod.ext (by rw [hu, hv]) ?_)
  exact congrArg (·.1) h
/-- among words of no key the loads tell the span -/
theorem span_load {Z : List W2} (hZ : ∀ z ∈ Z, ordW.bare z = true) {v : W2} (hv : v.1.1 = []) : Span grpW (· ∈ Z) v ↔ Span grpL (· ∈ Z.map ldW) (ldW v) := by
  constructor
  · intro h
    clear hv
    induction h with
    | zero => exact .zero
    | @step x y h1 _ ih => exact Span.step (G := grpL) (x := ldW x) (List.mem_map.2 ⟨x, h1, rfl⟩) ih
  · intro h
    have hx : ∀ l, Span grpL (· ∈ Z.map ldW) l → ∃ u, Span grpW (· ∈ Z) u ∧ ldW u = l := by
      intro l hl
      induction hl with
      | zero => exact ⟨grpW.zero, .zero, rfl⟩
      | @step x y h1 _ ih =>
        obtain ⟨u, hu, rfl⟩ := ih
        obtain ⟨z, hz, rfl⟩ := List.mem_map.1 h1
        exact ⟨grpW.add z u, .step hz hu, rfl⟩
    obtain ⟨u, hu, e⟩ := hx _ h
    have hub : u.1.1 = [] := (bareW u).1 (bare_of ordW fun k => span_bare ordW hZ hu k)
    rw [← ldW_inj hub hv e]
    exact hu
end Go.Proofs.Ytcecodjipeahkaa
namespace Go.Proofs.Ytcecodjipeahkaa
open Go
set_option linter.unusedVariables false
set_option linter.unusedSimpArgs false

theorem ok_w {x : C2} (h : codeOkB x = true) : wOk x := ⟨((codeOk_iff x).1 h).2.1, ((codeOk_iff x).1 h).2.2.1⟩
/-- the right words among the first i, twenty at most -/
def rowsN (l : List C2) : Nat → List W2
  | 0 => []
  | i + 1 => if h : codeOkB (l.getD i blankC) = true ∧ (rowsN l i).length < 20 then rowsN l i ++ [⟨l.getD i blankC, ok_w h.1⟩] else rowsN l i
theorem rowsN_yes {l : List C2} {i : Nat} (h : codeOkB (l.getD i blankC) = true) (h2 : (rowsN l i).length < 20) : rowsN l (i + 1) = rowsN l i ++ [⟨l.getD i blankC, ok_w h⟩] := by
  show (if h : _ then _ else _) = _
  rw [dif_pos ⟨h, h2⟩]
theorem rowsN_no {l : List C2} {i : Nat} (h : codeOkB (l.getD i blankC) = false) : rowsN l (i + 1) = rowsN l i := by
  show (if h : _ then _ else _) = _
  rw [dif_neg (by rw [h]; simp)]
theorem rowsN_at {l : List C2} {i : Nat} (h : (rowsN l i).length = 20) : rowsN l (i + 1) = rowsN l i := by
  show (if h : _ then _ else _) = _
  rw [dif_neg (by rw [h]; simp)]
theorem rowsN_full {l : List C2} {i : Nat} (h : (rowsN l i).length = 20) : ∀ j, rowsN l (i + j) = rowsN l i
  | 0 => rfl
  | j + 1 => by
    have ih := rowsN_full h j
    rw [← Nat.add_assoc, rowsN_at (by rw [ih]; exact h), ih]
theorem rowsN_le (l : List C2) : ∀ i, (rowsN l i).length ≤ 20 ∧ (rowsN l i).length ≤ i
  | 0 => ⟨Nat.zero_le _, Nat.le_refl _⟩
  | i + 1 => by
    have ih := rowsN_le l i
    by_cases h : codeOkB (l.getD i blankC) = true ∧ (rowsN l i).length < 20
    · rw [rowsN_yes h.1 h.2, List.length_append, List.length_singleton]
      omega
    · have : rowsN l (i + 1) = rowsN l i := by
        show (if h : _ then _ else _) = _
        rw [dif_neg h]
      rw [this]
      omega
end Go.Proofs.Ytcecodjipeahkaa
namespace Go.Proofs.Ytcecodjipeahkaa
open Go.ChangeShapes Go.WideShapes Go.ChangeAt Go.RowKit
set_option linter.unusedVariables false

set_option maxRecDepth 100000 in
theorem sxor_any (s t : ByteArray) (w : World) (hs : s.size ≤ 2000000) (ht : t.size ≤ 2000000) :
    Calls Try.prog 20 #[.string s, .string t] w fun e w' => e = .returned (.string (xorS s t)) ∧ Below w.heap.size w w' := by
  by_cases hst : s.size = t.size
  · obtain ⟨i0, hi, hz0, hz1, hz2⟩ := info_parts info5
    have hx : xorS s t = ⟨(xorL s.data.toList t.data.toList).toArray⟩ := by unfold xorS; rw [if_pos hst]
    have hxl := xorL_len s t hst
    have htk := xorL_take s t hst
    have e0 : (s.size : Int) = (t.size : Int) := by omega
    generalize xorL s.data.toList t.data.toList = X at *
    have HX := Lib.hid hx; have HTK := Lib.hid htk; clear hx htk
    go_enter Try.func20, Try.ntmps20
    go_wp2
    have hown0 := World.ownsRow_made (base := w.heap.size) (e := 5) (size := 1) w #[] 0 (Nat.le_refl _) (by unfold maxLen; omega) rfl
    have hb0 := (Below.refl w.heap.size w).alloc (Nat.le_refl _) (.cells #[] 5)
    go_loopw [5, 6] (fun v i wr => ∃ k : Nat, k ≤ s.size ∧ i = .int .i64 k ∧ wr.ownsRow w.heap.size 5 1 v k ((numsOf (X.take k)).map (Value.int .u8)) ∧ Below w.heap.size w wr)
      (fun _ i _ => s.size - (intOf i).toNat)
    case atStart => exact ⟨0, Nat.zero_le _, rfl, hown0, hb0⟩
    case round =>
      obtain ⟨k, hk, rfl, hown, hnx⟩ := hrel
      clear hown0 hb0
      by_cases hlt : k < s.size
      · have h0 : (0 : Int) ≤ (k : Int) := Int.natCast_nonneg _
        have h1 : (k : Int) < (s.size : Int) := by omega
        have h2 : (k : Int) < (t.size : Int) := by omega
        have hk2 : k < t.size := by omega
        have hc := s[k].toNat_lt
        have hd := t[k].toNat_lt
        have hxx := u8_xor s[k] t[k]
        have hns := hnx.size
        go_wp2
        refine wp_region_plan [0] [false, true, true, true, true, true, true, true] 8 (by kernel_rfl) (by kernel_rfl) (by kernel_rfl) ?_
        simp only [maskRows, movesA, moveOf, List.getElem?_toArray, List.getElem?_cons_zero, List.drop_succ_cons, List.drop_zero]
        repeat still_step
        refine wpStill_nil ?_
        intro K1 hK1
        go_wp2_with (at_builtin; refine wpList_append_own _ rfl (.tmp 19) (.tmp 27) 22 rfl w.heap.size 5 i0 (.int .u8 0) 1 1 Try.underlying22 hi hz0 hz1 hz2 rfl (by decide) _ _ _ rfl ((hown.alloc _).drew) ⟨wr.heap.size, 0, none⟩ 1 1 [.int .u8 ((s[k] ^^^ t[k]).toNat : Int)] rfl rfl (cell_one_new _ _ _) (by intro u hu; simp at hu; subst hu; rfl) (by unfold maxLen; omega) (by omega) (by simp; omega) ?_; intro v' w1 hown' hgrow _)
        have R : w1.ownsRow w.heap.size 5 1 v' (k + 1) ((numsOf (X.take (k + 1))).map (Value.int .u8)) ∧ Below w.heap.size w w1 := by
          refine ⟨?_, ((hnx.alloc hnx.size _).drew).grown hgrow (by have := hnx.size; simp; omega) (fun g hg => (hown.lt g hg).1)⟩
          rw [HTK.out k hlt]
          simpa [numsOf] using hown'
        clear hown' hgrow hown
        go_wp2
        go_roundw
        case rel => exact ⟨k + 1, by omega, by go_num, R.1, R.2⟩
        case measure => simp [intOf]; omega
      · obtain rfl : k = s.size := by omega
        rw [List.take_of_length_le (by omega)] at hown
        have hcv := run_string_own (P := Try.prog) 22 5 9 Try.underlying22 Try.underlying5 Try.underlying9 hown
        rw [nums_back] at hcv
        clear hown
        go_wp2
        go_ret
        exact ⟨by rw [HX.out]; rfl, hnx⟩
  · have hx : xorS s t = ByteArray.empty := by unfold xorS; rw [if_neg hst]
    have HX := Lib.hid hx; clear hx
    have e1 : ¬ (s.size : Int) = (t.size : Int) := by omega
    go_enter Try.func20, Try.ntmps20
    go_wp2
    go_ret
    exact ⟨by rw [HX.out]; rfl, Below.refl _ _⟩
end Go.Proofs.Ytcecodjipeahkaa
namespace Go.Proofs.Ytcecodjipeahkaa
open Go.ChangeShapes Go.WideShapes Go.ChangeAt Go.RowKit
set_option linter.unusedVariables false

/-- the number of some bytes, the highest first -/
def getN (l : List UInt8) : Nat := l.foldl (fun n c => n * 256 + c.toNat) 0
theorem getN_snoc (l : List UInt8) (c : UInt8) : getN (l ++ [c]) = getN l * 256 + c.toNat := by simp [getN, List.foldl_append]
theorem foldl_lt : ∀ (l : List UInt8) (n m : Nat), n < 256 ^ m → l.foldl (fun n c => n * 256 + c.toNat) n < 256 ^ (m + l.length)
  | [], n, m, h => by simpa using h
  | c :: r, n, m, h => by
    have hc := c.toNat_lt
    have := foldl_lt r (n * 256 + c.toNat) (m + 1) (by rw [Nat.pow_succ]; omega)
    simp only [List.foldl_cons, List.length_cons]
    rwa [show m + (r.length + 1) = m + 1 + r.length by omega]
theorem getN_lt (l : List UInt8) : getN l < 256 ^ l.length := by
  have := foldl_lt l 0 0 (by simp)
  rwa [Nat.zero_add] at this
def getV (s : ByteArray) (p k : Int) : Int := if k < 1 ∨ 4 < k ∨ p < 0 ∨ (s.size : Int) - k < p then -1 else (getN ((s.data.toList.drop p.toNat).take k.toNat) : Nat)
end Go.Proofs.Ytcecodjipeahkaa
namespace Go.Proofs.Ytcecodjipeahkaa
open Go
set_option linter.unusedVariables false
set_option linter.unusedSimpArgs false

theorem tb_step (n c : Nat) (hc : c < 256) (j : Nat) : (n * 256 + c).testBit j = if j < 8 then c.testBit j else n.testBit (j - 8) := by
  rw [Nat.mul_comm]
  exact Nat.testBit_two_pow_mul_add n (i := 8) hc j
theorem step_xor (n m c d : Nat) (hc : c < 256) (hd : d < 256) : (n * 256 + c) ^^^ (m * 256 + d) = (n ^^^ m) * 256 + (c ^^^ d) := by
  refine Nat.eq_of_testBit_eq fun j => ?_
  have hx : c ^^^ d < 256 := Nat.xor_lt_two_pow (n := 8) hc hd
  rw [Nat.testBit_xor, tb_step n c hc, tb_step m d hd, tb_step _ _ hx]
  split <;> rw [Nat.testBit_xor]
theorem fold_xor : ∀ (l k : List UInt8) (n m : Nat), l.length = k.length → (xorL l k).foldl (fun n c => n * 256 + c.toNat) (n ^^^ m) = l.foldl (fun n c => n * 256 + c.toNat) n ^^^ k.foldl (fun n c => n * 256 + c.toNat) m
  | [], [], n, m, _ => by simp [xorL]
  | [], b :: k, n, m, h => by simp at h
  | a :: l, [], n, m, h => by simp at h
  | a :: l, b :: k, n, m, h => by
    have ih := fold_xor l k (n * 256 + a.toNat) (m * 256 + b.toNat) (by simpa using h)
    rw [step_xor _ _ _ _ a.toNat_lt b.toNat_lt] at ih
    have e : xorL (a :: l) (b :: k) = (a ^^^ b) :: xorL l k := by simp [xorL]
    rw [e, List.foldl_cons, List.foldl_cons, List.foldl_cons, UInt8.toNat_xor]
    exact ih
/-- the number of a load -/
def numL (y : ByteArray) : Nat := getN y.data.toList
theorem numL_xor (a b : ByteArray) (h : a.size = b.size) : numL (xorS a b) = numL a ^^^ numL b := by
  unfold numL getN
  rw [xorS_data a b h]
  have := fold_xor a.data.toList b.data.toList 0 0 (by simpa using h)
  simpa using this
theorem numL_lt (y : ByteArray) (h : y.size = 4) : numL y < 4294967296 := by
  have := getN_lt y.data.toList
  have e : y.data.toList.length = 4 := by simp [h]
  rw [e] at this
  exact this
theorem numL_z4 : numL z4 = 0 := by decide
theorem numL_inj {a b : ByteArray} (ha : a.size = 4) (hb : b.size = 4) (h : numL a = numL b) : a = b := by
  have la : a.data.toList.length = 4 := by simp [ha]
  have lb : b.data.toList.length = 4 := by simp [hb]
  refine ba_ext ?_
  unfold numL getN at h
  revert h
  match a.data.toList, la, b.data.toList, lb with
  | [x, y, z, u], _, [p, q, r, s], _ =>
    intro h
    simp only [List.foldl_cons, List.foldl_nil] at h
    have h1 := x.toNat_lt; have h2 := y.toNat_lt; have h3 := z.toNat_lt; have h4 := u.toNat_lt
    have g1 := p.toNat_lt; have g2 := q.toNat_lt; have g3 := r.toNat_lt; have g4 := s.toNat_lt
    rw [UInt8.toNat_inj.1 (show x.toNat = p.toNat by omega), UInt8.toNat_inj.1 (show y.toNat = q.toNat by omega), UInt8.toNat_inj.1 (show z.toNat = r.toNat by omega), UInt8.toNat_inj.1 (show u.toNat = s.toNat by omega)]
def placeK (k : K2) : Nat := ((k.1 - 1) * 99 + k.2 - 1).toNat
def keyP (p : Nat) : K2 := (((p / 99 : Nat) : Int) + 1, ((p % 99 : Nat) : Int) + 1)
theorem keyOk_iff (k : K2) : keyOkB k = true ↔ (1 ≤ k.1 ∧ k.1 ≤ 20) ∧ 1 ≤ k.2 ∧ k.2 ≤ 99 := by
  unfold keyOkB
  simp
theorem place_lt {k : K2} (h : keyOkB k = true) : placeK k < 1980 := by
  obtain ⟨⟨h1, h2⟩, h3, h4⟩ := (keyOk_iff k).1 h
  unfold placeK; omega
theorem place_key {k : K2} (h : keyOkB k = true) : keyP (placeK k) = k := by
  obtain ⟨⟨h1, h2⟩, h3, h4⟩ := (keyOk_iff k).1 h
  obtain ⟨a, b⟩ := k
  dsimp only at h1 h2 h3 h4
  unfold keyP placeK
  dsimp only
  refine Prod.ext ?_ ?_
  · dsimp only; omega
  · dsimp only; omega
theorem key_place (p : Nat) : placeK (keyP p) = p := by unfold keyP placeK; dsimp only; omega
/-- a word has a one at a place -/
def hasX (x : C2) (p : Nat) : Bool := if p < 1984 then decide (keyP p ∈ x.1) else (numL x.2).testBit (p - 1984)
def hX (a : W2) (p : Nat) : Bool := hasX a.1 p
theorem hX_add (a b : W2) (p : Nat) : hX (grpW.add a b) p = (hX a p != hX b p) := by
  unfold hX hasX
  by_cases h : p < 1984
  · rw [if_pos h, if_pos h, if_pos h]
    exact hasW_add a b (keyP p)
  · rw [if_neg h, if_neg h, if_neg h]
    show (numL (xorS a.1.2 b.1.2)).testBit _ = _
    rw [numL_xor _ _ (by rw [a.2.2, b.2.2]), Nat.testBit_xor]
theorem hX_zero (p : Nat) : hX grpW.zero p = false := by
  unfold hX hasX
  split
  · show decide (keyP p ∈ ([] : List K2)) = false; simp
  · show (numL z4).testBit _ = false
    rw [numL_z4, Nat.zero_testBit]
theorem hX_end (a : W2) (p : Nat) (h : 2016 ≤ p) : hX a p = false := by
  unfold hX hasX
  rw [if_neg (by omega)]
  exact Nat.testBit_lt_two_pow (Nat.lt_of_lt_of_le (numL_lt _ a.2.2) (Nat.pow_le_pow_right (n := 2) (by decide) (show 32 ≤ p - 1984 by omega)))
theorem hX_key (a : W2) {k : K2} (h : keyOkB k = true) : hX a (placeK k) = decide (k ∈ a.1.1) := by
  unfold hX hasX
  rw [if_pos (by have := place_lt h; omega), place_key h]
theorem hX_none (a : W2) (h : ∀ p, p < 2016 → hX a p = false) : a = grpW.zero := by
  have h1 : a.1.1 = [] := by
    cases hk : a.1.1 with
    | nil => rfl
    | cons k l =>
      have ho := ((keysR_iff a.1.1).1 a.2.1).1 k (by rw [hk]; simp)
      have := h (placeK k) (by have := place_lt ho; omega)
      rw [hX_key a ho, hk] at this
      simp at this
  have h2 : numL a.1.2 = 0 := by
    refine Nat.eq_of_testBit_eq fun j => ?_
    rw [Nat.zero_testBit]
    by_cases hj : j < 32
    · have := h (1984 + j) (by omega)
      unfold hX hasX at this
      rw [if_neg (by omega), show 1984 + j - 1984 = j by omega] at this
      exact this
    · exact Nat.testBit_lt_two_pow (Nat.lt_of_lt_of_le (numL_lt _ a.2.2) (Nat.pow_le_pow_right (n := 2) (by decide) (show 32 ≤ j by omega)))
  exact (zeroW a h1).2 (numL_inj a.2.2 rfl (by rw [h2, numL_z4]))
def pivX (a : W2) : Option Nat := (List.range 2016).find? (hX a)
theorem pivX_some {a : W2} {p : Nat} (h : pivX a = some p) : hX a p = true ∧ p < 2016 ∧ ∀ j, j < p → hX a j = false := by
  obtain ⟨h1, h2, h3⟩ := List.find?_range_eq_some.1 h
  exact ⟨h1, List.mem_range.1 h2, fun j hj => by simpa using h3 j hj⟩
theorem pivX_none {a : W2} (h : pivX a = none) (p : Nat) : hX a p = false := by
  by_cases hp : p < 2016
  · have := List.find?_eq_none.1 h p (List.mem_range.2 hp)
    simpa using this
  · exact hX_end a p (by omega)
def ordX : Ord W2 Nat grpW where
  piv a := (pivX a).getD 0
  has := hX
  has0 := hX_zero
  hasA := hX_add
  lt a b := a < b
  tri := fun a b => by omega
  trans := fun a b c h1 h2 => by omega
  bare a := (pivX a).isNone
  bare1 := fun v h k => pivX_none (Option.isNone_iff_eq_none.1 h) k
  bare2 := fun v h => by
    cases hp : pivX v with
    | none => rw [hp] at h; cases h
    | some p =>
      obtain ⟨h1, -, h3⟩ := pivX_some hp
      exact ⟨h1, fun k hk => h3 k hk⟩
  uniq := fun v q h1 h2 => by
    cases hp : pivX v with
    | none => rw [pivX_none hp] at h1; cases h1
    | some p =>
      obtain ⟨g1, -, g3⟩ := pivX_some hp
      show p = q
      rcases Nat.lt_trichotomy p q with h | h | h
      · rw [h2 p h] at g1; cases g1
      · exact h
      · rw [g3 q h] at h1; cases h1
theorem bareX (v : W2) : ordX.bare v = true ↔ v = grpW.zero := by
  constructor
  · intro h; exact hX_none v fun p _ => ordX.bare1 v h p
  · rintro rfl; exact bare_of ordX fun k => hX_zero k
end Go.Proofs.Ytcecodjipeahkaa
namespace Go.Proofs.Ytcecodjipeahkaa
open Go
set_option linter.unusedVariables false
set_option linter.unusedSimpArgs false

abbrev zW : W2 := grpW.zero
def swapL (R : List W2) (i j : Nat) : List W2 := (R.set i (R.getD j zW)).set j (R.getD i zW)
/-- the rows ahead of i, but d, have had row d added where they have a one -/
def turnL (R : List W2) (d p i : Nat) : List W2 := (List.range R.length).map fun j => if j < i ∧ j ≠ d ∧ hX (R.getD j zW) p = true then grpW.add (R.getD j zW) (R.getD d zW) else R.getD j zW
theorem swap_len (R : List W2) (i j : Nat) : (swapL R i j).length = R.length := by simp [swapL]
theorem turn_len (R : List W2) (d p i : Nat) : (turnL R d p i).length = R.length := by simp [turnL]
theorem turn_get (R : List W2) (d p i j : Nat) (hj : j < R.length) : (turnL R d p i).getD j zW = if j < i ∧ j ≠ d ∧ hX (R.getD j zW) p = true then grpW.add (R.getD j zW) (R.getD d zW) else R.getD j zW := by
  simp [turnL, List.getD, hj]
theorem ext_getD {A B : List W2} (hl : A.length = B.length) (h : ∀ j, j < A.length → A.getD j zW = B.getD j zW) : A = B := by
  refine List.ext_getElem hl fun j h1 h2 => ?_
  have := h j h1
  simpa [List.getD, h1, h2] using this
theorem getD_set (R : List W2) (i j : Nat) (x : W2) (hj : j < R.length) : (R.set i x).getD j zW = if i = j then x else R.getD j zW := by
  simp only [List.getD, List.getElem?_set]
  by_cases h : i = j
  · subst h; simp [hj]
  · simp [h]
theorem swap_get (R : List W2) (i j k : Nat) (hi : i < R.length) (hj : j < R.length) (hk : k < R.length) : (swapL R i j).getD k zW = if k = j then R.getD i zW else if k = i then R.getD j zW else R.getD k zW := by
  unfold swapL
  rw [getD_set _ _ _ _ (by simpa using hk), getD_set _ _ _ _ hk]
  by_cases h1 : k = j
  · simp [h1]
  · rw [if_neg (fun e => h1 e.symm), if_neg h1]
    by_cases h2 : k = i
    · rw [if_pos h2.symm, if_pos h2]
    · rw [if_neg (fun e => h2 e.symm), if_neg h2]
theorem turn_zero (R : List W2) (d p : Nat) : turnL R d p 0 = R := ext_getD (turn_len ..) fun j hj => by
  rw [turn_len] at hj
  rw [turn_get _ _ _ _ _ hj, if_neg (by omega)]
theorem turn_same (R : List W2) (d p i : Nat) (hi : i < R.length) (h : i = d ∨ hX (R.getD i zW) p = false) : turnL R d p (i + 1) = turnL R d p i := ext_getD (by simp [turn_len]) fun j hj => by
  rw [turn_len] at hj
  rw [turn_get _ _ _ _ _ hj, turn_get _ _ _ _ _ hj]
  by_cases hji : j = i
  · subst hji
    rw [if_neg, if_neg (by omega)]
    rintro ⟨_, h1, h2⟩
    rcases h with h | h
    · exact h1 h
    · rw [h] at h2; cases h2
  · have e : (j < i + 1 ∧ j ≠ d ∧ hX (R.getD j zW) p = true) ↔ (j < i ∧ j ≠ d ∧ hX (R.getD j zW) p = true) := by
      constructor
      · rintro ⟨a, b⟩; exact ⟨by omega, b⟩
      · rintro ⟨a, b⟩; exact ⟨by omega, b⟩
    by_cases h1 : j < i ∧ j ≠ d ∧ hX (R.getD j zW) p = true
    · rw [if_pos h1, if_pos (e.2 h1)]
    · rw [if_neg h1, if_neg (fun h2 => h1 (e.1 h2))]
theorem turn_step (R : List W2) (d p i : Nat) (hi : i < R.length) (hd : i ≠ d) (h : hX (R.getD i zW) p = true) : turnL R d p (i + 1) = (turnL R d p i).set i (grpW.add (R.getD i zW) (R.getD d zW)) := ext_getD (by simp [turn_len]) fun j hj => by
  rw [turn_len] at hj
  rw [turn_get _ _ _ _ _ hj, getD_set _ _ _ _ (by rw [turn_len]; exact hj), turn_get _ _ _ _ _ hj]
  by_cases hji : i = j
  · subst hji
    rw [if_pos ⟨by omega, hd, h⟩, if_pos rfl]
  · rw [if_neg hji]
    have e : (j < i + 1 ∧ j ≠ d ∧ hX (R.getD j zW) p = true) ↔ (j < i ∧ j ≠ d ∧ hX (R.getD j zW) p = true) := by
      constructor
      · rintro ⟨a, b⟩; exact ⟨by omega, b⟩
      · rintro ⟨a, b⟩; exact ⟨by omega, b⟩
    by_cases h1 : j < i ∧ j ≠ d ∧ hX (R.getD j zW) p = true
    · rw [if_pos h1, if_pos (e.2 h1)]
    · rw [if_neg h1, if_neg (fun h2 => h1 (e.1 h2))]
theorem turn_at (R : List W2) (d p i : Nat) (hi : i < R.length) : (turnL R d p i).getD i zW = R.getD i zW := by
  rw [turn_get _ _ _ _ _ hi, if_neg (by omega)]
theorem turn_d (R : List W2) (d p i : Nat) (hd : d < R.length) : (turnL R d p i).getD d zW = R.getD d zW := by
  rw [turn_get _ _ _ _ _ hd, if_neg (by omega)]
theorem mem_getD (R : List W2) (j : Nat) (hj : j < R.length) : R.getD j zW ∈ R := by
  rw [List.getD, List.getElem?_eq_getElem hj]; exact List.getElem_mem hj
theorem mem_at {R : List W2} {x : W2} (h : x ∈ R) : ∃ j, j < R.length ∧ R.getD j zW = x := by
  obtain ⟨j, hj, e⟩ := List.mem_iff_getElem.1 h
  exact ⟨j, hj, by rw [List.getD, List.getElem?_eq_getElem hj]; exact e⟩
theorem swap_span (R : List W2) (i j : Nat) (hi : i < R.length) (hj : j < R.length) (y : W2) : Span grpW (· ∈ swapL R i j) y ↔ Span grpW (· ∈ R) y := by
  constructor
  · refine Span.mono fun x hx => ?_
    obtain ⟨k, hk, rfl⟩ := mem_at hx
    rw [swap_len] at hk
    rw [swap_get R i j k hi hj hk]
    split
    · exact mem_getD R i hi
    · split
      · exact mem_getD R j hj
      · exact mem_getD R k hk
  · refine Span.mono fun x hx => ?_
    obtain ⟨k, hk, rfl⟩ := mem_at hx
    have hs : ∀ m, m < R.length → (swapL R i j).getD m zW ∈ swapL R i j := fun m hm => mem_getD _ m (by rw [swap_len]; exact hm)
    by_cases h1 : k = i
    · have := hs j hj
      rw [swap_get R i j j hi hj hj, if_pos rfl] at this
      rw [h1]; exact this
    · by_cases h2 : k = j
      · have := hs i hi
        rw [swap_get R i j i hi hj hi] at this
        rw [h2]
        by_cases h3 : i = j
        · rw [if_pos h3] at this
          have e : R.getD j zW = R.getD i zW := by rw [h3]
          rw [e]; exact this
        · rw [if_neg h3, if_pos rfl] at this; exact this
      · have := hs k hk
        rw [swap_get R i j k hi hj hk, if_neg h2, if_neg h1] at this
        exact this
theorem turn_span (R : List W2) (d p i : Nat) (hd : d < R.length) (y : W2) : Span grpW (· ∈ turnL R d p i) y ↔ Span grpW (· ∈ R) y := by
  have hdm : R.getD d zW ∈ turnL R d p i := by
    have := mem_getD (turnL R d p i) d (by rw [turn_len]; exact hd)
    rwa [turn_d R d p i hd] at this
  constructor
  · refine Span.le fun x hx => ?_
    obtain ⟨k, hk, rfl⟩ := mem_at hx
    rw [turn_len] at hk
    rw [turn_get R d p i k hk]
    split
    · exact (Span.of (mem_getD R k hk)).plus (.of (mem_getD R d hd))
    · exact .of (mem_getD R k hk)
  · refine Span.le fun x hx => ?_
    obtain ⟨k, hk, rfl⟩ := mem_at hx
    have h1 := mem_getD (turnL R d p i) k (by rw [turn_len]; exact hk)
    rw [turn_get R d p i k hk] at h1
    split at h1
    · have h2 := (Span.of (G := grpW) (S := (· ∈ turnL R d p i)) h1).plus (.of hdm)
      rwa [grpW.assoc, grpW.self, grpW.zr] at h2
    · exact .of h1
/-- rows on their way: the first ones have their places, the others none so far -/
structure Elim (L R : List W2) (P : List Nat) (place : Nat) : Prop where
  len : P.length ≤ R.length
  own : ∀ i, i < P.length → hX (R.getD i zW) (P.getD i 0) = true
  alone : ∀ i, i < P.length → ∀ j, j < R.length → j ≠ i → hX (R.getD j zW) (P.getD i 0) = false
  low : ∀ i, i < P.length → ∀ p, p < P.getD i 0 → hX (R.getD i zW) p = false
  rest : ∀ j, P.length ≤ j → j < R.length → ∀ p, p < place → hX (R.getD j zW) p = false
  rise : P.Pairwise (· < ·)
  lt : ∀ p ∈ P, p < place
  span : ∀ y, Span grpW (· ∈ R) y ↔ Span grpW (· ∈ L) y
theorem Elim.start (L : List W2) : Elim L L [] 0 :=
  ⟨Nat.zero_le _, fun i h => by simp at h, fun i h => by simp at h, fun i h => by simp at h, fun j _ _ p hp => by omega, List.Pairwise.nil, fun p h => (by cases h), fun y => Iff.rfl⟩
theorem Elim.no {L R : List W2} {P : List Nat} {place : Nat} (h : Elim L R P place) (hn : ∀ j, P.length ≤ j → j < R.length → hX (R.getD j zW) place = false) : Elim L R P (place + 1) :=
  ⟨h.len, h.own, h.alone, h.low, (fun j h1 h2 p hp => by
    rcases (by omega : p < place ∨ p = place) with hp | rfl
    · exact h.rest j h1 h2 p hp
    · exact hn j h1 h2), h.rise, fun p hp => Nat.lt_succ_of_lt (h.lt p hp), h.span⟩
theorem Elim.swap {L R : List W2} {P : List Nat} {place at' : Nat} (h : Elim L R P place) (h1 : P.length ≤ at') (h2 : at' < R.length) : Elim L (swapL R P.length at') P place := by
  have hd : P.length < R.length := by omega
  have hg := fun k hk => swap_get R P.length at' k hd h2 hk
  refine ⟨by rw [swap_len]; exact h.len, fun i hi => ?_, fun i hi j hj hji => ?_, fun i hi p hp => ?_, fun j hj hj2 p hp => ?_, h.rise, h.lt, fun y => (swap_span R _ _ hd h2 y).trans (h.span y)⟩
  · rw [hg i (by omega), if_neg (by omega), if_neg (by omega)]; exact h.own i hi
  · rw [swap_len] at hj
    rw [hg j hj]
    split
    · exact h.alone i hi _ hd (by omega)
    · split
      · exact h.alone i hi _ h2 (by omega)
      · exact h.alone i hi j hj hji
  · rw [hg i (by omega), if_neg (by omega), if_neg (by omega)]; exact h.low i hi p hp
  · rw [swap_len] at hj2
    rw [hg j hj2]
    split
    · exact h.rest _ (Nat.le_refl _) hd p hp
    · split
      · exact h.rest _ h1 h2 p hp
      · exact h.rest j hj hj2 p hp
theorem Elim.turn {L R : List W2} {P : List Nat} {place : Nat} (h : Elim L R P place) (h1 : P.length < R.length) (h2 : hX (R.getD P.length zW) place = true) : Elim L (turnL R P.length place R.length) (P ++ [place]) (place + 1) := by
  have hg := fun k hk => turn_get R P.length place R.length k hk
  have hlow : ∀ p, p < place → hX (R.getD P.length zW) p = false := h.rest _ (Nat.le_refl _) h1
  have hP : ∀ i, i < P.length → (P ++ [place]).getD i 0 = P.getD i 0 := fun i hi => by simp [List.getD, List.getElem?_append_left hi]
  have hPe : (P ++ [place]).getD P.length 0 = place := by simp [List.getD]
  have hPlt : ∀ i, i < P.length → P.getD i 0 < place := fun i hi => h.lt _ (by rw [List.getD, List.getElem?_eq_getElem hi]; exact List.getElem_mem hi)
  have hlen : (P ++ [place]).length = P.length + 1 := by simp
  refine ⟨by rw [turn_len, hlen]; omega, fun i hi => ?_, fun i hi j hj hji => ?_, fun i hi p hp => ?_, fun j hj hj2 p hp => ?_, ?_, fun p hp => ?_, fun y => (turn_span R _ _ _ h1 y).trans (h.span y)⟩
  · rw [hlen] at hi
    rcases (by omega : i < P.length ∨ i = P.length) with hi | rfl
    · rw [hP i hi, hg i (by omega)]
      have := h.own i hi
      split
      · rw [hX_add, this, hlow _ (hPlt i hi)]; rfl
      · exact this
    · rw [hPe, turn_d _ _ _ _ h1]; exact h2
  · rw [hlen] at hi
    rw [turn_len] at hj
    rcases (by omega : i < P.length ∨ i = P.length) with hi | rfl
    · rw [hP i hi, hg j hj]
      have := h.alone i hi j hj hji
      split
      · rw [hX_add, this, hlow _ (hPlt i hi)]; rfl
      · exact this
    · rw [hPe, hg j hj]
      cases hx : hX (R.getD j zW) place with
      | true => rw [if_pos ⟨hj, hji, rfl⟩, hX_add, hx, h2]; rfl
      | false => rw [if_neg (by simp)]; exact hx
  · rw [hlen] at hi
    rcases (by omega : i < P.length ∨ i = P.length) with hi | rfl
    · rw [hP i hi] at hp
      rw [hg i (by omega)]
      have := h.low i hi p hp
      split
      · rw [hX_add, this, hlow _ (by have := hPlt i hi; omega)]; rfl
      · exact this
    · rw [hPe] at hp
      rw [turn_d _ _ _ _ h1]; exact hlow p hp
  · rw [hlen] at hj
    rw [turn_len] at hj2
    rw [hg j hj2]
    rcases (by omega : p < place ∨ p = place) with hp | rfl
    · have := h.rest j (by omega) hj2 p hp
      split
      · rw [hX_add, this, hlow p hp]; rfl
      · exact this
    · cases hx : hX (R.getD j zW) p with
      | true => rw [if_pos ⟨hj2, by omega, rfl⟩, hX_add, hx, h2]; rfl
      | false => rw [if_neg (by simp)]; exact hx
  · refine List.pairwise_append.2 ⟨h.rise, List.pairwise_singleton .., fun a ha b hb => ?_⟩
    rw [List.mem_singleton.1 hb]; exact h.lt a ha
  · rcases List.mem_append.1 hp with hp | hp
    · exact Nat.lt_succ_of_lt (h.lt p hp)
    · rw [List.mem_singleton.1 hp]; exact Nat.lt_succ_self _
end Go.Proofs.Ytcecodjipeahkaa
