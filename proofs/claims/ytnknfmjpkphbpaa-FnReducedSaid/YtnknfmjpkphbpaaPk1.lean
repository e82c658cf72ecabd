/- Texts of this seat, one behind the other (part 1): what the laws of chapter 5 lean on. -/
import Derived.StillTail
import Derived.OrdersIn
import Derived.RangeFuncCalls
import Derived.Deep.RegionHeld3
import Derived.KernelRfl
import Derived.Test.YtnknfmjpkphbpaaRows
import Derived.WalkKit
import Derived.ProofKit
import Derived.OpenShut
import Derived.ShutString
import Derived.Below
import Derived.Outline
import Derived.WalkSpells
import Derived.WalkLawsBesides
import Derived.Deep.AppendLies
import Derived.StillTactics
import Derived.Laws.BytesArg
import Derived.Laws.OwnMore
import Derived.Maps.AppendAt
import Derived.Lib.Hide
import Derived.BigQuiet
import Derived.Deep.MidRow
import Derived.Laws.StructEq
import Derived.Deep.WholeRow
import Derived.Deep.QuietTactic
import Derived.Lib.Bytealg
import Derived.RangeFuncBox
import Derived.Lib.SmallJoins
import Derived.Lib.BufferWrite
import Derived.Deep.RegionLaw

set_option linter.unusedVariables false
set_option linter.unusedSimpArgs false

/- A region that draws its order, whose first n operations only read (in one fixed world), and whose other operations are forced one behind the other: it may be walked in the order of the text.
   Operations of 'pre' (moves that the tail alone waits for) may come at any time, even behind the tail's effects. -/
namespace Go.Proofs.Ytnknfmjpkphbpaa
open Go
section
variable {P : Program} {ops : Array Oper} {md : Region.Mode} {w : World}

def todo (n : Nat) (listed : Array Bool) : List Nat := (List.range n).filter fun i => !listed.getD i true
def rowsOf (ops : Array Oper) (is : List Nat) : List Oper := is.filterMap (ops[·]?)

def pairB (md : Region.Mode) (ops : Array Oper) (n : Nat) : Bool :=
  (List.range n).all fun i => (List.range i).all fun j => Region.waitsFor md ops i j || match ops[j]?, ops[i]? with
    | some oj, some oi => oj.apart ops oi
    | _, _ => false
def depsB (md : Region.Mode) (ops : Array Oper) (n : Nat) : Bool :=
  (List.range n).all fun i => match ops[i]? with
    | some o => o.after.all fun e => !Region.binds md e || decide (e.on < i)
    | none => false
def sinkFromB (md : Region.Mode) (ops : Array Oper) (n : Nat) (L0 : Array Bool) : Bool :=
  (List.range n).all fun i => L0.getD i true || (List.range (n + 1)).any fun j => decide (i < j) && Region.waitsFor md ops j i

theorem waits_listed {i j : Nat} {listed : Array Bool} (hr : i ∈ Region.ready md ops listed) (hw : Region.waitsFor md ops i j = true) : listed.getD j false = true := by
  obtain ⟨_, o, ho, hall⟩ := mem_ready.1 hr
  obtain ⟨o', ho', e, he, hb, hon⟩ := Region.waitsFor_spec hw
  obtain rfl : o' = o := Option.some.inj (ho'.symm.trans ho)
  rw [← hon]; exact hall e he hb

theorem tail_sleeps {n : Nat} {L0 listed : Array Bool} (hs : sinkFromB md ops n L0 = true) (hc : Region.chainB md ops n = true) (hn : n < ops.size) (h0 : L0.size = ops.size)
    (inv : HeadInv md ops n listed) (hle : ∀ i, L0.getD i false = true → listed.getD i false = true) :
    ∀ (d i : Nat), n - i ≤ d → i < n → listed.getD i true = false → ∀ t, n ≤ t → t ∉ Region.ready md ops listed := by
  intro d
  induction d with
  | zero => intro i h1 h2; omega
  | succ d ih =>
    intro i hd hi hun t ht hr
    have htl : t < ops.size := by
      obtain ⟨_, o, ho, _⟩ := mem_ready.1 hr
      exact (Array.getElem?_eq_some_iff.1 ho).1
    by_cases htn : n < t
    · have h1 := List.all_eq_true.1 hc t (List.mem_range.2 htl)
      simp only [Bool.or_eq_true, decide_eq_true_eq] at h1
      rcases h1 with h1 | h1
      · omega
      · have h2 := waits_listed hr h1
        have h3 := getD_both (inv.tail (t - 1) (by omega) (by omega))
        rw [h3] at h2; cases h2
    · obtain rfl : t = n := by omega
      have h1 := List.all_eq_true.1 hs i (List.mem_range.2 hi)
      simp only [Bool.or_eq_true] at h1
      rcases h1 with h1 | h1
      · have : L0.getD i false = true := by
          cases h4 : L0.getD i false with
          | true => rfl
          | false => rw [getD_in (by omega) h4] at h1; cases h1
        have := hle i this
        rw [getD_both hun] at this; cases this
      · obtain ⟨j, hj, h2⟩ := List.any_eq_true.1 h1
        simp only [Bool.and_eq_true, decide_eq_true_eq] at h2
        have hjn := List.mem_range.1 hj
        by_cases hjt : j = t
        · subst hjt
          have := waits_listed hr h2.2
          rw [getD_both hun] at this; cases this
        · cases hl : listed.getD j false with
          | true =>
            obtain ⟨o', ho', e, he, hb, hon⟩ := Region.waitsFor_spec h2.2
            have := inv.closed j o' ho' hl e he hb
            rw [hon, getD_both hun] at this; cases this
          | false => exact ih j (by omega) (by omega) (getD_in (by rw [inv.size]; omega) hl) t (by omega) hr

theorem bubble {i : Nat} {oi : Oper} {Lq : Act → Prop} (hi : ops[i]? = some oi) (hsel : ∀ (j : Nat) (o : Oper) cs b, ops[j]? = some o → o.op ≠ .select cs b) (post : List Oper) :
    ∀ (pre : List Oper) (a : Act), (∀ o ∈ pre, ∃ j : Nat, ops[j]? = some o ∧ o.apart ops oi = true) → wpStill P ops w Lq (pre ++ oi :: post) a → stOp P ops w i (wpStill P ops w Lq (pre ++ post)) a
  | [], a, _, h => by
    unfold stOp; simp only [hi]; exact h
  | o :: pre, a, hap, h => by
    obtain ⟨j, hj, hA⟩ := hap o (by simp)
    have h1 : stOp P ops w j (wpStill P ops w Lq (pre ++ oi :: post)) a := by unfold stOp; simp only [hj]; exact h
    obtain ⟨v, hy, hK⟩ := yieldsAt_of_stOp hj h1
    have h2 := bubble hi hsel post pre _ (fun o' ho' => hap o' (by simp [ho'])) hK
    refine stOp_mono (fun a' h3 => ?_) (stOp_put hi hA (fun cs b => hsel j o cs b hj) (fun cs b => hsel i oi cs b hi) hy h2)
    have h4 := h3.1.stOp (P := P) (ops := ops) (w := w) hj (K := wpStill P ops w Lq (pre ++ post)) h3.2
    unfold stOp at h4; simp only [hj] at h4; exact h4

theorem todo_split {n i : Nat} {listed : Array Bool} (hi : i < n) (hsz : i < listed.size) (hun : listed.getD i true = false) :
    ∃ pre post, todo n listed = pre ++ i :: post ∧ todo n (listed.setIfInBounds i true) = pre ++ post ∧ ∀ j ∈ pre, j < i ∧ listed.getD j true = false := by
  have hr : List.range n = List.range' 0 i ++ i :: List.range' (i + 1) (n - i - 1) := by
    rw [List.range_eq_range']
    have h1 : n = i + ((n - i - 1) + 1) := by omega
    conv => lhs; rw [h1]
    have h2 := List.range'_append (s := 0) (m := i) (n := (n - i - 1) + 1) (step := 1)
    rw [← h2]; simp [List.range'_succ]
  refine ⟨(List.range' 0 i).filter (fun k => !listed.getD k true), (List.range' (i + 1) (n - i - 1)).filter (fun k => !listed.getD k true), ?_, ?_, ?_⟩
  · unfold todo; rw [hr, List.filter_append, List.filter_cons]; simp only [hun]; simp
  · unfold todo
    rw [hr, List.filter_append, List.filter_cons]
    have hset : (listed.setIfInBounds i true).getD i true = true := by simp [hsz]
    simp only [hset]
    have e1 : ∀ k, k ≠ i → (listed.setIfInBounds i true).getD k true = listed.getD k true := fun k hk => getD_set_ne true (Ne.symm hk)
    have g1 : (List.range' 0 i).filter (fun k => !(listed.setIfInBounds i true).getD k true) = (List.range' 0 i).filter (fun k => !listed.getD k true) := by
      apply List.filter_congr; intro k hk; rw [e1 k (by have := List.mem_range'_1.1 hk; omega)]
    have g2 : (List.range' (i + 1) (n - i - 1)).filter (fun k => !(listed.setIfInBounds i true).getD k true) = (List.range' (i + 1) (n - i - 1)).filter (fun k => !listed.getD k true) := by
      apply List.filter_congr; intro k hk; rw [e1 k (by have := List.mem_range'_1.1 hk; omega)]
    rw [g1, g2]; simp
  · intro j hj
    have h1 := List.mem_filter.1 hj
    have h2 := List.mem_range'_1.1 h1.1
    refine ⟨by omega, ?_⟩
    have h3 := h1.2
    simp only [Bool.not_eq_true'] at h3
    exact h3

def fullHead (n m : Nat) : Array Bool := Array.replicate n true ++ Array.replicate (m - n) false

theorem full_of {n : Nat} {listed : Array Bool} (hn : n < ops.size) (inv : HeadInv md ops n listed) (h : todo n listed = []) : listed = fullHead n ops.size := by
  apply Array.ext
  · simp [fullHead, inv.size]; omega
  · intro k h1 h2
    by_cases hk : k < n
    · have h3 : k ∉ todo n listed := by rw [h]; simp
      simp only [todo, List.mem_filter, List.mem_range, hk, true_and] at h3
      have h4 : listed.getD k true = true := by
        cases hx : listed.getD k true with
        | true => rfl
        | false => rw [hx] at h3; simp at h3
      simp [h1] at h4
      simp [fullHead, hk, h4]
    · have h4 := inv.tail k (by omega) (by rw [← inv.size]; exact h1)
      simp [h1] at h4
      simp [fullHead, hk, h4, Array.getElem_append]

/-- 'wpAny', and as long as number c has not come, S behind each operation. -/
def wpAnyU (P : Program) (md : Region.Mode) (ops : Array Oper) (Q : Exit → Act → World → Prop) (S : World → Prop) (c : Nat) : Nat → Array Bool → Act → World → Prop
  | 0, listed, a, w => Region.ready md ops listed = [] ∧ Q .normal a w
  | f + 1, listed, a, w => (Region.ready md ops listed = [] → Q .normal a w) ∧
    ∀ i ∈ Region.ready md ops listed, wpOp P ops Q i (fun a' w' => ((listed.setIfInBounds i true).getD c true = false → S w') ∧ wpAnyU P md ops Q S c f (listed.setIfInBounds i true) a' w') a w

theorem wpAnyU_drop {Q : Exit → Act → World → Prop} {S : World → Prop} {c : Nat} : ∀ (f : Nat) (listed : Array Bool) (a : Act) (w : World), wpAnyU P md ops Q S c f listed a w → wpAny P md ops Q f listed a w
  | 0, _, _, _, h => h
  | f + 1, _, _, _, h => ⟨h.1, fun i hi => wpOp_mono (fun _ _ h' => wpAnyU_drop f _ _ _ h'.2) (h.2 i hi)⟩

theorem free_set {i j : Nat} {oi : Oper} {listed : Array Bool} (hjun : listed.getD j true = false)
    (hfree : ∀ k ok, ops[k]? = some ok → k ≠ i → listed.getD k true = false → (∀ e ∈ ok.after, Region.binds md e = true → e.on ≠ i) → oi.apart ops ok = true) :
    ∀ k ok, ops[k]? = some ok → k ≠ i → (listed.setIfInBounds j true).getD k true = false → (∀ e ∈ ok.after, Region.binds md e = true → e.on ≠ i) → oi.apart ops ok = true := by
  intro k ok hk hki hun hno
  refine hfree k ok hk hki ?_ hno
  by_cases hjk : j = k
  · subst hjk; exact hjun
  · rw [getD_set_ne true hjk] at hun; exact hun

theorem not_waits {i : Nat} {oj : Oper} {listed : Array Bool} (hr : i ∈ Region.ready md ops listed) (hall : ∀ e ∈ oj.after, Region.binds md e = true → listed.getD e.on false = true) :
    ∀ e ∈ oj.after, Region.binds md e = true → e.on ≠ i := fun e he hb heq => by
  have h1 := hall e he hb
  rw [heq, getD_both (mem_ready.1 hr).1] at h1; cases h1

/-- A move (it yields in whatever world) may be taken first. -/
theorem moveU {Q : Exit → Act → World → Prop} {S : World → Prop} {c i : Nat} {oi : Oper} {v : Value} (hi : ops[i]? = some oi) (hsel : ∀ (j : Nat) (o : Oper) cs b, ops[j]? = some o → o.op ≠ .select cs b)
    (hQ : ∀ ch a w, Q (.panic ch) (a.put oi.dst v) w → Q (.panic ch) a w) (hc : c ≠ i) :
    ∀ (fuel : Nat) (listed : Array Bool) (a : Act) (w : World),
      (∀ j oj, ops[j]? = some oj → j ≠ i → listed.getD j true = false → (∀ e ∈ oj.after, Region.binds md e = true → e.on ≠ i) → oi.apart ops oj = true) →
      i ∈ Region.ready md ops listed → Yields P ops oi v a → (listed.getD c true = false → S w) →
      wpAnyU P md ops Q S c fuel (listed.setIfInBounds i true) (a.put oi.dst v) w → wpAnyU P md ops Q S c (fuel + 1) listed a w := by
  intro fuel
  induction fuel with
  | zero =>
    intro listed a w _ hr hy hS H
    refine ⟨fun h => (by rw [h] at hr; cases hr), fun j hj => ?_⟩
    by_cases hji : j = i
    · subst hji; exact hy.wpOp hi ⟨fun h => hS (by rwa [getD_set_ne true (Ne.symm hc)] at h), H⟩
    · have := ready_mono hj hji
      rw [H.1] at this; cases this
  | succ fuel ih =>
    intro listed a w hfree hr hy hS H
    refine ⟨fun h => (by rw [h] at hr; cases hr), fun j hj => ?_⟩
    by_cases hji : j = i
    · subst hji; exact hy.wpOp hi ⟨fun h => hS (by rwa [getD_set_ne true (Ne.symm hc)] at h), H⟩
    · have h1 := H.2 j (ready_mono hj hji)
      obtain ⟨hjun, oj, hoj, hall⟩ := mem_ready.1 hj
      have h2 := wpOp_put hoj (hfree j oj hoj hji hjun (not_waits hr hall)) (fun cs b => hsel i oi cs b hi) (fun cs b => hsel j oj cs b hoj) hQ hy h1
      refine wpOp_mono (fun a' w' h3 => ?_) h2
      have hSw : (listed.setIfInBounds j true).getD c true = false → S w' := fun h => h3.2.1 (by rw [Array.setIfInBounds_comm _ _ (Ne.symm hji), getD_set_ne true (Ne.symm hc)]; exact h)
      refine ⟨hSw, ih (listed.setIfInBounds j true) a' w' (free_set hjun hfree) (ready_mono hr (Ne.symm hji)) h3.1 hSw ?_⟩
      rw [Array.setIfInBounds_comm _ _ hji]
      exact h3.2.2

/-- number c waits for number i, over some others -/
def waitsT (md : Region.Mode) (ops : Array Oper) : Nat → Nat → Nat → Bool
  | 0, c, i => Region.waitsFor md ops c i
  | f + 1, c, i => Region.waitsFor md ops c i || (List.range ops.size).any fun j => Region.waitsFor md ops c j && waitsT md ops f j i
theorem waitsT_some {i : Nat} : ∀ (f c : Nat), waitsT md ops f c i = true → ∃ j, Region.waitsFor md ops c j = true ∧ (j = i ∨ ∃ f', waitsT md ops f' j i = true ∧ f' < f)
  | 0, c, h => ⟨i, h, .inl rfl⟩
  | f + 1, c, h => by
    simp only [waitsT, Bool.or_eq_true] at h
    rcases h with h | h
    · exact ⟨i, h, .inl rfl⟩
    · obtain ⟨j, _, hj⟩ := List.any_eq_true.1 h
      simp only [Bool.and_eq_true] at hj
      exact ⟨j, hj.1, .inr ⟨f, hj.2, Nat.lt_succ_self f⟩⟩
theorem waitsT_unlisted {i : Nat} {listed : Array Bool} (inv : HeadInv md ops ops.size listed) (hun : listed.getD i true = false) : ∀ (f c : Nat), waitsT md ops f c i = true → listed.getD c true = false := by
  intro f
  induction f using Nat.strongRecOn with
  | _ f ih =>
    intro c h
    obtain ⟨j, hj, hji⟩ := waitsT_some f c h
    have hju : listed.getD j false = false := by
      rcases hji with rfl | ⟨f', h', hf⟩
      · exact getD_both hun
      · exact getD_both (ih f' hf j h')
    obtain ⟨o, ho, e, he, hb, hon⟩ := Region.waitsFor_spec hj
    refine getD_in (by rw [inv.size]; exact (Array.getElem?_eq_some_iff.1 ho).1) ?_
    cases hc : listed.getD c false with
    | false => rfl
    | true =>
      have := inv.closed c o ho hc e he hb
      rw [hon, hju] at this; cases this
theorem waitsT_sleeps {i f c : Nat} {listed : Array Bool} (inv : HeadInv md ops ops.size listed) (hun : listed.getD i true = false) (h : waitsT md ops f c i = true) : c ∉ Region.ready md ops listed := fun hr => by
  obtain ⟨j, hj, hji⟩ := waitsT_some f c h
  have h1 := waits_listed hr hj
  have hju : listed.getD j false = false := by
    rcases hji with rfl | ⟨f', h', hf⟩
    · exact getD_both hun
    · exact getD_both (waitsT_unlisted inv hun f' j h')
  rw [hju] at h1; cases h1

/-- What reads a cell that S names may be taken first, if number c waits for it. -/
theorem lateU {Q : Exit → Act → World → Prop} {S : World → Prop} {c i : Nat} {oi : Oper} {v : Value} (hi : ops[i]? = some oi) (hsel : ∀ (j : Nat) (o : Oper) cs b, ops[j]? = some o → o.op ≠ .select cs b)
    (hQ : ∀ ch a w, Q (.panic ch) (a.put oi.dst v) w → Q (.panic ch) a w) {F : Nat} (hc : c ≠ i) (hcw : waitsT md ops F c i = true) :
    ∀ (fuel : Nat) (listed : Array Bool) (a : Act) (w : World),
      (∀ j oj, ops[j]? = some oj → j ≠ i → listed.getD j true = false → (∀ e ∈ oj.after, Region.binds md e = true → e.on ≠ i) → oi.apart ops oj = true) →
      i ∈ Region.ready md ops listed → YieldsIf P ops S oi v a → HeadInv md ops ops.size listed → S w →
      wpAnyU P md ops Q S c fuel (listed.setIfInBounds i true) (a.put oi.dst v) w → wpAnyU P md ops Q S c (fuel + 1) listed a w := by
  intro fuel
  induction fuel with
  | zero =>
    intro listed a w _ hr hy inv hS H
    refine ⟨fun h => (by rw [h] at hr; cases hr), fun j hj => ?_⟩
    by_cases hji : j = i
    · subst hji; exact hy.wpOp hi hS ⟨fun _ => hS, H⟩
    · have := ready_mono hj hji
      rw [H.1] at this; cases this
  | succ fuel ih =>
    intro listed a w hfree hr hy inv hS H
    refine ⟨fun h => (by rw [h] at hr; cases hr), fun j hj => ?_⟩
    by_cases hji : j = i
    · subst hji; exact hy.wpOp hi hS ⟨fun _ => hS, H⟩
    · have h1 := H.2 j (ready_mono hj hji)
      obtain ⟨hjun, oj, hoj, hall⟩ := mem_ready.1 hj
      have hjc : j ≠ c := fun e => by
        subst e
        exact waitsT_sleeps inv (mem_ready.1 hr).1 hcw hj
      have h2 := wpOp_putIf hoj (hfree j oj hoj hji hjun (not_waits hr hall)) (fun cs b => hsel i oi cs b hi) (fun cs b => hsel j oj cs b hoj) hQ hy h1
      refine wpOp_mono (fun a' w' h3 => ?_) h2
      have inv' := inv.set hj (Array.getElem?_eq_some_iff.1 hoj).1
      have hcu' : (listed.setIfInBounds j true).getD c true = false := waitsT_unlisted inv' (mem_ready.1 (ready_mono hr (Ne.symm hji))).1 F c hcw
      have hSw : S w' := h3.2.1 (by rw [Array.setIfInBounds_comm _ _ (Ne.symm hji), getD_set_ne true (Ne.symm hc)]; exact hcu')
      refine ⟨fun _ => hSw, ih (listed.setIfInBounds j true) a' w' (free_set hjun hfree) (ready_mono hr (Ne.symm hji)) h3.1 inv' hSw ?_⟩
      rw [Array.setIfInBounds_comm _ _ hji]
      exact h3.2.2

theorem head_any {n g c : Nat} {L0 : Array Bool} {Lq : Act → Prop} {Q : Exit → Act → World → Prop} {S : World → Prop} (hSw : S w) (hsel : ∀ (j : Nat) (o : Oper) cs b, ops[j]? = some o → o.op ≠ .select cs b)
    (hs : sinkFromB md ops n L0 = true) (hc : Region.chainB md ops n = true) (hp : pairB md ops n = true) (hd : depsB md ops n = true) (hn : n < ops.size) (h0 : L0.size = ops.size)
    (htail : ∀ a, Lq a → wpAnyU P md ops Q S c g (fullHead n ops.size) a w) :
    ∀ (f : Nat) (listed : Array Bool) (a : Act), HeadInv md ops n listed → (∀ i, L0.getD i false = true → listed.getD i false = true) → (todo n listed).length = f →
      wpStill P ops w Lq (rowsOf ops (todo n listed)) a → wpAnyU P md ops Q S c (f + g) listed a w := by
  intro f
  induction f with
  | zero =>
    intro listed a inv _ hf h
    have he := List.length_eq_zero_iff.1 hf
    rw [full_of hn inv he, Nat.zero_add]
    rw [he] at h
    exact htail a h
  | succ f ih =>
    intro listed a inv hle hf h
    rw [show f + 1 + g = (f + g) + 1 by omega]
    obtain ⟨i0, rest0, h00⟩ : ∃ i0 rest0, todo n listed = i0 :: rest0 := by
      cases ht : todo n listed with
      | nil => rw [ht] at hf; simp at hf
      | cons x r => exact ⟨x, r, rfl⟩
    have hm0 : i0 ∈ todo n listed := by rw [h00]; simp
    have hm1 := List.mem_filter.1 hm0
    have hi0 : i0 < n := List.mem_range.1 hm1.1
    have hu0 : listed.getD i0 true = false := by have := hm1.2; simpa only [Bool.not_eq_true'] using this
    have hready0 : i0 ∈ Region.ready md ops listed := by
      refine mem_ready.2 ⟨hu0, ops[i0], by simp [show i0 < ops.size by omega], fun e he hb => ?_⟩
      have h1 := List.all_eq_true.1 hd i0 (List.mem_range.2 hi0)
      simp only [show ops[i0]? = some ops[i0] by simp [show i0 < ops.size by omega]] at h1
      have h2 := Array.all_eq_true_iff_forall_mem.1 h1 e he
      simp only [hb, Bool.not_true, Bool.false_or, decide_eq_true_eq] at h2
      cases hx : listed.getD e.on false with
      | true => rfl
      | false =>
        have hx' := getD_in (by rw [inv.size]; omega) hx
        obtain ⟨pre, post, e1, _, e3⟩ := todo_split (n := n) hi0 (by rw [inv.size]; omega) hu0
        have hmem : e.on ∈ todo n listed := List.mem_filter.2 ⟨List.mem_range.2 (by omega), by rw [hx']; rfl⟩
        have hpre : pre = [] := by
          cases pre with
          | nil => rfl
          | cons x r =>
            have h5 : i0 :: rest0 = (x :: r) ++ i0 :: post := h00.symm.trans e1
            have hxi : i0 = x := (List.cons.inj h5).1
            have := (e3 x (by simp)).1
            omega
        subst hpre
        have h5 : todo n listed = i0 :: post := by simpa using e1
        rw [h5] at hmem
        rcases List.mem_cons.1 hmem with h6 | h6
        · omega
        · have h7 : (i0 :: post).Pairwise (· < ·) := by rw [← h5]; exact List.Pairwise.filter _ (List.pairwise_lt_range)
          have := (List.pairwise_cons.1 h7).1 _ h6
          omega
    refine ⟨fun h1 => (by rw [h1] at hready0; cases hready0), fun i hi => ?_⟩
    have hin : i < n := by
      rcases Nat.lt_or_ge i n with h1 | h1
      · exact h1
      · exact absurd hi (tail_sleeps hs hc hn h0 inv hle _ i0 (Nat.le_refl _) hi0 hu0 i h1)
    obtain ⟨hun, oi, hoi, _⟩ := mem_ready.1 hi
    obtain ⟨pre, post, e1, e2, e3⟩ := todo_split (n := n) hin (by rw [inv.size]; omega) hun
    have hrows : rowsOf ops (todo n listed) = rowsOf ops pre ++ oi :: rowsOf ops post := by rw [e1]; simp [rowsOf, List.filterMap_append, hoi]
    rw [hrows] at h
    have hb := bubble hoi hsel (rowsOf ops post) (rowsOf ops pre) a (fun o ho => by
      obtain ⟨j, hj, hjo⟩ := List.mem_filterMap.1 ho
      refine ⟨j, hjo, ?_⟩
      have h1 := List.all_eq_true.1 (List.all_eq_true.1 hp i (List.mem_range.2 hin)) j (List.mem_range.2 (e3 j hj).1)
      simp only [Bool.or_eq_true, hjo, hoi] at h1
      rcases h1 with h1 | h1
      · have := waits_listed hi h1
        rw [getD_both (e3 j hj).2] at this; cases this
      · exact h1) h
    refine wpOp_of_stOp (fun a' h' => ⟨fun _ => hSw, ih (listed.setIfInBounds i true) a' (inv.set hi hin) (fun k hk => getD_set_true (hle k hk)) ?_ ?_⟩) hb
    · rw [e1] at hf; rw [e2]; simp at hf ⊢; omega
    · rw [e2]; simpa [rowsOf, List.filterMap_append] using h'

/-! ### moves that may come at any time -/
def setAll (listed : Array Bool) (is : List Nat) : Array Bool := is.foldl (fun l i => l.setIfInBounds i true) listed
def moveOf (o : Oper) : Option Operand := match o.guard, o.op with | none, .move x => some x | _, _ => none
def movesA (ops : Array Oper) : List Nat → Act → Act
  | [], a => a
  | i :: r, a => movesA ops r (match ops[i]? with | some o => (match moveOf o with | some x => a.put o.dst (a.eval x) | none => a) | none => a)
def takeB (md : Region.Mode) (ops : Array Oper) : List Nat → Array Bool → Bool
  | [], _ => true
  | i :: r, listed => (Region.ready md ops listed).contains i && Region.free md ops listed i && ((ops[i]?).bind moveOf).isSome && takeB md ops r (listed.setIfInBounds i true)

theorem moves_first {Q : Exit → Act → World → Prop} {S : World → Prop} {c fuel : Nat} (hsel : ∀ (j : Nat) (o : Oper) cs b, ops[j]? = some o → o.op ≠ .select cs b)
    (hQ : ∀ ch a d v w, Q (.panic ch) (a.put d v) w → Q (.panic ch) a w) (hSw : S w) : ∀ (is : List Nat) (listed : Array Bool) (a : Act), takeB md ops is listed = true → c ∉ is →
      wpAnyU P md ops Q S c fuel (setAll listed is) (movesA ops is a) w → wpAnyU P md ops Q S c (is.length + fuel) listed a w
  | [], listed, a, _, _, h => by simpa [setAll, movesA] using h
  | i :: r, listed, a, hB, hc, h => by
    simp only [takeB, Bool.and_eq_true] at hB
    obtain ⟨⟨⟨hr, hf⟩, hm⟩, hB'⟩ := hB
    obtain ⟨x, hx⟩ := Option.isSome_iff_exists.1 hm
    obtain ⟨o, ho, hox⟩ := Option.bind_eq_some_iff.1 hx
    have hy : Yields P ops o (a.eval x) a := by
      unfold moveOf at hox
      cases hg : o.guard with
      | some g => rw [hg] at hox; simp at hox
      | none =>
        rw [hg] at hox
        cases hop : o.op <;> rw [hop] at hox <;> simp at hox
        subst hox
        refine Or.inl ⟨by simp [Region.wanted, hg], fun w' => ?_⟩
        simp [execOp, hop, Sem.run_pure]
    rw [show (i :: r).length + fuel = (r.length + fuel) + 1 by simp; omega]
    refine moveU ho hsel (fun ch a w => hQ ch a o.dst _ w) (fun e => hc (by simp [e])) _ listed a w (Region.free_spec ho hf) (by simpa using hr) hy (fun _ => hSw) ?_
    refine moves_first hsel hQ hSw r _ _ hB' (fun h' => hc (by simp [h'])) ?_
    have : movesA ops (i :: r) a = movesA ops r (a.put o.dst (a.eval x)) := by simp [movesA, ho, hox]
    rw [this] at h
    exact h

/-! ### reads of cells that S names, which number c alone waits for -/
def lateB (md : Region.Mode) (ops : Array Oper) (c : Nat) : List Nat → Array Bool → Bool
  | [], _ => true
  | i :: r, listed => (Region.ready md ops listed).contains i && Region.free md ops listed i && (ops[i]?).isSome && decide (c ≠ i) && waitsT md ops ops.size c i && lateB md ops c r (listed.setIfInBounds i true)
def takesP (P : Program) (ops : Array Oper) (S : World → Prop) (K : Act → Prop) : List Oper → Act → Prop
  | [], a => K a
  | o :: r, a => ∃ v, (∀ w, S w → Region.wanted o (yielded ops a.tmps) = true ∧ (execOp a.eval o).run P w = .ok (.value v) w) ∧ takesP P ops S K r (a.put o.dst v)

theorem late_first {Q : Exit → Act → World → Prop} {S : World → Prop} {c fuel : Nat} {K : Act → Prop} (hsel : ∀ (j : Nat) (o : Oper) cs b, ops[j]? = some o → o.op ≠ .select cs b)
    (hQ : ∀ ch a d v w, Q (.panic ch) (a.put d v) w → Q (.panic ch) a w) (hSw : S w) : ∀ (is : List Nat) (listed : Array Bool) (a : Act), lateB md ops c is listed = true → HeadInv md ops ops.size listed →
      (∀ a, K a → wpAnyU P md ops Q S c fuel (setAll listed is) a w) → takesP P ops S K (rowsOf ops is) a → wpAnyU P md ops Q S c (is.length + fuel) listed a w
  | [], listed, a, _, _, hK, h => by simpa [setAll] using hK a h
  | i :: r, listed, a, hB, inv, hK, h => by
    simp only [lateB, Bool.and_eq_true, decide_eq_true_eq] at hB
    obtain ⟨⟨⟨⟨⟨hr, hf⟩, hm⟩, hc⟩, hcw⟩, hB'⟩ := hB
    obtain ⟨o, ho⟩ := Option.isSome_iff_exists.1 hm
    have hrows : rowsOf ops (i :: r) = o :: rowsOf ops r := by simp [rowsOf, ho]
    rw [hrows] at h
    obtain ⟨v, hv, h'⟩ := h
    rw [show (i :: r).length + fuel = (r.length + fuel) + 1 by simp; omega]
    refine lateU ho hsel (fun ch a w => hQ ch a o.dst _ w) hc hcw _ listed a w (Region.free_spec ho hf) (by simpa using hr) (Or.inl ⟨(hv w hSw).1, fun w' hw' => (hv w' hw').2⟩) inv hSw ?_
    exact late_first hsel hQ hSw r _ _ hB' (inv.set (by simpa using hr) (Array.getElem?_eq_some_iff.1 ho).1) (fun a ha => hK a ha) h'

/-- The tail, one operation behind the other; S behind each of the first p. -/
def chainS (P : Program) (ops : Array Oper) (Q : Exit → Act → World → Prop) (S : World → Prop) : Nat → List Oper → Act → World → Prop
  | 0, l, a, w => ∀ K : Exit → Act → World → Prop, (∀ a w, Q .normal a w → K .normal a w) → wpList P ops K l a w
  | _ + 1, [], a, w => Q .normal a w
  | p + 1, o :: r, a, w => ∀ K : Exit → Act → World → Prop, (∀ a' w', S w' → chainS P ops Q S p r a' w' → K .normal a' w') → wpList P ops K [o] a w

/-- Q at a normal end, and no other end. -/
def OnlyNormal (Q : Exit → Act → World → Prop) : Exit → Act → World → Prop
  | .normal, a, w => Q .normal a w
  | _, _, _ => False
theorem OnlyNormal.lets {Q : Exit → Act → World → Prop} : ¬ LetsOut (OnlyNormal Q) := fun ⟨_, _, h⟩ => h
theorem OnlyNormal.imp {Q : Exit → Act → World → Prop} : ∀ (e : Exit) (a : Act) (w : World), OnlyNormal Q e a w → Q e a w := fun e a w h => by
  cases e <;> first | exact h | exact (h : False).elim

theorem getD_listed {listed : Array Bool} {c k : Nat} (h : (listed.setIfInBounds k true).getD c true = false) (hc : listed.getD c true = true ∨ c = k) : False := by
  rcases hc with hc | rfl
  · by_cases hk : k = c
    · subst hk
      rcases Nat.lt_or_ge k listed.size with h' | h'
      · simp [h'] at h
      · simp [Array.getElem?_eq_none h'] at h
    · rw [getD_set_ne true hk, hc] at h; cases h
  · rcases Nat.lt_or_ge c listed.size with h' | h'
    · simp [h'] at h
    · simp [Array.getElem?_eq_none h'] at h

theorem wpAnyU_of_seq {Q : Exit → Act → World → Prop} {S : World → Prop} {c : Nat} : ∀ (l : List Oper) (k : Nat) (listed : Array Bool) (a : Act) (w : World), (∀ j, l[j]? = ops[k + j]?) →
    Region.seqB md ops l.length k listed = true → ((∀ w, S w) ∨ listed.getD c true = true ∨ c = k) → wpList P ops Q l a w → wpAnyU P md ops Q S c l.length listed a w
  | [], _, _, _, _, _, hB, _, h => ⟨by simpa [Region.seqB] using hB, h⟩
  | o :: l, k, listed, a, w, hl, hB, hc, h => by
    have h0 : ops[k]? = some o := by simpa using (hl 0).symm
    simp only [List.length_cons, Region.seqB, Bool.and_eq_true, decide_eq_true_eq] at hB
    refine ⟨fun h1 => (by rw [hB.1] at h1; cases h1), fun i hi => ?_⟩
    rw [hB.1] at hi
    obtain rfl : i = k := by simpa using hi
    have hw : wpOp P ops Q i (wpList P ops Q l) a w := by unfold wpOp; simp only [h0]; exact h
    refine wpOp_mono (fun a' w' h' => ⟨fun hx => ?_, wpAnyU_of_seq l (i + 1) _ a' w' (fun j => by have := hl (j + 1); simpa [Nat.add_assoc, Nat.add_comm 1 j] using this) hB.2 ?_ h'⟩) hw
    · rcases hc with hc | hc
      · exact hc w'
      · exact (getD_listed hx hc).elim
    · rcases hc with hc | hc
      · exact .inl hc
      · refine .inr (.inl ?_)
        cases hx : (listed.setIfInBounds i true).getD c true with
        | true => rfl
        | false => exact (getD_listed hx hc).elim

theorem wpOp_congrK {Q Q' : Exit → Act → World → Prop} {k : Nat} {o : Oper} {K : Act → World → Prop} {a : Act} {w : World} (h0 : ops[k]? = some o) (h : wpList P ops Q' [o] a w) (hK : ∀ a w, Q' .normal a w → K a w)
    (hQ : ∀ e a w, e ≠ .normal → Q' e a w → False) : wpOp P ops Q k K a w := by
  have hl : ¬ LetsOut Q' := fun ⟨a, w, h⟩ => hQ _ a w (fun e => by cases e) h
  unfold wpOp
  simp only [h0]
  simp only [wpList] at h
  split
  · rename_i hw
    rw [if_pos hw] at h
    rcases h with h | h
    · refine .inl ?_
      unfold Oper.wp at *
      generalize (execOp a.eval o).run P w = r at *
      cases r with
      | ok x w' =>
        cases x <;> simp only [Oper.upon] at h ⊢ <;>
          first
            | exact hK _ _ h
            | exact Calls.mono h (fun e w'' he => by cases e <;> first | exact hK _ _ he | exact (hQ _ _ _ (fun e => by cases e) he).elim | exact (hl he).elim)
            | exact Rows.mono h (fun _ _ he => hK _ _ he)
      | halt x w' => cases x <;> simp only [Oper.upon] at h ⊢ <;> first | exact h | exact (hQ _ _ _ (fun e => by cases e) h).elim | exact (hl h).elim
    · exact absurd h.2 hl
  · rename_i hw
    rw [if_neg hw] at h
    exact hK _ _ h

theorem wpAnyU_of_chain {Q : Exit → Act → World → Prop} {S : World → Prop} {c : Nat} : ∀ (p : Nat) (l : List Oper) (k : Nat) (listed : Array Bool) (a : Act) (w : World), (∀ j, l[j]? = ops[k + j]?) →
    Region.seqB md ops l.length k listed = true → ((∀ w, S w) ∨ listed.getD c true = true ∨ c = k + p) → chainS P ops Q S p l a w → wpAnyU P md ops (OnlyNormal Q) S c l.length listed a w
  | 0, l, k, listed, a, w, hl, hB, hc, h => wpAnyU_of_seq l k listed a w hl hB (by simpa using hc) (h _ fun _ _ h => h)
  | _ + 1, [], _, _, _, _, _, hB, _, h => ⟨by simpa [Region.seqB] using hB, h⟩
  | p + 1, o :: l, k, listed, a, w, hl, hB, hc, h => by
    have h0 : ops[k]? = some o := by simpa using (hl 0).symm
    simp only [List.length_cons, Region.seqB, Bool.and_eq_true, decide_eq_true_eq] at hB
    refine ⟨fun h1 => (by rw [hB.1] at h1; cases h1), fun i hi => ?_⟩
    rw [hB.1] at hi
    obtain rfl : i = k := by simpa using hi
    refine wpOp_congrK (Q' := OnlyNormal fun e a w => e = .normal ∧ S w ∧ chainS P ops Q S p l a w) h0 (h _ fun a' w' h1 h2 => ⟨rfl, h1, h2⟩) (fun a' w' h' => ⟨fun _ => h'.2.1, wpAnyU_of_chain p l (i + 1) _ a' w' (fun j => by have := hl (j + 1); simpa [Nat.add_assoc, Nat.add_comm 1 j] using this) hB.2 ?_ h'.2.2⟩)
      (fun e a w he h => by cases e <;> first | exact he rfl | exact h)
    rcases hc with hc | hc | hc
    · exact .inl hc
    · refine .inr (.inl ?_)
      cases hx : (listed.setIfInBounds i true).getD c true with
      | true => rfl
      | false => exact (getD_listed hx (.inl hc)).elim
    · exact .inr (.inr (by omega))

def closedB (md : Region.Mode) (ops : Array Oper) (L : Array Bool) : Bool :=
  (List.range ops.size).all fun j => !L.getD j false || match ops[j]? with
    | some o => o.after.all fun e => !Region.binds md e || L.getD e.on false
    | none => true

def planB (md : Region.Mode) (ops : Array Oper) (pre late : List Nat) (n c : Nat) : Bool :=
  let L0 := setAll (Array.replicate ops.size false) pre
  let L1 := setAll L0 late
  Region.noSelect ops && decide (n < ops.size) && takeB md ops pre (Array.replicate ops.size false) && closedB md ops L1 &&
  ((List.range ops.size).all fun t => decide (t < n) || !L1.getD t true) && sinkFromB md ops n L1 && Region.chainB md ops n && pairB md ops n && depsB md ops n &&
  Region.seqB md ops (ops.size - n) n (fullHead n ops.size) && decide (pre.length + (late.length + ((todo n L1).length + (ops.size - n))) = ops.size) && lateB md ops c late L0 && decide (c ∉ pre) && closedB md ops L0

theorem setAll_size (is : List Nat) : ∀ L : Array Bool, (setAll L is).size = L.size := by
  induction is with
  | nil => intro L; rfl
  | cons i r ih => intro L; show (setAll (L.setIfInBounds i true) r).size = _; rw [ih]; simp

def maskRows : List Bool → List Oper → List Oper
  | true :: m, o :: l => o :: maskRows m l
  | false :: m, _ :: l => maskRows m l
  | _, _ => []

theorem plan_any {Q : Exit → Act → World → Prop} {a : Act} {l : List Oper} (S : World → Prop) (pre late : List Nat) (n p : Nat) (hp : late = [] ∧ (∀ w, S w) ∨ True)
    (hB : planB .any l.toArray pre late n (n + p) = true) (hSw : S w)
    (h : takesP P l.toArray S (fun a1 => wpStill P l.toArray w (fun a' => chainS P l.toArray Q S p (l.drop n) a' w) (rowsOf l.toArray (todo n (setAll (setAll (Array.replicate l.toArray.size false) pre) late))) a1)
      (rowsOf l.toArray late) (movesA l.toArray pre a)) :
    wpAny P .any l.toArray (OnlyNormal Q) l.toArray.size (Array.replicate l.toArray.size false) a w := by
  clear hp
  simp only [planB, Bool.and_eq_true, decide_eq_true_eq] at hB
  obtain ⟨⟨⟨⟨⟨⟨⟨⟨⟨⟨⟨⟨⟨b1, b2⟩, b3⟩, b4⟩, b5⟩, b6⟩, b7⟩, b8⟩, b9⟩, b10⟩, b11⟩, b12⟩, b13⟩, b14⟩ := hB
  have hsel := Region.noSelect_spec b1
  have inv : HeadInv .any l.toArray n (setAll (setAll (Array.replicate l.toArray.size false) pre) late) := by
    refine ⟨by rw [setAll_size, setAll_size]; simp, fun j oj hj hl e he hb => ?_, fun t ht1 ht2 => ?_⟩
    · have h1 := List.all_eq_true.1 b4 j (List.mem_range.2 (Array.getElem?_eq_some_iff.1 hj).1)
      simp only [hl, Bool.not_true, Bool.false_or, hj] at h1
      have h2 := Array.all_eq_true_iff_forall_mem.1 h1 e he
      simpa only [hb, Bool.not_true, Bool.false_or] using h2
    · have h1 := List.all_eq_true.1 b5 t (List.mem_range.2 ht2)
      simp only [Bool.or_eq_true, decide_eq_true_eq, Bool.not_eq_true'] at h1
      rcases h1 with h1 | h1
      · omega
      · exact h1
  have inv0 : HeadInv .any l.toArray l.toArray.size (setAll (Array.replicate l.toArray.size false) pre) := by
    refine ⟨by rw [setAll_size]; simp, fun j oj hj hl e he hb => ?_, fun t ht1 ht2 => by omega⟩
    have h1 := List.all_eq_true.1 b14 j (List.mem_range.2 (Array.getElem?_eq_some_iff.1 hj).1)
    simp only [hl, Bool.not_true, Bool.false_or, hj] at h1
    have h2 := Array.all_eq_true_iff_forall_mem.1 h1 e he
    simpa only [hb, Bool.not_true, Bool.false_or] using h2
  have hdl : (l.drop n).length = l.toArray.size - n := by simp
  have H0 : ∀ a1, wpStill P l.toArray w (fun a' => chainS P l.toArray Q S p (l.drop n) a' w) (rowsOf l.toArray (todo n (setAll (setAll (Array.replicate l.toArray.size false) pre) late))) a1 → _ := fun a1 h1 =>
    head_any (md := .any) (g := l.toArray.size - n) (c := n + p) (Q := OnlyNormal Q) hSw hsel b6 b7 b8 b9 b2 (by rw [setAll_size, setAll_size]; simp) (fun a' hL => by
      have h1 := wpAnyU_of_chain (md := .any) (S := S) (c := n + p) p (l.drop n) n (fullHead n l.toArray.size) a' w (fun j => by simp [List.getElem?_drop]) (by rw [hdl]; exact b10) (.inr (.inr rfl)) hL
      rwa [hdl] at h1) _ _ a1 inv (fun i hi => hi) rfl h1
  have hQ : ∀ ch a d v w, OnlyNormal Q (.panic ch) (a.put d v) w → OnlyNormal Q (.panic ch) a w := fun _ _ _ _ _ h => h
  have H1 := late_first (md := .any) (c := n + p) hsel hQ hSw late _ _ b12 inv0 (fun a1 ha1 => H0 a1 ha1) h
  have H2 := moves_first hsel hQ hSw pre _ a b3 b13 H1
  rw [b11] at H2
  exact wpAnyU_drop _ _ _ _ H2

def planRows (l : List Oper) (pre late : List Nat) (n : Nat) (m ml : List Bool) : Prop :=
  rowsOf l.toArray (todo n (setAll (setAll (Array.replicate l.toArray.size false) pre) late)) = maskRows m l ∧ rowsOf l.toArray late = maskRows ml l

/-- THE LAW: the moves 'pre' first, then the other operations of the first n in the order of the text (each reads alone), then the rest as a plain list. -/
theorem wp_region_plan {id : Nat} {Q : Exit → Act → World → Prop} {a : Act} {l : List Oper} (pre : List Nat) (m : List Bool) (n : Nat) (hm : P.follows .mixedOrders = true)
    (hB : planB .any l.toArray pre [] n (n + 0) = true) (hR : rowsOf l.toArray (todo n (setAll (Array.replicate l.toArray.size false) pre)) = maskRows m l)
    (h : wpStill P l.toArray w.drew (fun a' => ∀ K : Exit → Act → World → Prop, (∀ a w, Q .normal a w → K .normal a w) → wpList P l.toArray K (l.drop n) a' w.drew) (maskRows m l) (movesA l.toArray pre a)) :
    (Code.region id l.toArray true).wp P Q a w := by
  rw [← hR] at h
  refine Code.wp_mono OnlyNormal.imp (wp_region_any hm ?_)
  exact plan_any (Q := Q) (fun _ => True) pre [] n 0 (.inr trivial) hB trivial h

/-- Likewise with reads 'late' that number n + p alone waits for, of cells that S names; S is to be shown behind each of the first p operations of the tail. -/
theorem wp_region_late {id : Nat} {Q : Exit → Act → World → Prop} {a : Act} {l : List Oper} (S : World → Prop) (pre late : List Nat) (m ml : List Bool) (n p : Nat) (hm : P.follows .mixedOrders = true)
    (hB : planB .any l.toArray pre late n (n + p) = true) (hR : planRows l pre late n m ml) (hSw : S w.drew)
    (h : takesP P l.toArray S (fun a1 => wpStill P l.toArray w.drew (fun a' => chainS P l.toArray Q S p (l.drop n) a' w.drew) (maskRows m l) a1) (maskRows ml l) (movesA l.toArray pre a)) :
    (Code.region id l.toArray true).wp P Q a w := by
  obtain ⟨h1, h2⟩ := hR
  rw [← h1, ← h2] at h
  exact Code.wp_mono OnlyNormal.imp (wp_region_any hm (plan_any (Q := Q) S pre late n p (.inr trivial) hB hSw h))

/-! ### the same inside a round of a loop over a function -/
theorem rowsIn_of {l0 n : Nat} {row : String} {args : Array Value} {R : Value → World → Prop} (h : Rows P row args w R) : RowsIn (Fence.wide.inRound l0) n P row args w R := fun c cs _ =>
  let ⟨v, w', r, s⟩ := h c cs
  ⟨v, w', r, stepsIn_wide.2 s⟩
def noDefer (ops : Array Oper) : Bool := ops.all fun o => match o.op with | .defer _ => false | _ => true

theorem Oper_in {l0 n : Nat} {Q : Exit → Act → World → Prop} {o : Oper} {a : Act} {K : Act → World → Prop} (hd : ∀ c, o.op ≠ .defer c) (h : o.wp P a w K (OnlyNormal Q)) :
    o.wpIn (Fence.wide.inRound l0) n P a w K Q := by
  refine ⟨fun _ _ => trivial, ?_⟩
  rw [Oper.semAt_eq _ _ _ hd]
  unfold Oper.wp at h
  generalize (execOp a.eval o).run P w = r at *
  have hdep : (Fence.wide.inRound l0).depth.isSome = true → 1 ≤ n := fun h => by simp [Fence.wide] at h
  cases r with
  | ok x w' =>
    cases x <;> simp only [Oper.upon, Oper.uponIn] at h ⊢ <;>
      first
        | exact h
        | exact ⟨hdep, CallsIn.inRound l0 (callsIn_wide.2 (Calls.mono h (fun e w'' he => by cases e <;> first | exact he | exact (he : False).elim | exact (OnlyNormal.lets he).elim)))⟩
        | exact ⟨hdep, rowsIn_of h⟩
  | halt x w' => cases x <;> simp only [Oper.upon, Oper.uponIn] at h ⊢ <;> first | exact h | exact (h : False).elim | exact (OnlyNormal.lets h).elim

theorem wpOps_in {l0 n : Nat} {Q : Exit → Act → World → Prop} (hd : noDefer ops = true) : ∀ (σ : List Nat) (a : Act) (w : World), wpOps P ops (OnlyNormal Q) σ a w → wpOpsIn (Fence.wide.inRound l0) n P ops Q σ a w
  | [], _, _, h => h
  | i :: r, a, w, h => by
    unfold wpOps at h
    unfold wpOpsIn
    cases ho : ops[i]? with
    | none => simp only [ho] at h ⊢; exact wpOps_in hd r a w h
    | some o =>
      simp only [ho] at h ⊢
      have hdo : ∀ c, o.op ≠ .defer c := fun c e => by
        have := Array.all_eq_true_iff_forall_mem.1 hd o (Array.mem_of_getElem? ho)
        simp [e] at this
      split
      · rename_i hw
        rw [if_pos hw] at h
        rcases h with h | h
        · exact Oper.wpIn_mono (fun a w h => wpOps_in hd r a w h) (Oper_in hdo h)
        · exact (OnlyNormal.lets h.2).elim
      · rename_i hw
        rw [if_neg hw] at h
        exact ⟨fun _ _ => trivial, wpOps_in hd r _ w h⟩

theorem wpIn_region_late {id l0 k : Nat} {Q : Exit → Act → World → Prop} {a : Act} {l : List Oper} (S : World → Prop) (pre late : List Nat) (m ml : List Bool) (n p : Nat) (hm : P.follows .mixedOrders = true)
    (hB : planB .any l.toArray pre late n (n + p) = true) (hd : noDefer l.toArray = true) (hR : planRows l pre late n m ml) (hSw : S w.drew)
    (h : takesP P l.toArray S (fun a1 => wpStill P l.toArray w.drew (fun a' => chainS P l.toArray Q S p (l.drop n) a' w.drew) (maskRows m l) a1) (maskRows ml l) (movesA l.toArray pre a)) :
    (Code.region id l.toArray true).wpIn (Fence.wide.inRound l0) k P Q a w := by
  obtain ⟨h1, h2⟩ := hR
  rw [← h1, ← h2] at h
  refine wpIn_region_draw fun t => wpOps_in hd _ _ _ ?_
  simp only [Region.schedule, hm, Bool.true_or, if_true]
  exact wpAny_sound l.toArray.size t _ a _ (plan_any (Q := Q) S pre late n p (.inr trivial) hB hSw h)
/-- A plain region in a round may be walked by the plain words. -/
theorem wpIn_region_of {id l0 k : Nat} {Q : Exit → Act → World → Prop} {a : Act} (hd : noDefer ops = true) (h : wpOps P ops (OnlyNormal Q) (List.range ops.size) a w) :
    (Code.region id ops false).wpIn (Fence.wide.inRound l0) k P Q a w := wpIn_region (wpOps_in hd _ _ _ h)
end
end Go.Proofs.Ytnknfmjpkphbpaa
/- What many texts lean on: bytes owned and read as a text; shapes of owned rows; worlds that grew. -/
namespace Go.Proofs.Ytnknfmjpkphbpaa
open Go.ChangeShapes Go.WideShapes Go.ChangeAt Go.RowKit
set_option linter.unusedVariables false

theorem info5 : (Try.prog.info? 5).map (fun i => (i.zero, i.size, i.bytes)) = some (some (.int .u8 0), 1, 1) := by kernel_rfl
theorem run_string_own {P : Program} {w : World} {base n : Nat} {v : Value} {xs : List Int} (src e dst : TypeId) (hs : P.underlying src = some (.slice e)) (he : P.underlying e = some (.int .u8)) (hd : P.underlying dst = some .string)
    (hown : w.ownsRow base e 1 v n (xs.map (Value.int .u8))) : (convert src dst v).run P w = .ok (.string (strOfNums xs)) w := by
  have hn : xs.length = n := by have := hown.1; simpa using this
  rcases hown.2 with ⟨rfl, h0⟩ | ⟨g, cap, cur, rfl, _⟩
  · have hx : xs = [] := List.length_eq_zero_iff.1 (by omega)
    subst hx
    exact run_convert_bytes_nil w src e hs he 0 0 dst hd
  · refine run_convert_bytes_arg w src e hs he g 0 n cap xs hn (fun i hi => ?_) dst hd
    rw [Nat.zero_add, hown.cellAt i (by omega)]
    simp [show i < xs.length by omega]

theorem below_drewN' {B : Nat} {a w : World} (h : Below B a w) (n : Nat) : Below B a (w.drewN n) := h.trans ⟨rfl, rfl, rfl, Nat.le_refl _, fun _ _ => rfl⟩
theorem ownsRow_shape {w : World} {base n : Nat} {e : TypeId} {v : Value} {xs : List Value} (h : w.ownsRow base e 1 v n xs) :
    (v = .slice none 0 0 ∧ n = 0) ∨ ∃ g cap, v = .slice (some ⟨g, 0, none⟩) n cap ∧ n ≤ cap ∧ cap ≤ maxLen ∧ base ≤ g ∧ g < w.heap.size ∧ w.ownsRow base e 1 (.slice (some ⟨g, 0, none⟩) n cap) n xs := by
  rcases h.2 with h1 | ⟨g, cap, cur, rfl, h2, h3, h4, h5, _⟩
  · exact .inl h1
  · exact .inr ⟨g, cap, rfl, h4, h5, h2, (Array.getElem?_eq_some_iff.1 h3).1, h⟩

theorem grown_of_below' {A B : World} (h : Below A.heap.size A B) (row : Option Nat) : A.grownBy B row := ⟨h.os, h.tape, h.output, h.size, fun k hk _ => h.block k hk⟩
theorem grown_trans {A B C : World} {row : Option Nat} (h : A.grownBy B row) (k : B.grownBy C row) : A.grownBy C row :=
  ⟨k.os.trans h.os, k.tape.trans h.tape, k.output.trans h.output, Nat.le_trans h.size k.size, fun j hj hr => (k.block j (Nat.lt_of_lt_of_le hj h.size) hr).trans (h.block j hj hr)⟩
theorem grown_refl (A : World) (row : Option Nat) : A.grownBy A row := ⟨rfl, rfl, rfl, Nat.le_refl _, fun _ _ _ => rfl⟩

end Go.Proofs.Ytnknfmjpkphbpaa
/- Sums of bytes (32 bits), as numbers: put together by or (exclusively) they go along; what a bit turned does; up to three bits, and bits in a row of 32. -/
namespace Go.Proofs.Ytnknfmjpkphbpaa
set_option linter.unusedVariables false

def poly : Nat := 3988292384
/-- one bit on -/
def tS (n : Nat) : Nat := if n % 2 = 1 then n / 2 ^^^ poly else n / 2
def tN : Nat → Nat → Nat
  | 0, n => n
  | k + 1, n => tN k (tS n)
theorem xor_div2 (a b : Nat) : (a ^^^ b) / 2 = a / 2 ^^^ b / 2 := by
  have := Nat.shiftRight_xor_distrib (a := a) (b := b) (i := 1)
  simpa [Nat.shiftRight_eq_div_pow] using this
theorem xor_mod2 (a b : Nat) : (a ^^^ b) % 2 = (a % 2 + b % 2) % 2 := by
  have h := Nat.xor_mod_two_eq_one (a := a) (b := b)
  omega
theorem xor_self_cancel (a b : Nat) : a ^^^ b ^^^ b = a := by rw [Nat.xor_assoc, Nat.xor_self, Nat.xor_zero]
theorem tS_xor (a b : Nat) : tS (a ^^^ b) = tS a ^^^ tS b := by
  have h := xor_mod2 a b
  have hd := xor_div2 a b
  unfold tS
  rcases (by omega : a % 2 = 0 ∨ a % 2 = 1) with ha | ha <;> rcases (by omega : b % 2 = 0 ∨ b % 2 = 1) with hb | hb
  · rw [if_neg (by omega), if_neg (by omega), if_neg (by omega), hd]
  · rw [if_pos (by omega), if_neg (by omega), if_pos (by omega), hd, Nat.xor_assoc]
  · rw [if_pos (by omega), if_pos (by omega), if_neg (by omega), hd]
    rw [Nat.xor_assoc, Nat.xor_comm (b / 2) poly, ← Nat.xor_assoc]
  · rw [if_neg (by omega), if_pos (by omega), if_pos (by omega), hd]
    rw [Nat.xor_assoc (a / 2), Nat.xor_comm poly, Nat.xor_assoc (b / 2), Nat.xor_self, Nat.xor_zero]
theorem tS_zero : tS 0 = 0 := rfl
theorem tN_xor : ∀ (k a b : Nat), tN k (a ^^^ b) = tN k a ^^^ tN k b
  | 0, _, _ => rfl
  | k + 1, a, b => by simp only [tN, tS_xor, tN_xor k]
theorem tN_zero : ∀ k, tN k 0 = 0
  | 0 => rfl
  | k + 1 => by simp only [tN, tS_zero, tN_zero k]
theorem tN_add : ∀ (j k n : Nat), tN (j + k) n = tN k (tN j n)
  | 0, k, n => by simp [tN]
  | j + 1, k, n => by rw [Nat.add_right_comm]; exact tN_add j k (tS n)
theorem tS_lt (n : Nat) (h : n < 4294967296) : tS n < 4294967296 := by
  unfold tS
  split
  · exact Nat.xor_lt_two_pow (n := 32) (by omega) (by decide)
  · omega
theorem tN_lt : ∀ (k n : Nat), n < 4294967296 → tN k n < 4294967296
  | 0, _, h => h
  | k + 1, n, h => tN_lt k _ (tS_lt n h)
/-- nothing but nothing becomes nothing -/
theorem tS_ne (n : Nat) (h : n < 4294967296) (h0 : n ≠ 0) : tS n ≠ 0 := by
  unfold tS
  split
  · intro e
    have : n / 2 = poly := by
      have := congrArg (· ^^^ poly) e
      simpa [Nat.xor_assoc] using this
    unfold poly at this; omega
  · omega
theorem tN_ne : ∀ (k n : Nat), n < 4294967296 → n ≠ 0 → tN k n ≠ 0
  | 0, _, _, h0 => h0
  | k + 1, n, h, h0 => tN_ne k _ (tS_lt n h) (tS_ne n h h0)

/-- the sum's number behind some bytes -/
def crcF (x : Nat) (l : List UInt8) : Nat := l.foldl (fun x c => tN 8 (x ^^^ c.toNat)) x
theorem crcF_append (x : Nat) (l r : List UInt8) : crcF x (l ++ r) = crcF (crcF x l) r := by simp [crcF, List.foldl_append]
theorem crcF_lt : ∀ (l : List UInt8) (x : Nat), x < 4294967296 → crcF x l < 4294967296
  | [], _, h => h
  | c :: r, x, h => crcF_lt r _ (tN_lt 8 _ (Nat.xor_lt_two_pow (n := 32) h (by have := c.toNat_lt; omega)))
def xorL (a b : List UInt8) : List UInt8 := List.zipWith (· ^^^ ·) a b
theorem crcF_xor : ∀ (a b : List UInt8) (x y : Nat), a.length = b.length → crcF (x ^^^ y) (xorL a b) = crcF x a ^^^ crcF y b
  | [], [], _, _, _ => rfl
  | [], _ :: _, _, _, h => by simp at h
  | _ :: _, [], _, _, h => by simp at h
  | c :: r, d :: s, x, y, h => by
    have ih := crcF_xor r s (tN 8 (x ^^^ c.toNat)) (tN 8 (y ^^^ d.toNat)) (by simpa using h)
    show crcF (tN 8 (x ^^^ y ^^^ (c ^^^ d).toNat)) (xorL r s) = _
    have e : x ^^^ y ^^^ (c ^^^ d).toNat = (x ^^^ c.toNat) ^^^ (y ^^^ d.toNat) := by
      rw [UInt8.toNat_xor, Nat.xor_assoc x y, ← Nat.xor_assoc y, Nat.xor_comm y c.toNat, Nat.xor_assoc c.toNat, ← Nat.xor_assoc x]
    rw [e, tN_xor]
    exact ih
/-- of one list alone -/
theorem crcF_start : ∀ (l : List UInt8) (x y : Nat), crcF (x ^^^ y) l = crcF x l ^^^ tN (8 * l.length) y
  | [], _, _ => rfl
  | c :: r, x, y => by
    show crcF (tN 8 (x ^^^ y ^^^ c.toNat)) r = crcF (tN 8 (x ^^^ c.toNat)) r ^^^ _
    rw [Nat.xor_assoc, Nat.xor_comm y, ← Nat.xor_assoc, tN_xor, crcF_start r, show 8 * (c :: r).length = 8 + 8 * r.length by simp; omega, tN_add]

/-- a bit turned, of a list -/
def flipB (l : List UInt8) (p : Nat) : List UInt8 := if p / 8 < l.length then l.set (p / 8) (l[p / 8]?.getD 0 ^^^ UInt8.ofNat (2 ^ (p % 8))) else l
theorem flipB_len (l : List UInt8) (p : Nat) : (flipB l p).length = l.length := by unfold flipB; split <;> simp
theorem bit8 : ∀ k : Fin 8, tN 8 (2 ^ k.val) = tN (8 - k.val) 1 := by decide +kernel
theorem bit8_nat : ∀ k : Fin 8, (UInt8.ofNat (2 ^ k.val)).toNat = 2 ^ k.val := by decide
theorem crcF_flip : ∀ (l : List UInt8) (p x : Nat), p < 8 * l.length → crcF x (flipB l p) = crcF x l ^^^ tN (8 * l.length - p) 1
  | [], p, _, h => by simp at h
  | c :: r, p, x, h => by
    by_cases hp : p < 8
    · have e0 : p / 8 = 0 := by omega
      have e1 : p % 8 = p := by omega
      have e2 : flipB (c :: r) p = (c ^^^ UInt8.ofNat (2 ^ p)) :: r := by unfold flipB; simp [e0, e1]
      have b1 := bit8 ⟨p, hp⟩
      have b2 := bit8_nat ⟨p, hp⟩
      simp only at b1 b2
      rw [e2]
      show crcF (tN 8 (x ^^^ (c ^^^ UInt8.ofNat (2 ^ p)).toNat)) r = crcF (tN 8 (x ^^^ c.toNat)) r ^^^ _
      rw [UInt8.toNat_xor, b2, ← Nat.xor_assoc, tN_xor, b1, crcF_start, ← tN_add, show 8 - p + 8 * r.length = 8 * (c :: r).length - p by simp; omega]
    · have ih := crcF_flip r (p - 8) (tN 8 (x ^^^ c.toNat)) (by simp at h; omega)
      have e0 : p / 8 = (p - 8) / 8 + 1 := by omega
      have e1 : p % 8 = (p - 8) % 8 := by omega
      have e2 : flipB (c :: r) p = c :: flipB r (p - 8) := by
        unfold flipB
        rw [e0, e1]
        have : (p - 8) / 8 < r.length := by simp at h; omega
        simp [this]
      rw [e2]
      show crcF (tN 8 (x ^^^ c.toNat)) (flipB r (p - 8)) = _
      rw [ih, show 8 * r.length - (p - 8) = 8 * (c :: r).length - p by simp; omega]
      rfl

/-! ### seals -/
theorem tS_split (w : Nat) : tS w = tS (w % 2) ^^^ w / 2 := by
  unfold tS
  rcases (by omega : w % 2 = 0 ∨ w % 2 = 1) with h | h <;> rw [h] <;> simp [Nat.xor_comm]
theorem tN_step (k v : Nat) : tN (k + 1) v = tN (k + 1) (v % 2) ^^^ tN k (v / 2) := by
  show tN k (tS v) = tN k (tS (v % 2)) ^^^ _
  rw [tS_split v, tN_xor]
theorem tN_split : ∀ (k w : Nat), tN k w = tN k (w % 2 ^ k) ^^^ w / 2 ^ k
  | 0, w => by simp [tN, Nat.mod_one]
  | k + 1, w => by
    have h1 : w % 2 ^ (k + 1) % 2 = w % 2 := by
      rw [Nat.pow_succ]; exact Nat.mod_mul_left_mod w (2 ^ k) 2
    have h2 : w % 2 ^ (k + 1) / 2 = w / 2 % 2 ^ k := by
      rw [Nat.pow_succ, Nat.mul_comm, Nat.mod_mul_right_div_self]
    have h3 : w / 2 ^ (k + 1) = w / 2 / 2 ^ k := by
      rw [Nat.pow_succ, Nat.mul_comm, Nat.div_div_eq_div_mul]
    rw [tN_step k w, tN_step k (w % 2 ^ (k + 1)), h1, h2, h3, tN_split k (w / 2), Nat.xor_assoc]
def leB : Nat → Nat → List UInt8
  | 0, _ => []
  | k + 1, w => UInt8.ofNat (w % 256) :: leB k (w / 256)
theorem leB_len : ∀ (k w : Nat), (leB k w).length = k
  | 0, _ => rfl
  | k + 1, w => by simp [leB, leB_len k]
theorem crcF_le : ∀ (k w x : Nat), w < 256 ^ k → crcF x (leB k w) = tN (8 * k) (x ^^^ w)
  | 0, w, x, h => by
    obtain rfl : w = 0 := by simpa using h
    simp [leB, crcF, tN]
  | k + 1, w, x, h => by
    have hw : (UInt8.ofNat (w % 256)).toNat = w % 256 := by rw [UInt8.toNat_ofNat']; omega
    show crcF (tN 8 (x ^^^ (UInt8.ofNat (w % 256)).toNat)) (leB k (w / 256)) = _
    rw [hw, crcF_le k (w / 256) _ (by rw [Nat.pow_succ] at h; exact Nat.div_lt_of_lt_mul (by rw [Nat.mul_comm]; exact h)), show 8 * (k + 1) = 8 + 8 * k by omega, tN_add]
    congr 1
    rw [tN_xor 8 x w, tN_split 8 w, tN_xor 8 x (w % 256), Nat.xor_assoc]
def ones : Nat := 4294967295
def crcL (l : List UInt8) : Nat := crcF ones l ^^^ ones
theorem crcL_lt (l : List UInt8) : crcL l < 4294967296 := Nat.xor_lt_two_pow (n := 32) (crcF_lt l ones (by decide)) (by decide)
def sealL (l : List UInt8) : List UInt8 := l ++ leB 4 (crcL l)
theorem sealL_len (l : List UInt8) : (sealL l).length = l.length + 4 := by simp [sealL, leB_len]
theorem sealL_res (l : List UInt8) : crcF ones (sealL l) = tN 32 ones := by
  unfold sealL
  rw [crcF_append, crcF_le 4 _ _ (crcL_lt l)]
  congr 1
  unfold crcL
  rw [← Nat.xor_assoc, Nat.xor_self, Nat.zero_xor]
def openL (l : List UInt8) : Option (List UInt8) := if 4 ≤ l.length ∧ sealL (l.take (l.length - 4)) = l then some (l.take (l.length - 4)) else none
theorem openL_seal (l : List UInt8) : openL (sealL l) = some l := by
  have h : (sealL l).take ((sealL l).length - 4) = l := by
    rw [sealL_len, Nat.add_sub_cancel]; simp [sealL]
  unfold openL
  rw [h, if_pos ⟨by rw [sealL_len]; omega, rfl⟩]
theorem openL_some {l d : List UInt8} (h : openL l = some d) : sealL d = l := by
  unfold openL at h
  split at h
  · rename_i hp
    simp only [Option.some.injEq] at h
    rw [← h]; exact hp.2
  · cases h
theorem openL_none {l x : List UInt8} {z : Nat} (h : crcF ones l = crcF ones (sealL x) ^^^ z) (hz : z ≠ 0) : openL l = none := by
  cases ho : openL l with
  | none => rfl
  | some d =>
    have e := openL_some ho
    rw [← e, sealL_res, sealL_res] at h
    have : z = 0 := by
      have h2 := congrArg (tN 32 ones ^^^ ·) h
      simp only [← Nat.xor_assoc, Nat.xor_self, Nat.zero_xor] at h2
      exact h2.symm
    exact absurd this hz

/-! ### up to three bits -/
def genT : Nat → Nat → List Nat
  | 0, _ => []
  | n + 1, x => x :: genT n (tS x)
theorem genT_get : ∀ (n x i : Nat), i < n → (genT n x)[i]? = some (tN i x)
  | 0, _, _, h => by omega
  | n + 1, x, 0, _ => rfl
  | n + 1, x, i + 1, h => by
    show (genT n (tS x))[i]? = _
    rw [genT_get n (tS x) i (by omega)]; rfl
def chk1 (v : Nat) : List Nat → Bool
  | [] => true
  | z :: t => v != z && chk1 v t
def chk2 (h : Nat) : List Nat → Bool
  | [] => true
  | y :: t => h != y && chk1 (h ^^^ y) t && chk2 h t
def chk3 : List Nat → Bool
  | [] => true
  | h :: t => chk2 h t && chk3 t
theorem chk1_get : ∀ (l : List Nat) (v i z : Nat), chk1 v l = true → l[i]? = some z → v ≠ z
  | [], _, _, _, _, h => by simp at h
  | a :: t, v, 0, z, h, hz => by
    simp only [chk1, Bool.and_eq_true, bne_iff_ne] at h
    simp at hz; rw [← hz]; exact h.1
  | a :: t, v, i + 1, z, h, hz => by
    simp only [chk1, Bool.and_eq_true] at h
    exact chk1_get t v i z h.2 (by simpa using hz)
theorem chk2_get : ∀ (l : List Nat) (v i j y z : Nat), chk2 v l = true → i < j → l[i]? = some y → l[j]? = some z → v ≠ y ∧ v ^^^ y ≠ z
  | [], _, _, _, _, _, _, _, h, _ => by simp at h
  | a :: t, v, 0, j, y, z, h, hj, hy, hz => by
    simp only [chk2, Bool.and_eq_true, bne_iff_ne] at h
    obtain ⟨j', rfl⟩ : ∃ j', j = j' + 1 := ⟨j - 1, by omega⟩
    simp at hy; subst hy
    exact ⟨h.1.1, chk1_get t _ j' z h.1.2 (by simpa using hz)⟩
  | a :: t, v, i + 1, j, y, z, h, hj, hy, hz => by
    simp only [chk2, Bool.and_eq_true] at h
    obtain ⟨j', rfl⟩ : ∃ j', j = j' + 1 := ⟨j - 1, by omega⟩
    exact chk2_get t v i j' y z h.2 (by omega) (by simpa using hy) (by simpa using hz)
theorem chk2_one : ∀ (l : List Nat) (v i y : Nat), chk2 v l = true → l[i]? = some y → v ≠ y
  | [], _, _, _, _, h => by simp at h
  | a :: t, v, 0, y, h, hy => by
    simp only [chk2, Bool.and_eq_true, bne_iff_ne] at h
    simp at hy; subst hy; exact h.1.1
  | a :: t, v, i + 1, y, h, hy => by
    simp only [chk2, Bool.and_eq_true] at h
    exact chk2_one t v i y h.2 (by simpa using hy)
theorem chk3_get : ∀ (l : List Nat) (i j k x y z : Nat), chk3 l = true → i < j → j < k → l[i]? = some x → l[j]? = some y → l[k]? = some z → x ^^^ y ≠ z
  | [], _, _, _, _, _, _, _, _, _, h, _, _ => by simp at h
  | a :: t, 0, j, k, x, y, z, h, hj, hk, hx, hy, hz => by
    simp only [chk3, Bool.and_eq_true] at h
    obtain ⟨j', rfl⟩ : ∃ j', j = j' + 1 := ⟨j - 1, by omega⟩
    obtain ⟨k', rfl⟩ : ∃ k', k = k' + 1 := ⟨k - 1, by omega⟩
    simp at hx; subst hx
    exact (chk2_get t _ j' k' y z h.1 (by omega) (by simpa using hy) (by simpa using hz)).2
  | a :: t, i + 1, j, k, x, y, z, h, hj, hk, hx, hy, hz => by
    simp only [chk3, Bool.and_eq_true] at h
    obtain ⟨j', rfl⟩ : ∃ j', j = j' + 1 := ⟨j - 1, by omega⟩
    obtain ⟨k', rfl⟩ : ∃ k', k = k' + 1 := ⟨k - 1, by omega⟩
    exact chk3_get t i j' k' x y z h.2 (by omega) (by omega) (by simpa using hx) (by simpa using hy) (by simpa using hz)
theorem chk3_two : ∀ (l : List Nat) (i j x y : Nat), chk3 l = true → i < j → l[i]? = some x → l[j]? = some y → x ≠ y
  | [], _, _, _, _, _, _, h, _ => by simp at h
  | a :: t, 0, j, x, y, h, hj, hx, hy => by
    simp only [chk3, Bool.and_eq_true] at h
    obtain ⟨j', rfl⟩ : ∃ j', j = j' + 1 := ⟨j - 1, by omega⟩
    simp at hx; subst hx
    exact chk2_one t _ j' y h.1 (by simpa using hy)
  | a :: t, i + 1, j, x, y, h, hj, hx, hy => by
    simp only [chk3, Bool.and_eq_true] at h
    obtain ⟨j', rfl⟩ : ∃ j', j = j' + 1 := ⟨j - 1, by omega⟩
    exact chk3_two t i j' x y h.2 (by omega) (by simpa using hx) (by simpa using hy)
theorem chk_all : chk3 (genT 97 1) = true := by decide +kernel
theorem two_bits (a b : Nat) (ha : a ≤ 96) (hb : b ≤ 96) (h : a ≠ b) : tN a 1 ^^^ tN b 1 ≠ 0 := by
  intro e
  have e2 : tN a 1 = tN b 1 := by
    have := congrArg (· ^^^ tN b 1) e
    simpa [Nat.xor_assoc] using this
  rcases Nat.lt_or_gt_of_ne h with h1 | h1
  · exact chk3_two _ a b _ _ chk_all h1 (genT_get 97 1 a (by omega)) (genT_get 97 1 b (by omega)) e2
  · exact chk3_two _ b a _ _ chk_all h1 (genT_get 97 1 b (by omega)) (genT_get 97 1 a (by omega)) e2.symm
end Go.Proofs.Ytnknfmjpkphbpaa
/- Texts by or (exclusively): the numbers. -/
namespace Go.Proofs.Ytnknfmjpkphbpaa
open Go.ChangeShapes Go.WideShapes Go.ChangeAt Go.RowKit
set_option linter.unusedVariables false

theorem bv_nat (k n : Nat) : BitVec.ofInt k (n : Int) = BitVec.ofNat k n := by
  apply BitVec.eq_of_toNat_eq
  rw [BitVec.toNat_ofInt, BitVec.toNat_ofNat]
  exact Int.toNat_natCast _
theorem u8_xor (a b : UInt8) : bits .xor .u8 (a.toNat : Int) (b.toNat : Int) = ((a ^^^ b).toNat : Int) := by
  have ha := a.toNat_lt; have hb := b.toNat_lt
  have hx := Nat.xor_lt_two_pow (n := 8) ha hb
  show IntKind.u8.wrap ((BitVec.ofInt 8 (a.toNat : Int) ^^^ BitVec.ofInt 8 (b.toNat : Int)).toNat : Nat) = _
  rw [bv_nat, bv_nat, BitVec.toNat_xor, BitVec.toNat_ofNat, BitVec.toNat_ofNat, Nat.mod_eq_of_lt (by omega), Nat.mod_eq_of_lt (by omega), UInt8.toNat_xor]
  generalize a.toNat ^^^ b.toNat = z at *
  rw [IntKind.wrap_u8]; omega
def xorS (a b : ByteArray) : ByteArray := if a.size = b.size then ⟨(xorL a.data.toList b.data.toList).toArray⟩ else ByteArray.empty
theorem xorL_len (a b : ByteArray) (h : a.size = b.size) : (xorL a.data.toList b.data.toList).length = a.size := by simp [xorL, h]
theorem xorL_take (a b : ByteArray) (h : a.size = b.size) (k : Nat) (hk : k < a.size) : (xorL a.data.toList b.data.toList).take (k + 1) = (xorL a.data.toList b.data.toList).take k ++ [a[k] ^^^ b[k]'(by omega)] := by
  rw [List.take_succ_eq_append_getElem (by rw [xorL_len a b h]; exact hk)]
  congr 2
  simp [xorL]
  rfl
end Go.Proofs.Ytnknfmjpkphbpaa
/- Texts by or (exclusively): what comes back, and what goes. -/
namespace Go.Proofs.Ytnknfmjpkphbpaa
open Go
set_option linter.unusedVariables false

theorem xorL_comm : ∀ a b : List UInt8, xorL a b = xorL b a
  | [], [] => rfl
  | [], _ :: _ => rfl
  | _ :: _, [] => rfl
  | x :: a, y :: b => by
    show (x ^^^ y) :: xorL a b = (y ^^^ x) :: xorL b a
    rw [xorL_comm a b, UInt8.xor_comm]
theorem xorL_back : ∀ a b : List UInt8, a.length = b.length → xorL (xorL a b) b = a
  | [], [], _ => rfl
  | [], _ :: _, h => by simp at h
  | _ :: _, [], h => by simp at h
  | x :: a, y :: b, h => by
    show (x ^^^ y ^^^ y) :: xorL (xorL a b) b = x :: a
    rw [xorL_back a b (by simpa using h), UInt8.xor_assoc, UInt8.xor_self, UInt8.xor_zero]
theorem xorL_zero : ∀ a b : List UInt8, a.length = b.length → xorL a (xorL b b) = a
  | [], [], _ => rfl
  | [], _ :: _, h => by simp at h
  | _ :: _, [], h => by simp at h
  | x :: a, y :: b, h => by
    show (x ^^^ (y ^^^ y)) :: xorL a (xorL b b) = x :: a
    rw [xorL_zero a b (by simpa using h), UInt8.xor_self, UInt8.xor_zero]
theorem xorL_length (a b : List UInt8) (h : a.length = b.length) : (xorL a b).length = a.length := by simp [xorL, h]
theorem xorS_eq (s t : ByteArray) (h : s.size = t.size) : xorS s t = ⟨(xorL s.data.toList t.data.toList).toArray⟩ := by unfold xorS; rw [if_pos h]
theorem data_eq {s : ByteArray} {l : List UInt8} (h : s.data.toList = l) : (⟨l.toArray⟩ : ByteArray) = s := by subst h; rfl
theorem xorS_size (s t : ByteArray) (h : s.size = t.size) : (xorS s t).size = s.size := by
  rw [xorS_eq s t h]
  show (xorL s.data.toList t.data.toList).toArray.size = _
  simpa using xorL_len s t h
theorem xorS_data (s t : ByteArray) (h : s.size = t.size) : (xorS s t).data.toList = xorL s.data.toList t.data.toList := by rw [xorS_eq s t h]
theorem xorL_assoc : ∀ a b c : List UInt8, xorL (xorL a b) c = xorL a (xorL b c)
  | [], _, _ => rfl
  | _ :: _, [], _ => rfl
  | _ :: _, _ :: _, [] => rfl
  | x :: a, y :: b, z :: c => by
    show (x ^^^ y ^^^ z) :: xorL (xorL a b) c = (x ^^^ (y ^^^ z)) :: xorL a (xorL b c)
    rw [xorL_assoc a b c, UInt8.xor_assoc]
theorem ba_ext {s t : ByteArray} (h : s.data.toList = t.data.toList) : s = t := by
  apply ByteArray.ext
  exact Array.toList_inj.1 h
theorem xorS_comm (a b : ByteArray) (h : a.size = b.size) : xorS a b = xorS b a := by
  apply ba_ext
  rw [xorS_data a b h, xorS_data b a h.symm, xorL_comm]
theorem xorS_assoc (a b c : ByteArray) (h : a.size = b.size) (h2 : b.size = c.size) : xorS (xorS a b) c = xorS a (xorS b c) := by
  apply ba_ext
  rw [xorS_data _ c (by rw [xorS_size a b h]; omega), xorS_data a b h, xorS_data a _ (by rw [xorS_size b c h2]; exact h), xorS_data b c h2, xorL_assoc]
theorem xorS_back (a b : ByteArray) (h : a.size = b.size) : xorS (xorS a b) b = a := by
  apply ba_ext
  rw [xorS_data _ b (by rw [xorS_size a b h]; exact h), xorS_data a b h, xorL_back _ _ (by simpa using h)]
/-- a load of noughts -/
def z4 : ByteArray := ⟨#[0, 0, 0, 0]⟩
theorem xorS_z4 (a : ByteArray) (h : a.size = 4) : xorS a z4 = a := by
  apply ba_ext
  rw [xorS_data a z4 h]
  obtain ⟨⟨l⟩⟩ := a
  match l, h with
  | [p, q, r, s], _ => simp [xorL, z4]
theorem xorS_z4l (a : ByteArray) (h : a.size = 4) : xorS z4 a = a := by rw [xorS_comm z4 a h.symm, xorS_z4 a h]
theorem xorS_self (a : ByteArray) (h : a.size = 4) : xorS a a = z4 := by
  apply ba_ext
  rw [xorS_data a a rfl]
  obtain ⟨⟨l⟩⟩ := a
  match l, h with
  | [p, q, r, s], _ => simp [xorL, z4]
end Go.Proofs.Ytnknfmjpkphbpaa
/- Keys as pairs of numbers: what is right, what stands ahead, what rises; where they lie in memory. -/
namespace Go.Proofs.Ytnknfmjpkphbpaa
open Go.ChangeShapes Go.WideShapes Go.ChangeAt Go.RowKit
set_option linter.unusedVariables false

abbrev K2 := Int × Int
def kv (k : K2) : Value := .agg #[.int .i64 k.1, .int .i64 k.2]
def keyOkB (k : K2) : Bool := (decide (1 ≤ k.1) && decide (k.1 ≤ 20)) && (decide (1 ≤ k.2) && decide (k.2 ≤ 99))
def aheadB (a b : K2) : Bool := if a.1 = b.1 then decide (a.2 < b.2) else decide (a.1 < b.1)
def keysOkB : List K2 → Bool
  | [] => true
  | [k] => keyOkB k
  | k :: l :: r => keyOkB k && aheadB k l && keysOkB (l :: r)
/-- the slice value v leads to the keys ks -/
def keysAt (w : World) (v : Value) (ks : List K2) : Prop :=
  ∃ a cap, v = .slice a ks.length cap ∧ ks.length ≤ cap ∧ (ks.length = 0 ∨ ∃ g off, a = some ⟨g, off, none⟩ ∧ g < w.heap.size ∧
    ∀ i, i < ks.length → w.cell? ⟨g, off + i * 2, none⟩ = some (.int .i64 (ks.getD i (0, 0)).1) ∧ w.cell? ⟨g, off + i * 2 + 1, none⟩ = some (.int .i64 (ks.getD i (0, 0)).2))
theorem keysAt_below {w w' : World} {v : Value} {ks : List K2} (h : keysAt w v ks) (hb : Below w.heap.size w w') : keysAt w' v ks := by
  obtain ⟨a, cap, h1, h2, h3⟩ := h
  refine ⟨a, cap, h1, h2, h3.imp_right ?_⟩
  rintro ⟨g, off, h4, h5, h6⟩
  refine ⟨g, off, h4, Nat.lt_of_lt_of_le h5 hb.size, fun i hi => ?_⟩
  rw [hb.cell (p := ⟨g, off + i * 2, none⟩) h5, hb.cell (p := ⟨g, off + i * 2 + 1, none⟩) h5]
  exact h6 i hi
end Go.Proofs.Ytnknfmjpkphbpaa
/- The model, walked: whether a number lies between two. -/
namespace Go.Proofs.Ytnknfmjpkphbpaa
open Go.ChangeShapes Go.WideShapes Go.ChangeAt Go.RowKit
set_option linter.unusedVariables false

theorem sin_any (x a b : Int) (w : World) : Calls Try.prog 101 #[.int .i64 x, .int .i64 a, .int .i64 b] w fun e w' => e = .returned (.bool (decide (a ≤ x) && decide (x ≤ b))) ∧ w' = w := by
  by_cases h1 : a ≤ x <;> by_cases h2 : x ≤ b
  all_goals
    go_enter Try.func101, Try.ntmps101
    go_wp2
    go_ret
    simp [h1, h2]
end Go.Proofs.Ytnknfmjpkphbpaa
/- A region that draws its order, whose operations read, and whose calls may make memory: one walk, in the class of the worlds that differ from one by new blocks alone. -/
namespace Go.Proofs.Ytnknfmjpkphbpaa
open Go.BigFrame Go.RowKit Go.ChangeShapes Go.WideShapes
section
variable {P : Program} {ops : Array Oper} {C : World → Prop} {Q : Act → Prop} {a : Act} {o : Oper} {rest : List Oper} {K : Act → Prop}
theorem q_load (ty : TypeId) (x : Operand) (p : Addr) (v : Value) (ho : o.op = .load ty x) (hx : a.eval x = .pointer (some p)) (hl : ∀ w, C w → (loadVar ty p).run P w = .ok v w) (hk : K (a.put o.dst v)) : o.quiet P a C K := by
  refine ⟨v, fun w hw => ?_, hk⟩
  unfold Oper.quietAt execOp
  simp only [ho, hx, Instr.loadAt, Instr.sureAddr, Sem.run_bind, Sem.run_pure, Result.andThen_ok, hl w hw]
  exact ⟨rfl, rfl⟩
theorem q_bin (op : BinOp) (t ty : TypeId) (x y : Operand) (u v z : Value) (ho : o.op = .binOp op t x y ty) (hx : a.eval x = u) (hy : a.eval y = v) (hg : ∀ w, (eqGuard op t x y u v).run P w = .ok () w) (hb : ∀ w, (binOp op t u v).run P w = .ok z w)
    (hk : K (a.put o.dst z)) : o.quiet P a C K := by
  refine ⟨z, fun w hw => ?_, hk⟩
  unfold Oper.quietAt execOp
  simp only [ho, hx, hy, Sem.run_bind, hg w, hb w, Result.andThen_ok, Sem.run_pure]
  exact ⟨rfl, rfl⟩
end
/-- the class: new blocks alone -/
theorem wp_region_below {P : Program} {id : Nat} {Q : Exit → Act → World → Prop} {a : Act} {w : World} {l : List Oper} (w0 : World) (hm : P.follows .mixedOrders = true) (hB : Region.lexB .any l.toArray = true) (h0 : Below w0.heap.size w0 w)
    (h : wpQuiet P l.toArray (fun w' => Below w0.heap.size w0 w') (fun a' => ∀ w', Below w0.heap.size w0 w' → Q .normal a' w') l a) : (Code.region id l.toArray true).wp P Q a w :=
  wp_region_quiet (C := fun w' => Below w0.heap.size w0 w') hm hB h0.drew (by simpa using h)
end Go.Proofs.Ytnknfmjpkphbpaa
/- The model's chapter 3, walked: keys that are right, that stand ahead. -/
namespace Go.Proofs.Ytnknfmjpkphbpaa
open Go.ChangeShapes Go.WideShapes Go.ChangeAt Go.RowKit Go.BigFrame
set_option linter.unusedVariables false

theorem skeyok_any (k : K2) (w : World) : Calls Try.prog 90 #[kv k] w fun e w' => e = .returned (.bool (keyOkB k)) ∧ Below w.heap.size w w' := by
  obtain ⟨n, s⟩ := k
  unfold keyOkB kv
  dsimp only
  have hb : ∀ o, Below w.heap.size w (w.alloc o) := fun o => (Below.refl _ _).alloc (Nat.le_refl _) _
  generalize hp : (decide (1 ≤ n) && decide (n ≤ 20)) = p
  generalize hq : (decide (1 ≤ s) && decide (s ≤ 99)) = q
  have H1 := fun w => sin_any n 1 20 w
  have H2 := fun w => sin_any s 1 99 w
  rw [hp] at H1; rw [hq] at H2
  clear hp hq
  go_enter Try.func90, Try.ntmps90
  cases p with
  | false =>
    go_wp2_with (go_at_call 101; refine (H1 _).mono ?_; rintro e w1 ⟨rfl, rfl⟩)
    go_ret
    exact ⟨by simp, hb _⟩
  | true =>
    go_wp2_with fail
    refine (H1 _).mono ?_
    rintro e w1 ⟨rfl, rfl⟩
    go_wp2_with fail
    refine (H2 _).mono ?_
    rintro e w1 ⟨rfl, rfl⟩
    go_wp2
    go_ret
    exact ⟨by simp, hb _⟩
theorem sahead_any (a b : K2) (w : World) : Calls Try.prog 60 #[kv a, kv b] w fun e w' => e = .returned (.bool (aheadB a b)) ∧ Below w.heap.size w w' := by
  obtain ⟨n, s⟩ := a
  obtain ⟨m, t⟩ := b
  have hb : ∀ o o', Below w.heap.size w ((w.alloc o).alloc o') := fun o o' => ((Below.refl _ _).alloc (Nat.le_refl _) _).alloc (by simp) _
  by_cases h : n = m
  · have ha : aheadB (n, s) (m, t) = decide (s < t) := by unfold aheadB; rw [if_pos h]
    rw [ha]
    unfold kv
    dsimp only
    subst h
    go_enter Try.func60, Try.ntmps60
    go_wp2
    go_ret
    exact ⟨rfl, hb _ _⟩
  · have ha : aheadB (n, s) (m, t) = decide (n < m) := by unfold aheadB; rw [if_neg h]
    rw [ha]
    unfold kv
    dsimp only
    go_enter Try.func60, Try.ntmps60
    go_wp2
    go_ret
    exact ⟨rfl, hb _ _⟩

theorem key_load {w : World} {g o : Nat} {k : K2} (hc : w.cell? ⟨g, o, none⟩ = some (.int .i64 k.1) ∧ w.cell? ⟨g, o + 1, none⟩ = some (.int .i64 k.2)) {w' : World} (hg : g < w.heap.size) (hb : Below w.heap.size w w') :
    (loadVar 41 ⟨g, o, none⟩).run Try.prog w' = .ok (kv k) w' := by
  refine run_loadVar_mid w' g o 41 [.int .i64 k.1, .int .i64 k.2] _ (fun j v hj => ?_) Try.underlying41 rfl (by kernel_rfl)
  have hj2 : j < 2 := by have := (List.getElem?_eq_some_iff.1 hj).1; simpa using this
  rcases (by omega : j = 0 ∨ j = 1) with rfl | rfl
  · rw [hb.cell (p := ⟨g, o + 0, none⟩) hg]
    simpa using hc.1.trans (by simpa using hj)
  · rw [hb.cell (p := ⟨g, o + 1, none⟩) hg]
    simpa using hc.2.trans (by simpa using hj)
end Go.Proofs.Ytnknfmjpkphbpaa
/- Two keys held against each other. -/
namespace Go.Proofs.Ytnknfmjpkphbpaa
open Go.ChangeShapes Go.WideShapes Go.ChangeAt Go.RowKit Go.BigFrame
set_option linter.unusedVariables false
theorem key_equal (p q : K2) (w : World) : (Op.equalIn 10000 41 (kv p) (kv q)).run Try.prog w = .ok (p == q) w := by
  obtain ⟨a, b⟩ := p; obtain ⟨c, d⟩ := q
  have u3 := Try.underlying3
  have hS : Try.prog.underlying 41 = some (.struct (Try.prog.fieldsOf 41)) := by kernel_rfl
  unfold kv
  rw [show (10000 : Nat) = 9999 + 1 from rfl, run_equalIn_agg w 9999 41 _ _ hS (by kernel_rfl)]
  simp only [Program.fieldsOf, Try.underlying41]
  go_simp
  by_cases h1 : a = c <;> by_cases h2 : b = d <;> simp [h1, h2]
theorem key_eql (p q : K2) (w : World) : (binOp .eql 41 (kv p) (kv q)).run Try.prog w = .ok (.bool (p == q)) w := by
  have := key_equal p q w
  unfold kv at *
  rw [run_eql_struct, this]; rfl
theorem key_neq (p q : K2) (w : World) : (binOp .neq 41 (kv p) (kv q)).run Try.prog w = .ok (.bool (!(p == q))) w := by
  have := key_equal p q w
  unfold kv at *
  rw [run_neq_struct, this]; rfl
theorem key_guard (op : BinOp) (x y : Operand) (p q : K2) (w : World) : (eqGuard op 41 x y (kv p) (kv q)).run Try.prog w = .ok () w := by
  unfold kv
  exact run_eqGuard_agg w op 41 x y _ _ (by kernel_rfl)
end Go.Proofs.Ytnknfmjpkphbpaa
/- The model's chapter 3, walked: two lists of keys made one. -/
namespace Go.Proofs.Ytnknfmjpkphbpaa
open Go.ChangeShapes Go.WideShapes Go.ChangeAt Go.RowKit Go.BigFrame
set_option linter.unusedVariables false

theorem infoK : (Try.prog.info? 41).map (fun i => (i.zero, i.size, i.bytes)) = some (some (.agg #[.int .i64 0, .int .i64 0]), 2, 16) := by kernel_rfl
def keyCells (ks : List K2) : List Value := ks.flatMap fun k => [.int .i64 k.1, .int .i64 k.2]
theorem keyCells_len : ∀ ks : List K2, (keyCells ks).length = ks.length * 2
  | [] => rfl
  | k :: r => by
    have := keyCells_len r
    simp only [keyCells, List.flatMap_cons, List.length_append, List.length_cons, List.length_nil] at *
    omega
theorem keyCells_snoc (ks : List K2) (k : K2) : keyCells (ks ++ [k]) = keyCells ks ++ [.int .i64 k.1, .int .i64 k.2] := by simp [keyCells]
theorem keyCells_get : ∀ (ks : List K2) (i : Nat), i < ks.length → (keyCells ks)[i * 2]? = some (.int .i64 (ks.getD i (0, 0)).1) ∧ (keyCells ks)[i * 2 + 1]? = some (.int .i64 (ks.getD i (0, 0)).2)
  | [], _, h => by simp at h
  | k :: r, 0, _ => by simp [keyCells]
  | k :: r, i + 1, h => by
    have ih := keyCells_get r i (by simpa using h)
    have e1 : (i + 1) * 2 = i * 2 + 1 + 1 := by omega
    have e2 : (i + 1) * 2 + 1 = i * 2 + 1 + 1 + 1 := by omega
    rw [e1]
    simp only [keyCells, List.flatMap_cons, List.cons_append, List.nil_append, List.getElem?_cons_succ, List.getD_cons_succ] at *
    exact ih
/-- what is owned leads to its keys -/
theorem keysAt_own {w : World} {base : Nat} {v : Value} {ks : List K2} (h : w.ownsRow base 41 2 v ks.length (keyCells ks)) : keysAt w v ks := by
  rcases h.2 with ⟨rfl, h0⟩ | ⟨g, cap, cur, rfl, hb, hg, hn, hm, hs, ht⟩
  · exact ⟨none, 0, by rw [h0], by omega, .inl h0⟩
  · refine ⟨_, cap, rfl, hn, .inr ⟨g, 0, rfl, (Array.getElem?_eq_some_iff.1 hg).1, fun i hi => ?_⟩⟩
    have hc := keyCells_get ks i hi
    rw [Nat.zero_add, h.cellAt (i * 2) (by omega), h.cellAt (i * 2 + 1) (by omega)]
    exact hc
theorem own_below {w w' : World} {base n : Nat} {e : TypeId} {size : Nat} {v : Value} {xs : List Value} (h : w.ownsRow base e size v n xs) (hb : Below w.heap.size w w') : w'.ownsRow base e size v n xs :=
  h.kept (grown_of_below' hb none) (by cases hv : v.ownBlock <;> simp)

def mergeL (both : Bool) : List K2 → List K2 → List K2
  | a, [] => a
  | [], b => b
  | x :: a, y :: b => if aheadB x y then x :: mergeL both a (y :: b) else if aheadB y x then y :: mergeL both (x :: a) b else (if both then [x] else []) ++ mergeL both a b
termination_by a b => a.length + b.length
theorem mergeL_nil_r (both : Bool) (a : List K2) : mergeL both a [] = a := by unfold mergeL; cases a <;> rfl
theorem mergeL_nil_l (both : Bool) (b : List K2) : mergeL both [] b = b := by cases b <;> simp [mergeL]
theorem mergeL_cons (both : Bool) (x : K2) (a : List K2) (y : K2) (b : List K2) : mergeL both (x :: a) (y :: b) =
    if aheadB x y then x :: mergeL both a (y :: b) else if aheadB y x then y :: mergeL both (x :: a) b else (if both then [x] else []) ++ mergeL both a b := by rw [mergeL]
theorem mergeL_len (both : Bool) : ∀ (a b : List K2), (mergeL both a b).length ≤ a.length + b.length
  | a, [] => by rw [mergeL_nil_r]; simp
  | [], b => by rw [mergeL_nil_l]; simp
  | x :: a, y :: b => by
    rw [mergeL_cons]
    split
    · have := mergeL_len both a (y :: b); simp only [List.length_cons] at *; omega
    · split
      · have := mergeL_len both (x :: a) b; simp only [List.length_cons] at *; omega
      · have := mergeL_len both a b
        cases both <;> simp only [List.length_append, List.length_cons, List.length_nil, if_true, Bool.false_eq_true, if_false] at * <;> omega
termination_by a b => a.length + b.length
theorem drop_at (a : List K2) (i : Nat) (h : i < a.length) : a.drop i = a.getD i (0, 0) :: a.drop (i + 1) := by
  rw [List.drop_eq_getElem_cons h]
  simp [List.getD, h]
end Go.Proofs.Ytnknfmjpkphbpaa
/- Keys that rise (no program). -/
namespace Go.Proofs.Ytnknfmjpkphbpaa

def stepB (ks : List K2) (i : Nat) : Bool := keyOkB (ks.getD i (0, 0)) && (decide (i = 0) || aheadB (ks.getD (i - 1) (0, 0)) (ks.getD i (0, 0)))
def keysOkR (ks : List K2) : Bool := (List.range ks.length).all (stepB ks)
theorem stepB_false {ks : List K2} {k : Nat} (hk : k < ks.length) (h : stepB ks k = false) : keysOkR ks = false := by
  unfold keysOkR
  rw [List.all_eq_false]
  exact ⟨k, List.mem_range.2 hk, by simp [h]⟩
theorem keysR_succ (ks : List K2) (k : Nat) : (List.range (k + 1)).all (stepB ks) = ((List.range k).all (stepB ks) && stepB ks k) := by
  rw [List.range_succ, List.all_append]
  simp
end Go.Proofs.Ytnknfmjpkphbpaa
/- Keys merged, keys looked for: what comes of it (no program). -/
namespace Go.Proofs.Ytnknfmjpkphbpaa
open Go

def mergeV (both : Bool) (a b : List K2) : List K2 := if keysOkR a && keysOkR b then mergeL both a b else []
def hasKeyB (ks : List K2) (k : K2) : Bool := ks.any fun x => x == k
end Go.Proofs.Ytnknfmjpkphbpaa
/- Rising lists of keys: what merging them makes (no program). -/
namespace Go.Proofs.Ytnknfmjpkphbpaa

theorem ahead_iff (a b : K2) : aheadB a b = true ↔ (a.1 < b.1 ∨ (a.1 = b.1 ∧ a.2 < b.2)) := by
  unfold aheadB
  by_cases h : a.1 = b.1
  · rw [if_pos h]; simp; omega
  · rw [if_neg h]; simp; omega
theorem ahead_irrefl (a : K2) : aheadB a a = false := by
  cases h : aheadB a a with
  | false => rfl
  | true => rw [ahead_iff] at h; omega
theorem ahead_trans {a b c : K2} (h1 : aheadB a b = true) (h2 : aheadB b c = true) : aheadB a c = true := by
  rw [ahead_iff] at *; omega
theorem ahead_asymm {a b : K2} (h1 : aheadB a b = true) : aheadB b a = false := by
  cases h : aheadB b a with
  | false => rfl
  | true => rw [ahead_iff] at *; omega
theorem ahead_total {a b : K2} (h1 : aheadB a b = false) (h2 : aheadB b a = false) : a = b := by
  have n1 : ¬ aheadB a b = true := by rw [h1]; exact Bool.false_ne_true
  have n2 : ¬ aheadB b a = true := by rw [h2]; exact Bool.false_ne_true
  rw [ahead_iff] at n1 n2
  obtain ⟨x, y⟩ := a; obtain ⟨z, u⟩ := b
  simp only at n1 n2
  have e1 : x = z := by omega
  have e2 : y = u := by omega
  rw [e1, e2]
def Rising (l : List K2) : Prop := l.Pairwise fun a b => aheadB a b = true
theorem keysR_iff (ks : List K2) : keysOkR ks = true ↔ (∀ k ∈ ks, keyOkB k = true) ∧ Rising ks := by
  unfold keysOkR
  rw [List.all_eq_true]
  constructor
  · intro h
    have hs : ∀ i, i < ks.length → keyOkB (ks.getD i (0, 0)) = true ∧ (i = 0 ∨ aheadB (ks.getD (i - 1) (0, 0)) (ks.getD i (0, 0)) = true) := by
      intro i hi
      have := h i (List.mem_range.2 hi)
      simpa [stepB] using this
    refine ⟨fun k hk => ?_, ?_⟩
    · obtain ⟨i, hi, rfl⟩ := List.getElem_of_mem hk
      have := (hs i hi).1
      simpa [List.getD, hi] using this
    · have hd : ∀ d i, i + d + 1 < ks.length → aheadB (ks.getD i (0, 0)) (ks.getD (i + d + 1) (0, 0)) = true := by
        intro d
        induction d with
        | zero =>
          intro i hi
          have := (hs (i + 1) (by omega)).2.resolve_left (by omega)
          simpa using this
        | succ d ih =>
          intro i hi
          have h1 := ih i (by omega)
          have h2 := (hs (i + (d + 1) + 1) hi).2.resolve_left (by omega)
          rw [show i + (d + 1) + 1 - 1 = i + d + 1 by omega] at h2
          exact ahead_trans h1 h2
      unfold Rising
      rw [List.pairwise_iff_getElem]
      intro i j hi hj hij
      have := hd (j - i - 1) i (by omega)
      rw [show i + (j - i - 1) + 1 = j by omega] at this
      simpa [List.getD, hi, hj] using this
  · rintro ⟨h1, h2⟩ i hi
    have hi2 := List.mem_range.1 hi
    unfold stepB
    have e : ks.getD i (0, 0) = ks[i] := by simp [List.getD, hi2]
    rw [e, h1 _ (List.getElem_mem hi2)]
    by_cases h0 : i = 0
    · simp [h0]
    · have e2 : ks.getD (i - 1) (0, 0) = ks[i - 1] := by simp [List.getD, show i - 1 < ks.length by omega]
      rw [e2]
      unfold Rising at h2
      rw [List.pairwise_iff_getElem] at h2
      simp [h2 (i - 1) i (by omega) hi2 (by omega)]
/-- of two rising lists of the same keys one is the other -/
theorem rising_ext : ∀ (a b : List K2), Rising a → Rising b → (∀ k, k ∈ a ↔ k ∈ b) → a = b
  | [], [], _, _, _ => rfl
  | [], y :: b, _, _, h => by have := (h y).2 (by simp); simp at this
  | x :: a, [], _, _, h => by have := (h x).1 (by simp); simp at this
  | x :: a, y :: b, ha, hb, h => by
    have ha' := List.pairwise_cons.1 ha
    have hb' := List.pairwise_cons.1 hb
    have hxy : x = y := by
      rcases List.mem_cons.1 ((h x).1 (by simp)) with h1 | h1
      · exact h1
      · rcases List.mem_cons.1 ((h y).2 (by simp)) with h2 | h2
        · exact h2.symm
        · have e1 := hb'.1 x h1
          have e2 := ha'.1 y h2
          rw [ahead_asymm e1] at e2; cases e2
    subst hxy
    congr 1
    refine rising_ext a b ha'.2 hb'.2 fun k => ⟨fun hk => ?_, fun hk => ?_⟩
    · rcases List.mem_cons.1 ((h k).1 (by simp [hk])) with h1 | h1
      · subst h1
        have := ha'.1 k hk
        rw [ahead_irrefl] at this; cases this
      · exact h1
    · rcases List.mem_cons.1 ((h k).2 (by simp [hk])) with h1 | h1
      · subst h1
        have := hb'.1 k hk
        rw [ahead_irrefl] at this; cases this
      · exact h1
/-- what merging makes: rising, and of which keys -/
theorem merge_spec (both : Bool) : ∀ (a b : List K2), Rising a → Rising b → Rising (mergeL both a b) ∧ ∀ k, k ∈ mergeL both a b ↔ ((k ∈ a ∨ k ∈ b) ∧ (both = true ∨ ¬ (k ∈ a ∧ k ∈ b)))
  | a, [], ha, _ => by rw [mergeL_nil_r]; exact ⟨ha, fun k => by simp⟩
  | [], b, _, hb => by rw [mergeL_nil_l]; exact ⟨hb, fun k => by simp⟩
  | x :: a, y :: b, ha, hb => by
    have ha' := List.pairwise_cons.1 ha
    have hb' := List.pairwise_cons.1 hb
    rw [mergeL_cons]
    have nxa : x ∉ a := fun h => by have := ha'.1 x h; rw [ahead_irrefl] at this; cases this
    have nyb : y ∉ b := fun h => by have := hb'.1 y h; rw [ahead_irrefl] at this; cases this
    by_cases hxy : aheadB x y = true
    · rw [if_pos hxy]
      obtain ⟨r1, r2⟩ := merge_spec both a (y :: b) ha'.2 hb
      have hlow : ∀ z, z ∈ y :: b → aheadB x z = true := by
        intro z hz
        rcases List.mem_cons.1 hz with rfl | h
        · exact hxy
        · exact ahead_trans hxy (hb'.1 z h)
      have nxb : x ∉ y :: b := fun h => by have := hlow x h; rw [ahead_irrefl] at this; cases this
      refine ⟨List.pairwise_cons.2 ⟨fun z hz => ?_, r1⟩, fun k => ?_⟩
      · rcases ((r2 z).1 hz).1 with h | h
        · exact ha'.1 z h
        · exact hlow z h
      · rw [List.mem_cons, r2 k]
        by_cases hk : k = x
        · subst hk
          simp [nxb]
        · simp [hk]
    · rw [if_neg hxy]
      by_cases hyx : aheadB y x = true
      · rw [if_pos hyx]
        obtain ⟨r1, r2⟩ := merge_spec both (x :: a) b ha hb'.2
        have hlow : ∀ z, z ∈ x :: a → aheadB y z = true := by
          intro z hz
          rcases List.mem_cons.1 hz with rfl | h
          · exact hyx
          · exact ahead_trans hyx (ha'.1 z h)
        have nya : y ∉ x :: a := fun h => by have := hlow y h; rw [ahead_irrefl] at this; cases this
        refine ⟨List.pairwise_cons.2 ⟨fun z hz => ?_, r1⟩, fun k => ?_⟩
        · rcases ((r2 z).1 hz).1 with h | h
          · exact hlow z h
          · exact hb'.1 z h
        · rw [List.mem_cons, r2 k]
          by_cases hk : k = y
          · subst hk
            simp [nya]
          · simp [hk]
      · rw [if_neg hyx]
        have e := ahead_total (Bool.eq_false_iff.2 hxy) (Bool.eq_false_iff.2 hyx)
        subst e
        obtain ⟨r1, r2⟩ := merge_spec both a b ha'.2 hb'.2
        cases both with
        | true =>
          rw [if_pos rfl]
          refine ⟨List.pairwise_cons.2 ⟨fun z hz => ?_, r1⟩, fun k => ?_⟩
          · rcases ((r2 z).1 hz).1 with h | h
            · exact ha'.1 z h
            · exact hb'.1 z h
          · show k ∈ x :: mergeL true a b ↔ _
            rw [List.mem_cons, r2 k]
            by_cases hk : k = x <;> simp [hk]
        | false =>
          rw [if_neg (by decide), List.nil_append]
          refine ⟨r1, fun k => ?_⟩
          rw [r2 k]
          by_cases hk : k = x
          · subst hk
            simp [nxa, nyb]
          · simp [hk]
termination_by a b => a.length + b.length
theorem merge_ok (both : Bool) (a b : List K2) (ha : keysOkR a = true) (hb : keysOkR b = true) : keysOkR (mergeL both a b) = true := by
  rw [keysR_iff] at *
  obtain ⟨r1, r2⟩ := merge_spec both a b ha.2 hb.2
  refine ⟨fun k hk => ?_, r1⟩
  rcases ((r2 k).1 hk).1 with h | h
  · exact ha.1 k h
  · exact hb.1 k h
/-- the same keys, rising: the same list -/
theorem ok_ext {a b : List K2} (ha : keysOkR a = true) (hb : keysOkR b = true) (h : ∀ k, k ∈ a ↔ k ∈ b) : a = b :=
  rising_ext a b ((keysR_iff a).1 ha).2 ((keysR_iff b).1 hb).2 h
theorem merge_mem {both : Bool} {a b : List K2} (ha : keysOkR a = true) (hb : keysOkR b = true) (k : K2) : k ∈ mergeL both a b ↔ ((k ∈ a ∨ k ∈ b) ∧ (both = true ∨ ¬ (k ∈ a ∧ k ∈ b))) :=
  (merge_spec both a b ((keysR_iff a).1 ha).2 ((keysR_iff b).1 hb).2).2 k
theorem parted_back {a b : List K2} (ha : keysOkR a = true) (hb : keysOkR b = true) : mergeL false (mergeL false a b) b = a := by
  have hp := merge_ok false a b ha hb
  refine ok_ext (merge_ok false _ b hp hb) ha fun k => ?_
  rw [merge_mem hp hb, merge_mem ha hb]
  by_cases h1 : k ∈ a <;> by_cases h2 : k ∈ b <;> simp [h1, h2]
theorem merge_comm (both : Bool) {a b : List K2} (ha : keysOkR a = true) (hb : keysOkR b = true) : mergeL both b a = mergeL both a b := by
  refine ok_ext (merge_ok both b a hb ha) (merge_ok both a b ha hb) fun k => ?_
  rw [merge_mem hb ha, merge_mem ha hb]
  by_cases h1 : k ∈ a <;> by_cases h2 : k ∈ b <;> simp [h1, h2]
theorem parted_self {a : List K2} (ha : keysOkR a = true) : mergeL false a a = [] := by
  have hn : keysOkR ([] : List K2) = true := rfl
  refine ok_ext (merge_ok false a a ha ha) hn fun k => ?_
  rw [merge_mem ha ha]
  simp
theorem joined_again {a b : List K2} (ha : keysOkR a = true) (hb : keysOkR b = true) : mergeL true (mergeL true a b) b = mergeL true a b := by
  have hp := merge_ok true a b ha hb
  refine ok_ext (merge_ok true _ b hp hb) hp fun k => ?_
  rw [merge_mem hp hb, merge_mem ha hb]
  by_cases h1 : k ∈ a <;> by_cases h2 : k ∈ b <;> simp [h1, h2]
/-- how many there are: those of both stand in a and in b -/
theorem merge_count : ∀ (a b : List K2), Rising a → Rising b →
    (mergeL true a b).length + (a.filter fun x => decide (x ∈ b)).length = a.length + b.length ∧ (mergeL false a b).length + 2 * (a.filter fun x => decide (x ∈ b)).length = a.length + b.length
  | a, [], _, _ => by
    have : (a.filter fun x => decide (x ∈ ([] : List K2))) = [] := List.filter_eq_nil_iff.2 (by simp)
    rw [mergeL_nil_r, mergeL_nil_r, this]; simp
  | [], b, _, _ => by rw [mergeL_nil_l, mergeL_nil_l]; simp
  | x :: a, y :: b, ha, hb => by
    have ha' := List.pairwise_cons.1 ha
    have hb' := List.pairwise_cons.1 hb
    rw [mergeL_cons, mergeL_cons]
    by_cases hxy : aheadB x y = true
    · rw [if_pos hxy, if_pos hxy]
      obtain ⟨r1, r2⟩ := merge_count a (y :: b) ha'.2 hb
      have nxb : x ∉ y :: b := fun h => by
        rcases List.mem_cons.1 h with rfl | h
        · rw [ahead_irrefl] at hxy; cases hxy
        · have := ahead_trans hxy (hb'.1 x h); rw [ahead_irrefl] at this; cases this
      rw [List.filter_cons_of_neg (by simpa using nxb)]
      simp only [List.length_cons] at *
      omega
    · rw [if_neg hxy, if_neg hxy]
      by_cases hyx : aheadB y x = true
      · rw [if_pos hyx, if_pos hyx]
        obtain ⟨r1, r2⟩ := merge_count (x :: a) b ha hb'.2
        have he : ((x :: a).filter fun z => decide (z ∈ y :: b)) = (x :: a).filter fun z => decide (z ∈ b) := by
          apply List.filter_congr
          intro z hz
          have hzy : z ≠ y := by
            rintro rfl
            rcases List.mem_cons.1 hz with rfl | h
            · rw [ahead_irrefl] at hyx; cases hyx
            · have := ahead_trans hyx (ha'.1 z h); rw [ahead_irrefl] at this; cases this
          simp [hzy]
        rw [he]
        simp only [List.length_cons] at *
        omega
      · rw [if_neg hyx, if_neg hyx]
        have e := ahead_total (Bool.eq_false_iff.2 hxy) (Bool.eq_false_iff.2 hyx)
        subst e
        obtain ⟨r1, r2⟩ := merge_count a b ha'.2 hb'.2
        have he : (a.filter fun z => decide (z ∈ x :: b)) = a.filter fun z => decide (z ∈ b) := by
          apply List.filter_congr
          intro z hz
          have hzx : z ≠ x := by
            rintro rfl
            have := ha'.1 z hz; rw [ahead_irrefl] at this; cases this
          simp [hzx]
        rw [List.filter_cons_of_pos (by simp), he]
        simp only [if_true, Bool.false_eq_true, if_false, List.length_append, List.length_cons, List.length_nil] at *
        omega
termination_by a b => a.length + b.length
end Go.Proofs.Ytnknfmjpkphbpaa
/- Readings as a key and a text: what is right, what rises; where they lie in memory. -/
namespace Go.Proofs.Ytnknfmjpkphbpaa
open Go.ChangeShapes Go.WideShapes Go.ChangeAt Go.RowKit Go.BigFrame
set_option linter.unusedVariables false

abbrev R3 := K2 × ByteArray
def r0 : R3 := ((0, 0), ByteArray.empty)
def rv (r : R3) : Value := .agg #[.int .i64 r.1.1, .int .i64 r.1.2, .string r.2]
def rdOkB (r : R3) : Bool := keyOkB r.1 && decide (r.2.size = 4)
def rdStep (rs : List R3) (i : Nat) : Bool := rdOkB (rs.getD i r0) && (decide (i = 0) || aheadB (rs.getD (i - 1) r0).1 (rs.getD i r0).1)
def rdsOkR (rs : List R3) : Bool := (List.range rs.length).all (rdStep rs)
theorem rdStep_false {rs : List R3} {k : Nat} (hk : k < rs.length) (h : rdStep rs k = false) : rdsOkR rs = false := by
  unfold rdsOkR
  rw [List.all_eq_false]
  exact ⟨k, List.mem_range.2 hk, by simp [h]⟩
theorem rdsR_succ (rs : List R3) (k : Nat) : (List.range (k + 1)).all (rdStep rs) = ((List.range k).all (rdStep rs) && rdStep rs k) := by
  rw [List.range_succ, List.all_append]
  simp
/-- the slice value v leads to the readings rs -/
def rdAt (w : World) (v : Value) (rs : List R3) : Prop :=
  ∃ a cap, v = .slice a rs.length cap ∧ rs.length ≤ cap ∧ (rs.length = 0 ∨ ∃ g off, a = some ⟨g, off, none⟩ ∧ g < w.heap.size ∧
    ∀ i, i < rs.length → w.cell? ⟨g, off + i * 3, none⟩ = some (.int .i64 (rs.getD i r0).1.1) ∧ w.cell? ⟨g, off + i * 3 + 1, none⟩ = some (.int .i64 (rs.getD i r0).1.2) ∧
      w.cell? ⟨g, off + i * 3 + 2, none⟩ = some (.string (rs.getD i r0).2))
theorem rdAt_below {w w' : World} {v : Value} {rs : List R3} (h : rdAt w v rs) (hb : Below w.heap.size w w') : rdAt w' v rs := by
  obtain ⟨a, cap, h1, h2, h3⟩ := h
  refine ⟨a, cap, h1, h2, h3.imp_right ?_⟩
  rintro ⟨g, off, h4, h5, h6⟩
  refine ⟨g, off, h4, Nat.lt_of_lt_of_le h5 hb.size, fun i hi => ?_⟩
  rw [hb.cell (p := ⟨g, off + i * 3, none⟩) h5, hb.cell (p := ⟨g, off + i * 3 + 1, none⟩) h5, hb.cell (p := ⟨g, off + i * 3 + 2, none⟩) h5]
  exact h6 i hi
def rdCells (rs : List R3) : List Value := rs.flatMap fun r => [.int .i64 r.1.1, .int .i64 r.1.2, .string r.2]
theorem rdCells_len : ∀ rs : List R3, (rdCells rs).length = rs.length * 3
  | [] => rfl
  | r :: l => by
    have := rdCells_len l
    simp only [rdCells, List.flatMap_cons, List.length_append, List.length_cons, List.length_nil] at *
    omega
theorem rdCells_snoc (rs : List R3) (r : R3) : rdCells (rs ++ [r]) = rdCells rs ++ [.int .i64 r.1.1, .int .i64 r.1.2, .string r.2] := by simp [rdCells]
theorem rdCells_append (rs ts : List R3) : rdCells (rs ++ ts) = rdCells rs ++ rdCells ts := by simp [rdCells]
theorem rdCells_get : ∀ (rs : List R3) (i : Nat), i < rs.length → (rdCells rs)[i * 3]? = some (.int .i64 (rs.getD i r0).1.1) ∧ (rdCells rs)[i * 3 + 1]? = some (.int .i64 (rs.getD i r0).1.2) ∧ (rdCells rs)[i * 3 + 2]? = some (.string (rs.getD i r0).2)
  | [], _, h => by simp at h
  | k :: r, 0, _ => by simp [rdCells]
  | k :: r, i + 1, h => by
    have ih := rdCells_get r i (by simpa using h)
    have e1 : (i + 1) * 3 = i * 3 + 1 + 1 + 1 := by omega
    rw [e1, show i * 3 + 1 + 1 + 1 + 1 = i * 3 + 1 + 1 + 1 + 1 from rfl, show i * 3 + 1 + 1 + 1 + 2 = i * 3 + 2 + 1 + 1 + 1 by omega]
    simp only [rdCells, List.flatMap_cons, List.cons_append, List.nil_append, List.getElem?_cons_succ, List.getD_cons_succ] at *
    exact ih
/-- what is owned leads to its readings -/
theorem rdAt_own {w : World} {base : Nat} {v : Value} {rs : List R3} (h : w.ownsRow base 43 3 v rs.length (rdCells rs)) : rdAt w v rs := by
  rcases h.2 with ⟨rfl, h0⟩ | ⟨g, cap, cur, rfl, hb, hg, hn, hm, hs, ht⟩
  · exact ⟨none, 0, by rw [h0], by omega, .inl h0⟩
  · refine ⟨_, cap, rfl, hn, .inr ⟨g, 0, rfl, (Array.getElem?_eq_some_iff.1 hg).1, fun i hi => ?_⟩⟩
    have hc := rdCells_get rs i hi
    rw [Nat.zero_add, h.cellAt (i * 3) (by omega), h.cellAt (i * 3 + 1) (by omega), h.cellAt (i * 3 + 2) (by omega)]
    exact hc
theorem rd_load {w : World} {g o : Nat} {r : R3} (hc : w.cell? ⟨g, o, none⟩ = some (.int .i64 r.1.1) ∧ w.cell? ⟨g, o + 1, none⟩ = some (.int .i64 r.1.2) ∧ w.cell? ⟨g, o + 2, none⟩ = some (.string r.2)) {w' : World} (hg : g < w.heap.size) (hb : Below w.heap.size w w') :
    (loadVar 43 ⟨g, o, none⟩).run Try.prog w' = .ok (rv r) w' := by
  refine run_loadVar_mid w' g o 43 [.int .i64 r.1.1, .int .i64 r.1.2, .string r.2] _ (fun j v hj => ?_) Try.underlying43 rfl (by kernel_rfl)
  have hj2 : j < 3 := by have := (List.getElem?_eq_some_iff.1 hj).1; simpa using this
  rcases (by omega : j = 0 ∨ j = 1 ∨ j = 2) with rfl | rfl | rfl
  · rw [hb.cell (p := ⟨g, o + 0, none⟩) hg]
    simpa using hc.1.trans (by simpa using hj)
  · rw [hb.cell (p := ⟨g, o + 1, none⟩) hg]
    simpa using hc.2.1.trans (by simpa using hj)
  · rw [hb.cell (p := ⟨g, o + 2, none⟩) hg]
    simpa using hc.2.2.trans (by simpa using hj)
/-- the key of a reading, alone -/
theorem rdk_load {w : World} {g o : Nat} {r : R3} (hc : w.cell? ⟨g, o, none⟩ = some (.int .i64 r.1.1) ∧ w.cell? ⟨g, o + 1, none⟩ = some (.int .i64 r.1.2) ∧ w.cell? ⟨g, o + 2, none⟩ = some (.string r.2)) {w' : World} (hg : g < w.heap.size) (hb : Below w.heap.size w w') :
    (loadVar 41 ⟨g, o, none⟩).run Try.prog w' = .ok (kv r.1) w' := key_load ⟨hc.1, hc.2.1⟩ hg hb
/-- the text of a reading, alone -/
theorem rdl_load {w : World} {g o : Nat} {r : R3} (hc : w.cell? ⟨g, o, none⟩ = some (.int .i64 r.1.1) ∧ w.cell? ⟨g, o + 1, none⟩ = some (.int .i64 r.1.2) ∧ w.cell? ⟨g, o + 2, none⟩ = some (.string r.2)) {w' : World} (hg : g < w.heap.size) (hb : Below w.heap.size w w') :
    w'.cell? ⟨g, o + 2, none⟩ = some (.string r.2) := by
  rw [hb.cell (p := ⟨g, o + 2, none⟩) hg]; exact hc.2.2
end Go.Proofs.Ytnknfmjpkphbpaa
/- Two readings held against each other. -/
namespace Go.Proofs.Ytnknfmjpkphbpaa
open Go.ChangeShapes Go.WideShapes Go.ChangeAt Go.RowKit Go.BigFrame
set_option linter.unusedVariables false
theorem bytes_toList_iff (a b : ByteArray) : a.toList = b.toList ↔ a = b := by
  refine ⟨fun h => ?_, fun h => by rw [h]⟩
  rw [ByteArray.toList_eq, ByteArray.toList_eq] at h
  exact ByteArray.ext (Array.toList_inj.1 h)
theorem key_equal_d (d : Nat) (p q : K2) (w : World) : (Op.equalIn (d + 1 + 1) 41 (kv p) (kv q)).run Try.prog w = .ok (decide (p = q)) w := by
  obtain ⟨a, b⟩ := p; obtain ⟨c, e⟩ := q
  have u3 := Try.underlying3
  have hS : Try.prog.underlying 41 = some (.struct (Try.prog.fieldsOf 41)) := by kernel_rfl
  unfold kv
  rw [run_equalIn_agg w (d + 1) 41 _ _ hS (by kernel_rfl)]
  simp only [Program.fieldsOf, Try.underlying41]
  go_simp
  by_cases h1 : a = c <;> by_cases h2 : b = e <;> simp [h1, h2]
theorem rd_equal_d (d : Nat) (p q : R3) (w : World) : (Op.equalIn (d + 1 + 1 + 1) 43 (rv p) (rv q)).run Try.prog w = .ok (decide (p = q)) w := by
  obtain ⟨⟨a, b⟩, s⟩ := p; obtain ⟨⟨c, e⟩, t⟩ := q
  have us := Try.underlying9
  have hS : Try.prog.underlying 43 = some (.struct (Try.prog.fieldsOf 43)) := by kernel_rfl
  have hk := key_equal_d d (a, b) (c, e) w
  unfold kv at hk
  unfold rv
  rw [run_equalIn_agg w (d + 1 + 1) 43 _ _ hS (by kernel_rfl)]
  simp only [Program.fieldsOf, Try.underlying43]
  go_simp
  simp only [bytes_toList_iff]
  by_cases h1 : a = c <;> by_cases h2 : b = e <;> by_cases h3 : s = t <;> simp [h1, h2, h3]
theorem rd_equal (p q : R3) (w : World) : (Op.equalIn 10000 43 (rv p) (rv q)).run Try.prog w = .ok (decide (p = q)) w := rd_equal_d 9997 p q w
theorem rd_eql (p q : R3) (w : World) : (binOp .eql 43 (rv p) (rv q)).run Try.prog w = .ok (.bool (decide (p = q))) w := by
  have := rd_equal p q w
  unfold rv at *
  rw [run_eql_struct, this]; rfl
theorem rd_neq (p q : R3) (w : World) : (binOp .neq 43 (rv p) (rv q)).run Try.prog w = .ok (.bool (!(decide (p = q)))) w := by
  have := rd_equal p q w
  unfold rv at *
  rw [run_neq_struct, this]; rfl
theorem rd_guard (op : BinOp) (x y : Operand) (p q : R3) (w : World) : (eqGuard op 43 x y (rv p) (rv q)).run Try.prog w = .ok () w := by
  unfold rv
  exact run_eqGuard_agg w op 43 x y _ _ (by kernel_rfl)
end Go.Proofs.Ytnknfmjpkphbpaa
/- The load of a key, as the model has it. -/
namespace Go.Proofs.Ytnknfmjpkphbpaa
open Go.ChangeShapes Go.WideShapes Go.ChangeAt Go.RowKit Go.BigFrame
set_option linter.unusedVariables false

def loadO : List R3 → K2 → Option ByteArray
  | [], _ => none
  | r :: l, k => if r.1 == k then some r.2 else loadO l k
theorem loadO_hit (x : K2) : ∀ (rs : List R3) (k : Nat), k < rs.length → (∀ j, j < k → ((rs.getD j r0).1 == x) = false) → ((rs.getD k r0).1 == x) = true → loadO rs x = some (rs.getD k r0).2
  | [], _, h, _, _ => by simp at h
  | r :: l, 0, _, _, h => by unfold loadO; rw [if_pos (by simpa using h)]; rfl
  | r :: l, k + 1, hk, hn, h => by
    unfold loadO
    have h0 := hn 0 (by omega)
    rw [if_neg (by simpa using h0)]
    exact loadO_hit x l k (by simpa using hk) (fun j hj => by simpa using hn (j + 1) (by omega)) (by simpa using h)
theorem loadO_miss (x : K2) : ∀ (rs : List R3), (∀ j, j < rs.length → ((rs.getD j r0).1 == x) = false) → loadO rs x = none
  | [], _ => rfl
  | r :: l, hn => by
    unfold loadO
    have h0 := hn 0 (by simp)
    rw [if_neg (by simpa using h0)]
    exact loadO_miss x l (fun j hj => by simpa using hn (j + 1) (by simpa using hj))
/-- what LoadOf tells -/
def loadV (o : Option ByteArray) : Value := .tuple #[.string (o.getD ⟨#[]⟩), .bool o.isSome]
end Go.Proofs.Ytnknfmjpkphbpaa
/- Words of several readings: what comes of them (no program). -/
namespace Go.Proofs.Ytnknfmjpkphbpaa
open Go
set_option linter.unusedVariables false

/-- a word: its keys, its load -/
abbrev C2 := List K2 × ByteArray
def codeOkB (x : C2) : Bool := (decide (x.1.length ≤ 6) && keysOkR x.1) && (decide (x.2.size = 4) && (decide (0 < x.1.length) || decide (x.2 = z4)))
def blankC : C2 := ([], z4)
def mixC (a b : C2) : C2 := (mergeV false a.1 b.1, xorS a.2 b.2)
def combM (a b : C2) : C2 × Bool := if codeOkB a = true ∧ codeOkB b = true ∧ codeOkB (mixC a b) = true then (mixC a b, true) else (blankC, false)
theorem codeOk_iff (x : C2) : codeOkB x = true ↔ x.1.length ≤ 6 ∧ keysOkR x.1 = true ∧ x.2.size = 4 ∧ (x.1 = [] → x.2 = z4) := by
  simp only [codeOkB, Bool.and_eq_true, Bool.or_eq_true, decide_eq_true_eq]
  constructor
  · rintro ⟨⟨h1, h2⟩, h3, h4⟩
    refine ⟨h1, h2, h3, fun h => h4.resolve_left ?_⟩
    rw [h]; simp
  · rintro ⟨h1, h2, h3, h4⟩
    refine ⟨⟨h1, h2⟩, h3, ?_⟩
    rcases Nat.eq_zero_or_pos x.1.length with h | h
    · exact .inr (h4 (List.length_eq_zero_iff.1 h))
    · exact .inl h
theorem blank_ok : codeOkB blankC = true := by decide +kernel
theorem comb_iff {a b x : C2} : combM a b = (x, true) ↔ codeOkB a = true ∧ codeOkB b = true ∧ codeOkB x = true ∧ x = mixC a b := by
  unfold combM
  split
  · rename_i h
    constructor
    · intro e
      injection e with e1 e2
      subst e1
      exact ⟨h.1, h.2.1, h.2.2, rfl⟩
    · rintro ⟨_, _, _, rfl⟩; rfl
  · rename_i h
    constructor
    · intro e; injection e with e1 e2; cases e2
    · rintro ⟨h1, h2, h3, rfl⟩; exact absurd ⟨h1, h2, h3⟩ h
theorem mix_ok {a b : C2} (ha : codeOkB a = true) (hb : codeOkB b = true) : mixC a b = (mergeL false a.1 b.1, xorS a.2 b.2) := by
  have h1 := (codeOk_iff a).1 ha
  have h2 := (codeOk_iff b).1 hb
  unfold mixC mergeV
  rw [h1.2.1, h2.2.1]; rfl
theorem comb_no (a b : C2) (h : (combM a b).2 = false) : combM a b = (blankC, false) := by
  unfold combM at *
  split
  · rename_i h1; rw [if_pos h1] at h; cases h
  · rfl
theorem comb_back {a b x : C2} (h : combM a b = (x, true)) : combM x b = (a, true) := by
  obtain ⟨ha, hb, hx, rfl⟩ := comb_iff.1 h
  refine comb_iff.2 ⟨hx, hb, ha, ?_⟩
  rw [mix_ok hx hb, mix_ok ha hb]
  have h1 := (codeOk_iff a).1 ha
  have h2 := (codeOk_iff b).1 hb
  dsimp only
  rw [parted_back h1.2.1 h2.2.1, xorS_back _ _ (by rw [h1.2.2.1, h2.2.2.1])]
theorem comb_self {a : C2} (ha : codeOkB a = true) : combM a a = (blankC, true) := by
  have h1 := (codeOk_iff a).1 ha
  refine comb_iff.2 ⟨ha, ha, blank_ok, ?_⟩
  rw [mix_ok ha ha, parted_self h1.2.1, xorS_self _ h1.2.2.1]; rfl
theorem comb_comm {a b x : C2} (h : combM a b = (x, true)) : combM b a = (x, true) := by
  obtain ⟨ha, hb, hx, rfl⟩ := comb_iff.1 h
  refine comb_iff.2 ⟨hb, ha, hx, ?_⟩
  rw [mix_ok ha hb, mix_ok hb ha]
  have h1 := (codeOk_iff a).1 ha
  have h2 := (codeOk_iff b).1 hb
  rw [merge_comm false h1.2.1 h2.2.1, xorS_comm b.2 a.2 (by rw [h1.2.2.1, h2.2.2.1])]
/-- the loads of keys, put to y one after another -/
def accO (T : List R3) : ByteArray → List K2 → Option ByteArray
  | y, [] => some y
  | y, k :: l => match loadO T k with
    | some z => if z.size = 4 then accO T (xorS y z) l else none
    | none => none
def holdsM (x : C2) (T : List R3) : Bool := match accO T z4 x.1 with
  | some y => decide (y = x.2)
  | none => false
/-- all of a word's keys have loads -/
def allIn (T : List R3) (l : List K2) : Prop := ∀ k ∈ l, ∃ z, loadO T k = some z ∧ z.size = 4
def sumX (T : List R3) : List K2 → ByteArray
  | [] => z4
  | k :: l => xorS ((loadO T k).getD z4) (sumX T l)
theorem sumX_cons (T : List R3) (k : K2) (l : List K2) : sumX T (k :: l) = xorS ((loadO T k).getD z4) (sumX T l) := rfl
theorem sumX_size {T : List R3} : ∀ {l : List K2}, allIn T l → (sumX T l).size = 4
  | [], _ => rfl
  | k :: l, h => by
    obtain ⟨z, hz, h4⟩ := h k (by simp)
    have h2 : (sumX T l).size = 4 := sumX_size (fun j hj => h j (by simp [hj]))
    unfold sumX
    rw [hz, xorS_size _ _ (by rw [h2]; exact h4)]; exact h4
theorem accO_some {T : List R3} : ∀ (l : List K2) (y : ByteArray), y.size = 4 → allIn T l → accO T y l = some (xorS y (sumX T l))
  | [], y, hy, _ => by unfold accO sumX; rw [xorS_z4 y hy]
  | k :: l, y, hy, h => by
    obtain ⟨z, hz, h4⟩ := h k (by simp)
    have hl : allIn T l := fun j hj => h j (by simp [hj])
    unfold accO
    rw [hz]
    dsimp only
    rw [if_pos h4, accO_some l _ (by rw [xorS_size y z (by omega)]; exact hy) hl]
    congr 1
    rw [sumX_cons, hz, xorS_assoc y z (sumX T l) (by omega) (by rw [sumX_size hl]; exact h4)]; rfl
theorem accO_all {T : List R3} : ∀ (l : List K2) (y r : ByteArray), accO T y l = some r → allIn T l
  | [], _, _, _ => fun k hk => by cases hk
  | k :: l, y, r, h => by
    unfold accO at h
    cases hz : loadO T k with
    | none => rw [hz] at h; cases h
    | some z =>
      rw [hz] at h
      dsimp only at h
      split at h
      · rename_i h4
        intro j hj
        rcases List.mem_cons.1 hj with rfl | hj
        · exact ⟨z, hz, h4⟩
        · exact accO_all l _ r h j hj
      · cases h
theorem holds_iff {x : C2} {T : List R3} : holdsM x T = true ↔ allIn T x.1 ∧ x.2 = sumX T x.1 := by
  unfold holdsM
  constructor
  · intro h
    cases ha : accO T z4 x.1 with
    | none => rw [ha] at h; cases h
    | some y =>
      have hall := accO_all _ _ _ ha
      rw [accO_some _ _ rfl hall] at h
      refine ⟨hall, ?_⟩
      have := of_decide_eq_true h
      rw [← this, xorS_z4l _ (sumX_size hall)]
  · rintro ⟨h1, h2⟩
    rw [accO_some _ _ rfl h1]
    exact decide_eq_true (by rw [xorS_z4l _ (sumX_size h1), h2])
theorem holds_blank (T : List R3) : holdsM blankC T = true := holds_iff.2 ⟨fun k hk => (by cases hk), rfl⟩
theorem merge_in {T : List R3} : ∀ (a b : List K2), allIn T a → allIn T b → allIn T (mergeL false a b) ∧ sumX T (mergeL false a b) = xorS (sumX T a) (sumX T b)
  | a, [], ha, hb => by rw [mergeL_nil_r]; exact ⟨ha, by rw [show sumX T [] = z4 from rfl, xorS_z4 _ (sumX_size ha)]⟩
  | [], b, ha, hb => by rw [mergeL_nil_l]; exact ⟨hb, by rw [show sumX T [] = z4 from rfl, xorS_z4l _ (sumX_size hb)]⟩
  | x :: a, y :: b, ha, hb => by
    have ha' : allIn T a := fun j hj => ha j (by simp [hj])
    have hb' : allIn T b := fun j hj => hb j (by simp [hj])
    obtain ⟨zx, hx, x4⟩ := ha x (by simp)
    obtain ⟨zy, hy, y4⟩ := hb y (by simp)
    have sa := sumX_size ha'
    have sb := sumX_size hb'
    have ea : sumX T (x :: a) = xorS zx (sumX T a) := by rw [sumX_cons, hx]; rfl
    have eb : sumX T (y :: b) = xorS zy (sumX T b) := by rw [sumX_cons, hy]; rfl
    have sea : (xorS zx (sumX T a)).size = 4 := by rw [xorS_size _ _ (by omega)]; exact x4
    have seb : (xorS zy (sumX T b)).size = 4 := by rw [xorS_size _ _ (by omega)]; exact y4
    rw [mergeL_cons]
    split
    · obtain ⟨i1, i2⟩ := merge_in a (y :: b) ha' hb
      refine ⟨fun j hj => ?_, ?_⟩
      · rcases List.mem_cons.1 hj with rfl | hj
        · exact ⟨zx, hx, x4⟩
        · exact i1 j hj
      · rw [ea, sumX_cons, hx, i2, eb]
        show xorS zx _ = _
        rw [xorS_assoc zx (sumX T a) _ (by omega) (by omega)]
    · split
      · obtain ⟨i1, i2⟩ := merge_in (x :: a) b ha hb'
        refine ⟨fun j hj => ?_, ?_⟩
        · rcases List.mem_cons.1 hj with rfl | hj
          · exact ⟨zy, hy, y4⟩
          · exact i1 j hj
        · rw [eb, sumX_cons, hy, i2, ea]
          show xorS zy _ = _
          rw [← xorS_assoc zy (xorS zx (sumX T a)) (sumX T b) (by omega) (by omega), xorS_comm zy (xorS zx (sumX T a)) (by omega), xorS_assoc _ zy _ (by omega) (by omega)]
      · rename_i n1 n2
        have exy : x = y := ahead_total (Bool.eq_false_iff.2 n1) (Bool.eq_false_iff.2 n2)
        subst exy
        have ezz : zx = zy := by rw [hx] at hy; cases hy; rfl
        subst ezz
        obtain ⟨i1, i2⟩ := merge_in a b ha' hb'
        have goal : allIn T (mergeL false a b) ∧ sumX T (mergeL false a b) = xorS (xorS zx (sumX T a)) (xorS zx (sumX T b)) := by
          refine ⟨i1, ?_⟩
          rw [i2, xorS_comm zx (sumX T a) (by omega), xorS_assoc (sumX T a) zx _ (by omega) (by omega), ← xorS_assoc zx zx (sumX T b) rfl (by omega), xorS_self zx x4, xorS_z4l _ sb]
        rw [ea, eb]
        simpa using goal
termination_by a b => a.length + b.length
theorem holds_comb {a b x : C2} {T : List R3} (h : combM a b = (x, true)) (ha : holdsM a T = true) (hb : holdsM b T = true) : holdsM x T = true := by
  obtain ⟨oa, ob, ox, rfl⟩ := comb_iff.1 h
  obtain ⟨a1, a2⟩ := holds_iff.1 ha
  obtain ⟨b1, b2⟩ := holds_iff.1 hb
  obtain ⟨m1, m2⟩ := merge_in a.1 b.1 a1 b1
  rw [mix_ok oa ob]
  exact holds_iff.2 ⟨m1, by dsimp only; rw [m2, a2, b2]⟩
end Go.Proofs.Ytnknfmjpkphbpaa
/- What is known is taken out of a word: what comes of it (no program). -/
namespace Go.Proofs.Ytnknfmjpkphbpaa
open Go
set_option linter.unusedVariables false

def redStep (x : C2) (r : R3) : C2 := if hasKeyB x.1 r.1 then (mergeV false x.1 [r.1], xorS x.2 r.2) else x
def redF (x : C2) (T : List R3) : C2 := T.foldl redStep x
def redM (x : C2) (T : List R3) : C2 := if codeOkB x = true ∧ rdsOkR T = true then redF x T else x
theorem redF_snoc (x : C2) (T : List R3) (r : R3) : redF x (T ++ [r]) = redStep (redF x T) r := by simp [redF, List.foldl_append]
theorem hasKey_iff (ks : List K2) (k : K2) : hasKeyB ks k = true ↔ k ∈ ks := by
  unfold hasKeyB
  rw [List.any_eq_true]
  constructor
  · rintro ⟨x, hx, he⟩
    have : x = k := by simpa using he
    exact this ▸ hx
  · intro h; exact ⟨k, h, by simp⟩
theorem loadO_snoc (T : List R3) (r : R3) (k : K2) : loadO (T ++ [r]) k = match loadO T k with | some z => some z | none => if r.1 = k then some r.2 else none := by
  induction T with
  | nil => simp [loadO]
  | cons q l ih =>
    rw [List.cons_append]
    unfold loadO
    by_cases h : q.1 = k
    · simp [h]
    · simp only [beq_iff_eq, h, if_false]; exact ih
theorem filter_ok {p : K2 → Bool} {l : List K2} (h : keysOkR l = true) : keysOkR (l.filter p) = true := by
  rw [keysR_iff] at *
  exact ⟨fun k hk => h.1 k (List.mem_filter.1 hk).1, List.Pairwise.filter _ h.2⟩
def outK (T : List R3) (l : List K2) : List K2 := l.filter fun k => (loadO T k).isNone
def inK (T : List R3) (l : List K2) : List K2 := l.filter fun k => (loadO T k).isSome
theorem key_one {k : K2} (h : keyOkB k = true) : keysOkR [k] = true := by
  simp [keysOkR, stepB, List.range_succ, h]
/-- right readings, key by key: each load is of four bytes -/
theorem loadO_four {T : List R3} (h : ∀ r ∈ T, r.2.size = 4) {k : K2} {z : ByteArray} (hz : loadO T k = some z) : z.size = 4 := by
  induction T with
  | nil => cases hz
  | cons q l ih =>
    unfold loadO at hz
    split at hz
    · cases hz; exact h q (by simp)
    · exact ih (fun r hr => h r (by simp [hr])) hz
theorem inK_all {T : List R3} (h : ∀ r ∈ T, r.2.size = 4) (l : List K2) : allIn T (inK T l) := by
  intro k hk
  have := (List.mem_filter.1 hk).2
  cases hz : loadO T k with
  | none => rw [hz] at this; cases this
  | some z => exact ⟨z, rfl, loadO_four h hz⟩
theorem sum_step {T : List R3} {r : R3} (h : ∀ q ∈ T, q.2.size = 4) (h4 : r.2.size = 4) (hn : loadO T r.1 = none) : ∀ (l : List K2), l.Nodup →
    sumX (T ++ [r]) (inK (T ++ [r]) l) = if r.1 ∈ l then xorS (sumX T (inK T l)) r.2 else sumX T (inK T l)
  | [], _ => by simp [inK, sumX]
  | k :: l, hd => by
    have hd' := List.nodup_cons.1 hd
    have ih := sum_step h h4 hn l hd'.2
    have sz := sumX_size (inK_all h l)
    by_cases hk : r.1 = k
    · subst hk
      have e1 : inK (T ++ [r]) (r.1 :: l) = r.1 :: inK (T ++ [r]) l := by simp [inK, loadO_snoc, hn]
      have e2 : inK T (r.1 :: l) = inK T l := by simp [inK, hn]
      rw [e1, e2, sumX_cons, loadO_snoc, hn, if_pos (by simp), ih, if_neg hd'.1]
      simp only [if_true, Option.getD_some]
      rw [if_pos (show r.1 ∈ r.1 :: l by simp)]
      exact xorS_comm r.2 (sumX T (inK T l)) (by omega)
    · have e0 : loadO (T ++ [r]) k = loadO T k := by
        rw [loadO_snoc]
        cases loadO T k with
        | some z => rfl
        | none => simp [hk]
      have em : (r.1 ∈ k :: l) ↔ r.1 ∈ l := by simp [hk]
      cases hz : loadO T k with
      | none =>
        have e1 : inK (T ++ [r]) (k :: l) = inK (T ++ [r]) l := by simp [inK, e0, hz]
        have e2 : inK T (k :: l) = inK T l := by simp [inK, hz]
        rw [e1, e2, ih]
        simp only [em]
      | some z =>
        have z4' := loadO_four h hz
        have e1 : inK (T ++ [r]) (k :: l) = k :: inK (T ++ [r]) l := by simp [inK, e0, hz]
        have e2 : inK T (k :: l) = k :: inK T l := by simp [inK, hz]
        rw [e1, e2, sumX_cons, sumX_cons, e0, hz, ih]
        simp only [em, Option.getD_some]
        split
        · rw [xorS_assoc z _ r.2 (by omega) (by omega)]
        · rfl
theorem rising_nodup {l : List K2} (h : keysOkR l = true) : l.Nodup := by
  have hr := ((keysR_iff l).1 h).2
  refine List.Pairwise.imp ?_ hr
  intro a b hab he
  rw [he, ahead_irrefl] at hab
  cases hab
/-- what is left, and what is taken out: whatever the order -/
theorem redF_form (x : C2) (hx : keysOkR x.1 = true) (h4 : x.2.size = 4) : ∀ (n : Nat) (T : List R3), T.length = n → (∀ r ∈ T, rdOkB r = true) → (T.map (·.1)).Nodup →
    redF x T = (outK T x.1, xorS x.2 (sumX T (inK T x.1)))
  | 0, T, hn, _, _ => by
    obtain rfl := List.length_eq_zero_iff.1 hn
    have e1 : outK [] x.1 = x.1 := by simp [outK, loadO]
    have e2 : inK [] x.1 = [] := by simp [inK, loadO]
    rw [e1, e2, show sumX ([] : List R3) [] = z4 from rfl, xorS_z4 _ h4]; rfl
  | n + 1, T, hn, hok, hd => by
    have hne : T ≠ [] := by rintro rfl; cases hn
    obtain ⟨P, r, rfl⟩ : ∃ P r, T = P ++ [r] := ⟨T.dropLast, T.getLast hne, (List.dropLast_concat_getLast hne).symm⟩
    have hP : P.length = n := by simpa using hn
    have okP : ∀ q ∈ P, rdOkB q = true := fun q hq => hok q (by simp [hq])
    have okr : rdOkB r = true := hok r (by simp)
    have hd2 : (P.map (·.1)).Nodup ∧ r.1 ∉ P.map (·.1) := by
      rw [List.map_append, List.nodup_append] at hd
      exact ⟨hd.1, fun hm => hd.2.2 _ hm _ (by simp) rfl⟩
    have four : ∀ q ∈ P, q.2.size = 4 := fun q hq => by
      have := okP q hq
      simp only [rdOkB, Bool.and_eq_true, decide_eq_true_eq] at this
      exact this.2
    have okr' : keyOkB r.1 = true ∧ r.2.size = 4 := by
      simp only [rdOkB, Bool.and_eq_true, decide_eq_true_eq] at okr
      exact okr
    have hno : loadO P r.1 = none := by
      cases hz : loadO P r.1 with
      | none => rfl
      | some z =>
        exfalso
        clear hok okP four hd hn hP hne
        induction P with
        | nil => cases hz
        | cons q l ih =>
          unfold loadO at hz
          split at hz
          · rename_i he
            have : q.1 = r.1 := by simpa using he
            exact hd2.2 (by simp [this])
          · exact ih (by simp at hd2; exact ⟨hd2.1.2, by simpa using hd2.2.2⟩) hz
    rw [redF_snoc, redF_form x hx h4 n P hP okP hd2.1]
    have sz := sumX_size (inK_all four x.1)
    rw [sum_step four okr'.2 hno x.1 (rising_nodup hx)]
    have hmem : hasKeyB (outK P x.1) r.1 = true ↔ r.1 ∈ x.1 := by
      rw [hasKey_iff, outK, List.mem_filter, hno]; simp
    unfold redStep
    dsimp only
    by_cases hk : r.1 ∈ x.1
    · rw [if_pos (hmem.2 hk), if_pos hk]
      have ho : keysOkR (outK P x.1) = true := filter_ok hx
      have h1 : keysOkR [r.1] = true := key_one okr'.1
      have eK : mergeV false (outK P x.1) [r.1] = outK (P ++ [r]) x.1 := by
        unfold mergeV
        rw [ho, h1]
        show mergeL false (outK P x.1) [r.1] = _
        refine ok_ext (merge_ok false _ _ ho h1) (filter_ok hx) fun k => ?_
        rw [merge_mem ho h1]
        simp only [outK, List.mem_filter, List.mem_singleton, loadO_snoc]
        by_cases hkr : k = r.1
        · subst hkr; simp [hno, hk]
        · have hkr' : ¬ r.1 = k := fun e => hkr e.symm
          cases loadO P k <;> simp [hkr, hkr']
      rw [eK, xorS_assoc _ _ _ (by omega) (by omega)]
    · rw [if_neg (fun h => hk (hmem.1 h)), if_neg hk]
      have eK : outK (P ++ [r]) x.1 = outK P x.1 := by
        unfold outK
        refine List.filter_congr fun k hk' => ?_
        rw [loadO_snoc]
        have hkr : ¬ r.1 = k := fun e => hk (e ▸ hk')
        cases loadO P k <;> simp [hkr]
      rw [eK]
theorem rds_parts {T : List R3} (h : rdsOkR T = true) : (∀ r ∈ T, rdOkB r = true) ∧ (T.map (·.1)).Nodup := by
  have key : ∀ i, i < T.length → rdOkB (T.getD i r0) = true ∧ (i = 0 ∨ aheadB (T.getD (i - 1) r0).1 (T.getD i r0).1 = true) := by
    unfold rdsOkR at h
    rw [List.all_eq_true] at h
    intro i hi
    have := h i (List.mem_range.2 hi)
    simpa [rdStep] using this
  constructor
  · intro r hr
    obtain ⟨i, hi, rfl⟩ := List.mem_iff_getElem.1 hr
    have := (key i hi).1
    simpa [List.getD, List.getElem?_eq_getElem hi] using this
  · have H : ∀ i d, i + 1 + d < T.length → aheadB (T.getD i r0).1 (T.getD (i + 1 + d) r0).1 = true := by
      intro i d
      induction d with
      | zero => intro hd; exact (key (i + 1) hd).2.resolve_left (by omega)
      | succ d ih => intro hd; exact ahead_trans (ih (by omega)) ((key (i + 1 + d + 1) hd).2.resolve_left (by omega))
    rw [List.Nodup, List.pairwise_iff_getElem]
    intro i j hi hj hij he
    rw [List.length_map] at hi hj
    have := H i (j - (i + 1)) (by omega)
    rw [show i + 1 + (j - (i + 1)) = j by omega] at this
    simp only [List.getElem_map] at he
    have e1 : (T.getD i r0).1 = (T.getD j r0).1 := by simpa [List.getD, List.getElem?_eq_getElem hi, List.getElem?_eq_getElem hj] using he
    rw [e1, ahead_irrefl] at this
    cases this
/-- a word, reduced: by whatever way -/
theorem redM_form {x : C2} {T : List R3} (hx : codeOkB x = true) (hT : rdsOkR T = true) : redM x T = (outK T x.1, xorS x.2 (sumX T (inK T x.1))) := by
  obtain ⟨h1, h2⟩ := rds_parts hT
  have h := (codeOk_iff x).1 hx
  unfold redM
  rw [if_pos ⟨hx, hT⟩]
  exact redF_form x h.2.1 h.2.2.1 _ T rfl h1 h2
theorem redM_no {x : C2} {T : List R3} (h : ¬ (codeOkB x = true ∧ rdsOkR T = true)) : redM x T = x := by unfold redM; rw [if_neg h]
theorem rds_four {T : List R3} (hT : rdsOkR T = true) : ∀ r ∈ T, r.2.size = 4 := fun r hr => by
  have := (rds_parts hT).1 r hr
  simp only [rdOkB, Bool.and_eq_true, decide_eq_true_eq] at this
  exact this.2
/-- each key of the word is known, or is left -/
theorem red_key {x : C2} {T : List R3} (hx : codeOkB x = true) (hT : rdsOkR T = true) (k : K2) (hk : k ∈ x.1) : hasKeyB (redM x T).1 k = (loadO T k).isNone := by
  rw [redM_form hx hT]
  rw [Bool.eq_iff_iff, hasKey_iff]
  simp [outK, List.mem_filter, hk]
theorem red_len {x : C2} {T : List R3} (hx : codeOkB x = true) (hT : rdsOkR T = true) : (redM x T).1.length ≤ x.1.length := by
  rw [redM_form hx hT]; exact List.length_filter_le _ _
theorem red_out {T : List R3} (l : List K2) : outK T (outK T l) = outK T l ∧ inK T (outK T l) = [] := by
  constructor
  · simp [outK, List.filter_filter]
  · unfold inK outK
    rw [List.filter_filter, List.filter_eq_nil_iff]
    intro k _
    cases loadO T k <;> simp
theorem red_again {x : C2} {T : List R3} (hx : codeOkB x = true) (hT : rdsOkR T = true) : redM (redM x T) T = redM x T := by
  have h := (codeOk_iff x).1 hx
  have hf := rds_four hT
  have sz := sumX_size (inK_all hf x.1)
  have s4 : (xorS x.2 (sumX T (inK T x.1))).size = 4 := by rw [xorS_size _ _ (by omega)]; exact h.2.2.1
  obtain ⟨h1, h2⟩ := rds_parts hT
  obtain ⟨o1, o2⟩ := red_out (T := T) x.1
  rw [redM_form hx hT]
  by_cases hy : codeOkB (outK T x.1, xorS x.2 (sumX T (inK T x.1))) = true
  · rw [redM_form hy hT]
    dsimp only
    rw [o1, o2, show sumX T [] = z4 from rfl, xorS_z4 _ s4]
  · rw [redM_no (fun h => hy h.1)]
/-- what holds, and is known whole, is nothing -/
theorem red_holds {x : C2} {T : List R3} (hx : codeOkB x = true) (hT : rdsOkR T = true) (hh : holdsM x T = true) : (redM x T).1 = [] := by
  rw [redM_form hx hT]
  show outK T x.1 = []
  unfold outK
  rw [List.filter_eq_nil_iff]
  intro k hk
  obtain ⟨z, hz, _⟩ := (holds_iff.1 hh).1 k hk
  rw [hz]; simp
theorem loadO_nodup {T : List R3} (h : (T.map (·.1)).Nodup) : ∀ r ∈ T, loadO T r.1 = some r.2 := by
  induction T with
  | nil => intro r hr; cases hr
  | cons q l ih =>
    intro r hr
    rw [List.map_cons, List.nodup_cons] at h
    unfold loadO
    rcases List.mem_cons.1 hr with rfl | hr
    · rw [if_pos (by simp)]
    · have h2 : q.1 ≠ r.1 := fun he => h.1 (he ▸ List.mem_map_of_mem hr)
      rw [if_neg (by simpa using h2)]
      exact ih h.2 r hr
/-- the word of one reading -/
def singM (r : R3) : C2 := if rdOkB r then ([r.1], r.2) else blankC
theorem sing_ok (r : R3) : codeOkB (singM r) = true := by
  unfold singM
  split
  · rename_i h
    simp only [rdOkB, Bool.and_eq_true, decide_eq_true_eq] at h
    exact (codeOk_iff _).2 ⟨by simp, key_one h.1, h.2, fun e => by cases e⟩
  · exact blank_ok
theorem sing_holds {T : List R3} (hT : rdsOkR T = true) (r : R3) (hr : r ∈ T) : holdsM (singM r) T = true := by
  obtain ⟨h1, h2⟩ := rds_parts hT
  have ho := h1 r hr
  have h4 := rds_four hT r hr
  unfold singM
  rw [ho]
  have hl := loadO_nodup h2 r hr
  refine holds_iff.2 ⟨fun k hk => ?_, ?_⟩
  · obtain rfl : k = r.1 := by simpa using hk
    exact ⟨_, hl, h4⟩
  · show r.2 = sumX T [r.1]
    rw [sumX_cons, hl, show sumX T [] = z4 from rfl, Option.getD_some, xorS_z4 _ h4]
end Go.Proofs.Ytnknfmjpkphbpaa
/- The model's chapter 3, walked: keys that rise. -/
namespace Go.Proofs.Ytnknfmjpkphbpaa
open Go.ChangeShapes Go.WideShapes Go.ChangeAt Go.RowKit Go.BigFrame
set_option linter.unusedVariables false

set_option maxRecDepth 100000 in
theorem skeysok_any (v : Value) (ks : List K2) (w : World) (h : keysAt w v ks) (hs : ks.length ≤ 2000000) : Calls Try.prog 62 #[v] w fun e w' => e = .returned (.bool (keysOkR ks)) ∧ Below w.heap.size w w' := by
  obtain ⟨a, cap, rfl, hcap, hcells⟩ := h
  go_enter Try.func62, Try.ntmps62
  go_wp2
  go_loopw [3] (fun i wr => ∃ k : Nat, k ≤ ks.length ∧ i = .int .i64 k ∧ (List.range k).all (stepB ks) = true ∧ Below w.heap.size w wr) (fun i _ => ks.length - (intOf i).toNat)
  case atStart => exact ⟨0, Nat.zero_le _, rfl, rfl, Below.refl _ _⟩
  case round =>
    obtain ⟨k, hk, rfl, hall, hb⟩ := hrel
    by_cases hlt : k < ks.length
    · obtain ⟨g, off, rfl, hg, hcs⟩ := hcells.resolve_left (by omega)
      have z0 : (0 : Int) ≤ (k : Int) := by omega
      have z1 : (k : Int) < (ks.length : Int) := by omega
      have c1 := hcs k hlt
      have HK := Lib.hid (fun w => skeyok_any (ks.getD k (0, 0)) w)
      have hst : stepB ks k = (keyOkB (ks.getD k (0, 0)) && (decide (k = 0) || aheadB (ks.getD (k - 1) (0, 0)) (ks.getD k (0, 0)))) := rfl
      have hsu := keysR_succ ks k
      have HST := Lib.hid hst; clear hst
      cases hko : keyOkB (ks.getD k (0, 0)) with
      | false =>
        rw [hko] at HK HST
        have hf : keysOkR ks = false := stepB_false hlt (by rw [HST.out]; rfl)
        have HF := Lib.hid hf
        clear hcs hcells hko hf HST hsu
        generalize ks.getD k (0, 0) = kx at *
        have L1 := fun w' hb => key_load c1 (w' := w') hg hb
        clear c1
        go_wp2
        refine wp_region_below w (by kernel_rfl) (by kernel_rfl) hb ?_
        repeat (first
          | go_big_quiet_skip
          | (go_big_quiet_want
             first
               | (go_big_quiet_op; go_big_quiet_on)
               | (refine q_load 41 _ _ _ rfl rfl L1 ?_; simp only [Act.put, List.setIfInBounds_toArray, List.set_cons_zero, List.set_cons_succ]; go_big_quiet_on)
               | (go_big_quiet_op; refine ⟨_, fun _ _ => rfl, ?_⟩; go_big_quiet_on)
               | (go_big_quiet_op; apply Exists.intro; refine ⟨fun w' hw' => ?_, ?_⟩
                  · first
                    | (refine (HK.out w').mono ?_
                       rintro e w2 ⟨rfl, hb2⟩
                       exact ⟨rfl, hw'.trans (hb2.mono hw'.size)⟩)
                  go_big_quiet_on)))
        refine wpQuiet_nil ?_
        intro w2 hb2
        clear L1 HK hb
        go_wp2
        go_ret
        exact ⟨by rw [HF.out]; rfl, hb2⟩
      | true =>
        rw [hko] at HK HST
        by_cases hk0 : k = 0
        · subst hk0
          have ht : (List.range (0 + 1)).all (stepB ks) = true := by rw [hsu, HST.out]; rfl
          have HT := Lib.hid ht
          clear hcs hcells hko ht HST hsu hall
          generalize ks.getD 0 (0, 0) = kx at *
          have L1 := fun w' hb => key_load c1 (w' := w') hg hb
          clear c1
          have y0 : ¬ (0 : Int) < ((0 : Nat) : Int) := by omega
          simp only [Nat.zero_mul, Nat.add_zero] at L1
          go_wp2
          refine wp_region_below w (by kernel_rfl) (by kernel_rfl) hb ?_
          repeat (first
            | go_big_quiet_skip
            | (go_big_quiet_want
               first
                 | (go_big_quiet_op; go_big_quiet_on)
                 | (refine q_load 41 _ _ _ rfl rfl L1 ?_; simp only [Act.put, List.setIfInBounds_toArray, List.set_cons_zero, List.set_cons_succ]; go_big_quiet_on)
                 | (go_big_quiet_op; refine ⟨_, fun _ _ => rfl, ?_⟩; go_big_quiet_on)
                 | (go_big_quiet_op; apply Exists.intro; refine ⟨fun w' hw' => ?_, ?_⟩
                    · first
                      | (refine (HK.out w').mono ?_
                         rintro e w2 ⟨rfl, hb2⟩
                         exact ⟨rfl, hw'.trans (hb2.mono hw'.size)⟩)
                    go_big_quiet_on)))
          refine wpQuiet_nil ?_
          intro w2 hb2
          clear L1 HK hb
          go_wp2
          exact ⟨⟨1, by omega, by go_num, HT.out, hb2⟩, by simp [intOf]; omega⟩
        · have ha := hcs (k - 1) (by omega)
          rw [show off + (k - 1) * 2 = off + (k - 1) * 2 from rfl] at ha
          have HA := Lib.hid (fun w => sahead_any (ks.getD (k - 1) (0, 0)) (ks.getD k (0, 0)) w)
          have d0 : decide (k = 0) = false := by simpa using hk0
          rw [d0] at HST
          have y0 : (0 : Int) < (k : Int) := by omega
          have yk : 0 < k := by omega
          have y1 : (0 : Int) ≤ (k : Int) - 1 := by omega
          have y2 : (k : Int) - 1 < (ks.length : Int) := by omega
          have ew : IntKind.i64.wrap ((k : Int) - 1) = (k : Int) - 1 := IntWalk.i64_in _ (by omega)
          have et : ((k : Int) - 1).toNat = k - 1 := by omega
          cases hah : aheadB (ks.getD (k - 1) (0, 0)) (ks.getD k (0, 0)) with
          | false =>
            rw [hah] at HA HST
            have hf : keysOkR ks = false := stepB_false hlt (by rw [HST.out]; rfl)
            have HF := Lib.hid hf
            clear hcs hcells hko hf HST hsu hah
            generalize ks.getD k (0, 0) = kx at *
            generalize ks.getD (k - 1) (0, 0) = ky at *
            have L1 := fun w' hb => key_load c1 (w' := w') hg hb
            have L2 := fun w' hb => key_load ha (w' := w') hg hb
            clear c1 ha
            go_wp2
            refine wp_region_below w (by kernel_rfl) (by kernel_rfl) hb ?_
            repeat (first
              | go_big_quiet_skip
              | (go_big_quiet_want
                 first
                   | (go_big_quiet_op; go_big_quiet_on)
                   | (refine q_load 41 _ _ _ rfl rfl L1 ?_; simp only [Act.put, List.setIfInBounds_toArray, List.set_cons_zero, List.set_cons_succ]; go_big_quiet_on)
                   | (refine q_load 41 _ _ _ rfl rfl L2 ?_; simp only [Act.put, List.setIfInBounds_toArray, List.set_cons_zero, List.set_cons_succ]; go_big_quiet_on)
                   | (go_big_quiet_op; refine ⟨_, fun _ _ => rfl, ?_⟩; go_big_quiet_on)
                   | (go_big_quiet_op; apply Exists.intro; refine ⟨fun w' hw' => ?_, ?_⟩
                      · first
                        | (refine (HK.out w').mono ?_
                           rintro e w2 ⟨rfl, hb2⟩
                           exact ⟨rfl, hw'.trans (hb2.mono hw'.size)⟩)
                        | (refine (HA.out w').mono ?_
                           rintro e w2 ⟨rfl, hb2⟩
                           exact ⟨rfl, hw'.trans (hb2.mono hw'.size)⟩)
                      go_big_quiet_on)))
            refine wpQuiet_nil ?_
            intro w2 hb2
            clear L1 L2 HK HA hb
            go_wp2
            go_ret
            exact ⟨by rw [HF.out]; rfl, hb2⟩
          | true =>
            rw [hah] at HA HST
            have ht : (List.range (k + 1)).all (stepB ks) = true := by rw [hsu, hall, HST.out]; rfl
            have HT := Lib.hid ht
            clear hcs hcells hko ht HST hsu hah hall
            generalize ks.getD k (0, 0) = kx at *
            generalize ks.getD (k - 1) (0, 0) = ky at *
            have L1 := fun w' hb => key_load c1 (w' := w') hg hb
            have L2 := fun w' hb => key_load ha (w' := w') hg hb
            clear c1 ha
            go_wp2
            refine wp_region_below w (by kernel_rfl) (by kernel_rfl) hb ?_
            repeat (first
              | go_big_quiet_skip
              | (go_big_quiet_want
                 first
                   | (go_big_quiet_op; go_big_quiet_on)
                   | (refine q_load 41 _ _ _ rfl rfl L1 ?_; simp only [Act.put, List.setIfInBounds_toArray, List.set_cons_zero, List.set_cons_succ]; go_big_quiet_on)
                   | (refine q_load 41 _ _ _ rfl rfl L2 ?_; simp only [Act.put, List.setIfInBounds_toArray, List.set_cons_zero, List.set_cons_succ]; go_big_quiet_on)
                   | (go_big_quiet_op; refine ⟨_, fun _ _ => rfl, ?_⟩; go_big_quiet_on)
                   | (go_big_quiet_op; apply Exists.intro; refine ⟨fun w' hw' => ?_, ?_⟩
                      · first
                        | (refine (HK.out w').mono ?_
                           rintro e w2 ⟨rfl, hb2⟩
                           exact ⟨rfl, hw'.trans (hb2.mono hw'.size)⟩)
                        | (refine (HA.out w').mono ?_
                           rintro e w2 ⟨rfl, hb2⟩
                           exact ⟨rfl, hw'.trans (hb2.mono hw'.size)⟩)
                      go_big_quiet_on)))
            refine wpQuiet_nil ?_
            intro w2 hb2
            clear L1 L2 HK HA hb
            go_wp2
            exact ⟨⟨k + 1, by omega, by go_num, HT.out, hb2⟩, by simp [intOf]; omega⟩
    · obtain rfl : k = ks.length := by omega
      have HF := Lib.hid hall
      go_wp2
      go_ret
      exact ⟨by unfold keysOkR; rw [HF.out]; rfl, hb⟩
end Go.Proofs.Ytnknfmjpkphbpaa
/- A reading that is right, by the model. -/
namespace Go.Proofs.Ytnknfmjpkphbpaa
open Go.ChangeShapes Go.WideShapes Go.ChangeAt Go.RowKit Go.BigFrame
set_option linter.unusedVariables false

theorem sreadingok_any (r : R3) (w : World) : Calls Try.prog 59 #[rv r] w fun e w' => e = .returned (.bool (rdOkB r)) ∧ Below w.heap.size w w' := by
  obtain ⟨⟨n, s⟩, x⟩ := r
  unfold rdOkB rv
  dsimp only
  have hb : Below w.heap.size w (w.alloc (.cells #[.int .i64 n, .int .i64 s, .string x] 43)) := (Below.refl _ _).alloc (Nat.le_refl _) _
  have L1 := rdk_load (r := ((n, s), x)) (w := w.alloc (.cells #[.int .i64 n, .int .i64 s, .string x] 43)) (g := w.heap.size) (o := 0) ⟨by simp, by simp, by simp⟩ (by simp) (Below.refl _ _)
  have c2 : (w.alloc (.cells #[.int .i64 n, .int .i64 s, .string x] 43)).cell? ⟨w.heap.size, 2, none⟩ = some (.string x) := by simp
  have hlt : w.heap.size < (w.alloc (.cells #[.int .i64 n, .int .i64 s, .string x] 43)).heap.size := by simp
  have H1 := fun w => skeyok_any (n, s) w
  go_enter Try.func59, Try.ntmps59
  have HZ := Lib.hid (show ((x.size : Int) = 4) = (x.size = 4) from propext (by omega))
  generalize keyOkB (n, s) = p at *
  dsimp only at L1
  cases p with
  | false =>
    go_wp2_with fail
    refine (H1 _).mono ?_
    rintro e w1 ⟨rfl, hb1⟩
    have hB := hb.trans (hb1.mono hb.size)
    go_wp2
    go_ret
    exact ⟨by simp, hB⟩
  | true =>
    go_wp2_with fail
    refine (H1 _).mono ?_
    rintro e w1 ⟨rfl, hb1⟩
    have hB := hb.trans (hb1.mono hb.size)
    have c3 : w1.cell? ⟨w.heap.size, 2, none⟩ = some (.string x) := (hb1.cell (p := ⟨w.heap.size, 2, none⟩) hlt).trans c2
    by_cases h4 : x.size = 4
    · have e4 : (x.size : Int) = 4 := by omega
      clear hb hb1 c2 H1 L1
      go_wp2
      go_ret
      exact ⟨by simp [h4], hB⟩
    · have e4 : ¬ (x.size : Int) = 4 := by omega
      clear hb hb1 c2 H1 L1
      go_wp2
      go_ret
      exact ⟨by simp [h4, e4], hB⟩
end Go.Proofs.Ytnknfmjpkphbpaa
/- What is owned: its cells, its shape, an older base. -/
namespace Go.Proofs.Ytnknfmjpkphbpaa
open Go.ChangeShapes Go.WideShapes Go.ChangeAt Go.RowKit Go.BigFrame
set_option linter.unusedVariables false
theorem own_cell {w : World} {base g n cap : Nat} {e : TypeId} {size : Nat} {xs : List Value} (h : w.ownsRow base e size (.slice (some ⟨g, 0, none⟩) n cap) n xs) (j : Nat) (hj : j < n * size) :
    w.cell? ⟨g, j, none⟩ = some (xs.getD j undef) ∧ w.frozen? ⟨g, j, none⟩ = false := by
  have hl : xs.length = n * size := h.1
  refine ⟨?_, ?_⟩
  · rw [h.cellAt j hj]
    simp [List.getD, show j < xs.length by omega]
  · rcases h.2 with ⟨h1, _⟩ | ⟨g', cap', cur, h1, _, hg, _⟩
    · simp at h1
    · simp only [Value.slice.injEq, Option.some.injEq, Addr.mk.injEq, and_true, true_and] at h1
      obtain ⟨rfl, rfl⟩ := h1
      simp [World.frozen?, hg]
theorem ownsRowK_shape {w : World} {base n : Nat} {e : TypeId} {v : Value} {size : Nat} {xs : List Value} (h : w.ownsRow base e size v n xs) :
    (v = .slice none 0 0 ∧ n = 0) ∨ ∃ g cap, v = .slice (some ⟨g, 0, none⟩) n cap ∧ n ≤ cap ∧ cap ≤ maxLen ∧ base ≤ g ∧ g < w.heap.size := by
  rcases h.2 with h1 | ⟨g, cap, cur, rfl, h2, h3, h4, h5, _⟩
  · exact .inl h1
  · exact .inr ⟨g, cap, rfl, h4, h5, h2, (Array.getElem?_eq_some_iff.1 h3).1⟩
theorem own_base {w : World} {base base' n : Nat} {e : TypeId} {size : Nat} {v : Value} {xs : List Value} (h : w.ownsRow base' e size v n xs) (hb : base ≤ base') : w.ownsRow base e size v n xs := by
  refine ⟨h.1, h.2.imp_right ?_⟩
  rintro ⟨g, cap, cur, h1, h2, h3⟩
  exact ⟨g, cap, cur, h1, Nat.le_trans hb h2, h3⟩
end Go.Proofs.Ytnknfmjpkphbpaa
/- Two cells made last. -/
namespace Go.Proofs.Ytnknfmjpkphbpaa
set_option linter.unusedVariables false

theorem cell_two_new (w : World) (x y : Value) (e : TypeId) : ∀ j u, ([x, y] : List Value)[j]? = some u → (w.alloc (.cells #[x, y] e)).cell? ((⟨w.heap.size, 0, none⟩ : Addr).add j) = some u := by
  intro j u hj
  have : j < 2 := by have := (List.getElem?_eq_some_iff.1 hj).1; simpa using this
  rcases (by omega : j = 0 ∨ j = 1) with rfl | rfl <;> simpa [Addr.add_lit] using hj
end Go.Proofs.Ytnknfmjpkphbpaa
/- A result that lies in a cell; the blocks made last. -/
namespace Go.Proofs.Ytnknfmjpkphbpaa
open Go.ChangeShapes Go.WideShapes Go.ChangeAt Go.RowKit
set_option linter.unusedVariables false
theorem results_cell {fn : Func} {p : Tmp} {ty : TypeId} (h : fn.results = #[.cell p ty]) (tmps : Array Value) (P : Program) (w : World) :
    (results fn tmps).run P w = ((asAddr (tmps.getD p undef)).run P w).andThen fun a w₁ => (loadVar ty a).run P w₁ := by
  simp only [results, h]
  simp [Sem.run_bind]
theorem heap_first (w : World) (o c : Obj) : ((w.alloc c).alloc o).heap[w.heap.size]? = some c := by
  show ((w.heap.push c).push o)[w.heap.size]? = some c
  rw [Array.getElem?_push, if_neg (by simp), Array.getElem?_push, if_pos rfl]
theorem heap_mid (w : World) (a b c : Obj) : (((w.alloc a).alloc b).alloc c).heap[w.heap.size + 1]? = some b := by
  show (((w.heap.push a).push b).push c)[w.heap.size + 1]? = some b
  rw [Array.getElem?_push, if_neg (by simp), Array.getElem?_push, if_pos (by simp)]
theorem results_tmp_cell {fn : Func} {p u : Tmp} {ty : TypeId} (h : fn.results = #[.tmp u, .cell p ty]) (tmps : Array Value) (P : Program) (w : World) :
    (results fn tmps).run P w = ((asAddr (tmps.getD p undef)).run P w).andThen fun a w₁ => ((loadVar ty a).run P w₁).andThen fun v w₂ => .ok (.tuple #[tmps.getD u undef, v]) w₂ := by
  simp only [results, h]
  simp [Sem.run_bind, Result.andThen]
theorem results_cell_cell {fn : Func} {p q : Tmp} {ty tz : TypeId} (h : fn.results = #[.cell p ty, .cell q tz]) (tmps : Array Value) (P : Program) (w : World) :
    (results fn tmps).run P w = ((asAddr (tmps.getD p undef)).run P w).andThen fun a w₁ => ((loadVar ty a).run P w₁).andThen fun v w₂ => ((asAddr (tmps.getD q undef)).run P w₂).andThen fun b w₃ => ((loadVar tz b).run P w₃).andThen fun u w₄ => .ok (.tuple #[v, u]) w₄ := by
  simp only [results, h]
  simp [Sem.run_bind, Result.andThen]
end Go.Proofs.Ytnknfmjpkphbpaa
/- Bytes as numbers. -/
namespace Go.Proofs.Ytnknfmjpkphbpaa
open Go.ChangeShapes Go.WideShapes Go.ChangeAt Go.RowKit
set_option linter.unusedVariables false
def numsOf (l : List UInt8) : List Int := l.map fun c => (c.toNat : Int)
theorem nums_back (l : List UInt8) : strOfNums (numsOf l) = ⟨l.toArray⟩ := by
  unfold strOfNums numsOf
  rw [List.map_map]
  congr 2
  conv => rhs; rw [← List.map_id l]
  apply List.map_congr_left
  intro c _
  simp
end Go.Proofs.Ytnknfmjpkphbpaa
/- The model's chapter 2, walked: numbers put into bytes. -/
namespace Go.Proofs.Ytnknfmjpkphbpaa
open Go.ChangeShapes Go.WideShapes Go.ChangeAt Go.RowKit
set_option linter.unusedVariables false

theorem leB_get : ∀ (k n i : Nat), i < k → (leB k n)[i]? = some (UInt8.ofNat (n / 256 ^ i % 256))
  | 0, _, _, h => by omega
  | k + 1, n, 0, _ => by simp [leB]
  | k + 1, n, i + 1, h => by
    show (leB k (n / 256))[i]? = _
    rw [leB_get k (n / 256) i (by omega), Nat.div_div_eq_div_mul, Nat.pow_succ, Nat.mul_comm 256]
def beL (n k : Nat) : List UInt8 := (leB k n).reverse
theorem beL_len (n k : Nat) : (beL n k).length = k := by simp [beL, leB_len]
theorem beL_take (n k j : Nat) (hj : 0 < j) (hk : j ≤ k) : numsOf ((beL n k).take (k - j + 1)) = numsOf ((beL n k).take (k - j)) ++ [((n / 256 ^ (j - 1) % 256 : Nat) : Int)] := by
  have hl := beL_len n k
  rw [List.take_succ_eq_append_getElem (by omega)]
  have hg : (beL n k)[k - j]'(by omega) = UInt8.ofNat (n / 256 ^ (j - 1) % 256) := by
    have h1 := leB_get k n (j - 1) (by omega)
    have h2 : (beL n k)[k - j]? = some (UInt8.ofNat (n / 256 ^ (j - 1) % 256)) := by
      unfold beL
      rw [List.getElem?_reverse (by rw [leB_len]; omega), leB_len, show k - 1 - (k - j) = j - 1 by omega]
      exact h1
    rw [List.getElem?_eq_getElem (by omega)] at h2
    exact Option.some.inj h2
  rw [hg]
  simp only [numsOf, List.map_append, List.map_cons, List.map_nil, UInt8.toNat_ofNat']
  congr 3
  omega
def putV (n k : Int) : ByteArray := if n < 0 ∨ k < 1 ∨ 4 < k then ByteArray.empty else ⟨(beL n.toNat k.toNat).toArray⟩
set_option maxRecDepth 100000 in
set_option maxHeartbeats 1000000 in
theorem sput_any (n k : Int) (w : World) (hn : n ≤ 9223372036854775807) :
    Calls Try.prog 98 #[.int .i64 n, .int .i64 k] w fun e w' => e = .returned (.string (putV n k)) ∧ Below w.heap.size w w' := by
  by_cases hn0 : n < 0
  · have hv : putV n k = ByteArray.empty := by unfold putV; rw [if_pos (.inl hn0)]
    have HV := Lib.hid hv; clear hv
    go_enter Try.func98, Try.ntmps98
    go_wp2
    go_ret
    exact ⟨by rw [HV.out]; rfl, Below.refl _ _⟩
  · by_cases hk : k < 1 ∨ 4 < k
    · have hv : putV n k = ByteArray.empty := by unfold putV; rw [if_pos (.inr hk)]
      have HV := Lib.hid hv; clear hv
      have hb : (decide (1 ≤ k) && decide (k ≤ 4)) = false := by simp; omega
      clear hk
      go_enter Try.func98, Try.ntmps98
      go_wp2_with (go_at_call 101; refine (sin_any _ _ _ _).mono ?_; rintro e w ⟨rfl, rfl⟩)
      go_ret
      exact ⟨by rw [HV.out]; rfl, Below.refl _ _⟩
    · have hv : putV n k = ⟨(beL n.toNat k.toNat).toArray⟩ := by unfold putV; rw [if_neg (by omega)]
      have hb : (decide (1 ≤ k) && decide (k ≤ 4)) = true := by simp; omega
      obtain ⟨N, rfl⟩ : ∃ N : Nat, n = N := ⟨n.toNat, by omega⟩
      obtain ⟨K, rfl⟩ : ∃ K : Nat, k = K := ⟨k.toNat, by omega⟩
      have hK : 1 ≤ K ∧ K ≤ 4 := by omega
      simp only [Int.toNat_natCast] at hv
      have htk := beL_take N K
      have hbl := beL_len N K
      generalize beL N K = X at *
      have HV := Lib.hid hv; have HTK := Lib.hid htk; clear hv htk hk
      obtain ⟨i0, hi, hz0, hz1, hz2⟩ := info_parts info5
      have ew : IntKind.i64.wrap ((K : Int) - 1) = (K : Int) - 1 := IntWalk.i64_in _ (by omega)
      go_enter Try.func98, Try.ntmps98
      go_wp2_with (go_at_call 101; refine (sin_any _ _ _ _).mono ?_; rintro e w ⟨rfl, rfl⟩)
      have hown0 := World.ownsRow_made (base := w.heap.size) (e := 5) (size := 1) w #[] 0 (Nat.le_refl _) (by unfold maxLen; omega) rfl
      have hb0 := (Below.refl w.heap.size w).alloc (Nat.le_refl _) (.cells #[] 5)
      go_loopw [5, 6] (fun v i wr => ∃ j : Nat, j ≤ K ∧ i = .int .i64 ((j : Int) - 1) ∧ wr.ownsRow w.heap.size 5 1 v (K - j) ((numsOf (X.take (K - j))).map (Value.int .u8)) ∧ Below w.heap.size w wr)
        (fun _ i _ => (intOf i + 1).toNat)
      case atStart => exact ⟨K, Nat.le_refl _, rfl, by simpa [numsOf] using hown0, hb0⟩
      case round =>
        obtain ⟨j, hj, rfl, hown, hnx⟩ := hrel
        clear hown0 hb0
        have hns := hnx.size
        by_cases hj0 : 0 < j
        · have hel := HTK.out j hj0 hj
          have hlen : K - j ≤ 4 := by omega
          have hrel2 : ∀ (v' : Value) (w1 : World), w1.ownsRow w.heap.size 5 1 v' (K - j + 1) ((numsOf (X.take (K - j))).map (Value.int .u8) ++ [.int .u8 ((N / 256 ^ (j - 1) % 256 : Nat) : Int)]) → w1.ownsRow w.heap.size 5 1 v' (K - (j - 1)) ((numsOf (X.take (K - (j - 1)))).map (Value.int .u8)) := by
            intro v' w1 ho
            rw [show K - (j - 1) = K - j + 1 by omega, hel, List.map_append]
            exact ho
          have HR := Lib.hid hrel2; clear hrel2 hel
          rcases (by omega : j = 1 ∨ j = 2 ∨ j = 3 ∨ j = 4) with rfl | rfl | rfl | rfl
          · go_wp2_with (at_builtin; refine wpList_append_own _ rfl (.tmp 21) (.tmp 28) 22 rfl w.heap.size 5 i0 (.int .u8 0) 1 1 Try.underlying22 hi hz0 hz1 hz2 rfl (by decide) _ _ _ rfl (hown.alloc _) ⟨wr.heap.size, 0, none⟩ 1 1 [.int .u8 _] rfl rfl (cell_one_new _ _ _) (by intro u hu; simp at hu; subst hu; rfl) (by unfold maxLen; omega) (by omega) (by simp; omega) ?_; intro v' w5 hown' hgrow _)
            have hg2 : (wr.alloc (.cells #[.int .u8 ((N : Int) % 256)] 5)).grownBy w5 u5.ownBlock := hgrow
            have e : ((N / 256 ^ (1 - 1) % 256 : Nat) : Int) = (N : Int) % 256 := by
              show ((N / 1 % 256 : Nat) : Int) = _
              omega
            have ho2 := HR.out v' w5 (by rw [e]; exact hown')
            have hb2 : Below w.heap.size w w5 := (hnx.alloc hns _).grown hg2 (by simp; omega) (fun g hg => (hown.lt g hg).1)
            exact ⟨⟨1 - 1, by omega, rfl, ho2, hb2⟩, by simp [intOf]⟩
          · go_wp2_with (at_builtin; refine wpList_append_own _ rfl (.tmp 21) (.tmp 28) 22 rfl w.heap.size 5 i0 (.int .u8 0) 1 1 Try.underlying22 hi hz0 hz1 hz2 rfl (by decide) _ _ _ rfl (hown.alloc _) ⟨wr.heap.size, 0, none⟩ 1 1 [.int .u8 _] rfl rfl (cell_one_new _ _ _) (by intro u hu; simp at hu; subst hu; rfl) (by unfold maxLen; omega) (by omega) (by simp; omega) ?_; intro v' w5 hown' hgrow _)
            have hg2 : (wr.alloc (.cells #[.int .u8 ((N : Int) / 256 % 256)] 5)).grownBy w5 u5.ownBlock := hgrow
            have e : ((N / 256 ^ (2 - 1) % 256 : Nat) : Int) = (N : Int) / 256 % 256 := by
              show ((N / 256 % 256 : Nat) : Int) = _
              omega
            have ho2 := HR.out v' w5 (by rw [e]; exact hown')
            have hb2 : Below w.heap.size w w5 := (hnx.alloc hns _).grown hg2 (by simp; omega) (fun g hg => (hown.lt g hg).1)
            exact ⟨⟨2 - 1, by omega, rfl, ho2, hb2⟩, by simp [intOf]⟩
          · go_wp2_with (at_builtin; refine wpList_append_own _ rfl (.tmp 21) (.tmp 28) 22 rfl w.heap.size 5 i0 (.int .u8 0) 1 1 Try.underlying22 hi hz0 hz1 hz2 rfl (by decide) _ _ _ rfl (hown.alloc _) ⟨wr.heap.size, 0, none⟩ 1 1 [.int .u8 _] rfl rfl (cell_one_new _ _ _) (by intro u hu; simp at hu; subst hu; rfl) (by unfold maxLen; omega) (by omega) (by simp; omega) ?_; intro v' w5 hown' hgrow _)
            have hg2 : (wr.alloc (.cells #[.int .u8 ((N : Int) / 65536 % 256)] 5)).grownBy w5 u5.ownBlock := hgrow
            have e : ((N / 256 ^ (3 - 1) % 256 : Nat) : Int) = (N : Int) / 65536 % 256 := by
              show ((N / 65536 % 256 : Nat) : Int) = _
              omega
            have ho2 := HR.out v' w5 (by rw [e]; exact hown')
            have hb2 : Below w.heap.size w w5 := (hnx.alloc hns _).grown hg2 (by simp; omega) (fun g hg => (hown.lt g hg).1)
            exact ⟨⟨3 - 1, by omega, rfl, ho2, hb2⟩, by simp [intOf]⟩
          · go_wp2_with (at_builtin; refine wpList_append_own _ rfl (.tmp 21) (.tmp 28) 22 rfl w.heap.size 5 i0 (.int .u8 0) 1 1 Try.underlying22 hi hz0 hz1 hz2 rfl (by decide) _ _ _ rfl (hown.alloc _) ⟨wr.heap.size, 0, none⟩ 1 1 [.int .u8 _] rfl rfl (cell_one_new _ _ _) (by intro u hu; simp at hu; subst hu; rfl) (by unfold maxLen; omega) (by omega) (by simp; omega) ?_; intro v' w5 hown' hgrow _)
            have hg2 : (wr.alloc (.cells #[.int .u8 ((N : Int) / 16777216 % 256)] 5)).grownBy w5 u5.ownBlock := hgrow
            have e : ((N / 256 ^ (4 - 1) % 256 : Nat) : Int) = (N : Int) / 16777216 % 256 := by
              show ((N / 16777216 % 256 : Nat) : Int) = _
              omega
            have ho2 := HR.out v' w5 (by rw [e]; exact hown')
            have hb2 : Below w.heap.size w w5 := (hnx.alloc hns _).grown hg2 (by simp; omega) (fun g hg => (hown.lt g hg).1)
            exact ⟨⟨4 - 1, by omega, rfl, ho2, hb2⟩, by simp [intOf]⟩
        · obtain rfl : j = 0 := by omega
          rw [Nat.sub_zero, List.take_of_length_le (by omega)] at hown
          have hcv := run_string_own (P := Try.prog) 22 5 9 Try.underlying22 Try.underlying5 Try.underlying9 hown
          rw [nums_back] at hcv
          clear hown
          go_wp2
          go_ret
          exact ⟨by rw [HV.out]; rfl, hnx⟩

end Go.Proofs.Ytnknfmjpkphbpaa
/- The draws' cursor: what the model's drawing functions return, as functions of the code's bytes. -/
namespace Go.Proofs.Ytnknfmjpkphbpaa
open Go.ChangeShapes Go.WideShapes Go.ChangeAt Go.RowKit
set_option linter.unusedVariables false

/-- The code's bytes, in old memory. -/
def CodeAt (n₀ : Nat) (w : World) (a : Option Addr) (len : Nat) (zs : List Int) : Prop :=
  len ≤ 1048576 ∧ (∀ k : Nat, 0 ≤ zs[k]?.getD 0 ∧ zs[k]?.getD 0 ≤ 255) ∧ (len = 0 ∨ ∃ b off, a = some ⟨b, off, none⟩ ∧ b < n₀ ∧ ∀ k, k < len → w.cell? ⟨b, off + k, none⟩ = some (.int .u8 (zs[k]?.getD 0)))
theorem CodeAt.below {n₀ : Nat} {w w' : World} {a : Option Addr} {len : Nat} {zs : List Int} (h : CodeAt n₀ w a len zs) (hb : Below n₀ w w') : CodeAt n₀ w' a len zs := by
  obtain ⟨h1, h2, h3⟩ := h
  refine ⟨h1, h2, ?_⟩
  rcases h3 with h3 | ⟨b, off, h4, h5, h6⟩
  · exact .inl h3
  · exact .inr ⟨b, off, h4, h5, fun k hk => (hb.cell (p := ⟨b, off + k, none⟩) h5).trans (h6 k hk)⟩

structure DrawSt (n₀ : Nat) (w : World) (g : Nat) (a : Option Addr) (len cap : Nat) (zs : List Int) (i : Nat) (h : Int) : Prop where
  code : CodeAt n₀ w a len zs
  cur : w.heap[g]? = some (.cells #[.slice a len cap, .int .i64 i, .int .i64 h] 96 (0, 0))
  hg : n₀ ≤ g
  hi : i ≤ len

def lcg (h : Int) : Int := wrap64 (wrap64 (h * 6364136223846793005) + 1442695040888963407)

theorem i64_and255 (n : Int) : bits .and .i64 n 255 = n % 256 := by
  have h255 : (BitVec.ofInt 64 255).toNat = 2 ^ 8 - 1 := by decide
  have key : (BitVec.ofInt 64 n &&& BitVec.ofInt 64 255).toNat = (n % ((2 ^ 64 : Nat) : Int)).toNat % 2 ^ 8 := by
    rw [BitVec.toNat_and, BitVec.toNat_ofInt, h255, Nat.and_two_pow_sub_one_eq_mod]
  show IntKind.i64.wrap ((BitVec.ofInt 64 n &&& BitVec.ofInt 64 255).toNat : Nat) = n % 256
  rw [key, IntKind.wrap_i64]
  omega
theorem i64_and30 (n : Int) : bits .and .i64 n 1073741823 = n % 1073741824 := by
  have h255 : (BitVec.ofInt 64 1073741823).toNat = 2 ^ 30 - 1 := by decide
  have key : (BitVec.ofInt 64 n &&& BitVec.ofInt 64 1073741823).toNat = (n % ((2 ^ 64 : Nat) : Int)).toNat % 2 ^ 30 := by
    rw [BitVec.toNat_and, BitVec.toNat_ofInt, h255, Nat.and_two_pow_sub_one_eq_mod]
  show IntKind.i64.wrap ((BitVec.ofInt 64 n &&& BitVec.ofInt 64 1073741823).toNat : Nat) = n % 1073741824
  rw [key, IntKind.wrap_i64]
  omega

/-- what a state gives -/
def outb (H : Int) : Int := bits BinOp.xor IntKind.i64 (H / 8589934592) (H / 35184372088832) % 256
theorem outb_bd (H : Int) : 0 ≤ outb H ∧ outb H ≤ 255 := by unfold outb; omega
structure Cu where
  i : Nat
  h : Int
/-- a byte, and the state behind -/
def byteF (zs : List Int) (len : Nat) (c : Cu) : Int × Cu :=
  if c.i < len then ((outb (lcg c.h) + zs[c.i]?.getD 0) % 256, ⟨c.i + 1, lcg c.h⟩) else (outb (lcg c.h), ⟨c.i, lcg c.h⟩)
theorem byteF_bd (zs : List Int) (len : Nat) (c : Cu) : 0 ≤ (byteF zs len c).1 ∧ (byteF zs len c).1 ≤ 255 := by
  have := outb_bd (lcg c.h)
  unfold byteF; split <;> simp <;> omega
theorem byteF_h (zs : List Int) (len : Nat) (c : Cu) : (byteF zs len c).2.h = lcg c.h := by unfold byteF; split <;> rfl
theorem byteF_i (zs : List Int) (len : Nat) (c : Cu) (hi : c.i ≤ len) : (byteF zs len c).2.i ≤ len ∧ c.i ≤ (byteF zs len c).2.i ∧ (c.i < len → c.i < (byteF zs len c).2.i) := by
  unfold byteF; split <;> simp <;> omega
/-- what a draw leaves: the cursor's block alone has turned -/
structure Drew (n₀ g : Nat) (a : Option Addr) (len cap : Nat) (zs : List Int) (c' : Cu) (w w' : World) : Prop where
  st : DrawSt n₀ w' g a len cap zs c'.i c'.h
  below : Below n₀ w w'
  grown : w.grownBy w' (some g)
theorem grownT {A B C : World} {row : Option Nat} (h : A.grownBy B row) (k : B.grownBy C row) : A.grownBy C row :=
  ⟨k.os.trans h.os, k.tape.trans h.tape, k.output.trans h.output, Nat.le_trans h.size k.size, fun j hj hr => (k.block j (Nat.lt_of_lt_of_le hj h.size) hr).trans (h.block j hj hr)⟩
theorem Drew.trans {n₀ g : Nat} {a : Option Addr} {len cap : Nat} {zs : List Int} {c c' : Cu} {w w1 w2 : World} (h : Drew n₀ g a len cap zs c w w1) (k : Drew n₀ g a len cap zs c' w1 w2) : Drew n₀ g a len cap zs c' w w2 :=
  ⟨k.st, h.below.trans k.below, grownT h.grown k.grown⟩

theorem drew_of {n₀ g len cap i' : Nat} {a : Option Addr} {zs : List Int} {h' : Int} {w w' : World} (hcode : CodeAt n₀ w a len zs) (hg0 : n₀ ≤ g) (hgl : g < w.heap.size) (hi : i' ≤ len)
    (hcur : w'.heap[g]? = some (.cells #[.slice a len cap, .int .i64 i', .int .i64 h'] 96 (0, 0))) (hgr : w.grownBy w' (some g)) : Drew n₀ g a len cap zs ⟨i', h'⟩ w w' := by
  have hb : Below n₀ w w' := (Below.refl n₀ w).grown hgr (by omega) (fun k e => by cases e; exact hg0)
  exact ⟨⟨hcode.below hb, hcur, hg0, hi⟩, hb, hgr⟩

set_option maxHeartbeats 800000 in
theorem byte_any (n₀ g len cap : Nat) (a : Option Addr) (zs : List Int) (c : Cu) (w : World) (hs : DrawSt n₀ w g a len cap zs c.i c.h) :
    Calls Try.prog 96 #[.pointer (some ⟨g, 0, none⟩)] w fun e w' => e = .returned (.int .i64 (byteF zs len c).1) ∧ Drew n₀ g a len cap zs (byteF zs len c).2 w w' := by
  obtain ⟨i, h⟩ := c
  dsimp only at hs
  have hc := hs.cur
  have c0 : w.cell? ⟨g, 0, none⟩ = some (.slice a len cap) := by simp [World.cell?, hc]
  have c1 : w.cell? ⟨g, 1, none⟩ = some (.int .i64 i) := by simp [World.cell?, hc]
  have c2 : w.cell? ⟨g, 2, none⟩ = some (.int .i64 h) := by simp [World.cell?, hc]
  have f1 : w.frozen? ⟨g, 1, none⟩ = false := by simp [World.frozen?, hc]
  have f2 : w.frozen? ⟨g, 2, none⟩ = false := by simp [World.frozen?, hc]
  have hlen := hs.code.1
  have hil := hs.hi
  have hcode := Lib.hid hs.code
  have hg0 := hs.hg
  clear hs
  go_enter Try.func96, Try.ntmps96
  go_wp2
  have hc1 := Joins.block_setCell (i := 2) hc (.int .i64 (lcg h))
  have hg1 : w.grownBy (w.setCell ⟨g, 2, none⟩ (.int .i64 (lcg h))) (some g) := ⟨rfl, rfl, rfl, by simp, fun k _ hk => Below.heap_setCell _ _ _ k (fun e => hk (by rw [e]))⟩
  have hH : lcg h = wrap64 (wrap64 (h * 6364136223846793005) + 1442695040888963407) := rfl
  rw [← hH]
  have HC := Lib.hid hc; clear hc hH c0 c1 c2 f1 f2
  generalize hw1 : w.setCell ⟨g, 2, none⟩ (.int .i64 (lcg h)) = w1 at *
  clear hw1
  generalize hl : lcg h = H at *
  have HL := Lib.hid hl; clear hl
  have c0 : w1.cell? ⟨g, 0, none⟩ = some (.slice a len cap) := by simp [World.cell?, hc1]
  have c1 : w1.cell? ⟨g, 1, none⟩ = some (.int .i64 i) := by simp [World.cell?, hc1]
  have c2 : w1.cell? ⟨g, 2, none⟩ = some (.int .i64 H) := by simp [World.cell?, hc1]
  have f1 : w1.frozen? ⟨g, 1, none⟩ = false := by simp [World.frozen?, hc1]
  have hob : bits BinOp.and IntKind.i64 (bits BinOp.xor IntKind.i64 (H / 8589934592) (H / 35184372088832)) 255 = outb H := i64_and255 _
  have hbd := outb_bd H
  go_quiet (fail)
  go_wp2
  generalize hx : outb H = x at *
  have HX := Lib.hid hx; clear hx hob
  by_cases hlt : i < len
  · have z1 : (i : Int) < (len : Int) := by omega
    have z0 : (0 : Int) ≤ (i : Int) := by omega
    obtain ⟨b, off, rfl, hb0, hcells⟩ : ∃ b off, a = some ⟨b, off, none⟩ ∧ b < n₀ ∧ ∀ k, k < len → w.cell? ⟨b, off + k, none⟩ = some (.int .u8 (zs[k]?.getD 0)) := by
      rcases hcode.out.2.2 with h | h
      · omega
      · exact h
    have hz := hcode.out.2.1 i
    have cz : w1.cell? ⟨b, off + i, none⟩ = some (.int .u8 (zs[i]?.getD 0)) := (World.cell?_of_block (a := ⟨b, off + i, none⟩) (hg1.block b (World.block_lt_of_cell? w _ (hcells i hlt)) (by simp; omega))).trans (hcells i hlt)
    have HCELLS := Lib.hid hcells; clear hcells
    generalize hy : zs[i]?.getD 0 = y at *
    have HY := Lib.hid hy; clear hy
    have ew : wrap64 (x + y) = x + y := IntWalk.wrap64_in _ (by omega)
    have eb : bits BinOp.and IntKind.i64 (x + y) 255 = (x + y) % 256 := i64_and255 _
    go_quiet (fail)
    go_wp2
    go_quiet (fail)
    go_wp2
    go_ret
    have hbf : byteF zs len ⟨i, h⟩ = ((x + y) % 256, ⟨i + 1, H⟩) := by unfold byteF; rw [if_pos hlt, HL.out, HX.out, HY.out]
    rw [hbf]
    have hgl := (Array.getElem?_eq_some_iff.1 HC.out).1
    have hfin := Joins.block_setCell (i := 1) hc1 (.int .i64 ((i : Int) + 1))
    exact ⟨rfl, drew_of hcode.out hg0 hgl (by show i + 1 ≤ len; omega) hfin (grownT hg1 ⟨rfl, rfl, rfl, by simp, fun k _ hk => Below.heap_setCell _ _ _ k (fun e => hk (by rw [e]))⟩)⟩
  · go_quiet (fail)
    go_wp2
    go_ret
    have hbf : byteF zs len ⟨i, h⟩ = (x, ⟨i, H⟩) := by unfold byteF; rw [if_neg hlt, HL.out, HX.out]
    rw [hbf]
    have hgl := (Array.getElem?_eq_some_iff.1 HC.out).1
    exact ⟨rfl, drew_of hcode.out hg0 hgl hil hc1 (grownT hg1 ⟨rfl, rfl, rfl, Nat.le_refl _, fun _ _ _ => rfl⟩)⟩

/-! ### numbers below a bound -/
def belowF (zs : List Int) (len : Nat) (c : Cu) (n : Int) : Int × Cu :=
  if n ≤ 0 then (0, c) else if n ≤ 256 then ((byteF zs len c).1 % n, (byteF zs len c).2) else
    let b1 := byteF zs len c; let b2 := byteF zs len b1.2; let b3 := byteF zs len b2.2; let b4 := byteF zs len b3.2
    ((b1.1 * 16777216 + b2.1 * 65536 + b3.1 * 256 + b4.1) % n, b4.2)
theorem belowF_bd (zs : List Int) (len : Nat) (c : Cu) (n : Int) : 0 ≤ (belowF zs len c n).1 ∧ (0 < n → (belowF zs len c n).1 < n) := by
  unfold belowF
  split
  · exact ⟨Int.le_refl _, fun h => by omega⟩
  · split
    · exact ⟨Int.emod_nonneg _ (by omega), fun _ => Int.emod_lt_of_pos _ (by omega)⟩
    · exact ⟨Int.emod_nonneg _ (by omega), fun _ => Int.emod_lt_of_pos _ (by omega)⟩

set_option maxHeartbeats 400000 in
theorem below_any (n₀ g len cap : Nat) (a : Option Addr) (zs : List Int) (c : Cu) (n : Int) (w : World) (hs : DrawSt n₀ w g a len cap zs c.i c.h) (hn : -9223372036854775808 ≤ n ∧ n ≤ 9223372036854775807) :
    Calls Try.prog 78 #[.pointer (some ⟨g, 0, none⟩), .int .i64 n] w fun e w' => e = .returned (.int .i64 (belowF zs len c n).1) ∧ Drew n₀ g a len cap zs (belowF zs len c n).2 w w' := by
  by_cases h0 : n ≤ 0
  · have hf : belowF zs len c n = (0, c) := by unfold belowF; rw [if_pos h0]
    rw [hf]
    have HS := Lib.hid hs; clear hs hf
    go_enter Try.func78, Try.ntmps78
    go_wp2
    go_ret
    exact ⟨rfl, ⟨HS.out, Below.refl _ _, ⟨rfl, rfl, rfl, Nat.le_refl _, fun _ _ _ => rfl⟩⟩⟩
  · by_cases h1 : n ≤ 256
    · have hf : belowF zs len c n = ((byteF zs len c).1 % n, (byteF zs len c).2) := by unfold belowF; rw [if_neg h0, if_pos h1]
      rw [hf]
      have hbd := byteF_bd zs len c
      have H1 := Lib.hid (byte_any n₀ g len cap a zs c w hs); clear hs hf
      generalize hb : byteF zs len c = b at *
      have HB := Lib.hid hb; clear hb
      go_enter Try.func78, Try.ntmps78
      go_wp2_with fail
      refine H1.out.mono ?_
      clear H1
      rintro e w1 ⟨rfl, hd⟩
      go_wp2
      go_ret
      exact ⟨rfl, hd⟩
    · have hf : belowF zs len c n = (((byteF zs len c).1 * 16777216 + (byteF zs len (byteF zs len c).2).1 * 65536 + (byteF zs len (byteF zs len (byteF zs len c).2).2).1 * 256 + (byteF zs len (byteF zs len (byteF zs len (byteF zs len c).2).2).2).1) % n, (byteF zs len (byteF zs len (byteF zs len (byteF zs len c).2).2).2).2) := by
        unfold belowF; rw [if_neg h0, if_neg h1]
      rw [hf]
      clear hf
      have hbd1 := byteF_bd zs len c
      have H1 := Lib.hid (byte_any n₀ g len cap a zs c w hs)
      generalize byteF zs len c = b1 at *
      have hbd2 := byteF_bd zs len b1.2
      have H2 := Lib.hid (fun w => byte_any n₀ g len cap a zs b1.2 w)
      generalize byteF zs len b1.2 = b2 at *
      have hbd3 := byteF_bd zs len b2.2
      have H3 := Lib.hid (fun w => byte_any n₀ g len cap a zs b2.2 w)
      generalize byteF zs len b2.2 = b3 at *
      have hbd4 := byteF_bd zs len b3.2
      have H4 := Lib.hid (fun w => byte_any n₀ g len cap a zs b3.2 w)
      generalize byteF zs len b3.2 = b4 at *
      obtain ⟨x1, c1⟩ := b1; obtain ⟨x2, c2⟩ := b2; obtain ⟨x3, c3⟩ := b3; obtain ⟨x4, c4⟩ := b4
      dsimp only at *
      clear hs
      go_enter Try.func78, Try.ntmps78
      go_wp2_with fail
      refine H1.out.mono ?_
      clear H1
      rintro e w1 ⟨rfl, hd1⟩
      go_wp2_with fail
      refine (H2.out w1 hd1.st).mono ?_
      clear H2
      rintro e w2 ⟨rfl, hd2⟩
      go_wp2_with fail
      refine (H3.out w2 hd2.st).mono ?_
      clear H3
      rintro e w3 ⟨rfl, hd3⟩
      go_wp2_with fail
      refine (H4.out w3 hd3.st).mono ?_
      clear H4
      rintro e w4 ⟨rfl, hd4⟩
      have hd := ((hd1.trans hd2).trans hd3).trans hd4
      clear hd1 hd2 hd3 hd4
      go_wp2
      go_ret
      exact ⟨rfl, hd⟩

end Go.Proofs.Ytnknfmjpkphbpaa
/- The draws that take no text apart: a new cursor, picks, numbers, lines, words. -/
namespace Go.Proofs.Ytnknfmjpkphbpaa
open Go.ChangeShapes Go.WideShapes Go.ChangeAt Go.RowKit
set_option linter.unusedVariables false

def hashN (zs : List Int) : Nat → Int → Int
  | 0, h => h
  | k + 1, h => (hashN zs k h * 131 + zs[k]?.getD 0 + 7) % 1073741824
def newC (zs : List Int) (len : Nat) : Cu := ⟨0, hashN zs (min len 4000) (746746 + len)⟩
theorem hashN_bd (zs : List Int) (len : Nat) (hl : len ≤ 1048576) : ∀ k, 0 ≤ hashN zs k (746746 + len) ∧ hashN zs k (746746 + len) < 1073741824
  | 0 => by simp [hashN]; omega
  | k + 1 => by simp [hashN]; omega

set_option maxHeartbeats 800000 in
theorem new_end {n₀ len cap : Nat} {a : Option Addr} {zs : List Int} {w wr : World} {H : Int} (hc : CodeAt n₀ w a len zs) (hw : n₀ ≤ w.heap.size) (hgr : w.grownBy wr none) (hi : 0 ≤ len) :
    DrawSt n₀ (wr.alloc (.cells #[.slice a len cap, .int .i64 0, .int .i64 H] 96)) wr.heap.size a len cap zs 0 H ∧ Below n₀ w (wr.alloc (.cells #[.slice a len cap, .int .i64 0, .int .i64 H] 96)) ∧
      w.grownBy (wr.alloc (.cells #[.slice a len cap, .int .i64 0, .int .i64 H] 96)) none := by
  have hg2 := grownT hgr (World.grownBy_alloc wr (.cells #[.slice a len cap, .int .i64 0, .int .i64 H] 96) none)
  have hb : Below n₀ w (wr.alloc (.cells #[.slice a len cap, .int .i64 0, .int .i64 H] 96)) := (Below.refl _ _).grown hg2 hw (by simp)
  exact ⟨⟨hc.below hb, heap_alloc_new wr _, Nat.le_trans hw hgr.size, Nat.zero_le _⟩, hb, hg2⟩

set_option maxRecDepth 20000 in
theorem new_any (n₀ len cap : Nat) (a : Option Addr) (zs : List Int) (w : World) (hc : CodeAt n₀ w a len zs) (hw : n₀ ≤ w.heap.size) :
    Calls Try.prog 43 #[.slice a len cap] w fun e w' => ∃ g, e = .returned (.pointer (some ⟨g, 0, none⟩)) ∧ w.heap.size ≤ g ∧ DrawSt n₀ w' g a len cap zs (newC zs len).i (newC zs len).h ∧ Below n₀ w w' ∧ w.grownBy w' none := by
  have hlen := hc.1
  have hz := hc.2.1
  have hp := hc.2.2
  have hh := hashN_bd zs len hlen
  have HC := Lib.hid hc; clear hc
  go_enter Try.func43, Try.ntmps43
  go_wp2
  go_loopw [3, 4] (fun h i wr => ∃ j : Nat, j ≤ len ∧ j ≤ 4000 ∧ i = .int .i64 j ∧ h = .int .i64 (hashN zs j (746746 + len)) ∧ w.grownBy wr none)
    (fun _ i _ => len - (intOf i).toNat)
  case atStart => exact ⟨0, Nat.zero_le _, Nat.zero_le _, rfl, rfl, World.grownBy.refl _ _⟩
  case round =>
    obtain ⟨j, hj, hj4, rfl, rfl, hgr⟩ := hrel
    have hhj := hh j
    have hb : Below n₀ w wr := (Below.refl _ _).grown hgr hw (by simp)
    have hfin : (¬ (j < len ∧ j < 4000)) → newC zs len = ⟨0, hashN zs j (746746 + len)⟩ := by
      intro hn; unfold newC; congr; omega
    generalize hH : hashN zs j (746746 + len) = H at *
    have HF := Lib.hid hfin; clear hfin
    have hsz := hgr.size
    by_cases hlt : j < len
    · have z1 : (j : Int) < (len : Int) := by omega
      have z0 : (0 : Int) ≤ (j : Int) := by omega
      obtain ⟨b, off, rfl, hb0, hcells⟩ := hp.resolve_left (by omega)
      have cz : wr.cell? ⟨b, off + j, none⟩ = some (.int .u8 (zs[j]?.getD 0)) := (hb.cell (p := ⟨b, off + j, none⟩) hb0).trans (hcells j hlt)
      have hzj := hz j
      have hHs : hashN zs (j + 1) (746746 + len) = (H * 131 + zs[j]?.getD 0 + 7) % 1073741824 := by show (hashN zs j _ * 131 + _ + 7) % 1073741824 = _; rw [hH]
      have HHS := Lib.hid hHs; clear hHs hh hH
      generalize zs[j]?.getD 0 = y at *
      have HCELLS := Lib.hid hcells; clear hcells hp
      have HZ := Lib.hid hz; clear hz
      by_cases hlt4 : j < 4000
      · have e1 : wrap64 (H * 131) = H * 131 := IntWalk.wrap64_in _ (by omega)
        have e2 : wrap64 (H * 131 + y) = H * 131 + y := IntWalk.wrap64_in _ (by omega)
        have e3 : wrap64 (H * 131 + y + 7) = H * 131 + y + 7 := IntWalk.wrap64_in _ (by omega)
        have e5 : IntKind.i64.wrap (H * 131 + y) = H * 131 + y := IntWalk.i64_in _ (by omega)
        have e6 : IntKind.i64.wrap (H * 131 + y + 7) = H * 131 + y + 7 := IntWalk.i64_in _ (by omega)
        have e7 : IntKind.i64.wrap (H * 131) = H * 131 := IntWalk.i64_in _ (by omega)
        have e4 : bits BinOp.and IntKind.i64 (H * 131 + y + 7) 1073741823 = (H * 131 + y + 7) % 1073741824 := i64_and30 _
        go_wp2
        go_roundw
        case rel => exact ⟨j + 1, by omega, by omega, by go_num, by rw [HHS.out], hgr⟩
        case measure => simp [intOf]; omega
      · clear HHS HCELLS HZ
        go_wp2
        go_ret
        refine ⟨_, rfl, hsz, ?_⟩
        rw [HF.out (by omega)]
        exact new_end HC.out hw hgr (by omega)
    · clear hz hp hh
      have z1 : ¬ (j : Int) < (len : Int) := by omega
      go_wp2
      go_ret
      refine ⟨_, rfl, hsz, ?_⟩
      rw [HF.out (by omega)]
      exact new_end HC.out hw hgr (by omega)

theorem pickint_any (n₀ g len cap lb n : Nat) (a : Option Addr) (zs : List Int) (c : Cu) (xs : List Int) (w : World) (hs : DrawSt n₀ w g a len cap zs c.i c.h) (hn : 0 < n) (hn2 : n ≤ 256) (hx : xs.length = n) (hlg : lb ≠ g)
    (hcells : ∀ k, k < n → w.cell? ⟨lb, k, none⟩ = some (.int .i64 (xs[k]?.getD 0))) :
    Calls Try.prog 103 #[.pointer (some ⟨g, 0, none⟩), .slice (some ⟨lb, 0, none⟩) n n] w fun e w' => e = .returned (.int .i64 (xs[(belowF zs len c n).1.toNat]?.getD 0)) ∧ Drew n₀ g a len cap zs (belowF zs len c n).2 w w' := by
  have H1 := Lib.hid (below_any n₀ g len cap a zs c n w hs (by omega)); clear hs
  have hbd := belowF_bd zs len c n
  generalize belowF zs len c n = b at *
  obtain ⟨x, c'⟩ := b
  dsimp only at *
  have hx0 : 0 ≤ x := hbd.1
  have hx1 : x < (n : Int) := hbd.2 (by omega)
  obtain ⟨m, rfl⟩ : ∃ m : Nat, x = m := ⟨x.toNat, by omega⟩
  have hm : m < n := by omega
  have hc := hcells m hm
  have e1 : (m : Int).toNat = m := by omega
  rw [e1]
  generalize xs[m]?.getD 0 = y at *
  clear hcells hbd
  go_enter Try.func103, Try.ntmps103
  go_wp2_with fail
  refine H1.out.mono ?_
  clear H1
  rintro e w1 ⟨rfl, hd⟩
  have hc1 : w1.cell? ⟨lb, m, none⟩ = some (.int .i64 y) := hd.grown.cell hc (by simpa using hlg)
  go_wp2
  go_ret
  exact ⟨rfl, hd⟩
theorem Drew.alloc {n₀ g : Nat} {a : Option Addr} {len cap : Nat} {zs : List Int} {c : Cu} {w w1 : World} (h : Drew n₀ g a len cap zs c w w1) (o : Obj) : Drew n₀ g a len cap zs c w (w1.alloc o) := by
  have hgl := (Array.getElem?_eq_some_iff.1 h.st.cur).1
  have hg0 := h.st.hg
  refine ⟨⟨h.st.code.below ((Below.refl _ _).alloc (by omega) o), ?_, hg0, h.st.hi⟩, h.below.trans ((Below.refl _ _).alloc (by omega) o), grownT h.grown (World.grownBy_alloc _ _ _)⟩
  exact ((World.grownBy_alloc w1 o none).block g hgl (by simp)).trans h.st.cur
theorem DrawSt.lt {n₀ g : Nat} {a : Option Addr} {len cap : Nat} {zs : List Int} {i : Nat} {h : Int} {w : World} (hs : DrawSt n₀ w g a len cap zs i h) : g < w.heap.size := (Array.getElem?_eq_some_iff.1 hs.cur).1
theorem lit_cell (w : World) (cs : Array Value) (e : TypeId) (k : Nat) : (w.alloc (.cells cs e)).cell? ⟨w.heap.size, k, none⟩ = cs[k]? := cell_of_row _ _ _ _ _ _ (heap_alloc_new w _)

theorem Drew.grow {n₀ g : Nat} {a : Option Addr} {len cap : Nat} {zs : List Int} {c : Cu} {w w1 w2 : World} {row : Option Nat} (h : Drew n₀ g a len cap zs c w w1) (hgl : g < w.heap.size) (k : w1.grownBy w2 row) (hr : ∀ b, row = some b → w.heap.size ≤ b) : Drew n₀ g a len cap zs c w w2 := by
  have hg0 := h.st.hg
  have hsz := h.grown.size
  have hb : Below n₀ w1 w2 := (Below.refl n₀ w1).grown k (by omega) (fun b e => by have := hr b e; omega)
  refine ⟨⟨h.st.code.below hb, ?_, hg0, h.st.hi⟩, h.below.trans hb, ⟨k.os.trans h.grown.os, k.tape.trans h.grown.tape, k.output.trans h.grown.output, Nat.le_trans hsz k.size, fun j hj hn => ?_⟩⟩
  · refine (k.block g (by omega) (fun e => ?_)).trans h.st.cur
    have := hr g e.symm; omega
  · refine (k.block j (by omega) (fun e => ?_)).trans (h.grown.block j hj hn)
    have := hr j e.symm; omega

theorem new_below {w w1 w' : World} {g : Nat} (h : w.grownBy w1 none) (hg : w.heap.size ≤ g) (k : w1.grownBy w' (some g)) : Below w.heap.size w w' :=
  ((Below.refl _ _).grown h (Nat.le_refl _) (by simp)).grown k h.size (fun _ e => by cases e; exact hg)

/-- what a walk is told of bytes that came in -/
def IsRow (k : IntKind) (w : World) (a : Option Addr) (len cap : Nat) (zs : List Int) : Prop :=
  (a = none ∧ len = 0 ∧ cap = 0 ∧ zs = []) ∨
  ∃ x, a = some x ∧ len ≤ cap ∧ cap ≤ maxLen ∧ zs.length = cap ∧ (∀ i, i < zs.length → w.cell? (x.add i) = some (.int k (zs.getD i 0))) ∧ ∀ n ∈ zs, (Lit.int k n).wf = true
theorem codeAt_of {w : World} {a : Option Addr} {len cap : Nat} {zs : List Int} (h : IsRow .u8 w a len cap zs) (hl : len ≤ 1048576) : CodeAt w.heap.size w a len zs := by
  rcases h with ⟨rfl, rfl, rfl, rfl⟩ | ⟨x, rfl, h1, h2, h3, h4, h5⟩
  · exact ⟨hl, by simp, .inl rfl⟩
  · refine ⟨hl, fun k => range_u8 h5 k, ?_⟩
    · rcases Nat.eq_zero_or_pos len with h0 | h0
      · exact .inl h0
      · obtain ⟨b, off, spot⟩ := x
        have hc := h4 0 (by omega)
        have hs : spot = none := by simpa [Addr.add] using World.cell?_spot hc
        subst hs
        refine .inr ⟨b, off, rfl, World.block_lt_of_cell? w ⟨b, off, none⟩ (by simpa [Addr.add] using hc), fun k hk => ?_⟩
        have := h4 k (by omega)
        rw [List.getD_eq_getElem?_getD] at this
        rw [← this]
        unfold Addr.add
        split
        · rename_i e; subst e; rfl
        · rfl
theorem big_any (a : Option Addr) (len cap : Nat) (w : World) (hl : len ≤ 1048576) : Calls Try.prog 12 #[.slice a len cap] w fun e w' => e = .returned (.bool false) ∧ w' = w := by
  have z1 : ¬ (1048576 : Int) < (len : Int) := by omega
  go_enter Try.func12, Try.ntmps12
  go_wp2
  go_ret
  exact ⟨rfl, rfl⟩
theorem big_true (a : Option Addr) (len cap : Nat) (w : World) (hl : ¬ len ≤ 1048576) : Calls Try.prog 12 #[.slice a len cap] w fun e w' => e = .returned (.bool true) ∧ w' = w := by
  have z1 : (1048576 : Int) < (len : Int) := by omega
  go_enter Try.func12, Try.ntmps12
  go_wp2
  go_ret
  exact ⟨rfl, rfl⟩

end Go.Proofs.Ytnknfmjpkphbpaa
/- Chapter 3's draws: keys. -/
namespace Go.Proofs.Ytnknfmjpkphbpaa
open Go.ChangeShapes Go.WideShapes Go.ChangeAt Go.RowKit
set_option linter.unusedVariables false

/-- a block that a draw leaves alone -/
theorem Drew.keeps {n₀ g : Nat} {a : Option Addr} {len cap : Nat} {zs : List Int} {c : Cu} {w w1 : World} (h : Drew n₀ g a len cap zs c w w1) {b : Nat} {o : Obj} (hb : w.heap[b]? = some o) (hne : b ≠ g) : w1.heap[b]? = some o := by
  rw [h.grown.block b (Array.getElem?_eq_some_iff.1 hb).1 (fun e => hne (by cases e; rfl))]
  exact hb
theorem two_set {w : World} {b : Nat} {e : TypeId} (x y p q : Value) (h : w.heap[b]? = some (.cells #[x, y] e (0, 0))) :
    w.cell? ⟨b, 0, none⟩ = some x ∧ w.cell? ⟨b, 1, none⟩ = some y ∧ w.frozen? ⟨b, 0, none⟩ = false ∧ w.frozen? ⟨b, 1, none⟩ = false ∧
    ((w.setCell ⟨b, 0, none⟩ p).setCell ⟨b, 1, none⟩ q).cell? ⟨b, 0, none⟩ = some p ∧ ((w.setCell ⟨b, 0, none⟩ p).setCell ⟨b, 1, none⟩ q).cell? ⟨b, 1, none⟩ = some q := by
  have c0 : w.cell? ⟨b, 0, none⟩ = some x := by rw [cell_of_row _ _ 0 _ _ _ h]; rfl
  have c1 : w.cell? ⟨b, 1, none⟩ = some y := by rw [cell_of_row _ _ 1 _ _ _ h]; rfl
  have d1 : (w.setCell ⟨b, 0, none⟩ p).cell? ⟨b, 1, none⟩ = some y := by rw [World.cell?_setCell_other _ _ _ _ (fun e => by cases e)]; exact c1
  refine ⟨c0, c1, by simp [World.frozen?, h], by simp [World.frozen?, h], ?_, World.cell?_setCell_same _ _ _ d1⟩
  rw [World.cell?_setCell_other _ _ _ _ (fun e => by cases e)]
  exact World.cell?_setCell_same _ _ _ c0
theorem grown_two (w : World) (b : Nat) (p q : Value) : w.grownBy ((w.setCell ⟨b, 0, none⟩ p).setCell ⟨b, 1, none⟩ q) (some b) := by
  refine ⟨rfl, rfl, rfl, by simp [World.setCell], fun k hk hr => ?_⟩
  have hk2 : k ≠ b := fun e => hr (by rw [e])
  rw [Below.heap_setCell _ _ _ _ hk2, Below.heap_setCell _ _ _ _ hk2]
theorem build_key (a b : Int) (w : World) : (Instr.build 41 #[(0, .int .i64 a), (1, .int .i64 b)]).run Try.prog w = .ok (.agg #[.int .i64 a, .int .i64 b]) w := run_build w 41 _ _ (by kernel_rfl)
theorem key_any (n₀ g len cap : Nat) (a : Option Addr) (zs : List Int) (c : Cu) (w : World) (hs : DrawSt n₀ w g a len cap zs c.i c.h) :
    Calls Try.prog 95 #[.pointer (some ⟨g, 0, none⟩)] w fun e w' => ∃ (k : K2) (c' : Cu), e = .returned (kv k) ∧ (1 ≤ k.1 ∧ k.1 ≤ 5 ∧ 1 ≤ k.2 ∧ k.2 ≤ 2) ∧ Drew n₀ g a len cap zs c' w w' := by
  have hd0 : Drew n₀ g a len cap zs c w w := ⟨hs, Below.refl _ _, World.grownBy.refl _ _⟩
  have hgl := hs.lt
  go_enter Try.func95, Try.ntmps95
  go_wp2_with fail
  have hd1 := hd0.alloc (.cells #[.int .i64 0, .int .i64 0] 41)
  refine (below_any n₀ g len cap a zs c 5 _ hd1.st (by omega)).mono ?_
  rintro e w1 ⟨rfl, hd⟩
  have hbd := belowF_bd zs len c 5
  generalize belowF zs len c 5 = b at *
  obtain ⟨x, c1⟩ := b
  dsimp only at *
  go_wp2_with fail
  refine (below_any n₀ g len cap a zs c1 2 _ hd.st (by omega)).mono ?_
  rintro e w2 ⟨rfl, hd2⟩
  have hbd2 := belowF_bd zs len c1 2
  generalize belowF zs len c1 2 = b at *
  obtain ⟨y, c2⟩ := b
  dsimp only at *
  have hD := hd1.trans (hd.trans hd2)
  have ew : wrap64 (1 + x) = 1 + x := IntWalk.wrap64_in _ (by omega)
  have ew2 : wrap64 (1 + y) = 1 + y := IntWalk.wrap64_in _ (by omega)
  have hbk := fun w => build_key (1 + x) (1 + y) w
  have hb1 := hd2.keeps (hd.keeps (heap_alloc_new w (.cells #[.int .i64 0, .int .i64 0] 41)) (by omega)) (by omega)
  obtain ⟨s1, s2, s3, s4, s5, s6⟩ := two_set (.int .i64 0) (.int .i64 0) (.int .i64 (1 + x)) (.int .i64 (1 + y)) hb1
  have hG := hD.grow hgl (grown_two w2 w.heap.size (.int .i64 (1 + x)) (.int .i64 (1 + y))) (fun b e => by cases e; omega)
  have HG := Lib.hid hG; have S56 := Lib.hid (And.intro s5 s6)
  have hsz : w.heap.size < w2.heap.size := (Array.getElem?_eq_some_iff.1 hb1).1
  clear hD hd hd1 hd2 hG s5 s6 hb1 hd0 hs
  go_wp2
  refine bodyPost_ret (v := kv (1 + x, 1 + y)) ?_ rfl ⟨(1 + x, 1 + y), c2, rfl, by dsimp only; omega, HG.out⟩
  rw [results_cell (p := 2) (ty := 41) (by kernel_rfl)]
  have hl := key_load (k := (1 + x, 1 + y)) (o := 0) S56.out (by simp [World.setCell]; omega) (Below.refl _ _)
  simp [asAddr, Result.andThen, hl]
theorem odd_any (n₀ g len cap : Nat) (a : Option Addr) (zs : List Int) (c : Cu) (w : World) (hs : DrawSt n₀ w g a len cap zs c.i c.h) :
    Calls Try.prog 97 #[.pointer (some ⟨g, 0, none⟩)] w fun e w' => ∃ (k : K2) (c' : Cu), e = .returned (kv k) ∧ (-5 ≤ k.1 ∧ k.1 ≤ 100 ∧ -5 ≤ k.2 ∧ k.2 ≤ 100) ∧ Drew n₀ g a len cap zs c' w w' := by
  have hd0 : Drew n₀ g a len cap zs c w w := ⟨hs, Below.refl _ _, World.grownBy.refl _ _⟩
  have hgl := hs.lt
  go_enter Try.func97, Try.ntmps97
  go_wp2_with fail
  have hd1 := hd0.alloc (.cells #[.int .i64 0, .int .i64 0] 41)
  have hd2 := hd1.alloc (.cells #[.int .i64 0, .int .i64 1, .int .i64 20, .int .i64 21, .int .i64 (-1), .int .i64 5] 3)
  have hq1 := heap_first w (.cells #[.int .i64 0, .int .i64 1, .int .i64 20, .int .i64 21, .int .i64 (-1), .int .i64 5] 3) (.cells #[.int .i64 0, .int .i64 0] 41)
  refine (pickint_any n₀ g len cap (w.heap.size + 1) 6 a zs c [0, 1, 20, 21, -1, 5] _ hd2.st (by omega) (by omega) rfl (by omega) ?_).mono ?_
  · intro k hk
    have := lit_cell (w.alloc (.cells #[.int .i64 0, .int .i64 0] 41)) #[.int .i64 0, .int .i64 1, .int .i64 20, .int .i64 21, .int .i64 (-1), .int .i64 5] 3 k
    rw [show (w.alloc (.cells #[.int .i64 0, .int .i64 0] 41)).heap.size = w.heap.size + 1 by simp] at this
    rw [this]
    rcases (by omega : k = 0 ∨ k = 1 ∨ k = 2 ∨ k = 3 ∨ k = 4 ∨ k = 5) with rfl | rfl | rfl | rfl | rfl | rfl <;> rfl
  · rintro e w1 ⟨rfl, hd⟩
    have hbd := belowF_bd zs len c (6 : Nat)
    generalize belowF zs len c (6 : Nat) = b at *
    obtain ⟨x0, c1⟩ := b
    dsimp only at *
    have hx : -1 ≤ [0, 1, 20, 21, -1, (5 : Int)][x0.toNat]?.getD 0 ∧ [0, 1, 20, 21, -1, (5 : Int)][x0.toNat]?.getD 0 ≤ 21 := by
      rcases (by omega : x0.toNat = 0 ∨ x0.toNat = 1 ∨ x0.toNat = 2 ∨ x0.toNat = 3 ∨ x0.toNat = 4 ∨ x0.toNat = 5) with h | h | h | h | h | h <;> rw [h] <;> simp
    generalize [0, 1, 20, 21, -1, (5 : Int)][x0.toNat]?.getD 0 = x at *
    have hD := hd2.trans hd
    have hq2 := hd.keeps hq1 (by omega)
    have hgw := hD.st.lt
    clear hd hd1 hd2 hq1 hd0 hs
    go_wp2_with fail
    have hd3 := hD.alloc (.cells #[.int .i64 0, .int .i64 1, .int .i64 99, .int .i64 100, .int .i64 (-5)] 3)
    have hwz : w.heap.size ≤ w1.heap.size := hD.grown.size
    refine (pickint_any n₀ g len cap w1.heap.size 5 a zs c1 [0, 1, 99, 100, -5] _ hd3.st (by omega) (by omega) rfl (by omega) ?_).mono ?_
    · intro k hk
      rw [lit_cell]
      rcases (by omega : k = 0 ∨ k = 1 ∨ k = 2 ∨ k = 3 ∨ k = 4) with rfl | rfl | rfl | rfl | rfl <;> rfl
    · rintro e w2 ⟨rfl, hd⟩
      have hbd2 := belowF_bd zs len c1 (5 : Nat)
      generalize belowF zs len c1 (5 : Nat) = b at *
      obtain ⟨y0, c2⟩ := b
      dsimp only at *
      have hy : -5 ≤ [0, 1, 99, 100, (-5 : Int)][y0.toNat]?.getD 0 ∧ [0, 1, 99, 100, (-5 : Int)][y0.toNat]?.getD 0 ≤ 100 := by
        rcases (by omega : y0.toNat = 0 ∨ y0.toNat = 1 ∨ y0.toNat = 2 ∨ y0.toNat = 3 ∨ y0.toNat = 4) with h | h | h | h | h <;> rw [h] <;> simp
      generalize [0, 1, 99, 100, (-5 : Int)][y0.toNat]?.getD 0 = y at *
      have hq3 : (w1.alloc (.cells #[.int .i64 0, .int .i64 1, .int .i64 99, .int .i64 100, .int .i64 (-5)] 3)).heap[w.heap.size]? = some (.cells #[.int .i64 0, .int .i64 0] 41) := by
        rw [Below.heap_alloc _ _ _ (Array.getElem?_eq_some_iff.1 hq2).1]; exact hq2
      have hb1 := hd.keeps hq3 (by omega)
      have hDD := hd3.trans hd
      have hbk := fun w => build_key x y w
      obtain ⟨s1, s2, s3, s4, s5, s6⟩ := two_set (.int .i64 0) (.int .i64 0) (.int .i64 x) (.int .i64 y) hb1
      have hG := hDD.grow hgl (grown_two w2 w.heap.size (.int .i64 x) (.int .i64 y)) (fun b e => by cases e; omega)
      have HG := Lib.hid hG; have S56 := Lib.hid (And.intro s5 s6)
      have hsz : w.heap.size < w2.heap.size := (Array.getElem?_eq_some_iff.1 hb1).1
      clear hD hd hd3 hDD hG s5 s6 hb1 hq3 hq2
      go_wp2
      refine bodyPost_ret (v := kv (x, y)) ?_ rfl ⟨(x, y), c2, rfl, by dsimp only; omega, HG.out⟩
      rw [results_cell (p := 2) (ty := 41) (by kernel_rfl)]
      have hl := key_load (k := (x, y)) (o := 0) S56.out (by simp [World.setCell]; omega) (Below.refl _ _)
      simp [asAddr, Result.andThen, hl]
end Go.Proofs.Ytnknfmjpkphbpaa
/- Draws: once in so many. -/
namespace Go.Proofs.Ytnknfmjpkphbpaa
open Go.ChangeShapes Go.WideShapes Go.ChangeAt Go.RowKit
set_option linter.unusedVariables false

theorem once_any (n₀ g len cap : Nat) (a : Option Addr) (zs : List Int) (c : Cu) (n : Int) (w : World) (hs : DrawSt n₀ w g a len cap zs c.i c.h) (hn : -9223372036854775808 ≤ n ∧ n ≤ 9223372036854775807) :
    Calls Try.prog 54 #[.pointer (some ⟨g, 0, none⟩), .int .i64 n] w fun e w' => e = .returned (.bool ((belowF zs len c n).1 == 0)) ∧ Drew n₀ g a len cap zs (belowF zs len c n).2 w w' := by
  have H1 := Lib.hid (below_any n₀ g len cap a zs c n w hs hn); clear hs
  generalize belowF zs len c n = b at *
  go_enter Try.func54, Try.ntmps54
  go_wp2_with fail
  refine H1.out.mono ?_
  clear H1
  rintro e w1 ⟨rfl, hd⟩
  go_wp2
  go_ret
  exact ⟨rfl, hd⟩
end Go.Proofs.Ytnknfmjpkphbpaa
/- Draws: one of several texts. -/
namespace Go.Proofs.Ytnknfmjpkphbpaa
open Go.ChangeShapes Go.WideShapes Go.ChangeAt Go.RowKit
set_option linter.unusedVariables false

theorem pick_any (n₀ g len cap lb n : Nat) (a : Option Addr) (zs : List Int) (c : Cu) (xs : List ByteArray) (w : World) (hs : DrawSt n₀ w g a len cap zs c.i c.h) (hn : 0 < n) (hn2 : n ≤ 256) (hx : xs.length = n) (hlg : lb ≠ g)
    (hcells : ∀ k, k < n → w.cell? ⟨lb, k, none⟩ = some (.string (xs[k]?.getD ByteArray.empty))) :
    Calls Try.prog 80 #[.pointer (some ⟨g, 0, none⟩), .slice (some ⟨lb, 0, none⟩) n n] w fun e w' => e = .returned (.string (xs[(belowF zs len c n).1.toNat]?.getD ByteArray.empty)) ∧ Drew n₀ g a len cap zs (belowF zs len c n).2 w w' := by
  have H1 := Lib.hid (below_any n₀ g len cap a zs c n w hs (by omega)); clear hs
  have hbd := belowF_bd zs len c n
  generalize belowF zs len c n = b at *
  obtain ⟨x, c'⟩ := b
  dsimp only at *
  have hx0 : 0 ≤ x := hbd.1
  have hx1 : x < (n : Int) := hbd.2 (by omega)
  obtain ⟨m, rfl⟩ : ∃ m : Nat, x = m := ⟨x.toNat, by omega⟩
  have hm : m < n := by omega
  have hc := hcells m hm
  have e1 : (m : Int).toNat = m := by omega
  rw [e1]
  generalize xs[m]?.getD ByteArray.empty = y at *
  clear hcells hbd
  go_enter Try.func80, Try.ntmps80
  go_wp2_with fail
  refine H1.out.mono ?_
  clear H1
  rintro e w1 ⟨rfl, hd⟩
  have hc1 : w1.cell? ⟨lb, m, none⟩ = some (.string y) := hd.grown.cell hc (by simpa using hlg)
  go_wp2
  go_ret
  exact ⟨rfl, hd⟩

end Go.Proofs.Ytnknfmjpkphbpaa
/- Chapter 4's draws: what a key reads, by itself. -/
namespace Go.Proofs.Ytnknfmjpkphbpaa
open Go.ChangeShapes Go.WideShapes Go.ChangeAt Go.RowKit Go.BigFrame
set_option linter.unusedVariables false

def truthV (k : K2) : ByteArray := putV (1000003 * k.1 + 77777 * k.2 + 12345) 4
theorem truth_any (k : K2) (w : World) (h1 : 0 ≤ k.1 ∧ k.1 ≤ 1000) (h2 : 0 ≤ k.2 ∧ k.2 ≤ 1000) : Calls Try.prog 86 #[kv k] w fun e w' => e = .returned (.string (truthV k)) ∧ Below w.heap.size w w' := by
  obtain ⟨n, s⟩ := k
  unfold kv truthV
  dsimp only at *
  have hb : Below w.heap.size w (w.alloc (.cells #[.int .i64 n, .int .i64 s] 41)) := (Below.refl _ _).alloc (Nat.le_refl _) _
  have e1 : wrap64 (1000003 * n) = 1000003 * n := IntWalk.wrap64_in _ (by omega)
  have e2 : wrap64 (77777 * s) = 77777 * s := IntWalk.wrap64_in _ (by omega)
  have e3 : wrap64 (1000003 * n + 77777 * s) = 1000003 * n + 77777 * s := IntWalk.wrap64_in _ (by omega)
  have e4 : wrap64 (1000003 * n + 77777 * s + 12345) = 1000003 * n + 77777 * s + 12345 := IntWalk.wrap64_in _ (by omega)
  have HP := Lib.hid (fun w => sput_any (1000003 * n + 77777 * s + 12345) 4 w (by omega))
  go_enter Try.func86, Try.ntmps86
  go_wp2_with fail
  refine (HP.out _).mono ?_
  rintro e w1 ⟨rfl, hb1⟩
  have hB := hb.trans (hb1.mono hb.size)
  clear HP hb hb1
  go_wp2
  go_ret
  exact ⟨rfl, hB⟩
end Go.Proofs.Ytnknfmjpkphbpaa
/- Chapter 4's draws: a reading. -/
namespace Go.Proofs.Ytnknfmjpkphbpaa
open Go.ChangeShapes Go.WideShapes Go.ChangeAt Go.RowKit Go.BigFrame
set_option linter.unusedVariables false

theorem Drew.drewR {n₀ g : Nat} {a : Option Addr} {len cap : Nat} {zs : List Int} {c : Cu} {w w1 : World} (h : Drew n₀ g a len cap zs c w w1) : Drew n₀ g a len cap zs c w w1.drew :=
  ⟨⟨h.st.code, h.st.cur, h.st.hg, h.st.hi⟩, h.below.drew, grownT h.grown ⟨rfl, rfl, rfl, Nat.le_refl _, fun _ _ _ => rfl⟩⟩
theorem set_cellsD {w : World} {B j : Nat} {cs : Array Value} {t : TypeId} (u : Value) (h : w.heap[B]? = some (.cells cs t (0, 0))) : (w.setCell ⟨B, j, none⟩ u).heap[B]? = some (.cells (cs.setIfInBounds j u) t (0, 0)) := by
  obtain ⟨hlt, hk⟩ := Array.getElem?_eq_some_iff.1 h
  show (w.heap.modify B _)[B]? = _
  rw [Array.getElem?_eq_getElem (by rw [Array.size_modify]; exact hlt), Array.getElem_modify_self, hk]
  rfl
structure Row3 (w : World) (b : Nat) (x y z : Value) : Prop where
  c0 : w.cell? ⟨b, 0, none⟩ = some x
  c1 : w.cell? ⟨b, 1, none⟩ = some y
  c2 : w.cell? ⟨b, 2, none⟩ = some z
  f0 : w.frozen? ⟨b, 0, none⟩ = false
  f1 : w.frozen? ⟨b, 1, none⟩ = false
  f2 : w.frozen? ⟨b, 2, none⟩ = false
theorem row3_of {w : World} {b : Nat} {x y z : Value} {t : TypeId} (h : w.heap[b]? = some (.cells #[x, y, z] t (0, 0))) : Row3 w b x y z :=
  ⟨by rw [cell_of_row _ _ 0 _ _ _ h]; rfl, by rw [cell_of_row _ _ 1 _ _ _ h]; rfl, by rw [cell_of_row _ _ 2 _ _ _ h]; rfl, by simp [World.frozen?, h], by simp [World.frozen?, h], by simp [World.frozen?, h]⟩
theorem set3 {w : World} {b : Nat} {x y z : Value} {t : TypeId} (p q r : Value) (h : w.heap[b]? = some (.cells #[x, y, z] t (0, 0))) :
    (((w.setCell ⟨b, 0, none⟩ p).setCell ⟨b, 1, none⟩ q).setCell ⟨b, 2, none⟩ r).heap[b]? = some (.cells #[p, q, r] t (0, 0)) := set_cellsD _ (set_cellsD _ (set_cellsD _ h))
theorem set3_other (w : World) (b k : Nat) (p q r : Value) (hne : b ≠ k) : (((w.setCell ⟨b, 0, none⟩ p).setCell ⟨b, 1, none⟩ q).setCell ⟨b, 2, none⟩ r).heap[k]? = w.heap[k]? := by
  rw [Below.heap_setCell _ _ _ _ hne.symm, Below.heap_setCell _ _ _ _ hne.symm, Below.heap_setCell _ _ _ _ hne.symm]
theorem grown3 (w : World) (b : Nat) (p q r : Value) : w.grownBy (((w.setCell ⟨b, 0, none⟩ p).setCell ⟨b, 1, none⟩ q).setCell ⟨b, 2, none⟩ r) (some b) :=
  grownT (grownT (Lib.grownBy_setCell w b 0 p) (Lib.grownBy_setCell _ b 1 q)) (Lib.grownBy_setCell _ b 2 r)
theorem truthV_size (k : K2) (h1 : 0 ≤ k.1 ∧ k.1 ≤ 1000) (h2 : 0 ≤ k.2 ∧ k.2 ≤ 1000) : (truthV k).size = 4 := by
  unfold truthV putV
  rw [if_neg (by omega)]
  show (beL _ (4 : Int).toNat).toArray.size = 4
  have := beL_len (1000003 * k.1 + 77777 * k.2 + 12345).toNat (4 : Int).toNat
  simpa using this
def pick3 : List ByteArray := [⟨#[97, 98, 99, 100]⟩, ⟨#[0, 0, 0, 0]⟩, ⟨#[255, 255, 255, 255]⟩]
theorem pick3_size (i : Nat) (h : i < 3) : (pick3[i]?.getD ByteArray.empty).size = 4 := by
  rcases (by omega : i = 0 ∨ i = 1 ∨ i = 2) with rfl | rfl | rfl <;> decide
/-- behind the drawn region: the reading in its box, the result's box -/
structure D4 (n₀ g : Nat) (a : Option Addr) (len cap : Nat) (zs : List Int) (c1 : Cu) (w W : World) (b4 : Nat) (n s : Int) (tr : ByteArray) : Prop where
  drew : Drew n₀ g a len cap zs c1 w W
  row : W.heap[b4]? = some (.cells #[.int .i64 n, .int .i64 s, .string tr] 43)
  res : W.heap[w.heap.size]? = some (.cells #[.int .i64 0, .int .i64 0, .string ⟨#[]⟩] 43)
  lt : w.heap.size < b4
theorem d4_a {n₀ g : Nat} {a : Option Addr} {len cap : Nat} {zs : List Int} {c1 : Cu} {w w2 : World} {n s : Int} {tr : ByteArray} (hd : Drew n₀ g a len cap zs c1 w w2)
    (hr : w2.heap[w.heap.size]? = some (.cells #[.int .i64 0, .int .i64 0, .string ⟨#[]⟩] 43)) : D4 n₀ g a len cap zs c1 w (w2.alloc (.cells #[.int .i64 n, .int .i64 s, .string tr] 43)) w2.heap.size n s tr :=
  ⟨hd.alloc _, heap_alloc_new w2 _, (Below.heap_alloc _ _ _ (Array.getElem?_eq_some_iff.1 hr).1).trans hr, (Array.getElem?_eq_some_iff.1 hr).1⟩
theorem d4_b {n₀ g : Nat} {a : Option Addr} {len cap : Nat} {zs : List Int} {c1 : Cu} {w w2 : World} {n s : Int} {tr : ByteArray} {b : Nat} {x y z : Value} (hd : Drew n₀ g a len cap zs c1 w w2) (hgl : g < w.heap.size)
    (hr : w2.heap[w.heap.size]? = some (.cells #[.int .i64 0, .int .i64 0, .string ⟨#[]⟩] 43)) (hz : w2.heap[b]? = some (.cells #[x, y, z] 43)) (hl : w.heap.size < b) :
    D4 n₀ g a len cap zs c1 w (((w2.setCell ⟨b, 0, none⟩ (.int .i64 n)).setCell ⟨b, 1, none⟩ (.int .i64 s)).setCell ⟨b, 2, none⟩ (.string tr)) b n s tr :=
  ⟨hd.grow hgl (grown3 w2 b _ _ _) (fun j e => by cases e; omega), set3 _ _ _ hz, (set3_other w2 b w.heap.size _ _ _ (by omega)).trans hr, hl⟩
theorem zero3_aft {w0 w : World} {o : Obj} (hb : Below (w0.alloc o).drew.heap.size (w0.alloc o).drew w) : w.heap[w0.heap.size]? = some o :=
  (hb.block w0.heap.size (by simp)).trans (show (w0.alloc o).drew.heap[w0.heap.size]? = _ from heap_alloc_new w0 _)
theorem d4_call1 {n₀ g : Nat} {a : Option Addr} {len cap : Nat} {zs : List Int} {c1 : Cu} {w w1 w2 : World} {o k : Obj} (hd : Drew n₀ g a len cap zs c1 w w1) (hgl : g < w.heap.size) (hr : w1.heap[w.heap.size]? = some o) (hb : Below (w1.alloc k).drew.heap.size (w1.alloc k).drew w2) :
    Drew n₀ g a len cap zs c1 w w2 ∧ w2.heap[w1.heap.size]? = some k ∧ w2.heap[w.heap.size]? = some o := by
  have hl := (Array.getElem?_eq_some_iff.1 hr).1
  refine ⟨((hd.alloc k).drewR).grow hgl (grown_of_below' hb none) (by simp), (hb.block _ (by show _ < (w1.alloc k).heap.size; simp)).trans (heap_alloc_new w1 k), (hb.block _ (by show _ < (w1.alloc k).heap.size; simp; omega)).trans ((Below.heap_alloc w1 k _ hl).trans hr)⟩
theorem d4_call2 {n₀ g : Nat} {a : Option Addr} {len cap : Nat} {zs : List Int} {c1 : Cu} {w w1 w2 : World} {o k z : Obj} (hd : Drew n₀ g a len cap zs c1 w w1) (hgl : g < w.heap.size) (hr : w1.heap[w.heap.size]? = some o) (hb : Below ((w1.alloc k).alloc z).drew.heap.size ((w1.alloc k).alloc z).drew w2) :
    (Drew n₀ g a len cap zs c1 w w2 ∧ w2.heap[w1.heap.size]? = some k ∧ w2.heap[w.heap.size]? = some o) ∧ w2.heap[w1.heap.size + 1]? = some z := by
  have hl := (Array.getElem?_eq_some_iff.1 hr).1
  have hz := zero3_aft hb
  rw [World.size_alloc] at hz
  refine ⟨⟨(((hd.alloc k).alloc z).drewR).grow hgl (grown_of_below' hb none) (by simp), (hb.block _ (by show _ < ((w1.alloc k).alloc z).heap.size; simp; omega)).trans ((Below.heap_alloc (w1.alloc k) z _ (by simp)).trans (heap_alloc_new w1 k)), (hb.block _ (by show _ < ((w1.alloc k).alloc z).heap.size; simp; omega)).trans ((Below.heap_alloc (w1.alloc k) z _ (by simp; omega)).trans ((Below.heap_alloc w1 k _ hl).trans hr))⟩, hz⟩
set_option maxRecDepth 100000 in
set_option maxHeartbeats 2000000 in
theorem l04reading_any (n₀ g len cap : Nat) (a : Option Addr) (zs : List Int) (c : Cu) (w : World) (hs : DrawSt n₀ w g a len cap zs c.i c.h) :
    Calls Try.prog 100 #[.pointer (some ⟨g, 0, none⟩)] w fun e w' => ∃ (r : R3) (c' : Cu), e = .returned (rv r) ∧ (1 ≤ r.1.1 ∧ r.1.1 ≤ 5 ∧ 1 ≤ r.1.2 ∧ r.1.2 ≤ 2) ∧ r.2.size = 4 ∧ Drew n₀ g a len cap zs c' w w' := by
  have hd0 : Drew n₀ g a len cap zs c w w := ⟨hs, Below.refl _ _, World.grownBy.refl _ _⟩
  have hgl := hs.lt
  go_enter Try.func100, Try.ntmps100
  go_wp2_with fail
  have hd1 := hd0.alloc (.cells #[.int .i64 0, .int .i64 0, .string ⟨#[]⟩] 43)
  refine (key_any n₀ g len cap a zs c _ hd1.st).mono ?_
  rintro e w1 ⟨⟨n, s⟩, c1, rfl, hk, hd⟩
  dsimp only at hk
  have HD := Lib.hid (hd1.trans hd)
  have HR1 := Lib.hid (hd.keeps (heap_alloc_new w (.cells #[.int .i64 0, .int .i64 0, .string ⟨#[]⟩] 43)) (by omega))
  have hl1 : w.heap.size < w1.heap.size := (Array.getElem?_eq_some_iff.1 HR1.out).1
  have HT := Lib.hid (fun w => truth_any (n, s) w (by dsimp only; omega) (by dsimp only; omega))
  have htr : (truthV (n, s)).size = 4 := truthV_size _ (by dsimp only; omega) (by dsimp only; omega)
  generalize truthV (n, s) = tr at *
  unfold kv at *
  dsimp only at *
  have hbk := fun w => run_build (P := Try.prog) w 43 #[(0, .agg #[.int .i64 n, .int .i64 s]), (1, .string tr)] (#[.int .i64 n, .int .i64 s, .string tr]) (by kernel_rfl)
  clear hd1 hd hd0
  go_wp2_with fail
  go_region_law (first
    | (go_simp
       go_at_call 86
       refine (HT.out _).mono ?_
       rintro e w2 ⟨rfl, hb2⟩
       dsimp only
       first
         | (have h42 := d4_call2 (k := .cells #[.int .i64 n, .int .i64 s] 41) (z := .cells #[.int .i64 0, .int .i64 0, .string ⟨#[]⟩] 43) HD.out hgl HR1.out hb2
            obtain ⟨⟨hD3, hk3, hr3⟩, hz3⟩ := h42
            obtain ⟨z0, z1, z2, f0, f1, f2⟩ := row3_of hz3
            have HZ3 := Lib.hid hz3
            have hl4 : w1.heap.size + 1 < w2.heap.size := (Array.getElem?_eq_some_iff.1 hz3).1
            clear hz3)
         | (have h41 := d4_call1 (k := .cells #[.int .i64 n, .int .i64 s] 41) HD.out hgl HR1.out hb2
            obtain ⟨hD3, hk3, hr3⟩ := h41)
       have y0 : w2.cell? ⟨w1.heap.size, 0, none⟩ = some (.int .i64 n) := by rw [cell_of_row _ _ 0 _ _ _ hk3]; rfl
       have y1 : w2.cell? ⟨w1.heap.size, 1, none⟩ = some (.int .i64 s) := by rw [cell_of_row _ _ 1 _ _ _ hk3]; rfl
       have hl3 : w1.heap.size < w2.heap.size := (Array.getElem?_eq_some_iff.1 hk3).1
       have HD3 := Lib.hid hD3; have HR3 := Lib.hid hr3
       clear hb2 hk3 hD3 hr3))
  all_goals
    clear HD HR1 HT hbk
    first
      | (have hF := d4_b (n := n) (s := s) (tr := tr) HD3.out hgl HR3.out HZ3.out (by omega)
         generalize ((w2.setCell ⟨w1.heap.size + 1, 0, none⟩ (.int .i64 n)).setCell ⟨w1.heap.size + 1, 1, none⟩ (.int .i64 s)).setCell ⟨w1.heap.size + 1, 2, none⟩ (.string tr) = W3 at *
         clear hl3 hl4 HD3 HR3 HZ3 z0 z1 z2 f0 f1 f2 y0 y1
         generalize w1.heap.size + 1 = b4 at *)
      | (have hF := d4_a (n := n) (s := s) (tr := tr) HD3.out HR3.out
         generalize w2.alloc (.cells #[.int .i64 n, .int .i64 s, .string tr] 43) = W3 at *
         generalize w2.heap.size = b4 at *
         clear hl3 HD3 HR3 y0 y1)
    have HF := Lib.hid hF
    clear hF
    go_wp2_with fail
    refine (once_any n₀ g len cap a zs c1 6 _ HF.out.drew.st (by omega)).mono ?_
    rintro e w4 ⟨rfl, hd4⟩
    have HD4 := Lib.hid (HF.out.drew.trans hd4)
    have hg3 : g < b4 := by have := HF.out.lt; omega
    have hrow4 := hd4.keeps HF.out.row (by omega)
    have HRES4 := Lib.hid (hd4.keeps HF.out.res (by omega))
    have HROW4 := Lib.hid hrow4
    have HLT := Lib.hid HF.out.lt
    generalize (belowF zs len c1 6).2 = c2 at *
    generalize ((belowF zs len c1 6).1 == 0) = bo at *
    clear HF hd4
    cases bo with
    | false =>
      obtain ⟨x0, x1, x2, -, -, -⟩ := row3_of HROW4.out
      obtain ⟨r0, r1, r2, f0, f1, f2⟩ := row3_of HRES4.out
      have hfin := set3 (.int .i64 n) (.int .i64 s) (.string tr) HRES4.out
      have hD5 := HD4.out.grow hgl (grown3 w4 w.heap.size (.int .i64 n) (.int .i64 s) (.string tr)) (fun j e => by cases e; omega)
      have L2 := Lib.hid (run_loadVar_row (P := Try.prog) _ w.heap.size 43 43 #[.int .i64 n, .int .i64 s, .string tr] (0, 0) _ hfin Try.underlying43 rfl (by kernel_rfl))
      have HD5 := Lib.hid hD5
      have hb4 := HLT.out
      clear hfin hD5 hrow4
      go_wp2_with fail
      refine bodyPost_ret (v := .agg #[.int .i64 n, .int .i64 s, .string tr]) ?_ rfl ⟨((n, s), tr), c2, rfl, hk, htr, HD5.out⟩
      rw [results_cell (p := 2) (ty := 43) (by kernel_rfl)]
      simp [asAddr, Result.andThen, L2.out]
    | true =>
      have P3 := Lib.hid (pick_any n₀ g len cap w4.heap.size 3 a zs c2 pick3 (w4.alloc (.cells #[.string ⟨#[97, 98, 99, 100]⟩, .string ⟨#[0, 0, 0, 0]⟩, .string ⟨#[255, 255, 255, 255]⟩] 9)) (HD4.out.alloc _).st (by omega) (by omega) rfl (by have := HD4.out.st.lt; omega) (by
        intro k hk
        rw [lit_cell]
        rcases (by omega : k = 0 ∨ k = 1 ∨ k = 2) with rfl | rfl | rfl <;> rfl))
      have hps := pick3_size (belowF zs len c2 (3 : Nat)).1.toNat (by have := belowF_bd zs len c2 (3 : Nat); omega)
      generalize pick3[(belowF zs len c2 (3 : Nat)).1.toNat]?.getD ByteArray.empty = tp at *
      generalize (belowF zs len c2 (3 : Nat)).2 = c3 at *
      have hb4l := (Array.getElem?_eq_some_iff.1 HROW4.out).1
      clear hrow4
      go_wp2_with fail
      refine P3.out.mono ?_
      rintro e w5 ⟨rfl, hd5⟩
      have hrow5 := hd5.keeps ((Below.heap_alloc w4 _ _ hb4l).trans HROW4.out) (by omega)
      have hres5 := hd5.keeps ((Below.heap_alloc w4 _ _ (Array.getElem?_eq_some_iff.1 HRES4.out).1).trans HRES4.out) (by omega)
      have HD5 := Lib.hid ((HD4.out.alloc _).trans hd5)
      obtain ⟨x0, x1, x2, f0, f1, f2⟩ := row3_of hrow5
      obtain ⟨r0, r1, r2, g0, g1, g2⟩ := row3_of hres5
      have hrow6 := set_cellsD (j := 2) (.string tp) hrow5
      have hne : w.heap.size ≠ b4 := by have := HLT.out; omega
      have hres6 : (w5.setCell ⟨b4, 2, none⟩ (.string tp)).heap[w.heap.size]? = _ := (Below.heap_setCell _ _ _ _ hne).trans hres5
      have hfin := set3 (.int .i64 n) (.int .i64 s) (.string tp) hres6
      have hD7 := HD5.out.grow hgl (grownT (Lib.grownBy_setCell w5 b4 2 (.string tp)) (World.grownBy.refl _ _)) (fun j e => by cases e; have := HLT.out; omega)
      have hD8 := hD7.grow hgl (grown3 (w5.setCell ⟨b4, 2, none⟩ (.string tp)) w.heap.size (.int .i64 n) (.int .i64 s) (.string tp)) (fun j e => by cases e; omega)
      have L2 := Lib.hid (run_loadVar_row (P := Try.prog) _ w.heap.size 43 43 #[.int .i64 n, .int .i64 s, .string tp] (0, 0) _ hfin Try.underlying43 rfl (by kernel_rfl))
      have HD8 := Lib.hid hD8
      have hb4 := HLT.out
      clear hfin hD8 hD7 hrow6 hres6 hrow5 hres5 hd5 P3 HD4 HD5
      go_wp2_with fail
      refine bodyPost_ret (v := .agg #[.int .i64 n, .int .i64 s, .string tp]) ?_ rfl ⟨((n, s), tp), c3, rfl, hk, hps, HD8.out⟩
      rw [results_cell (p := 2) (ty := 43) (by kernel_rfl)]
      simp [asAddr, Result.andThen, L2.out]
end Go.Proofs.Ytnknfmjpkphbpaa
/- Words of several readings: the model's small functions, walked. -/
namespace Go.Proofs.Ytnknfmjpkphbpaa
open Go.ChangeShapes Go.WideShapes Go.ChangeAt Go.RowKit Go.BigFrame
set_option linter.unusedVariables false

/-- a word in memory: two cells -/
theorem cd_cells {W w' : World} {b : Nat} {v : Value} {y : ByteArray} {T : TypeId} (h : W.heap[b]? = some (.cells #[v, .string y] T)) (hb : Below W.heap.size W w') :
    w'.cell? ⟨b, 0, none⟩ = some v ∧ w'.cell? ⟨b, 1, none⟩ = some (.string y) := by
  have h1 := (hb.block _ (Array.getElem?_eq_some_iff.1 h).1).trans h
  exact ⟨by rw [cell_of_row _ _ 0 _ _ _ h1]; rfl, by rw [cell_of_row _ _ 1 _ _ _ h1]; rfl⟩
theorem agg_str (w : World) : (isAgg 9).run Try.prog w = .ok false w := by simp [isAgg, underlying, Try.underlying9]
theorem agg_keys (w : World) : (isAgg 24).run Try.prog w = .ok false w := by simp [isAgg, underlying, Try.underlying24]
theorem load_one {t : TypeId} {w : World} {p : Addr} {v : Value} (ht : ∀ w, (isAgg t).run Try.prog w = .ok false w) (h : w.cell? p = some v) : (loadVar t p).run Try.prog w = .ok v w := by
  unfold loadVar
  simp only [Sem.run_bind, ht, Result.andThen_ok]
  rw [if_neg (by simp)]
  simp [h]
theorem cd_load {W w' : World} {b : Nat} {v : Value} {y : ByteArray} {T : TypeId} (h : W.heap[b]? = some (.cells #[v, .string y] T)) (hb : Below W.heap.size W w') :
    (loadVar 26 ⟨b, 0, none⟩).run Try.prog w' = .ok (.agg #[v, .string y]) w' := by
  obtain ⟨h0, h1⟩ := cd_cells h hb
  refine run_loadVar_mid w' b 0 26 [v, .string y] _ (fun j u hj => ?_) Try.underlying26 rfl (by kernel_rfl)
  have hj2 : j < 2 := by have := (List.getElem?_eq_some_iff.1 hj).1; simpa using this
  rcases (by omega : j = 0 ∨ j = 1) with rfl | rfl
  · simpa using h0.trans (by simpa using hj)
  · simpa using h1.trans (by simpa using hj)
theorem szero_any (w : World) : Calls Try.prog 52 #[] w fun e w' => e = .returned (.string z4) ∧ w' = w := by
  go_enter Try.func52, Try.ntmps52
  go_wp2
  go_ret
  exact ⟨rfl, rfl⟩
theorem cd_loadk {W w' : World} {b : Nat} {v : Value} {y : ByteArray} {T : TypeId} (h : W.heap[b]? = some (.cells #[v, .string y] T)) (hb : Below W.heap.size W w') :
    (loadVar 24 ⟨b, 0, none⟩).run Try.prog w' = .ok v w' := load_one agg_keys (cd_cells h hb).1
theorem cd_loads {W w' : World} {b : Nat} {v : Value} {y : ByteArray} {T : TypeId} (h : W.heap[b]? = some (.cells #[v, .string y] T)) (hb : Below W.heap.size W w') :
    (loadVar 9 ⟨b, 1, none⟩).run Try.prog w' = .ok (.string y) w' := load_one agg_str (cd_cells h hb).2
structure Row2 (w : World) (b : Nat) (x y : Value) : Prop where
  c0 : w.cell? ⟨b, 0, none⟩ = some x
  c1 : w.cell? ⟨b, 1, none⟩ = some y
  f0 : w.frozen? ⟨b, 0, none⟩ = false
  f1 : w.frozen? ⟨b, 1, none⟩ = false
theorem row2_of {w : World} {b : Nat} {x y : Value} {t : TypeId} (h : w.heap[b]? = some (.cells #[x, y] t (0, 0))) : Row2 w b x y :=
  ⟨by rw [cell_of_row _ _ 0 _ _ _ h]; rfl, by rw [cell_of_row _ _ 1 _ _ _ h]; rfl, by simp [World.frozen?, h], by simp [World.frozen?, h]⟩
theorem set2 {w : World} {b : Nat} {x y : Value} {t : TypeId} (p q : Value) (h : w.heap[b]? = some (.cells #[x, y] t (0, 0))) :
    ((w.setCell ⟨b, 0, none⟩ p).setCell ⟨b, 1, none⟩ q).heap[b]? = some (.cells #[p, q] t (0, 0)) := set_cellsD _ (set_cellsD _ h)
theorem grown2 (w : World) (b : Nat) (p q : Value) : w.grownBy ((w.setCell ⟨b, 0, none⟩ p).setCell ⟨b, 1, none⟩ q) (some b) :=
  grownT (Lib.grownBy_setCell w b 0 p) (Lib.grownBy_setCell _ b 1 q)
theorem below2 {w W : World} {n b : Nat} (hb : Below n w W) (h : n ≤ b) (p q : Value) : Below n w ((W.setCell ⟨b, 0, none⟩ p).setCell ⟨b, 1, none⟩ q) :=
  (hb.setCell (p := ⟨b, 0, none⟩) h p).setCell (p := ⟨b, 1, none⟩) h q
theorem szero_below (w : World) : Calls Try.prog 52 #[] w fun e w' => e = .returned (.string z4) ∧ Below w.heap.size w w' :=
  (szero_any w).mono fun e w' h => ⟨h.1, by rw [h.2]; exact Below.refl _ _⟩
set_option maxRecDepth 100000 in
set_option maxHeartbeats 1000000 in
theorem scodeok_any (v : Value) (ks : List K2) (y : ByteArray) (w : World) (h : keysAt w v ks) (hs : ks.length ≤ 2000000) :
    Calls Try.prog 25 #[.agg #[v, .string y]] w fun e w' => e = .returned (.bool (codeOkB (ks, y))) ∧ Below w.heap.size w w' := by
  have hb := (Below.refl w.heap.size w).alloc (Nat.le_refl _) (.cells #[v, .string y] 26)
  have HB := Lib.hid hb
  have HX := Lib.hid (heap_alloc_new w (.cells #[v, .string y] 26))
  have HK := Lib.hid (fun w' (hb' : Below (w.alloc (.cells #[v, .string y] 26)).heap.size (w.alloc (.cells #[v, .string y] 26)) w') => skeysok_any v ks w' (keysAt_below h (hb.trans (hb'.mono hb.size))) hs)
  obtain ⟨a, cap, rfl, -, -⟩ := h
  unfold codeOkB
  dsimp only
  go_enter Try.func25, Try.ntmps25
  go_wp2
  generalize w.alloc (.cells #[.slice a ks.length cap, .string y] 26) = W at *
  have L0 := fun w' (hb' : Below W.heap.size W w') => cd_loadk HX.out hb'
  have L1 := fun w' (hb' : Below W.heap.size W w') => cd_loads HX.out hb'

  clear hb
  by_cases h1 : ks.length ≤ 6
  · have i1 : (ks.length : Int) ≤ 6 := by omega
    have d1 : decide ((ks.length : Int) ≤ 6) = true := decide_eq_true i1
    cases h2 : keysOkR ks with
    | false =>
      rw [h2] at HK
      refine wp_region_below W (by kernel_rfl) (by kernel_rfl) (Below.refl _ _) ?_
      repeat (first
        | go_big_quiet_skip
        | (go_big_quiet_want
           first
             | (go_big_quiet_op; go_big_quiet_on)
             | (refine q_load 24 _ _ _ rfl rfl L0 ?_; simp only [Act.put, List.setIfInBounds_toArray, List.set_cons_zero, List.set_cons_succ]; go_big_quiet_on)
             | (refine q_load 9 _ _ _ rfl rfl L1 ?_; simp only [Act.put, List.setIfInBounds_toArray, List.set_cons_zero, List.set_cons_succ]; go_big_quiet_on)
             | (go_big_quiet_op; refine ⟨_, fun _ _ => rfl, ?_⟩; go_big_quiet_on)
             | (go_big_quiet_op; apply Exists.intro; refine ⟨fun w' hw' => ?_, ?_⟩
                · first
                  | (with_reducible refine (HK.out w' hw').mono ?_
                     rintro e w2 ⟨rfl, hb2⟩
                     exact ⟨rfl, hw'.trans (hb2.mono hw'.size)⟩)
                  | (with_reducible refine (szero_below w').mono ?_
                     rintro e w2 ⟨rfl, hb2⟩
                     exact ⟨rfl, hw'.trans (hb2.mono hw'.size)⟩)
                go_big_quiet_on)))
      refine wpQuiet_nil ?_
      intro w9 hb9
      clear L0 L1
      go_wp2
      go_ret
      exact ⟨by simp [h1, h2], HB.out.trans (hb9.mono HB.out.size)⟩
    | true =>
      rw [h2] at HK
      by_cases h3 : y.size = 4
      · have i3 : (y.size : Int) = 4 := by omega
        have b3 : ((y.size : Int) == 4) = true := by simpa using i3
        by_cases h4 : 0 < ks.length
        · have i4 : (0 : Int) < (ks.length : Int) := by omega
          have d4 : decide ((0 : Int) < (ks.length : Int)) = true := decide_eq_true i4
          refine wp_region_below W (by kernel_rfl) (by kernel_rfl) (Below.refl _ _) ?_
          repeat (first
            | go_big_quiet_skip
            | (go_big_quiet_want
               first
                 | (go_big_quiet_op; go_big_quiet_on)
                 | (refine q_load 24 _ _ _ rfl rfl L0 ?_; simp only [Act.put, List.setIfInBounds_toArray, List.set_cons_zero, List.set_cons_succ]; go_big_quiet_on)
                 | (refine q_load 9 _ _ _ rfl rfl L1 ?_; simp only [Act.put, List.setIfInBounds_toArray, List.set_cons_zero, List.set_cons_succ]; go_big_quiet_on)
                 | (go_big_quiet_op; refine ⟨_, fun _ _ => rfl, ?_⟩; go_big_quiet_on)
                 | (go_big_quiet_op; apply Exists.intro; refine ⟨fun w' hw' => ?_, ?_⟩
                    · first
                      | (with_reducible refine (HK.out w' hw').mono ?_
                         rintro e w2 ⟨rfl, hb2⟩
                         exact ⟨rfl, hw'.trans (hb2.mono hw'.size)⟩)
                      | (with_reducible refine (szero_below w').mono ?_
                         rintro e w2 ⟨rfl, hb2⟩
                         exact ⟨rfl, hw'.trans (hb2.mono hw'.size)⟩)
                    go_big_quiet_on)))
          refine wpQuiet_nil ?_
          intro w9 hb9
          clear L0 L1
          go_wp2
          go_ret
          exact ⟨by simp [h1, h2, h3, h4], HB.out.trans (hb9.mono HB.out.size)⟩
        · have i4 : ¬ (0 : Int) < (ks.length : Int) := by omega
          have d4 : decide ((0 : Int) < (ks.length : Int)) = false := decide_eq_false i4
          have hy : decide (y = z4) = (y.toList == z4.toList) := by
            rw [Bool.eq_iff_iff, decide_eq_true_eq, beq_iff_eq, bytes_toList_iff]
          refine wp_region_below W (by kernel_rfl) (by kernel_rfl) (Below.refl _ _) ?_
          repeat (first
            | go_big_quiet_skip
            | (go_big_quiet_want
               first
                 | (go_big_quiet_op; go_big_quiet_on)
                 | (refine q_load 24 _ _ _ rfl rfl L0 ?_; simp only [Act.put, List.setIfInBounds_toArray, List.set_cons_zero, List.set_cons_succ]; go_big_quiet_on)
                 | (refine q_load 9 _ _ _ rfl rfl L1 ?_; simp only [Act.put, List.setIfInBounds_toArray, List.set_cons_zero, List.set_cons_succ]; go_big_quiet_on)
                 | (go_big_quiet_op; refine ⟨_, fun _ _ => rfl, ?_⟩; go_big_quiet_on)
                 | (go_big_quiet_op; apply Exists.intro; refine ⟨fun w' hw' => ?_, ?_⟩
                    · first
                      | (with_reducible refine (HK.out w' hw').mono ?_
                         rintro e w2 ⟨rfl, hb2⟩
                         exact ⟨rfl, hw'.trans (hb2.mono hw'.size)⟩)
                      | (with_reducible refine (szero_below w').mono ?_
                         rintro e w2 ⟨rfl, hb2⟩
                         exact ⟨rfl, hw'.trans (hb2.mono hw'.size)⟩)
                    go_big_quiet_on)))
          refine wpQuiet_nil ?_
          intro w9 hb9
          clear L0 L1
          go_wp2
          go_ret
          exact ⟨by simp [h1, h2, h3, h4, hy], HB.out.trans (hb9.mono HB.out.size)⟩
      · have i3 : ¬ (y.size : Int) = 4 := by omega
        have b3 : ((y.size : Int) == 4) = false := by simpa using i3
        refine wp_region_below W (by kernel_rfl) (by kernel_rfl) (Below.refl _ _) ?_
        repeat (first
          | go_big_quiet_skip
          | (go_big_quiet_want
             first
               | (go_big_quiet_op; go_big_quiet_on)
               | (refine q_load 24 _ _ _ rfl rfl L0 ?_; simp only [Act.put, List.setIfInBounds_toArray, List.set_cons_zero, List.set_cons_succ]; go_big_quiet_on)
               | (refine q_load 9 _ _ _ rfl rfl L1 ?_; simp only [Act.put, List.setIfInBounds_toArray, List.set_cons_zero, List.set_cons_succ]; go_big_quiet_on)
               | (go_big_quiet_op; refine ⟨_, fun _ _ => rfl, ?_⟩; go_big_quiet_on)
               | (go_big_quiet_op; apply Exists.intro; refine ⟨fun w' hw' => ?_, ?_⟩
                  · first
                    | (with_reducible refine (HK.out w' hw').mono ?_
                       rintro e w2 ⟨rfl, hb2⟩
                       exact ⟨rfl, hw'.trans (hb2.mono hw'.size)⟩)
                    | (with_reducible refine (szero_below w').mono ?_
                       rintro e w2 ⟨rfl, hb2⟩
                       exact ⟨rfl, hw'.trans (hb2.mono hw'.size)⟩)
                  go_big_quiet_on)))
        refine wpQuiet_nil ?_
        intro w9 hb9
        clear L0 L1
        go_wp2
        go_ret
        exact ⟨by simp [h1, h2, h3], HB.out.trans (hb9.mono HB.out.size)⟩
  · have i1 : ¬ (ks.length : Int) ≤ 6 := by omega
    have d1 : decide ((ks.length : Int) ≤ 6) = false := decide_eq_false i1
    refine wp_region_below W (by kernel_rfl) (by kernel_rfl) (Below.refl _ _) ?_
    repeat (first
      | go_big_quiet_skip
      | (go_big_quiet_want
         first
           | (go_big_quiet_op; go_big_quiet_on)
           | (refine q_load 24 _ _ _ rfl rfl L0 ?_; simp only [Act.put, List.setIfInBounds_toArray, List.set_cons_zero, List.set_cons_succ]; go_big_quiet_on)
           | (refine q_load 9 _ _ _ rfl rfl L1 ?_; simp only [Act.put, List.setIfInBounds_toArray, List.set_cons_zero, List.set_cons_succ]; go_big_quiet_on)
           | (go_big_quiet_op; refine ⟨_, fun _ _ => rfl, ?_⟩; go_big_quiet_on)
           | (go_big_quiet_op; apply Exists.intro; refine ⟨fun w' hw' => ?_, ?_⟩
              · first
                | (with_reducible refine (HK.out w' hw').mono ?_
                   rintro e w2 ⟨rfl, hb2⟩
                   exact ⟨rfl, hw'.trans (hb2.mono hw'.size)⟩)
                | (with_reducible refine (szero_below w').mono ?_
                   rintro e w2 ⟨rfl, hb2⟩
                   exact ⟨rfl, hw'.trans (hb2.mono hw'.size)⟩)
              go_big_quiet_on)))
    refine wpQuiet_nil ?_
    intro w9 hb9
    clear L0 L1
    go_wp2
    go_ret
    exact ⟨by simp [h1], HB.out.trans (hb9.mono HB.out.size)⟩
end Go.Proofs.Ytnknfmjpkphbpaa
/- Keys put behind keys: at the operation. -/
namespace Go.Proofs.Ytnknfmjpkphbpaa
open Go.ChangeShapes Go.WideShapes Go.ChangeAt Go.RowKit Go.BigFrame
set_option linter.unusedVariables false

theorem addr_plusK (g off j : Nat) : (⟨g, off, none⟩ : Addr).add j = ⟨g, off + j, none⟩ := by
  unfold Addr.add
  split
  · rename_i h; simp [h]
  · rfl
theorem kyCells_one (ks : List K2) : ∀ u ∈ keyCells ks, u.oneCell' = true := by
  intro u hu
  simp only [keyCells, List.mem_flatMap, List.mem_cons, List.not_mem_nil, or_false] at hu
  obtain ⟨k, _, rfl | rfl⟩ := hu <;> rfl
theorem kyCells_at {w : World} {g off : Nat} {ks : List K2} (h : ∀ i, i < ks.length → w.cell? ⟨g, off + i * 2, none⟩ = some (.int .i64 (ks.getD i (0, 0)).1) ∧ w.cell? ⟨g, off + i * 2 + 1, none⟩ = some (.int .i64 (ks.getD i (0, 0)).2)) :
    ∀ j u, (keyCells ks)[j]? = some u → w.cell? ((⟨g, off, none⟩ : Addr).add j) = some u := by
  intro j u hu
  have hj : j < ks.length * 2 := by rw [← keyCells_len]; exact (List.getElem?_eq_some_iff.1 hu).1
  have hc := keyCells_get ks (j / 2) (by omega)
  have hw := h (j / 2) (by omega)
  rw [addr_plusK]
  rcases (by omega : j = j / 2 * 2 ∨ j = j / 2 * 2 + 1) with e | e
  · rw [← e] at hc
    rw [show off + j / 2 * 2 = off + j by omega] at hw
    rw [hc.1] at hu; cases hu
    exact hw.1
  · rw [← e] at hc
    rw [show off + j / 2 * 2 + 1 = off + j by omega] at hw
    rw [hc.2] at hu; cases hu
    exact hw.2
theorem key_append_none {w : World} {base n : Nat} {v : Value} {xs : List Value} (h : w.ownsRow base 41 2 v n xs) (ar : Option Addr) (cr : Nat) (ty : TypeId) :
    (Builtin.append_ #[24, 24] ty #[v, .slice ar 0 cr]).run Try.prog w = .ok v w := by
  obtain ⟨i0, hi, hz0, hz1, hz2⟩ := info_parts infoK
  have u := Try.underlying24
  rcases h.2 with ⟨rfl, h0⟩ | ⟨g, cap, cur, rfl, _, _, hn, _⟩
  · cases ar <;> simp [Builtin.append_, run_underlying u, sizeOf, typeInfo, hi, storeCells, go_sem]
  · cases ar <;> simp [Builtin.append_, run_underlying u, sizeOf, typeInfo, hi, storeCells, hn, go_sem]
theorem run_append_key {w : World} {base n : Nat} {v : Value} {xs : List Value} (hown : w.ownsRow base 41 2 v n xs) (u : Value) (ks : List K2) (hu : keysAt w u ks) (ty : TypeId) (hn : n + ks.length ≤ 4000000) (hbase : base ≤ w.heap.size) :
    ∃ v' w', (Builtin.append_ #[24, 24] ty #[v, u]).run Try.prog w = .ok v' w' ∧ w'.ownsRow base 41 2 v' (n + ks.length) (xs ++ keyCells ks) ∧ w.grownBy w' v.ownBlock ∧ (v'.ownBlock = v.ownBlock ∨ v'.ownBlock = some w.heap.size) := by
  obtain ⟨i0, hi, hz0, hz1, hz2⟩ := info_parts infoK
  obtain ⟨a, cap, rfl, hcap, hcells⟩ := hu
  by_cases h0 : ks.length = 0
  · obtain rfl : ks = [] := List.length_eq_zero_iff.1 h0
    exact ⟨v, w, key_append_none hown a cap ty, by simpa [keyCells] using hown, World.grownBy.refl _ _, .inl rfl⟩
  · obtain ⟨g, off, rfl, hg, hcs⟩ := hcells.resolve_left h0
    obtain ⟨v', w', hr, h2, h3, h4, h5⟩ := run_append_own_at (P := Try.prog) w base 24 ty 41 i0 (.agg #[.int .i64 0, .int .i64 0]) 2 16 Try.underlying24 hi hz0 hz1 hz2 rfl (by decide) v n xs hown ⟨g, off, none⟩ ks.length cap (keyCells ks) (keyCells_len ks) (kyCells_at hcs) (kyCells_one ks) (by unfold maxLen; omega) (by omega) hbase
    exact ⟨v', w', hr, h2, h3, h5⟩
theorem step_append_key {ops : Array Oper} {o : Oper} {a : Act} {w : World} {K : Act → World → Prop} {Q : Exit → Act → World → Prop} {E : Prop} (hgd : o.guard = none) (s x : Operand)
    (ho : o.op = .call { callee := .builtin .append, args := #[s, x], argTypes := #[24, 24] })
    {base n : Nat} {v : Value} {xs : List Value} (hown : w.ownsRow base 41 2 v n xs) (u : Value) (ks : List K2) (hu : keysAt w u ks) (hs : a.eval s = v) (hx : a.eval x = u) (hn : n + ks.length ≤ 4000000) (hbase : base ≤ w.heap.size)
    (h : ∀ v' w', w'.ownsRow base 41 2 v' (n + ks.length) (xs ++ keyCells ks) → w.grownBy w' v.ownBlock → (v'.ownBlock = v.ownBlock ∨ v'.ownBlock = some w.heap.size) → K (a.put o.dst v') w') :
    if Region.wanted o (yielded ops a.tmps) = true then Oper.wp Try.prog o a w K Q else E := by
  have hw : Region.wanted o (yielded ops a.tmps) = true := by simp [Region.wanted, hgd]
  rw [if_pos hw]
  obtain ⟨v', w', hr, h2, h3, h5⟩ := run_append_key hown u ks hu o.type hn hbase
  unfold Oper.wp execOp
  simp only [ho, resolve, invoke, builtin, Sem.run_bind, Sem.run_pure, Result.andThen_ok, List.map_toArray, List.map_cons, List.map_nil, hs, hx, hr]
  exact h v' w' h2 h3 h5
theorem wpList_append_key {ops : Array Oper} {rest : List Oper} {o : Oper} {a : Act} {w : World} {Q : Exit → Act → World → Prop} (hgd : o.guard = none) (s x : Operand)
    (ho : o.op = .call { callee := .builtin .append, args := #[s, x], argTypes := #[24, 24] })
    {base n : Nat} {v : Value} {xs : List Value} (hown : w.ownsRow base 41 2 v n xs) (u : Value) (ks : List K2) (hu : keysAt w u ks) (hs : a.eval s = v) (hx : a.eval x = u) (hn : n + ks.length ≤ 4000000) (hbase : base ≤ w.heap.size)
    (h : ∀ v' w', w'.ownsRow base 41 2 v' (n + ks.length) (xs ++ keyCells ks) → w.grownBy w' v.ownBlock → (v'.ownBlock = v.ownBlock ∨ v'.ownBlock = some w.heap.size) → wpList Try.prog ops Q rest (a.put o.dst v') w') : wpList Try.prog ops Q (o :: rest) a w := by
  refine wpList_plain hgd fun K hK => ?_
  obtain ⟨v', w', hr, h2, h3, h5⟩ := run_append_key hown u ks hu o.type hn hbase
  unfold Oper.wp execOp
  simp only [ho, resolve, invoke, builtin, Sem.run_bind, Sem.run_pure, Result.andThen_ok, List.map_toArray, List.map_cons, List.map_nil, hs, hx, hr]
  exact hK _ _ (h v' w' h2 h3 h5)
/-- a list of one key, as it is made -/
theorem own_one {w : World} {base : Nat} (p q : Int) (hb : base ≤ w.heap.size) : (w.alloc (.cells #[.int .i64 p, .int .i64 q] 41)).ownsRow base 41 2 (.slice (some ⟨w.heap.size, 0, none⟩) 1 1) 1 (keyCells [(p, q)]) :=
  ⟨by simp [keyCells], .inr ⟨w.heap.size, 1, #[.int .i64 p, .int .i64 q], rfl, hb, heap_alloc_new w _, Nat.le_refl _, by unfold maxLen; omega, rfl, by simp [keyCells]⟩⟩
end Go.Proofs.Ytnknfmjpkphbpaa
/- Words of several readings: the model's blank, single, copied words, walked. -/
namespace Go.Proofs.Ytnknfmjpkphbpaa
open Go.ChangeShapes Go.WideShapes Go.ChangeAt Go.RowKit Go.BigFrame
set_option linter.unusedVariables false

/-- the cells of a word's result, of nothing yet -/
theorem cd_res {W : World} {b : Nat} {v0 : Value} {y0 : ByteArray} (h : W.heap[b]? = some (.cells #[v0, .string y0] 26)) (v : Value) (y : ByteArray) :
    (loadVar 26 ⟨b, 0, none⟩).run Try.prog ((W.setCell ⟨b, 0, none⟩ v).setCell ⟨b, 1, none⟩ (.string y)) = .ok (.agg #[v, .string y]) ((W.setCell ⟨b, 0, none⟩ v).setCell ⟨b, 1, none⟩ (.string y)) :=
  cd_load (set2 v (.string y) h) (Below.refl _ _)
theorem own_set2 {W : World} {base n b : Nat} {e : TypeId} {size : Nat} {v : Value} {xs : List Value} (h : W.ownsRow base e size v n xs) (hb : b < base) (p q : Value) : ((W.setCell ⟨b, 0, none⟩ p).setCell ⟨b, 1, none⟩ q).ownsRow base e size v n xs :=
  h.kept (grown2 W b p q) (by
    cases hv : v.ownBlock with
    | none => exact .inl rfl
    | some g => exact .inr (fun e => by cases e; have := (h.lt _ hv).1; omega))
set_option maxRecDepth 100000 in
set_option maxHeartbeats 1000000 in
theorem sblank_any (v : Value) (y : ByteArray) (w : World) :
    Calls Try.prog 17 #[.agg #[v, .string y]] w fun e w' => ∃ v', e = .returned (.agg #[v', .string z4]) ∧ w'.ownsRow w.heap.size 41 2 v' 0 [] ∧ Below w.heap.size w w' := by
  have hb1 := (Below.refl w.heap.size w).alloc (Nat.le_refl _) (.cells #[v, .string y] 26)
  have hb2 := hb1.alloc hb1.size (.cells #[.slice none 0 0, .string ⟨#[]⟩] 26)
  have hb3 := hb2.alloc hb2.size (.cells #[] 41)
  have hr2 := heap_alloc_new (w.alloc (.cells #[v, .string y] 26)) (.cells #[.slice none 0 0, .string ⟨#[]⟩] 26)
  have hr3 := (Below.heap_alloc ((w.alloc (.cells #[v, .string y] 26)).alloc (.cells #[.slice none 0 0, .string ⟨#[]⟩] 26)) (.cells #[] 41) _ (Array.getElem?_eq_some_iff.1 hr2).1).trans hr2
  have hown := World.ownsRow_made (base := w.heap.size + 2) (e := 41) (size := 2) ((w.alloc (.cells #[v, .string y] 26)).alloc (.cells #[.slice none 0 0, .string ⟨#[]⟩] 26)) #[] 0 (by simp) (by unfold maxLen; omega) rfl
  have e1 : (w.alloc (.cells #[v, .string y] 26)).heap.size = w.heap.size + 1 := by simp
  have e2 : ((w.alloc (.cells #[v, .string y] 26)).alloc (.cells #[.slice none 0 0, .string ⟨#[]⟩] 26)).heap.size = w.heap.size + 2 := by simp
  rw [e1] at hr3
  rw [e2] at hown
  have HB := Lib.hid hb3; have HR := Lib.hid hr3; have HO := Lib.hid hown
  clear hb1 hb2 hb3 hr2 hr3 hown e1 e2
  go_enter Try.func17, Try.ntmps17
  go_wp2_with fail
  generalize ((w.alloc (.cells #[v, .string y] 26)).alloc (.cells #[.slice none 0 0, .string ⟨#[]⟩] 26)).alloc (.cells #[] 41) = W at *
  refine (szero_any _).mono ?_
  rintro e w1 ⟨rfl, rfl⟩
  obtain ⟨c0, c1, f0, f1⟩ := row2_of HR.out
  have hlt := (Array.getElem?_eq_some_iff.1 HR.out).1
  have L2 := Lib.hid (cd_res HR.out (.slice (some ⟨w.heap.size + 2, 0, none⟩) 0 0) z4)
  have HF := Lib.hid (And.intro (own_base (own_set2 HO.out (by omega : w.heap.size + 1 < w.heap.size + 2) (.slice (some ⟨w.heap.size + 2, 0, none⟩) 0 0) (.string z4)) (by omega : w.heap.size ≤ w.heap.size + 2)) (below2 HB.out (by omega : w.heap.size ≤ w.heap.size + 1) (.slice (some ⟨w.heap.size + 2, 0, none⟩) 0 0) (.string z4)))
  clear HB HR HO
  go_wp2_with fail
  refine bodyPost_ret (v := .agg #[.slice (some ⟨w.heap.size + 2, 0, none⟩) 0 0, .string z4]) ?_ rfl ⟨_, rfl, HF.out.1, HF.out.2⟩
  rw [results_cell (p := 2) (ty := 26) (by kernel_rfl)]
  have l2 := L2.out
  simp [asAddr, Result.andThen, l2]
set_option maxRecDepth 100000 in
set_option maxHeartbeats 1000000 in
theorem ssingle_any (r : R3) (w : World) :
    Calls Try.prog 37 #[rv r] w fun e w' => ∃ v', e = .returned (.agg #[v', .string (singM r).2]) ∧ w'.ownsRow w.heap.size 41 2 v' (singM r).1.length (keyCells (singM r).1) ∧ Below w.heap.size w w' := by
  have hs : singM r = if rdOkB r then ([r.1], r.2) else blankC := rfl
  have H1 := fun w => sreadingok_any r w
  obtain ⟨⟨p, q⟩, y⟩ := r
  unfold rv at *
  dsimp only at *
  have hb1 := (Below.refl w.heap.size w).alloc (Nat.le_refl _) (.cells #[.int .i64 p, .int .i64 q, .string y] 43)
  have hb2 := hb1.alloc hb1.size (.cells #[.slice none 0 0, .string ⟨#[]⟩] 26)
  have hr1 := (Below.heap_alloc (w.alloc (.cells #[.int .i64 p, .int .i64 q, .string y] 43)) (.cells #[.slice none 0 0, .string ⟨#[]⟩] 26) w.heap.size (by simp)).trans (heap_alloc_new w (.cells #[.int .i64 p, .int .i64 q, .string y] 43))
  have hr2 := heap_alloc_new (w.alloc (.cells #[.int .i64 p, .int .i64 q, .string y] 43)) (.cells #[.slice none 0 0, .string ⟨#[]⟩] 26)
  have e1 : (w.alloc (.cells #[.int .i64 p, .int .i64 q, .string y] 43)).heap.size = w.heap.size + 1 := by simp
  rw [e1] at hr2
  have e2 : ((w.alloc (.cells #[.int .i64 p, .int .i64 q, .string y] 43)).alloc (.cells #[.slice none 0 0, .string ⟨#[]⟩] 26)).heap.size = w.heap.size + 2 := by simp
  have HZ := Lib.hid e2
  have HB := Lib.hid hb2; have HR := Lib.hid hr2; have HX := Lib.hid hr1
  clear hb1 hb2 hr1 hr2 e1 e2
  obtain ⟨x0, x1, x2, -, -, -⟩ := row3_of HX.out
  go_enter Try.func37, Try.ntmps37
  go_wp2_with fail
  generalize (w.alloc (.cells #[.int .i64 p, .int .i64 q, .string y] 43)).alloc (.cells #[.slice none 0 0, .string ⟨#[]⟩] 26) = W at *
  refine (H1 _).mono ?_
  rintro e w1 ⟨rfl, hb1⟩
  have HB1 := Lib.hid (HB.out.trans (hb1.mono HB.out.size))
  have HR1 := Lib.hid ((hb1.block _ (Array.getElem?_eq_some_iff.1 HR.out).1).trans HR.out)
  have HX1 := Lib.hid ((hb1.block _ (Array.getElem?_eq_some_iff.1 HX.out).1).trans HX.out)
  have HZ1 := Lib.hid (show w.heap.size + 2 ≤ w1.heap.size by have := hb1.size; have := HZ.out; omega)
  clear hb1 x0 x1 x2 HB HR HX H1 HZ
  generalize hok : rdOkB ((p, q), y) = b at *
  have HS := Lib.hid hs
  clear hs hok
  cases b with
  | false =>
    go_wp2_with fail
    refine (sblank_any _ _ _).mono ?_
    rintro e w2 ⟨v2, rfl, ho2, hb2⟩
    obtain ⟨a2, n2, k2, rfl⟩ : ∃ a n c, v2 = .slice a n c := by
      rcases ho2.2 with ⟨h, _⟩ | ⟨g, cap, cur, h, _⟩
      · exact ⟨_, _, _, h⟩
      · exact ⟨_, _, _, h⟩
    have hr2 := (hb2.block _ (Array.getElem?_eq_some_iff.1 HR1.out).1).trans HR1.out
    have hB2 := HB1.out.trans (hb2.mono HB1.out.size)
    obtain ⟨c0, c1, f0, f1⟩ := row2_of hr2
    have hlt := (Array.getElem?_eq_some_iff.1 hr2).1
    have L2 := Lib.hid (cd_res hr2 (.slice a2 n2 k2) z4)
    have HF := Lib.hid (And.intro (own_base (own_set2 ho2 (by have := HZ1.out; omega : w.heap.size + 1 < w1.heap.size) (.slice a2 n2 k2) (.string z4)) (by have := HZ1.out; omega : w.heap.size ≤ w1.heap.size)) (below2 hB2 (by omega : w.heap.size ≤ w.heap.size + 1) (.slice a2 n2 k2) (.string z4)))
    clear ho2 hb2 hr2 hB2 HB1 HR1 HX1
    go_wp2_with fail
    refine bodyPost_ret (v := .agg #[.slice a2 n2 k2, .string z4]) ?_ rfl ⟨_, by rw [HS.out]; rfl, by rw [HS.out]; exact HF.out.1, HF.out.2⟩
    rw [results_cell (p := 2) (ty := 26) (by kernel_rfl)]
    have l2 := L2.out
    simp [asAddr, Result.andThen, l2]
  | true =>
    obtain ⟨x0, x1, x2, -, -, -⟩ := row3_of HX1.out
    have hb2 := HB1.out.alloc HB1.out.size (.cells #[.int .i64 p, .int .i64 q] 41)
    have hr2 := (Below.heap_alloc w1 (.cells #[.int .i64 p, .int .i64 q] 41) _ (Array.getElem?_eq_some_iff.1 HR1.out).1).trans HR1.out
    have hx2 := (Below.heap_alloc w1 (.cells #[.int .i64 p, .int .i64 q] 41) _ (Array.getElem?_eq_some_iff.1 HX1.out).1).trans HX1.out
    have ho2 := own_one (w := w1) (base := w1.heap.size) p q (Nat.le_refl _)
    obtain ⟨c0, c1, f0, f1⟩ := row2_of hr2
    obtain ⟨y0, y1, y2, -, -, -⟩ := row3_of hx2
    have hlt := (Array.getElem?_eq_some_iff.1 hr2).1
    have L2 := Lib.hid (cd_res hr2 (.slice (some ⟨w1.heap.size, 0, none⟩) 1 1) y)
    have HF := Lib.hid (And.intro (own_base (own_set2 ho2 (by have := HZ1.out; omega : w.heap.size + 1 < w1.heap.size) (.slice (some ⟨w1.heap.size, 0, none⟩) 1 1) (.string y)) (by have := HZ1.out; omega : w.heap.size ≤ w1.heap.size)) (below2 hb2 (by omega : w.heap.size ≤ w.heap.size + 1) (.slice (some ⟨w1.heap.size, 0, none⟩) 1 1) (.string y)))
    clear ho2 hb2 hr2 hx2 HB1 HR1 HX1
    go_wp2_with fail
    refine bodyPost_ret (v := .agg #[.slice (some ⟨w1.heap.size, 0, none⟩) 1 1, .string y]) ?_ rfl ⟨_, by rw [HS.out]; rfl, by rw [HS.out]; exact HF.out.1, HF.out.2⟩
    rw [results_cell (p := 2) (ty := 26) (by kernel_rfl)]
    have l2 := L2.out
    simp [asAddr, Result.andThen, l2]
end Go.Proofs.Ytnknfmjpkphbpaa
/- A word on its way. -/
namespace Go.Proofs.Ytnknfmjpkphbpaa
open Go.ChangeShapes Go.WideShapes Go.ChangeAt Go.RowKit Go.BigFrame
set_option linter.unusedVariables false

/-- what is known of a world in which a word's copy is on its way: the word, the result's place -/
structure CpC (w W : World) (v0 : Value) (y0 : ByteArray) : Prop where
  below : Below w.heap.size w W
  row : W.heap[w.heap.size]? = some (.cells #[v0, .string y0] 26)
  res : W.heap[w.heap.size + 1]? = some (.cells #[.slice none 0 0, .string ⟨#[]⟩] 26)
theorem cpc_new (w : World) (v : Value) (y : ByteArray) : CpC w ((w.alloc (.cells #[v, .string y] 26)).alloc (.cells #[.slice none 0 0, .string ⟨#[]⟩] 26)) v y := by
  have hb1 := (Below.refl w.heap.size w).alloc (Nat.le_refl _) (.cells #[v, .string y] 26)
  have hr2 := heap_alloc_new (w.alloc (.cells #[v, .string y] 26)) (.cells #[.slice none 0 0, .string ⟨#[]⟩] 26)
  have e1 : (w.alloc (.cells #[v, .string y] 26)).heap.size = w.heap.size + 1 := by simp
  rw [e1] at hr2
  exact ⟨hb1.alloc hb1.size _, (Below.heap_alloc _ _ w.heap.size (by simp)).trans (heap_alloc_new w _), hr2⟩
theorem CpC.next {w W W' : World} {v0 : Value} {y0 : ByteArray} {own : Option Nat} (h : CpC w W v0 y0) (hg : W.grownBy W' own) (ho : ∀ g, own = some g → w.heap.size + 2 ≤ g) : CpC w W' v0 y0 := by
  have l1 := (Array.getElem?_eq_some_iff.1 h.res).1
  refine ⟨h.below.grown hg h.below.size (fun g e => by have := ho g e; omega), (hg.block _ (by omega) (fun e => by have := ho _ e.symm; omega)).trans h.row, (hg.block _ l1 (fun e => by have := ho _ e.symm; omega)).trans h.res⟩
theorem own_shape {w : World} {base n : Nat} {e : TypeId} {v : Value} {size : Nat} {xs : List Value} (h : w.ownsRow base e size v n xs) : ∃ a n c, v = .slice a n c := by
  rcases h.2 with ⟨h, _⟩ | ⟨g, cap, cur, h, _⟩
  · exact ⟨_, _, _, h⟩
  · exact ⟨_, _, _, h⟩
end Go.Proofs.Ytnknfmjpkphbpaa
