/- A region that draws its order, whose first n operations only read (in one fixed world), and whose other operations are forced one behind the other: it may be walked in the order of the text.
   Operations of 'pre' (moves that the tail alone waits for) may come at any time, even behind the tail's effects. -/
import Derived.StillTail
import Derived.OrdersIn
import Derived.RangeFuncCalls
import Derived.Deep.RegionHeld3
import Derived.KernelRfl
set_option linter.unusedVariables false
set_option linter.unusedSimpArgs false
namespace Go.Proofs.Ytagabgblcmoblaa
open Go
section
variable {P : Program} {ops : Array Oper} {md : Region.Mode} {w : World}

def todo (n : Nat) (listed : Array Bool) : List Nat := (List.range n).filter fun i => !listed.getD i true
def rowsOf (ops : Array Oper) (is : List Nat) : List Oper := is.filterMap (ops[·]?)

def pairB (md : Region.Mode) (ops : Array Oper) (n : Nat) : Bool :=
  (List.range n).all fun i => (List.range i).all fun j => Region.waitsFor md ops i j || match ops[j]?, ops[i]? with
    | some oj, some oi => oj.apart ops oi
    | _, _ => false
def depsB (md : Region.Mode) (ops : Array Oper) (n : Nat) : Bool :=
  (List.range n).all fun i => match ops[i]? with
    | some o => o.after.all fun e => !Region.binds md e || decide (e.on < i)
    | none => false
def sinkFromB (md : Region.Mode) (ops : Array Oper) (n : Nat) (L0 : Array Bool) : Bool :=
  (List.range n).all fun i => L0.getD i true || (List.range (n + 1)).any fun j => decide (i < j) && Region.waitsFor md ops j i

theorem waits_listed {i j : Nat} {listed : Array Bool} (hr : i ∈ Region.ready md ops listed) (hw : Region.waitsFor md ops i j = true) : listed.getD j false = true := by
  obtain ⟨_, o, ho, hall⟩ := mem_ready.1 hr
  obtain ⟨o', ho', e, he, hb, hon⟩ := Region.waitsFor_spec hw
  obtain rfl : o' = o := Option.some.inj (ho'.symm.trans ho)
  rw [← hon]; exact hall e he hb

theorem tail_sleeps {n : Nat} {L0 listed : Array Bool} (hs : sinkFromB md ops n L0 = true) (hc : Region.chainB md ops n = true) (hn : n < ops.size) (h0 : L0.size = ops.size)
    (inv : HeadInv md ops n listed) (hle : ∀ i, L0.getD i false = true → listed.getD i false = true) :
    ∀ (d i : Nat), n - i ≤ d → i < n → listed.getD i true = false → ∀ t, n ≤ t → t ∉ Region.ready md ops listed := by
  intro d
  induction d with
  | zero => intro i h1 h2; omega
  | succ d ih =>
    intro i hd hi hun t ht hr
    have htl : t < ops.size := by
      obtain ⟨_, o, ho, _⟩ := mem_ready.1 hr
      exact (Array.getElem?_eq_some_iff.1 ho).1
    by_cases htn : n < t
    · have h1 := List.all_eq_true.1 hc t (List.mem_range.2 htl)
      simp only [Bool.or_eq_true, decide_eq_true_eq] at h1
      rcases h1 with h1 | h1
      · omega
      · have h2 := waits_listed hr h1
        have h3 := getD_both (inv.tail (t - 1) (by omega) (by omega))
        rw [h3] at h2; cases h2
    · obtain rfl : t = n := by omega
      have h1 := List.all_eq_true.1 hs i (List.mem_range.2 hi)
      simp only [Bool.or_eq_true] at h1
      rcases h1 with h1 | h1
      · have : L0.getD i false = true := by
          cases h4 : L0.getD i false with
          | true => rfl
          | false => rw [getD_in (by omega) h4] at h1; cases h1
        have := hle i this
        rw [getD_both hun] at this; cases this
      · obtain ⟨j, hj, h2⟩ := List.any_eq_true.1 h1
        simp only [Bool.and_eq_true, decide_eq_true_eq] at h2
        have hjn := List.mem_range.1 hj
        by_cases hjt : j = t
        · subst hjt
          have := waits_listed hr h2.2
          rw [getD_both hun] at this; cases this
        · cases hl : listed.getD j false with
          | true =>
            obtain ⟨o', ho', e, he, hb, hon⟩ := Region.waitsFor_spec h2.2
            have := inv.closed j o' ho' hl e he hb
            rw [hon, getD_both hun] at this; cases this
          | false => exact ih j (by omega) (by omega) (getD_in (by rw [inv.size]; omega) hl) t (by omega) hr

theorem bubble {i : Nat} {oi : Oper} {Lq : Act → Prop} (hi : ops[i]? = some oi) (hsel : ∀ (j : Nat) (o : Oper) cs b, ops[j]? = some o → o.op ≠ .select cs b) (post : List Oper) :
    ∀ (pre : List Oper) (a : Act), (∀ o ∈ pre, ∃ j : Nat, ops[j]? = some o ∧ o.apart ops oi = true) → wpStill P ops w Lq (pre ++ oi :: post) a → stOp P ops w i (wpStill P ops w Lq (pre ++ post)) a
  | [], a, _, h => by
    unfold stOp; simp only [hi]; exact h
  | o :: pre, a, hap, h => by
    obtain ⟨j, hj, hA⟩ := hap o (by simp)
    have h1 : stOp P ops w j (wpStill P ops w Lq (pre ++ oi :: post)) a := by unfold stOp; simp only [hj]; exact h
    obtain ⟨v, hy, hK⟩ := yieldsAt_of_stOp hj h1
    have h2 := bubble hi hsel post pre _ (fun o' ho' => hap o' (by simp [ho'])) hK
    refine stOp_mono (fun a' h3 => ?_) (stOp_put hi hA (fun cs b => hsel j o cs b hj) (fun cs b => hsel i oi cs b hi) hy h2)
    have h4 := h3.1.stOp (P := P) (ops := ops) (w := w) hj (K := wpStill P ops w Lq (pre ++ post)) h3.2
    unfold stOp at h4; simp only [hj] at h4; exact h4

theorem todo_split {n i : Nat} {listed : Array Bool} (hi : i < n) (hsz : i < listed.size) (hun : listed.getD i true = false) :
    ∃ pre post, todo n listed = pre ++ i :: post ∧ todo n (listed.setIfInBounds i true) = pre ++ post ∧ ∀ j ∈ pre, j < i ∧ listed.getD j true = false := by
  have hr : List.range n = List.range' 0 i ++ i :: List.range' (i + 1) (n - i - 1) := by
    rw [List.range_eq_range']
    have h1 : n = i + ((n - i - 1) + 1) := by omega
    conv => lhs; rw [h1]
    have h2 := List.range'_append (s := 0) (m := i) (n := (n - i - 1) + 1) (step := 1)
    rw [← h2]; simp [List.range'_succ]
  refine ⟨(List.range' 0 i).filter (fun k => !listed.getD k true), (List.range' (i + 1) (n - i - 1)).filter (fun k => !listed.getD k true), ?_, ?_, ?_⟩
  · unfold todo; rw [hr, List.filter_append, List.filter_cons]; simp only [hun]; simp
  · unfold todo
    rw [hr, List.filter_append, List.filter_cons]
    have hset : (listed.setIfInBounds i true).getD i true = true := by simp [hsz]
    simp only [hset]
    have e1 : ∀ k, k ≠ i → (listed.setIfInBounds i true).getD k true = listed.getD k true := fun k hk => getD_set_ne true (Ne.symm hk)
    have g1 : (List.range' 0 i).filter (fun k => !(listed.setIfInBounds i true).getD k true) = (List.range' 0 i).filter (fun k => !listed.getD k true) := by
      apply List.filter_congr; intro k hk; rw [e1 k (by have := List.mem_range'_1.1 hk; omega)]
    have g2 : (List.range' (i + 1) (n - i - 1)).filter (fun k => !(listed.setIfInBounds i true).getD k true) = (List.range' (i + 1) (n - i - 1)).filter (fun k => !listed.getD k true) := by
      apply List.filter_congr; intro k hk; rw [e1 k (by have := List.mem_range'_1.1 hk; omega)]
    rw [g1, g2]; simp
  · intro j hj
    have h1 := List.mem_filter.1 hj
    have h2 := List.mem_range'_1.1 h1.1
    refine ⟨by omega, ?_⟩
    have h3 := h1.2
    simp only [Bool.not_eq_true'] at h3
    exact h3

def fullHead (n m : Nat) : Array Bool := Array.replicate n true ++ Array.replicate (m - n) false

theorem full_of {n : Nat} {listed : Array Bool} (hn : n < ops.size) (inv : HeadInv md ops n listed) (h : todo n listed = []) : listed = fullHead n ops.size := by
  apply Array.ext
  · simp [fullHead, inv.size]; omega
  · intro k h1 h2
    by_cases hk : k < n
    · have h3 : k ∉ todo n listed := by rw [h]; simp
      simp only [todo, List.mem_filter, List.mem_range, hk, true_and] at h3
      have h4 : listed.getD k true = true := by
        cases hx : listed.getD k true with
        | true => rfl
        | false => rw [hx] at h3; simp at h3
      simp [h1] at h4
      simp [fullHead, hk, h4]
    · have h4 := inv.tail k (by omega) (by rw [← inv.size]; exact h1)
      simp [h1] at h4
      simp [fullHead, hk, h4, Array.getElem_append]

/-- 'wpAny', and as long as number c has not come, S behind each operation. -/
def wpAnyU (P : Program) (md : Region.Mode) (ops : Array Oper) (Q : Exit → Act → World → Prop) (S : World → Prop) (c : Nat) : Nat → Array Bool → Act → World → Prop
  | 0, listed, a, w => Region.ready md ops listed = [] ∧ Q .normal a w
  | f + 1, listed, a, w => (Region.ready md ops listed = [] → Q .normal a w) ∧
    ∀ i ∈ Region.ready md ops listed, wpOp P ops Q i (fun a' w' => ((listed.setIfInBounds i true).getD c true = false → S w') ∧ wpAnyU P md ops Q S c f (listed.setIfInBounds i true) a' w') a w

theorem wpAnyU_drop {Q : Exit → Act → World → Prop} {S : World → Prop} {c : Nat} : ∀ (f : Nat) (listed : Array Bool) (a : Act) (w : World), wpAnyU P md ops Q S c f listed a w → wpAny P md ops Q f listed a w
  | 0, _, _, _, h => h
  | f + 1, _, _, _, h => ⟨h.1, fun i hi => wpOp_mono (fun _ _ h' => wpAnyU_drop f _ _ _ h'.2) (h.2 i hi)⟩

theorem free_set {i j : Nat} {oi : Oper} {listed : Array Bool} (hjun : listed.getD j true = false)
    (hfree : ∀ k ok, ops[k]? = some ok → k ≠ i → listed.getD k true = false → (∀ e ∈ ok.after, Region.binds md e = true → e.on ≠ i) → oi.apart ops ok = true) :
    ∀ k ok, ops[k]? = some ok → k ≠ i → (listed.setIfInBounds j true).getD k true = false → (∀ e ∈ ok.after, Region.binds md e = true → e.on ≠ i) → oi.apart ops ok = true := by
  intro k ok hk hki hun hno
  refine hfree k ok hk hki ?_ hno
  by_cases hjk : j = k
  · subst hjk; exact hjun
  · rw [getD_set_ne true hjk] at hun; exact hun

theorem not_waits {i : Nat} {oj : Oper} {listed : Array Bool} (hr : i ∈ Region.ready md ops listed) (hall : ∀ e ∈ oj.after, Region.binds md e = true → listed.getD e.on false = true) :
    ∀ e ∈ oj.after, Region.binds md e = true → e.on ≠ i := fun e he hb heq => by
  have h1 := hall e he hb
  rw [heq, getD_both (mem_ready.1 hr).1] at h1; cases h1

/-- A move (it yields in whatever world) may be taken first. -/
theorem moveU {Q : Exit → Act → World → Prop} {S : World → Prop} {c i : Nat} {oi : Oper} {v : Value} (hi : ops[i]? = some oi) (hsel : ∀ (j : Nat) (o : Oper) cs b, ops[j]? = some o → o.op ≠ .select cs b)
    (hQ : ∀ ch a w, Q (.panic ch) (a.put oi.dst v) w → Q (.panic ch) a w) (hc : c ≠ i) :
    ∀ (fuel : Nat) (listed : Array Bool) (a : Act) (w : World),
      (∀ j oj, ops[j]? = some oj → j ≠ i → listed.getD j true = false → (∀ e ∈ oj.after, Region.binds md e = true → e.on ≠ i) → oi.apart ops oj = true) →
      i ∈ Region.ready md ops listed → Yields P ops oi v a → (listed.getD c true = false → S w) →
      wpAnyU P md ops Q S c fuel (listed.setIfInBounds i true) (a.put oi.dst v) w → wpAnyU P md ops Q S c (fuel + 1) listed a w := by
  intro fuel
  induction fuel with
  | zero =>
    intro listed a w _ hr hy hS H
    refine ⟨fun h => (by rw [h] at hr; cases hr), fun j hj => ?_⟩
    by_cases hji : j = i
    · subst hji; exact hy.wpOp hi ⟨fun h => hS (by rwa [getD_set_ne true (Ne.symm hc)] at h), H⟩
    · have := ready_mono hj hji
      rw [H.1] at this; cases this
  | succ fuel ih =>
    intro listed a w hfree hr hy hS H
    refine ⟨fun h => (by rw [h] at hr; cases hr), fun j hj => ?_⟩
    by_cases hji : j = i
    · subst hji; exact hy.wpOp hi ⟨fun h => hS (by rwa [getD_set_ne true (Ne.symm hc)] at h), H⟩
    · have h1 := H.2 j (ready_mono hj hji)
      obtain ⟨hjun, oj, hoj, hall⟩ := mem_ready.1 hj
      have h2 := wpOp_put hoj (hfree j oj hoj hji hjun (not_waits hr hall)) (fun cs b => hsel i oi cs b hi) (fun cs b => hsel j oj cs b hoj) hQ hy h1
      refine wpOp_mono (fun a' w' h3 => ?_) h2
      have hSw : (listed.setIfInBounds j true).getD c true = false → S w' := fun h => h3.2.1 (by rw [Array.setIfInBounds_comm _ _ (Ne.symm hji), getD_set_ne true (Ne.symm hc)]; exact h)
      refine ⟨hSw, ih (listed.setIfInBounds j true) a' w' (free_set hjun hfree) (ready_mono hr (Ne.symm hji)) h3.1 hSw ?_⟩
      rw [Array.setIfInBounds_comm _ _ hji]
      exact h3.2.2

/-- number c waits for number i, over some others -/
def waitsT (md : Region.Mode) (ops : Array Oper) : Nat → Nat → Nat → Bool
  | 0, c, i => Region.waitsFor md ops c i
  | f + 1, c, i => Region.waitsFor md ops c i || (List.range ops.size).any fun j => Region.waitsFor md ops c j && waitsT md ops f j i
theorem waitsT_some {i : Nat} : ∀ (f c : Nat), waitsT md ops f c i = true → ∃ j, Region.waitsFor md ops c j = true ∧ (j = i ∨ ∃ f', waitsT md ops f' j i = true ∧ f' < f)
  | 0, c, h => ⟨i, h, .inl rfl⟩
  | f + 1, c, h => by
    simp only [waitsT, Bool.or_eq_true] at h
    rcases h with h | h
    · exact ⟨i, h, .inl rfl⟩
    · obtain ⟨j, _, hj⟩ := List.any_eq_true.1 h
      simp only [Bool.and_eq_true] at hj
      exact ⟨j, hj.1, .inr ⟨f, hj.2, Nat.lt_succ_self f⟩⟩
theorem waitsT_unlisted {i : Nat} {listed : Array Bool} (inv : HeadInv md ops ops.size listed) (hun : listed.getD i true = false) : ∀ (f c : Nat), waitsT md ops f c i = true → listed.getD c true = false := by
  intro f
  induction f using Nat.strongRecOn with
  | _ f ih =>
    intro c h
    obtain ⟨j, hj, hji⟩ := waitsT_some f c h
    have hju : listed.getD j false = false := by
      rcases hji with rfl | ⟨f', h', hf⟩
      · exact getD_both hun
      · exact getD_both (ih f' hf j h')
    obtain ⟨o, ho, e, he, hb, hon⟩ := Region.waitsFor_spec hj
    refine getD_in (by rw [inv.size]; exact (Array.getElem?_eq_some_iff.1 ho).1) ?_
    cases hc : listed.getD c false with
    | false => rfl
    | true =>
      have := inv.closed c o ho hc e he hb
      rw [hon, hju] at this; cases this
theorem waitsT_sleeps {i f c : Nat} {listed : Array Bool} (inv : HeadInv md ops ops.size listed) (hun : listed.getD i true = false) (h : waitsT md ops f c i = true) : c ∉ Region.ready md ops listed := fun hr => by
  obtain ⟨j, hj, hji⟩ := waitsT_some f c h
  have h1 := waits_listed hr hj
  have hju : listed.getD j false = false := by
    rcases hji with rfl | ⟨f', h', hf⟩
    · exact getD_both hun
    · exact getD_both (waitsT_unlisted inv hun f' j h')
  rw [hju] at h1; cases h1

/-- What reads a cell that S names may be taken first, if number c waits for it. -/
theorem lateU {Q : Exit → Act → World → Prop} {S : World → Prop} {c i : Nat} {oi : Oper} {v : Value} (hi : ops[i]? = some oi) (hsel : ∀ (j : Nat) (o : Oper) cs b, ops[j]? = some o → o.op ≠ .select cs b)
    (hQ : ∀ ch a w, Q (.panic ch) (a.put oi.dst v) w → Q (.panic ch) a w) {F : Nat} (hc : c ≠ i) (hcw : waitsT md ops F c i = true) :
    ∀ (fuel : Nat) (listed : Array Bool) (a : Act) (w : World),
      (∀ j oj, ops[j]? = some oj → j ≠ i → listed.getD j true = false → (∀ e ∈ oj.after, Region.binds md e = true → e.on ≠ i) → oi.apart ops oj = true) →
      i ∈ Region.ready md ops listed → YieldsIf P ops S oi v a → HeadInv md ops ops.size listed → S w →
      wpAnyU P md ops Q S c fuel (listed.setIfInBounds i true) (a.put oi.dst v) w → wpAnyU P md ops Q S c (fuel + 1) listed a w := by
  intro fuel
  induction fuel with
  | zero =>
    intro listed a w _ hr hy inv hS H
    refine ⟨fun h => (by rw [h] at hr; cases hr), fun j hj => ?_⟩
    by_cases hji : j = i
    · subst hji; exact hy.wpOp hi hS ⟨fun _ => hS, H⟩
    · have := ready_mono hj hji
      rw [H.1] at this; cases this
  | succ fuel ih =>
    intro listed a w hfree hr hy inv hS H
    refine ⟨fun h => (by rw [h] at hr; cases hr), fun j hj => ?_⟩
    by_cases hji : j = i
    · subst hji; exact hy.wpOp hi hS ⟨fun _ => hS, H⟩
    · have h1 := H.2 j (ready_mono hj hji)
      obtain ⟨hjun, oj, hoj, hall⟩ := mem_ready.1 hj
      have hjc : j ≠ c := fun e => by
        subst e
        exact waitsT_sleeps inv (mem_ready.1 hr).1 hcw hj
      have h2 := wpOp_putIf hoj (hfree j oj hoj hji hjun (not_waits hr hall)) (fun cs b => hsel i oi cs b hi) (fun cs b => hsel j oj cs b hoj) hQ hy h1
      refine wpOp_mono (fun a' w' h3 => ?_) h2
      have inv' := inv.set hj (Array.getElem?_eq_some_iff.1 hoj).1
      have hcu' : (listed.setIfInBounds j true).getD c true = false := waitsT_unlisted inv' (mem_ready.1 (ready_mono hr (Ne.symm hji))).1 F c hcw
      have hSw : S w' := h3.2.1 (by rw [Array.setIfInBounds_comm _ _ (Ne.symm hji), getD_set_ne true (Ne.symm hc)]; exact hcu')
      refine ⟨fun _ => hSw, ih (listed.setIfInBounds j true) a' w' (free_set hjun hfree) (ready_mono hr (Ne.symm hji)) h3.1 inv' hSw ?_⟩
      rw [Array.setIfInBounds_comm _ _ hji]
      exact h3.2.2

theorem head_any {n g c : Nat} {L0 : Array Bool} {Lq : Act → Prop} {Q : Exit → Act → World → Prop} {S : World → Prop} (hSw : S w) (hsel : ∀ (j : Nat) (o : Oper) cs b, ops[j]? = some o → o.op ≠ .select cs b)
    (hs : sinkFromB md ops n L0 = true) (hc : Region.chainB md ops n = true) (hp : pairB md ops n = true) (hd : depsB md ops n = true) (hn : n < ops.size) (h0 : L0.size = ops.size)
    (htail : ∀ a, Lq a → wpAnyU P md ops Q S c g (fullHead n ops.size) a w) :
    ∀ (f : Nat) (listed : Array Bool) (a : Act), HeadInv md ops n listed → (∀ i, L0.getD i false = true → listed.getD i false = true) → (todo n listed).length = f →
      wpStill P ops w Lq (rowsOf ops (todo n listed)) a → wpAnyU P md ops Q S c (f + g) listed a w := by
  intro f
  induction f with
  | zero =>
    intro listed a inv _ hf h
    have he := List.length_eq_zero_iff.1 hf
    rw [full_of hn inv he, Nat.zero_add]
    rw [he] at h
    exact htail a h
  | succ f ih =>
    intro listed a inv hle hf h
    rw [show f + 1 + g = (f + g) + 1 by omega]
    obtain ⟨i0, rest0, h00⟩ : ∃ i0 rest0, todo n listed = i0 :: rest0 := by
      cases ht : todo n listed with
      | nil => rw [ht] at hf; simp at hf
      | cons x r => exact ⟨x, r, rfl⟩
    have hm0 : i0 ∈ todo n listed := by rw [h00]; simp
    have hm1 := List.mem_filter.1 hm0
    have hi0 : i0 < n := List.mem_range.1 hm1.1
    have hu0 : listed.getD i0 true = false := by have := hm1.2; simpa only [Bool.not_eq_true'] using this
    have hready0 : i0 ∈ Region.ready md ops listed := by
      refine mem_ready.2 ⟨hu0, ops[i0], by simp [show i0 < ops.size by omega], fun e he hb => ?_⟩
      have h1 := List.all_eq_true.1 hd i0 (List.mem_range.2 hi0)
      simp only [show ops[i0]? = some ops[i0] by simp [show i0 < ops.size by omega]] at h1
      have h2 := Array.all_eq_true_iff_forall_mem.1 h1 e he
      simp only [hb, Bool.not_true, Bool.false_or, decide_eq_true_eq] at h2
      cases hx : listed.getD e.on false with
      | true => rfl
      | false =>
        have hx' := getD_in (by rw [inv.size]; omega) hx
        obtain ⟨pre, post, e1, _, e3⟩ := todo_split (n := n) hi0 (by rw [inv.size]; omega) hu0
        have hmem : e.on ∈ todo n listed := List.mem_filter.2 ⟨List.mem_range.2 (by omega), by rw [hx']; rfl⟩
        have hpre : pre = [] := by
          cases pre with
          | nil => rfl
          | cons x r =>
            have h5 : i0 :: rest0 = (x :: r) ++ i0 :: post := h00.symm.trans e1
            have hxi : i0 = x := (List.cons.inj h5).1
            have := (e3 x (by simp)).1
            omega
        subst hpre
        have h5 : todo n listed = i0 :: post := by simpa using e1
        rw [h5] at hmem
        rcases List.mem_cons.1 hmem with h6 | h6
        · omega
        · have h7 : (i0 :: post).Pairwise (· < ·) := by rw [← h5]; exact List.Pairwise.filter _ (List.pairwise_lt_range)
          have := (List.pairwise_cons.1 h7).1 _ h6
          omega
    refine ⟨fun h1 => (by rw [h1] at hready0; cases hready0), fun i hi => ?_⟩
    have hin : i < n := by
      rcases Nat.lt_or_ge i n with h1 | h1
      · exact h1
      · exact absurd hi (tail_sleeps hs hc hn h0 inv hle _ i0 (Nat.le_refl _) hi0 hu0 i h1)
    obtain ⟨hun, oi, hoi, _⟩ := mem_ready.1 hi
    obtain ⟨pre, post, e1, e2, e3⟩ := todo_split (n := n) hin (by rw [inv.size]; omega) hun
    have hrows : rowsOf ops (todo n listed) = rowsOf ops pre ++ oi :: rowsOf ops post := by rw [e1]; simp [rowsOf, List.filterMap_append, hoi]
    rw [hrows] at h
    have hb := bubble hoi hsel (rowsOf ops post) (rowsOf ops pre) a (fun o ho => by
      obtain ⟨j, hj, hjo⟩ := List.mem_filterMap.1 ho
      refine ⟨j, hjo, ?_⟩
      have h1 := List.all_eq_true.1 (List.all_eq_true.1 hp i (List.mem_range.2 hin)) j (List.mem_range.2 (e3 j hj).1)
      simp only [Bool.or_eq_true, hjo, hoi] at h1
      rcases h1 with h1 | h1
      · have := waits_listed hi h1
        rw [getD_both (e3 j hj).2] at this; cases this
      · exact h1) h
    refine wpOp_of_stOp (fun a' h' => ⟨fun _ => hSw, ih (listed.setIfInBounds i true) a' (inv.set hi hin) (fun k hk => getD_set_true (hle k hk)) ?_ ?_⟩) hb
    · rw [e1] at hf; rw [e2]; simp at hf ⊢; omega
    · rw [e2]; simpa [rowsOf, List.filterMap_append] using h'

/-! ### moves that may come at any time -/
def setAll (listed : Array Bool) (is : List Nat) : Array Bool := is.foldl (fun l i => l.setIfInBounds i true) listed
def moveOf (o : Oper) : Option Operand := match o.guard, o.op with | none, .move x => some x | _, _ => none
def movesA (ops : Array Oper) : List Nat → Act → Act
  | [], a => a
  | i :: r, a => movesA ops r (match ops[i]? with | some o => (match moveOf o with | some x => a.put o.dst (a.eval x) | none => a) | none => a)
def takeB (md : Region.Mode) (ops : Array Oper) : List Nat → Array Bool → Bool
  | [], _ => true
  | i :: r, listed => (Region.ready md ops listed).contains i && Region.free md ops listed i && ((ops[i]?).bind moveOf).isSome && takeB md ops r (listed.setIfInBounds i true)

theorem moves_first {Q : Exit → Act → World → Prop} {S : World → Prop} {c fuel : Nat} (hsel : ∀ (j : Nat) (o : Oper) cs b, ops[j]? = some o → o.op ≠ .select cs b)
    (hQ : ∀ ch a d v w, Q (.panic ch) (a.put d v) w → Q (.panic ch) a w) (hSw : S w) : ∀ (is : List Nat) (listed : Array Bool) (a : Act), takeB md ops is listed = true → c ∉ is →
      wpAnyU P md ops Q S c fuel (setAll listed is) (movesA ops is a) w → wpAnyU P md ops Q S c (is.length + fuel) listed a w
  | [], listed, a, _, _, h => by simpa [setAll, movesA] using h
  | i :: r, listed, a, hB, hc, h => by
    simp only [takeB, Bool.and_eq_true] at hB
    obtain ⟨⟨⟨hr, hf⟩, hm⟩, hB'⟩ := hB
    obtain ⟨x, hx⟩ := Option.isSome_iff_exists.1 hm
    obtain ⟨o, ho, hox⟩ := Option.bind_eq_some_iff.1 hx
    have hy : Yields P ops o (a.eval x) a := by
      unfold moveOf at hox
      cases hg : o.guard with
      | some g => rw [hg] at hox; simp at hox
      | none =>
        rw [hg] at hox
        cases hop : o.op <;> rw [hop] at hox <;> simp at hox
        subst hox
        refine Or.inl ⟨by simp [Region.wanted, hg], fun w' => ?_⟩
        simp [execOp, hop, Sem.run_pure]
    rw [show (i :: r).length + fuel = (r.length + fuel) + 1 by simp; omega]
    refine moveU ho hsel (fun ch a w => hQ ch a o.dst _ w) (fun e => hc (by simp [e])) _ listed a w (Region.free_spec ho hf) (by simpa using hr) hy (fun _ => hSw) ?_
    refine moves_first hsel hQ hSw r _ _ hB' (fun h' => hc (by simp [h'])) ?_
    have : movesA ops (i :: r) a = movesA ops r (a.put o.dst (a.eval x)) := by simp [movesA, ho, hox]
    rw [this] at h
    exact h

/-! ### reads of cells that S names, which number c alone waits for -/
def lateB (md : Region.Mode) (ops : Array Oper) (c : Nat) : List Nat → Array Bool → Bool
  | [], _ => true
  | i :: r, listed => (Region.ready md ops listed).contains i && Region.free md ops listed i && (ops[i]?).isSome && decide (c ≠ i) && waitsT md ops ops.size c i && lateB md ops c r (listed.setIfInBounds i true)
def takesP (P : Program) (ops : Array Oper) (S : World → Prop) (K : Act → Prop) : List Oper → Act → Prop
  | [], a => K a
  | o :: r, a => ∃ v, (∀ w, S w → Region.wanted o (yielded ops a.tmps) = true ∧ (execOp a.eval o).run P w = .ok (.value v) w) ∧ takesP P ops S K r (a.put o.dst v)

theorem late_first {Q : Exit → Act → World → Prop} {S : World → Prop} {c fuel : Nat} {K : Act → Prop} (hsel : ∀ (j : Nat) (o : Oper) cs b, ops[j]? = some o → o.op ≠ .select cs b)
    (hQ : ∀ ch a d v w, Q (.panic ch) (a.put d v) w → Q (.panic ch) a w) (hSw : S w) : ∀ (is : List Nat) (listed : Array Bool) (a : Act), lateB md ops c is listed = true → HeadInv md ops ops.size listed →
      (∀ a, K a → wpAnyU P md ops Q S c fuel (setAll listed is) a w) → takesP P ops S K (rowsOf ops is) a → wpAnyU P md ops Q S c (is.length + fuel) listed a w
  | [], listed, a, _, _, hK, h => by simpa [setAll] using hK a h
  | i :: r, listed, a, hB, inv, hK, h => by
    simp only [lateB, Bool.and_eq_true, decide_eq_true_eq] at hB
    obtain ⟨⟨⟨⟨⟨hr, hf⟩, hm⟩, hc⟩, hcw⟩, hB'⟩ := hB
    obtain ⟨o, ho⟩ := Option.isSome_iff_exists.1 hm
    have hrows : rowsOf ops (i :: r) = o :: rowsOf ops r := by simp [rowsOf, ho]
    rw [hrows] at h
    obtain ⟨v, hv, h'⟩ := h
    rw [show (i :: r).length + fuel = (r.length + fuel) + 1 by simp; omega]
    refine lateU ho hsel (fun ch a w => hQ ch a o.dst _ w) hc hcw _ listed a w (Region.free_spec ho hf) (by simpa using hr) (Or.inl ⟨(hv w hSw).1, fun w' hw' => (hv w' hw').2⟩) inv hSw ?_
    exact late_first hsel hQ hSw r _ _ hB' (inv.set (by simpa using hr) (Array.getElem?_eq_some_iff.1 ho).1) (fun a ha => hK a ha) h'

/-- The tail, one operation behind the other; S behind each of the first p. -/
def chainS (P : Program) (ops : Array Oper) (Q : Exit → Act → World → Prop) (S : World → Prop) : Nat → List Oper → Act → World → Prop
  | 0, l, a, w => ∀ K : Exit → Act → World → Prop, (∀ a w, Q .normal a w → K .normal a w) → wpList P ops K l a w
  | _ + 1, [], a, w => Q .normal a w
  | p + 1, o :: r, a, w => ∀ K : Exit → Act → World → Prop, (∀ a' w', S w' → chainS P ops Q S p r a' w' → K .normal a' w') → wpList P ops K [o] a w

/-- Q at a normal end, and no other end. -/
def OnlyNormal (Q : Exit → Act → World → Prop) : Exit → Act → World → Prop
  | .normal, a, w => Q .normal a w
  | _, _, _ => False
theorem OnlyNormal.lets {Q : Exit → Act → World → Prop} : ¬ LetsOut (OnlyNormal Q) := fun ⟨_, _, h⟩ => h
theorem OnlyNormal.imp {Q : Exit → Act → World → Prop} : ∀ (e : Exit) (a : Act) (w : World), OnlyNormal Q e a w → Q e a w := fun e a w h => by
  cases e <;> first | exact h | exact (h : False).elim

theorem getD_listed {listed : Array Bool} {c k : Nat} (h : (listed.setIfInBounds k true).getD c true = false) (hc : listed.getD c true = true ∨ c = k) : False := by
  rcases hc with hc | rfl
  · by_cases hk : k = c
    · subst hk
      rcases Nat.lt_or_ge k listed.size with h' | h'
      · simp [h'] at h
      · simp [Array.getElem?_eq_none h'] at h
    · rw [getD_set_ne true hk, hc] at h; cases h
  · rcases Nat.lt_or_ge c listed.size with h' | h'
    · simp [h'] at h
    · simp [Array.getElem?_eq_none h'] at h

theorem wpAnyU_of_seq {Q : Exit → Act → World → Prop} {S : World → Prop} {c : Nat} : ∀ (l : List Oper) (k : Nat) (listed : Array Bool) (a : Act) (w : World), (∀ j, l[j]? = ops[k + j]?) →
    Region.seqB md ops l.length k listed = true → ((∀ w, S w) ∨ listed.getD c true = true ∨ c = k) → wpList P ops Q l a w → wpAnyU P md ops Q S c l.length listed a w
  | [], _, _, _, _, _, hB, _, h => ⟨by simpa [Region.seqB] using hB, h⟩
  | o :: l, k, listed, a, w, hl, hB, hc, h => by
    have h0 : ops[k]? = some o := by simpa using (hl 0).symm
    simp only [List.length_cons, Region.seqB, Bool.and_eq_true, decide_eq_true_eq] at hB
    refine ⟨fun h1 => (by rw [hB.1] at h1; cases h1), fun i hi => ?_⟩
    rw [hB.1] at hi
    obtain rfl : i = k := by simpa using hi
    have hw : wpOp P ops Q i (wpList P ops Q l) a w := by unfold wpOp; simp only [h0]; exact h
    refine wpOp_mono (fun a' w' h' => ⟨fun hx => ?_, wpAnyU_of_seq l (i + 1) _ a' w' (fun j => by have := hl (j + 1); simpa [Nat.add_assoc, Nat.add_comm 1 j] using this) hB.2 ?_ h'⟩) hw
    · rcases hc with hc | hc
      · exact hc w'
      · exact (getD_listed hx hc).elim
    · rcases hc with hc | hc
      · exact .inl hc
      · refine .inr (.inl ?_)
        cases hx : (listed.setIfInBounds i true).getD c true with
        | true => rfl
        | false => exact (getD_listed hx hc).elim

theorem wpOp_congrK {Q Q' : Exit → Act → World → Prop} {k : Nat} {o : Oper} {K : Act → World → Prop} {a : Act} {w : World} (h0 : ops[k]? = some o) (h : wpList P ops Q' [o] a w) (hK : ∀ a w, Q' .normal a w → K a w)
    (hQ : ∀ e a w, e ≠ .normal → Q' e a w → False) : wpOp P ops Q k K a w := by
  have hl : ¬ LetsOut Q' := fun ⟨a, w, h⟩ => hQ _ a w (fun e => by cases e) h
  unfold wpOp
  simp only [h0]
  simp only [wpList] at h
  split
  · rename_i hw
    rw [if_pos hw] at h
    rcases h with h | h
    · refine .inl ?_
      unfold Oper.wp at *
      generalize (execOp a.eval o).run P w = r at *
      cases r with
      | ok x w' =>
        cases x <;> simp only [Oper.upon] at h ⊢ <;>
          first
            | exact hK _ _ h
            | exact Calls.mono h (fun e w'' he => by cases e <;> first | exact hK _ _ he | exact (hQ _ _ _ (fun e => by cases e) he).elim | exact (hl he).elim)
            | exact Rows.mono h (fun _ _ he => hK _ _ he)
      | halt x w' => cases x <;> simp only [Oper.upon] at h ⊢ <;> first | exact h | exact (hQ _ _ _ (fun e => by cases e) h).elim | exact (hl h).elim
    · exact absurd h.2 hl
  · rename_i hw
    rw [if_neg hw] at h
    exact hK _ _ h

theorem wpAnyU_of_chain {Q : Exit → Act → World → Prop} {S : World → Prop} {c : Nat} : ∀ (p : Nat) (l : List Oper) (k : Nat) (listed : Array Bool) (a : Act) (w : World), (∀ j, l[j]? = ops[k + j]?) →
    Region.seqB md ops l.length k listed = true → ((∀ w, S w) ∨ listed.getD c true = true ∨ c = k + p) → chainS P ops Q S p l a w → wpAnyU P md ops (OnlyNormal Q) S c l.length listed a w
  | 0, l, k, listed, a, w, hl, hB, hc, h => wpAnyU_of_seq l k listed a w hl hB (by simpa using hc) (h _ fun _ _ h => h)
  | _ + 1, [], _, _, _, _, _, hB, _, h => ⟨by simpa [Region.seqB] using hB, h⟩
  | p + 1, o :: l, k, listed, a, w, hl, hB, hc, h => by
    have h0 : ops[k]? = some o := by simpa using (hl 0).symm
    simp only [List.length_cons, Region.seqB, Bool.and_eq_true, decide_eq_true_eq] at hB
    refine ⟨fun h1 => (by rw [hB.1] at h1; cases h1), fun i hi => ?_⟩
    rw [hB.1] at hi
    obtain rfl : i = k := by simpa using hi
    refine wpOp_congrK (Q' := OnlyNormal fun e a w => e = .normal ∧ S w ∧ chainS P ops Q S p l a w) h0 (h _ fun a' w' h1 h2 => ⟨rfl, h1, h2⟩) (fun a' w' h' => ⟨fun _ => h'.2.1, wpAnyU_of_chain p l (i + 1) _ a' w' (fun j => by have := hl (j + 1); simpa [Nat.add_assoc, Nat.add_comm 1 j] using this) hB.2 ?_ h'.2.2⟩)
      (fun e a w he h => by cases e <;> first | exact he rfl | exact h)
    rcases hc with hc | hc | hc
    · exact .inl hc
    · refine .inr (.inl ?_)
      cases hx : (listed.setIfInBounds i true).getD c true with
      | true => rfl
      | false => exact (getD_listed hx (.inl hc)).elim
    · exact .inr (.inr (by omega))

def closedB (md : Region.Mode) (ops : Array Oper) (L : Array Bool) : Bool :=
  (List.range ops.size).all fun j => !L.getD j false || match ops[j]? with
    | some o => o.after.all fun e => !Region.binds md e || L.getD e.on false
    | none => true

def planB (md : Region.Mode) (ops : Array Oper) (pre late : List Nat) (n c : Nat) : Bool :=
  let L0 := setAll (Array.replicate ops.size false) pre
  let L1 := setAll L0 late
  Region.noSelect ops && decide (n < ops.size) && takeB md ops pre (Array.replicate ops.size false) && closedB md ops L1 &&
  ((List.range ops.size).all fun t => decide (t < n) || !L1.getD t true) && sinkFromB md ops n L1 && Region.chainB md ops n && pairB md ops n && depsB md ops n &&
  Region.seqB md ops (ops.size - n) n (fullHead n ops.size) && decide (pre.length + (late.length + ((todo n L1).length + (ops.size - n))) = ops.size) && lateB md ops c late L0 && decide (c ∉ pre) && closedB md ops L0

theorem setAll_size (is : List Nat) : ∀ L : Array Bool, (setAll L is).size = L.size := by
  induction is with
  | nil => intro L; rfl
  | cons i r ih => intro L; show (setAll (L.setIfInBounds i true) r).size = _; rw [ih]; simp

def maskRows : List Bool → List Oper → List Oper
  | true :: m, o :: l => o :: maskRows m l
  | false :: m, _ :: l => maskRows m l
  | _, _ => []

theorem plan_any {Q : Exit → Act → World → Prop} {a : Act} {l : List Oper} (S : World → Prop) (pre late : List Nat) (n p : Nat) (hp : late = [] ∧ (∀ w, S w) ∨ True)
    (hB : planB .any l.toArray pre late n (n + p) = true) (hSw : S w)
    (h : takesP P l.toArray S (fun a1 => wpStill P l.toArray w (fun a' => chainS P l.toArray Q S p (l.drop n) a' w) (rowsOf l.toArray (todo n (setAll (setAll (Array.replicate l.toArray.size false) pre) late))) a1)
      (rowsOf l.toArray late) (movesA l.toArray pre a)) :
    wpAny P .any l.toArray (OnlyNormal Q) l.toArray.size (Array.replicate l.toArray.size false) a w := by
  clear hp
  simp only [planB, Bool.and_eq_true, decide_eq_true_eq] at hB
  obtain ⟨⟨⟨⟨⟨⟨⟨⟨⟨⟨⟨⟨⟨b1, b2⟩, b3⟩, b4⟩, b5⟩, b6⟩, b7⟩, b8⟩, b9⟩, b10⟩, b11⟩, b12⟩, b13⟩, b14⟩ := hB
  have hsel := Region.noSelect_spec b1
  have inv : HeadInv .any l.toArray n (setAll (setAll (Array.replicate l.toArray.size false) pre) late) := by
    refine ⟨by rw [setAll_size, setAll_size]; simp, fun j oj hj hl e he hb => ?_, fun t ht1 ht2 => ?_⟩
    · have h1 := List.all_eq_true.1 b4 j (List.mem_range.2 (Array.getElem?_eq_some_iff.1 hj).1)
      simp only [hl, Bool.not_true, Bool.false_or, hj] at h1
      have h2 := Array.all_eq_true_iff_forall_mem.1 h1 e he
      simpa only [hb, Bool.not_true, Bool.false_or] using h2
    · have h1 := List.all_eq_true.1 b5 t (List.mem_range.2 ht2)
      simp only [Bool.or_eq_true, decide_eq_true_eq, Bool.not_eq_true'] at h1
      rcases h1 with h1 | h1
      · omega
      · exact h1
  have inv0 : HeadInv .any l.toArray l.toArray.size (setAll (Array.replicate l.toArray.size false) pre) := by
    refine ⟨by rw [setAll_size]; simp, fun j oj hj hl e he hb => ?_, fun t ht1 ht2 => by omega⟩
    have h1 := List.all_eq_true.1 b14 j (List.mem_range.2 (Array.getElem?_eq_some_iff.1 hj).1)
    simp only [hl, Bool.not_true, Bool.false_or, hj] at h1
    have h2 := Array.all_eq_true_iff_forall_mem.1 h1 e he
    simpa only [hb, Bool.not_true, Bool.false_or] using h2
  have hdl : (l.drop n).length = l.toArray.size - n := by simp
  have H0 : ∀ a1, wpStill P l.toArray w (fun a' => chainS P l.toArray Q S p (l.drop n) a' w) (rowsOf l.toArray (todo n (setAll (setAll (Array.replicate l.toArray.size false) pre) late))) a1 → _ := fun a1 h1 =>
    head_any (md := .any) (g := l.toArray.size - n) (c := n + p) (Q := OnlyNormal Q) hSw hsel b6 b7 b8 b9 b2 (by rw [setAll_size, setAll_size]; simp) (fun a' hL => by
      have h1 := wpAnyU_of_chain (md := .any) (S := S) (c := n + p) p (l.drop n) n (fullHead n l.toArray.size) a' w (fun j => by simp [List.getElem?_drop]) (by rw [hdl]; exact b10) (.inr (.inr rfl)) hL
      rwa [hdl] at h1) _ _ a1 inv (fun i hi => hi) rfl h1
  have hQ : ∀ ch a d v w, OnlyNormal Q (.panic ch) (a.put d v) w → OnlyNormal Q (.panic ch) a w := fun _ _ _ _ _ h => h
  have H1 := late_first (md := .any) (c := n + p) hsel hQ hSw late _ _ b12 inv0 (fun a1 ha1 => H0 a1 ha1) h
  have H2 := moves_first hsel hQ hSw pre _ a b3 b13 H1
  rw [b11] at H2
  exact wpAnyU_drop _ _ _ _ H2

def planRows (l : List Oper) (pre late : List Nat) (n : Nat) (m ml : List Bool) : Prop :=
  rowsOf l.toArray (todo n (setAll (setAll (Array.replicate l.toArray.size false) pre) late)) = maskRows m l ∧ rowsOf l.toArray late = maskRows ml l

/-- THE LAW: the moves 'pre' first, then the other operations of the first n in the order of the text (each reads alone), then the rest as a plain list. -/
theorem wp_region_plan {id : Nat} {Q : Exit → Act → World → Prop} {a : Act} {l : List Oper} (pre : List Nat) (m : List Bool) (n : Nat) (hm : P.follows .mixedOrders = true)
    (hB : planB .any l.toArray pre [] n (n + 0) = true) (hR : rowsOf l.toArray (todo n (setAll (Array.replicate l.toArray.size false) pre)) = maskRows m l)
    (h : wpStill P l.toArray w.drew (fun a' => ∀ K : Exit → Act → World → Prop, (∀ a w, Q .normal a w → K .normal a w) → wpList P l.toArray K (l.drop n) a' w.drew) (maskRows m l) (movesA l.toArray pre a)) :
    (Code.region id l.toArray true).wp P Q a w := by
  rw [← hR] at h
  refine Code.wp_mono OnlyNormal.imp (wp_region_any hm ?_)
  exact plan_any (Q := Q) (fun _ => True) pre [] n 0 (.inr trivial) hB trivial h

/-- Likewise with reads 'late' that number n + p alone waits for, of cells that S names; S is to be shown behind each of the first p operations of the tail. -/
theorem wp_region_late {id : Nat} {Q : Exit → Act → World → Prop} {a : Act} {l : List Oper} (S : World → Prop) (pre late : List Nat) (m ml : List Bool) (n p : Nat) (hm : P.follows .mixedOrders = true)
    (hB : planB .any l.toArray pre late n (n + p) = true) (hR : planRows l pre late n m ml) (hSw : S w.drew)
    (h : takesP P l.toArray S (fun a1 => wpStill P l.toArray w.drew (fun a' => chainS P l.toArray Q S p (l.drop n) a' w.drew) (maskRows m l) a1) (maskRows ml l) (movesA l.toArray pre a)) :
    (Code.region id l.toArray true).wp P Q a w := by
  obtain ⟨h1, h2⟩ := hR
  rw [← h1, ← h2] at h
  exact Code.wp_mono OnlyNormal.imp (wp_region_any hm (plan_any (Q := Q) S pre late n p (.inr trivial) hB hSw h))

/-! ### the same inside a round of a loop over a function -/
theorem rowsIn_of {l0 n : Nat} {row : String} {args : Array Value} {R : Value → World → Prop} (h : Rows P row args w R) : RowsIn (Fence.wide.inRound l0) n P row args w R := fun c cs _ =>
  let ⟨v, w', r, s⟩ := h c cs
  ⟨v, w', r, stepsIn_wide.2 s⟩
def noDefer (ops : Array Oper) : Bool := ops.all fun o => match o.op with | .defer _ => false | _ => true

theorem Oper_in {l0 n : Nat} {Q : Exit → Act → World → Prop} {o : Oper} {a : Act} {K : Act → World → Prop} (hd : ∀ c, o.op ≠ .defer c) (h : o.wp P a w K (OnlyNormal Q)) :
    o.wpIn (Fence.wide.inRound l0) n P a w K Q := by
  refine ⟨fun _ _ => trivial, ?_⟩
  rw [Oper.semAt_eq _ _ _ hd]
  unfold Oper.wp at h
  generalize (execOp a.eval o).run P w = r at *
  have hdep : (Fence.wide.inRound l0).depth.isSome = true → 1 ≤ n := fun h => by simp [Fence.wide] at h
  cases r with
  | ok x w' =>
    cases x <;> simp only [Oper.upon, Oper.uponIn] at h ⊢ <;>
      first
        | exact h
        | exact ⟨hdep, CallsIn.inRound l0 (callsIn_wide.2 (Calls.mono h (fun e w'' he => by cases e <;> first | exact he | exact (he : False).elim | exact (OnlyNormal.lets he).elim)))⟩
        | exact ⟨hdep, rowsIn_of h⟩
  | halt x w' => cases x <;> simp only [Oper.upon, Oper.uponIn] at h ⊢ <;> first | exact h | exact (h : False).elim | exact (OnlyNormal.lets h).elim

theorem wpOps_in {l0 n : Nat} {Q : Exit → Act → World → Prop} (hd : noDefer ops = true) : ∀ (σ : List Nat) (a : Act) (w : World), wpOps P ops (OnlyNormal Q) σ a w → wpOpsIn (Fence.wide.inRound l0) n P ops Q σ a w
  | [], _, _, h => h
  | i :: r, a, w, h => by
    unfold wpOps at h
    unfold wpOpsIn
    cases ho : ops[i]? with
    | none => simp only [ho] at h ⊢; exact wpOps_in hd r a w h
    | some o =>
      simp only [ho] at h ⊢
      have hdo : ∀ c, o.op ≠ .defer c := fun c e => by
        have := Array.all_eq_true_iff_forall_mem.1 hd o (Array.mem_of_getElem? ho)
        simp [e] at this
      split
      · rename_i hw
        rw [if_pos hw] at h
        rcases h with h | h
        · exact Oper.wpIn_mono (fun a w h => wpOps_in hd r a w h) (Oper_in hdo h)
        · exact (OnlyNormal.lets h.2).elim
      · rename_i hw
        rw [if_neg hw] at h
        exact ⟨fun _ _ => trivial, wpOps_in hd r _ w h⟩

theorem wpIn_region_late {id l0 k : Nat} {Q : Exit → Act → World → Prop} {a : Act} {l : List Oper} (S : World → Prop) (pre late : List Nat) (m ml : List Bool) (n p : Nat) (hm : P.follows .mixedOrders = true)
    (hB : planB .any l.toArray pre late n (n + p) = true) (hd : noDefer l.toArray = true) (hR : planRows l pre late n m ml) (hSw : S w.drew)
    (h : takesP P l.toArray S (fun a1 => wpStill P l.toArray w.drew (fun a' => chainS P l.toArray Q S p (l.drop n) a' w.drew) (maskRows m l) a1) (maskRows ml l) (movesA l.toArray pre a)) :
    (Code.region id l.toArray true).wpIn (Fence.wide.inRound l0) k P Q a w := by
  obtain ⟨h1, h2⟩ := hR
  rw [← h1, ← h2] at h
  refine wpIn_region_draw fun t => wpOps_in hd _ _ _ ?_
  simp only [Region.schedule, hm, Bool.true_or, if_true]
  exact wpAny_sound l.toArray.size t _ a _ (plan_any (Q := Q) S pre late n p (.inr trivial) hB hSw h)
/-- A plain region in a round may be walked by the plain words. -/
theorem wpIn_region_of {id l0 k : Nat} {Q : Exit → Act → World → Prop} {a : Act} (hd : noDefer ops = true) (h : wpOps P ops (OnlyNormal Q) (List.range ops.size) a w) :
    (Code.region id ops false).wpIn (Fence.wide.inRound l0) k P Q a w := wpIn_region (wpOps_in hd _ _ _ h)
end
end Go.Proofs.Ytagabgblcmoblaa
