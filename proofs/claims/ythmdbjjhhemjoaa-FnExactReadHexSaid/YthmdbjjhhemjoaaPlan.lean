/- A region that draws its order, whose first n operations only read (in one fixed world), and whose other operations are forced one behind the other: it may be walked in the order of the text.
   Operations of 'pre' (moves that the tail alone waits for) may come at any time, even behind the tail's effects. -/
import Derived.StillTail
import Derived.Deep.RegionHeld3
import Derived.KernelRfl
namespace Go.Proofs.Ythmdbjjhhemjoaa
open Go
section
variable {P : Program} {ops : Array Oper} {md : Region.Mode} {w : World}

def todo (n : Nat) (listed : Array Bool) : List Nat := (List.range n).filter fun i => !listed.getD i true
def rowsOf (ops : Array Oper) (is : List Nat) : List Oper := is.filterMap (ops[·]?)

def pairB (md : Region.Mode) (ops : Array Oper) (n : Nat) : Bool :=
  (List.range n).all fun i => (List.range i).all fun j => Region.waitsFor md ops i j || match ops[j]?, ops[i]? with
    | some oj, some oi => oj.apart ops oi
    | _, _ => false
def depsB (md : Region.Mode) (ops : Array Oper) (n : Nat) : Bool :=
  (List.range n).all fun i => match ops[i]? with
    | some o => o.after.all fun e => !Region.binds md e || decide (e.on < i)
    | none => false
def sinkFromB (md : Region.Mode) (ops : Array Oper) (n : Nat) (L0 : Array Bool) : Bool :=
  (List.range n).all fun i => L0.getD i true || (List.range (n + 1)).any fun j => decide (i < j) && Region.waitsFor md ops j i

theorem waits_listed {i j : Nat} {listed : Array Bool} (hr : i ∈ Region.ready md ops listed) (hw : Region.waitsFor md ops i j = true) : listed.getD j false = true := by
  obtain ⟨_, o, ho, hall⟩ := mem_ready.1 hr
  obtain ⟨o', ho', e, he, hb, hon⟩ := Region.waitsFor_spec hw
  obtain rfl : o' = o := Option.some.inj (ho'.symm.trans ho)
  rw [← hon]; exact hall e he hb

theorem tail_sleeps {n : Nat} {L0 listed : Array Bool} (hs : sinkFromB md ops n L0 = true) (hc : Region.chainB md ops n = true) (hn : n < ops.size) (h0 : L0.size = ops.size)
    (inv : HeadInv md ops n listed) (hle : ∀ i, L0.getD i false = true → listed.getD i false = true) :
    ∀ (d i : Nat), n - i ≤ d → i < n → listed.getD i true = false → ∀ t, n ≤ t → t ∉ Region.ready md ops listed := by
  intro d
  induction d with
  | zero => intro i h1 h2; omega
  | succ d ih =>
    intro i hd hi hun t ht hr
    have htl : t < ops.size := by
      obtain ⟨_, o, ho, _⟩ := mem_ready.1 hr
      exact (Array.getElem?_eq_some_iff.1 ho).1
    by_cases htn : n < t
    · have h1 := List.all_eq_true.1 hc t (List.mem_range.2 htl)
      simp only [Bool.or_eq_true, decide_eq_true_eq] at h1
      rcases h1 with h1 | h1
      · omega
      · have h2 := waits_listed hr h1
        have h3 := getD_both (inv.tail (t - 1) (by omega) (by omega))
        rw [h3] at h2; cases h2
    · obtain rfl : t = n := by omega
      have h1 := List.all_eq_true.1 hs i (List.mem_range.2 hi)
      simp only [Bool.or_eq_true] at h1
      rcases h1 with h1 | h1
      · have : L0.getD i false = true := by
          cases h4 : L0.getD i false with
          | true => rfl
          | false => rw [getD_in (by omega) h4] at h1; cases h1
        have := hle i this
        rw [getD_both hun] at this; cases this
      · obtain ⟨j, hj, h2⟩ := List.any_eq_true.1 h1
        simp only [Bool.and_eq_true, decide_eq_true_eq] at h2
        have hjn := List.mem_range.1 hj
        by_cases hjt : j = t
        · subst hjt
          have := waits_listed hr h2.2
          rw [getD_both hun] at this; cases this
        · cases hl : listed.getD j false with
          | true =>
            obtain ⟨o', ho', e, he, hb, hon⟩ := Region.waitsFor_spec h2.2
            have := inv.closed j o' ho' hl e he hb
            rw [hon, getD_both hun] at this; cases this
          | false => exact ih j (by omega) (by omega) (getD_in (by rw [inv.size]; omega) hl) t (by omega) hr

theorem bubble {i : Nat} {oi : Oper} {Lq : Act → Prop} (hi : ops[i]? = some oi) (hsel : ∀ (j : Nat) (o : Oper) cs b, ops[j]? = some o → o.op ≠ .select cs b) (post : List Oper) :
    ∀ (pre : List Oper) (a : Act), (∀ o ∈ pre, ∃ j : Nat, ops[j]? = some o ∧ o.apart ops oi = true) → wpStill P ops w Lq (pre ++ oi :: post) a → stOp P ops w i (wpStill P ops w Lq (pre ++ post)) a
  | [], a, _, h => by
    unfold stOp; simp only [hi]; exact h
  | o :: pre, a, hap, h => by
    obtain ⟨j, hj, hA⟩ := hap o (by simp)
    have h1 : stOp P ops w j (wpStill P ops w Lq (pre ++ oi :: post)) a := by unfold stOp; simp only [hj]; exact h
    obtain ⟨v, hy, hK⟩ := yieldsAt_of_stOp hj h1
    have h2 := bubble hi hsel post pre _ (fun o' ho' => hap o' (by simp [ho'])) hK
    refine stOp_mono (fun a' h3 => ?_) (stOp_put hi hA (fun cs b => hsel j o cs b hj) (fun cs b => hsel i oi cs b hi) hy h2)
    have h4 := h3.1.stOp (P := P) (ops := ops) (w := w) hj (K := wpStill P ops w Lq (pre ++ post)) h3.2
    unfold stOp at h4; simp only [hj] at h4; exact h4

theorem todo_split {n i : Nat} {listed : Array Bool} (hi : i < n) (hsz : i < listed.size) (hun : listed.getD i true = false) :
    ∃ pre post, todo n listed = pre ++ i :: post ∧ todo n (listed.setIfInBounds i true) = pre ++ post ∧ ∀ j ∈ pre, j < i ∧ listed.getD j true = false := by
  have hr : List.range n = List.range' 0 i ++ i :: List.range' (i + 1) (n - i - 1) := by
    rw [List.range_eq_range']
    have h1 : n = i + ((n - i - 1) + 1) := by omega
    conv => lhs; rw [h1]
    have h2 := List.range'_append (s := 0) (m := i) (n := (n - i - 1) + 1) (step := 1)
    rw [← h2]; simp [List.range'_succ]
  refine ⟨(List.range' 0 i).filter (fun k => !listed.getD k true), (List.range' (i + 1) (n - i - 1)).filter (fun k => !listed.getD k true), ?_, ?_, ?_⟩
  · unfold todo; rw [hr, List.filter_append, List.filter_cons]; simp only [hun]; simp
  · unfold todo
    rw [hr, List.filter_append, List.filter_cons]
    have hset : (listed.setIfInBounds i true).getD i true = true := by simp [hsz]
    simp only [hset]
    have e1 : ∀ k, k ≠ i → (listed.setIfInBounds i true).getD k true = listed.getD k true := fun k hk => getD_set_ne true (Ne.symm hk)
    have g1 : (List.range' 0 i).filter (fun k => !(listed.setIfInBounds i true).getD k true) = (List.range' 0 i).filter (fun k => !listed.getD k true) := by
      apply List.filter_congr; intro k hk; rw [e1 k (by have := List.mem_range'_1.1 hk; omega)]
    have g2 : (List.range' (i + 1) (n - i - 1)).filter (fun k => !(listed.setIfInBounds i true).getD k true) = (List.range' (i + 1) (n - i - 1)).filter (fun k => !listed.getD k true) := by
      apply List.filter_congr; intro k hk; rw [e1 k (by have := List.mem_range'_1.1 hk; omega)]
    rw [g1, g2]; simp
  · intro j hj
    have h1 := List.mem_filter.1 hj
    have h2 := List.mem_range'_1.1 h1.1
    refine ⟨by omega, ?_⟩
    have h3 := h1.2
    simp only [Bool.not_eq_true'] at h3
    exact h3

def fullHead (n m : Nat) : Array Bool := Array.replicate n true ++ Array.replicate (m - n) false

theorem full_of {n : Nat} {listed : Array Bool} (hn : n < ops.size) (inv : HeadInv md ops n listed) (h : todo n listed = []) : listed = fullHead n ops.size := by
  apply Array.ext
  · simp [fullHead, inv.size]; omega
  · intro k h1 h2
    by_cases hk : k < n
    · have h3 : k ∉ todo n listed := by rw [h]; simp
      simp only [todo, List.mem_filter, List.mem_range, hk, true_and] at h3
      have h4 : listed.getD k true = true := by
        cases hx : listed.getD k true with
        | true => rfl
        | false => rw [hx] at h3; simp at h3
      simp [h1] at h4
      simp [fullHead, hk, h4]
    · have h4 := inv.tail k (by omega) (by rw [← inv.size]; exact h1)
      simp [h1] at h4
      simp [fullHead, hk, h4, Array.getElem_append]

theorem head_any {n g : Nat} {L0 : Array Bool} {Lq : Act → Prop} {Q : Exit → Act → World → Prop} (hsel : ∀ (j : Nat) (o : Oper) cs b, ops[j]? = some o → o.op ≠ .select cs b)
    (hs : sinkFromB md ops n L0 = true) (hc : Region.chainB md ops n = true) (hp : pairB md ops n = true) (hd : depsB md ops n = true) (hn : n < ops.size) (h0 : L0.size = ops.size)
    (htail : ∀ a, Lq a → wpAny P md ops Q g (fullHead n ops.size) a w) :
    ∀ (f : Nat) (listed : Array Bool) (a : Act), HeadInv md ops n listed → (∀ i, L0.getD i false = true → listed.getD i false = true) → (todo n listed).length = f →
      wpStill P ops w Lq (rowsOf ops (todo n listed)) a → wpAny P md ops Q (f + g) listed a w := by
  intro f
  induction f with
  | zero =>
    intro listed a inv _ hf h
    have he := List.length_eq_zero_iff.1 hf
    rw [full_of hn inv he, Nat.zero_add]
    rw [he] at h
    exact htail a h
  | succ f ih =>
    intro listed a inv hle hf h
    rw [show f + 1 + g = (f + g) + 1 by omega]
    obtain ⟨i0, rest0, h00⟩ : ∃ i0 rest0, todo n listed = i0 :: rest0 := by
      cases ht : todo n listed with
      | nil => rw [ht] at hf; simp at hf
      | cons x r => exact ⟨x, r, rfl⟩
    have hm0 : i0 ∈ todo n listed := by rw [h00]; simp
    have hm1 := List.mem_filter.1 hm0
    have hi0 : i0 < n := List.mem_range.1 hm1.1
    have hu0 : listed.getD i0 true = false := by have := hm1.2; simpa only [Bool.not_eq_true'] using this
    have hready0 : i0 ∈ Region.ready md ops listed := by
      refine mem_ready.2 ⟨hu0, ops[i0], by simp [show i0 < ops.size by omega], fun e he hb => ?_⟩
      have h1 := List.all_eq_true.1 hd i0 (List.mem_range.2 hi0)
      simp only [show ops[i0]? = some ops[i0] by simp [show i0 < ops.size by omega]] at h1
      have h2 := Array.all_eq_true_iff_forall_mem.1 h1 e he
      simp only [hb, Bool.not_true, Bool.false_or, decide_eq_true_eq] at h2
      cases hx : listed.getD e.on false with
      | true => rfl
      | false =>
        have hx' := getD_in (by rw [inv.size]; omega) hx
        obtain ⟨pre, post, e1, _, e3⟩ := todo_split (n := n) hi0 (by rw [inv.size]; omega) hu0
        have hmem : e.on ∈ todo n listed := List.mem_filter.2 ⟨List.mem_range.2 (by omega), by rw [hx']; rfl⟩
        have hpre : pre = [] := by
          cases pre with
          | nil => rfl
          | cons x r =>
            have h5 : i0 :: rest0 = (x :: r) ++ i0 :: post := h00.symm.trans e1
            have hxi : i0 = x := (List.cons.inj h5).1
            have := (e3 x (by simp)).1
            omega
        subst hpre
        have h5 : todo n listed = i0 :: post := by simpa using e1
        rw [h5] at hmem
        rcases List.mem_cons.1 hmem with h6 | h6
        · omega
        · have h7 : (i0 :: post).Pairwise (· < ·) := by rw [← h5]; exact List.Pairwise.filter _ (List.pairwise_lt_range)
          have := (List.pairwise_cons.1 h7).1 _ h6
          omega
    refine ⟨fun h1 => (by rw [h1] at hready0; cases hready0), fun i hi => ?_⟩
    have hin : i < n := by
      rcases Nat.lt_or_ge i n with h1 | h1
      · exact h1
      · exact absurd hi (tail_sleeps hs hc hn h0 inv hle _ i0 (Nat.le_refl _) hi0 hu0 i h1)
    obtain ⟨hun, oi, hoi, _⟩ := mem_ready.1 hi
    obtain ⟨pre, post, e1, e2, e3⟩ := todo_split (n := n) hin (by rw [inv.size]; omega) hun
    have hrows : rowsOf ops (todo n listed) = rowsOf ops pre ++ oi :: rowsOf ops post := by rw [e1]; simp [rowsOf, List.filterMap_append, hoi]
    rw [hrows] at h
    have hb := bubble hoi hsel (rowsOf ops post) (rowsOf ops pre) a (fun o ho => by
      obtain ⟨j, hj, hjo⟩ := List.mem_filterMap.1 ho
      refine ⟨j, hjo, ?_⟩
      have h1 := List.all_eq_true.1 (List.all_eq_true.1 hp i (List.mem_range.2 hin)) j (List.mem_range.2 (e3 j hj).1)
      simp only [Bool.or_eq_true, hjo, hoi] at h1
      rcases h1 with h1 | h1
      · have := waits_listed hi h1
        rw [getD_both (e3 j hj).2] at this; cases this
      · exact h1) h
    refine wpOp_of_stOp (fun a' h' => ih (listed.setIfInBounds i true) a' (inv.set hi hin) (fun k hk => getD_set_true (hle k hk)) ?_ ?_) hb
    · rw [e1] at hf; rw [e2]; simp at hf ⊢; omega
    · rw [e2]; simpa [rowsOf, List.filterMap_append] using h'

/-! ### moves that may come at any time -/
def setAll (listed : Array Bool) (is : List Nat) : Array Bool := is.foldl (fun l i => l.setIfInBounds i true) listed
def moveOf (o : Oper) : Option Operand := match o.guard, o.op with | none, .move x => some x | _, _ => none
def movesA (ops : Array Oper) : List Nat → Act → Act
  | [], a => a
  | i :: r, a => movesA ops r (match ops[i]? with | some o => (match moveOf o with | some x => a.put o.dst (a.eval x) | none => a) | none => a)
def takeB (md : Region.Mode) (ops : Array Oper) : List Nat → Array Bool → Bool
  | [], _ => true
  | i :: r, listed => (Region.ready md ops listed).contains i && Region.free md ops listed i && ((ops[i]?).bind moveOf).isSome && takeB md ops r (listed.setIfInBounds i true)

theorem moves_first {Q : Exit → Act → World → Prop} {fuel : Nat} (hsel : ∀ (j : Nat) (o : Oper) cs b, ops[j]? = some o → o.op ≠ .select cs b)
    (hQ : ∀ c a d v w, Q (.panic c) (a.put d v) w → Q (.panic c) a w) : ∀ (is : List Nat) (listed : Array Bool) (a : Act), takeB md ops is listed = true →
      wpAny P md ops Q fuel (setAll listed is) (movesA ops is a) w → wpAny P md ops Q (is.length + fuel) listed a w
  | [], listed, a, _, h => by simpa [setAll, movesA] using h
  | i :: r, listed, a, hB, h => by
    simp only [takeB, Bool.and_eq_true] at hB
    obtain ⟨⟨⟨hr, hf⟩, hm⟩, hB'⟩ := hB
    obtain ⟨x, hx⟩ := Option.isSome_iff_exists.1 hm
    obtain ⟨o, ho, hox⟩ := Option.bind_eq_some_iff.1 hx
    have hy : Yields P ops o (a.eval x) a := by
      unfold moveOf at hox
      cases hg : o.guard with
      | some g => rw [hg] at hox; simp at hox
      | none =>
        rw [hg] at hox
        cases hop : o.op <;> rw [hop] at hox <;> simp at hox
        subst hox
        refine Or.inl ⟨by simp [Region.wanted, hg], fun w' => ?_⟩
        simp [execOp, hop, Sem.run_pure]
    rw [show (i :: r).length + fuel = (r.length + fuel) + 1 by simp; omega]
    refine wpAny_first ho hsel (fun c a w => hQ c a o.dst _ w) _ listed a w (Region.free_spec ho hf) (by simpa using hr) hy ?_
    refine moves_first hsel hQ r _ _ hB' ?_
    have : movesA ops (i :: r) a = movesA ops r (a.put o.dst (a.eval x)) := by simp [movesA, ho, hox]
    rw [this] at h
    exact h

def closedB (md : Region.Mode) (ops : Array Oper) (L : Array Bool) : Bool :=
  (List.range ops.size).all fun j => !L.getD j false || match ops[j]? with
    | some o => o.after.all fun e => !Region.binds md e || L.getD e.on false
    | none => true

def planB (md : Region.Mode) (ops : Array Oper) (pre : List Nat) (n : Nat) : Bool :=
  let L1 := setAll (Array.replicate ops.size false) pre
  Region.noSelect ops && decide (n < ops.size) && takeB md ops pre (Array.replicate ops.size false) && closedB md ops L1 &&
  ((List.range ops.size).all fun t => decide (t < n) || !L1.getD t true) && sinkFromB md ops n L1 && Region.chainB md ops n && pairB md ops n && depsB md ops n &&
  Region.seqB md ops (ops.size - n) n (fullHead n ops.size) && decide (pre.length + ((todo n L1).length + (ops.size - n)) = ops.size)

theorem setAll_size (is : List Nat) : ∀ L : Array Bool, (setAll L is).size = L.size := by
  induction is with
  | nil => intro L; rfl
  | cons i r ih => intro L; show (setAll (L.setIfInBounds i true) r).size = _; rw [ih]; simp

def maskRows : List Bool → List Oper → List Oper
  | true :: m, o :: l => o :: maskRows m l
  | false :: m, _ :: l => maskRows m l
  | _, _ => []

/-- THE LAW: the moves 'pre' first, then the other operations of the first n in the order of the text (each reads alone), then the rest as a plain list. -/
theorem wp_region_plan {id : Nat} {Q : Exit → Act → World → Prop} {a : Act} {w : World} {l : List Oper} (pre : List Nat) (m : List Bool) (n : Nat) (hm : P.follows .mixedOrders = true)
    (hB : planB .any l.toArray pre n = true) (hR : rowsOf l.toArray (todo n (setAll (Array.replicate l.toArray.size false) pre)) = maskRows m l)
    (h : wpStill P l.toArray w.drew (fun a' => ∀ K : Exit → Act → World → Prop, (∀ a w, Q .normal a w → K .normal a w) → wpList P l.toArray K (l.drop n) a' w.drew) (maskRows m l) (movesA l.toArray pre a)) :
    (Code.region id l.toArray true).wp P Q a w := by
  refine wp_region_noPanic ?_
  rw [← hR] at h
  simp only [planB, Bool.and_eq_true, decide_eq_true_eq] at hB
  obtain ⟨⟨⟨⟨⟨⟨⟨⟨⟨⟨b1, b2⟩, b3⟩, b4⟩, b5⟩, b6⟩, b7⟩, b8⟩, b9⟩, b10⟩, b11⟩ := hB
  have hsel := Region.noSelect_spec b1
  have inv : HeadInv .any l.toArray n (setAll (Array.replicate l.toArray.size false) pre) := by
    refine ⟨by rw [setAll_size]; simp, fun j oj hj hl e he hb => ?_, fun t ht1 ht2 => ?_⟩
    · have h1 := List.all_eq_true.1 b4 j (List.mem_range.2 (Array.getElem?_eq_some_iff.1 hj).1)
      simp only [hl, Bool.not_true, Bool.false_or, hj] at h1
      have h2 := Array.all_eq_true_iff_forall_mem.1 h1 e he
      simpa only [hb, Bool.not_true, Bool.false_or] using h2
    · have h1 := List.all_eq_true.1 b5 t (List.mem_range.2 ht2)
      simp only [Bool.or_eq_true, decide_eq_true_eq, Bool.not_eq_true'] at h1
      rcases h1 with h1 | h1
      · omega
      · exact h1
  refine wp_region_any hm ?_
  have H := head_any (md := .any) (g := l.toArray.size - n) (Q := NoPanic Q) hsel b6 b7 b8 b9 b2 (by rw [setAll_size]; simp) (fun a' hL => by
    have h1 := wpAny_of_seq (md := .any) (Q' := NoPanic Q) (l.drop n) n (fullHead n l.toArray.size) a' w.drew (fun j => by simp [List.getElem?_drop]) (by
      rw [show (l.drop n).length = l.toArray.size - n by simp]; exact b10) (hL _ fun a w h => NoPanic.normal h)
    rwa [show (l.drop n).length = l.toArray.size - n by simp] at h1) _ _ _ inv (fun i hi => hi) rfl h
  have H2 := moves_first hsel (fun _ _ _ _ _ h => h) pre _ a b3 H
  rw [b11] at H2
  exact H2
end
end Go.Proofs.Ythmdbjjhhemjoaa
