/- What the laws lean on (own lemmas and walks of the called functions). -/
import Derived.Test.YtadjmfhhpkjpaaaPw5
set_option linter.unusedVariables false
set_option linter.unusedSimpArgs false
namespace Go.Proofs.Ytadjmfhhpkjpaaa
open Go
set_option linter.unusedVariables false
set_option linter.unusedSimpArgs false

theorem loadO_in : ∀ (rs : List R3) (x : K2) (l : ByteArray), loadO rs x = some l → ∃ r ∈ rs, r.1 = x ∧ r.2 = l
  | [], _, _, h => by simp [loadO] at h
  | r :: t, x, l, h => by
    rw [loadO] at h
    split at h
    · rename_i e
      exact ⟨r, List.mem_cons_self .., by simpa using e, Option.some.inj h⟩
    · obtain ⟨q, h1, h2⟩ := loadO_in t x l h
      exact ⟨q, List.mem_cons_of_mem _ h1, h2⟩
def nk (i : Nat) : K2 := ((i : Int), 1)
def rr (v : Nat → ByteArray) (i : Nat) : R3 := (nk i, v i)
def cw (v : Nat → ByteArray) (i : Nat) : C2 := ([nk i, nk (i + 1)], xorS (v i) (v (i + 1)))
theorem nk_ok {i : Nat} (h1 : 1 ≤ i) (h2 : i ≤ 20) : keyOkB (nk i) = true := by unfold keyOkB nk; simp; omega
theorem nk_inj {i j : Nat} (h : nk i = nk j) : i = j := by have h1 : (i : Int) = (j : Int) := congrArg Prod.fst h; omega
theorem rr_ok {v : Nat → ByteArray} (hv : ∀ i, (v i).size = 4) {i : Nat} (h1 : 1 ≤ i) (h2 : i ≤ 20) : rdOkB (rr v i) = true := by
  unfold rdOkB rr; rw [nk_ok h1 h2]; simpa using hv i
theorem nk_ahead {i j : Nat} (h : i < j) : aheadB (nk i) (nk j) = true := by
  unfold aheadB nk
  rw [if_neg (by simp; omega)]
  simp; omega
theorem cw_ok {v : Nat → ByteArray} (hv : ∀ i, (v i).size = 4) {i : Nat} (h1 : 1 ≤ i) (h2 : i < 20) : codeOkB (cw v i) = true := by
  refine (codeOk_iff _).2 ⟨by simp [cw], (keysR_iff _).2 ⟨fun k hk => ?_, ?_⟩, ?_, fun h => by simp [cw] at h⟩
  · rcases List.mem_cons.1 hk with rfl | hk
    · exact nk_ok h1 (by omega)
    · rw [List.mem_singleton.1 hk]; exact nk_ok (by omega) (by omega)
  · show List.Pairwise _ [nk i, nk (i + 1)]
    simp [nk_ahead]
  · show (xorS (v i) (v (i + 1))).size = 4
    rw [xorS_size _ _ (by rw [hv, hv])]; exact hv i
theorem loadO_one (r : R3) (k : K2) : loadO [r] k = if r.1 = k then some r.2 else none := by
  unfold loadO loadO
  by_cases h : r.1 = k <;> simp [h]
theorem red_cw {v : Nat → ByteArray} (hv : ∀ i, (v i).size = 4) {i j : Nat} (h1 : 1 ≤ i) (h2 : i < 20) (h3 : 1 ≤ j) (h4 : j ≤ 20) :
    redM (cw v i) [rr v j] = if i = j then ([nk (j + 1)], v (j + 1)) else if i + 1 = j then ([nk i], v i) else cw v i := by
  rw [redM_form (cw_ok hv h1 h2) (one_ok (rr_ok hv h3 h4))]
  unfold outK inK
  have e1 : ∀ k, loadO [rr v j] k = if nk j = k then some (v j) else none := fun k => loadO_one _ k
  have hs : ∀ a b : Nat, (v a).size = (v b).size := fun a b => by rw [hv, hv]
  have ne1 : ∀ a b : Nat, a ≠ b → ¬ nk a = nk b := fun a b h e => h (nk_inj e)
  by_cases c1 : i = j
  · subst c1
    rw [if_pos rfl]
    have e2 : ¬ nk i = nk (i + 1) := ne1 _ _ (by omega)
    simp only [cw, List.filter_cons, e1, e2, if_true, if_false, Option.isNone_some, Option.isNone_none, Option.isSome_some, Option.isSome_none, List.filter_nil, Bool.false_eq_true]
    rw [sumX_cons, e1, if_pos rfl]
    show ([nk (i + 1)], xorS (xorS (v i) (v (i + 1))) (xorS (v i) z4)) = _
    rw [xorS_z4 _ (hv i), xorS_comm (v i) (v (i + 1)) (hs _ _), xorS_back _ _ (hs _ _)]
  · rw [if_neg c1]
    by_cases c2 : i + 1 = j
    · subst c2
      rw [if_pos rfl]
      have e2 : ¬ nk (i + 1) = nk i := ne1 _ _ (by omega)
      simp only [cw, List.filter_cons, e1, e2, if_true, if_false, Option.isNone_some, Option.isNone_none, Option.isSome_some, Option.isSome_none, List.filter_nil, Bool.false_eq_true]
      rw [sumX_cons, e1, if_pos rfl]
      show ([nk i], xorS (xorS (v i) (v (i + 1))) (xorS (v (i + 1)) z4)) = _
      rw [xorS_z4 _ (hv _), xorS_back _ _ (hs _ _)]
    · rw [if_neg c2]
      have e2 : ¬ nk j = nk i := ne1 _ _ (fun e => c1 e.symm)
      have e3 : ¬ nk j = nk (i + 1) := ne1 _ _ (fun e => c2 e.symm)
      simp only [cw, List.filter_cons, e1, e2, e3, if_true, if_false, Option.isNone_some, Option.isNone_none, Option.isSome_some, Option.isSome_none, List.filter_nil, Bool.false_eq_true]
      show ([nk i, nk (i + 1)], xorS (xorS (v i) (v (i + 1))) z4) = _
      rw [xorS_z4 _ (by rw [xorS_size _ _ (hs _ _)]; exact hv i)]
theorem atW_cw {v : Nat → ByteArray} {is : List Nat} {i : Nat} (h : i ∉ is) : atW (is.map (cw v)) [nk i, nk (i + 1)] = none := by
  unfold atW
  rw [List.find?_eq_none]
  intro x hx e
  obtain ⟨a, ha, rfl⟩ := List.mem_map.1 hx
  have e' : (cw v a).1 = [nk i, nk (i + 1)] := by simpa using e
  have := nk_inj (List.cons.inj e').1
  subst this
  exact h ha
/-- the chain's words where one of them is told -/
theorem fold_cw {v : Nat → ByteArray} (hv : ∀ i, (v i).size = 4) {j : Nat} (h3 : 1 ≤ j) (h4 : j ≤ 20) (bad : Int) : ∀ (is W0 : List Nat) (q : List R3), (∀ i ∈ is, 1 ≤ i ∧ i < 20) → is.Nodup → (∀ i ∈ is, i ∉ W0) →
    (is.map (cw v)).foldl (waitStep (rr v j)) (W0.map (cw v), q, bad) =
      ((W0 ++ is.filter fun i => decide (¬ i = j ∧ ¬ i + 1 = j)).map (cw v), q ++ (is.filter fun i => decide (i = j ∨ i + 1 = j)).map (fun i => rr v (if i = j then j + 1 else i)), bad)
  | [], W0, q, _, _, _ => by simp
  | i :: is, W0, q, h1, h2, hd => by
    obtain ⟨g1, g2⟩ := List.nodup_cons.1 h2
    obtain ⟨i1, i2⟩ := h1 i (List.mem_cons_self ..)
    have h1' : ∀ a ∈ is, 1 ≤ a ∧ a < 20 := fun a ha => h1 a (List.mem_cons_of_mem _ ha)
    have hr := red_cw hv i1 i2 h3 h4
    rw [List.map_cons, List.foldl_cons]
    by_cases c1 : i = j
    · have hstep : waitStep (rr v j) (W0.map (cw v), q, bad) (cw v i) = (W0.map (cw v), q ++ [rr v (j + 1)], bad) := by
        unfold waitStep
        rw [hr, if_pos c1]
        rfl
      rw [hstep, fold_cw hv h3 h4 bad is W0 _ h1' g2 (fun a ha => hd a (List.mem_cons_of_mem _ ha))]
      simp [List.filter_cons, c1]
    · by_cases c2 : i + 1 = j
      · have hstep : waitStep (rr v j) (W0.map (cw v), q, bad) (cw v i) = (W0.map (cw v), q ++ [rr v i], bad) := by
          unfold waitStep
          rw [hr, if_neg c1, if_pos c2]
          rfl
        rw [hstep, fold_cw hv h3 h4 bad is W0 _ h1' g2 (fun a ha => hd a (List.mem_cons_of_mem _ ha))]
        simp [List.filter_cons, c1, c2]
      · have hstep : waitStep (rr v j) (W0.map (cw v), q, bad) (cw v i) = ((W0 ++ [i]).map (cw v), q, bad) := by
          unfold waitStep
          rw [hr, if_neg c1, if_neg c2]
          have e : atW (W0.map (cw v)) (cw v i).1 = none := atW_cw (hd i (List.mem_cons_self ..))
          dsimp only
          rw [if_neg (by simp [cw]), e]
          simp
        rw [hstep, fold_cw hv h3 h4 bad is (W0 ++ [i]) _ h1' g2 (fun a ha hm => by
          rcases List.mem_append.1 hm with hm | hm
          · exact hd a (List.mem_cons_of_mem _ ha) hm
          · rw [List.mem_singleton.1 hm] at ha; exact g1 ha)]
        simp [List.filter_cons, c1, c2]
end Go.Proofs.Ytadjmfhhpkjpaaa
namespace Go.Proofs.Ytadjmfhhpkjpaaa
open Go
set_option linter.unusedVariables false
set_option linter.unusedSimpArgs false

/-- a chain on its way: 'is': the words that wait still -/
structure ChI (v : Nat → ByteArray) (n : Nat) (s : Snk) (q : List R3) (is : List Nat) : Prop where
  ok : SnkP s
  wait : s.wait = is.map (cw v)
  nodup : is.Nodup
  rng : ∀ i ∈ is, 1 ≤ i ∧ i < n
  bad : s.bad = 0
  kn : ∀ r ∈ s.known, ∃ i, 1 ≤ i ∧ i ≤ n ∧ r = rr v i
  qu : ∀ r ∈ q, ∃ i, 1 ≤ i ∧ i ≤ n ∧ r = rr v i
  link : ∀ i, 1 ≤ i → i < n → i ∈ is ∨ ((rr v i ∈ s.known ∨ rr v i ∈ q) ∧ (rr v (i + 1) ∈ s.known ∨ rr v (i + 1) ∈ q))
  one : ∃ k, 1 ≤ k ∧ k ≤ n ∧ (rr v k ∈ s.known ∨ rr v k ∈ q)
theorem known_mem {rs : List R3} (h : rdsOkR rs = true) {r : R3} (hr : r ∈ rs) : loadO rs r.1 = some r.2 := loadO_own ((rds_iff _).1 h).2 r hr
theorem ChI.known {v : Nat → ByteArray} {n : Nat} {s : Snk} {q : List R3} {is : List Nat} (h : ChI v n s q is) {j : Nat} {z : ByteArray} (hz : loadO s.known (nk j) = some z) : rr v j ∈ s.known ∧ z = v j := by
  obtain ⟨r, hr, e1, e2⟩ := loadO_in _ _ _ hz
  obtain ⟨i, -, -, rfl⟩ := h.kn r hr
  have := nk_inj e1
  subst this
  exact ⟨hr, e2.symm⟩
theorem ChI.same {v : Nat → ByteArray} {n : Nat} {s : Snk} {q : List R3} {is : List Nat} {j : Nat} (h : ChI v n s (rr v j :: q) is) (hm : rr v j ∈ s.known) : ChI v n s q is := by
  have hin : ∀ i, (rr v i ∈ s.known ∨ rr v i ∈ rr v j :: q) → (rr v i ∈ s.known ∨ rr v i ∈ q) := by
    rintro i (hi | hi)
    · exact .inl hi
    · rcases List.mem_cons.1 hi with e | hi
      · rw [e]; exact .inl hm
      · exact .inr hi
  refine ⟨h.ok, h.wait, h.nodup, h.rng, h.bad, h.kn, fun r hr => h.qu r (List.mem_cons_of_mem _ hr), fun i h1 h2 => ?_, ?_⟩
  · rcases h.link i h1 h2 with hl | ⟨ha, hb⟩
    · exact .inl hl
    · exact .inr ⟨hin _ ha, hin _ hb⟩
  · obtain ⟨k, h1, h2, h3⟩ := h.one
    exact ⟨k, h1, h2, hin _ h3⟩
theorem ChI.new {v : Nat → ByteArray} (hv : ∀ i, (v i).size = 4) {n : Nat} (hn : n ≤ 20) {s : Snk} {q : List R3} {is : List Nat} {j : Nat} (h : ChI v n s (rr v j :: q) is) (h3 : 1 ≤ j) (h4 : j ≤ n) (hl : loadO s.known (nk j) = none) :
    ChI v n (newS s (rr v j) q) (newQ s (rr v j) q) (is.filter fun i => decide (¬ i = j ∧ ¬ i + 1 = j)) := by
  have hr := rr_ok hv h3 (Nat.le_trans h4 hn)
  have hq : ∀ x ∈ q, rdOkB x = true := fun x hx => by
    obtain ⟨i, i1, i2, rfl⟩ := h.qu x (List.mem_cons_of_mem _ hx)
    exact rr_ok hv i1 (by omega)
  obtain ⟨g1, g2, g3, g4, g5⟩ := new_ok h.ok hr hq hl
  have hf := fold_cw hv h3 (Nat.le_trans h4 hn) s.bad is [] q (fun i hi => by have := h.rng i hi; omega) h.nodup (by simp)
  rw [← h.wait] at hf
  have ew : (newS s (rr v j) q).wait = (is.filter fun i => decide (¬ i = j ∧ ¬ i + 1 = j)).map (cw v) := by
    show (s.wait.foldl (waitStep (rr v j)) ([], q, s.bad)).1 = _
    have := congrArg (·.1) hf
    simpa using this
  have eq : newQ s (rr v j) q = q ++ (is.filter fun i => decide (i = j ∨ i + 1 = j)).map (fun i => rr v (if i = j then j + 1 else i)) := by
    show (s.wait.foldl (waitStep (rr v j)) ([], q, s.bad)).2.1 = _
    have := congrArg (·.2.1) hf
    simpa using this
  have eb : (newS s (rr v j) q).bad = s.bad := by
    show (s.wait.foldl (waitStep (rr v j)) ([], q, s.bad)).2.2 = _
    have := congrArg (·.2.2) hf
    simpa using this
  have ek : (newS s (rr v j) q).known = s.known.take (aheadN s.known (nk j)) ++ rr v j :: s.known.drop (aheadN s.known (nk j)) := by
    show (learnV s.known (rr v j)).1 = _
    rw [learnV_new' h.ok.known hr hl]
    rfl
  have hkm : ∀ r, r ∈ (newS s (rr v j) q).known ↔ r = rr v j ∨ r ∈ s.known := by
    intro r
    rw [ek, List.mem_append, List.mem_cons]
    have : r ∈ s.known ↔ r ∈ s.known.take (aheadN s.known (nk j)) ∨ r ∈ s.known.drop (aheadN s.known (nk j)) := by rw [← List.mem_append, List.take_append_drop]
    rw [this]
    constructor
    · rintro (h | h | h)
      · exact .inr (.inl h)
      · exact .inl h
      · exact .inr (.inr h)
    · rintro (h | h | h)
      · exact .inr (.inl h)
      · exact .inl h
      · exact .inr (.inr h)
  have hin : ∀ i, (rr v i ∈ s.known ∨ rr v i ∈ rr v j :: q) → (rr v i ∈ (newS s (rr v j) q).known ∨ rr v i ∈ newQ s (rr v j) q) := by
    rintro i (hi | hi)
    · exact .inl ((hkm _).2 (.inr hi))
    · rcases List.mem_cons.1 hi with e | hi
      · exact .inl ((hkm _).2 (.inl e))
      · exact .inr (by rw [eq]; exact List.mem_append_left _ hi)
  refine ⟨g1, ew, h.nodup.filter _, fun i hi => h.rng i (List.mem_filter.1 hi).1, eb.trans h.bad, fun r hr => ?_, fun r hr => ?_, fun i h1 h2 => ?_, ?_⟩
  · rcases (hkm r).1 hr with rfl | hr
    · exact ⟨j, h3, h4, rfl⟩
    · exact h.kn r hr
  · rw [eq] at hr
    rcases List.mem_append.1 hr with hr | hr
    · exact h.qu r (List.mem_cons_of_mem _ hr)
    · obtain ⟨i, hi, rfl⟩ := List.mem_map.1 hr
      obtain ⟨hi1, hi2⟩ := List.mem_filter.1 hi
      have := h.rng i hi1
      by_cases c : i = j
      · rw [if_pos c]; exact ⟨j + 1, by omega, by omega, rfl⟩
      · rw [if_neg c]; exact ⟨i, by omega, by omega, rfl⟩
  · rcases h.link i h1 h2 with hm | ⟨ha, hb⟩
    · by_cases c1 : i = j
      · subst c1
        refine .inr ⟨.inl ((hkm _).2 (.inl rfl)), .inr ?_⟩
        rw [eq]
        refine List.mem_append_right _ (List.mem_map.2 ⟨i, List.mem_filter.2 ⟨hm, by simp⟩, by rw [if_pos rfl]⟩)
      · by_cases c2 : i + 1 = j
        · subst c2
          refine .inr ⟨.inr ?_, .inl ((hkm _).2 (.inl rfl))⟩
          rw [eq]
          exact List.mem_append_right _ (List.mem_map.2 ⟨i, List.mem_filter.2 ⟨hm, by simp⟩, by rw [if_neg c1]⟩)
        · exact .inl (List.mem_filter.2 ⟨hm, by simp [c1, c2]⟩)
    · exact .inr ⟨hin _ ha, hin _ hb⟩
  · obtain ⟨k, h1, h2, h5⟩ := h.one
    exact ⟨k, h1, h2, hin _ h5⟩
/-- where nothing comes any more all is known -/
theorem ChI.end {v : Nat → ByteArray} {n : Nat} {s : Snk} {is : List Nat} (h : ChI v n s [] is) : s.wait = [] ∧ s.bad = 0 ∧ s.known = (List.range n).map fun i => rr v (i + 1) := by
  have hno : ∀ i ∈ is, ∀ j, (j = i ∨ j = i + 1) → rr v j ∉ s.known := by
    intro i hi j hj hm
    have hc := h.ok.wait.ok (cw v i) (by rw [h.wait]; exact List.mem_map_of_mem hi)
    have h1 := hc.2.2 (nk j) (by rcases hj with rfl | rfl <;> simp [cw])
    have h2 := known_mem h.ok.known hm
    rw [show (rr v j).1 = nk j from rfl, h1] at h2
    cases h2
  have hl : ∀ i, 1 ≤ i → i < n → (rr v i ∈ s.known ↔ rr v (i + 1) ∈ s.known) := by
    intro i h1 h2
    rcases h.link i h1 h2 with hm | ⟨ha, hb⟩
    · exact ⟨fun hk => absurd hk (hno i hm i (.inl rfl)), fun hk => absurd hk (hno i hm (i + 1) (.inr rfl))⟩
    · have ha' : rr v i ∈ s.known := by rcases ha with h | h; exact h; cases h
      have hb' : rr v (i + 1) ∈ s.known := by rcases hb with h | h; exact h; cases h
      exact ⟨fun _ => hb', fun _ => ha'⟩
  obtain ⟨k, k1, k2, hk⟩ := h.one
  have hk : rr v k ∈ s.known := by rcases hk with h | h; exact h; cases h
  have hdown : ∀ i, 1 ≤ i → i ≤ n → (rr v i ∈ s.known ↔ rr v 1 ∈ s.known) := by
    intro i h1
    induction i with
    | zero => omega
    | succ i ih =>
      intro h2
      by_cases e : i = 0
      · subst e; exact Iff.rfl
      · exact (hl i (by omega) (by omega)).symm.trans (ih (by omega) (by omega))
  have hall : ∀ i, 1 ≤ i → i ≤ n → rr v i ∈ s.known := fun i h1 h2 => (hdown i h1 h2).2 ((hdown k k1 k2).1 hk)
  have hnil : is = [] := by
    cases e : is with
    | nil => rfl
    | cons i l =>
      have hi : i ∈ is := by rw [e]; exact List.mem_cons_self ..
      have := h.rng i hi
      exact absurd (hall i this.1 (by omega)) (hno i hi i (.inl rfl))
  refine ⟨by rw [h.wait, hnil]; rfl, h.bad, ?_⟩
  obtain ⟨p1, p2⟩ := (rds_iff _).1 h.ok.known
  have hkeys : s.known.map (·.1) = (List.range n).map fun i => nk (i + 1) := by
    refine rising_ext _ _ ?_ ?_ fun x => ?_
    · exact List.pairwise_map.2 p2
    · refine List.pairwise_map.2 ?_
      exact (List.pairwise_lt_range (n := n)).imp fun h => nk_ahead (by omega)
    · rw [List.mem_map, List.mem_map]
      constructor
      · rintro ⟨r, hr, rfl⟩
        obtain ⟨i, i1, i2, rfl⟩ := h.kn r hr
        exact ⟨i - 1, List.mem_range.2 (by omega), by rw [show i - 1 + 1 = i by omega]; rfl⟩
      · rintro ⟨i, hi, rfl⟩
        exact ⟨_, hall (i + 1) (by omega) (by have := List.mem_range.1 hi; omega), rfl⟩
  have hself : s.known = s.known.map fun r => rr v r.1.1.toNat := by
    have : ∀ r ∈ s.known, r = rr v r.1.1.toNat := fun r hr => by
      obtain ⟨i, -, -, rfl⟩ := h.kn r hr
      rfl
    conv => lhs; rw [← List.map_id s.known]
    exact List.map_congr_left fun r hr => this r hr
  have hcomp : (s.known.map fun r => rr v r.1.1.toNat) = (s.known.map (·.1)).map fun k => rr v k.1.toNat := by rw [List.map_map]; rfl
  rw [hself, hcomp, hkeys, List.map_map]
  rfl
theorem ChI.drain {v : Nat → ByteArray} (hv : ∀ i, (v i).size = 4) {n : Nat} (hn : n ≤ 20) : ∀ (m : Nat) (s : Snk) (q : List R3) (is : List Nat), ChI v n s q is → s.wait.length + q.length ≤ m → ∃ is', ChI v n (Go.Proofs.Ytadjmfhhpkjpaaa.drain m s q) [] is'
  | m, s, [], is, h, _ => ⟨is, by cases m <;> exact h⟩
  | 0, s, r :: q, is, h, hm => by simp at hm
  | m + 1, s, r :: q, is, h, hm => by
    obtain ⟨j, h3, h4, rfl⟩ := h.qu r (List.mem_cons_self ..)
    have hr := rr_ok hv h3 (Nat.le_trans h4 hn)
    simp only [List.length_cons] at hm
    rcases learnV_code h.ok.known hr with ⟨hl, h0⟩ | ⟨hl, h0⟩ | ⟨⟨z, hl, hz⟩, h0⟩
    · rw [drain_new h0]
      have hq : ∀ x ∈ q, rdOkB x = true := fun x hx => by
        obtain ⟨i, i1, i2, rfl⟩ := h.qu x (List.mem_cons_of_mem _ hx)
        exact rr_ok hv i1 (by omega)
      obtain ⟨-, -, g3, -, -⟩ := new_ok h.ok hr hq hl
      exact ChI.drain hv hn m _ _ _ (h.new hv hn h3 h4 hl) (by omega)
    · rw [drain_same h0]
      exact ChI.drain hv hn m s q is (h.same (h.known hl).1) (by omega)
    · exact absurd (h.known hl).2 hz
end Go.Proofs.Ytadjmfhhpkjpaaa
namespace Go.Proofs.Ytadjmfhhpkjpaaa
open Go
set_option linter.unusedVariables false
set_option linter.unusedSimpArgs false

theorem takeM_new {s : Snk} {x : C2} (hs : SnkP s) (hx : ¬ (codeOkB x = false ∨ x.1.length = 0)) (hl : (redM x s.known).1.length = 1) :
    takeM s x = (learnAll s [((redM x s.known).1.headD (0, 0), (redM x s.known).2)], 0) := by
  unfold takeM; rw [if_neg (not_not_intro hs), if_neg hx, if_pos hl]
theorem takeM_none {s : Snk} {x : C2} (hs : SnkP s) (hx : ¬ (codeOkB x = false ∨ x.1.length = 0)) (hl : ¬ (redM x s.known).1.length = 1) (hz : atW s.wait (redM x s.known).1 = none) :
    takeM s x = if (redM x s.known).1.length = 0 then (if (redM x s.known).2 = z4 then ({ s with same := moreM s.same }, 2) else ({ s with bad := moreM s.bad }, 3))
      else if (s.wait.length : Int) = s.most then ({ s with lost := moreM s.lost }, 4) else ({ s with wait := s.wait ++ [redM x s.known] }, 1) := by
  unfold takeM; rw [if_neg (not_not_intro hs), if_neg hx, if_neg hl, hz]
end Go.Proofs.Ytadjmfhhpkjpaaa
namespace Go.Proofs.Ytadjmfhhpkjpaaa
open Go
set_option linter.unusedVariables false
set_option linter.unusedSimpArgs false

theorem redM_none (x : C2) : redM x [] = x := by
  unfold redM redF
  split <;> rfl
theorem sing_rr {v : Nat → ByteArray} (hv : ∀ i, (v i).size = 4) {i : Nat} (h1 : 1 ≤ i) (h2 : i ≤ 20) : singM (rr v i) = ([nk i], v i) := by
  unfold singM
  rw [if_pos (rr_ok hv h1 h2)]
  rfl
theorem comb_rr {v : Nat → ByteArray} (hv : ∀ i, (v i).size = 4) {i : Nat} (h1 : 1 ≤ i) (h2 : i < 20) : combM (singM (rr v i)) (singM (rr v (i + 1))) = (cw v i, true) := by
  have hm : mixC (singM (rr v i)) (singM (rr v (i + 1))) = cw v i := by
    rw [sing_rr hv h1 (by omega), sing_rr hv (by omega) (by omega)]
    unfold mixC mergeV
    rw [key_one (nk_ok h1 (by omega)), key_one (nk_ok (i := i + 1) (by omega) (by omega))]
    show (mergeL false [nk i] [nk (i + 1)], _) = _
    have ha : aheadB (nk i) (nk (i + 1)) = true := nk_ahead (by omega)
    rw [mergeL_cons, if_pos ha, mergeL_nil_l]
    rfl
  unfold combM
  rw [hm, if_pos ⟨sing_ok _, sing_ok _, cw_ok hv h1 h2⟩]
/-- the chain's first j words, taken -/
def chS (v : Nat → ByteArray) (j : Nat) : Snk := ⟨12, [], ((List.range j).map (· + 1)).map (cw v), 0, 0, 0⟩
theorem chS_ok {v : Nat → ByteArray} (hv : ∀ i, (v i).size = 4) {j : Nat} (hj : j ≤ 12) : SnkP (chS v j) := by
  refine ⟨⟨by simp [chS], by simp [chS]⟩, rfl, by simp [chS]; omega, rfl, rfl, rfl, ⟨fun x hx => ?_, ?_⟩⟩
  · obtain ⟨i, hi, rfl⟩ := List.mem_map.1 hx
    obtain ⟨t, ht, rfl⟩ := List.mem_map.1 hi
    have := List.mem_range.1 ht
    exact ⟨cw_ok hv (by omega) (by omega), by simp [cw], fun k _ => rfl⟩
  · show ((((List.range j).map (· + 1)).map (cw v)).map (·.1)).Nodup
    rw [List.map_map, List.map_map, List.Nodup, List.pairwise_map]
    refine (List.pairwise_lt_range (n := j)).imp fun {a b} h e => ?_
    have e' : [nk (a + 1), nk (a + 1 + 1)] = [nk (b + 1), nk (b + 1 + 1)] := e
    have := nk_inj (List.cons.inj e').1
    omega
theorem chS_take {v : Nat → ByteArray} (hv : ∀ i, (v i).size = 4) {j : Nat} (hj : j < 12) : takeM (chS v j) (cw v (j + 1)) = (chS v (j + 1), 1) := by
  have hx : ¬ (codeOkB (cw v (j + 1)) = false ∨ (cw v (j + 1)).1.length = 0) := by
    rw [cw_ok hv (by omega) (by omega)]
    simp [cw]
  have hr : redM (cw v (j + 1)) (chS v j).known = cw v (j + 1) := redM_none _
  have hz : atW (chS v j).wait (redM (cw v (j + 1)) (chS v j).known).1 = none := by
    rw [hr]
    refine atW_cw fun h => ?_
    obtain ⟨t, ht, e⟩ := List.mem_map.1 h
    have := List.mem_range.1 ht
    omega
  rw [takeM_none (chS_ok hv (by omega)) hx (by rw [hr]; simp [cw]) hz, hr, if_neg (by simp [cw]), if_neg (by simp [chS]; omega)]
  simp [chS, List.range_succ]
/-- one of the chain, told -/
theorem chS_told {v : Nat → ByteArray} (hv : ∀ i, (v i).size = 4) {n k : Nat} (hn : n ≤ 12) (h0 : 1 ≤ n) (h1 : 1 ≤ k) (h2 : k ≤ n) :
    (takeM (chS v (n - 1)) (singM (rr v k))).2 = 0 ∧ (takeM (chS v (n - 1)) (singM (rr v k))).1.known = (List.range n).map (fun i => rr v (i + 1)) ∧ (takeM (chS v (n - 1)) (singM (rr v k))).1.wait = [] ∧ (takeM (chS v (n - 1)) (singM (rr v k))).1.bad = 0 := by
  have hs := chS_ok hv (j := n - 1) (by omega)
  have hx : ¬ (codeOkB (singM (rr v k)) = false ∨ (singM (rr v k)).1.length = 0) := by
    rw [sing_ok, sing_rr hv h1 (by omega)]
    simp
  have hr : redM (singM (rr v k)) (chS v (n - 1)).known = ([nk k], v k) := by rw [← sing_rr hv h1 (by omega)]; exact redM_none _
  have hI : ChI v n (chS v (n - 1)) [rr v k] ((List.range (n - 1)).map (· + 1)) := by
    refine ⟨hs, rfl, ?_, fun i hi => ?_, rfl, fun r hr => (by cases hr), fun r hr => ?_, fun i i1 i2 => .inl ?_, ⟨k, h1, h2, .inr (by simp)⟩⟩
    · rw [List.Nodup, List.pairwise_map]
      exact (List.pairwise_lt_range (n := n - 1)).imp fun h => by omega
    · obtain ⟨t, ht, rfl⟩ := List.mem_map.1 hi
      have := List.mem_range.1 ht
      omega
    · rw [List.mem_singleton.1 hr]; exact ⟨k, h1, h2, rfl⟩
    · exact List.mem_map.2 ⟨i - 1, List.mem_range.2 (by omega), by omega⟩
  obtain ⟨is', hE⟩ := ChI.drain hv (by omega) ((chS v (n - 1)).wait.length + [rr v k].length) _ _ _ hI (Nat.le_refl _)
  obtain ⟨e1, e2, e3⟩ := hE.end
  rw [takeM_new hs hx (by rw [hr]; rfl), hr]
  exact ⟨rfl, e3, e1, e2⟩
end Go.Proofs.Ytadjmfhhpkjpaaa
namespace Go.Proofs.Ytadjmfhhpkjpaaa
open Go.ChangeShapes Go.WideShapes Go.ChangeAt Go.RowKit Go.BigFrame
set_option linter.unusedVariables false

theorem sparted_any (va vb : Value) (A B : List K2) (w : World) (ha : keysAt w va A) (hb : keysAt w vb B) (hsA : A.length ≤ 2000000) (hsB : B.length ≤ 2000000) :
    Calls Try.prog 61 #[va, vb] w fun e w' => ∃ v, e = .returned v ∧ w'.ownsRow w.heap.size 43 2 v (mergeV false A B).length (keyCells (mergeV false A B)) ∧ Below w.heap.size w w' := by
  have H := Lib.hid (smerge_any va vb A B false w ha hb hsA hsB)
  go_enter Try.func61, Try.ntmps61
  go_wp2_with fail
  refine H.out.mono ?_
  rintro e w1 ⟨v, rfl, ho, hB⟩
  go_wp2
  go_ret
  exact ⟨v, rfl, ho, hB⟩
end Go.Proofs.Ytadjmfhhpkjpaaa
namespace Go.Proofs.Ytadjmfhhpkjpaaa
open Go.ChangeShapes Go.WideShapes Go.ChangeAt Go.RowKit Go.BigFrame
set_option linter.unusedVariables false

set_option maxRecDepth 100000 in
set_option maxHeartbeats 4000000 in
theorem scombine_any (va : Value) (A : List K2) (ya : ByteArray) (vb : Value) (B : List K2) (yb : ByteArray) (w : World) (ha : keysAt w va A) (hb : keysAt w vb B) (hsA : A.length ≤ 1048576) (hsB : B.length ≤ 1048576) (hya : ya.size ≤ 2000000) (hyb : yb.size ≤ 2000000) :
    Calls Try.prog 21 #[.agg #[va, .string ya], .agg #[vb, .string yb]] w fun e w' => ∃ v', e = .returned (.tuple #[.agg #[v', .string (combM (A, ya) (B, yb)).1.2], .bool (combM (A, ya) (B, yb)).2]) ∧
      w'.ownsRow w.heap.size 43 2 v' (combM (A, ya) (B, yb)).1.1.length (keyCells (combM (A, ya) (B, yb)).1.1) ∧ Below w.heap.size w w' := by
  have HP := Lib.hid (cbc_new w va ya vb yb)
  have CA := Lib.hid (fun w' (h : Below w.heap.size w w') => scodeok_any va A ya w' (keysAt_below ha h) (by omega))
  have CB := Lib.hid (fun w' (h : Below w.heap.size w w') => scodeok_any vb B yb w' (keysAt_below hb h) (by omega))
  have SP := Lib.hid (fun w' (h : Below w.heap.size w w') => sparted_any va vb A B w' (keysAt_below ha h) (keysAt_below hb h) (by omega) (by omega))
  have SX := Lib.hid (fun w' => sxor_any ya yb w' hya hyb)
  have hml := mergeV_ln false A B
  obtain ⟨aa, ca, hva, -, -⟩ := ha
  obtain ⟨ab, cb, hvb, -, -⟩ := hb
  subst hva; subst hvb
  have hA6 := Lib.hid (show codeOkB (A, ya) = true → A.length ≤ 6 from fun h => ((codeOk_iff (A, ya)).1 h).1)
  have hB6 := Lib.hid (show codeOkB (B, yb) = true → B.length ≤ 6 from fun h => ((codeOk_iff (B, yb)).1 h).1)
  have nA := comb_noA (a := (A, ya)) (b := (B, yb))
  have nB := comb_noB (a := (A, ya)) (b := (B, yb))
  have nX := comb_noX (a := (A, ya)) (b := (B, yb))
  have nY := comb_yes (a := (A, ya)) (b := (B, yb))
  have HMX := Lib.hid (show mixC (A, ya) (B, yb) = (mergeV false A B, xorS ya yb) from rfl)
  rw [HMX.out] at nX nY
  have CX := Lib.hid (fun v w (h : keysAt w v (mergeV false A B)) (hl : (mergeV false A B).length ≤ 2000000) => scodeok_any v (mergeV false A B) (xorS ya yb) w h hl)
  have HML := Lib.hid hml
  clear hml HMX
  go_enter Try.func21, Try.ntmps21
  go_wp2_with fail
  generalize ((w.alloc (.cells #[.slice aa A.length ca, .string ya] 30)).alloc (.cells #[.slice ab B.length cb, .string yb] 30)).alloc (.cells #[.slice none 0 0, .string ⟨#[]⟩] 30) = W at *
  generalize mergeV false A B = M at *
  generalize xorS ya yb = Y at *
  have L1 : ∀ w' : World, w'.heap[w.heap.size]? = some (.cells #[.slice aa A.length ca, .string ya] 30) ∧ w'.heap[w.heap.size + 1]? = some (.cells #[.slice ab B.length cb, .string yb] 30) → (loadVar 28 ⟨w.heap.size, 0, none⟩).run Try.prog w' = .ok (.slice aa A.length ca) w' := fun w' h => cd_loadk h.1 (Below.refl _ _)
  have L2 : ∀ w' : World, w'.heap[w.heap.size]? = some (.cells #[.slice aa A.length ca, .string ya] 30) ∧ w'.heap[w.heap.size + 1]? = some (.cells #[.slice ab B.length cb, .string yb] 30) → (loadVar 9 ⟨w.heap.size, 1, none⟩).run Try.prog w' = .ok (.string ya) w' := fun w' h => cd_loads h.1 (Below.refl _ _)
  have L3 : ∀ w' : World, w'.heap[w.heap.size]? = some (.cells #[.slice aa A.length ca, .string ya] 30) ∧ w'.heap[w.heap.size + 1]? = some (.cells #[.slice ab B.length cb, .string yb] 30) → (loadVar 28 ⟨w.heap.size + 1, 0, none⟩).run Try.prog w' = .ok (.slice ab B.length cb) w' := fun w' h => cd_loadk h.2 (Below.refl _ _)
  have L4 : ∀ w' : World, w'.heap[w.heap.size]? = some (.cells #[.slice aa A.length ca, .string ya] 30) ∧ w'.heap[w.heap.size + 1]? = some (.cells #[.slice ab B.length cb, .string yb] 30) → (loadVar 9 ⟨w.heap.size + 1, 1, none⟩).run Try.prog w' = .ok (.string yb) w' := fun w' h => cd_loads h.2 (Below.refl _ _)
  have HRA := Lib.hid HP.out.rowa
  have HRB := Lib.hid HP.out.rowb
  have HRES := Lib.hid HP.out.res
  have HB0 := Lib.hid HP.out.below
  have HSZ := Lib.hid HP.out.size
  clear HP
  refine wp_region_G (fun w' => w'.heap[w.heap.size]? = some (.cells #[.slice aa A.length ca, .string ya] 30) ∧ w'.heap[w.heap.size + 1]? = some (.cells #[.slice ab B.length cb, .string yb] 30)) (by kernel_rfl) ?_
  replace HRA := Lib.hid (show (World.drew _).heap[_]? = _ from HRA.out)
  replace HRB := Lib.hid (show (World.drew _).heap[_]? = _ from HRB.out)
  replace HB0 := Lib.hid (HB0.out.drew)
  replace HRES := Lib.hid (show (World.drew _).heap[_]? = _ from HRES.out)
  replace HSZ := Lib.hid (show _ ≤ (World.drew _).heap.size from HSZ.out)
  generalize (W).drew = wD at *
  refine wpG_seg [true, true, true, true, false, true, true, true, true] [4, 11] 4 (by kernel_rfl) (by intro c a d v w h; cases d <;> exact h) (by kernel_rfl) ⟨HRA.out, HRB.out⟩ ?_
  try simp only [maskRows]
  repeat (first
    | go_big_quiet_skip
    | (go_big_quiet_want
       first
         | (go_big_quiet_op; go_big_quiet_on)
         | (refine q_load 28 _ _ _ rfl rfl L1 ?_; simp only [Act.put, List.setIfInBounds_toArray, List.set_cons_zero, List.set_cons_succ]; go_big_quiet_on)
         | (refine q_load 9 _ _ _ rfl rfl L2 ?_; simp only [Act.put, List.setIfInBounds_toArray, List.set_cons_zero, List.set_cons_succ]; go_big_quiet_on)
         | (refine q_load 28 _ _ _ rfl rfl L3 ?_; simp only [Act.put, List.setIfInBounds_toArray, List.set_cons_zero, List.set_cons_succ]; go_big_quiet_on)
         | (refine q_load 9 _ _ _ rfl rfl L4 ?_; simp only [Act.put, List.setIfInBounds_toArray, List.set_cons_zero, List.set_cons_succ]; go_big_quiet_on)
         | (go_big_quiet_op; refine ⟨_, fun _ _ => rfl, ?_⟩; go_big_quiet_on)
         | (go_big_quiet_op; refine ⟨_, fun _ _ _ => rfl, ?_⟩; go_big_quiet_on)))
  refine wpQuiet_nil ?_
  refine List.forall_mem_cons.2 ⟨?_, List.forall_mem_singleton.2 ?_⟩
  · refine segt_run rfl (by rfl) (fun K hK => ?_)
    go_simp
    refine (SP.out _ HB0.out).mono ?_
    rintro e w3 ⟨v3, rfl, ho3, hb⟩
    dsimp only
    have HSZo := Lib.hid HSZ.out
    have hNE := fun (b6 : Nat) (hl : b6 < wD.heap.size) (e : v3.ownBlock = some b6) => (absurd (ho3.lt b6 e).1 (Nat.not_le.2 hl) : False)
    replace HRA := Lib.hid ((hb.block _ (Array.getElem?_eq_some_iff.1 HRA.out).1).trans HRA.out)
    replace HRB := Lib.hid ((hb.block _ (Array.getElem?_eq_some_iff.1 HRB.out).1).trans HRB.out)
    replace HB0 := Lib.hid (HB0.out.trans (hb.mono HB0.out.size))
    replace HRES := Lib.hid ((hb.block _ (Array.getElem?_eq_some_iff.1 HRES.out).1).trans HRES.out)
    replace HSZ := Lib.hid (Nat.le_trans HSZ.out hb.size)
    clear hNE
    obtain ⟨a3, n3, k3, rfl⟩ := own_shape ho3
    have HO := Lib.hid (own_base ho3 HSZo.out)
    clear ho3 HSZo
    clear hb
    refine hK _ _ ⟨_, fun _ h => h, ⟨HRA.out, HRB.out⟩, ?_⟩
    clear hK K
    try simp only [Act.put, List.setIfInBounds_toArray, List.set_cons_zero, List.set_cons_succ]
    refine wpG_seg [] [9, 11] 3 (by kernel_rfl) (by intro c a d v w h; cases d <;> exact h) (by kernel_rfl) ⟨HRA.out, HRB.out⟩ ?_
    try simp only [maskRows]
    refine wpQuiet_nil ?_
    refine List.forall_mem_cons.2 ⟨?_, List.forall_mem_singleton.2 ?_⟩
    · refine segt_run rfl (by rfl) (fun K hK => ?_)
      go_simp
      refine (SX.out _).mono ?_
      rintro e w4 ⟨rfl, hb⟩
      dsimp only
      replace HRA := Lib.hid ((hb.block _ (Array.getElem?_eq_some_iff.1 HRA.out).1).trans HRA.out)
      replace HRB := Lib.hid ((hb.block _ (Array.getElem?_eq_some_iff.1 HRB.out).1).trans HRB.out)
      replace HB0 := Lib.hid (HB0.out.trans (hb.mono HB0.out.size))
      replace HRES := Lib.hid ((hb.block _ (Array.getElem?_eq_some_iff.1 HRES.out).1).trans HRES.out)
      replace HSZ := Lib.hid (Nat.le_trans HSZ.out hb.size)
      replace HO := Lib.hid (own_below HO.out hb)
      clear hb
      refine hK _ _ ⟨_, fun _ h => h, ⟨HRA.out, HRB.out⟩, ?_⟩
      clear hK K
      try simp only [Act.put, List.setIfInBounds_toArray, List.set_cons_zero, List.set_cons_succ]
      refine wpG_seg [] [10, 11] 2 (by kernel_rfl) (by intro c a d v w h; cases d <;> exact h) (by kernel_rfl) ⟨HRA.out, HRB.out⟩ ?_
      try simp only [maskRows]
      refine wpQuiet_nil ?_
      refine List.forall_mem_cons.2 ⟨?_, List.forall_mem_singleton.2 ?_⟩
      · refine segt_run rfl (by rfl) (fun K hK => ?_)
        go_simp
        refine hK _ _ ⟨_, fun _ h => h, ⟨HRA.out, HRB.out⟩, ?_⟩
        clear hK K
        try simp only [Act.put, List.setIfInBounds_toArray, List.set_cons_zero, List.set_cons_succ]
        refine wpG_seg [] [11] 1 (by kernel_rfl) (by intro c a d v w h; cases d <;> exact h) (by kernel_rfl) ⟨HRA.out, HRB.out⟩ ?_
        try simp only [maskRows]
        refine wpQuiet_nil ?_
        refine List.forall_mem_singleton.2 ?_
        refine segt_run rfl (by rfl) (fun K hK => ?_)
        go_simp
        have HB6 := Lib.hid HSZ.out
        have HNE := Lib.hid (fun (e : (Value.slice a3 n3 k3).ownBlock = some w4.heap.size) => (absurd (HO.out.lt _ e).2 (Nat.lt_irrefl _) : False))
        have HNn := Lib.hid (heap_alloc_new (w4) (.cells #[.slice none 0 0, .string ⟨#[]⟩] 30))
        replace HRA := Lib.hid ((Below.heap_alloc _ (.cells #[.slice none 0 0, .string ⟨#[]⟩] 30) _ (Array.getElem?_eq_some_iff.1 HRA.out).1).trans HRA.out)
        replace HRB := Lib.hid ((Below.heap_alloc _ (.cells #[.slice none 0 0, .string ⟨#[]⟩] 30) _ (Array.getElem?_eq_some_iff.1 HRB.out).1).trans HRB.out)
        replace HB0 := Lib.hid (HB0.out.alloc HB0.out.size (.cells #[.slice none 0 0, .string ⟨#[]⟩] 30))
        replace HRES := Lib.hid ((Below.heap_alloc _ (.cells #[.slice none 0 0, .string ⟨#[]⟩] 30) _ (Array.getElem?_eq_some_iff.1 HRES.out).1).trans HRES.out)
        replace HSZ := Lib.hid (Nat.le_trans HSZ.out (size_le_alloc _ (.cells #[.slice none 0 0, .string ⟨#[]⟩] 30)))
        replace HO := Lib.hid (HO.out.alloc (.cells #[.slice none 0 0, .string ⟨#[]⟩] 30))
        have HN := HNn
        clear HNn
        generalize World.alloc (w4) (.cells #[.slice none 0 0, .string ⟨#[]⟩] 30) = w6 at *
        generalize (w4).heap.size = b6 at *
        refine hK _ _ ⟨_, fun _ h => h, ⟨HRA.out, HRB.out⟩, ?_⟩
        clear hK K
        try simp only [Act.put, List.setIfInBounds_toArray, List.set_cons_zero, List.set_cons_succ]
        refine wpG_seg [] [12] 0 (by kernel_rfl) (by intro c a d v w h; cases d <;> exact h) (by kernel_rfl) ⟨HRA.out, HRB.out⟩ ?_
        try simp only [maskRows]
        refine wpQuiet_nil ?_
        refine List.forall_mem_singleton.2 ?_
        have hb6 := HB6.out
        obtain ⟨c0, c1, f0, f1⟩ := row2_of HN.out
        have hlt := (Array.getElem?_eq_some_iff.1 HN.out).1
        have HN' := Lib.hid (set2 (.slice a3 n3 k3) (.string Y) HN.out)
        have HRA' := Lib.hid (row_set2 HRA.out (by omega : w.heap.size ≠ b6) (.slice a3 n3 k3) (.string Y))
        have HRB' := Lib.hid (row_set2 HRB.out (by omega : w.heap.size + 1 ≠ b6) (.slice a3 n3 k3) (.string Y))
        have HRES' := Lib.hid (row_set2 HRES.out (by omega : w.heap.size + 2 ≠ b6) (.slice a3 n3 k3) (.string Y))
        have HB0' := Lib.hid (below2 HB0.out (by omega : w.heap.size ≤ b6) (.slice a3 n3 k3) (.string Y))
        have HO' := Lib.hid (HO.out.kept (grown2 _ b6 (.slice a3 n3 k3) (.string Y)) (.inr HNE.out))
        have HSZ' := Lib.hid (Nat.le_trans HSZ.out (Nat.le_of_eq (size_set2 _ b6 (.slice a3 n3 k3) (.string Y)).symm))
        clear hb6
        refine segt_run rfl (by rfl) (fun K hK => ?_)
        go_simp
        replace HN := HN'
        replace HRA := HRA'
        replace HRB := HRB'
        replace HRES := HRES'
        replace HB0 := HB0'
        replace HO := HO'
        replace HSZ := HSZ'
        clear HN' HRA' HRB' HRES' HB0' HO' HSZ' c0 c1 f0 f1 hlt
        generalize (World.setCell (World.setCell w6 ⟨b6, 0, none⟩ (.slice a3 n3 k3)) ⟨b6, 1, none⟩ (.string Y)) = wS at *
        refine hK _ _ ⟨_, fun _ h => h, ⟨HRA.out, HRB.out⟩, ?_⟩
        clear hK K
        try simp only [Act.put, List.setIfInBounds_toArray, List.set_cons_zero, List.set_cons_succ]
        refine wpG_end [] (by kernel_rfl) (by intro c a d v w h; cases d <;> exact h) (by kernel_rfl) ⟨HRA.out, HRB.out⟩ ?_
        try simp only [maskRows]
        refine wpQuiet_nil ?_
        obtain ⟨x0, x1, -, -⟩ := row2_of HRA.out
        go_wp2_with fail
        refine (CA.out _ HB0.out).mono ?_
        rintro e wP ⟨rfl, hb⟩
        replace HRA := Lib.hid ((hb.block _ (Array.getElem?_eq_some_iff.1 HRA.out).1).trans HRA.out)
        replace HRB := Lib.hid ((hb.block _ (Array.getElem?_eq_some_iff.1 HRB.out).1).trans HRB.out)
        replace HB0 := Lib.hid (HB0.out.trans (hb.mono HB0.out.size))
        replace HRES := Lib.hid ((hb.block _ (Array.getElem?_eq_some_iff.1 HRES.out).1).trans HRES.out)
        replace HSZ := Lib.hid (Nat.le_trans HSZ.out hb.size)
        replace HO := Lib.hid (own_below HO.out hb)
        replace HN := Lib.hid ((hb.block _ (Array.getElem?_eq_some_iff.1 HN.out).1).trans HN.out)
        clear hb x0 x1 CA
        generalize codeOkB (A, ya) = okA at *
        cases okA with
        | false =>
          have HM := Lib.hid (nA rfl)
          clear nA nB nX nY
          obtain ⟨x0, x1, -, -⟩ := row2_of HN.out
          go_wp2_with fail
          refine (sblank_any _ _ _).mono ?_
          rintro e wB ⟨v2, rfl, ho2, hb⟩
          obtain ⟨a2, n2, k2, rfl⟩ := own_shape ho2
          have ho2 := own_base ho2 HSZ.out
          replace HRA := Lib.hid ((hb.block _ (Array.getElem?_eq_some_iff.1 HRA.out).1).trans HRA.out)
          replace HRB := Lib.hid ((hb.block _ (Array.getElem?_eq_some_iff.1 HRB.out).1).trans HRB.out)
          replace HB0 := Lib.hid (HB0.out.trans (hb.mono HB0.out.size))
          replace HRES := Lib.hid ((hb.block _ (Array.getElem?_eq_some_iff.1 HRES.out).1).trans HRES.out)
          replace HSZ := Lib.hid (Nat.le_trans HSZ.out hb.size)
          replace HO := Lib.hid (own_below HO.out hb)
          replace HN := Lib.hid ((hb.block _ (Array.getElem?_eq_some_iff.1 HN.out).1).trans HN.out)
          obtain ⟨c0, c1, f0, f1⟩ := row2_of HRES.out
          have hlt := (Array.getElem?_eq_some_iff.1 HRES.out).1
          have HF := Lib.hid (And.intro (cd_res HRES.out (.slice a2 n2 k2) z4) (And.intro (own_base (own_set2 ho2 (by omega : w.heap.size + 2 < w.heap.size + 3) (.slice a2 n2 k2) (.string z4)) (by omega : w.heap.size ≤ w.heap.size + 3)) (below2 HB0.out (by omega : w.heap.size ≤ w.heap.size + 2) (.slice a2 n2 k2) (.string z4))))
          clear hb ho2 HRA HRB HRES HO HB0 HN x0 x1
          go_wp2_with fail
          refine bodyPost_ret (v := .tuple #[.agg #[.slice a2 n2 k2, .string z4], .bool false]) ?_ rfl ⟨_, by rw [HM.out]; rfl, by rw [HM.out]; exact HF.out.2.1, HF.out.2.2⟩
          rw [results_cell_slot (p := 4) (u := 5) (ty := 30) (by kernel_rfl)]
          have l2 := HF.out.1
          simp [asAddr, Result.andThen, l2]
        | true =>
          obtain ⟨x0, x1, -, -⟩ := row2_of HRB.out
          go_wp2_with fail
          refine (CB.out _ HB0.out).mono ?_
          rintro e wQ ⟨rfl, hb⟩
          replace HRA := Lib.hid ((hb.block _ (Array.getElem?_eq_some_iff.1 HRA.out).1).trans HRA.out)
          replace HRB := Lib.hid ((hb.block _ (Array.getElem?_eq_some_iff.1 HRB.out).1).trans HRB.out)
          replace HB0 := Lib.hid (HB0.out.trans (hb.mono HB0.out.size))
          replace HRES := Lib.hid ((hb.block _ (Array.getElem?_eq_some_iff.1 HRES.out).1).trans HRES.out)
          replace HSZ := Lib.hid (Nat.le_trans HSZ.out hb.size)
          replace HO := Lib.hid (own_below HO.out hb)
          replace HN := Lib.hid ((hb.block _ (Array.getElem?_eq_some_iff.1 HN.out).1).trans HN.out)
          clear hb x0 x1 CB
          generalize codeOkB (B, yb) = okB at *
          cases okB with
          | false =>
            have HM := Lib.hid (nB rfl)
            clear nA nB nX nY
            obtain ⟨x0, x1, -, -⟩ := row2_of HN.out
            go_wp2_with fail
            refine (sblank_any _ _ _).mono ?_
            rintro e wB ⟨v2, rfl, ho2, hb⟩
            obtain ⟨a2, n2, k2, rfl⟩ := own_shape ho2
            have ho2 := own_base ho2 HSZ.out
            replace HRA := Lib.hid ((hb.block _ (Array.getElem?_eq_some_iff.1 HRA.out).1).trans HRA.out)
            replace HRB := Lib.hid ((hb.block _ (Array.getElem?_eq_some_iff.1 HRB.out).1).trans HRB.out)
            replace HB0 := Lib.hid (HB0.out.trans (hb.mono HB0.out.size))
            replace HRES := Lib.hid ((hb.block _ (Array.getElem?_eq_some_iff.1 HRES.out).1).trans HRES.out)
            replace HSZ := Lib.hid (Nat.le_trans HSZ.out hb.size)
            replace HO := Lib.hid (own_below HO.out hb)
            replace HN := Lib.hid ((hb.block _ (Array.getElem?_eq_some_iff.1 HN.out).1).trans HN.out)
            obtain ⟨c0, c1, f0, f1⟩ := row2_of HRES.out
            have hlt := (Array.getElem?_eq_some_iff.1 HRES.out).1
            have HF := Lib.hid (And.intro (cd_res HRES.out (.slice a2 n2 k2) z4) (And.intro (own_base (own_set2 ho2 (by omega : w.heap.size + 2 < w.heap.size + 3) (.slice a2 n2 k2) (.string z4)) (by omega : w.heap.size ≤ w.heap.size + 3)) (below2 HB0.out (by omega : w.heap.size ≤ w.heap.size + 2) (.slice a2 n2 k2) (.string z4))))
            clear hb ho2 HRA HRB HRES HO HB0 HN x0 x1
            go_wp2_with fail
            refine bodyPost_ret (v := .tuple #[.agg #[.slice a2 n2 k2, .string z4], .bool false]) ?_ rfl ⟨_, by rw [HM.out]; rfl, by rw [HM.out]; exact HF.out.2.1, HF.out.2.2⟩
            rw [results_cell_slot (p := 4) (u := 5) (ty := 30) (by kernel_rfl)]
            have l2 := HF.out.1
            simp [asAddr, Result.andThen, l2]
          | true =>
            obtain ⟨x0, x1, -, -⟩ := row2_of HN.out
            go_wp2_with fail
            refine (CX.out _ _ (keysAt_own HO.out) (by have h1 := hA6.out (by simp); have h2 := hB6.out (by simp); have h3 := HML.out; omega)).mono ?_
            rintro e wX ⟨rfl, hb⟩
            replace HRA := Lib.hid ((hb.block _ (Array.getElem?_eq_some_iff.1 HRA.out).1).trans HRA.out)
            replace HRB := Lib.hid ((hb.block _ (Array.getElem?_eq_some_iff.1 HRB.out).1).trans HRB.out)
            replace HB0 := Lib.hid (HB0.out.trans (hb.mono HB0.out.size))
            replace HRES := Lib.hid ((hb.block _ (Array.getElem?_eq_some_iff.1 HRES.out).1).trans HRES.out)
            replace HSZ := Lib.hid (Nat.le_trans HSZ.out hb.size)
            replace HO := Lib.hid (own_below HO.out hb)
            replace HN := Lib.hid ((hb.block _ (Array.getElem?_eq_some_iff.1 HN.out).1).trans HN.out)
            clear hb x0 x1 CX
            generalize codeOkB (M, Y) = okX at *
            cases okX with
            | false =>
              have HM := Lib.hid (nX rfl)
              clear nA nB nX nY
              obtain ⟨x0, x1, -, -⟩ := row2_of HN.out
              go_wp2_with fail
              refine (sblank_any _ _ _).mono ?_
              rintro e wB ⟨v2, rfl, ho2, hb⟩
              obtain ⟨a2, n2, k2, rfl⟩ := own_shape ho2
              have ho2 := own_base ho2 HSZ.out
              replace HRA := Lib.hid ((hb.block _ (Array.getElem?_eq_some_iff.1 HRA.out).1).trans HRA.out)
              replace HRB := Lib.hid ((hb.block _ (Array.getElem?_eq_some_iff.1 HRB.out).1).trans HRB.out)
              replace HB0 := Lib.hid (HB0.out.trans (hb.mono HB0.out.size))
              replace HRES := Lib.hid ((hb.block _ (Array.getElem?_eq_some_iff.1 HRES.out).1).trans HRES.out)
              replace HSZ := Lib.hid (Nat.le_trans HSZ.out hb.size)
              replace HO := Lib.hid (own_below HO.out hb)
              replace HN := Lib.hid ((hb.block _ (Array.getElem?_eq_some_iff.1 HN.out).1).trans HN.out)
              obtain ⟨c0, c1, f0, f1⟩ := row2_of HRES.out
              have hlt := (Array.getElem?_eq_some_iff.1 HRES.out).1
              have HF := Lib.hid (And.intro (cd_res HRES.out (.slice a2 n2 k2) z4) (And.intro (own_base (own_set2 ho2 (by omega : w.heap.size + 2 < w.heap.size + 3) (.slice a2 n2 k2) (.string z4)) (by omega : w.heap.size ≤ w.heap.size + 3)) (below2 HB0.out (by omega : w.heap.size ≤ w.heap.size + 2) (.slice a2 n2 k2) (.string z4))))
              clear hb ho2 HRA HRB HRES HO HB0 HN x0 x1
              go_wp2_with fail
              refine bodyPost_ret (v := .tuple #[.agg #[.slice a2 n2 k2, .string z4], .bool false]) ?_ rfl ⟨_, by rw [HM.out]; rfl, by rw [HM.out]; exact HF.out.2.1, HF.out.2.2⟩
              rw [results_cell_slot (p := 4) (u := 5) (ty := 30) (by kernel_rfl)]
              have l2 := HF.out.1
              simp [asAddr, Result.andThen, l2]
            | true =>
              have HM := Lib.hid (nY (by simp) (by simp) (by simp))
              clear nA nB nX nY
              obtain ⟨x0, x1, -, -⟩ := row2_of HN.out
              obtain ⟨c0, c1, f0, f1⟩ := row2_of HRES.out
              have hlt := (Array.getElem?_eq_some_iff.1 HRES.out).1
              have HF := Lib.hid (And.intro (cd_res HRES.out (.slice a3 n3 k3) Y) (And.intro (own_base (own_set2 HO.out (by omega : w.heap.size + 2 < w.heap.size + 3) (.slice a3 n3 k3) (.string Y)) (by omega : w.heap.size ≤ w.heap.size + 3)) (below2 HB0.out (by omega : w.heap.size ≤ w.heap.size + 2) (.slice a3 n3 k3) (.string Y))))
              clear HRA HRB HRES HO HB0 HN
              go_wp2_with fail
              refine bodyPost_ret (v := .tuple #[.agg #[.slice a3 n3 k3, .string Y], .bool true]) ?_ rfl ⟨_, by rw [HM.out], by rw [HM.out]; exact HF.out.2.1, HF.out.2.2⟩
              rw [results_cell_slot (p := 4) (u := 5) (ty := 30) (by kernel_rfl)]
              have l2 := HF.out.1
              simp [asAddr, Result.andThen, l2]
      · refine segt_run rfl (by rfl) (fun K hK => ?_)
        go_simp
        have HB6 := Lib.hid HSZ.out
        have HNE := Lib.hid (fun (e : (Value.slice a3 n3 k3).ownBlock = some w4.heap.size) => (absurd (HO.out.lt _ e).2 (Nat.lt_irrefl _) : False))
        have HNn := Lib.hid (heap_alloc_new (w4) (.cells #[.slice none 0 0, .string ⟨#[]⟩] 30))
        replace HRA := Lib.hid ((Below.heap_alloc _ (.cells #[.slice none 0 0, .string ⟨#[]⟩] 30) _ (Array.getElem?_eq_some_iff.1 HRA.out).1).trans HRA.out)
        replace HRB := Lib.hid ((Below.heap_alloc _ (.cells #[.slice none 0 0, .string ⟨#[]⟩] 30) _ (Array.getElem?_eq_some_iff.1 HRB.out).1).trans HRB.out)
        replace HB0 := Lib.hid (HB0.out.alloc HB0.out.size (.cells #[.slice none 0 0, .string ⟨#[]⟩] 30))
        replace HRES := Lib.hid ((Below.heap_alloc _ (.cells #[.slice none 0 0, .string ⟨#[]⟩] 30) _ (Array.getElem?_eq_some_iff.1 HRES.out).1).trans HRES.out)
        replace HSZ := Lib.hid (Nat.le_trans HSZ.out (size_le_alloc _ (.cells #[.slice none 0 0, .string ⟨#[]⟩] 30)))
        replace HO := Lib.hid (HO.out.alloc (.cells #[.slice none 0 0, .string ⟨#[]⟩] 30))
        have HN := HNn
        clear HNn
        generalize World.alloc (w4) (.cells #[.slice none 0 0, .string ⟨#[]⟩] 30) = w5 at *
        generalize (w4).heap.size = b6 at *
        refine hK _ _ ⟨_, fun _ h => h, ⟨HRA.out, HRB.out⟩, ?_⟩
        clear hK K
        try simp only [Act.put, List.setIfInBounds_toArray, List.set_cons_zero, List.set_cons_succ]
        refine wpG_seg [] [10] 1 (by kernel_rfl) (by intro c a d v w h; cases d <;> exact h) (by kernel_rfl) ⟨HRA.out, HRB.out⟩ ?_
        try simp only [maskRows]
        refine wpQuiet_nil ?_
        refine List.forall_mem_singleton.2 ?_
        refine segt_run rfl (by rfl) (fun K hK => ?_)
        go_simp
        refine hK _ _ ⟨_, fun _ h => h, ⟨HRA.out, HRB.out⟩, ?_⟩
        clear hK K
        try simp only [Act.put, List.setIfInBounds_toArray, List.set_cons_zero, List.set_cons_succ]
        refine wpG_seg [] [12] 0 (by kernel_rfl) (by intro c a d v w h; cases d <;> exact h) (by kernel_rfl) ⟨HRA.out, HRB.out⟩ ?_
        try simp only [maskRows]
        refine wpQuiet_nil ?_
        refine List.forall_mem_singleton.2 ?_
        have hb6 := HB6.out
        obtain ⟨c0, c1, f0, f1⟩ := row2_of HN.out
        have hlt := (Array.getElem?_eq_some_iff.1 HN.out).1
        have HN' := Lib.hid (set2 (.slice a3 n3 k3) (.string Y) HN.out)
        have HRA' := Lib.hid (row_set2 HRA.out (by omega : w.heap.size ≠ b6) (.slice a3 n3 k3) (.string Y))
        have HRB' := Lib.hid (row_set2 HRB.out (by omega : w.heap.size + 1 ≠ b6) (.slice a3 n3 k3) (.string Y))
        have HRES' := Lib.hid (row_set2 HRES.out (by omega : w.heap.size + 2 ≠ b6) (.slice a3 n3 k3) (.string Y))
        have HB0' := Lib.hid (below2 HB0.out (by omega : w.heap.size ≤ b6) (.slice a3 n3 k3) (.string Y))
        have HO' := Lib.hid (HO.out.kept (grown2 _ b6 (.slice a3 n3 k3) (.string Y)) (.inr HNE.out))
        have HSZ' := Lib.hid (Nat.le_trans HSZ.out (Nat.le_of_eq (size_set2 _ b6 (.slice a3 n3 k3) (.string Y)).symm))
        clear hb6
        refine segt_run rfl (by rfl) (fun K hK => ?_)
        go_simp
        replace HN := HN'
        replace HRA := HRA'
        replace HRB := HRB'
        replace HRES := HRES'
        replace HB0 := HB0'
        replace HO := HO'
        replace HSZ := HSZ'
        clear HN' HRA' HRB' HRES' HB0' HO' HSZ' c0 c1 f0 f1 hlt
        generalize (World.setCell (World.setCell w5 ⟨b6, 0, none⟩ (.slice a3 n3 k3)) ⟨b6, 1, none⟩ (.string Y)) = wS at *
        refine hK _ _ ⟨_, fun _ h => h, ⟨HRA.out, HRB.out⟩, ?_⟩
        clear hK K
        try simp only [Act.put, List.setIfInBounds_toArray, List.set_cons_zero, List.set_cons_succ]
        refine wpG_end [] (by kernel_rfl) (by intro c a d v w h; cases d <;> exact h) (by kernel_rfl) ⟨HRA.out, HRB.out⟩ ?_
        try simp only [maskRows]
        refine wpQuiet_nil ?_
        obtain ⟨x0, x1, -, -⟩ := row2_of HRA.out
        go_wp2_with fail
        refine (CA.out _ HB0.out).mono ?_
        rintro e wP ⟨rfl, hb⟩
        replace HRA := Lib.hid ((hb.block _ (Array.getElem?_eq_some_iff.1 HRA.out).1).trans HRA.out)
        replace HRB := Lib.hid ((hb.block _ (Array.getElem?_eq_some_iff.1 HRB.out).1).trans HRB.out)
        replace HB0 := Lib.hid (HB0.out.trans (hb.mono HB0.out.size))
        replace HRES := Lib.hid ((hb.block _ (Array.getElem?_eq_some_iff.1 HRES.out).1).trans HRES.out)
        replace HSZ := Lib.hid (Nat.le_trans HSZ.out hb.size)
        replace HO := Lib.hid (own_below HO.out hb)
        replace HN := Lib.hid ((hb.block _ (Array.getElem?_eq_some_iff.1 HN.out).1).trans HN.out)
        clear hb x0 x1 CA
        generalize codeOkB (A, ya) = okA at *
        cases okA with
        | false =>
          have HM := Lib.hid (nA rfl)
          clear nA nB nX nY
          obtain ⟨x0, x1, -, -⟩ := row2_of HN.out
          go_wp2_with fail
          refine (sblank_any _ _ _).mono ?_
          rintro e wB ⟨v2, rfl, ho2, hb⟩
          obtain ⟨a2, n2, k2, rfl⟩ := own_shape ho2
          have ho2 := own_base ho2 HSZ.out
          replace HRA := Lib.hid ((hb.block _ (Array.getElem?_eq_some_iff.1 HRA.out).1).trans HRA.out)
          replace HRB := Lib.hid ((hb.block _ (Array.getElem?_eq_some_iff.1 HRB.out).1).trans HRB.out)
          replace HB0 := Lib.hid (HB0.out.trans (hb.mono HB0.out.size))
          replace HRES := Lib.hid ((hb.block _ (Array.getElem?_eq_some_iff.1 HRES.out).1).trans HRES.out)
          replace HSZ := Lib.hid (Nat.le_trans HSZ.out hb.size)
          replace HO := Lib.hid (own_below HO.out hb)
          replace HN := Lib.hid ((hb.block _ (Array.getElem?_eq_some_iff.1 HN.out).1).trans HN.out)
          obtain ⟨c0, c1, f0, f1⟩ := row2_of HRES.out
          have hlt := (Array.getElem?_eq_some_iff.1 HRES.out).1
          have HF := Lib.hid (And.intro (cd_res HRES.out (.slice a2 n2 k2) z4) (And.intro (own_base (own_set2 ho2 (by omega : w.heap.size + 2 < w.heap.size + 3) (.slice a2 n2 k2) (.string z4)) (by omega : w.heap.size ≤ w.heap.size + 3)) (below2 HB0.out (by omega : w.heap.size ≤ w.heap.size + 2) (.slice a2 n2 k2) (.string z4))))
          clear hb ho2 HRA HRB HRES HO HB0 HN x0 x1
          go_wp2_with fail
          refine bodyPost_ret (v := .tuple #[.agg #[.slice a2 n2 k2, .string z4], .bool false]) ?_ rfl ⟨_, by rw [HM.out]; rfl, by rw [HM.out]; exact HF.out.2.1, HF.out.2.2⟩
          rw [results_cell_slot (p := 4) (u := 5) (ty := 30) (by kernel_rfl)]
          have l2 := HF.out.1
          simp [asAddr, Result.andThen, l2]
        | true =>
          obtain ⟨x0, x1, -, -⟩ := row2_of HRB.out
          go_wp2_with fail
          refine (CB.out _ HB0.out).mono ?_
          rintro e wQ ⟨rfl, hb⟩
          replace HRA := Lib.hid ((hb.block _ (Array.getElem?_eq_some_iff.1 HRA.out).1).trans HRA.out)
          replace HRB := Lib.hid ((hb.block _ (Array.getElem?_eq_some_iff.1 HRB.out).1).trans HRB.out)
          replace HB0 := Lib.hid (HB0.out.trans (hb.mono HB0.out.size))
          replace HRES := Lib.hid ((hb.block _ (Array.getElem?_eq_some_iff.1 HRES.out).1).trans HRES.out)
          replace HSZ := Lib.hid (Nat.le_trans HSZ.out hb.size)
          replace HO := Lib.hid (own_below HO.out hb)
          replace HN := Lib.hid ((hb.block _ (Array.getElem?_eq_some_iff.1 HN.out).1).trans HN.out)
          clear hb x0 x1 CB
          generalize codeOkB (B, yb) = okB at *
          cases okB with
          | false =>
            have HM := Lib.hid (nB rfl)
            clear nA nB nX nY
            obtain ⟨x0, x1, -, -⟩ := row2_of HN.out
            go_wp2_with fail
            refine (sblank_any _ _ _).mono ?_
            rintro e wB ⟨v2, rfl, ho2, hb⟩
            obtain ⟨a2, n2, k2, rfl⟩ := own_shape ho2
            have ho2 := own_base ho2 HSZ.out
            replace HRA := Lib.hid ((hb.block _ (Array.getElem?_eq_some_iff.1 HRA.out).1).trans HRA.out)
            replace HRB := Lib.hid ((hb.block _ (Array.getElem?_eq_some_iff.1 HRB.out).1).trans HRB.out)
            replace HB0 := Lib.hid (HB0.out.trans (hb.mono HB0.out.size))
            replace HRES := Lib.hid ((hb.block _ (Array.getElem?_eq_some_iff.1 HRES.out).1).trans HRES.out)
            replace HSZ := Lib.hid (Nat.le_trans HSZ.out hb.size)
            replace HO := Lib.hid (own_below HO.out hb)
            replace HN := Lib.hid ((hb.block _ (Array.getElem?_eq_some_iff.1 HN.out).1).trans HN.out)
            obtain ⟨c0, c1, f0, f1⟩ := row2_of HRES.out
            have hlt := (Array.getElem?_eq_some_iff.1 HRES.out).1
            have HF := Lib.hid (And.intro (cd_res HRES.out (.slice a2 n2 k2) z4) (And.intro (own_base (own_set2 ho2 (by omega : w.heap.size + 2 < w.heap.size + 3) (.slice a2 n2 k2) (.string z4)) (by omega : w.heap.size ≤ w.heap.size + 3)) (below2 HB0.out (by omega : w.heap.size ≤ w.heap.size + 2) (.slice a2 n2 k2) (.string z4))))
            clear hb ho2 HRA HRB HRES HO HB0 HN x0 x1
            go_wp2_with fail
            refine bodyPost_ret (v := .tuple #[.agg #[.slice a2 n2 k2, .string z4], .bool false]) ?_ rfl ⟨_, by rw [HM.out]; rfl, by rw [HM.out]; exact HF.out.2.1, HF.out.2.2⟩
            rw [results_cell_slot (p := 4) (u := 5) (ty := 30) (by kernel_rfl)]
            have l2 := HF.out.1
            simp [asAddr, Result.andThen, l2]
          | true =>
            obtain ⟨x0, x1, -, -⟩ := row2_of HN.out
            go_wp2_with fail
            refine (CX.out _ _ (keysAt_own HO.out) (by have h1 := hA6.out (by simp); have h2 := hB6.out (by simp); have h3 := HML.out; omega)).mono ?_
            rintro e wX ⟨rfl, hb⟩
            replace HRA := Lib.hid ((hb.block _ (Array.getElem?_eq_some_iff.1 HRA.out).1).trans HRA.out)
            replace HRB := Lib.hid ((hb.block _ (Array.getElem?_eq_some_iff.1 HRB.out).1).trans HRB.out)
            replace HB0 := Lib.hid (HB0.out.trans (hb.mono HB0.out.size))
            replace HRES := Lib.hid ((hb.block _ (Array.getElem?_eq_some_iff.1 HRES.out).1).trans HRES.out)
            replace HSZ := Lib.hid (Nat.le_trans HSZ.out hb.size)
            replace HO := Lib.hid (own_below HO.out hb)
            replace HN := Lib.hid ((hb.block _ (Array.getElem?_eq_some_iff.1 HN.out).1).trans HN.out)
            clear hb x0 x1 CX
            generalize codeOkB (M, Y) = okX at *
            cases okX with
            | false =>
              have HM := Lib.hid (nX rfl)
              clear nA nB nX nY
              obtain ⟨x0, x1, -, -⟩ := row2_of HN.out
              go_wp2_with fail
              refine (sblank_any _ _ _).mono ?_
              rintro e wB ⟨v2, rfl, ho2, hb⟩
              obtain ⟨a2, n2, k2, rfl⟩ := own_shape ho2
              have ho2 := own_base ho2 HSZ.out
              replace HRA := Lib.hid ((hb.block _ (Array.getElem?_eq_some_iff.1 HRA.out).1).trans HRA.out)
              replace HRB := Lib.hid ((hb.block _ (Array.getElem?_eq_some_iff.1 HRB.out).1).trans HRB.out)
              replace HB0 := Lib.hid (HB0.out.trans (hb.mono HB0.out.size))
              replace HRES := Lib.hid ((hb.block _ (Array.getElem?_eq_some_iff.1 HRES.out).1).trans HRES.out)
              replace HSZ := Lib.hid (Nat.le_trans HSZ.out hb.size)
              replace HO := Lib.hid (own_below HO.out hb)
              replace HN := Lib.hid ((hb.block _ (Array.getElem?_eq_some_iff.1 HN.out).1).trans HN.out)
              obtain ⟨c0, c1, f0, f1⟩ := row2_of HRES.out
              have hlt := (Array.getElem?_eq_some_iff.1 HRES.out).1
              have HF := Lib.hid (And.intro (cd_res HRES.out (.slice a2 n2 k2) z4) (And.intro (own_base (own_set2 ho2 (by omega : w.heap.size + 2 < w.heap.size + 3) (.slice a2 n2 k2) (.string z4)) (by omega : w.heap.size ≤ w.heap.size + 3)) (below2 HB0.out (by omega : w.heap.size ≤ w.heap.size + 2) (.slice a2 n2 k2) (.string z4))))
              clear hb ho2 HRA HRB HRES HO HB0 HN x0 x1
              go_wp2_with fail
              refine bodyPost_ret (v := .tuple #[.agg #[.slice a2 n2 k2, .string z4], .bool false]) ?_ rfl ⟨_, by rw [HM.out]; rfl, by rw [HM.out]; exact HF.out.2.1, HF.out.2.2⟩
              rw [results_cell_slot (p := 4) (u := 5) (ty := 30) (by kernel_rfl)]
              have l2 := HF.out.1
              simp [asAddr, Result.andThen, l2]
            | true =>
              have HM := Lib.hid (nY (by simp) (by simp) (by simp))
              clear nA nB nX nY
              obtain ⟨x0, x1, -, -⟩ := row2_of HN.out
              obtain ⟨c0, c1, f0, f1⟩ := row2_of HRES.out
              have hlt := (Array.getElem?_eq_some_iff.1 HRES.out).1
              have HF := Lib.hid (And.intro (cd_res HRES.out (.slice a3 n3 k3) Y) (And.intro (own_base (own_set2 HO.out (by omega : w.heap.size + 2 < w.heap.size + 3) (.slice a3 n3 k3) (.string Y)) (by omega : w.heap.size ≤ w.heap.size + 3)) (below2 HB0.out (by omega : w.heap.size ≤ w.heap.size + 2) (.slice a3 n3 k3) (.string Y))))
              clear HRA HRB HRES HO HB0 HN
              go_wp2_with fail
              refine bodyPost_ret (v := .tuple #[.agg #[.slice a3 n3 k3, .string Y], .bool true]) ?_ rfl ⟨_, by rw [HM.out], by rw [HM.out]; exact HF.out.2.1, HF.out.2.2⟩
              rw [results_cell_slot (p := 4) (u := 5) (ty := 30) (by kernel_rfl)]
              have l2 := HF.out.1
              simp [asAddr, Result.andThen, l2]
    · refine segt_run rfl (by rfl) (fun K hK => ?_)
      go_simp
      have HB6 := Lib.hid HSZ.out
      have HNE := Lib.hid (fun (e : (Value.slice a3 n3 k3).ownBlock = some w3.heap.size) => (absurd (HO.out.lt _ e).2 (Nat.lt_irrefl _) : False))
      have HNn := Lib.hid (heap_alloc_new (w3) (.cells #[.slice none 0 0, .string ⟨#[]⟩] 30))
      replace HRA := Lib.hid ((Below.heap_alloc _ (.cells #[.slice none 0 0, .string ⟨#[]⟩] 30) _ (Array.getElem?_eq_some_iff.1 HRA.out).1).trans HRA.out)
      replace HRB := Lib.hid ((Below.heap_alloc _ (.cells #[.slice none 0 0, .string ⟨#[]⟩] 30) _ (Array.getElem?_eq_some_iff.1 HRB.out).1).trans HRB.out)
      replace HB0 := Lib.hid (HB0.out.alloc HB0.out.size (.cells #[.slice none 0 0, .string ⟨#[]⟩] 30))
      replace HRES := Lib.hid ((Below.heap_alloc _ (.cells #[.slice none 0 0, .string ⟨#[]⟩] 30) _ (Array.getElem?_eq_some_iff.1 HRES.out).1).trans HRES.out)
      replace HSZ := Lib.hid (Nat.le_trans HSZ.out (size_le_alloc _ (.cells #[.slice none 0 0, .string ⟨#[]⟩] 30)))
      replace HO := Lib.hid (HO.out.alloc (.cells #[.slice none 0 0, .string ⟨#[]⟩] 30))
      have HN := HNn
      clear HNn
      generalize World.alloc (w3) (.cells #[.slice none 0 0, .string ⟨#[]⟩] 30) = w4 at *
      generalize (w3).heap.size = b6 at *
      refine hK _ _ ⟨_, fun _ h => h, ⟨HRA.out, HRB.out⟩, ?_⟩
      clear hK K
      try simp only [Act.put, List.setIfInBounds_toArray, List.set_cons_zero, List.set_cons_succ]
      refine wpG_seg [] [9] 2 (by kernel_rfl) (by intro c a d v w h; cases d <;> exact h) (by kernel_rfl) ⟨HRA.out, HRB.out⟩ ?_
      try simp only [maskRows]
      refine wpQuiet_nil ?_
      refine List.forall_mem_singleton.2 ?_
      refine segt_run rfl (by rfl) (fun K hK => ?_)
      go_simp
      refine (SX.out _).mono ?_
      rintro e w5 ⟨rfl, hb⟩
      dsimp only
      replace HRA := Lib.hid ((hb.block _ (Array.getElem?_eq_some_iff.1 HRA.out).1).trans HRA.out)
      replace HRB := Lib.hid ((hb.block _ (Array.getElem?_eq_some_iff.1 HRB.out).1).trans HRB.out)
      replace HB0 := Lib.hid (HB0.out.trans (hb.mono HB0.out.size))
      replace HRES := Lib.hid ((hb.block _ (Array.getElem?_eq_some_iff.1 HRES.out).1).trans HRES.out)
      replace HSZ := Lib.hid (Nat.le_trans HSZ.out hb.size)
      replace HO := Lib.hid (own_below HO.out hb)
      replace HN := Lib.hid ((hb.block _ (Array.getElem?_eq_some_iff.1 HN.out).1).trans HN.out)
      replace HB6 := Lib.hid (HB6.out)
      replace HNE := Lib.hid (HNE.out)
      clear hb
      refine hK _ _ ⟨_, fun _ h => h, ⟨HRA.out, HRB.out⟩, ?_⟩
      clear hK K
      try simp only [Act.put, List.setIfInBounds_toArray, List.set_cons_zero, List.set_cons_succ]
      refine wpG_seg [] [10] 1 (by kernel_rfl) (by intro c a d v w h; cases d <;> exact h) (by kernel_rfl) ⟨HRA.out, HRB.out⟩ ?_
      try simp only [maskRows]
      refine wpQuiet_nil ?_
      refine List.forall_mem_singleton.2 ?_
      refine segt_run rfl (by rfl) (fun K hK => ?_)
      go_simp
      refine hK _ _ ⟨_, fun _ h => h, ⟨HRA.out, HRB.out⟩, ?_⟩
      clear hK K
      try simp only [Act.put, List.setIfInBounds_toArray, List.set_cons_zero, List.set_cons_succ]
      refine wpG_seg [] [12] 0 (by kernel_rfl) (by intro c a d v w h; cases d <;> exact h) (by kernel_rfl) ⟨HRA.out, HRB.out⟩ ?_
      try simp only [maskRows]
      refine wpQuiet_nil ?_
      refine List.forall_mem_singleton.2 ?_
      have hb6 := HB6.out
      obtain ⟨c0, c1, f0, f1⟩ := row2_of HN.out
      have hlt := (Array.getElem?_eq_some_iff.1 HN.out).1
      have HN' := Lib.hid (set2 (.slice a3 n3 k3) (.string Y) HN.out)
      have HRA' := Lib.hid (row_set2 HRA.out (by omega : w.heap.size ≠ b6) (.slice a3 n3 k3) (.string Y))
      have HRB' := Lib.hid (row_set2 HRB.out (by omega : w.heap.size + 1 ≠ b6) (.slice a3 n3 k3) (.string Y))
      have HRES' := Lib.hid (row_set2 HRES.out (by omega : w.heap.size + 2 ≠ b6) (.slice a3 n3 k3) (.string Y))
      have HB0' := Lib.hid (below2 HB0.out (by omega : w.heap.size ≤ b6) (.slice a3 n3 k3) (.string Y))
      have HO' := Lib.hid (HO.out.kept (grown2 _ b6 (.slice a3 n3 k3) (.string Y)) (.inr HNE.out))
      have HSZ' := Lib.hid (Nat.le_trans HSZ.out (Nat.le_of_eq (size_set2 _ b6 (.slice a3 n3 k3) (.string Y)).symm))
      clear hb6
      refine segt_run rfl (by rfl) (fun K hK => ?_)
      go_simp
      replace HN := HN'
      replace HRA := HRA'
      replace HRB := HRB'
      replace HRES := HRES'
      replace HB0 := HB0'
      replace HO := HO'
      replace HSZ := HSZ'
      clear HN' HRA' HRB' HRES' HB0' HO' HSZ' c0 c1 f0 f1 hlt
      generalize (World.setCell (World.setCell w5 ⟨b6, 0, none⟩ (.slice a3 n3 k3)) ⟨b6, 1, none⟩ (.string Y)) = wS at *
      refine hK _ _ ⟨_, fun _ h => h, ⟨HRA.out, HRB.out⟩, ?_⟩
      clear hK K
      try simp only [Act.put, List.setIfInBounds_toArray, List.set_cons_zero, List.set_cons_succ]
      refine wpG_end [] (by kernel_rfl) (by intro c a d v w h; cases d <;> exact h) (by kernel_rfl) ⟨HRA.out, HRB.out⟩ ?_
      try simp only [maskRows]
      refine wpQuiet_nil ?_
      obtain ⟨x0, x1, -, -⟩ := row2_of HRA.out
      go_wp2_with fail
      refine (CA.out _ HB0.out).mono ?_
      rintro e wP ⟨rfl, hb⟩
      replace HRA := Lib.hid ((hb.block _ (Array.getElem?_eq_some_iff.1 HRA.out).1).trans HRA.out)
      replace HRB := Lib.hid ((hb.block _ (Array.getElem?_eq_some_iff.1 HRB.out).1).trans HRB.out)
      replace HB0 := Lib.hid (HB0.out.trans (hb.mono HB0.out.size))
      replace HRES := Lib.hid ((hb.block _ (Array.getElem?_eq_some_iff.1 HRES.out).1).trans HRES.out)
      replace HSZ := Lib.hid (Nat.le_trans HSZ.out hb.size)
      replace HO := Lib.hid (own_below HO.out hb)
      replace HN := Lib.hid ((hb.block _ (Array.getElem?_eq_some_iff.1 HN.out).1).trans HN.out)
      clear hb x0 x1 CA
      generalize codeOkB (A, ya) = okA at *
      cases okA with
      | false =>
        have HM := Lib.hid (nA rfl)
        clear nA nB nX nY
        obtain ⟨x0, x1, -, -⟩ := row2_of HN.out
        go_wp2_with fail
        refine (sblank_any _ _ _).mono ?_
        rintro e wB ⟨v2, rfl, ho2, hb⟩
        obtain ⟨a2, n2, k2, rfl⟩ := own_shape ho2
        have ho2 := own_base ho2 HSZ.out
        replace HRA := Lib.hid ((hb.block _ (Array.getElem?_eq_some_iff.1 HRA.out).1).trans HRA.out)
        replace HRB := Lib.hid ((hb.block _ (Array.getElem?_eq_some_iff.1 HRB.out).1).trans HRB.out)
        replace HB0 := Lib.hid (HB0.out.trans (hb.mono HB0.out.size))
        replace HRES := Lib.hid ((hb.block _ (Array.getElem?_eq_some_iff.1 HRES.out).1).trans HRES.out)
        replace HSZ := Lib.hid (Nat.le_trans HSZ.out hb.size)
        replace HO := Lib.hid (own_below HO.out hb)
        replace HN := Lib.hid ((hb.block _ (Array.getElem?_eq_some_iff.1 HN.out).1).trans HN.out)
        obtain ⟨c0, c1, f0, f1⟩ := row2_of HRES.out
        have hlt := (Array.getElem?_eq_some_iff.1 HRES.out).1
        have HF := Lib.hid (And.intro (cd_res HRES.out (.slice a2 n2 k2) z4) (And.intro (own_base (own_set2 ho2 (by omega : w.heap.size + 2 < w.heap.size + 3) (.slice a2 n2 k2) (.string z4)) (by omega : w.heap.size ≤ w.heap.size + 3)) (below2 HB0.out (by omega : w.heap.size ≤ w.heap.size + 2) (.slice a2 n2 k2) (.string z4))))
        clear hb ho2 HRA HRB HRES HO HB0 HN x0 x1
        go_wp2_with fail
        refine bodyPost_ret (v := .tuple #[.agg #[.slice a2 n2 k2, .string z4], .bool false]) ?_ rfl ⟨_, by rw [HM.out]; rfl, by rw [HM.out]; exact HF.out.2.1, HF.out.2.2⟩
        rw [results_cell_slot (p := 4) (u := 5) (ty := 30) (by kernel_rfl)]
        have l2 := HF.out.1
        simp [asAddr, Result.andThen, l2]
      | true =>
        obtain ⟨x0, x1, -, -⟩ := row2_of HRB.out
        go_wp2_with fail
        refine (CB.out _ HB0.out).mono ?_
        rintro e wQ ⟨rfl, hb⟩
        replace HRA := Lib.hid ((hb.block _ (Array.getElem?_eq_some_iff.1 HRA.out).1).trans HRA.out)
        replace HRB := Lib.hid ((hb.block _ (Array.getElem?_eq_some_iff.1 HRB.out).1).trans HRB.out)
        replace HB0 := Lib.hid (HB0.out.trans (hb.mono HB0.out.size))
        replace HRES := Lib.hid ((hb.block _ (Array.getElem?_eq_some_iff.1 HRES.out).1).trans HRES.out)
        replace HSZ := Lib.hid (Nat.le_trans HSZ.out hb.size)
        replace HO := Lib.hid (own_below HO.out hb)
        replace HN := Lib.hid ((hb.block _ (Array.getElem?_eq_some_iff.1 HN.out).1).trans HN.out)
        clear hb x0 x1 CB
        generalize codeOkB (B, yb) = okB at *
        cases okB with
        | false =>
          have HM := Lib.hid (nB rfl)
          clear nA nB nX nY
          obtain ⟨x0, x1, -, -⟩ := row2_of HN.out
          go_wp2_with fail
          refine (sblank_any _ _ _).mono ?_
          rintro e wB ⟨v2, rfl, ho2, hb⟩
          obtain ⟨a2, n2, k2, rfl⟩ := own_shape ho2
          have ho2 := own_base ho2 HSZ.out
          replace HRA := Lib.hid ((hb.block _ (Array.getElem?_eq_some_iff.1 HRA.out).1).trans HRA.out)
          replace HRB := Lib.hid ((hb.block _ (Array.getElem?_eq_some_iff.1 HRB.out).1).trans HRB.out)
          replace HB0 := Lib.hid (HB0.out.trans (hb.mono HB0.out.size))
          replace HRES := Lib.hid ((hb.block _ (Array.getElem?_eq_some_iff.1 HRES.out).1).trans HRES.out)
          replace HSZ := Lib.hid (Nat.le_trans HSZ.out hb.size)
          replace HO := Lib.hid (own_below HO.out hb)
          replace HN := Lib.hid ((hb.block _ (Array.getElem?_eq_some_iff.1 HN.out).1).trans HN.out)
          obtain ⟨c0, c1, f0, f1⟩ := row2_of HRES.out
          have hlt := (Array.getElem?_eq_some_iff.1 HRES.out).1
          have HF := Lib.hid (And.intro (cd_res HRES.out (.slice a2 n2 k2) z4) (And.intro (own_base (own_set2 ho2 (by omega : w.heap.size + 2 < w.heap.size + 3) (.slice a2 n2 k2) (.string z4)) (by omega : w.heap.size ≤ w.heap.size + 3)) (below2 HB0.out (by omega : w.heap.size ≤ w.heap.size + 2) (.slice a2 n2 k2) (.string z4))))
          clear hb ho2 HRA HRB HRES HO HB0 HN x0 x1
          go_wp2_with fail
          refine bodyPost_ret (v := .tuple #[.agg #[.slice a2 n2 k2, .string z4], .bool false]) ?_ rfl ⟨_, by rw [HM.out]; rfl, by rw [HM.out]; exact HF.out.2.1, HF.out.2.2⟩
          rw [results_cell_slot (p := 4) (u := 5) (ty := 30) (by kernel_rfl)]
          have l2 := HF.out.1
          simp [asAddr, Result.andThen, l2]
        | true =>
          obtain ⟨x0, x1, -, -⟩ := row2_of HN.out
          go_wp2_with fail
          refine (CX.out _ _ (keysAt_own HO.out) (by have h1 := hA6.out (by simp); have h2 := hB6.out (by simp); have h3 := HML.out; omega)).mono ?_
          rintro e wX ⟨rfl, hb⟩
          replace HRA := Lib.hid ((hb.block _ (Array.getElem?_eq_some_iff.1 HRA.out).1).trans HRA.out)
          replace HRB := Lib.hid ((hb.block _ (Array.getElem?_eq_some_iff.1 HRB.out).1).trans HRB.out)
          replace HB0 := Lib.hid (HB0.out.trans (hb.mono HB0.out.size))
          replace HRES := Lib.hid ((hb.block _ (Array.getElem?_eq_some_iff.1 HRES.out).1).trans HRES.out)
          replace HSZ := Lib.hid (Nat.le_trans HSZ.out hb.size)
          replace HO := Lib.hid (own_below HO.out hb)
          replace HN := Lib.hid ((hb.block _ (Array.getElem?_eq_some_iff.1 HN.out).1).trans HN.out)
          clear hb x0 x1 CX
          generalize codeOkB (M, Y) = okX at *
          cases okX with
          | false =>
            have HM := Lib.hid (nX rfl)
            clear nA nB nX nY
            obtain ⟨x0, x1, -, -⟩ := row2_of HN.out
            go_wp2_with fail
            refine (sblank_any _ _ _).mono ?_
            rintro e wB ⟨v2, rfl, ho2, hb⟩
            obtain ⟨a2, n2, k2, rfl⟩ := own_shape ho2
            have ho2 := own_base ho2 HSZ.out
            replace HRA := Lib.hid ((hb.block _ (Array.getElem?_eq_some_iff.1 HRA.out).1).trans HRA.out)
            replace HRB := Lib.hid ((hb.block _ (Array.getElem?_eq_some_iff.1 HRB.out).1).trans HRB.out)
            replace HB0 := Lib.hid (HB0.out.trans (hb.mono HB0.out.size))
            replace HRES := Lib.hid ((hb.block _ (Array.getElem?_eq_some_iff.1 HRES.out).1).trans HRES.out)
            replace HSZ := Lib.hid (Nat.le_trans HSZ.out hb.size)
            replace HO := Lib.hid (own_below HO.out hb)
            replace HN := Lib.hid ((hb.block _ (Array.getElem?_eq_some_iff.1 HN.out).1).trans HN.out)
            obtain ⟨c0, c1, f0, f1⟩ := row2_of HRES.out
            have hlt := (Array.getElem?_eq_some_iff.1 HRES.out).1
            have HF := Lib.hid (And.intro (cd_res HRES.out (.slice a2 n2 k2) z4) (And.intro (own_base (own_set2 ho2 (by omega : w.heap.size + 2 < w.heap.size + 3) (.slice a2 n2 k2) (.string z4)) (by omega : w.heap.size ≤ w.heap.size + 3)) (below2 HB0.out (by omega : w.heap.size ≤ w.heap.size + 2) (.slice a2 n2 k2) (.string z4))))
            clear hb ho2 HRA HRB HRES HO HB0 HN x0 x1
            go_wp2_with fail
            refine bodyPost_ret (v := .tuple #[.agg #[.slice a2 n2 k2, .string z4], .bool false]) ?_ rfl ⟨_, by rw [HM.out]; rfl, by rw [HM.out]; exact HF.out.2.1, HF.out.2.2⟩
            rw [results_cell_slot (p := 4) (u := 5) (ty := 30) (by kernel_rfl)]
            have l2 := HF.out.1
            simp [asAddr, Result.andThen, l2]
          | true =>
            have HM := Lib.hid (nY (by simp) (by simp) (by simp))
            clear nA nB nX nY
            obtain ⟨x0, x1, -, -⟩ := row2_of HN.out
            obtain ⟨c0, c1, f0, f1⟩ := row2_of HRES.out
            have hlt := (Array.getElem?_eq_some_iff.1 HRES.out).1
            have HF := Lib.hid (And.intro (cd_res HRES.out (.slice a3 n3 k3) Y) (And.intro (own_base (own_set2 HO.out (by omega : w.heap.size + 2 < w.heap.size + 3) (.slice a3 n3 k3) (.string Y)) (by omega : w.heap.size ≤ w.heap.size + 3)) (below2 HB0.out (by omega : w.heap.size ≤ w.heap.size + 2) (.slice a3 n3 k3) (.string Y))))
            clear HRA HRB HRES HO HB0 HN
            go_wp2_with fail
            refine bodyPost_ret (v := .tuple #[.agg #[.slice a3 n3 k3, .string Y], .bool true]) ?_ rfl ⟨_, by rw [HM.out], by rw [HM.out]; exact HF.out.2.1, HF.out.2.2⟩
            rw [results_cell_slot (p := 4) (u := 5) (ty := 30) (by kernel_rfl)]
            have l2 := HF.out.1
            simp [asAddr, Result.andThen, l2]
  · refine segt_run rfl (by rfl) (fun K hK => ?_)
    go_simp
    have HB6 := Lib.hid HSZ.out
    have HNn := Lib.hid (heap_alloc_new (wD) (.cells #[.slice none 0 0, .string ⟨#[]⟩] 30))
    replace HRA := Lib.hid ((Below.heap_alloc _ (.cells #[.slice none 0 0, .string ⟨#[]⟩] 30) _ (Array.getElem?_eq_some_iff.1 HRA.out).1).trans HRA.out)
    replace HRB := Lib.hid ((Below.heap_alloc _ (.cells #[.slice none 0 0, .string ⟨#[]⟩] 30) _ (Array.getElem?_eq_some_iff.1 HRB.out).1).trans HRB.out)
    replace HB0 := Lib.hid (HB0.out.alloc HB0.out.size (.cells #[.slice none 0 0, .string ⟨#[]⟩] 30))
    replace HRES := Lib.hid ((Below.heap_alloc _ (.cells #[.slice none 0 0, .string ⟨#[]⟩] 30) _ (Array.getElem?_eq_some_iff.1 HRES.out).1).trans HRES.out)
    replace HSZ := Lib.hid (Nat.le_trans HSZ.out (size_le_alloc _ (.cells #[.slice none 0 0, .string ⟨#[]⟩] 30)))
    have HN := HNn
    clear HNn
    generalize World.alloc (wD) (.cells #[.slice none 0 0, .string ⟨#[]⟩] 30) = w3 at *
    generalize (wD).heap.size = b6 at *
    refine hK _ _ ⟨_, fun _ h => h, ⟨HRA.out, HRB.out⟩, ?_⟩
    clear hK K
    try simp only [Act.put, List.setIfInBounds_toArray, List.set_cons_zero, List.set_cons_succ]
    refine wpG_seg [] [4] 3 (by kernel_rfl) (by intro c a d v w h; cases d <;> exact h) (by kernel_rfl) ⟨HRA.out, HRB.out⟩ ?_
    try simp only [maskRows]
    refine wpQuiet_nil ?_
    refine List.forall_mem_singleton.2 ?_
    refine segt_run rfl (by rfl) (fun K hK => ?_)
    go_simp
    refine (SP.out _ HB0.out).mono ?_
    rintro e w4 ⟨v3, rfl, ho3, hb⟩
    dsimp only
    have HSZo := Lib.hid HSZ.out
    have HBL := Lib.hid (Array.getElem?_eq_some_iff.1 HN.out).1
    have hNE := fun (b6 : Nat) (hl : b6 < w3.heap.size) (e : v3.ownBlock = some b6) => (absurd (ho3.lt b6 e).1 (Nat.not_le.2 hl) : False)
    replace HRA := Lib.hid ((hb.block _ (Array.getElem?_eq_some_iff.1 HRA.out).1).trans HRA.out)
    replace HRB := Lib.hid ((hb.block _ (Array.getElem?_eq_some_iff.1 HRB.out).1).trans HRB.out)
    replace HB0 := Lib.hid (HB0.out.trans (hb.mono HB0.out.size))
    replace HRES := Lib.hid ((hb.block _ (Array.getElem?_eq_some_iff.1 HRES.out).1).trans HRES.out)
    replace HSZ := Lib.hid (Nat.le_trans HSZ.out hb.size)
    replace HN := Lib.hid ((hb.block _ (Array.getElem?_eq_some_iff.1 HN.out).1).trans HN.out)
    replace HB6 := Lib.hid (HB6.out)
    have HNE := Lib.hid (hNE b6 HBL.out)
    clear hNE
    obtain ⟨a3, n3, k3, rfl⟩ := own_shape ho3
    have HO := Lib.hid (own_base ho3 HSZo.out)
    clear ho3 HSZo
    clear hb
    clear HBL
    refine hK _ _ ⟨_, fun _ h => h, ⟨HRA.out, HRB.out⟩, ?_⟩
    clear hK K
    try simp only [Act.put, List.setIfInBounds_toArray, List.set_cons_zero, List.set_cons_succ]
    refine wpG_seg [] [9] 2 (by kernel_rfl) (by intro c a d v w h; cases d <;> exact h) (by kernel_rfl) ⟨HRA.out, HRB.out⟩ ?_
    try simp only [maskRows]
    refine wpQuiet_nil ?_
    refine List.forall_mem_singleton.2 ?_
    refine segt_run rfl (by rfl) (fun K hK => ?_)
    go_simp
    refine (SX.out _).mono ?_
    rintro e w5 ⟨rfl, hb⟩
    dsimp only
    replace HRA := Lib.hid ((hb.block _ (Array.getElem?_eq_some_iff.1 HRA.out).1).trans HRA.out)
    replace HRB := Lib.hid ((hb.block _ (Array.getElem?_eq_some_iff.1 HRB.out).1).trans HRB.out)
    replace HB0 := Lib.hid (HB0.out.trans (hb.mono HB0.out.size))
    replace HRES := Lib.hid ((hb.block _ (Array.getElem?_eq_some_iff.1 HRES.out).1).trans HRES.out)
    replace HSZ := Lib.hid (Nat.le_trans HSZ.out hb.size)
    replace HN := Lib.hid ((hb.block _ (Array.getElem?_eq_some_iff.1 HN.out).1).trans HN.out)
    replace HB6 := Lib.hid (HB6.out)
    replace HO := Lib.hid (own_below HO.out hb)
    replace HNE := Lib.hid (HNE.out)
    clear hb
    refine hK _ _ ⟨_, fun _ h => h, ⟨HRA.out, HRB.out⟩, ?_⟩
    clear hK K
    try simp only [Act.put, List.setIfInBounds_toArray, List.set_cons_zero, List.set_cons_succ]
    refine wpG_seg [] [10] 1 (by kernel_rfl) (by intro c a d v w h; cases d <;> exact h) (by kernel_rfl) ⟨HRA.out, HRB.out⟩ ?_
    try simp only [maskRows]
    refine wpQuiet_nil ?_
    refine List.forall_mem_singleton.2 ?_
    refine segt_run rfl (by rfl) (fun K hK => ?_)
    go_simp
    refine hK _ _ ⟨_, fun _ h => h, ⟨HRA.out, HRB.out⟩, ?_⟩
    clear hK K
    try simp only [Act.put, List.setIfInBounds_toArray, List.set_cons_zero, List.set_cons_succ]
    refine wpG_seg [] [12] 0 (by kernel_rfl) (by intro c a d v w h; cases d <;> exact h) (by kernel_rfl) ⟨HRA.out, HRB.out⟩ ?_
    try simp only [maskRows]
    refine wpQuiet_nil ?_
    refine List.forall_mem_singleton.2 ?_
    have hb6 := HB6.out
    obtain ⟨c0, c1, f0, f1⟩ := row2_of HN.out
    have hlt := (Array.getElem?_eq_some_iff.1 HN.out).1
    have HN' := Lib.hid (set2 (.slice a3 n3 k3) (.string Y) HN.out)
    have HRA' := Lib.hid (row_set2 HRA.out (by omega : w.heap.size ≠ b6) (.slice a3 n3 k3) (.string Y))
    have HRB' := Lib.hid (row_set2 HRB.out (by omega : w.heap.size + 1 ≠ b6) (.slice a3 n3 k3) (.string Y))
    have HRES' := Lib.hid (row_set2 HRES.out (by omega : w.heap.size + 2 ≠ b6) (.slice a3 n3 k3) (.string Y))
    have HB0' := Lib.hid (below2 HB0.out (by omega : w.heap.size ≤ b6) (.slice a3 n3 k3) (.string Y))
    have HO' := Lib.hid (HO.out.kept (grown2 _ b6 (.slice a3 n3 k3) (.string Y)) (.inr HNE.out))
    have HSZ' := Lib.hid (Nat.le_trans HSZ.out (Nat.le_of_eq (size_set2 _ b6 (.slice a3 n3 k3) (.string Y)).symm))
    clear hb6
    refine segt_run rfl (by rfl) (fun K hK => ?_)
    go_simp
    replace HN := HN'
    replace HRA := HRA'
    replace HRB := HRB'
    replace HRES := HRES'
    replace HB0 := HB0'
    replace HO := HO'
    replace HSZ := HSZ'
    clear HN' HRA' HRB' HRES' HB0' HO' HSZ' c0 c1 f0 f1 hlt
    generalize (World.setCell (World.setCell w5 ⟨b6, 0, none⟩ (.slice a3 n3 k3)) ⟨b6, 1, none⟩ (.string Y)) = wS at *
    refine hK _ _ ⟨_, fun _ h => h, ⟨HRA.out, HRB.out⟩, ?_⟩
    clear hK K
    try simp only [Act.put, List.setIfInBounds_toArray, List.set_cons_zero, List.set_cons_succ]
    refine wpG_end [] (by kernel_rfl) (by intro c a d v w h; cases d <;> exact h) (by kernel_rfl) ⟨HRA.out, HRB.out⟩ ?_
    try simp only [maskRows]
    refine wpQuiet_nil ?_
    obtain ⟨x0, x1, -, -⟩ := row2_of HRA.out
    go_wp2_with fail
    refine (CA.out _ HB0.out).mono ?_
    rintro e wP ⟨rfl, hb⟩
    replace HRA := Lib.hid ((hb.block _ (Array.getElem?_eq_some_iff.1 HRA.out).1).trans HRA.out)
    replace HRB := Lib.hid ((hb.block _ (Array.getElem?_eq_some_iff.1 HRB.out).1).trans HRB.out)
    replace HB0 := Lib.hid (HB0.out.trans (hb.mono HB0.out.size))
    replace HRES := Lib.hid ((hb.block _ (Array.getElem?_eq_some_iff.1 HRES.out).1).trans HRES.out)
    replace HSZ := Lib.hid (Nat.le_trans HSZ.out hb.size)
    replace HO := Lib.hid (own_below HO.out hb)
    replace HN := Lib.hid ((hb.block _ (Array.getElem?_eq_some_iff.1 HN.out).1).trans HN.out)
    clear hb x0 x1 CA
    generalize codeOkB (A, ya) = okA at *
    cases okA with
    | false =>
      have HM := Lib.hid (nA rfl)
      clear nA nB nX nY
      obtain ⟨x0, x1, -, -⟩ := row2_of HN.out
      go_wp2_with fail
      refine (sblank_any _ _ _).mono ?_
      rintro e wB ⟨v2, rfl, ho2, hb⟩
      obtain ⟨a2, n2, k2, rfl⟩ := own_shape ho2
      have ho2 := own_base ho2 HSZ.out
      replace HRA := Lib.hid ((hb.block _ (Array.getElem?_eq_some_iff.1 HRA.out).1).trans HRA.out)
      replace HRB := Lib.hid ((hb.block _ (Array.getElem?_eq_some_iff.1 HRB.out).1).trans HRB.out)
      replace HB0 := Lib.hid (HB0.out.trans (hb.mono HB0.out.size))
      replace HRES := Lib.hid ((hb.block _ (Array.getElem?_eq_some_iff.1 HRES.out).1).trans HRES.out)
      replace HSZ := Lib.hid (Nat.le_trans HSZ.out hb.size)
      replace HO := Lib.hid (own_below HO.out hb)
      replace HN := Lib.hid ((hb.block _ (Array.getElem?_eq_some_iff.1 HN.out).1).trans HN.out)
      obtain ⟨c0, c1, f0, f1⟩ := row2_of HRES.out
      have hlt := (Array.getElem?_eq_some_iff.1 HRES.out).1
      have HF := Lib.hid (And.intro (cd_res HRES.out (.slice a2 n2 k2) z4) (And.intro (own_base (own_set2 ho2 (by omega : w.heap.size + 2 < w.heap.size + 3) (.slice a2 n2 k2) (.string z4)) (by omega : w.heap.size ≤ w.heap.size + 3)) (below2 HB0.out (by omega : w.heap.size ≤ w.heap.size + 2) (.slice a2 n2 k2) (.string z4))))
      clear hb ho2 HRA HRB HRES HO HB0 HN x0 x1
      go_wp2_with fail
      refine bodyPost_ret (v := .tuple #[.agg #[.slice a2 n2 k2, .string z4], .bool false]) ?_ rfl ⟨_, by rw [HM.out]; rfl, by rw [HM.out]; exact HF.out.2.1, HF.out.2.2⟩
      rw [results_cell_slot (p := 4) (u := 5) (ty := 30) (by kernel_rfl)]
      have l2 := HF.out.1
      simp [asAddr, Result.andThen, l2]
    | true =>
      obtain ⟨x0, x1, -, -⟩ := row2_of HRB.out
      go_wp2_with fail
      refine (CB.out _ HB0.out).mono ?_
      rintro e wQ ⟨rfl, hb⟩
      replace HRA := Lib.hid ((hb.block _ (Array.getElem?_eq_some_iff.1 HRA.out).1).trans HRA.out)
      replace HRB := Lib.hid ((hb.block _ (Array.getElem?_eq_some_iff.1 HRB.out).1).trans HRB.out)
      replace HB0 := Lib.hid (HB0.out.trans (hb.mono HB0.out.size))
      replace HRES := Lib.hid ((hb.block _ (Array.getElem?_eq_some_iff.1 HRES.out).1).trans HRES.out)
      replace HSZ := Lib.hid (Nat.le_trans HSZ.out hb.size)
      replace HO := Lib.hid (own_below HO.out hb)
      replace HN := Lib.hid ((hb.block _ (Array.getElem?_eq_some_iff.1 HN.out).1).trans HN.out)
      clear hb x0 x1 CB
      generalize codeOkB (B, yb) = okB at *
      cases okB with
      | false =>
        have HM := Lib.hid (nB rfl)
        clear nA nB nX nY
        obtain ⟨x0, x1, -, -⟩ := row2_of HN.out
        go_wp2_with fail
        refine (sblank_any _ _ _).mono ?_
        rintro e wB ⟨v2, rfl, ho2, hb⟩
        obtain ⟨a2, n2, k2, rfl⟩ := own_shape ho2
        have ho2 := own_base ho2 HSZ.out
        replace HRA := Lib.hid ((hb.block _ (Array.getElem?_eq_some_iff.1 HRA.out).1).trans HRA.out)
        replace HRB := Lib.hid ((hb.block _ (Array.getElem?_eq_some_iff.1 HRB.out).1).trans HRB.out)
        replace HB0 := Lib.hid (HB0.out.trans (hb.mono HB0.out.size))
        replace HRES := Lib.hid ((hb.block _ (Array.getElem?_eq_some_iff.1 HRES.out).1).trans HRES.out)
        replace HSZ := Lib.hid (Nat.le_trans HSZ.out hb.size)
        replace HO := Lib.hid (own_below HO.out hb)
        replace HN := Lib.hid ((hb.block _ (Array.getElem?_eq_some_iff.1 HN.out).1).trans HN.out)
        obtain ⟨c0, c1, f0, f1⟩ := row2_of HRES.out
        have hlt := (Array.getElem?_eq_some_iff.1 HRES.out).1
        have HF := Lib.hid (And.intro (cd_res HRES.out (.slice a2 n2 k2) z4) (And.intro (own_base (own_set2 ho2 (by omega : w.heap.size + 2 < w.heap.size + 3) (.slice a2 n2 k2) (.string z4)) (by omega : w.heap.size ≤ w.heap.size + 3)) (below2 HB0.out (by omega : w.heap.size ≤ w.heap.size + 2) (.slice a2 n2 k2) (.string z4))))
        clear hb ho2 HRA HRB HRES HO HB0 HN x0 x1
        go_wp2_with fail
        refine bodyPost_ret (v := .tuple #[.agg #[.slice a2 n2 k2, .string z4], .bool false]) ?_ rfl ⟨_, by rw [HM.out]; rfl, by rw [HM.out]; exact HF.out.2.1, HF.out.2.2⟩
        rw [results_cell_slot (p := 4) (u := 5) (ty := 30) (by kernel_rfl)]
        have l2 := HF.out.1
        simp [asAddr, Result.andThen, l2]
      | true =>
        obtain ⟨x0, x1, -, -⟩ := row2_of HN.out
        go_wp2_with fail
        refine (CX.out _ _ (keysAt_own HO.out) (by have h1 := hA6.out (by simp); have h2 := hB6.out (by simp); have h3 := HML.out; omega)).mono ?_
        rintro e wX ⟨rfl, hb⟩
        replace HRA := Lib.hid ((hb.block _ (Array.getElem?_eq_some_iff.1 HRA.out).1).trans HRA.out)
        replace HRB := Lib.hid ((hb.block _ (Array.getElem?_eq_some_iff.1 HRB.out).1).trans HRB.out)
        replace HB0 := Lib.hid (HB0.out.trans (hb.mono HB0.out.size))
        replace HRES := Lib.hid ((hb.block _ (Array.getElem?_eq_some_iff.1 HRES.out).1).trans HRES.out)
        replace HSZ := Lib.hid (Nat.le_trans HSZ.out hb.size)
        replace HO := Lib.hid (own_below HO.out hb)
        replace HN := Lib.hid ((hb.block _ (Array.getElem?_eq_some_iff.1 HN.out).1).trans HN.out)
        clear hb x0 x1 CX
        generalize codeOkB (M, Y) = okX at *
        cases okX with
        | false =>
          have HM := Lib.hid (nX rfl)
          clear nA nB nX nY
          obtain ⟨x0, x1, -, -⟩ := row2_of HN.out
          go_wp2_with fail
          refine (sblank_any _ _ _).mono ?_
          rintro e wB ⟨v2, rfl, ho2, hb⟩
          obtain ⟨a2, n2, k2, rfl⟩ := own_shape ho2
          have ho2 := own_base ho2 HSZ.out
          replace HRA := Lib.hid ((hb.block _ (Array.getElem?_eq_some_iff.1 HRA.out).1).trans HRA.out)
          replace HRB := Lib.hid ((hb.block _ (Array.getElem?_eq_some_iff.1 HRB.out).1).trans HRB.out)
          replace HB0 := Lib.hid (HB0.out.trans (hb.mono HB0.out.size))
          replace HRES := Lib.hid ((hb.block _ (Array.getElem?_eq_some_iff.1 HRES.out).1).trans HRES.out)
          replace HSZ := Lib.hid (Nat.le_trans HSZ.out hb.size)
          replace HO := Lib.hid (own_below HO.out hb)
          replace HN := Lib.hid ((hb.block _ (Array.getElem?_eq_some_iff.1 HN.out).1).trans HN.out)
          obtain ⟨c0, c1, f0, f1⟩ := row2_of HRES.out
          have hlt := (Array.getElem?_eq_some_iff.1 HRES.out).1
          have HF := Lib.hid (And.intro (cd_res HRES.out (.slice a2 n2 k2) z4) (And.intro (own_base (own_set2 ho2 (by omega : w.heap.size + 2 < w.heap.size + 3) (.slice a2 n2 k2) (.string z4)) (by omega : w.heap.size ≤ w.heap.size + 3)) (below2 HB0.out (by omega : w.heap.size ≤ w.heap.size + 2) (.slice a2 n2 k2) (.string z4))))
          clear hb ho2 HRA HRB HRES HO HB0 HN x0 x1
          go_wp2_with fail
          refine bodyPost_ret (v := .tuple #[.agg #[.slice a2 n2 k2, .string z4], .bool false]) ?_ rfl ⟨_, by rw [HM.out]; rfl, by rw [HM.out]; exact HF.out.2.1, HF.out.2.2⟩
          rw [results_cell_slot (p := 4) (u := 5) (ty := 30) (by kernel_rfl)]
          have l2 := HF.out.1
          simp [asAddr, Result.andThen, l2]
        | true =>
          have HM := Lib.hid (nY (by simp) (by simp) (by simp))
          clear nA nB nX nY
          obtain ⟨x0, x1, -, -⟩ := row2_of HN.out
          obtain ⟨c0, c1, f0, f1⟩ := row2_of HRES.out
          have hlt := (Array.getElem?_eq_some_iff.1 HRES.out).1
          have HF := Lib.hid (And.intro (cd_res HRES.out (.slice a3 n3 k3) Y) (And.intro (own_base (own_set2 HO.out (by omega : w.heap.size + 2 < w.heap.size + 3) (.slice a3 n3 k3) (.string Y)) (by omega : w.heap.size ≤ w.heap.size + 3)) (below2 HB0.out (by omega : w.heap.size ≤ w.heap.size + 2) (.slice a3 n3 k3) (.string Y))))
          clear HRA HRB HRES HO HB0 HN
          go_wp2_with fail
          refine bodyPost_ret (v := .tuple #[.agg #[.slice a3 n3 k3, .string Y], .bool true]) ?_ rfl ⟨_, by rw [HM.out], by rw [HM.out]; exact HF.out.2.1, HF.out.2.2⟩
          rw [results_cell_slot (p := 4) (u := 5) (ty := 30) (by kernel_rfl)]
          have l2 := HF.out.1
          simp [asAddr, Result.andThen, l2]
end Go.Proofs.Ytadjmfhhpkjpaaa
namespace Go.Proofs.Ytadjmfhhpkjpaaa
open Go.ChangeShapes Go.WideShapes Go.ChangeAt Go.RowKit
set_option linter.unusedVariables false

def atV (zs : List Int) (len i : Nat) : Int := if i < len then zs[i]?.getD 0 else ((i : Int) * 7 + len) % 256
theorem at_any (n₀ len cap : Nat) (a : Option Addr) (zs : List Int) (i : Nat) (w : World) (hc : CodeAt n₀ w a len zs) (hi : i ≤ 1000) :
    Calls Try.prog 18 #[.slice a len cap, .int .i64 i] w fun e w' => e = .returned (.int .i64 (atV zs len i)) ∧ w' = w := by
  obtain ⟨h1, h2, h3⟩ := hc
  by_cases hlt : i < len
  · have z0 : (0 : Int) ≤ (i : Int) := by omega
    have z1 : (i : Int) < (len : Int) := by omega
    obtain ⟨b, off, rfl, hb0, hcells⟩ := h3.resolve_left (by omega)
    have cz := hcells i hlt
    have hz := h2 i
    have hv : atV zs len i = zs[i]?.getD 0 := by unfold atV; rw [if_pos hlt]
    rw [hv]
    generalize zs[i]?.getD 0 = y at *
    clear hcells h2 hv
    go_enter Try.func18, Try.ntmps18
    go_wp2
    go_ret
    exact ⟨rfl, rfl⟩
  · have z1 : ¬ (i : Int) < (len : Int) := by omega
    have hv : atV zs len i = ((i : Int) * 7 + len) % 256 := by unfold atV; rw [if_neg hlt]
    rw [hv]
    have e1 : IntKind.i64.wrap ((i : Int) * 7) = (i : Int) * 7 := IntWalk.i64_in _ (by omega)
    have e2 : IntKind.i64.wrap ((i : Int) * 7 + (len : Int)) = (i : Int) * 7 + (len : Int) := IntWalk.i64_in _ (by omega)
    have e3 : ((i : Int) * 7 + (len : Int)).tmod 256 = ((i : Int) * 7 + (len : Int)) % 256 := Int.tmod_eq_emod_of_nonneg (by omega)
    clear h2 h3 hv
    go_enter Try.func18, Try.ntmps18
    go_wp2
    go_ret
    exact ⟨rfl, rfl⟩

end Go.Proofs.Ytadjmfhhpkjpaaa
namespace Go.Proofs.Ytadjmfhhpkjpaaa
open Go
section
variable {P : Program} {ops : Array Oper} {Q : Exit → Act → World → Prop} {md : Region.Mode} {S : World → Prop} {E : List Nat}
/-- an operation that each other stands ahead of or behind -/
def lastQ (md : Region.Mode) (ops : Array Oper) (E : List Nat) (i : Nat) : Prop := ∃ o, ops[i]? = some o ∧ ∀ k ok, ops[k]? = some ok → k ≠ i → k ∉ E → (∃ e ∈ o.after, Region.binds md e = true ∧ e.on = k) ∨ ∃ e ∈ ok.after, Region.binds md e = true ∧ e.on = i
def lastQB (md : Region.Mode) (ops : Array Oper) (E : List Nat) (i : Nat) : Bool := match ops[i]? with
  | some o => (List.range ops.size).all fun k => k == i || E.contains k || (o.after.any fun e => Region.binds md e && e.on == k) || (match ops[k]? with | some ok => ok.after.any fun e => Region.binds md e && e.on == i | none => false)
  | none => false
theorem lastQ_of {i : Nat} (h : lastQB md ops E i = true) : lastQ md ops E i := by
  unfold lastQB at h
  split at h
  · rename_i o ho
    refine ⟨o, ho, fun k ok hok hne hkE => ?_⟩
    have h1 := List.all_eq_true.1 h k (List.mem_range.2 (Array.getElem?_eq_some_iff.1 hok).1)
    rw [hok] at h1
    simp only [Bool.or_eq_true, beq_iff_eq] at h1
    rcases h1 with ((h1 | h1) | h1) | h1
    · exact absurd h1 hne
    · exact absurd (by simpa using h1) hkE
    · obtain ⟨j, hj, h2⟩ := Array.any_eq_true.1 h1
      simp only [Bool.and_eq_true, beq_iff_eq] at h2
      exact .inl ⟨_, Array.getElem_mem hj, h2.1, h2.2⟩
    · obtain ⟨j, hj, h2⟩ := Array.any_eq_true.1 h1
      simp only [Bool.and_eq_true, beq_iff_eq] at h2
      exact .inr ⟨_, Array.getElem_mem hj, h2.1, h2.2⟩
  · cases h
/-- whatever order is picked from here on; behind each operation a sharper condition holds, or any behind one that each other stands ahead of or behind -/
def wpL (P : Program) (md : Region.Mode) (ops : Array Oper) (Q : Exit → Act → World → Prop) (E : List Nat) : Nat → (World → Prop) → Array Bool → Act → World → Prop
  | 0, _, listed, a, w => Region.ready md ops listed = [] ∧ Q .normal a w
  | fuel + 1, S, listed, a, w =>
    (Region.ready md ops listed = [] → Q .normal a w) ∧
    ∀ i ∈ Region.ready md ops listed, wpOp P ops Q i (fun a' w' => ∃ S' : World → Prop, ((∀ x, S' x → S x) ∨ lastQ md ops E i) ∧ S' w' ∧ wpL P md ops Q E fuel S' (listed.setIfInBounds i true) a' w') a w

theorem wpAny_of_L : ∀ (fuel : Nat) (S : World → Prop) (listed : Array Bool) (a : Act) (w : World), wpL P md ops Q E fuel S listed a w → wpAny P md ops Q fuel listed a w
  | 0, _, _, _, _, h => h
  | fuel + 1, S, _, _, _, h => ⟨h.1, fun i hi => wpOp_mono (fun a' w' h' => by
      obtain ⟨S', _, _, h'⟩ := h'
      exact wpAny_of_L fuel S' _ a' w' h') (h.2 i hi)⟩

theorem wpL_first {i : Nat} {oi : Oper} {v : Value} (hiE : i ∉ E) (hi : ops[i]? = some oi) (hsel : ∀ (j : Nat) (o : Oper) cs b, ops[j]? = some o → o.op ≠ .select cs b)
    (hQ : ∀ c a w, Q (.panic c) (a.put oi.dst v) w → Q (.panic c) a w) :
    ∀ (fuel : Nat) (S : World → Prop) (listed : Array Bool) (a : Act) (w : World),
      (∀ j oj, ops[j]? = some oj → j ≠ i → listed.getD j true = false → (∀ e ∈ oj.after, Region.binds md e = true → e.on ≠ i) → oi.apart ops oj = true) →
      i ∈ Region.ready md ops listed → YieldsIf P ops S oi v a → S w →
      wpL P md ops Q E fuel S (listed.setIfInBounds i true) (a.put oi.dst v) w → wpL P md ops Q E (fuel + 1) S listed a w := by
  intro fuel
  induction fuel with
  | zero =>
    intro S listed a w _ hr hy hS H
    refine ⟨fun h => (by rw [h] at hr; cases hr), fun j hj => ?_⟩
    by_cases hji : j = i
    · subst hji; exact hy.wpOp hi hS ⟨S, .inl (fun _ h => h), hS, H⟩
    · have := ready_mono hj hji
      rw [H.1] at this
      cases this
  | succ fuel ih =>
    intro S listed a w hfree hr hy hS H
    refine ⟨fun h => (by rw [h] at hr; cases hr), fun j hj => ?_⟩
    by_cases hji : j = i
    · subst hji; exact hy.wpOp hi hS ⟨S, .inl (fun _ h => h), hS, H⟩
    · have h1 := H.2 j (ready_mono hj hji)
      obtain ⟨hjun, oj, hoj, hall⟩ := mem_ready.1 hj
      have hnot : ∀ e ∈ oj.after, Region.binds md e = true → e.on ≠ i := fun e he hb heq => by
        have h1 := hall e he hb
        have h0 := (mem_ready.1 hr).1
        rw [heq] at h1
        rcases Nat.lt_or_ge i listed.size with h' | h'
        · simp [h'] at h0 h1; rw [h0] at h1; cases h1
        · simp [Array.getElem?_eq_none h'] at h1
      have h2 := wpOp_putIf hoj (hfree j oj hoj hji hjun hnot) (fun cs b => hsel i oi cs b hi) (fun cs b => hsel j oj cs b hoj) hQ hy h1
      have hfree' : ∀ k ok, ops[k]? = some ok → k ≠ i → (listed.setIfInBounds j true).getD k true = false →
          (∀ e ∈ ok.after, Region.binds md e = true → e.on ≠ i) → oi.apart ops ok = true := fun k ok hk hki hun hno => by
        refine hfree k ok hk hki ?_ hno
        by_cases hjk : j = k
        · subst hjk; exact hjun
        · rw [getD_set_ne true hjk] at hun; exact hun
      refine wpOp_mono (fun a' w' h3 => ?_) h2
      obtain ⟨hy3, h3⟩ := h3
      obtain ⟨S', hs, hs2, h4⟩ := h3
      have hs : ∀ x, S' x → S x := by
        rcases hs with hs | ⟨o5, h5, h6⟩
        · exact hs
        · rw [hoj] at h5
          cases h5
          rcases h6 i oi hi (Ne.symm hji) hiE with ⟨e, he, hb, heq⟩ | ⟨e, he, hb, heq⟩
          · exact absurd heq (hnot e he hb)
          · obtain ⟨_, oi2, hoi2, hall2⟩ := mem_ready.1 hr
            rw [hi] at hoi2
            cases hoi2
            have h1 := hall2 e he hb
            rw [heq] at h1
            rcases Nat.lt_or_ge j listed.size with h' | h'
            · simp [h'] at hjun h1; rw [hjun] at h1; cases h1
            · simp [Array.getElem?_eq_none h'] at h1
      refine ⟨S', .inl hs, hs2, ih S' (listed.setIfInBounds j true) a' w' hfree' (ready_mono hr (Ne.symm hji)) (YieldsIf.sharper hs hy3) hs2 ?_⟩
      rw [Array.setIfInBounds_comm _ _ hji]
      exact h4

/-- none of those that are taken is an exception -/
def avoidB (E : List Nat) : List Bool → Nat → Bool
  | [], _ => true
  | b :: m, i => (!b || !E.contains i) && avoidB E m (i + 1)
theorem takes_L {l : List Oper} (hs : Region.noSelect l.toArray = true) (hQ : ∀ c a d v w, Q (.panic c) (Act.put a d v) w → Q (.panic c) a w) {S : World → Prop} {w : World} (hS : S w) {R : Act → Prop} :
    ∀ (m : List Bool) (i fuel : Nat) (listed : Array Bool) (a : Act), takesB md l m i listed = true → avoidB E m i = true → m.length + i ≤ l.length →
      (∀ a', R a' → wpL P md l.toArray Q E fuel S (takenL m i listed) a' w) → wpQuiet P l.toArray S R (maskRows m (l.drop i)) a → wpL P md l.toArray Q E (fuel + countT m) S listed a w
  | [], i, fuel, listed, a, _, _, _, hk, h => hk a (by simpa [maskRows, wpQuiet] using h)
  | false :: m, i, fuel, listed, a, hb, hav, hl, hk, h => by
    have hav : avoidB E m (i + 1) = true := by simpa [avoidB] using hav
    have hlt : i < l.length := by simp only [List.length_cons] at hl; omega
    rw [List.drop_eq_getElem_cons hlt] at h
    exact takes_L hs hQ hS m (i + 1) fuel listed a hb hav (by simp only [List.length_cons] at hl; omega) hk h
  | true :: m, i, fuel, listed, a, hb, hav, hl, hk, h => by
    have hav : i ∉ E ∧ avoidB E m (i + 1) = true := by simpa [avoidB] using hav
    have hlt : i < l.length := by simp only [List.length_cons] at hl; omega
    rw [List.drop_eq_getElem_cons hlt] at h
    simp only [takesB, Bool.and_eq_true] at hb
    obtain ⟨⟨⟨hv, hf⟩, hr⟩, hb⟩ := hb
    have ho : l.toArray[i]? = some l[i] := by simp [hlt]
    rw [show l[i]? = some l[i] from by simp [hlt]] at hv
    dsimp only at hv
    simp only [maskRows, wpQuiet] at h
    have hin : i ∈ Region.ready md l.toArray listed := by simpa using hr
    show wpL P md l.toArray Q E (fuel + countT m + 1) S listed a w
    by_cases hw : Region.wanted l[i] (yielded l.toArray a.tmps) = true
    · rw [if_pos hw] at h
      obtain ⟨v, h1, h2⟩ := h
      exact wpL_first hav.1 ho (Region.noSelect_spec hs) (fun c a w => hQ c a _ _ w) _ S listed a w (Region.free_spec ho hf) hin (yields_of_quiet hv hw h1) hS
        (takes_L hs hQ hS m (i + 1) fuel _ _ hb hav.2 (by simp only [List.length_cons] at hl; omega) hk h2)
    · rw [if_neg hw] at h
      exact wpL_first hav.1 ho (Region.noSelect_spec hs) (fun c a w => hQ c a _ _ w) _ S listed a w (Region.free_spec ho hf) hin (.inr ⟨by simpa using hw, rfl⟩) hS
        (takes_L hs hQ hS m (i + 1) fuel _ _ hb hav.2 (by simp only [List.length_cons] at hl; omega) hk h)
theorem wpL_done {listed : Array Bool} {a : Act} {w : World} (hr : Region.ready md ops listed = []) (h : Q .normal a w) : ∀ fuel, wpL P md ops Q E fuel S listed a w
  | 0 => ⟨hr, h⟩
  | _ + 1 => ⟨fun _ => h, by rw [hr]; simp⟩
/-- what reads is taken; then one after another of what is ready is tried -/
theorem wpL_seg {l : List Oper} (m : List Bool) (rd : List Nat) (fuel' : Nat) {fuel : Nat} {listed : Array Bool} {a : Act} {w : World} (hs : Region.noSelect l.toArray = true)
    (hQ : ∀ c a d v w, Q (.panic c) (Act.put a d v) w → Q (.panic c) a w) (hb : segtB md l m rd fuel fuel' listed = true) (hav : avoidB E m 0 = true) (hS : S w)
    (h : wpQuiet P l.toArray S (fun a' => ∀ i ∈ rd, wpOp P l.toArray Q i (fun a'' w'' => ∃ S' : World → Prop, ((∀ x, S' x → S x) ∨ lastQ md l.toArray E i) ∧ S' w'' ∧ wpL P md l.toArray Q E fuel' S' ((takenL m 0 listed).setIfInBounds i true) a'' w'') a' w) (maskRows m l) a) :
    wpL P md l.toArray Q E fuel S listed a w := by
  simp only [segtB, Bool.and_eq_true, decide_eq_true_eq, Bool.not_eq_true'] at hb
  obtain ⟨⟨⟨⟨h1, h2⟩, h3⟩, h4⟩, h5⟩ := hb
  subst h1
  refine takes_L (P := P) (md := md) hs hQ hS (R := fun a' => ∀ i ∈ rd, wpOp P l.toArray Q i (fun a'' w'' => ∃ S' : World → Prop, ((∀ x, S' x → S x) ∨ lastQ md l.toArray E i) ∧ S' w'' ∧ wpL P md l.toArray Q E fuel' S' ((takenL m 0 listed).setIfInBounds i true) a'' w'') a' w) m 0 (fuel' + 1) listed a h3 hav (by omega) (fun a' hq => ?_) (by simpa using h)
  refine ⟨fun h0 => (by rw [h4] at h0; rw [h0] at h5; cases h5), fun j hj => ?_⟩
  rw [h4] at hj
  exact hq j hj
theorem wpL_end {l : List Oper} (m : List Bool) {fuel : Nat} {listed : Array Bool} {a : Act} {w : World} (hs : Region.noSelect l.toArray = true)
    (hQ : ∀ c a d v w, Q (.panic c) (Act.put a d v) w → Q (.panic c) a w) (hb : segeB md l m fuel listed = true) (hav : avoidB E m 0 = true) (hS : S w)
    (h : wpQuiet P l.toArray S (fun a' => Q .normal a' w) (maskRows m l) a) : wpL P md l.toArray Q E fuel S listed a w := by
  simp only [segeB, Bool.and_eq_true, decide_eq_true_eq] at hb
  obtain ⟨⟨⟨h1, h2⟩, h3⟩, h4⟩ := hb
  have := takes_L (P := P) (md := md) hs hQ hS (R := fun a' => Q .normal a' w) m 0 (fuel - countT m) listed a h3 hav (by omega) (fun a' hq => wpL_done h4 hq _) (by simpa using h)
  rwa [Nat.sub_add_cancel h1] at this
theorem wp_region_L {id : Nat} {a : Act} {w : World} {l : List Oper} (E : List Nat) (S : World → Prop) (hm : P.follows .mixedOrders = true) (h : wpL P .any l.toArray Q E l.length S (Array.replicate l.length false) a w.drew) :
    (Code.region id l.toArray true).wp P Q a w := wp_region_any hm (wpAny_of_L _ _ _ _ _ (by simpa using h))
/-- one that is carried out -/
theorem segl_run {l : List Oper} {fuel : Nat} {listed : Array Bool} {i : Nat} {o : Oper} {a : Act} {w : World} (ho : l.toArray[i]? = some o) (hw : Region.wanted o (yielded l.toArray a.tmps) = true)
    (h : ∀ K : Act → World → Prop, (∀ a' w', (∃ S' : World → Prop, ((∀ x, S' x → S x) ∨ lastQ md l.toArray E i) ∧ S' w' ∧ wpL P md l.toArray Q E fuel S' listed a' w') → K a' w') → o.wp P a w K Q) :
    wpOp P l.toArray Q i (fun a'' w'' => ∃ S' : World → Prop, ((∀ x, S' x → S x) ∨ lastQ md l.toArray E i) ∧ S' w'' ∧ wpL P md l.toArray Q E fuel S' listed a'' w'') a w := by
  unfold wpOp
  simp only [ho, hw, if_true]
  exact .inl (h _ fun _ _ h => h)
end
end Go.Proofs.Ytadjmfhhpkjpaaa
