/- Rising lists of keys: what merging them makes (no program). -/
import Derived.Test.YtbkeggklfaepnaaKeyG
import Derived.Test.YtbkeggklfaepnaaKeySp
namespace Go.Proofs.Ytbkeggklfaepnaa

theorem ahead_iff (a b : K2) : aheadB a b = true ↔ (a.1 < b.1 ∨ (a.1 = b.1 ∧ a.2 < b.2)) := by
  unfold aheadB
  by_cases h : a.1 = b.1
  · rw [if_pos h]; simp; omega
  · rw [if_neg h]; simp; omega
theorem ahead_irrefl (a : K2) : aheadB a a = false := by
  cases h : aheadB a a with
  | false => rfl
  | true => rw [ahead_iff] at h; omega
theorem ahead_trans {a b c : K2} (h1 : aheadB a b = true) (h2 : aheadB b c = true) : aheadB a c = true := by
  rw [ahead_iff] at *; omega
theorem ahead_asymm {a b : K2} (h1 : aheadB a b = true) : aheadB b a = false := by
  cases h : aheadB b a with
  | false => rfl
  | true => rw [ahead_iff] at *; omega
theorem ahead_total {a b : K2} (h1 : aheadB a b = false) (h2 : aheadB b a = false) : a = b := by
  have n1 : ¬ aheadB a b = true := by rw [h1]; exact Bool.false_ne_true
  have n2 : ¬ aheadB b a = true := by rw [h2]; exact Bool.false_ne_true
  rw [ahead_iff] at n1 n2
  obtain ⟨x, y⟩ := a; obtain ⟨z, u⟩ := b
  simp only at n1 n2
  have e1 : x = z := by omega
  have e2 : y = u := by omega
  rw [e1, e2]
def Rising (l : List K2) : Prop := l.Pairwise fun a b => aheadB a b = true
theorem keysR_iff (ks : List K2) : keysOkR ks = true ↔ (∀ k ∈ ks, keyOkB k = true) ∧ Rising ks := by
  unfold keysOkR
  rw [List.all_eq_true]
  constructor
  · intro h
    have hs : ∀ i, i < ks.length → keyOkB (ks.getD i (0, 0)) = true ∧ (i = 0 ∨ aheadB (ks.getD (i - 1) (0, 0)) (ks.getD i (0, 0)) = true) := by
      intro i hi
      have := h i (List.mem_range.2 hi)
      simpa [stepB] using this
    refine ⟨fun k hk => ?_, ?_⟩
    · obtain ⟨i, hi, rfl⟩ := List.getElem_of_mem hk
      have := (hs i hi).1
      simpa [List.getD, hi] using this
    · have hd : ∀ d i, i + d + 1 < ks.length → aheadB (ks.getD i (0, 0)) (ks.getD (i + d + 1) (0, 0)) = true := by
        intro d
        induction d with
        | zero =>
          intro i hi
          have := (hs (i + 1) (by omega)).2.resolve_left (by omega)
          simpa using this
        | succ d ih =>
          intro i hi
          have h1 := ih i (by omega)
          have h2 := (hs (i + (d + 1) + 1) hi).2.resolve_left (by omega)
          rw [show i + (d + 1) + 1 - 1 = i + d + 1 by omega] at h2
          exact ahead_trans h1 h2
      unfold Rising
      rw [List.pairwise_iff_getElem]
      intro i j hi hj hij
      have := hd (j - i - 1) i (by omega)
      rw [show i + (j - i - 1) + 1 = j by omega] at this
      simpa [List.getD, hi, hj] using this
  · rintro ⟨h1, h2⟩ i hi
    have hi2 := List.mem_range.1 hi
    unfold stepB
    have e : ks.getD i (0, 0) = ks[i] := by simp [List.getD, hi2]
    rw [e, h1 _ (List.getElem_mem hi2)]
    by_cases h0 : i = 0
    · simp [h0]
    · have e2 : ks.getD (i - 1) (0, 0) = ks[i - 1] := by simp [List.getD, show i - 1 < ks.length by omega]
      rw [e2]
      unfold Rising at h2
      rw [List.pairwise_iff_getElem] at h2
      simp [h2 (i - 1) i (by omega) hi2 (by omega)]
/-- of two rising lists of the same keys one is the other -/
theorem rising_ext : ∀ (a b : List K2), Rising a → Rising b → (∀ k, k ∈ a ↔ k ∈ b) → a = b
  | [], [], _, _, _ => rfl
  | [], y :: b, _, _, h => by have := (h y).2 (by simp); simp at this
  | x :: a, [], _, _, h => by have := (h x).1 (by simp); simp at this
  | x :: a, y :: b, ha, hb, h => by
    have ha' := List.pairwise_cons.1 ha
    have hb' := List.pairwise_cons.1 hb
    have hxy : x = y := by
      rcases List.mem_cons.1 ((h x).1 (by simp)) with h1 | h1
      · exact h1
      · rcases List.mem_cons.1 ((h y).2 (by simp)) with h2 | h2
        · exact h2.symm
        · have e1 := hb'.1 x h1
          have e2 := ha'.1 y h2
          rw [ahead_asymm e1] at e2; cases e2
    subst hxy
    congr 1
    refine rising_ext a b ha'.2 hb'.2 fun k => ⟨fun hk => ?_, fun hk => ?_⟩
    · rcases List.mem_cons.1 ((h k).1 (by simp [hk])) with h1 | h1
      · subst h1
        have := ha'.1 k hk
        rw [ahead_irrefl] at this; cases this
      · exact h1
    · rcases List.mem_cons.1 ((h k).2 (by simp [hk])) with h1 | h1
      · subst h1
        have := hb'.1 k hk
        rw [ahead_irrefl] at this; cases this
      · exact h1
/-- what merging makes: rising, and of which keys -/
theorem merge_spec (both : Bool) : ∀ (a b : List K2), Rising a → Rising b → Rising (mergeL both a b) ∧ ∀ k, k ∈ mergeL both a b ↔ ((k ∈ a ∨ k ∈ b) ∧ (both = true ∨ ¬ (k ∈ a ∧ k ∈ b)))
  | a, [], ha, _ => by rw [mergeL_nil_r]; exact ⟨ha, fun k => by simp⟩
  | [], b, _, hb => by rw [mergeL_nil_l]; exact ⟨hb, fun k => by simp⟩
  | x :: a, y :: b, ha, hb => by
    have ha' := List.pairwise_cons.1 ha
    have hb' := List.pairwise_cons.1 hb
    rw [mergeL_cons]
    have nxa : x ∉ a := fun h => by have := ha'.1 x h; rw [ahead_irrefl] at this; cases this
    have nyb : y ∉ b := fun h => by have := hb'.1 y h; rw [ahead_irrefl] at this; cases this
    by_cases hxy : aheadB x y = true
    · rw [if_pos hxy]
      obtain ⟨r1, r2⟩ := merge_spec both a (y :: b) ha'.2 hb
      have hlow : ∀ z, z ∈ y :: b → aheadB x z = true := by
        intro z hz
        rcases List.mem_cons.1 hz with rfl | h
        · exact hxy
        · exact ahead_trans hxy (hb'.1 z h)
      have nxb : x ∉ y :: b := fun h => by have := hlow x h; rw [ahead_irrefl] at this; cases this
      refine ⟨List.pairwise_cons.2 ⟨fun z hz => ?_, r1⟩, fun k => ?_⟩
      · rcases ((r2 z).1 hz).1 with h | h
        · exact ha'.1 z h
        · exact hlow z h
      · rw [List.mem_cons, r2 k]
        by_cases hk : k = x
        · subst hk
          simp [nxb]
        · simp [hk]
    · rw [if_neg hxy]
      by_cases hyx : aheadB y x = true
      · rw [if_pos hyx]
        obtain ⟨r1, r2⟩ := merge_spec both (x :: a) b ha hb'.2
        have hlow : ∀ z, z ∈ x :: a → aheadB y z = true := by
          intro z hz
          rcases List.mem_cons.1 hz with rfl | h
          · exact hyx
          · exact ahead_trans hyx (ha'.1 z h)
        have nya : y ∉ x :: a := fun h => by have := hlow y h; rw [ahead_irrefl] at this; cases this
        refine ⟨List.pairwise_cons.2 ⟨fun z hz => ?_, r1⟩, fun k => ?_⟩
        · rcases ((r2 z).1 hz).1 with h | h
          · exact hlow z h
          · exact hb'.1 z h
        · rw [List.mem_cons, r2 k]
          by_cases hk : k = y
          · subst hk
            simp [nya]
          · simp [hk]
      · rw [if_neg hyx]
        have e := ahead_total (Bool.eq_false_iff.2 hxy) (Bool.eq_false_iff.2 hyx)
        subst e
        obtain ⟨r1, r2⟩ := merge_spec both a b ha'.2 hb'.2
        cases both with
        | true =>
          rw [if_pos rfl]
          refine ⟨List.pairwise_cons.2 ⟨fun z hz => ?_, r1⟩, fun k => ?_⟩
          · rcases ((r2 z).1 hz).1 with h | h
            · exact ha'.1 z h
            · exact hb'.1 z h
          · show k ∈ x :: mergeL true a b ↔ _
            rw [List.mem_cons, r2 k]
            by_cases hk : k = x <;> simp [hk]
        | false =>
          rw [if_neg (by decide), List.nil_append]
          refine ⟨r1, fun k => ?_⟩
          rw [r2 k]
          by_cases hk : k = x
          · subst hk
            simp [nxa, nyb]
          · simp [hk]
termination_by a b => a.length + b.length
theorem merge_ok (both : Bool) (a b : List K2) (ha : keysOkR a = true) (hb : keysOkR b = true) : keysOkR (mergeL both a b) = true := by
  rw [keysR_iff] at *
  obtain ⟨r1, r2⟩ := merge_spec both a b ha.2 hb.2
  refine ⟨fun k hk => ?_, r1⟩
  rcases ((r2 k).1 hk).1 with h | h
  · exact ha.1 k h
  · exact hb.1 k h
/-- the same keys, rising: the same list -/
theorem ok_ext {a b : List K2} (ha : keysOkR a = true) (hb : keysOkR b = true) (h : ∀ k, k ∈ a ↔ k ∈ b) : a = b :=
  rising_ext a b ((keysR_iff a).1 ha).2 ((keysR_iff b).1 hb).2 h
theorem merge_mem {both : Bool} {a b : List K2} (ha : keysOkR a = true) (hb : keysOkR b = true) (k : K2) : k ∈ mergeL both a b ↔ ((k ∈ a ∨ k ∈ b) ∧ (both = true ∨ ¬ (k ∈ a ∧ k ∈ b))) :=
  (merge_spec both a b ((keysR_iff a).1 ha).2 ((keysR_iff b).1 hb).2).2 k
theorem parted_back {a b : List K2} (ha : keysOkR a = true) (hb : keysOkR b = true) : mergeL false (mergeL false a b) b = a := by
  have hp := merge_ok false a b ha hb
  refine ok_ext (merge_ok false _ b hp hb) ha fun k => ?_
  rw [merge_mem hp hb, merge_mem ha hb]
  by_cases h1 : k ∈ a <;> by_cases h2 : k ∈ b <;> simp [h1, h2]
theorem merge_comm (both : Bool) {a b : List K2} (ha : keysOkR a = true) (hb : keysOkR b = true) : mergeL both b a = mergeL both a b := by
  refine ok_ext (merge_ok both b a hb ha) (merge_ok both a b ha hb) fun k => ?_
  rw [merge_mem hb ha, merge_mem ha hb]
  by_cases h1 : k ∈ a <;> by_cases h2 : k ∈ b <;> simp [h1, h2]
theorem parted_self {a : List K2} (ha : keysOkR a = true) : mergeL false a a = [] := by
  have hn : keysOkR ([] : List K2) = true := rfl
  refine ok_ext (merge_ok false a a ha ha) hn fun k => ?_
  rw [merge_mem ha ha]
  simp
theorem joined_again {a b : List K2} (ha : keysOkR a = true) (hb : keysOkR b = true) : mergeL true (mergeL true a b) b = mergeL true a b := by
  have hp := merge_ok true a b ha hb
  refine ok_ext (merge_ok true _ b hp hb) hp fun k => ?_
  rw [merge_mem hp hb, merge_mem ha hb]
  by_cases h1 : k ∈ a <;> by_cases h2 : k ∈ b <;> simp [h1, h2]
/-- how many there are: those of both stand in a and in b -/
theorem merge_count : ∀ (a b : List K2), Rising a → Rising b →
    (mergeL true a b).length + (a.filter fun x => decide (x ∈ b)).length = a.length + b.length ∧ (mergeL false a b).length + 2 * (a.filter fun x => decide (x ∈ b)).length = a.length + b.length
  | a, [], _, _ => by
    have : (a.filter fun x => decide (x ∈ ([] : List K2))) = [] := List.filter_eq_nil_iff.2 (by simp)
    rw [mergeL_nil_r, mergeL_nil_r, this]; simp
  | [], b, _, _ => by rw [mergeL_nil_l, mergeL_nil_l]; simp
  | x :: a, y :: b, ha, hb => by
    have ha' := List.pairwise_cons.1 ha
    have hb' := List.pairwise_cons.1 hb
    rw [mergeL_cons, mergeL_cons]
    by_cases hxy : aheadB x y = true
    · rw [if_pos hxy, if_pos hxy]
      obtain ⟨r1, r2⟩ := merge_count a (y :: b) ha'.2 hb
      have nxb : x ∉ y :: b := fun h => by
        rcases List.mem_cons.1 h with rfl | h
        · rw [ahead_irrefl] at hxy; cases hxy
        · have := ahead_trans hxy (hb'.1 x h); rw [ahead_irrefl] at this; cases this
      rw [List.filter_cons_of_neg (by simpa using nxb)]
      simp only [List.length_cons] at *
      omega
    · rw [if_neg hxy, if_neg hxy]
      by_cases hyx : aheadB y x = true
      · rw [if_pos hyx, if_pos hyx]
        obtain ⟨r1, r2⟩ := merge_count (x :: a) b ha hb'.2
        have he : ((x :: a).filter fun z => decide (z ∈ y :: b)) = (x :: a).filter fun z => decide (z ∈ b) := by
          apply List.filter_congr
          intro z hz
          have hzy : z ≠ y := by
            rintro rfl
            rcases List.mem_cons.1 hz with rfl | h
            · rw [ahead_irrefl] at hyx; cases hyx
            · have := ahead_trans hyx (ha'.1 z h); rw [ahead_irrefl] at this; cases this
          simp [hzy]
        rw [he]
        simp only [List.length_cons] at *
        omega
      · rw [if_neg hyx, if_neg hyx]
        have e := ahead_total (Bool.eq_false_iff.2 hxy) (Bool.eq_false_iff.2 hyx)
        subst e
        obtain ⟨r1, r2⟩ := merge_count a b ha'.2 hb'.2
        have he : (a.filter fun z => decide (z ∈ x :: b)) = a.filter fun z => decide (z ∈ b) := by
          apply List.filter_congr
          intro z hz
          have hzx : z ≠ x := by
            rintro rfl
            have := ha'.1 z hz; rw [ahead_irrefl] at this; cases this
          simp [hzx]
        rw [List.filter_cons_of_pos (by simp), he]
        simp only [if_true, Bool.false_eq_true, if_false, List.length_append, List.length_cons, List.length_nil] at *
        omega
termination_by a b => a.length + b.length
end Go.Proofs.Ytbkeggklfaepnaa
