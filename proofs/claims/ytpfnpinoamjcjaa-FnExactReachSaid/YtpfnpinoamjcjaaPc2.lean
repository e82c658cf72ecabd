/- What the laws lean on (own lemmas and walks of the called functions). -/
import Derived.Test.YtpfnpinoamjcjaaPc1
set_option linter.unusedVariables false
set_option linter.unusedSimpArgs false
namespace Go.Proofs.Ytpfnpinoamjcjaa
open Go.RowKit Go.ChangeShapes Go.WideShapes Go.ChangeAt
set_option linter.unusedVariables false
set_option maxRecDepth 100000 in
set_option maxHeartbeats 1000000 in
theorem sameints_self (va vb : Value) (A : List Int) (w : World) (ha : inAt w va A) (hb : inAt w vb A) (hn : A.length ≤ 4000000) :
    Calls Try.prog 25 #[va, vb] w fun e w' => e = .returned (.bool true) ∧ Below w.heap.size w w' := by
  obtain ⟨a1, c1, rfl, hc1, h1⟩ := ha
  obtain ⟨a2, c2, rfl, hc2, h2⟩ := hb
  generalize hN : A.length = n at *
  rcases Nat.eq_zero_or_pos n with rfl | hp
  · clear h1 h2
    go_enter Try.func25, Try.ntmps25
    go_wp2
    go_loopw [5] (fun i wr => i = .int .i64 0 ∧ wr = w) (fun _ _ => 0)
    case atStart => exact ⟨rfl, rfl⟩
    case round =>
      obtain ⟨rfl, rfl⟩ := hrel
      go_wp2
      go_ret
      exact ⟨rfl, Below.refl _ _⟩
  · obtain ⟨g1, o1, rfl, l1, h1⟩ := h1.resolve_left (by omega)
    obtain ⟨g2, o2, rfl, l2, h2⟩ := h2.resolve_left (by omega)
    go_enter Try.func25, Try.ntmps25
    go_wp2
    go_loopw [5] (fun i wr => ∃ (k : Nat), k ≤ n ∧ i = .int .i64 k ∧ Below w.heap.size w wr)
      (fun i _ => n - (intOf i).toNat)
    case atStart => exact ⟨0, Nat.zero_le _, rfl, Below.refl _ _⟩
    case round =>
      obtain ⟨k, hk, rfl, hbr⟩ := hrel
      by_cases hlt : k < n
      · have z0 : (0 : Int) ≤ (k : Int) := by omega
        have z1 : (k : Int) < (n : Int) := by omega
        have d1 := (hbr.cell (p := ⟨g1, o1 + k, none⟩) l1).trans (h1 k hlt)
        have d2 := (hbr.cell (p := ⟨g2, o2 + k, none⟩) l2).trans (h2 k hlt)
        have R := Lib.hid hbr
        clear h1 h2 hbr
        generalize A[k]?.getD 0 = x at *
        go_wp2
        go_region
        go_wp2
        exact ⟨⟨k + 1, by omega, by go_num, R.out.drew⟩, by simp [intOf] <;> omega⟩
      · obtain rfl : k = n := by omega
        clear h1 h2
        go_wp2
        go_ret
        exact ⟨rfl, hbr⟩
end Go.Proofs.Ytpfnpinoamjcjaa
namespace Go.Proofs.Ytpfnpinoamjcjaa
open Go.ChangeShapes Go.WideShapes Go.ChangeAt Go.RowKit Go.BigFrame
set_option linter.unusedVariables false
set_option linter.unusedSimpArgs false

theorem mem_near {ks : List K2} {x y : Int} : y ∈ nearM ks x ↔ lnsB ks = true ∧ ∃ k ∈ ks, nrF x k = some y := by
  unfold nearM
  split
  · rename_i h
    rw [List.mem_filterMap]
    exact ⟨fun e => ⟨h, e⟩, fun e => e.2⟩
  · rename_i h
    exact ⟨fun e => by simp at e, fun e => absurd e.1 h⟩
theorem nrF_sym {k : K2} {x y : Int} (hk : lnB k = true) (h : nrF x k = some y) : nrF y k = some x ∧ k = lnOf x y ∧ x ≠ y := by
  have hl := ((lnB_iff k).1 hk).2.1
  obtain ⟨p, q⟩ := k
  dsimp only at hl
  unfold nrF at *
  dsimp only at *
  split at h
  · rename_i h1
    cases h
    subst h1
    refine ⟨by rw [if_neg (by omega), if_pos rfl], ?_, by omega⟩
    unfold lnOf
    rw [if_neg (by omega)]
  · split at h
    · rename_i h1 h2
      cases h
      subst h2
      refine ⟨by rw [if_pos rfl], ?_, by omega⟩
      unfold lnOf
      rw [if_pos (by omega)]
    · cases h
theorem near_sym {ks : List K2} {x y : Int} (h : y ∈ nearM ks x) : x ∈ nearM ks y ∧ 0 ≤ atL ks x y := by
  obtain ⟨h1, k, hk, h2⟩ := mem_near.1 h
  obtain ⟨h3, h4, h5⟩ := nrF_sym (((lns_iff ks).1 h1).2.1 k hk) h2
  refine ⟨mem_near.2 ⟨h1, k, hk, h3⟩, ?_⟩
  rcases firstP_cases (fun k => k == lnOf x y) ks with ⟨-, h6⟩ | ⟨j, hj, h6, -⟩
  · have := h6 k hk
    rw [h4] at this
    simp at this
  · unfold atL
    rw [h6]
    omega
theorem near_rising (ks : List K2) (x : Int) : IRis (nearM ks x) := by
  unfold nearM
  split
  · rename_i h
    exact nr_rising h x
  · exact List.Pairwise.nil
end Go.Proofs.Ytpfnpinoamjcjaa
namespace Go.Proofs.Ytpfnpinoamjcjaa

inductive Rch (ks : List K2) (a : Int) : Int → Prop
  | refl : Rch ks a a
  | step {x y : Int} : Rch ks a x → y ∈ nearM ks x → Rch ks a y
theorem Rch.trans {ks : List K2} {a b c : Int} (h1 : Rch ks a b) (h2 : Rch ks b c) : Rch ks a c := by
  induction h2 with
  | refl => exact h1
  | step _ hy ih => exact ih.step hy
theorem Rch.one {ks : List K2} {a b : Int} (h : b ∈ nearM ks a) : Rch ks a b := Rch.refl.step h
theorem Rch.symm {ks : List K2} {a b : Int} (h : Rch ks a b) : Rch ks b a := by
  induction h with
  | refl => exact .refl
  | step _ hy ih => exact (Rch.one (near_sym hy).1).trans ih
/-- the answer: rising, all that can be come to but itself -/
def RL (ks : List K2) (id : Int) (L : List Int) : Prop := IRis L ∧ ∀ y, y ∈ L ↔ (y ≠ id ∧ Rch ks id y)
theorem RL.ext {ks : List K2} {id : Int} {L M : List Int} (h : RL ks id L) (k : RL ks id M) : L = M := iris_ext L M h.1 k.1 fun y => (h.2 y).trans (k.2 y).symm
theorem near_in {ks : List K2} {x y : Int} (h : y ∈ nearM ks x) : 0 ≤ y ∧ y ≤ 20 := by
  obtain ⟨h1, k, hk, h2⟩ := mem_near.1 h
  have hl := (lnB_iff k).1 (((lns_iff ks).1 h1).2.1 k hk)
  unfold nrF at h2
  split at h2
  · cases h2; omega
  · split at h2
    · cases h2; omega
    · cases h2
theorem Rch.in {ks : List K2} {a y : Int} (h : Rch ks a y) (hne : y ≠ a) : 0 ≤ y ∧ y ≤ 20 := by
  cases h with
  | refl => exact absurd rfl hne
  | step _ hy => exact near_in hy
theorem foldput_ok : ∀ (l acc : List Int), IRis acc → IRis (l.foldl putF acc) ∧ ∀ y, y ∈ l.foldl putF acc ↔ y ∈ acc ∨ y ∈ l
  | [], acc, h => ⟨h, fun y => by simp⟩
  | x :: r, acc, h => by
    obtain ⟨h1, h2⟩ := putF_ok h x
    obtain ⟨h3, h4⟩ := foldput_ok r (putF acc x) h1
    refine ⟨h3, fun y => ?_⟩
    rw [List.foldl_cons, h4, h2, List.mem_cons]
    constructor
    · rintro ((h | h) | h)
      · exact .inr (.inl h)
      · exact .inl h
      · exact .inr (.inr h)
    · rintro (h | h | h)
      · exact .inl (.inr h)
      · exact .inl (.inl h)
      · exact .inr h
theorem ints21_mem (y : Int) : y ∈ (List.range 21).map (fun n : Nat => (n : Int)) ↔ 0 ≤ y ∧ y ≤ 20 := by
  rw [List.mem_map]
  constructor
  · rintro ⟨n, hn, rfl⟩
    have := List.mem_range.1 hn
    omega
  · intro h
    exact ⟨y.toNat, List.mem_range.2 (by omega), by omega⟩
open Classical in
theorem reach_exists (ks : List K2) (id : Int) : ∃ L, RL ks id L := by
  obtain ⟨h1, h2⟩ := foldput_ok (((List.range 21).map (fun n : Nat => (n : Int))).filter fun y => decide (y ≠ id ∧ Rch ks id y)) [] List.Pairwise.nil
  refine ⟨_, h1, fun y => ?_⟩
  rw [h2, List.mem_filter, decide_eq_true_eq]
  constructor
  · rintro (h | ⟨-, h⟩)
    · simp at h
    · exact h
  · intro h
    exact .inr ⟨(ints21_mem y).2 (h.2.in h.1), h⟩
theorem nodup_len21 : ∀ (n : Nat) (L : List Int), L.Nodup → (∀ y ∈ L, 0 ≤ y ∧ y < (n : Int)) → L.length ≤ n
  | 0, L, _, h => by
    cases L with
    | nil => simp
    | cons x r => have := h x (by simp); omega
  | n + 1, L, hn, h => by
    have h1 := nodup_len21 n (L.filter fun y => decide (y < (n : Int))) (List.Pairwise.filter _ hn) (fun y hy => by
      rw [List.mem_filter, decide_eq_true_eq] at hy
      exact ⟨(h y hy.1).1, hy.2⟩)
    have h2 : L.length ≤ (L.filter fun y => decide (y < (n : Int))).length + 1 := by
      clear h1
      induction L with
      | nil => simp
      | cons x r ih =>
        obtain ⟨hx, hr⟩ := List.nodup_cons.1 hn
        have h3 := h x (by simp)
        by_cases h4 : x < (n : Int)
        · rw [List.filter_cons_of_pos (by simpa using h4)]
          have := ih hr (fun y hy => h y (by simp [hy]))
          simp only [List.length_cons]
          omega
        · have e : r.filter (fun y => decide (y < (n : Int))) = r := by
            rw [List.filter_eq_self]
            intro y hy
            have := h y (by simp [hy])
            have hne : y ≠ x := fun e => hx (e ▸ hy)
            simp
            omega
          rw [List.filter_cons_of_neg (by simpa using h4), e]
          simp
    omega
theorem reach_few {ks : List K2} {id : Int} {L : List Int} (hn : L.Nodup) (h : ∀ y ∈ L, Rch ks id y) : L.length ≤ 22 := by
  have h1 : (L.filter fun y => decide (y ≠ id)).length ≤ 21 := nodup_len21 21 _ (List.Pairwise.filter _ hn) (fun y hy => by
    rw [List.mem_filter, decide_eq_true_eq] at hy
    have := (h y hy.1).in hy.2
    omega)
  have h2 : L.length ≤ (L.filter fun y => decide (y ≠ id)).length + 1 := by
    clear h1 h
    induction L with
    | nil => simp
    | cons x r ih =>
      obtain ⟨hx, hr⟩ := List.nodup_cons.1 hn
      by_cases h4 : x = id
      · have e : r.filter (fun y => decide (y ≠ id)) = r := by
          rw [List.filter_eq_self]
          intro y hy
          have hne : y ≠ x := fun e => hx (e ▸ hy)
          simpa [← h4] using hne
        rw [List.filter_cons_of_neg (by simpa using h4), e]
        simp
      · rw [List.filter_cons_of_pos (by simpa using h4)]
        have := ih hr
        simp only [List.length_cons]
        omega
  omega
theorem RL.len {ks : List K2} {id : Int} {L : List Int} (h : RL ks id L) : L.length ≤ 22 :=
  reach_few (ks := ks) (id := id) (h.1.imp fun {a b} hab => by omega) fun y hy => ((h.2 y).1 hy).2
/-- what is closed holds all that can be come to -/
theorem closed_all {ks : List K2} {id : Int} {S : List Int} (h0 : id ∈ S) (hc : ∀ x ∈ S, ∀ y ∈ nearM ks x, y ∈ S) {y : Int} (h : Rch ks id y) : y ∈ S := by
  induction h with
  | refl => exact h0
  | step _ hy ih => exact hc _ ih _ hy
end Go.Proofs.Ytpfnpinoamjcjaa
namespace Go.Proofs.Ytpfnpinoamjcjaa
open Go.RowKit
set_option linter.unusedVariables false

/-- number i for number j, and number j for number i -/
def swpL (xs : List Int) (i j : Nat) : List Int := (xs.set i (xs[j]?.getD 0)).set j (xs[i]?.getD 0)
theorem swpL_len (xs : List Int) (i j : Nat) : (swpL xs i j).length = xs.length := by simp [swpL]
theorem swpL_get (xs : List Int) (i j k : Nat) (hi : i < xs.length) (hj : j < xs.length) :
    (swpL xs i j)[k]?.getD 0 = if k = j then xs[i]?.getD 0 else if k = i then xs[j]?.getD 0 else xs[k]?.getD 0 := by
  unfold swpL
  rw [List.getElem?_set, List.getElem?_set]
  by_cases h1 : k = j
  · subst h1; simp [hj]
  · by_cases h2 : k = i
    · subst h2; rw [if_neg (by omega), if_pos rfl]; simp [hi, h1]
    · rw [if_neg (by omega), if_neg (by omega)]; simp [h1, h2]
end Go.Proofs.Ytpfnpinoamjcjaa
namespace Go.Proofs.Ytpfnpinoamjcjaa
open Go.ChangeShapes Go.WideShapes Go.ChangeAt Go.RowKit Go.BigFrame
set_option linter.unusedVariables false
set_option linter.unusedSimpArgs false

/-- all old blocks are as they were, but those of X -/
structure KeepX (X : Nat → Prop) (w w' : World) : Prop where
  os : w'.os = w.os
  tape : w'.tape = w.tape
  output : w'.output = w.output
  size : w.heap.size ≤ w'.heap.size
  block : ∀ k, k < w.heap.size → ¬ X k → w'.heap[k]? = w.heap[k]?
theorem KeepX.refl (X : Nat → Prop) (w : World) : KeepX X w w := ⟨rfl, rfl, rfl, Nat.le_refl _, fun _ _ _ => rfl⟩
theorem KeepX.trans {X : Nat → Prop} {a b c : World} (h : KeepX X a b) (k : KeepX X b c) : KeepX X a c :=
  ⟨k.os.trans h.os, k.tape.trans h.tape, k.output.trans h.output, Nat.le_trans h.size k.size, fun j hj hx => (k.block j (Nat.lt_of_lt_of_le hj h.size) hx).trans (h.block j hj hx)⟩
theorem KeepX.below {X : Nat → Prop} {a b : World} (h : Below a.heap.size a b) : KeepX X a b := ⟨h.os, h.tape, h.output, h.size, fun k hk _ => h.block k hk⟩
theorem KeepX.grown {X : Nat → Prop} {a b : World} {row : Option Nat} (h : a.grownBy b row) (hx : ∀ k, row = some k → X k) : KeepX X a b := ⟨h.os, h.tape, h.output, h.size, fun k hk hn => h.block k hk (fun e => hn (hx k e.symm))⟩
/-- new blocks, and blocks of X that are not old for base -/
theorem KeepX.set {X : Nat → Prop} {a b : World} (h : KeepX X a b) (k i : Nat) (v : Value) (hx : X k) : KeepX X a (b.setCell ⟨k, i, none⟩ v) := h.trans (KeepX.grown (Lib.grownBy_setCell b k i v) (fun j e => Option.some.inj e ▸ hx))
theorem KeepX.toBelow {X : Nat → Prop} {B : Nat} {w0 a b : World} (h : KeepX X a b) (h0 : Below B w0 a) (hB : B ≤ a.heap.size) (hx : ∀ k, X k → B ≤ k) : Below B w0 b :=
  ⟨h.os.trans h0.os, h.tape.trans h0.tape, h.output.trans h0.output, Nat.le_trans h0.size h.size, fun k hk => (h.block k (Nat.lt_of_lt_of_le hk hB) (fun x => by have := hx k x; omega)).trans (h0.block k hk)⟩
theorem own_block {w w' : World} {base n : Nat} {e : TypeId} {size : Nat} {v : Value} {xs : List Value} (h : w.ownsRow base e size v n xs) (hb : ∀ g, v.ownBlock = some g → w'.heap[g]? = w.heap[g]?) : w'.ownsRow base e size v n xs := by
  refine ⟨h.1, ?_⟩
  rcases h.2 with h1 | ⟨g, cap, cur, rfl, h2, h3, h4, h5, h6⟩
  · exact .inl h1
  · exact .inr ⟨g, cap, cur, rfl, h2, (hb g rfl).trans h3, h4, h5, h6⟩
theorem KeepX.own {X : Nat → Prop} {w w' : World} (h : KeepX X w w') {base n : Nat} {e : TypeId} {size : Nat} {v : Value} {xs : List Value} (ho : w.ownsRow base e size v n xs) (hx : ∀ g, v.ownBlock = some g → ¬ X g) : w'.ownsRow base e size v n xs :=
  own_block ho fun g hg => h.block g (ho.lt g hg).2 (hx g hg)
theorem KeepX.row {X : Nat → Prop} {w w' : World} (h : KeepX X w w') {b : Nat} {o : Obj} (hr : w.heap[b]? = some o) (hx : ¬ X b) : w'.heap[b]? = some o := (h.block b (Array.getElem?_eq_some_iff.1 hr).1 hx).trans hr
end Go.Proofs.Ytpfnpinoamjcjaa
namespace Go.Proofs.Ytpfnpinoamjcjaa
open Go.RowKit
set_option linter.unusedVariables false

/-- the first n of them exchanged among themselves -/
def SwN (n : Nat) (H H' : List Int) : Prop := H'.length = H.length ∧ (∀ y, y ∈ H'.take n ↔ y ∈ H.take n) ∧ H'.drop n = H.drop n
theorem SwN.refl (n : Nat) (H : List Int) : SwN n H H := ⟨rfl, fun _ => Iff.rfl, rfl⟩
theorem SwN.trans {n : Nat} {A B C : List Int} (h : SwN n A B) (k : SwN n B C) : SwN n A C := ⟨k.1.trans h.1, fun y => (k.2.1 y).trans (h.2.1 y), k.2.2.trans h.2.2⟩
theorem mem_ix {l : List Int} {y : Int} : y ∈ l ↔ ∃ k, k < l.length ∧ l[k]?.getD 0 = y := by
  constructor
  · intro h
    obtain ⟨k, hk, rfl⟩ := List.getElem_of_mem h
    exact ⟨k, hk, by simp [hk]⟩
  · rintro ⟨k, hk, rfl⟩
    simp [hk]
theorem swp_mem {l : List Int} {i j : Nat} (hi : i < l.length) (hj : j < l.length) (y : Int) : y ∈ swpL l i j ↔ y ∈ l := by
  rw [mem_ix, mem_ix]
  rw [swpL_len]
  constructor
  · rintro ⟨k, hk, h⟩
    rw [swpL_get l i j k hi hj] at h
    split at h
    · exact ⟨i, hi, h⟩
    · split at h
      · exact ⟨j, hj, h⟩
      · exact ⟨k, hk, h⟩
  · rintro ⟨k, hk, h⟩
    by_cases h1 : k = i
    · exact ⟨j, hj, by rw [swpL_get l i j j hi hj, if_pos rfl, ← h1]; exact h⟩
    · by_cases h2 : k = j
      · refine ⟨i, hi, ?_⟩
        rw [swpL_get l i j i hi hj]
        by_cases h3 : i = j
        · rw [if_pos h3, h3, ← h2]; exact h
        · rw [if_neg h3, if_pos rfl, ← h2]; exact h
      · exact ⟨k, hk, by rw [swpL_get l i j k hi hj, if_neg h2, if_neg h1]; exact h⟩
theorem swp_swn {n : Nat} {l : List Int} {i j : Nat} (hn : n ≤ l.length) (hi : i < n) (hj : j < n) : SwN n l (swpL l i j) := by
  have ht : (swpL l i j).take n = swpL (l.take n) i j := by
    unfold swpL
    rw [List.take_set, List.take_set]
    congr 2
    · congr 1
      rw [List.getElem?_take_of_lt hj]
    · rw [List.getElem?_take_of_lt hi]
  have hl : (l.take n).length = n := by rw [List.length_take]; omega
  refine ⟨swpL_len _ _ _, fun y => ?_, ?_⟩
  · rw [ht]
    exact swp_mem (by omega) (by omega) y
  · unfold swpL
    rw [List.drop_set_of_lt hj, List.drop_set_of_lt hi]
theorem SwN.all {l l' : List Int} {n : Nat} (h : SwN n l l') (hn : n = l.length) (y : Int) : y ∈ l' ↔ y ∈ l := by
  have := h.2.1 y
  rwa [List.take_of_length_le (by rw [h.1]; omega), List.take_of_length_le (by omega)] at this
/-- the first and the last exchanged, those ahead of the last mixed: the last is one of them, the others are the rest -/
theorem pop_mem {H H2 : List Int} {m : Nat} (hl : H.length = m + 1) (h : SwN m (swpL H 0 m) H2) : H2.length = m + 1 ∧ ∀ y, y ∈ H ↔ y = H2[m]?.getD 0 ∨ y ∈ H2.take m := by
  have hl1 : (swpL H 0 m).length = m + 1 := by rw [swpL_len, hl]
  have hl2 : H2.length = m + 1 := h.1.trans hl1
  refine ⟨hl2, fun y => ?_⟩
  have hlast : H2[m]?.getD 0 = (swpL H 0 m)[m]?.getD 0 := by
    have h1 : (H2.drop m)[0]? = ((swpL H 0 m).drop m)[0]? := by rw [h.2.2]
    rw [List.getElem?_drop, List.getElem?_drop, Nat.add_zero] at h1
    rw [h1]
  rw [hlast, h.2.1 y, ← swp_mem (l := H) (i := 0) (j := m) (by omega) (by omega) y]
  generalize swpL H 0 m = S at *
  have e : S = S.take m ++ [S[m]?.getD 0] := by
    have h2 : S.drop m = [S[m]?.getD 0] := by
      rw [List.drop_eq_getElem_cons (by omega), List.drop_eq_nil_of_le (by omega)]
      simp [show m < S.length by omega]
    rw [← h2, List.take_append_drop]
  constructor
  · intro hy
    rw [e, List.mem_append, List.mem_singleton] at hy
    exact hy.symm
  · intro hy
    rw [e, List.mem_append, List.mem_singleton]
    exact hy.symm
/-- the heap in its box B, its numbers in v's row -/
structure HpS (b0 : Nat) (w : World) (B : Nat) (v : Value) (H : List Int) : Prop where
  box : w.heap[B]? = some (.cells #[v] 79 (0, 0))
  own : w.ownsRow b0 3 1 v H.length (intsV H)
  ne : v.ownBlock ≠ some B
theorem HpS.next {b0 : Nat} {w w1 : World} {B : Nat} {v : Value} {H : List Int} (h : HpS b0 w B v H) (hb : Below w.heap.size w w1) : HpS b0 w1 B v H :=
  ⟨(hb.block _ (Array.getElem?_eq_some_iff.1 h.box).1).trans h.box, own_below h.own hb, h.ne⟩
theorem HpS.keep {b0 : Nat} {w w1 : World} {B : Nat} {v : Value} {H : List Int} {X : Nat → Prop} (h : HpS b0 w B v H) (hk : KeepX X w w1) (h1 : ¬ X B) (h2 : ∀ b, v.ownBlock = some b → ¬ X b) : HpS b0 w1 B v H :=
  ⟨hk.row h.box h1, hk.own h.own h2, h.ne⟩
theorem HpS.shape {b0 : Nat} {w : World} {B : Nat} {v : Value} {H : List Int} (h : HpS b0 w B v H) : ∃ a c, v = .slice a H.length c := by
  rcases ownsRow_shape0 h.own with ⟨rfl, h0⟩ | ⟨g, c, rfl⟩
  · exact ⟨none, 0, by rw [h0]⟩
  · exact ⟨_, c, rfl⟩
theorem HpS.cell {b0 : Nat} {w : World} {B : Nat} {v : Value} {H : List Int} (h : HpS b0 w B v H) : w.cell? ⟨B, 0, none⟩ = some v ∧ w.frozen? ⟨B, 0, none⟩ = false := ⟨by rw [cell_of_row _ _ _ _ _ _ h.box]; rfl, frozen_of_row _ _ _ _ _ h.box⟩
end Go.Proofs.Ytpfnpinoamjcjaa
namespace Go.Proofs.Ytpfnpinoamjcjaa
open Go.ChangeShapes Go.WideShapes Go.ChangeAt Go.RowKit Go.BigFrame
set_option linter.unusedVariables false
set_option linter.unusedSimpArgs false

abbrev hpV (B : Nat) : Value := .iface 78 (.pointer (some ⟨B, 0, none⟩))
theorem hlen_any (a : Option Addr) (n c : Nat) (w : World) : Calls Try.prog 69 #[.slice a n c] w fun e w' => e = .returned (.int .i64 n) ∧ w' = w := by
  go_enter Try.func69, Try.ntmps69
  go_wp2
  go_ret
  exact ⟨rfl, rfl⟩
theorem hp_cell {w : World} {b0 g n cap : Nat} {H : List Int} (h : w.ownsRow b0 3 1 (.slice (some ⟨g, 0, none⟩) n cap) n (intsV H)) (j : Nat) (hj : j < n) : w.cell? ⟨g, j, none⟩ = some (.int .i64 (H[j]?.getD 0)) ∧ w.frozen? ⟨g, j, none⟩ = false :=
  ⟨own_int h j hj, (own_cell h j (by have := h.1; rw [intsV_len] at this; omega)).2⟩
set_option maxRecDepth 100000 in
theorem hless_any (b0 g cap i j : Nat) (H : List Int) (w : World) (h : w.ownsRow b0 3 1 (.slice (some ⟨g, 0, none⟩) H.length cap) H.length (intsV H)) (hi : i < H.length) (hj : j < H.length) (hs : H.length ≤ 1000000) :
    Calls Try.prog 101 #[.slice (some ⟨g, 0, none⟩) H.length cap, .int .i64 i, .int .i64 j] w fun e w' => (∃ b, e = .returned (.bool b)) ∧ Below w.heap.size w w' := by
  obtain ⟨c1, -⟩ := hp_cell h i hi
  obtain ⟨c2, -⟩ := hp_cell h j hj
  generalize H[i]?.getD 0 = x at *
  generalize H[j]?.getD 0 = y at *
  generalize H.length = n at *
  have z0 : (0 : Int) ≤ (i : Int) := by omega
  have z1 : (i : Int) < (n : Int) := by omega
  have z2 : (0 : Int) ≤ (j : Int) := by omega
  have z3 : (j : Int) < (n : Int) := by omega
  clear h
  go_enter Try.func101, Try.ntmps101
  go_wp2
  go_region
  go_wp2
  go_ret
  exact ⟨⟨_, rfl⟩, (Below.refl _ _).drew⟩
set_option maxRecDepth 100000 in
set_option maxHeartbeats 2000000 in
theorem hswap_any (b0 g cap i j : Nat) (H : List Int) (w : World) (h : w.ownsRow b0 3 1 (.slice (some ⟨g, 0, none⟩) H.length cap) H.length (intsV H)) (hi : i < H.length) (hj : j < H.length) (hs : H.length ≤ 1000000) :
    Calls Try.prog 104 #[.slice (some ⟨g, 0, none⟩) H.length cap, .int .i64 i, .int .i64 j] w fun e w' => e = .returned (.tuple #[]) ∧ w'.ownsRow b0 3 1 (.slice (some ⟨g, 0, none⟩) H.length cap) H.length (intsV (swpL H i j)) ∧ w.grownBy w' (some g) := by
  obtain ⟨s1, s2⟩ := hp_cell h i hi
  obtain ⟨s3, s4⟩ := hp_cell h j hj
  have st := (h.stored i (.int .i64 (H[j]?.getD 0))).1.stored j (.int .i64 (H[i]?.getD 0))
  rw [intsV_set, intsV_set] at st
  have hgr := grownT (Lib.grownBy_setCell w g i (.int .i64 (H[j]?.getD 0))) (Lib.grownBy_setCell (w.setCell ⟨g, i, none⟩ (.int .i64 (H[j]?.getD 0))) g j (.int .i64 (H[i]?.getD 0)))
  have R := Lib.hid (And.intro st.1 hgr)
  obtain ⟨v1, hv1⟩ := cell?_setCell_some (w := w) (p := ⟨g, i, none⟩) (x := .int .i64 (H[j]?.getD 0)) (q := ⟨g, j, none⟩) (v := .int .i64 (H[j]?.getD 0)) s3
  have HS := Lib.hid (show (H.set i (H[j]?.getD 0)).set j (H[i]?.getD 0) = swpL H i j from rfl)
  generalize swpL H i j = S at *
  generalize H[i]?.getD 0 = x at *
  generalize H[j]?.getD 0 = y at *
  have HL := Lib.hid h.1
  generalize H.length = n at *
  have z0 : (0 : Int) ≤ (i : Int) := by omega
  have z1 : (i : Int) < (n : Int) := by omega
  have z2 : (0 : Int) ≤ (j : Int) := by omega
  have z3 : (j : Int) < (n : Int) := by omega
  clear h st hgr
  go_enter Try.func104, Try.ntmps104
  go_wp2
  go_region
  go_wp2
  go_end0
  exact ⟨rfl, by rw [← HS.out]; exact R.out.1.drew, grownT R.out.2 ⟨rfl, rfl, rfl, Nat.le_refl _, fun _ _ _ => rfl⟩⟩
end Go.Proofs.Ytpfnpinoamjcjaa
namespace Go.Proofs.Ytpfnpinoamjcjaa
open Go.ChangeShapes Go.WideShapes Go.ChangeAt Go.RowKit Go.BigFrame
set_option linter.unusedVariables false
set_option linter.unusedSimpArgs false

theorem hp_load {w : World} {B : Nat} {v : Value} (h : w.cell? ⟨B, 0, none⟩ = some v) : (loadVar 79 ⟨B, 0, none⟩).run Try.prog w = .ok v w := load_oneQ (fun w => by simp [isAgg, underlying, Try.underlying79]) h
theorem wrapchk (t ty : TypeId) (a : Addr) (x y : String) (w : World) : (Builtin.ssaWrapNilChk_ #[t] ty #[.pointer (some a), strVal x, strVal y]).run Try.prog w = .ok (.pointer (some a)) w := rfl
theorem hmeth (name : String) (f : FuncId) (hm : ((Try.prog.info? 78).bind fun i => (i.methods.find? fun m => m.name == name).map fun m => (m.path, m.func)) = some (#[], some (f, false))) (n B : Nat) (v : Value) (w : World) (hn : 0 < n) (h : w.cell? ⟨B, 0, none⟩ = some v) :
    (method n 78 (.pointer (some ⟨B, 0, none⟩)) name).run Try.prog w = .ok (f, v) w := by
  obtain ⟨k, rfl⟩ : ∃ k, n = k + 1 := ⟨n - 1, by omega⟩
  have hu : Try.prog.underlying 78 = some (.pointer 79) := Try.underlying78
  rw [Option.bind_eq_some_iff] at hm
  obtain ⟨i, h1, h2⟩ := hm
  rw [Option.map_eq_some_iff] at h2
  obtain ⟨m, h3, h4⟩ := h2
  have h5 := congrArg Prod.fst h4
  have h6 := congrArg Prod.snd h4
  dsimp only at h5 h6
  have hl := hp_load h
  simp [method, typeInfo, h1, h3, h5, h6, follow, receiverAt, run_underlying hu, Place.get, wrapchk, asAddr, hl, Result.andThen]
theorem hmethP (name : String) (f : FuncId) (hm : ((Try.prog.info? 78).bind fun i => (i.methods.find? fun m => m.name == name).map fun m => (m.path, m.func)) = some (#[], some (f, true))) (n B : Nat) (w : World) (hn : 0 < n) :
    (method n 78 (.pointer (some ⟨B, 0, none⟩)) name).run Try.prog w = .ok (f, .pointer (some ⟨B, 0, none⟩)) w := by
  obtain ⟨k, rfl⟩ : ∃ k, n = k + 1 := ⟨n - 1, by omega⟩
  have hu : Try.prog.underlying 78 = some (.pointer 79) := Try.underlying78
  rw [Option.bind_eq_some_iff] at hm
  obtain ⟨i, h1, h2⟩ := hm
  rw [Option.map_eq_some_iff] at h2
  obtain ⟨m, h3, h4⟩ := h2
  have h5 := congrArg Prod.fst h4
  have h6 := congrArg Prod.snd h4
  dsimp only at h5 h6
  simp [method, typeInfo, h1, h3, h5, h6, follow, receiverAt, run_underlying hu, Place.get, Result.andThen]
theorem hm_len (n B : Nat) (v : Value) (w : World) (hn : 0 < n) (h : w.cell? ⟨B, 0, none⟩ = some v) : (method n 78 (.pointer (some ⟨B, 0, none⟩)) "Len").run Try.prog w = .ok (69, v) w := hmeth "Len" _ (by kernel_rfl) n B v w hn h
theorem hm_less (n B : Nat) (v : Value) (w : World) (hn : 0 < n) (h : w.cell? ⟨B, 0, none⟩ = some v) : (method n 78 (.pointer (some ⟨B, 0, none⟩)) "Less").run Try.prog w = .ok (101, v) w := hmeth "Less" _ (by kernel_rfl) n B v w hn h
theorem hm_swap (n B : Nat) (v : Value) (w : World) (hn : 0 < n) (h : w.cell? ⟨B, 0, none⟩ = some v) : (method n 78 (.pointer (some ⟨B, 0, none⟩)) "Swap").run Try.prog w = .ok (104, v) w := hmeth "Swap" _ (by kernel_rfl) n B v w hn h
theorem hm_pop (n B : Nat) (w : World) (hn : 0 < n) : (method n 78 (.pointer (some ⟨B, 0, none⟩)) "Pop").run Try.prog w = .ok (102, .pointer (some ⟨B, 0, none⟩)) w := hmethP "Pop" _ (by kernel_rfl) n B w hn
theorem hm_push (n B : Nat) (w : World) (hn : 0 < n) : (method n 78 (.pointer (some ⟨B, 0, none⟩)) "Push").run Try.prog w = .ok (103, .pointer (some ⟨B, 0, none⟩)) w := hmethP "Push" _ (by kernel_rfl) n B w hn
end Go.Proofs.Ytpfnpinoamjcjaa
namespace Go.Proofs.Ytpfnpinoamjcjaa
open Go.ChangeShapes Go.WideShapes Go.ChangeAt Go.RowKit Go.BigFrame
set_option linter.unusedVariables false
set_option linter.unusedSimpArgs false

/-- the heap between the steps of up and down: exchanges among the first m alone, in its own row -/
structure HpT (b0 : Nat) (w w' : World) (B : Nat) (v : Value) (m : Nat) (H H' : List Int) : Prop where
  hp : HpS b0 w' B v H'
  sw : SwN m H H'
  gr : w.grownBy w' v.ownBlock
theorem HpT.start {b0 : Nat} {w : World} {B : Nat} {v : Value} {H : List Int} (m : Nat) (h : HpS b0 w B v H) : HpT b0 w w B v m H H := ⟨h, .refl _ _, World.grownBy.refl _ _⟩
theorem HpT.next {b0 : Nat} {w w1 w2 : World} {B : Nat} {v : Value} {m : Nat} {H H' : List Int} (h : HpT b0 w w1 B v m H H') (hb : Below w1.heap.size w1 w2) : HpT b0 w w2 B v m H H' :=
  ⟨h.hp.next hb, h.sw, grownT h.gr (grown_of_below' hb _)⟩
theorem HpT.len {b0 : Nat} {w w' : World} {B : Nat} {v : Value} {m : Nat} {H H' : List Int} (h : HpT b0 w w' B v m H H') : H'.length = H.length := h.sw.1
theorem HpT.swap {b0 : Nat} {w w1 w2 : World} {B g cap : Nat} {m n i j : Nat} {H H' : List Int} (h : HpT b0 w w1 B (.slice (some ⟨g, 0, none⟩) n cap) m H H') (hm : m ≤ H'.length) (hi : i < m) (hj : j < m)
    (ho : w2.ownsRow b0 3 1 (.slice (some ⟨g, 0, none⟩) n cap) H'.length (intsV (swpL H' i j))) (hg : w1.grownBy w2 (some g)) : HpT b0 w w2 B (.slice (some ⟨g, 0, none⟩) n cap) m H (swpL H' i j) :=
  ⟨⟨(hg.block B (Array.getElem?_eq_some_iff.1 h.hp.box).1 (fun e => h.hp.ne e.symm)).trans h.hp.box, by rw [swpL_len]; exact ho, h.hp.ne⟩, h.sw.trans (swp_swn hm hi hj), grownT h.gr hg⟩
set_option maxRecDepth 100000 in
set_option maxHeartbeats 4000000 in
theorem hup_any (b0 B j0 : Nat) (v : Value) (H : List Int) (w : World) (h : HpS b0 w B v H) (hj : j0 < H.length) (hs : H.length ≤ 1000) :
    Calls Try.prog 81 #[hpV B, .int .i64 j0] w fun e w' => e = .returned (.tuple #[]) ∧ ∃ H', HpT b0 w w' B v H.length H H' := by
  obtain ⟨g, cap, hv⟩ := ownsRow_shape1 h.own (by omega)
  subst hv
  have HT0 := Lib.hid (HpT.start H.length h)
  clear h
  go_enter Try.func81, Try.ntmps81
  go_wp2
  go_loopw [1] (fun jv wr => ∃ (j : Nat) (H' : List Int), jv = .int .i64 j ∧ j < H.length ∧ HpT b0 w wr B (.slice (some ⟨g, 0, none⟩) H.length cap) H.length H H') (fun jv _ => (intOf jv).toNat)
  case atStart => exact ⟨j0, H, rfl, hj, HT0.out⟩
  case round =>
    obtain ⟨j, H', rfl, hjl, hT⟩ := hrel
    have HT := Lib.hid hT
    clear hT HT0 hj
    have hl := HT.out.len
    by_cases hj0 : j = 0
    · subst hj0
      have e1 : IntKind.i64.wrap (((0 : Nat) : Int) - 1) = -1 := rfl
      have e2 : ((-1 : Int)).tdiv 2 = 0 := rfl
      go_wp2
      go_end0
      exact ⟨rfl, _, HT.out⟩
    · obtain ⟨i, hi⟩ : ∃ i, i = (j - 1) / 2 := ⟨_, rfl⟩
      have e1 : IntKind.i64.wrap ((j : Int) - 1) = (j : Int) - 1 := IntWalk.i64_in _ (by omega)
      have e2 : ((j : Int) - 1).tdiv 2 = (i : Int) := by rw [Int.tdiv_eq_ediv_of_nonneg (by omega)]; omega
      have e3 : IntKind.i64.wrap (i : Int) = (i : Int) := IntWalk.i64_in _ (by omega)
      have hij : i < j := by omega
      have d1 : ¬ (i : Int) = (j : Int) := by omega
      have hbx := HT.out.hp.cell.1
      have hMl := fun n hn => hm_less n B (.slice (some ⟨g, 0, none⟩) H.length cap) wr hn hbx
      have HLS := Lib.hid (hless_any b0 g cap j i H' wr (by rw [hl]; have := HT.out.hp.own; rwa [hl] at this) (by omega) (by omega) (by omega))
      rw [hl] at HLS
      clear hi
      go_wp2_with fail
      refine HLS.out.mono ?_
      rintro e w2 ⟨⟨b, rfl⟩, hb2⟩
      have HT2 := Lib.hid (HT.out.next hb2)
      clear hb2 HLS hMl hbx HT
      cases b with
      | false =>
        go_wp2
        go_end0
        exact ⟨rfl, _, HT2.out⟩
      | true =>
        have hbx2 := HT2.out.hp.cell.1
        have hMs := fun n hn => hm_swap n B (.slice (some ⟨g, 0, none⟩) H.length cap) w2 hn hbx2
        have HSW := Lib.hid (hswap_any b0 g cap i j H' w2 (by rw [hl]; have := HT2.out.hp.own; rwa [hl] at this) (by omega) (by omega) (by omega))
        rw [hl] at HSW
        go_wp2_with fail
        refine HSW.out.mono ?_
        rintro e w3 ⟨rfl, ho3, hg3⟩
        have HT3 := Lib.hid (HT2.out.swap (i := i) (j := j) (by omega) (by omega) hjl (by rw [hl]; exact ho3) hg3)
        clear ho3 hg3 HSW hMs hbx2 HT2
        go_wp2
        exact ⟨⟨i, _, rfl, by omega, HT3.out⟩, by simp [intOf]; omega⟩
set_option maxRecDepth 100000 in
set_option maxHeartbeats 4000000 in
theorem hdown_any (b0 B n : Nat) (v : Value) (H : List Int) (w : World) (h : HpS b0 w B v H) (hn : n < H.length) (hs : H.length ≤ 1000) :
    Calls Try.prog 76 #[hpV B, .int .i64 0, .int .i64 n] w fun e w' => (∃ b, e = .returned (.bool b)) ∧ ∃ H', HpT b0 w w' B v n H H' := by
  obtain ⟨g, cap, hv⟩ := ownsRow_shape1 h.own (by omega)
  subst hv
  have HT0 := Lib.hid (HpT.start n h)
  clear h
  go_enter Try.func76, Try.ntmps76
  go_wp2
  go_loopw [7] (fun iv wr => ∃ (i : Nat) (H' : List Int), iv = .int .i64 i ∧ (i = 0 ∨ i < n) ∧ HpT b0 w wr B (.slice (some ⟨g, 0, none⟩) H.length cap) n H H') (fun iv _ => n - (intOf iv).toNat)
  case atStart => exact ⟨0, H, rfl, .inl rfl, HT0.out⟩
  case round =>
    obtain ⟨i, H', rfl, hin, hT⟩ := hrel
    have HT := Lib.hid hT
    clear hT HT0
    have hl := HT.out.len
    have e0 : IntKind.i64.wrap (2 * (i : Int)) = 2 * (i : Int) := IntWalk.i64_in _ (by omega)
    have e1 : IntKind.i64.wrap (2 * (i : Int) + 1) = ((2 * i + 1 : Nat) : Int) := by rw [IntWalk.i64_in _ (by omega)]; omega
    obtain ⟨j, hj⟩ : ∃ j, j = 2 * i + 1 := ⟨_, rfl⟩
    rw [← hj] at e1
    by_cases hjn : n ≤ j
    · have d1 : (n : Int) ≤ (j : Int) := by omega
      clear hj
      go_wp2
      go_ret
      exact ⟨⟨_, rfl⟩, _, HT.out⟩
    · have d1 : ¬ (n : Int) ≤ (j : Int) := by omega
      have d2 : ¬ (j : Int) < 0 := by omega
      have e2 : IntKind.i64.wrap ((j : Int) + 1) = ((j + 1 : Nat) : Int) := by rw [IntWalk.i64_in _ (by omega)]; omega
      have hij : i < j := by omega
      have hown := Lib.hid (show wr.ownsRow b0 3 1 (.slice (some ⟨g, 0, none⟩) H'.length cap) H'.length (intsV H') by rw [hl]; have := HT.out.hp.own; rwa [hl] at this)
      have hbx := HT.out.hp.cell.1
      have hMl := fun n hn => hm_less n B (.slice (some ⟨g, 0, none⟩) H.length cap) wr hn hbx
      clear hj
      by_cases hj2 : j + 1 < n
      · have d3 : ((j + 1 : Nat) : Int) < (n : Int) := by omega
        have HLS := Lib.hid (hless_any b0 g cap (j + 1) j H' wr hown.out (by omega) (by omega) (by omega))
        rw [hl] at HLS
        go_wp2_with fail
        refine HLS.out.mono ?_
        rintro e w2 ⟨⟨b, rfl⟩, hb2⟩
        have HT2 := Lib.hid (HT.out.next hb2)
        clear hb2 HLS hMl hbx HT hown
        have hown := Lib.hid (show w2.ownsRow b0 3 1 (.slice (some ⟨g, 0, none⟩) H'.length cap) H'.length (intsV H') by rw [hl]; have := HT2.out.hp.own; rwa [hl] at this)
        have hbx := HT2.out.hp.cell.1
        have hMl := fun n hn => hm_less n B (.slice (some ⟨g, 0, none⟩) H.length cap) w2 hn hbx
        cases b with
        | true =>
          have HLT := Lib.hid (hless_any b0 g cap (j + 1) i H' w2 hown.out (by omega) (by omega) (by omega))
          rw [hl] at HLT
          go_wp2_with fail
          refine HLT.out.mono ?_
          rintro e w4 ⟨⟨b, rfl⟩, hb4⟩
          have HT4 := Lib.hid (HT2.out.next hb4)
          clear hb4 HLT hMl hbx hown
          cases b with
          | false =>
            go_wp2
            go_ret
            exact ⟨⟨_, rfl⟩, _, HT4.out⟩
          | true =>
            have hbx4 := HT4.out.hp.cell.1
            have hMs := fun n hn => hm_swap n B (.slice (some ⟨g, 0, none⟩) H.length cap) w4 hn hbx4
            have HSW := Lib.hid (hswap_any b0 g cap i (j + 1) H' w4 (by rw [hl]; have := HT4.out.hp.own; rwa [hl] at this) (by omega) (by omega) (by omega))
            rw [hl] at HSW
            go_wp2_with fail
            refine HSW.out.mono ?_
            rintro e w5 ⟨rfl, ho5, hg5⟩
            have HT5 := Lib.hid (HT4.out.swap (i := i) (j := j + 1) (by omega) (by omega) (by omega) (by rw [hl]; exact ho5) hg5)
            clear ho5 hg5 HSW hMs hbx4 HT4
            go_wp2
            exact ⟨⟨j + 1, _, rfl, .inr (by omega), HT5.out⟩, by simp [intOf]; omega⟩
        | false =>
          have HLT := Lib.hid (hless_any b0 g cap (j) i H' w2 hown.out (by omega) (by omega) (by omega))
          rw [hl] at HLT
          go_wp2_with fail
          refine HLT.out.mono ?_
          rintro e w4 ⟨⟨b, rfl⟩, hb4⟩
          have HT4 := Lib.hid (HT2.out.next hb4)
          clear hb4 HLT hMl hbx hown
          cases b with
          | false =>
            go_wp2
            go_ret
            exact ⟨⟨_, rfl⟩, _, HT4.out⟩
          | true =>
            have hbx4 := HT4.out.hp.cell.1
            have hMs := fun n hn => hm_swap n B (.slice (some ⟨g, 0, none⟩) H.length cap) w4 hn hbx4
            have HSW := Lib.hid (hswap_any b0 g cap i (j) H' w4 (by rw [hl]; have := HT4.out.hp.own; rwa [hl] at this) (by omega) (by omega) (by omega))
            rw [hl] at HSW
            go_wp2_with fail
            refine HSW.out.mono ?_
            rintro e w5 ⟨rfl, ho5, hg5⟩
            have HT5 := Lib.hid (HT4.out.swap (i := i) (j := j) (by omega) (by omega) (by omega) (by rw [hl]; exact ho5) hg5)
            clear ho5 hg5 HSW hMs hbx4 HT4
            go_wp2
            exact ⟨⟨j, _, rfl, .inr (by omega), HT5.out⟩, by simp [intOf]; omega⟩
      · have d3 : ¬ ((j + 1 : Nat) : Int) < (n : Int) := by omega
        have HLT := Lib.hid (hless_any b0 g cap (j) i H' wr hown.out (by omega) (by omega) (by omega))
        rw [hl] at HLT
        go_wp2_with fail
        refine HLT.out.mono ?_
        rintro e w4 ⟨⟨b, rfl⟩, hb4⟩
        have HT4 := Lib.hid (HT.out.next hb4)
        clear hb4 HLT hMl hbx hown
        cases b with
        | false =>
          go_wp2
          go_ret
          exact ⟨⟨_, rfl⟩, _, HT4.out⟩
        | true =>
          have hbx4 := HT4.out.hp.cell.1
          have hMs := fun n hn => hm_swap n B (.slice (some ⟨g, 0, none⟩) H.length cap) w4 hn hbx4
          have HSW := Lib.hid (hswap_any b0 g cap i (j) H' w4 (by rw [hl]; have := HT4.out.hp.own; rwa [hl] at this) (by omega) (by omega) (by omega))
          rw [hl] at HSW
          go_wp2_with fail
          refine HSW.out.mono ?_
          rintro e w5 ⟨rfl, ho5, hg5⟩
          have HT5 := Lib.hid (HT4.out.swap (i := i) (j := j) (by omega) (by omega) (by omega) (by rw [hl]; exact ho5) hg5)
          clear ho5 hg5 HSW hMs hbx4 HT4
          go_wp2
          exact ⟨⟨j, _, rfl, .inr (by omega), HT5.out⟩, by simp [intOf]; omega⟩
end Go.Proofs.Ytpfnpinoamjcjaa
namespace Go.Proofs.Ytpfnpinoamjcjaa
open Go
section
variable {P : Program} {ops : Array Oper} {Q : Exit → Act → World → Prop} {md : Region.Mode} {S : World → Prop} {E : List Nat}
/-- an operation that each other stands ahead of or behind -/
def lastQ (md : Region.Mode) (ops : Array Oper) (E : List Nat) (i : Nat) : Prop := ∃ o, ops[i]? = some o ∧ ∀ k ok, ops[k]? = some ok → k ≠ i → k ∉ E → (∃ e ∈ o.after, Region.binds md e = true ∧ e.on = k) ∨ ∃ e ∈ ok.after, Region.binds md e = true ∧ e.on = i
def lastQB (md : Region.Mode) (ops : Array Oper) (E : List Nat) (i : Nat) : Bool := match ops[i]? with
  | some o => (List.range ops.size).all fun k => k == i || E.contains k || (o.after.any fun e => Region.binds md e && e.on == k) || (match ops[k]? with | some ok => ok.after.any fun e => Region.binds md e && e.on == i | none => false)
  | none => false
theorem lastQ_of {i : Nat} (h : lastQB md ops E i = true) : lastQ md ops E i := by
  unfold lastQB at h
  split at h
  · rename_i o ho
    refine ⟨o, ho, fun k ok hok hne hkE => ?_⟩
    have h1 := List.all_eq_true.1 h k (List.mem_range.2 (Array.getElem?_eq_some_iff.1 hok).1)
    rw [hok] at h1
    simp only [Bool.or_eq_true, beq_iff_eq] at h1
    rcases h1 with ((h1 | h1) | h1) | h1
    · exact absurd h1 hne
    · exact absurd (by simpa using h1) hkE
    · obtain ⟨j, hj, h2⟩ := Array.any_eq_true.1 h1
      simp only [Bool.and_eq_true, beq_iff_eq] at h2
      exact .inl ⟨_, Array.getElem_mem hj, h2.1, h2.2⟩
    · obtain ⟨j, hj, h2⟩ := Array.any_eq_true.1 h1
      simp only [Bool.and_eq_true, beq_iff_eq] at h2
      exact .inr ⟨_, Array.getElem_mem hj, h2.1, h2.2⟩
  · cases h
/-- whatever order is picked from here on; behind each operation a sharper condition holds, or any behind one that each other stands ahead of or behind -/
def wpL (P : Program) (md : Region.Mode) (ops : Array Oper) (Q : Exit → Act → World → Prop) (E : List Nat) : Nat → (World → Prop) → Array Bool → Act → World → Prop
  | 0, _, listed, a, w => Region.ready md ops listed = [] ∧ Q .normal a w
  | fuel + 1, S, listed, a, w =>
    (Region.ready md ops listed = [] → Q .normal a w) ∧
    ∀ i ∈ Region.ready md ops listed, wpOp P ops Q i (fun a' w' => ∃ S' : World → Prop, ((∀ x, S' x → S x) ∨ lastQ md ops E i) ∧ S' w' ∧ wpL P md ops Q E fuel S' (listed.setIfInBounds i true) a' w') a w

theorem wpAny_of_L : ∀ (fuel : Nat) (S : World → Prop) (listed : Array Bool) (a : Act) (w : World), wpL P md ops Q E fuel S listed a w → wpAny P md ops Q fuel listed a w
  | 0, _, _, _, _, h => h
  | fuel + 1, S, _, _, _, h => ⟨h.1, fun i hi => wpOp_mono (fun a' w' h' => by
      obtain ⟨S', _, _, h'⟩ := h'
      exact wpAny_of_L fuel S' _ a' w' h') (h.2 i hi)⟩

theorem wpL_first {i : Nat} {oi : Oper} {v : Value} (hiE : i ∉ E) (hi : ops[i]? = some oi) (hsel : ∀ (j : Nat) (o : Oper) cs b, ops[j]? = some o → o.op ≠ .select cs b)
    (hQ : ∀ c a w, Q (.panic c) (a.put oi.dst v) w → Q (.panic c) a w) :
    ∀ (fuel : Nat) (S : World → Prop) (listed : Array Bool) (a : Act) (w : World),
      (∀ j oj, ops[j]? = some oj → j ≠ i → listed.getD j true = false → (∀ e ∈ oj.after, Region.binds md e = true → e.on ≠ i) → oi.apart ops oj = true) →
      i ∈ Region.ready md ops listed → YieldsIf P ops S oi v a → S w →
      wpL P md ops Q E fuel S (listed.setIfInBounds i true) (a.put oi.dst v) w → wpL P md ops Q E (fuel + 1) S listed a w := by
  intro fuel
  induction fuel with
  | zero =>
    intro S listed a w _ hr hy hS H
    refine ⟨fun h => (by rw [h] at hr; cases hr), fun j hj => ?_⟩
    by_cases hji : j = i
    · subst hji; exact hy.wpOp hi hS ⟨S, .inl (fun _ h => h), hS, H⟩
    · have := ready_mono hj hji
      rw [H.1] at this
      cases this
  | succ fuel ih =>
    intro S listed a w hfree hr hy hS H
    refine ⟨fun h => (by rw [h] at hr; cases hr), fun j hj => ?_⟩
    by_cases hji : j = i
    · subst hji; exact hy.wpOp hi hS ⟨S, .inl (fun _ h => h), hS, H⟩
    · have h1 := H.2 j (ready_mono hj hji)
      obtain ⟨hjun, oj, hoj, hall⟩ := mem_ready.1 hj
      have hnot : ∀ e ∈ oj.after, Region.binds md e = true → e.on ≠ i := fun e he hb heq => by
        have h1 := hall e he hb
        have h0 := (mem_ready.1 hr).1
        rw [heq] at h1
        rcases Nat.lt_or_ge i listed.size with h' | h'
        · simp [h'] at h0 h1; rw [h0] at h1; cases h1
        · simp [Array.getElem?_eq_none h'] at h1
      have h2 := wpOp_putIf hoj (hfree j oj hoj hji hjun hnot) (fun cs b => hsel i oi cs b hi) (fun cs b => hsel j oj cs b hoj) hQ hy h1
      have hfree' : ∀ k ok, ops[k]? = some ok → k ≠ i → (listed.setIfInBounds j true).getD k true = false →
          (∀ e ∈ ok.after, Region.binds md e = true → e.on ≠ i) → oi.apart ops ok = true := fun k ok hk hki hun hno => by
        refine hfree k ok hk hki ?_ hno
        by_cases hjk : j = k
        · subst hjk; exact hjun
        · rw [getD_set_ne true hjk] at hun; exact hun
      refine wpOp_mono (fun a' w' h3 => ?_) h2
      obtain ⟨hy3, h3⟩ := h3
      obtain ⟨S', hs, hs2, h4⟩ := h3
      have hs : ∀ x, S' x → S x := by
        rcases hs with hs | ⟨o5, h5, h6⟩
        · exact hs
        · rw [hoj] at h5
          cases h5
          rcases h6 i oi hi (Ne.symm hji) hiE with ⟨e, he, hb, heq⟩ | ⟨e, he, hb, heq⟩
          · exact absurd heq (hnot e he hb)
          · obtain ⟨_, oi2, hoi2, hall2⟩ := mem_ready.1 hr
            rw [hi] at hoi2
            cases hoi2
            have h1 := hall2 e he hb
            rw [heq] at h1
            rcases Nat.lt_or_ge j listed.size with h' | h'
            · simp [h'] at hjun h1; rw [hjun] at h1; cases h1
            · simp [Array.getElem?_eq_none h'] at h1
      refine ⟨S', .inl hs, hs2, ih S' (listed.setIfInBounds j true) a' w' hfree' (ready_mono hr (Ne.symm hji)) (YieldsIf.sharper hs hy3) hs2 ?_⟩
      rw [Array.setIfInBounds_comm _ _ hji]
      exact h4

/-- none of those that are taken is an exception -/
def avoidB (E : List Nat) : List Bool → Nat → Bool
  | [], _ => true
  | b :: m, i => (!b || !E.contains i) && avoidB E m (i + 1)
theorem takes_L {l : List Oper} (hs : Region.noSelect l.toArray = true) (hQ : ∀ c a d v w, Q (.panic c) (Act.put a d v) w → Q (.panic c) a w) {S : World → Prop} {w : World} (hS : S w) {R : Act → Prop} :
    ∀ (m : List Bool) (i fuel : Nat) (listed : Array Bool) (a : Act), takesB md l m i listed = true → avoidB E m i = true → m.length + i ≤ l.length →
      (∀ a', R a' → wpL P md l.toArray Q E fuel S (takenL m i listed) a' w) → wpQuiet P l.toArray S R (maskRows m (l.drop i)) a → wpL P md l.toArray Q E (fuel + countT m) S listed a w
  | [], i, fuel, listed, a, _, _, _, hk, h => hk a (by simpa [maskRows, wpQuiet] using h)
  | false :: m, i, fuel, listed, a, hb, hav, hl, hk, h => by
    have hav : avoidB E m (i + 1) = true := by simpa [avoidB] using hav
    have hlt : i < l.length := by simp only [List.length_cons] at hl; omega
    rw [List.drop_eq_getElem_cons hlt] at h
    exact takes_L hs hQ hS m (i + 1) fuel listed a hb hav (by simp only [List.length_cons] at hl; omega) hk h
  | true :: m, i, fuel, listed, a, hb, hav, hl, hk, h => by
    have hav : i ∉ E ∧ avoidB E m (i + 1) = true := by simpa [avoidB] using hav
    have hlt : i < l.length := by simp only [List.length_cons] at hl; omega
    rw [List.drop_eq_getElem_cons hlt] at h
    simp only [takesB, Bool.and_eq_true] at hb
    obtain ⟨⟨⟨hv, hf⟩, hr⟩, hb⟩ := hb
    have ho : l.toArray[i]? = some l[i] := by simp [hlt]
    rw [show l[i]? = some l[i] from by simp [hlt]] at hv
    dsimp only at hv
    simp only [maskRows, wpQuiet] at h
    have hin : i ∈ Region.ready md l.toArray listed := by simpa using hr
    show wpL P md l.toArray Q E (fuel + countT m + 1) S listed a w
    by_cases hw : Region.wanted l[i] (yielded l.toArray a.tmps) = true
    · rw [if_pos hw] at h
      obtain ⟨v, h1, h2⟩ := h
      exact wpL_first hav.1 ho (Region.noSelect_spec hs) (fun c a w => hQ c a _ _ w) _ S listed a w (Region.free_spec ho hf) hin (yields_of_quiet hv hw h1) hS
        (takes_L hs hQ hS m (i + 1) fuel _ _ hb hav.2 (by simp only [List.length_cons] at hl; omega) hk h2)
    · rw [if_neg hw] at h
      exact wpL_first hav.1 ho (Region.noSelect_spec hs) (fun c a w => hQ c a _ _ w) _ S listed a w (Region.free_spec ho hf) hin (.inr ⟨by simpa using hw, rfl⟩) hS
        (takes_L hs hQ hS m (i + 1) fuel _ _ hb hav.2 (by simp only [List.length_cons] at hl; omega) hk h)
theorem wpL_done {listed : Array Bool} {a : Act} {w : World} (hr : Region.ready md ops listed = []) (h : Q .normal a w) : ∀ fuel, wpL P md ops Q E fuel S listed a w
  | 0 => ⟨hr, h⟩
  | _ + 1 => ⟨fun _ => h, by rw [hr]; simp⟩
/-- what reads is taken; then one after another of what is ready is tried -/
theorem wpL_seg {l : List Oper} (m : List Bool) (rd : List Nat) (fuel' : Nat) {fuel : Nat} {listed : Array Bool} {a : Act} {w : World} (hs : Region.noSelect l.toArray = true)
    (hQ : ∀ c a d v w, Q (.panic c) (Act.put a d v) w → Q (.panic c) a w) (hb : segtB md l m rd fuel fuel' listed = true) (hav : avoidB E m 0 = true) (hS : S w)
    (h : wpQuiet P l.toArray S (fun a' => ∀ i ∈ rd, wpOp P l.toArray Q i (fun a'' w'' => ∃ S' : World → Prop, ((∀ x, S' x → S x) ∨ lastQ md l.toArray E i) ∧ S' w'' ∧ wpL P md l.toArray Q E fuel' S' ((takenL m 0 listed).setIfInBounds i true) a'' w'') a' w) (maskRows m l) a) :
    wpL P md l.toArray Q E fuel S listed a w := by
  simp only [segtB, Bool.and_eq_true, decide_eq_true_eq, Bool.not_eq_true'] at hb
  obtain ⟨⟨⟨⟨h1, h2⟩, h3⟩, h4⟩, h5⟩ := hb
  subst h1
  refine takes_L (P := P) (md := md) hs hQ hS (R := fun a' => ∀ i ∈ rd, wpOp P l.toArray Q i (fun a'' w'' => ∃ S' : World → Prop, ((∀ x, S' x → S x) ∨ lastQ md l.toArray E i) ∧ S' w'' ∧ wpL P md l.toArray Q E fuel' S' ((takenL m 0 listed).setIfInBounds i true) a'' w'') a' w) m 0 (fuel' + 1) listed a h3 hav (by omega) (fun a' hq => ?_) (by simpa using h)
  refine ⟨fun h0 => (by rw [h4] at h0; rw [h0] at h5; cases h5), fun j hj => ?_⟩
  rw [h4] at hj
  exact hq j hj
theorem wpL_end {l : List Oper} (m : List Bool) {fuel : Nat} {listed : Array Bool} {a : Act} {w : World} (hs : Region.noSelect l.toArray = true)
    (hQ : ∀ c a d v w, Q (.panic c) (Act.put a d v) w → Q (.panic c) a w) (hb : segeB md l m fuel listed = true) (hav : avoidB E m 0 = true) (hS : S w)
    (h : wpQuiet P l.toArray S (fun a' => Q .normal a' w) (maskRows m l) a) : wpL P md l.toArray Q E fuel S listed a w := by
  simp only [segeB, Bool.and_eq_true, decide_eq_true_eq] at hb
  obtain ⟨⟨⟨h1, h2⟩, h3⟩, h4⟩ := hb
  have := takes_L (P := P) (md := md) hs hQ hS (R := fun a' => Q .normal a' w) m 0 (fuel - countT m) listed a h3 hav (by omega) (fun a' hq => wpL_done h4 hq _) (by simpa using h)
  rwa [Nat.sub_add_cancel h1] at this
theorem wp_region_L {id : Nat} {a : Act} {w : World} {l : List Oper} (E : List Nat) (S : World → Prop) (hm : P.follows .mixedOrders = true) (h : wpL P .any l.toArray Q E l.length S (Array.replicate l.length false) a w.drew) :
    (Code.region id l.toArray true).wp P Q a w := wp_region_any hm (wpAny_of_L _ _ _ _ _ (by simpa using h))
/-- one that is carried out -/
theorem segl_run {l : List Oper} {fuel : Nat} {listed : Array Bool} {i : Nat} {o : Oper} {a : Act} {w : World} (ho : l.toArray[i]? = some o) (hw : Region.wanted o (yielded l.toArray a.tmps) = true)
    (h : ∀ K : Act → World → Prop, (∀ a' w', (∃ S' : World → Prop, ((∀ x, S' x → S x) ∨ lastQ md l.toArray E i) ∧ S' w' ∧ wpL P md l.toArray Q E fuel S' listed a' w') → K a' w') → o.wp P a w K Q) :
    wpOp P l.toArray Q i (fun a'' w'' => ∃ S' : World → Prop, ((∀ x, S' x → S x) ∨ lastQ md l.toArray E i) ∧ S' w'' ∧ wpL P md l.toArray Q E fuel S' listed a'' w'') a w := by
  unfold wpOp
  simp only [ho, hw, if_true]
  exact .inl (h _ fun _ _ h => h)
end
end Go.Proofs.Ytpfnpinoamjcjaa
namespace Go.Proofs.Ytpfnpinoamjcjaa
open Go.ChangeShapes Go.WideShapes Go.ChangeAt Go.RowKit Go.BigFrame
set_option linter.unusedVariables false
set_option linter.unusedSimpArgs false

theorem wp_append_hp {o : Oper} {a : Act} {w : World} {Kn : Act → World → Prop} {Q : Exit → Act → World → Prop} (s x : Operand)
    (ho : o.op = .call { callee := .builtin .append, args := #[s, x], argTypes := #[79, 79] })
    {base : Nat} {v : Value} {xs : List Int} (hown : w.ownsRow base 3 1 v xs.length (intsV xs)) (g : Nat) (z : Int) (hu : w.heap[g]? = some (.cells #[.int .i64 z] 3 (0, 0))) (hs : a.eval s = v) (hx : a.eval x = .slice (some ⟨g, 0, none⟩) 1 1) (hn : xs.length ≤ 1000000) (hbase : base ≤ w.heap.size)
    (h : ∀ v' w', w'.ownsRow base 3 1 v' (xs ++ [z]).length (intsV (xs ++ [z])) → w.grownBy w' v.ownBlock → (v'.ownBlock = v.ownBlock ∨ v'.ownBlock = some w.heap.size) → Kn (a.put o.dst v') w') : o.wp Try.prog a w Kn Q := by
  obtain ⟨i0, hi, hz0, hz1, hz2⟩ := info_parts infoInt
  obtain ⟨v', w', hr, h2, h3, h4, h5⟩ := run_append_own_at (P := Try.prog) w base 79 o.type 3 i0 (.int .i64 0) 1 8 Try.underlying79 hi hz0 hz1 hz2 rfl (by decide) v xs.length (intsV xs) hown ⟨g, 0, none⟩ 1 1 [.int .i64 z] rfl
    (fun j u hj => by
      have hadd : (⟨g, 0, none⟩ : Addr).add j = ⟨g, j, none⟩ := by unfold Addr.add; split <;> simp_all
      rw [hadd, cell_of_row _ _ _ _ _ _ hu]
      simpa using hj) (fun u hu => by rcases List.mem_singleton.1 hu with rfl; rfl) (by unfold maxLen; omega) (by omega) hbase
  unfold Oper.wp execOp
  simp only [ho, resolve, invoke, builtin, Sem.run_bind, Sem.run_pure, Result.andThen_ok, List.map_toArray, List.map_cons, List.map_nil, hs, hx, hr]
  refine h v' w' ?_ h3 h5
  rw [List.length_append, intsV_app]
  exact h2
set_option maxRecDepth 100000 in
set_option maxHeartbeats 4000000 in
theorem hpushm_any (b0 B : Nat) (v : Value) (H : List Int) (x : Int) (w : World) (h : HpS b0 w B v H) (hs : H.length ≤ 1000) (hb : b0 ≤ w.heap.size) :
    Calls Try.prog 103 #[.pointer (some ⟨B, 0, none⟩), .iface 3 (.int .i64 x)] w fun e w' => e = .returned (.tuple #[]) ∧ ∃ v', HpS b0 w' B v' (H ++ [x]) ∧ (v'.ownBlock = v.ownBlock ∨ ∀ b, v'.ownBlock = some b → w.heap.size ≤ b) ∧ KeepX (fun j => j = B ∨ v.ownBlock = some j) w w' := by
  obtain ⟨va, vc, hvs⟩ := h.shape
  subst hvs
  generalize hv : Value.slice va H.length vc = v at *
  have HVS := Lib.hid hv
  subst hv
  have HP := Lib.hid (show HpS b0 w.drew B (.slice va H.length vc) H from ⟨h.box, h.own.drew, h.ne⟩)
  have HK := Lib.hid (show KeepX (fun j => j = B ∨ (Value.slice va H.length vc).ownBlock = some j) w w.drew from KeepX.below (Below.refl _ _).drew)
  have LB : ∀ wx : World, wx.heap[B]? = some (.cells #[.slice va H.length vc] 79 (0, 0)) → (loadVar 79 ⟨B, 0, none⟩).run Try.prog wx = .ok (.slice va H.length vc) wx := fun wx hx => hp_load (by rw [cell_of_row _ _ _ _ _ _ hx]; rfl)
  clear h HVS
  go_enter Try.func103, Try.ntmps103
  go_upto_region 0 with (fail)
  refine wp_region_L [] (fun wx => wx.heap[B]? = some (.cells #[.slice va H.length vc] 79 (0, 0))) (by kernel_rfl) ?_
  generalize (w).drew = wD0 at *
  refine wpL_seg [true, true, false, false, true] [2, 5] 6 (by kernel_rfl) (by intro c a d v w h; cases d <;> exact h) (by kernel_rfl) (by kernel_rfl) (by first | exact HP.out.box | exact HP.out.1) ?_
  try simp only [maskRows]
  repeat (first
    | go_big_quiet_skip
    | (go_big_quiet_want
       first
         | (go_big_quiet_op; go_big_quiet_on)
         | (refine q_load 79 _ _ _ rfl rfl LB ?_; simp only [Act.put, List.setIfInBounds_toArray, List.set_cons_zero, List.set_cons_succ]; go_big_quiet_on)
         | (go_big_quiet_op; refine ⟨_, fun _ _ => rfl, ?_⟩; go_big_quiet_on)
         | (go_big_quiet_op; refine ⟨_, fun _ _ _ => rfl, ?_⟩; go_big_quiet_on)
         | (go_big_quiet_op; refine ⟨_, fun _ _ _ _ => rfl, ?_⟩; go_big_quiet_on)))
  refine wpQuiet_nil ?_
  refine List.forall_mem_cons.2 ⟨?_, List.forall_mem_singleton.2 ?_⟩
  · refine segl_run rfl (by rfl) (fun K hK => ?_)
    go_simp
    refine hK _ _ ⟨_, .inl (fun _ h => h), (by first | exact HP.out.box | exact HP.out.1), ?_⟩
    clear hK K
    try simp only [Act.put, List.setIfInBounds_toArray, List.set_cons_zero, List.set_cons_succ]
    refine wpL_seg [false, false, false, true] [5] 4 (by kernel_rfl) (by intro c a d v w h; cases d <;> exact h) (by kernel_rfl) (by kernel_rfl) (by first | exact HP.out.box | exact HP.out.1) ?_
    try simp only [maskRows]
    repeat (first
      | go_big_quiet_skip
      | (go_big_quiet_want
         first
           | (go_big_quiet_op; go_big_quiet_on)
           | (refine q_load 79 _ _ _ rfl rfl LB ?_; simp only [Act.put, List.setIfInBounds_toArray, List.set_cons_zero, List.set_cons_succ]; go_big_quiet_on)
           | (go_big_quiet_op; refine ⟨_, fun _ _ => rfl, ?_⟩; go_big_quiet_on)
           | (go_big_quiet_op; refine ⟨_, fun _ _ _ => rfl, ?_⟩; go_big_quiet_on)
           | (go_big_quiet_op; refine ⟨_, fun _ _ _ _ => rfl, ?_⟩; go_big_quiet_on)))
    refine wpQuiet_nil ?_
    refine List.forall_mem_singleton.2 ?_
    refine segl_run rfl (by rfl) (fun K hK => ?_)
    go_simp
    refine hK _ _ ⟨_, .inl (fun _ h => h), (by first | exact HP.out.box | exact HP.out.1), ?_⟩
    clear hK K
    try simp only [Act.put, List.setIfInBounds_toArray, List.set_cons_zero, List.set_cons_succ]
    refine wpL_seg [] [6] 3 (by kernel_rfl) (by intro c a d v w h; cases d <;> exact h) (by kernel_rfl) (by kernel_rfl) (by first | exact HP.out.box | exact HP.out.1) ?_
    try simp only [maskRows]
    refine wpQuiet_nil ?_
    refine List.forall_mem_singleton.2 ?_
    refine segl_run rfl (by rfl) (fun K hK => ?_)
    go_simp
    have HR := Lib.hid (heap_alloc_new wD0 (.cells #[.int .i64 x] 3))
    have hbn := (Below.refl wD0.heap.size wD0).alloc (Nat.le_refl _) (.cells #[.int .i64 x] 3)
    replace HP := Lib.hid (HP.out.next hbn)
    replace HK := Lib.hid (HK.out.trans (KeepX.below hbn))
    clear hbn
    generalize World.alloc wD0 (.cells #[.int .i64 x] 3) = w1_ at *
    generalize wD0.heap.size = B6 at *
    refine hK _ _ ⟨_, .inl (fun _ h => h), (by first | exact HP.out.box | exact HP.out.1), ?_⟩
    clear hK K
    try simp only [Act.put, List.setIfInBounds_toArray, List.set_cons_zero, List.set_cons_succ]
    refine wpL_seg [] [7] 2 (by kernel_rfl) (by intro c a d v w h; cases d <;> exact h) (by kernel_rfl) (by kernel_rfl) (by first | exact HP.out.box | exact HP.out.1) ?_
    try simp only [maskRows]
    refine wpQuiet_nil ?_
    refine List.forall_mem_singleton.2 ?_
    refine segl_run rfl (by rfl) (fun K hK => ?_)
    refine wp_append_hp (.tmp 7) (.tmp 10) rfl HP.out.own B6 x HR.out rfl rfl (by omega) (by have := HK.out.size; omega) ?_
    intro v7 w2_ ho hg hv
    obtain ⟨g7, c7, h7⟩ := ownsRow_shape1 ho (by simp)
    rw [show (H ++ [x]).length = H.length + 1 by simp] at h7
    subst h7
    have hbx := (hg.block B (Array.getElem?_eq_some_iff.1 HP.out.box).1 (fun e => HP.out.ne e.symm)).trans HP.out.box
    have hne : (Value.slice (some ⟨g7, 0, none⟩) (H.length + 1) c7).ownBlock ≠ some B := fun e => by
      rcases hv with h | h
      · exact HP.out.ne (h.symm.trans e)
      · have h1 := Option.some.inj (h.symm.trans e); have h2 := (Array.getElem?_eq_some_iff.1 HP.out.box).1; omega
    have HNW := Lib.hid (show (Value.slice (some ⟨g7, 0, none⟩) (H.length + 1) c7).ownBlock = (Value.slice va H.length vc).ownBlock ∨ ∀ b, (Value.slice (some ⟨g7, 0, none⟩) (H.length + 1) c7).ownBlock = some b → w.heap.size ≤ b from by
      rcases hv with h | h
      · exact .inl h
      · exact .inr fun b e => by have h1 := Option.some.inj (h.symm.trans e); have h2 := HK.out.size; omega)
    replace HK := Lib.hid (HK.out.trans (KeepX.grown hg (fun j e => .inr e)))
    clear HP HR
    have HP := Lib.hid (And.intro hbx (And.intro ho hne))
    clear hbx ho hne hg hv
    go_simp
    refine hK _ _ ⟨_, .inl (fun _ h => h), (by first | exact HP.out.box | exact HP.out.1), ?_⟩
    clear hK K
    try simp only [Act.put, List.setIfInBounds_toArray, List.set_cons_zero, List.set_cons_succ]
    refine wpL_seg [] [8] 1 (by kernel_rfl) (by intro c a d v w h; cases d <;> exact h) (by kernel_rfl) (by kernel_rfl) (by first | exact HP.out.box | exact HP.out.1) ?_
    try simp only [maskRows]
    refine wpQuiet_nil ?_
    refine List.forall_mem_singleton.2 ?_
    refine segl_run rfl (by rfl) (fun K hK => ?_)
    go_simp
    refine hK _ _ ⟨_, .inl (fun _ h => h), (by first | exact HP.out.box | exact HP.out.1), ?_⟩
    clear hK K
    try simp only [Act.put, List.setIfInBounds_toArray, List.set_cons_zero, List.set_cons_succ]
    refine wpL_seg [] [9] 0 (by kernel_rfl) (by intro c a d v w h; cases d <;> exact h) (by kernel_rfl) (by kernel_rfl) (by first | exact HP.out.box | exact HP.out.1) ?_
    try simp only [maskRows]
    refine wpQuiet_nil ?_
    refine List.forall_mem_singleton.2 ?_
    have c0 : w2_.cell? ⟨B, 0, none⟩ = some (.slice va H.length vc) := by rw [cell_of_row _ _ _ _ _ _ HP.out.1]; rfl
    have f0 : w2_.frozen? ⟨B, 0, none⟩ = false := frozen_of_row _ _ _ _ _ HP.out.1
    have HF := Lib.hid (show HpS b0 (w2_.setCell ⟨B, 0, none⟩ (.slice (some ⟨g7, 0, none⟩) (H.length + 1) c7)) B (.slice (some ⟨g7, 0, none⟩) (H.length + 1) c7) (H ++ [x]) from ⟨set_cells (.slice (some ⟨g7, 0, none⟩) (H.length + 1) c7) HP.out.1, HP.out.2.1.kept (Lib.grownBy_setCell w2_ B 0 (.slice (some ⟨g7, 0, none⟩) (H.length + 1) c7)) (.inr HP.out.2.2), HP.out.2.2⟩)
    have HKF := Lib.hid (HK.out.set B 0 (.slice (some ⟨g7, 0, none⟩) (H.length + 1) c7) (.inl rfl))
    refine segl_run rfl (by rfl) (fun K hK => ?_)
    go_simp
    clear c0 f0
    refine hK _ _ ⟨fun _ => True, .inr (lastQ_of (by kernel_rfl)), trivial, ?_⟩
    clear hK K
    try simp only [Act.put, List.setIfInBounds_toArray, List.set_cons_zero, List.set_cons_succ]
    refine wpL_end [] (by kernel_rfl) (by intro c a d v w h; cases d <;> exact h) (by kernel_rfl) (by kernel_rfl) trivial ?_
    try simp only [maskRows]
    refine wpQuiet_nil ?_
    go_wp2
    go_end0
    exact ⟨rfl, _, HF.out, HNW.out, HKF.out⟩
  · refine segl_run rfl (by rfl) (fun K hK => ?_)
    go_simp
    refine hK _ _ ⟨_, .inl (fun _ h => h), (by first | exact HP.out.box | exact HP.out.1), ?_⟩
    clear hK K
    try simp only [Act.put, List.setIfInBounds_toArray, List.set_cons_zero, List.set_cons_succ]
    refine wpL_seg [] [2, 6] 5 (by kernel_rfl) (by intro c a d v w h; cases d <;> exact h) (by kernel_rfl) (by kernel_rfl) (by first | exact HP.out.box | exact HP.out.1) ?_
    try simp only [maskRows]
    refine wpQuiet_nil ?_
    refine List.forall_mem_cons.2 ⟨?_, List.forall_mem_singleton.2 ?_⟩
    · refine segl_run rfl (by rfl) (fun K hK => ?_)
      go_simp
      refine hK _ _ ⟨_, .inl (fun _ h => h), (by first | exact HP.out.box | exact HP.out.1), ?_⟩
      clear hK K
      try simp only [Act.put, List.setIfInBounds_toArray, List.set_cons_zero, List.set_cons_succ]
      refine wpL_seg [false, false, false, true] [6] 3 (by kernel_rfl) (by intro c a d v w h; cases d <;> exact h) (by kernel_rfl) (by kernel_rfl) (by first | exact HP.out.box | exact HP.out.1) ?_
      try simp only [maskRows]
      repeat (first
        | go_big_quiet_skip
        | (go_big_quiet_want
           first
             | (go_big_quiet_op; go_big_quiet_on)
             | (refine q_load 79 _ _ _ rfl rfl LB ?_; simp only [Act.put, List.setIfInBounds_toArray, List.set_cons_zero, List.set_cons_succ]; go_big_quiet_on)
             | (go_big_quiet_op; refine ⟨_, fun _ _ => rfl, ?_⟩; go_big_quiet_on)
             | (go_big_quiet_op; refine ⟨_, fun _ _ _ => rfl, ?_⟩; go_big_quiet_on)
             | (go_big_quiet_op; refine ⟨_, fun _ _ _ _ => rfl, ?_⟩; go_big_quiet_on)))
      refine wpQuiet_nil ?_
      refine List.forall_mem_singleton.2 ?_
      refine segl_run rfl (by rfl) (fun K hK => ?_)
      go_simp
      have HR := Lib.hid (heap_alloc_new wD0 (.cells #[.int .i64 x] 3))
      have hbn := (Below.refl wD0.heap.size wD0).alloc (Nat.le_refl _) (.cells #[.int .i64 x] 3)
      replace HP := Lib.hid (HP.out.next hbn)
      replace HK := Lib.hid (HK.out.trans (KeepX.below hbn))
      clear hbn
      generalize World.alloc wD0 (.cells #[.int .i64 x] 3) = w1_ at *
      generalize wD0.heap.size = B6 at *
      refine hK _ _ ⟨_, .inl (fun _ h => h), (by first | exact HP.out.box | exact HP.out.1), ?_⟩
      clear hK K
      try simp only [Act.put, List.setIfInBounds_toArray, List.set_cons_zero, List.set_cons_succ]
      refine wpL_seg [] [7] 2 (by kernel_rfl) (by intro c a d v w h; cases d <;> exact h) (by kernel_rfl) (by kernel_rfl) (by first | exact HP.out.box | exact HP.out.1) ?_
      try simp only [maskRows]
      refine wpQuiet_nil ?_
      refine List.forall_mem_singleton.2 ?_
      refine segl_run rfl (by rfl) (fun K hK => ?_)
      refine wp_append_hp (.tmp 7) (.tmp 10) rfl HP.out.own B6 x HR.out rfl rfl (by omega) (by have := HK.out.size; omega) ?_
      intro v7 w2_ ho hg hv
      obtain ⟨g7, c7, h7⟩ := ownsRow_shape1 ho (by simp)
      rw [show (H ++ [x]).length = H.length + 1 by simp] at h7
      subst h7
      have hbx := (hg.block B (Array.getElem?_eq_some_iff.1 HP.out.box).1 (fun e => HP.out.ne e.symm)).trans HP.out.box
      have hne : (Value.slice (some ⟨g7, 0, none⟩) (H.length + 1) c7).ownBlock ≠ some B := fun e => by
        rcases hv with h | h
        · exact HP.out.ne (h.symm.trans e)
        · have h1 := Option.some.inj (h.symm.trans e); have h2 := (Array.getElem?_eq_some_iff.1 HP.out.box).1; omega
      have HNW := Lib.hid (show (Value.slice (some ⟨g7, 0, none⟩) (H.length + 1) c7).ownBlock = (Value.slice va H.length vc).ownBlock ∨ ∀ b, (Value.slice (some ⟨g7, 0, none⟩) (H.length + 1) c7).ownBlock = some b → w.heap.size ≤ b from by
        rcases hv with h | h
        · exact .inl h
        · exact .inr fun b e => by have h1 := Option.some.inj (h.symm.trans e); have h2 := HK.out.size; omega)
      replace HK := Lib.hid (HK.out.trans (KeepX.grown hg (fun j e => .inr e)))
      clear HP HR
      have HP := Lib.hid (And.intro hbx (And.intro ho hne))
      clear hbx ho hne hg hv
      go_simp
      refine hK _ _ ⟨_, .inl (fun _ h => h), (by first | exact HP.out.box | exact HP.out.1), ?_⟩
      clear hK K
      try simp only [Act.put, List.setIfInBounds_toArray, List.set_cons_zero, List.set_cons_succ]
      refine wpL_seg [] [8] 1 (by kernel_rfl) (by intro c a d v w h; cases d <;> exact h) (by kernel_rfl) (by kernel_rfl) (by first | exact HP.out.box | exact HP.out.1) ?_
      try simp only [maskRows]
      refine wpQuiet_nil ?_
      refine List.forall_mem_singleton.2 ?_
      refine segl_run rfl (by rfl) (fun K hK => ?_)
      go_simp
      refine hK _ _ ⟨_, .inl (fun _ h => h), (by first | exact HP.out.box | exact HP.out.1), ?_⟩
      clear hK K
      try simp only [Act.put, List.setIfInBounds_toArray, List.set_cons_zero, List.set_cons_succ]
      refine wpL_seg [] [9] 0 (by kernel_rfl) (by intro c a d v w h; cases d <;> exact h) (by kernel_rfl) (by kernel_rfl) (by first | exact HP.out.box | exact HP.out.1) ?_
      try simp only [maskRows]
      refine wpQuiet_nil ?_
      refine List.forall_mem_singleton.2 ?_
      have c0 : w2_.cell? ⟨B, 0, none⟩ = some (.slice va H.length vc) := by rw [cell_of_row _ _ _ _ _ _ HP.out.1]; rfl
      have f0 : w2_.frozen? ⟨B, 0, none⟩ = false := frozen_of_row _ _ _ _ _ HP.out.1
      have HF := Lib.hid (show HpS b0 (w2_.setCell ⟨B, 0, none⟩ (.slice (some ⟨g7, 0, none⟩) (H.length + 1) c7)) B (.slice (some ⟨g7, 0, none⟩) (H.length + 1) c7) (H ++ [x]) from ⟨set_cells (.slice (some ⟨g7, 0, none⟩) (H.length + 1) c7) HP.out.1, HP.out.2.1.kept (Lib.grownBy_setCell w2_ B 0 (.slice (some ⟨g7, 0, none⟩) (H.length + 1) c7)) (.inr HP.out.2.2), HP.out.2.2⟩)
      have HKF := Lib.hid (HK.out.set B 0 (.slice (some ⟨g7, 0, none⟩) (H.length + 1) c7) (.inl rfl))
      refine segl_run rfl (by rfl) (fun K hK => ?_)
      go_simp
      clear c0 f0
      refine hK _ _ ⟨fun _ => True, .inr (lastQ_of (by kernel_rfl)), trivial, ?_⟩
      clear hK K
      try simp only [Act.put, List.setIfInBounds_toArray, List.set_cons_zero, List.set_cons_succ]
      refine wpL_end [] (by kernel_rfl) (by intro c a d v w h; cases d <;> exact h) (by kernel_rfl) (by kernel_rfl) trivial ?_
      try simp only [maskRows]
      refine wpQuiet_nil ?_
      go_wp2
      go_end0
      exact ⟨rfl, _, HF.out, HNW.out, HKF.out⟩
    · refine segl_run rfl (by rfl) (fun K hK => ?_)
      go_simp
      have HR := Lib.hid (heap_alloc_new wD0 (.cells #[.int .i64 x] 3))
      have hbn := (Below.refl wD0.heap.size wD0).alloc (Nat.le_refl _) (.cells #[.int .i64 x] 3)
      replace HP := Lib.hid (HP.out.next hbn)
      replace HK := Lib.hid (HK.out.trans (KeepX.below hbn))
      clear hbn
      generalize World.alloc wD0 (.cells #[.int .i64 x] 3) = w1_ at *
      generalize wD0.heap.size = B6 at *
      refine hK _ _ ⟨_, .inl (fun _ h => h), (by first | exact HP.out.box | exact HP.out.1), ?_⟩
      clear hK K
      try simp only [Act.put, List.setIfInBounds_toArray, List.set_cons_zero, List.set_cons_succ]
      refine wpL_seg [] [2] 4 (by kernel_rfl) (by intro c a d v w h; cases d <;> exact h) (by kernel_rfl) (by kernel_rfl) (by first | exact HP.out.box | exact HP.out.1) ?_
      try simp only [maskRows]
      refine wpQuiet_nil ?_
      refine List.forall_mem_singleton.2 ?_
      refine segl_run rfl (by rfl) (fun K hK => ?_)
      go_simp
      refine hK _ _ ⟨_, .inl (fun _ h => h), (by first | exact HP.out.box | exact HP.out.1), ?_⟩
      clear hK K
      try simp only [Act.put, List.setIfInBounds_toArray, List.set_cons_zero, List.set_cons_succ]
      refine wpL_seg [false, false, false, true] [7] 2 (by kernel_rfl) (by intro c a d v w h; cases d <;> exact h) (by kernel_rfl) (by kernel_rfl) (by first | exact HP.out.box | exact HP.out.1) ?_
      try simp only [maskRows]
      repeat (first
        | go_big_quiet_skip
        | (go_big_quiet_want
           first
             | (go_big_quiet_op; go_big_quiet_on)
             | (refine q_load 79 _ _ _ rfl rfl LB ?_; simp only [Act.put, List.setIfInBounds_toArray, List.set_cons_zero, List.set_cons_succ]; go_big_quiet_on)
             | (go_big_quiet_op; refine ⟨_, fun _ _ => rfl, ?_⟩; go_big_quiet_on)
             | (go_big_quiet_op; refine ⟨_, fun _ _ _ => rfl, ?_⟩; go_big_quiet_on)
             | (go_big_quiet_op; refine ⟨_, fun _ _ _ _ => rfl, ?_⟩; go_big_quiet_on)))
      refine wpQuiet_nil ?_
      refine List.forall_mem_singleton.2 ?_
      refine segl_run rfl (by rfl) (fun K hK => ?_)
      refine wp_append_hp (.tmp 7) (.tmp 10) rfl HP.out.own B6 x HR.out rfl rfl (by omega) (by have := HK.out.size; omega) ?_
      intro v7 w2_ ho hg hv
      obtain ⟨g7, c7, h7⟩ := ownsRow_shape1 ho (by simp)
      rw [show (H ++ [x]).length = H.length + 1 by simp] at h7
      subst h7
      have hbx := (hg.block B (Array.getElem?_eq_some_iff.1 HP.out.box).1 (fun e => HP.out.ne e.symm)).trans HP.out.box
      have hne : (Value.slice (some ⟨g7, 0, none⟩) (H.length + 1) c7).ownBlock ≠ some B := fun e => by
        rcases hv with h | h
        · exact HP.out.ne (h.symm.trans e)
        · have h1 := Option.some.inj (h.symm.trans e); have h2 := (Array.getElem?_eq_some_iff.1 HP.out.box).1; omega
      have HNW := Lib.hid (show (Value.slice (some ⟨g7, 0, none⟩) (H.length + 1) c7).ownBlock = (Value.slice va H.length vc).ownBlock ∨ ∀ b, (Value.slice (some ⟨g7, 0, none⟩) (H.length + 1) c7).ownBlock = some b → w.heap.size ≤ b from by
        rcases hv with h | h
        · exact .inl h
        · exact .inr fun b e => by have h1 := Option.some.inj (h.symm.trans e); have h2 := HK.out.size; omega)
      replace HK := Lib.hid (HK.out.trans (KeepX.grown hg (fun j e => .inr e)))
      clear HP HR
      have HP := Lib.hid (And.intro hbx (And.intro ho hne))
      clear hbx ho hne hg hv
      go_simp
      refine hK _ _ ⟨_, .inl (fun _ h => h), (by first | exact HP.out.box | exact HP.out.1), ?_⟩
      clear hK K
      try simp only [Act.put, List.setIfInBounds_toArray, List.set_cons_zero, List.set_cons_succ]
      refine wpL_seg [] [8] 1 (by kernel_rfl) (by intro c a d v w h; cases d <;> exact h) (by kernel_rfl) (by kernel_rfl) (by first | exact HP.out.box | exact HP.out.1) ?_
      try simp only [maskRows]
      refine wpQuiet_nil ?_
      refine List.forall_mem_singleton.2 ?_
      refine segl_run rfl (by rfl) (fun K hK => ?_)
      go_simp
      refine hK _ _ ⟨_, .inl (fun _ h => h), (by first | exact HP.out.box | exact HP.out.1), ?_⟩
      clear hK K
      try simp only [Act.put, List.setIfInBounds_toArray, List.set_cons_zero, List.set_cons_succ]
      refine wpL_seg [] [9] 0 (by kernel_rfl) (by intro c a d v w h; cases d <;> exact h) (by kernel_rfl) (by kernel_rfl) (by first | exact HP.out.box | exact HP.out.1) ?_
      try simp only [maskRows]
      refine wpQuiet_nil ?_
      refine List.forall_mem_singleton.2 ?_
      have c0 : w2_.cell? ⟨B, 0, none⟩ = some (.slice va H.length vc) := by rw [cell_of_row _ _ _ _ _ _ HP.out.1]; rfl
      have f0 : w2_.frozen? ⟨B, 0, none⟩ = false := frozen_of_row _ _ _ _ _ HP.out.1
      have HF := Lib.hid (show HpS b0 (w2_.setCell ⟨B, 0, none⟩ (.slice (some ⟨g7, 0, none⟩) (H.length + 1) c7)) B (.slice (some ⟨g7, 0, none⟩) (H.length + 1) c7) (H ++ [x]) from ⟨set_cells (.slice (some ⟨g7, 0, none⟩) (H.length + 1) c7) HP.out.1, HP.out.2.1.kept (Lib.grownBy_setCell w2_ B 0 (.slice (some ⟨g7, 0, none⟩) (H.length + 1) c7)) (.inr HP.out.2.2), HP.out.2.2⟩)
      have HKF := Lib.hid (HK.out.set B 0 (.slice (some ⟨g7, 0, none⟩) (H.length + 1) c7) (.inl rfl))
      refine segl_run rfl (by rfl) (fun K hK => ?_)
      go_simp
      clear c0 f0
      refine hK _ _ ⟨fun _ => True, .inr (lastQ_of (by kernel_rfl)), trivial, ?_⟩
      clear hK K
      try simp only [Act.put, List.setIfInBounds_toArray, List.set_cons_zero, List.set_cons_succ]
      refine wpL_end [] (by kernel_rfl) (by intro c a d v w h; cases d <;> exact h) (by kernel_rfl) (by kernel_rfl) trivial ?_
      try simp only [maskRows]
      refine wpQuiet_nil ?_
      go_wp2
      go_end0
      exact ⟨rfl, _, HF.out, HNW.out, HKF.out⟩
end Go.Proofs.Ytpfnpinoamjcjaa
namespace Go.Proofs.Ytpfnpinoamjcjaa
open Go.ChangeShapes Go.WideShapes Go.ChangeAt Go.RowKit Go.BigFrame
set_option linter.unusedVariables false
set_option linter.unusedSimpArgs false

theorem HpS.take {b0 : Nat} {w : World} {B g cap m : Nat} {H : List Int} (h : HpS b0 w B (.slice (some ⟨g, 0, none⟩) (m + 1) cap) H) (hl : H.length = m + 1) : HpS b0 (w.setCell ⟨B, 0, none⟩ (.slice (some ⟨g, 0, none⟩) m cap)) B (.slice (some ⟨g, 0, none⟩) m cap) (H.take m) := by
  refine ⟨set_cells _ h.box, ?_, h.ne⟩
  have hk : (w.setCell ⟨B, 0, none⟩ (.slice (some ⟨g, 0, none⟩) m cap)).ownsRow b0 3 1 (.slice (some ⟨g, 0, none⟩) (m + 1) cap) H.length (intsV H) := h.own.kept (Lib.grownBy_setCell w B 0 _) (.inr h.ne)
  rcases hk.2 with ⟨h0, -⟩ | ⟨g', cap', cur, hv, h1, h2, h3, h4, h5, h6⟩
  · cases h0
  · rw [hl] at hv
    cases hv
    have htl : (H.take m).length = m := by rw [List.length_take]; omega
    refine ⟨by rw [intsV_len, htl]; omega, .inr ⟨g, cap, cur, by rw [htl], h1, h2, by rw [htl]; omega, h4, h5, ?_⟩⟩
    rw [htl]
    have e : intsV (H.take m) = (intsV H).take m := by simp [intsV, List.map_take]
    rw [e, ← h6, List.take_take]
    congr 1
    omega
set_option maxRecDepth 100000 in
set_option maxHeartbeats 2000000 in
theorem hpopm_any (b0 B m : Nat) (v : Value) (H : List Int) (w : World) (h : HpS b0 w B v H) (hl : H.length = m + 1) (hs : H.length ≤ 1000) :
    Calls Try.prog 102 #[.pointer (some ⟨B, 0, none⟩)] w fun e w' => e = .returned (.iface 3 (.int .i64 (H[m]?.getD 0))) ∧ ∃ v', HpS b0 w' B v' (H.take m) ∧ v'.ownBlock = v.ownBlock ∧ w.grownBy w' (some B) := by
  obtain ⟨g, cap, hv⟩ := ownsRow_shape1 h.own (by omega)
  rw [hl] at hv
  subst hv
  have HT := Lib.hid (h.take hl)
  obtain ⟨c0, f0⟩ := h.cell
  have c1 := own_int (by have := h.own; rwa [hl] at this) m (by omega) (xs := H)
  have hcap : (m : Int) ≤ (cap : Int) := by
    rcases h.own.2 with ⟨h0, -⟩ | ⟨g', cap', cur, hv, h1, h2, h3, h4, h5, h6⟩
    · cases h0
    · rw [hl] at hv h3; cases hv; omega
  have HG := Lib.hid (Lib.grownBy_setCell w B 0 (.slice (some ⟨g, 0, none⟩) m cap))
  have e1 : IntKind.i64.wrap (((m + 1 : Nat) : Int) - 1) = (m : Int) := by rw [IntWalk.i64_in _ (by omega)]; omega
  have e2 : wrap64 (((m + 1 : Nat) : Int) - 1) = (m : Int) := by rw [IntWalk.wrap64_in _ (by omega)]; omega
  have z0 : (0 : Int) ≤ (m : Int) := by omega
  have z1 : (m : Int) < ((m + 1 : Nat) : Int) := by omega
  generalize H[m]?.getD 0 = x at *
  clear h
  go_enter Try.func102, Try.ntmps102
  go_wp2
  go_ret
  exact ⟨rfl, _, HT.out, rfl, HG.out⟩
set_option maxRecDepth 100000 in
set_option maxHeartbeats 4000000 in
theorem hpop_any (b0 B m : Nat) (v : Value) (H : List Int) (w : World) (h : HpS b0 w B v H) (hl : H.length = m + 1) (hs : H.length ≤ 1000) :
    Calls Try.prog 70 #[hpV B] w fun e w' => ∃ (x : Int) (v' : Value) (H' : List Int), e = .returned (.iface 3 (.int .i64 x)) ∧ (H'.length = m ∧ ∀ y, y ∈ H ↔ y = x ∨ y ∈ H') ∧ HpS b0 w' B v' H' ∧ v'.ownBlock = v.ownBlock ∧ KeepX (fun j => j = B ∨ v.ownBlock = some j) w w' := by
  obtain ⟨g, cap, hv⟩ := ownsRow_shape1 h.own (by omega)
  have hv0 := hv
  rw [hl] at hv
  subst hv
  have hbx := h.cell.1
  have HP := Lib.hid h
  have hMl := fun n hn => hm_len n B (.slice (some ⟨g, 0, none⟩) (m + 1) cap) w hn hbx
  have hMs := fun n hn => hm_swap n B (.slice (some ⟨g, 0, none⟩) (m + 1) cap) w hn hbx
  have e1 : IntKind.i64.wrap (((m + 1 : Nat) : Int) - 1) = (m : Int) := by rw [IntWalk.i64_in _ (by omega)]; omega
  have e2 : wrap64 (((m + 1 : Nat) : Int) - 1) = (m : Int) := by rw [IntWalk.wrap64_in _ (by omega)]; omega
  have HSW := Lib.hid (hswap_any b0 g cap 0 m H w (by have := h.own; rwa [hl] at this ⊢) (by omega) (by omega) (by omega))
  rw [hl] at HSW
  clear h hv0
  go_enter Try.func70, Try.ntmps70
  go_wp2_with fail
  refine (hlen_any _ _ _ _).mono ?_
  rintro e w1 ⟨rfl, rfl⟩
  go_wp2_with fail
  refine HSW.out.mono ?_
  rintro e w2 ⟨rfl, ho2, hg2⟩
  have HP2 := Lib.hid (show HpS b0 w2 B (.slice (some ⟨g, 0, none⟩) (m + 1) cap) (swpL H 0 m) from
    ⟨(hg2.block B (Array.getElem?_eq_some_iff.1 HP.out.box).1 (fun e => HP.out.ne e.symm)).trans HP.out.box, by rw [swpL_len, hl]; exact ho2, HP.out.ne⟩)
  have HK2 := Lib.hid (show KeepX (fun j => j = B ∨ some g = some j) w1 w2 from KeepX.grown hg2 (fun k e => .inr e))
  clear ho2 hg2 HSW hMs hMl hbx HP
  go_wp2_with fail
  refine (hdown_any b0 B m _ (swpL H 0 m) _ HP2.out (by rw [swpL_len]; omega) (by rw [swpL_len]; omega)).mono ?_
  rintro e w3 ⟨⟨b, rfl⟩, H2, hT⟩
  have HPM := Lib.hid (pop_mem hl hT.sw)
  have HP3 := Lib.hid hT.hp
  have HK3 := Lib.hid (HK2.out.trans (show KeepX (fun j => j = B ∨ some g = some j) w2 w3 from KeepX.grown hT.gr (fun k e => .inr e)))
  clear hT HP2 HK2
  have hMp := fun n hn => hm_pop n B w3 hn
  go_wp2_with fail
  refine (hpopm_any b0 B m _ H2 _ HP3.out HPM.out.1 (by rw [HPM.out.1]; omega)).mono ?_
  rintro e w4 ⟨rfl, v4, hp4, hb4, hg4⟩
  have HF := Lib.hid (And.intro hp4 hb4)
  have HKF := Lib.hid (HK3.out.trans (show KeepX (fun j => j = B ∨ some g = some j) w3 w4 from KeepX.grown hg4 (fun k e => .inl (Option.some.inj e).symm)))
  clear hp4 hb4 hg4 HK3 HP3 hMp
  go_wp2
  go_ret
  exact ⟨_, v4, H2.take m, rfl, ⟨by rw [List.length_take, HPM.out.1]; omega, HPM.out.2⟩, HF.out.1, HF.out.2, HKF.out⟩
set_option maxRecDepth 100000 in
set_option maxHeartbeats 4000000 in
theorem hpush_any (b0 B : Nat) (v : Value) (H : List Int) (x : Int) (w : World) (h : HpS b0 w B v H) (hs : H.length ≤ 900) (hb : b0 ≤ w.heap.size) :
    Calls Try.prog 73 #[hpV B, .iface 3 (.int .i64 x)] w fun e w' => e = .returned (.tuple #[]) ∧ ∃ (v' : Value) (H' : List Int), (H'.length = H.length + 1 ∧ ∀ y, y ∈ H' ↔ y = x ∨ y ∈ H) ∧ HpS b0 w' B v' H' ∧ (v'.ownBlock = v.ownBlock ∨ ∀ b, v'.ownBlock = some b → w.heap.size ≤ b) ∧ KeepX (fun j => j = B ∨ v.ownBlock = some j) w w' := by
  have hMp := fun n hn => hm_push n B w hn
  have HPU := Lib.hid (hpushm_any b0 B v H x w h (by omega) hb)
  clear h
  go_enter Try.func73, Try.ntmps73
  go_wp2_with fail
  refine HPU.out.mono ?_
  rintro e w1 ⟨rfl, v1, hp1, hn1, hk1⟩
  have HP1 := Lib.hid hp1
  have HN1 := Lib.hid hn1
  have HK1 := Lib.hid hk1
  obtain ⟨g, cap, hv⟩ := ownsRow_shape1 hp1.own (by simp)
  rw [show (H ++ [x]).length = H.length + 1 by simp] at hv
  subst hv
  have hbx := HP1.out.cell.1
  have hMl := fun n hn => hm_len n B (.slice (some ⟨g, 0, none⟩) (H.length + 1) cap) w1 hn hbx
  have e1 : IntKind.i64.wrap (((H.length + 1 : Nat) : Int) - 1) = (H.length : Int) := by rw [IntWalk.i64_in _ (by omega)]; omega
  have e2 : wrap64 (((H.length + 1 : Nat) : Int) - 1) = (H.length : Int) := by rw [IntWalk.wrap64_in _ (by omega)]; omega
  clear hp1 hn1 hk1 HPU hMp
  go_wp2_with fail
  refine (hlen_any _ _ _ _).mono ?_
  rintro e w2 ⟨rfl, rfl⟩
  go_wp2_with fail
  refine (hup_any b0 B H.length _ (H ++ [x]) _ HP1.out (by simp) (by simp; omega)).mono ?_
  rintro e w3 ⟨rfl, H3, hT⟩
  have HF := Lib.hid (show (H3.length = H.length + 1 ∧ ∀ y, y ∈ H3 ↔ y = x ∨ y ∈ H) from ⟨by rw [hT.len]; simp, fun y => by rw [hT.sw.all rfl y, List.mem_append, List.mem_singleton]; exact Or.comm⟩)
  have HP3 := Lib.hid hT.hp
  have HK3 := Lib.hid (show ∀ j, j < w2.heap.size → ¬ (some j = (Value.slice (some ⟨g, 0, none⟩) (H.length + 1) cap).ownBlock) → w3.heap[j]? = w2.heap[j]? from fun j hj hn => hT.gr.block j hj hn)
  have HGR := Lib.hid hT.gr
  clear hT hMl hbx
  go_wp2
  go_end0
  refine ⟨rfl, _, H3, HF.out, HP3.out, HN1.out, ⟨HGR.out.os.trans HK1.out.os, HGR.out.tape.trans HK1.out.tape, HGR.out.output.trans HK1.out.output, Nat.le_trans HK1.out.size HGR.out.size, fun j hj hx => ?_⟩⟩
  refine (HGR.out.block j (Nat.lt_of_lt_of_le hj HK1.out.size) (fun e => ?_)).trans (HK1.out.block j hj hx)
  rcases HN1.out with h | h
  · exact hx (.inr (h.symm.trans e.symm))
  · have := h j e.symm
    omega
end Go.Proofs.Ytpfnpinoamjcjaa
namespace Go.Proofs.Ytpfnpinoamjcjaa
open Go.ChangeShapes Go.WideShapes Go.ChangeAt Go.RowKit Go.BigFrame
set_option linter.unusedVariables false
set_option linter.unusedSimpArgs false

theorem row_setCells {g : Nat} {t : TypeId} : ∀ (vs : List Value) (o : Nat) (w : World) (cur : Array Value), w.heap[g]? = some (.cells cur t (0, 0)) → o + vs.length ≤ cur.size →
    ∃ cur' : Array Value, (w.setCells g o vs).heap[g]? = some (.cells cur' t (0, 0)) ∧ cur'.size = cur.size ∧ ∀ j, j < cur.size → cur'[j]? = if o ≤ j ∧ j < o + vs.length then vs[j - o]? else cur[j]?
  | [], o, w, cur, h, _ => ⟨cur, h, rfl, fun j hj => by rw [if_neg (by simp)]⟩
  | v :: r, o, w, cur, h, hl => by
    simp only [List.length_cons] at hl
    obtain ⟨cur', h1, h2, h3⟩ := row_setCells r (o + 1) (w.setCell ⟨g, o, none⟩ v) (cur.setIfInBounds o v) (set_cells v h) (by simp; omega)
    refine ⟨cur', h1, by rw [h2]; simp, fun j hj => ?_⟩
    rw [h3 j (by simpa using hj)]
    by_cases h4 : j = o
    · subst h4
      rw [if_neg (by omega), if_pos (by simp), Nat.sub_self, Array.getElem?_setIfInBounds_self_of_lt hj]
      rfl
    · rw [Array.getElem?_setIfInBounds_ne (fun e => h4 e.symm)]
      by_cases h5 : o + 1 ≤ j ∧ j < o + 1 + r.length
      · rw [if_pos h5, if_pos (by simp only [List.length_cons]; omega), show j - o = (j - (o + 1)) + 1 by omega, List.getElem?_cons_succ]
      · rw [if_neg h5, if_neg (by simp only [List.length_cons]; omega)]
theorem cells_of_row {w : World} {g : Nat} {t : TypeId} {cur : Array Value} (h : w.heap[g]? = some (.cells cur t (0, 0))) (j : Nat) : w.cell? ⟨g, j, none⟩ = cur[j]? := cell_of_row _ _ _ _ _ _ h
theorem frozen_row {w : World} {g : Nat} {t : TypeId} {cur : Array Value} (h : w.heap[g]? = some (.cells cur t (0, 0))) (j : Nat) : w.frozen? ⟨g, j, none⟩ = false := frozen_of_row _ _ _ _ _ h
/-- links of one's own at the row -/
def LRow (w0 w : World) (g n cap : Nat) (ks : List K2) (cur : Array Value) : Prop :=
  ks.length = n ∧ w0.heap.size ≤ g ∧ w.heap[g]? = some (.cells cur 49 (0, 0)) ∧ n ≤ cap ∧ cap ≤ maxLen ∧ cur.size = cap * 2 ∧ cur.toList.take (n * 2) = keyCells ks ∧ Below w0.heap.size w0 w
theorem LlD.row {w0 w : World} {v : Value} {ks : List K2} (h : LlD w0 w v ks) : (v = .slice none 0 0 ∧ ks = []) ∨ ∃ g cap cur, v = .slice (some ⟨g, 0, none⟩) ks.length cap ∧ LRow w0 w g ks.length cap ks cur := by
  rcases h.1.2 with ⟨h1, h2⟩ | ⟨g, cap, cur, h1, h2, h3, h4, h5, h6, h7⟩
  · exact .inl ⟨h1, List.length_eq_zero_iff.1 h2⟩
  · exact .inr ⟨g, cap, cur, h1, rfl, h2, h3, h4, h5, h6, h7, h.2⟩
theorem LRow.llD {w0 w : World} {g n cap : Nat} {ks : List K2} {cur : Array Value} (h : LRow w0 w g n cap ks cur) : LlD w0 w (.slice (some ⟨g, 0, none⟩) n cap) ks := by
  obtain ⟨rfl, h2, h3, h4, h5, h6, h7, h8⟩ := h
  exact ⟨⟨keyCells_len ks, .inr ⟨g, cap, cur, rfl, h2, h3, h4, h5, h6, h7⟩⟩, h8⟩
theorem LRow.get {w0 w : World} {g n cap : Nat} {ks : List K2} {cur : Array Value} (h : LRow w0 w g n cap ks cur) (j : Nat) (hj : j < n * 2) : cur[j]? = (keyCells ks)[j]? := by
  obtain ⟨h1, h2, h3, h4, h5, h6, h7, h8⟩ := h
  rw [← h7, List.getElem?_take_of_lt hj, Array.getElem?_toList]
theorem LRow.drew {w0 w : World} {g n cap : Nat} {ks : List K2} {cur : Array Value} (h : LRow w0 w g n cap ks cur) : LRow w0 w.drew g n cap ks cur := ⟨h.1, h.2.1, h.2.2.1, h.2.2.2.1, h.2.2.2.2.1, h.2.2.2.2.2.1, h.2.2.2.2.2.2.1, h.2.2.2.2.2.2.2.drew⟩
/-- what is written into the row: the links become others -/
theorem LRow.write {w0 w : World} {g n m cap : Nat} {ks ls : List K2} {cur : Array Value} (h : LRow w0 w g n cap ks cur) (o : Nat) (vs : List Value) (ho : o + vs.length ≤ cap * 2) (hm : ls.length = m) (hmc : m ≤ cap)
    (hl : ∀ j, j < m * 2 → (keyCells ls)[j]? = if o ≤ j ∧ j < o + vs.length then vs[j - o]? else cur[j]?) : ∃ cur', LRow w0 (w.setCells g o vs) g m cap ls cur' ∧ ∀ j, j < cur.size → cur'[j]? = if o ≤ j ∧ j < o + vs.length then vs[j - o]? else cur[j]? := by
  obtain ⟨h1, h2, h3, h4, h5, h6, h7, h8⟩ := h
  obtain ⟨cur', c1, c2, c3⟩ := row_setCells vs o w cur h3 (by rw [h6]; exact ho)
  refine ⟨cur', ⟨hm, h2, c1, hmc, h5, by rw [c2, h6], ?_, Lib.below_setCells g h2 vs o h8⟩, c3⟩
  have hkl := keyCells_len ls
  rw [hm] at hkl
  apply List.ext_getElem?
  intro j
  by_cases hj : j < m * 2
  · rw [List.getElem?_take_of_lt hj, Array.getElem?_toList, c3 j (by omega), hl j hj]
  · rw [List.getElem?_eq_none (by simp; omega), List.getElem?_eq_none (by omega)]
theorem keyCells_drop (ks : List K2) (i : Nat) : keyCells (ks.drop i) = (keyCells ks).drop (i * 2) := by
  have e : keyCells ks = keyCells (ks.take i) ++ keyCells (ks.drop i) := by rw [← keyCells_appL, List.take_append_drop]
  have hl := keyCells_len (ks.take i)
  rw [List.length_take] at hl
  by_cases hi : i ≤ ks.length
  · rw [e, List.drop_left' (by rw [hl]; omega)]
  · rw [List.drop_eq_nil_of_le (by omega), List.drop_eq_nil_of_le (by rw [keyCells_len]; omega)]; rfl
end Go.Proofs.Ytpfnpinoamjcjaa
namespace Go.Proofs.Ytpfnpinoamjcjaa
open Go.ChangeShapes Go.WideShapes Go.ChangeAt Go.RowKit Go.BigFrame
set_option linter.unusedVariables false
set_option linter.unusedSimpArgs false

theorem LRow.copyOk {w0 w : World} {g n cap : Nat} {ks : List K2} {cur : Array Value} (h : LRow w0 w g n cap ks cur) (o k : Nat) (ho : o + k ≤ cap * 2) : (∀ j, j < k → (w.cell? ⟨g, o + j, none⟩).isSome = true) ∧ ∀ j, j < k → w.frozen? ⟨g, o + j, none⟩ = false :=
  ⟨fun j hj => by rw [cells_of_row h.2.2.1, Array.getElem?_eq_getElem (by rw [h.2.2.2.2.2.1]; omega)]; rfl, fun j hj => frozen_row h.2.2.1 _⟩
theorem LRow.srcOk {w0 w : World} {g n cap : Nat} {ks : List K2} {cur : Array Value} (h : LRow w0 w g n cap ks cur) (i : Nat) (hi : i ≤ n) : ∀ (j : Nat) (v : Value), (keyCells (ks.drop i))[j]? = some v → w.cell? ((⟨g, i * 2, none⟩ : Addr).add j) = some v := fun j v hj => by
  have hjl : j < (n - i) * 2 := by
    have := (List.getElem?_eq_some_iff.1 hj).1
    rwa [keyCells_len, List.length_drop, h.1] at this
  rw [addr_plusK, cells_of_row h.2.2.1, h.get _ (by omega)]
  rwa [keyCells_drop, List.getElem?_drop] at hj
end Go.Proofs.Ytpfnpinoamjcjaa
namespace Go.Proofs.Ytpfnpinoamjcjaa
open Go.ChangeShapes Go.WideShapes Go.ChangeAt Go.RowKit Go.BigFrame
set_option linter.unusedVariables false
set_option linter.unusedSimpArgs false

theorem grown_setCells (g : Nat) : ∀ (vs : List Value) (o : Nat) (w : World), w.grownBy (w.setCells g o vs) (some g)
  | [], _, w => World.grownBy.refl _ _
  | v :: r, o, w => grownT (Lib.grownBy_setCell w g o v) (grown_setCells g r (o + 1) _)
theorem wpList_append_in2 {ops : Array Oper} {rest : List Oper} {o : Oper} {a : Act} {w : World} {Q : Exit → Act → World → Prop} (hgd : o.guard = none) (s x : Operand)
    (ho : o.op = .call { callee := .builtin .append, args := #[s, x], argTypes := #[33, 33] })
    {base : Nat} {v : Value} {xs : List Int} (hown : w.ownsRow base 3 1 v xs.length (intsV xs)) (g : Nat) (z : Int) (hu : w.heap[g]? = some (.cells #[.int .i64 z] 3 (0, 0))) (hs : a.eval s = v) (hx : a.eval x = .slice (some ⟨g, 0, none⟩) 1 1) (hn : xs.length ≤ 1000000) (hbase : base ≤ w.heap.size)
    (h : ∀ v' w', w'.ownsRow base 3 1 v' (xs ++ [z]).length (intsV (xs ++ [z])) → w.grownBy w' v.ownBlock → (v'.ownBlock = v.ownBlock ∨ v'.ownBlock = some w.heap.size) → wpList Try.prog ops Q rest (a.put o.dst v') w') : wpList Try.prog ops Q (o :: rest) a w := by
  refine wpList_plain hgd fun K hK => ?_
  obtain ⟨i0, hi, hz0, hz1, hz2⟩ := info_parts infoInt
  obtain ⟨v', w', hr, h2, h3, h4, h5⟩ := run_append_own_at (P := Try.prog) w base 33 o.type 3 i0 (.int .i64 0) 1 8 Try.underlying33 hi hz0 hz1 hz2 rfl (by decide) v xs.length (intsV xs) hown ⟨g, 0, none⟩ 1 1 [.int .i64 z] rfl
    (fun j u hj => by
      have hadd : (⟨g, 0, none⟩ : Addr).add j = ⟨g, j, none⟩ := by unfold Addr.add; split <;> simp_all
      rw [hadd, cell_of_row _ _ _ _ _ _ hu]
      simpa using hj) (fun u hu => by rcases List.mem_singleton.1 hu with rfl; rfl) (by unfold maxLen; omega) (by omega) hbase
  unfold Oper.wp execOp
  simp only [ho, resolve, invoke, builtin, Sem.run_bind, Sem.run_pure, Result.andThen_ok, List.map_toArray, List.map_cons, List.map_nil, hs, hx, hr]
  refine hK _ _ (h v' w' ?_ h3 h5)
  rw [List.length_append, intsV_app]
  exact h2
def insI (xs : List Int) (l : Int) (i : Nat) : List Int := xs.take i ++ l :: xs.drop i
/-- links of one's own at the row -/
def IRow (w0 w : World) (g n cap : Nat) (ks : List Int) (cur : Array Value) : Prop :=
  ks.length = n ∧ w0.heap.size ≤ g ∧ w.heap[g]? = some (.cells cur 3 (0, 0)) ∧ n ≤ cap ∧ cap ≤ maxLen ∧ cur.size = cap ∧ cur.toList.take (n) = intsV ks ∧ Below w0.heap.size w0 w
theorem IlD.row {w0 w : World} {v : Value} {ks : List Int} (h : IlD w0 w v ks) : (v = .slice none 0 0 ∧ ks = []) ∨ ∃ g cap cur, v = .slice (some ⟨g, 0, none⟩) ks.length cap ∧ IRow w0 w g ks.length cap ks cur := by
  rcases h.1.2 with ⟨h1, h2⟩ | ⟨g, cap, cur, h1, h2, h3, h4, h5, h6, h7⟩
  · exact .inl ⟨h1, List.length_eq_zero_iff.1 h2⟩
  · exact .inr ⟨g, cap, cur, h1, rfl, h2, h3, h4, h5, by omega, by rwa [Nat.mul_one] at h7, h.2⟩
theorem IRow.ilD {w0 w : World} {g n cap : Nat} {ks : List Int} {cur : Array Value} (h : IRow w0 w g n cap ks cur) : IlD w0 w (.slice (some ⟨g, 0, none⟩) n cap) ks := by
  obtain ⟨rfl, h2, h3, h4, h5, h6, h7, h8⟩ := h
  exact ⟨⟨by rw [intsV_len, Nat.mul_one], .inr ⟨g, cap, cur, rfl, h2, h3, h4, h5, by omega, by rwa [Nat.mul_one]⟩⟩, h8⟩
theorem IRow.get {w0 w : World} {g n cap : Nat} {ks : List Int} {cur : Array Value} (h : IRow w0 w g n cap ks cur) (j : Nat) (hj : j < n) : cur[j]? = (intsV ks)[j]? := by
  obtain ⟨h1, h2, h3, h4, h5, h6, h7, h8⟩ := h
  rw [← h7, List.getElem?_take_of_lt hj, Array.getElem?_toList]
theorem IRow.drew {w0 w : World} {g n cap : Nat} {ks : List Int} {cur : Array Value} (h : IRow w0 w g n cap ks cur) : IRow w0 w.drew g n cap ks cur := ⟨h.1, h.2.1, h.2.2.1, h.2.2.2.1, h.2.2.2.2.1, h.2.2.2.2.2.1, h.2.2.2.2.2.2.1, h.2.2.2.2.2.2.2.drew⟩
/-- what is written into the row: the links become others -/
theorem IRow.write {w0 w : World} {g n m cap : Nat} {ks ls : List Int} {cur : Array Value} (h : IRow w0 w g n cap ks cur) (o : Nat) (vs : List Value) (ho : o + vs.length ≤ cap) (hm : ls.length = m) (hmc : m ≤ cap)
    (hl : ∀ j, j < m → (intsV ls)[j]? = if o ≤ j ∧ j < o + vs.length then vs[j - o]? else cur[j]?) : ∃ cur', IRow w0 (w.setCells g o vs) g m cap ls cur' ∧ ∀ j, j < cur.size → cur'[j]? = if o ≤ j ∧ j < o + vs.length then vs[j - o]? else cur[j]? := by
  obtain ⟨h1, h2, h3, h4, h5, h6, h7, h8⟩ := h
  obtain ⟨cur', c1, c2, c3⟩ := row_setCells vs o w cur h3 (by rw [h6]; exact ho)
  refine ⟨cur', ⟨hm, h2, c1, hmc, h5, by rw [c2, h6], ?_, Lib.below_setCells g h2 vs o h8⟩, c3⟩
  have hkl := intsV_len ls
  rw [hm] at hkl
  apply List.ext_getElem?
  intro j
  by_cases hj : j < m
  · rw [List.getElem?_take_of_lt hj, Array.getElem?_toList, c3 j (by omega), hl j hj]
  · rw [List.getElem?_eq_none (by simp; omega), List.getElem?_eq_none (by omega)]
theorem intsV_take (xs : List Int) (i : Nat) : intsV (xs.take i) = (intsV xs).take i := by simp [intsV, List.map_take]
theorem intsV_drop (xs : List Int) (i : Nat) : intsV (xs.drop i) = (intsV xs).drop i := by simp [intsV, List.map_drop]
theorem ki_ins (A B : List Int) (x : Int) (i j : Nat) (hA : A.length = i) : (intsV (A ++ x :: B))[j]? = if j < i then (intsV A)[j]? else if j < (i + 1) then ([.int .i64 x] : List Value)[j - i]? else (intsV B)[j - (i + 1)]? := by
  have e : intsV (A ++ x :: B) = intsV A ++ ([.int .i64 x] ++ intsV B) := by simp [intsV]
  have hl : (intsV A).length = i := by rw [intsV_len, hA]
  rw [e]
  by_cases h1 : j < i
  · rw [if_pos h1, List.getElem?_append_left (by omega)]
  · rw [if_neg h1, List.getElem?_append_right (by omega), hl]
    by_cases h2 : j < (i + 1)
    · rw [if_pos h2, List.getElem?_append_left (by simp; omega)]
    · rw [if_neg h2, List.getElem?_append_right (by simp; omega)]
      simp only [List.length_cons, List.length_nil]
      rw [show j - i - (0 + 1) = j - (i + 1) by omega]
theorem writeI_tail {w0 w : World} {g n m cap i : Nat} {A B C : List Int} {x : Int} {cur : Array Value} (h : IRow w0 w g n cap (A ++ x :: B) cur) (hA : A.length = i) (hm : i + 1 + C.length = m) (hmc : m ≤ cap) : ∃ cur', IRow w0 (w.setCells g ((i + 1)) (intsV C)) g m cap (A ++ x :: C) cur' := by
  have hn : i + 1 + B.length = n := by rw [← h.1, ← hA]; simp; omega
  obtain ⟨cur', hw, -⟩ := h.write ((i + 1)) (intsV C) (m := m) (ls := A ++ x :: C) (by rw [intsV_len]; omega) (by rw [← hm, ← hA]; simp; omega) hmc (fun j hj => by
    rw [ki_ins A C x i j hA]
    by_cases h1 : j < (i + 1)
    · have h2 : ¬ ((i + 1) ≤ j ∧ j < (i + 1) + (intsV C).length) := by omega
      have := h.get j (by omega)
      rw [ki_ins A B x i j hA] at this
      rw [if_neg h2, this]
      simp only [if_pos h1]
    · rw [if_neg (by omega), if_neg h1, if_pos (by rw [intsV_len]; omega)])
  exact ⟨cur', hw⟩
theorem writeI_mid {w0 w : World} {g m cap i : Nat} {A B : List Int} {x y : Int} {cur : Array Value} (h : IRow w0 w g m cap (A ++ x :: B) cur) (hA : A.length = i) : ∃ cur', IRow w0 (w.setCells g (i) [.int .i64 y]) g m cap (A ++ y :: B) cur' := by
  have hn : i + 1 + B.length = m := by rw [← h.1, ← hA]; simp; omega
  have hc := h.2.2.2.1
  obtain ⟨cur', hw, -⟩ := h.write (i) [.int .i64 y] (m := m) (ls := A ++ y :: B) (by simp; omega) (by rw [← hn, ← hA]; simp; omega) hc (fun j hj => by
    rw [ki_ins A B y i j hA]
    have := h.get j hj
    rw [ki_ins A B x i j hA] at this
    by_cases h1 : j < i
    · rw [if_pos h1, if_neg (by omega), this, if_pos h1]
    · by_cases h2 : j < (i + 1)
      · rw [if_neg h1, if_pos h2, if_pos (by simp; omega)]
      · rw [if_neg h1, if_neg h2, if_neg (by simp; omega), this, if_neg h1, if_neg h2])
  exact ⟨cur', hw⟩
theorem run_copy_in (w : World) (ty : TypeId) (b o dLen dCap : Nat) (a : Addr) (sLen sCap k : Nat) (cs : List Value) (hk : k = Nat.min sLen dLen) (hn : cs.length = k)
    (hsrc : ∀ j v, cs[j]? = some v → w.cell? (a.add j) = some v) (hc : ∀ j, j < cs.length → (w.cell? ⟨b, o + j, none⟩).isSome = true) (hf : ∀ j, j < cs.length → w.frozen? ⟨b, o + j, none⟩ = false) (h1 : ∀ v ∈ cs, v.oneCell' = true) :
    (Builtin.copy_ #[33, 33] ty #[.slice (some ⟨b, o, none⟩) dLen dCap, .slice (some a) sLen sCap]).run Try.prog w = .ok (goInt k) (w.setCells b o cs) := by
  obtain ⟨i0, hin, hz0, hz1, hz2⟩ := info_parts infoInt
  have := run_copy_cells (P := Try.prog) w 33 33 ty 3 b o dLen dCap a sLen sCap cs Try.underlying33 (by rw [hin]; simp [hz1]) (by omega) hsrc hc hf h1
  rw [hn] at this
  exact this
theorem IRow.copyOk {w0 w : World} {g n cap : Nat} {ks : List Int} {cur : Array Value} (h : IRow w0 w g n cap ks cur) (o k : Nat) (ho : o + k ≤ cap) : (∀ j, j < k → (w.cell? ⟨g, o + j, none⟩).isSome = true) ∧ ∀ j, j < k → w.frozen? ⟨g, o + j, none⟩ = false :=
  ⟨fun j hj => by rw [cells_of_row h.2.2.1, Array.getElem?_eq_getElem (by rw [h.2.2.2.2.2.1]; omega)]; rfl, fun j hj => frozen_row h.2.2.1 _⟩
theorem IRow.srcOk {w0 w : World} {g n cap : Nat} {ks : List Int} {cur : Array Value} (h : IRow w0 w g n cap ks cur) (i : Nat) (hi : i ≤ n) : ∀ (j : Nat) (v : Value), (intsV (ks.drop i))[j]? = some v → w.cell? ((⟨g, i, none⟩ : Addr).add j) = some v := fun j v hj => by
  have hjl : j < (n - i) := by
    have := (List.getElem?_eq_some_iff.1 hj).1
    rwa [intsV_len, List.length_drop, h.1] at this
  rw [addr_plusK, cells_of_row h.2.2.1, h.get _ (by omega)]
  rwa [intsV_drop, List.getElem?_drop] at hj
theorem grownI_row {w0 w : World} {g n cap : Nat} {ks : List Int} {cur : Array Value} (h : IRow w0 w g n cap ks cur) (i G : Nat) (hi : i ≤ n) (hG : n + 1 ≤ G) (hGm : G ≤ maxLen) :
    IRow w0 (w.drew.alloc (.cells (((intsV ks).take (i)).toArray ++ Builtin.zeroCells #[.int .i64 0] (n + 1 - i) ++ Builtin.zeroCells #[.int .i64 0] (G - (n + 1))) 3)) w.heap.size (n + 1) G (ks.take i ++ 0 :: List.replicate (n - i) 0) (((intsV ks).take (i)).toArray ++ Builtin.zeroCells #[.int .i64 0] (n + 1 - i) ++ Builtin.zeroCells #[.int .i64 0] (G - (n + 1))) := by
  have h1 := h.1
  have hb := h.2.2.2.2.2.2.2
  have hzs : ∀ k, (Builtin.zeroCells #[Value.int .i64 0] k).size = k := fun k => by simp [Builtin.zeroCells]
  have hkl : ((intsV ks).take (i)).length = i := by rw [List.length_take, intsV_len]; omega
  have hzl : (Builtin.zeroCells #[Value.int .i64 0] (n + 1 - i)).toList = intsV (0 :: List.replicate (n - i) 0) := by
    rw [show (0 :: List.replicate (n - i) 0 : List Int) = List.replicate (n + 1 - i) 0 by rw [show n + 1 - i = (n - i) + 1 by omega]; rfl]
    apply List.ext_getElem
    · simp [hzs, intsV]
    · intro j hj1 hj2
      simp [Builtin.zeroCells, intsV, Nat.mod_one]
  refine ⟨by simp; omega, Nat.le_trans hb.size (Nat.le_refl _), heap_alloc_new _ _, hG, hGm, ?_, ?_, hb.drew.alloc hb.size _⟩
  · simp only [Array.size_append, List.size_toArray, hkl, hzs]
    omega
  · simp only [Array.toList_append, List.toList_toArray, hzl]
    rw [intsV_app, intsV_take, List.take_append_of_le_length (by simp [hkl, intsV_len]; omega), List.take_of_length_le (by simp [hkl, intsV_len]; omega)]
theorem insI_nth (ks : List Int) (i : Nat) (hi : i < ks.length) : ks = ks.take i ++ ks.getD i 0 :: ks.drop (i + 1) := by
  have e : ks.getD i 0 = ks[i] := by simp [List.getD, hi]
  rw [e, ← List.drop_eq_getElem_cons hi, List.take_append_drop]
set_option maxRecDepth 100000 in
set_option maxHeartbeats 4000000 in
/-- there is room: in place -/
theorem iinsertI_room (g n cap i gl : Nat) (ks : List Int) (p : Int) (cur : Array Value) (w0 w : World) (hrow : IRow w0 w g n cap ks cur) (hl : w.heap[gl]? = some (.cells #[.int .i64 p] 3 (0, 0))) (hne : gl ≠ g) (hi : i < n) (hroom : n + 1 ≤ cap) :
    Calls Try.prog 72 #[.slice (some ⟨g, 0, none⟩) n cap, .int .i64 i, .slice (some ⟨gl, 0, none⟩) 1 1] w fun e w' => ∃ v', e = .returned v' ∧ IlD w0 w' v' (insI ks p i) ∧ w.grownBy w' (some g) ∧ (v'.ownBlock = (some g) ∨ ∀ b, v'.ownBlock = some b → w.heap.size ≤ b) := by
  have u := Try.underlying33
  have hcm := hrow.2.2.2.2.1
  unfold maxLen at hcm
  have hk1 := hrow.1
  have hov : ∀ lb cb, (callFunc 79 #[.slice (some ⟨gl, 0, none⟩) 1 1, .slice (some ⟨g, (i + 1), none⟩) lb cb]).run Try.prog w = .ok (.value (.bool false)) w := fun lb cb => by
    rw [run_callFunc_extern Try.func79 (by kernel_rfl) (by kernel_rfl) (by kernel_rfl) (e := Extern.SlicesOverlaps.overlaps #[33, 33] #[4]) (by kernel_rfl),
      Lib.run_overlaps_apart w 33 4 3 u 1 (fun w => by obtain ⟨i0, hin, hz0, hz1, hz2⟩ := info_parts infoInt; simp [sizeOf, typeInfo, hin, hz1]) ⟨gl, 0, none⟩ ⟨g, (i + 1), none⟩ 1 1 lb cb hne 3 3 1 cur.size (by simp [World.shape?, hl]) (by simp [World.shape?, hrow.2.2.1]) (by rw [hrow.2.2.2.2.2.1]; omega) (frozen_row hl _) (frozen_row hl _)]
    rfl
  have hA : (ks.take i).length = i := by rw [List.length_take]; omega
  have hdl : (intsV (ks.drop i)).length = (n - i) := by rw [intsV_len, List.length_drop, hk1]
  have hsp := hrow.drew.copyOk ((i + 1)) ((n - i)) (by omega)
  have hcp1 : ∀ ty dl dc sl sc, n - i = Nat.min sl dl → (Builtin.copy_ #[33, 33] ty #[.slice (some ⟨g, (i + 1), none⟩) dl dc, .slice (some ⟨g, i, none⟩) sl sc]).run Try.prog w.drew = .ok (goInt (n - i : Nat)) (w.drew.setCells g ((i + 1)) (intsV (ks.drop i))) := fun ty dl dc sl sc hmin =>
    run_copy_in w.drew ty g ((i + 1)) _ dc ⟨g, i, none⟩ _ sc (n - i) _ hmin hdl (hrow.drew.srcOk i (by omega)) (fun j hj => hsp.1 j (by omega)) (fun j hj => hsp.2 j (by omega)) (intsV_one _)
  have hrd := hrow.drew
  have hW1r : ∃ cur1, IRow w0 (w.drew.setCells g ((i + 1)) (intsV (ks.drop i))) g (n + 1) cap (ks.take i ++ ks.getD i 0 :: ks.drop i) cur1 := by
    rw [insI_nth ks i (by omega)] at hrd
    have := writeI_tail (m := n + 1) (C := ks.drop i) hrd hA (by rw [List.length_drop]; omega) hroom
    exact this
  have hlt := (Array.getElem?_eq_some_iff.1 hl).1
  have hl1 : (w.drew.setCells g ((i + 1)) (intsV (ks.drop i))).heap[gl]? = some (.cells #[.int .i64 p] 3 (0, 0)) := (World.heap_setCells_other w.drew g _ _ hlt hne).trans hl
  obtain ⟨W1, hW1⟩ : ∃ W1, W1 = w.drew.setCells g ((i + 1)) (intsV (ks.drop i)) := ⟨_, rfl⟩
  rw [← hW1] at hcp1 hW1r hl1
  obtain ⟨cur1, hr1⟩ := hW1r
  have hc2 := hr1.copyOk (i) 1 (by omega)
  have hcp2 : ∀ ty dl dc, 1 = Nat.min 1 dl → (Builtin.copy_ #[33, 33] ty #[.slice (some ⟨g, i, none⟩) dl dc, .slice (some ⟨gl, 0, none⟩) 1 1]).run Try.prog W1 = .ok (goInt (1 : Nat)) (W1.setCells g (i) [.int .i64 p]) := fun ty dl dc hmin =>
    run_copy_in W1 ty g (i) _ dc ⟨gl, 0, none⟩ _ 1 1 _ hmin rfl (fun j v hj => by rw [addr_plusK, cells_of_row hl1, Nat.zero_add]; simpa using hj) hc2.1 hc2.2 (by intro v hv; simp at hv; subst hv; rfl)
  obtain ⟨cur2, hr2⟩ := writeI_mid (y := p) hr1 hA
  have HFIN := Lib.hid (show IlD w0 (W1.setCells g (i) [.int .i64 p]) (.slice (some ⟨g, 0, none⟩) (n + 1) cap) (insI ks p i) from hr2.ilD)
  have mixed : Try.prog.follows .mixedOrders = true := by kernel_rfl
  have z11 : (i : Int) ≤ (n : Int) + 1 := by omega
  have HGR := Lib.hid (show w.grownBy (W1.setCells g (i) [.int .i64 p]) (some g) from by rw [hW1]; exact grownT (grownT (grown_of_below' (Below.refl w.heap.size w).drew _) (grown_setCells g _ _ _)) (grown_setCells g _ _ _))
  have z1 : ¬ (i : Int) = (n : Int) := by omega
  have z2 : ¬ (cap : Int) < (n : Int) + 1 := by omega
  have z3 : (n : Int) + 1 ≤ (cap : Int) := by omega
  have z4 : (i : Int) ≤ (n : Int) := by omega
  have z5 : (i : Int) + 1 ≤ (n : Int) + 1 := by omega
  have z6 : ¬ cap = i := by omega
  have z7 : ¬ cap = i + 1 := by omega
  have z8 : (0 : Int) ≤ (i : Int) + 1 := by omega
  have z9 : ((i : Int) + 1).toNat = i + 1 := by omega
  have z10 : ((n : Int) + 1).toNat = n + 1 := by omega
  have w1 : IntKind.i64.wrap ((n : Int) + 1) = (n : Int) + 1 := IntWalk.i64_in _ (by omega)
  have w2 : IntKind.i64.wrap ((i : Int) + 1) = (i : Int) + 1 := IntWalk.i64_in _ (by omega)
  clear hr2 hr1 hc2 hl1 hrd hsp hdl hA hrow hl hlt hk1 hW1
  go_enter Try.func72, Try.ntmps72
  go_wp2_with (simp only [hov])
  go_region_law_o (refine step_copy_runI rfl _ _ 33 33 rfl (.slice (some ⟨g, (i + 1), none⟩) (n + 1 - (i + 1)) (cap - (i + 1))) (.slice (some ⟨g, i, none⟩) (n + 1 - i) (cap - i)) (by simp [Act.eval, Act.put]) (by simp [Act.eval, Act.put]) (hcp1 3 (n + 1 - (i + 1)) (cap - (i + 1)) (n + 1 - i) (cap - i) (by simp only [Nat.min_def]; split <;> omega)) ?_)
  have hcp2x := hcp2 3 (n + 1 - i) (cap - i) (by simp only [Nat.min_def]; split <;> omega)
  clear hcp2 hcp1 hov
  go_wp2
  go_ret
  exact ⟨_, rfl, HFIN.out, HGR.out, .inl rfl⟩
set_option maxRecDepth 100000 in
set_option maxHeartbeats 4000000 in
/-- there is no room: a new row -/
theorem iinsertI_grow (g n cap i gl : Nat) (ks : List Int) (p : Int) (cur : Array Value) (w0 w : World) (hrow : IRow w0 w g n cap ks cur) (hl : w.heap[gl]? = some (.cells #[.int .i64 p] 3 (0, 0))) (hi : i < n) (hn : n ≤ 1500000) (hroom : ¬ n + 1 ≤ cap) :
    Calls Try.prog 72 #[.slice (some ⟨g, 0, none⟩) n cap, .int .i64 i, .slice (some ⟨gl, 0, none⟩) 1 1] w fun e w' => ∃ v', e = .returned v' ∧ IlD w0 w' v' (insI ks p i) ∧ w.grownBy w' (some g) ∧ (v'.ownBlock = (some g) ∨ ∀ b, v'.ownBlock = some b → w.heap.size ≤ b) := by
  have u := Try.underlying33
  have ui := Try.underlying3
  obtain ⟨i0, hin, hz0, hz1, hz2⟩ := info_parts infoInt
  have hnc := hrow.2.2.2.1
  obtain rfl : cap = n := by omega
  have hk1 := hrow.1
  have hbw := (Array.getElem?_eq_some_iff.1 hrow.2.2.1).1
  have hlt := (Array.getElem?_eq_some_iff.1 hl).1
  have hA : (ks.take i).length = i := by rw [List.length_take]; omega
  have hold : (Builtin.firstCells i0.size i (.slice (some ⟨g, 0, none⟩) i cap)).run Try.prog w.drew = .ok ((intsV ks).take (i)).toArray w.drew := by
    rw [hz1]
    exact run_firstCells_some (P := Try.prog) w.drew 1 i ⟨g, 0, none⟩ i cap ((intsV ks).take (i)) (by rw [List.length_take, intsV_len, hk1]; omega) (fun j v hj => by
      rw [addr_plusK, Nat.zero_add, cells_of_row hrow.drew.2.2.1]
      rw [List.getElem?_take] at hj
      split at hj
      · rw [hrow.drew.get _ (by omega)]; exact hj
      · cases hj)
  obtain ⟨G, hG⟩ : ∃ G, G = grownCap w (cap + 1) cap 3 := ⟨_, rfl⟩
  have hGn : cap + 1 ≤ G := by rw [hG]; exact grownCap_ge w _ _ _
  have hGm : G ≤ maxLen := by rw [hG]; exact grownCap_le_maxLen w _ _ _ (by unfold maxLen; omega)
  obtain ⟨ROW, hROW⟩ : ∃ ROW : Array Value, ROW = ((intsV ks).take (i)).toArray ++ Builtin.zeroCells #[.int .i64 0] (cap + 1 - i) ++ Builtin.zeroCells #[.int .i64 0] (G - (cap + 1)) := ⟨_, rfl⟩
  have hrz : ∀ ty, (Builtin.append_ #[33, 3] ty #[.slice (some ⟨g, 0, none⟩) i cap, .int .i64 ((cap : Int) + 1 - (i : Int))]).run Try.prog w = .ok (.slice (some ⟨w.heap.size, 0, none⟩) (cap + 1) G) (w.drew.alloc (.cells ROW 3)) := fun ty => by
    have h := Lib.run_append_grow_zeros (P := Try.prog) w 33 3 ty 3 i0 _ .i64 .i64 u ui hin hz0 (some ⟨g, 0, none⟩) i cap ((intsV ks).take (i)) hold (cap + 1 - i) (by omega) (by rw [hz1]; omega) (by omega) (by omega) (by rw [hz2]; omega) (by rw [hz2, show i + (cap + 1 - i) = cap + 1 by omega]; exact growslice_fits (by omega) (by omega))
    rw [show i + (cap + 1 - i) = cap + 1 by omega, ← hG] at h
    rw [show (cap : Int) + 1 - (i : Int) = ((cap + 1 - i : Nat) : Int) by omega, hROW]
    exact h
  have hg1 := grownI_row hrow i G (by omega) hGn hGm
  rw [← hROW] at hg1
  obtain ⟨W1, hW1⟩ : ∃ W1, W1 = w.drew.alloc (.cells ROW 3) := ⟨_, rfl⟩
  obtain ⟨B, hB⟩ : ∃ B, B = w.heap.size := ⟨_, rfl⟩
  have hl1 : W1.heap[gl]? = some (.cells #[.int .i64 p] 3 (0, 0)) := by rw [hW1]; exact (Below.heap_alloc w.drew _ _ hlt).trans hl
  have hs1 : IRow w0 W1 g cap cap ks cur := by
    obtain ⟨r1, r2, r3, r4, r5, r6, r7, r8⟩ := hrow.drew
    exact ⟨r1, r2, by rw [hW1]; exact (Below.heap_alloc w.drew _ _ hbw).trans r3, r4, r5, r6, r7, by rw [hW1]; exact r8.alloc r8.size _⟩
  rw [← hW1] at hrz hg1
  rw [← hB] at hrz hg1
  have hBg : g ≠ B := by omega
  have hBl : gl ≠ B := by omega
  have hc1 := hg1.copyOk (i) 1 (by omega)
  have hcpA : ∀ ty dl dc, 1 = Nat.min 1 dl → (Builtin.copy_ #[33, 33] ty #[.slice (some ⟨B, i, none⟩) dl dc, .slice (some ⟨gl, 0, none⟩) 1 1]).run Try.prog W1 = .ok (goInt (1 : Nat)) (W1.setCells B (i) [.int .i64 p]) := fun ty dl dc hmin =>
    run_copy_in W1 ty B (i) _ dc ⟨gl, 0, none⟩ _ 1 1 _ hmin rfl (fun j v hj => by rw [addr_plusK, cells_of_row hl1, Nat.zero_add]; simpa using hj) hc1.1 hc1.2 (by intro v hv; simp at hv; subst hv; rfl)
  obtain ⟨cur2, hg2⟩ := writeI_mid (y := p) hg1 hA
  have hs2 : (W1.setCells B (i) [.int .i64 p]).heap[g]? = W1.heap[g]? := World.heap_setCells_other W1 B _ _ (Array.getElem?_eq_some_iff.1 hs1.2.2.1).1 hBg
  obtain ⟨W2, hW2⟩ : ∃ W2, W2 = W1.setCells B (i) [.int .i64 p] := ⟨_, rfl⟩
  rw [← hW2] at hcpA hg2 hs2
  have hs3 : IRow w0 W2 g cap cap ks cur := ⟨hs1.1, hs1.2.1, hs2.trans hs1.2.2.1, hs1.2.2.2.1, hs1.2.2.2.2.1, hs1.2.2.2.2.2.1, hs1.2.2.2.2.2.2.1, hg2.2.2.2.2.2.2.2⟩
  have hdl : (intsV (ks.drop i)).length = (cap - i) := by rw [intsV_len, List.length_drop, hk1]
  have hc3 := hg2.drew.copyOk ((i + 1)) ((cap - i)) (by omega)
  have hcpB : ∀ ty dl dc sl sc, cap - i = Nat.min sl dl → (Builtin.copy_ #[33, 33] ty #[.slice (some ⟨B, (i + 1), none⟩) dl dc, .slice (some ⟨g, i, none⟩) sl sc]).run Try.prog W2.drew = .ok (goInt (cap - i : Nat)) (W2.drew.setCells B ((i + 1)) (intsV (ks.drop i))) := fun ty dl dc sl sc hmin =>
    run_copy_in W2.drew ty B ((i + 1)) _ dc ⟨g, i, none⟩ _ sc (cap - i) _ hmin hdl (hs3.drew.srcOk i (by omega)) (fun j hj => hc3.1 j (by omega)) (fun j hj => hc3.2 j (by omega)) (intsV_one _)
  obtain ⟨cur3, hg3⟩ := writeI_tail (m := cap + 1) (C := ks.drop i) hg2.drew hA (by rw [List.length_drop]; omega) hGn
  have HFIN := Lib.hid (show IlD w0 (W2.drew.setCells B ((i + 1)) (intsV (ks.drop i))) (.slice (some ⟨B, 0, none⟩) (cap + 1) G) (insI ks p i) from hg3.ilD)
  have mixed : Try.prog.follows .mixedOrders = true := by kernel_rfl
  have hcm : G ≤ 9223372036854775807 := by unfold maxLen at hGm; omega
  have z11 : (i : Int) ≤ (cap : Int) + 1 := by omega
  have HGR := Lib.hid (show w.grownBy (W2.drew.setCells B ((i + 1)) (intsV (ks.drop i))) (some g) from by
    have h1 : Below w.heap.size w W1 := by rw [hW1]; exact ((Below.refl w.heap.size w).drew).alloc (Nat.le_refl _) _
    have h2 : Below w.heap.size w W2 := by rw [hW2]; exact Lib.below_setCells B (by omega) _ _ h1
    exact grown_of_below' (Lib.below_setCells B (by omega) _ _ h2.drew) _)
  have HBB := Lib.hid (show w.heap.size ≤ B by omega)
  have z1 : ¬ (i : Int) = (cap : Int) := by omega
  have z2 : (cap : Int) < (cap : Int) + 1 := by omega
  have z3 : (cap : Int) + 1 ≤ (G : Int) := by omega
  have z4 : (i : Int) ≤ (cap : Int) := by omega
  have z5 : (i : Int) + 1 ≤ (cap : Int) + 1 := by omega
  have z6 : ¬ cap = i := by omega
  have z7 : ¬ G = i + 1 := by omega
  have z7b : ¬ G = i := by omega
  have z8 : (0 : Int) ≤ (i : Int) + 1 := by omega
  have z9 : ((i : Int) + 1).toNat = i + 1 := by omega
  have w1 : IntKind.i64.wrap ((cap : Int) + 1) = (cap : Int) + 1 := IntWalk.i64_in _ (by omega)
  have w2 : IntKind.i64.wrap ((i : Int) + 1) = (i : Int) + 1 := IntWalk.i64_in _ (by omega)
  have w3 : IntKind.i64.wrap ((cap : Int) + 1 - (i : Int)) = (cap : Int) + 1 - (i : Int) := IntWalk.i64_in _ (by omega)
  clear hg3 hc3 hdl hs3 hW2 hs2 hg2 hc1 hs1 hl1 hW1 hg1 hROW hold hA hlt hbw hrow hl hk1 hG hGm hB hnc hroom
  go_enter Try.func72, Try.ntmps72
  have hcpx := hcpA 3 (cap + 1 - i) (G - i) (by simp only [Nat.min_def]; split <;> omega)
  clear hcpA
  go_wp2_with (at_builtin; refine Lib.wpList_append_run _ rfl _ _ _ _ rfl _ _ rfl rfl _ _ (hrz _) ?_)
  go_region_law_o (refine step_copy_runI rfl _ _ 33 33 rfl (.slice (some ⟨B, (i + 1), none⟩) (cap + 1 - (i + 1)) (G - (i + 1))) (.slice (some ⟨g, i, none⟩) (cap - i) (cap - i)) (by simp [Act.eval, Act.put]) (by simp [Act.eval, Act.put]) (hcpB 3 (cap + 1 - (i + 1)) (G - (i + 1)) (cap - i) (cap - i) (by simp only [Nat.min_def]; split <;> omega)) ?_)
  go_wp2
  go_ret
  exact ⟨_, rfl, HFIN.out, HGR.out, .inr fun b e => by have h : B = b := Option.some.inj e; have := HBB.out; omega⟩
set_option maxRecDepth 100000 in
set_option maxHeartbeats 4000000 in
theorem iinsertI_any (v : Value) (ks : List Int) (i gl : Nat) (p : Int) (w0 w : World) (hV : IlD w0 w v ks) (hl : w.heap[gl]? = some (.cells #[.int .i64 p] 3 (0, 0))) (hne : v.ownBlock ≠ some gl) (hi : i ≤ ks.length) (hs : ks.length ≤ 900000) :
    Calls Try.prog 72 #[v, .int .i64 i, .slice (some ⟨gl, 0, none⟩) 1 1] w fun e w' => ∃ v', e = .returned v' ∧ IlD w0 w' v' (insI ks p i) ∧ w.grownBy w' v.ownBlock ∧ (v'.ownBlock = v.ownBlock ∨ ∀ b, v'.ownBlock = some b → w.heap.size ≤ b) := by
  rcases Nat.lt_or_ge i ks.length with h1 | h1
  · rcases hV.row with ⟨rfl, rfl⟩ | ⟨g, cap, cur, rfl, hrow⟩
    · simp at h1
    · by_cases hroom : ks.length + 1 ≤ cap
      · exact iinsertI_room g _ cap i gl ks p cur w0 w hrow hl (fun e => hne (by rw [e]; rfl)) h1 hroom
      · exact iinsertI_grow g _ cap i gl ks p cur w0 w hrow hl h1 (by omega) hroom
  · obtain rfl : i = ks.length := by omega
    have HV := Lib.hid hV
    have HK := Lib.hid hl
    have HE := Lib.hid (show insI ks p ks.length = ks ++ [p] by simp [insI])
    rw [HE.out]
    rcases hV.row with ⟨rfl, rfl⟩ | ⟨g, cap, cur, rfl, hrow⟩
    · clear hV hl hne h1 hi HE
      simp only [List.length_nil]
      go_enter Try.func72, Try.ntmps72
      go_wp2_with (at_builtin; refine wpList_append_in2 rfl (.tmp 23) (.tmp 24) rfl HV.out.own gl p HK.out rfl rfl (by simp) HV.out.below.size ?_; intro v3 w3 ho3 hg3 hv3; have HV3 := Lib.hid (HV.out.push ho3 hg3); have HG3 := Lib.hid hg3; have HW3 := Lib.hid hv3; clear ho3 hg3 hv3)
      go_ret
      exact ⟨_, rfl, HV3.out, HG3.out, HW3.out.imp_right fun h b e => by have h1 := Option.some.inj (h.symm.trans e); omega⟩
    · have hcap := hrow.2.2.2.1
      have hcm := hrow.2.2.2.2.1
      unfold maxLen at hcm
      have z1 : (ks.length : Int) ≤ (cap : Int) := by omega
      clear hV hl hne h1 hi HE hrow
      go_enter Try.func72, Try.ntmps72
      go_wp2_with (at_builtin; refine wpList_append_in2 rfl (.tmp 23) (.tmp 24) rfl HV.out.own gl p HK.out rfl rfl (by omega) HV.out.below.size ?_; intro v3 w3 ho3 hg3 hv3; have HV3 := Lib.hid (HV.out.push ho3 hg3); have HG3 := Lib.hid hg3; have HW3 := Lib.hid hv3; clear ho3 hg3 hv3)
      all_goals (go_ret; exact ⟨_, rfl, HV3.out, HG3.out, HW3.out.imp_right fun h b e => by have h1 := Option.some.inj (h.symm.trans e); omega⟩)
end Go.Proofs.Ytpfnpinoamjcjaa
namespace Go.Proofs.Ytpfnpinoamjcjaa
open Go.ChangeShapes Go.WideShapes Go.ChangeAt Go.RowKit Go.BigFrame
set_option linter.unusedVariables false
set_option linter.unusedSimpArgs false

theorem cless_any (x y : Int) (w : World) : Calls Try.prog 77 #[.int .i64 x, .int .i64 y] w fun e w' => e = .returned (.bool (decide (x < y))) ∧ w' = w := by
  have HN := Lib.hid inan_any
  go_enter Try.func77, Try.ntmps77
  go_wp2_with fail
  refine (HN.out _ _).mono ?_
  rintro e w1 ⟨rfl, rfl⟩
  go_wp2
  go_ret
  exact ⟨by simp, rfl⟩
theorem snan_any (x : Int) (w : World) : Calls Try.prog 78 #[.int .i64 x] w fun e w' => e = .returned (.bool false) ∧ w' = w := by
  go_enter Try.func78, Try.ntmps78
  go_wp2
  go_ret
  exact ⟨by simp, rfl⟩
theorem spot_in {xs : List Int} {x : Int} {i : Nat} (hr : IRis xs) (hi : i ≤ xs.length) (h1 : i = 0 ∨ xs[i - 1]?.getD 0 < x) (h2 : i = xs.length ∨ x ≤ xs[i]?.getD 0) : (∀ y ∈ xs.take i, y < x) ∧ (∀ y ∈ xs.drop i, x ≤ y) ∧ (x ∈ xs ↔ i < xs.length ∧ xs[i]?.getD 0 = x) := by
  have hp := hr
  unfold IRis at hp
  rw [List.pairwise_iff_getElem] at hp
  have ha : ∀ y ∈ xs.take i, y < x := by
    intro y hy
    obtain ⟨j, hj, rfl⟩ := List.getElem_of_mem hy
    rw [List.length_take] at hj
    have h3 := h1.resolve_left (by omega)
    rw [List.getElem?_eq_getElem (show i - 1 < xs.length by omega), Option.getD_some] at h3
    rw [List.getElem_take]
    rcases (by omega : j = i - 1 ∨ j < i - 1) with h4 | h4
    · subst h4; exact h3
    · have := hp j (i - 1) (by omega) (by omega) h4
      omega
  have hb : ∀ y ∈ xs.drop i, x ≤ y := by
    intro y hy
    obtain ⟨j, hj, rfl⟩ := List.getElem_of_mem hy
    rw [List.length_drop] at hj
    have h3 := h2.resolve_left (by omega)
    rw [List.getElem?_eq_getElem (show i < xs.length by omega), Option.getD_some] at h3
    rw [List.getElem_drop]
    rcases Nat.eq_zero_or_pos j with h4 | h4
    · subst h4; simp only [Nat.add_zero]; omega
    · have := hp i (i + j) (by omega) (by omega) (by omega)
      omega
  refine ⟨ha, hb, ?_, ?_⟩
  · intro hx
    rw [← List.take_append_drop i xs, List.mem_append] at hx
    rcases hx with hx | hx
    · have := ha x hx; omega
    · obtain ⟨j, hj, he⟩ := List.getElem_of_mem hx
      rw [List.length_drop] at hj
      have h3 := h2.resolve_left (by omega)
      rw [List.getElem?_eq_getElem (show i < xs.length by omega), Option.getD_some] at h3 ⊢
      rw [List.getElem_drop] at he
      rcases Nat.eq_zero_or_pos j with h4 | h4
      · subst h4
        exact ⟨by omega, by simpa using he⟩
      · have := hp i (i + j) (by omega) (by omega) (by omega)
        omega
  · rintro ⟨hl, he⟩
    rw [List.getElem?_eq_getElem hl, Option.getD_some] at he
    rw [← he]
    exact List.getElem_mem hl
set_option maxRecDepth 100000 in
set_option maxHeartbeats 4000000 in
theorem ibs_any (v : Value) (xs : List Int) (x : Int) (w : World) (h : inAt w v xs) (hr : IRis xs) (hs : xs.length ≤ 2000000) :
    Calls Try.prog 71 #[v, .int .i64 x] w fun e w' => ∃ i : Nat, e = .returned (.tuple #[.int .i64 i, .bool (decide (x ∈ xs))]) ∧ (i ≤ xs.length ∧ (∀ y ∈ xs.take i, y < x) ∧ ∀ y ∈ xs.drop i, x ≤ y) ∧ Below w.heap.size w w' := by
  obtain ⟨a, cap, rfl, hcap, hcells⟩ := h
  have HL := Lib.hid cless_any
  have HN := Lib.hid snan_any
  go_enter Try.func71, Try.ntmps71
  go_wp2
  go_loopw [7, 8] (fun s7 s8 wr => ∃ lo hi : Nat, s7 = .int .i64 lo ∧ s8 = .int .i64 hi ∧ lo ≤ hi ∧ hi ≤ xs.length ∧ (lo = 0 ∨ xs[lo - 1]?.getD 0 < x) ∧ (hi = xs.length ∨ x ≤ xs[hi]?.getD 0) ∧ Below w.heap.size w wr) (fun s7 s8 _ => (intOf s8).toNat - (intOf s7).toNat)
  case atStart => exact ⟨0, xs.length, rfl, rfl, Nat.zero_le _, Nat.le_refl _, .inl rfl, .inl rfl, Below.refl _ _⟩
  case round =>
    obtain ⟨lo, hi, rfl, rfl, hlh, hin, h1, h2, hb⟩ := hrel
    have H1 := Lib.hid h1
    have H2 := Lib.hid h2
    have HB := Lib.hid hb
    clear h1 h2 hb
    by_cases hlt : lo < hi
    · obtain ⟨g, off, rfl, hg, hcs⟩ := hcells.resolve_left (by omega)
      obtain ⟨m, hm⟩ : ∃ m, m = (lo + hi) / 2 := ⟨_, rfl⟩
      have em : ((lo : Int) + (hi : Int)) / 2 = (m : Int) := by omega
      have hml : m < xs.length := by omega
      have hmlo : lo ≤ m := by omega
      have hmhi : m < hi := by omega
      have zl : (lo : Int) < (hi : Int) := by omega
      have z0 : (0 : Int) ≤ (m : Int) := by omega
      have z1 : (m : Int) < (xs.length : Int) := by omega
      have D1 := (HB.out.cell (p := ⟨g, off + m, none⟩) hg).trans (hcs m hml)
      clear hcs hcells hm
      by_cases hz : xs[m]?.getD 0 < x
      · have HX := Lib.hid (show m + 1 = 0 ∨ xs[m + 1 - 1]?.getD 0 < x from .inr hz)
        generalize xs[m]?.getD 0 = y at *
        go_wp2_with fail
        refine (HL.out _ _ _).mono ?_
        rintro e w2 ⟨rfl, rfl⟩
        rw [decide_eq_true hz]
        clear D1 hz
        go_wp2
        exact ⟨⟨m + 1, hi, by go_num, rfl, by omega, hin, HX.out, H2.out, HB.out⟩, by simp [intOf]; omega⟩
      · have HX := Lib.hid (show m = xs.length ∨ x ≤ xs[m]?.getD 0 from .inr (by omega))
        generalize hy : xs[m]?.getD 0 = y at hz D1
        clear hy
        go_wp2_with fail
        refine (HL.out _ _ _).mono ?_
        rintro e w2 ⟨rfl, rfl⟩
        rw [decide_eq_false (by omega)]
        clear D1 hz
        go_wp2
        exact ⟨⟨lo, m, rfl, rfl, by omega, by omega, H1.out, HX.out, HB.out⟩, by simp [intOf]; omega⟩
    · obtain rfl : hi = lo := by omega
      obtain ⟨s1, s2, s3⟩ := spot_in hr hin H1.out H2.out
      have HSP := Lib.hid (And.intro hin (And.intro s1 s2))
      clear s1 s2 H1 H2
      by_cases hn : hi < xs.length
      · obtain ⟨g, off, rfl, hg, hcs⟩ := hcells.resolve_left (by omega)
        have z0 : (0 : Int) ≤ (hi : Int) := by omega
        have z1 : (hi : Int) < (xs.length : Int) := by omega
        have D1 := (HB.out.cell (p := ⟨g, off + hi, none⟩) hg).trans (hcs hi hn)
        clear hcs hcells
        by_cases hz : xs[hi]?.getD 0 = x
        · have hd : decide (x ∈ xs) = true := decide_eq_true (s3.2 ⟨hn, hz⟩)
          have HD := Lib.hid hd
          rw [hz] at D1
          clear s3 hd hz
          go_wp2
          go_ret2
          exact ⟨hi, by rw [HD.out]; first | rfl | simp [*], HSP.out, HB.out⟩
        · have hd : decide (x ∈ xs) = false := decide_eq_false fun h => hz (s3.1 h).2
          have HD := Lib.hid hd
          clear s3 hd
          generalize xs[hi]?.getD 0 = y at *
          go_wp2_with (go_at_call 78; refine (HN.out _ _).mono ?_; rintro e w2 ⟨rfl, rfl⟩)
          go_ret2
          exact ⟨hi, by rw [HD.out]; first | rfl | simp [*], HSP.out, HB.out⟩
      · have z1 : ¬ (hi : Int) < (xs.length : Int) := by omega
        have hd : decide (x ∈ xs) = false := decide_eq_false fun h => hn (s3.1 h).1
        have HD := Lib.hid hd
        clear s3 hd hcells
        go_wp2
        go_ret2
        exact ⟨hi, by rw [HD.out]; first | rfl | simp [*], HSP.out, HB.out⟩
end Go.Proofs.Ytpfnpinoamjcjaa
namespace Go.Proofs.Ytpfnpinoamjcjaa
open Go.ChangeShapes Go.WideShapes Go.ChangeAt Go.RowKit Go.BigFrame
set_option linter.unusedVariables false
set_option linter.unusedSimpArgs false

theorem ins_rising {xs : List Int} {x : Int} {i : Nat} (hr : IRis xs) (h1 : ∀ y ∈ xs.take i, y < x) (h2 : ∀ y ∈ xs.drop i, x ≤ y) (hn : x ∉ xs) : IRis (insI xs x i) := by
  have e := List.take_append_drop i xs
  have hr2 := hr
  rw [← e] at hr2
  obtain ⟨a1, a2, a3⟩ := iris_append.1 hr2
  unfold insI
  refine iris_append.2 ⟨a1, List.pairwise_cons.2 ⟨fun y hy => ?_, a2⟩, fun y hy z hz => ?_⟩
  · have := h2 y hy
    have hne : x ≠ y := fun e => hn (e ▸ List.mem_of_mem_drop hy)
    omega
  · rcases List.mem_cons.1 hz with rfl | hz
    · exact h1 y hy
    · exact a3 y hy z hz
theorem insI_mem {xs : List Int} {x y : Int} {i : Nat} : y ∈ insI xs x i ↔ y = x ∨ y ∈ xs := by
  unfold insI
  have e : y ∈ xs ↔ y ∈ xs.take i ∨ y ∈ xs.drop i := by rw [← List.mem_append, List.take_append_drop]
  rw [List.mem_append, List.mem_cons, e]
  constructor
  · rintro (h | h | h)
    · exact .inr (.inl h)
    · exact .inl h
    · exact .inr (.inr h)
  · rintro (h | h | h)
    · exact .inr (.inl h)
    · exact .inl h
    · exact .inr (.inr h)
theorem insI_len {xs : List Int} {x : Int} {i : Nat} (h : i ≤ xs.length) : (insI xs x i).length = xs.length + 1 := by unfold insI; simp; omega
/-- what holds of what was found and of what is still to be looked at; those of E are looked at already, though not known to be -/
structure CtP (ks : List K2) (id : Int) (E : Int → Prop) (F H : List Int) : Prop where
  ris : IRis F
  rch : ∀ y ∈ F, y ≠ id ∧ Rch ks id y
  sub : ∀ y ∈ H, y = id ∨ y ∈ F
  all : ∀ x, (x = id ∨ x ∈ F) → x ∈ H ∨ E x ∨ ∀ z ∈ nearM ks x, z = id ∨ z ∈ F
  len : H.length ≤ F.length + 1
theorem CtP.few {ks : List K2} {id : Int} {E : Int → Prop} {F H : List Int} (h : CtP ks id E F H) : F.length ≤ 22 :=
  reach_few (ks := ks) (id := id) (h.ris.imp fun {a b} hab => by omega) fun y hy => (h.rch y hy).2
theorem CtP.start (ks : List K2) (id : Int) : CtP ks id (fun _ => False) [] [id] :=
  ⟨List.Pairwise.nil, by simp, by simp, fun x hx => .inl (by rcases hx with rfl | h; simp; simp at h), by simp⟩
theorem CtP.pop {ks : List K2} {id x : Int} {F H H' : List Int} (h : CtP ks id (fun _ => False) F H) (hl : H'.length + 1 = H.length) (hm : ∀ y, y ∈ H ↔ y = x ∨ y ∈ H') : CtP ks id (fun y => y = x) F H' ∧ (x = id ∨ x ∈ F) := by
  refine ⟨⟨h.ris, h.rch, fun y hy => h.sub y ((hm y).2 (.inr hy)), fun y hy => ?_, by have := h.len; omega⟩, h.sub x ((hm x).2 (.inl rfl))⟩
  rcases h.all y hy with h1 | h1 | h1
  · rcases (hm y).1 h1 with h2 | h2
    · exact .inr (.inl h2)
    · exact .inl h2
  · exact h1.elim
  · exact .inr (.inr h1)
theorem CtP.put {ks : List K2} {id x y : Int} {F H H' : List Int} {i : Nat} (h : CtP ks id (fun y => y = x) F H) (hx : x = id ∨ x ∈ F) (hy : y ∈ nearM ks x) (hn : y ∉ F) (hid : y ≠ id) (hi : i ≤ F.length) (h1 : ∀ z ∈ F.take i, z < y) (h2 : ∀ z ∈ F.drop i, y ≤ z)
    (hl : H'.length = H.length + 1) (hm : ∀ z, z ∈ H' ↔ z = y ∨ z ∈ H) : CtP ks id (fun y => y = x) (insI F y i) H' := by
  refine ⟨ins_rising h.ris h1 h2 hn, fun z hz => ?_, fun z hz => ?_, fun z hz => ?_, by rw [insI_len hi]; have := h.len; omega⟩
  · rcases insI_mem.1 hz with rfl | hz
    · refine ⟨hid, ?_⟩
      rcases hx with rfl | hx
      · exact Rch.one hy
      · exact (h.rch x hx).2.step hy
    · exact h.rch z hz
  · rcases (hm z).1 hz with rfl | hz
    · exact .inr (insI_mem.2 (.inl rfl))
    · exact (h.sub z hz).imp_right fun h => insI_mem.2 (.inr h)
  · by_cases e : z = y
    · exact .inl ((hm z).2 (.inl e))
    · have hz2 : z = id ∨ z ∈ F := hz.imp_right fun h => (insI_mem.1 h).resolve_left e
      rcases h.all z hz2 with h3 | h3 | h3
      · exact .inl ((hm z).2 (.inr h3))
      · exact .inr (.inl h3)
      · exact .inr (.inr fun u hu => (h3 u hu).imp_right fun h => insI_mem.2 (.inr h))
theorem CtP.done {ks : List K2} {id x : Int} {F H : List Int} (h : CtP ks id (fun y => y = x) F H) (hn : ∀ z ∈ nearM ks x, z = id ∨ z ∈ F) : CtP ks id (fun _ => False) F H :=
  ⟨h.ris, h.rch, h.sub, fun y hy => by
    rcases h.all y hy with h1 | h1 | h1
    · exact .inl h1
    · exact .inr (.inr (by rw [h1]; exact hn))
    · exact .inr (.inr h1), h.len⟩
theorem CtP.fin {ks : List K2} {id : Int} {F : List Int} (h : CtP ks id (fun _ => False) F []) : RL ks id F := by
  refine ⟨h.ris, fun y => ⟨fun hy => h.rch y hy, fun hy => ?_⟩⟩
  have hc : y ∈ id :: F := closed_all (ks := ks) (id := id) (by simp) (fun x hx z hz => by
    rcases h.all x (List.mem_cons.1 hx) with h1 | h1 | h1
    · simp at h1
    · exact h1.elim
    · exact List.mem_cons.2 (h1 z hz)) hy.2
  exact (List.mem_cons.1 hc).resolve_left hy.1
/-- the memory of comeTo: what was found, and the heap -/
structure CtM (w wr : World) (B : Nat) (fv vH : Value) (F H : List Int) : Prop where
  found : IlD w wr fv F
  hp : HpS w.heap.size wr B vH H
  ge : w.heap.size ≤ B
  nfB : fv.ownBlock ≠ some B
  nfH : ∀ b, fv.ownBlock = some b → vH.ownBlock ≠ some b
theorem CtM.next {w wr w1 : World} {B : Nat} {fv vH : Value} {F H : List Int} (h : CtM w wr B fv vH F H) (hb : Below wr.heap.size wr w1) : CtM w w1 B fv vH F H := ⟨h.found.next hb, h.hp.next hb, h.ge, h.nfB, h.nfH⟩
theorem CtM.heap {w wr w1 : World} {B : Nat} {fv vH vH' : Value} {F H H' : List Int} (h : CtM w wr B fv vH F H) (hk : KeepX (fun j => j = B ∨ vH.ownBlock = some j) wr w1) (hp : HpS w.heap.size w1 B vH' H') (hn : vH'.ownBlock = vH.ownBlock ∨ ∀ b, vH'.ownBlock = some b → wr.heap.size ≤ b) : CtM w w1 B fv vH' F H' := by
  refine ⟨⟨hk.own h.found.own (fun b e hx => ?_), hk.toBelow h.found.below h.found.below.size (fun k hx => ?_)⟩, hp, h.ge, h.nfB, fun b e e2 => ?_⟩
  · rcases hx with rfl | hx
    · exact h.nfB e
    · exact h.nfH b e hx
  · rcases hx with rfl | hx
    · exact h.ge
    · exact (h.hp.own.lt k hx).1
  · rcases hn with h1 | h1
    · exact h.nfH b e (h1.symm.trans e2)
    · have h2 := h1 b e2
      have h3 := (h.found.own.lt b e).2
      omega
theorem CtM.put {w wr w1 : World} {B : Nat} {fv fv' vH : Value} {F F' H : List Int} (h : CtM w wr B fv vH F H) (hf : IlD w w1 fv' F') (hg : wr.grownBy w1 fv.ownBlock) (hn : fv'.ownBlock = fv.ownBlock ∨ ∀ b, fv'.ownBlock = some b → wr.heap.size ≤ b) : CtM w w1 B fv' vH F' H := by
  have hk : KeepX (fun j => fv.ownBlock = some j) wr w1 := KeepX.grown hg (fun k e => e)
  refine ⟨hf, h.hp.keep hk (fun e => h.nfB e) (fun b e hx => h.nfH b hx e), h.ge, fun e => ?_, fun b e e2 => ?_⟩
  · rcases hn with h1 | h1
    · exact h.nfB (h1.symm.trans e)
    · have h2 := h1 B e
      have h3 := (Array.getElem?_eq_some_iff.1 h.hp.box).1
      omega
  · rcases hn with h1 | h1
    · exact h.nfH b (h1.symm.trans e) e2
    · have h2 := h1 b e
      have h3 := (h.hp.own.lt b e2).2
      omega
/-- the memory of who is near, while found and heap grow -/
structure NrM (lo hi : Nat) (wr : World) (vn : Value) (N : List Int) (B : Nat) (fv vH : Value) : Prop where
  own : wr.ownsRow lo 3 1 vn N.length (intsV N)
  lt : ∀ b, vn.ownBlock = some b → b < hi
  hi : hi ≤ wr.heap.size
  nB : vn.ownBlock ≠ some B
  nF : ∀ b, vn.ownBlock = some b → fv.ownBlock ≠ some b
  nH : ∀ b, vn.ownBlock = some b → vH.ownBlock ≠ some b
theorem NrM.next {lo hi : Nat} {wr w1 : World} {vn : Value} {N : List Int} {B : Nat} {fv vH : Value} (h : NrM lo hi wr vn N B fv vH) (hb : Below wr.heap.size wr w1) : NrM lo hi w1 vn N B fv vH := ⟨own_below h.own hb, h.lt, Nat.le_trans h.hi hb.size, h.nB, h.nF, h.nH⟩
theorem NrM.heap {lo hi : Nat} {wr w1 : World} {vn : Value} {N : List Int} {B : Nat} {fv vH vH' : Value} (h : NrM lo hi wr vn N B fv vH) (hk : KeepX (fun j => j = B ∨ vH.ownBlock = some j) wr w1) (hn : vH'.ownBlock = vH.ownBlock ∨ ∀ b, vH'.ownBlock = some b → wr.heap.size ≤ b) : NrM lo hi w1 vn N B fv vH' := by
  refine ⟨hk.own h.own (fun b e hx => ?_), h.lt, Nat.le_trans h.hi hk.size, h.nB, h.nF, fun b e e2 => ?_⟩
  · rcases hx with rfl | hx
    · exact h.nB e
    · exact h.nH b e hx
  · rcases hn with h1 | h1
    · exact h.nH b e (h1.symm.trans e2)
    · have h2 := h1 b e2
      have h3 := h.lt b e
      have h4 := h.hi
      omega
theorem NrM.put {lo hi : Nat} {wr w1 : World} {vn : Value} {N : List Int} {B : Nat} {fv fv' vH : Value} (h : NrM lo hi wr vn N B fv vH) (hg : wr.grownBy w1 fv.ownBlock) (hn : fv'.ownBlock = fv.ownBlock ∨ ∀ b, fv'.ownBlock = some b → wr.heap.size ≤ b) : NrM lo hi w1 vn N B fv' vH := by
  have hk : KeepX (fun j => fv.ownBlock = some j) wr w1 := KeepX.grown hg (fun k e => e)
  refine ⟨hk.own h.own (fun b e hx => h.nF b e hx), h.lt, Nat.le_trans h.hi hk.size, h.nB, fun b e e2 => ?_, h.nH⟩
  rcases hn with h1 | h1
  · exact h.nF b e (h1.symm.trans e2)
  · have h2 := h1 b e2
    have h3 := h.lt b e
    have h4 := h.hi
    omega
end Go.Proofs.Ytpfnpinoamjcjaa
namespace Go.Proofs.Ytpfnpinoamjcjaa
open Go.ChangeShapes Go.WideShapes Go.ChangeAt Go.RowKit Go.BigFrame
set_option linter.unusedVariables false
set_option linter.unusedSimpArgs false

/-- those seen: each once, all can be come to; the first m of them have all that is near them among the seen -/
structure SrP (ks : List K2) (id : Int) (m : Nat) (S : List Int) : Prop where
  head : S[0]? = some id
  nd : S.Nodup
  rch : ∀ y ∈ S, Rch ks id y
  done : ∀ j, j < m → ∀ z ∈ nearM ks (S[j]?.getD 0), z ∈ S
theorem SrP.few {ks : List K2} {id : Int} {m : Nat} {S : List Int} (h : SrP ks id m S) : S.length ≤ 22 := reach_few h.nd h.rch
theorem SrP.pos {ks : List K2} {id : Int} {m : Nat} {S : List Int} (h : SrP ks id m S) : 0 < S.length := by
  have := h.head
  cases S with
  | nil => simp at this
  | cons x r => simp
theorem SrP.start (ks : List K2) (id : Int) : SrP ks id 0 [id] := ⟨rfl, by simp, fun y hy => by rw [List.mem_singleton.1 hy]; exact .refl, fun j hj => by omega⟩
theorem SrP.put {ks : List K2} {id y : Int} {m : Nat} {S : List Int} (h : SrP ks id m S) (hm : m < S.length) (hy : y ∈ nearM ks (S[m]?.getD 0)) (hn : y ∉ S) : SrP ks id m (S ++ [y]) := by
  have hx : S[m]?.getD 0 ∈ S := by simp [hm]
  refine ⟨?_, ?_, fun z hz => ?_, fun j hj z hz => ?_⟩
  · rw [List.getElem?_append_left h.pos]; exact h.head
  · rw [List.nodup_append]
    exact ⟨h.nd, by simp, fun a ha b hb e => hn (by rw [← List.mem_singleton.1 hb, ← e]; exact ha)⟩
  · rcases List.mem_append.1 hz with hz | hz
    · exact h.rch z hz
    · rw [List.mem_singleton.1 hz]
      exact (h.rch _ hx).step hy
  · rw [List.getElem?_append_left (by omega)] at hz
    exact List.mem_append.2 (.inl (h.done j hj z hz))
theorem SrP.same {S S' : List Int} {j : Nat} (h : ∃ A, S' = S ++ A) (hj : j < S.length) : S'[j]?.getD 0 = S[j]?.getD 0 := by
  obtain ⟨A, rfl⟩ := h
  rw [List.getElem?_append_left hj]
theorem SrP.next {ks : List K2} {id : Int} {m : Nat} {S : List Int} (h : SrP ks id m S) (ha : ∀ z ∈ nearM ks (S[m]?.getD 0), z ∈ S) : SrP ks id (m + 1) S :=
  ⟨h.head, h.nd, h.rch, fun j hj => by
    rcases (by omega : j < m ∨ j = m) with h1 | rfl
    · exact h.done j h1
    · exact ha⟩
theorem SrP.fin {ks : List K2} {id : Int} {m : Nat} {S : List Int} (h : SrP ks id m S) (hm : S.length ≤ m) : RL ks id ((S.drop 1).foldl putF []) := by
  obtain ⟨h1, h2⟩ := foldput_ok (S.drop 1) [] List.Pairwise.nil
  obtain ⟨r, rfl⟩ : ∃ r, S = id :: r := by
    have := h.head
    cases S with
    | nil => simp at this
    | cons x r => simp at this; exact ⟨r, by rw [this]⟩
  refine ⟨h1, fun y => ?_⟩
  rw [h2]
  simp only [List.drop_succ_cons, List.drop_zero, List.not_mem_nil, false_or]
  have hnd := List.nodup_cons.1 h.nd
  constructor
  · intro hy
    exact ⟨fun e => hnd.1 (e ▸ hy), h.rch y (by simp [hy])⟩
  · rintro ⟨hne, hr⟩
    have hc : y ∈ id :: r := closed_all (ks := ks) (id := id) (by simp) (fun x hx z hz => by
      obtain ⟨j, hj, rfl⟩ := List.getElem_of_mem hx
      refine h.done j (by omega) z ?_
      rw [List.getElem?_eq_getElem hj, Option.getD_some]
      exact hz) hr
    exact (List.mem_cons.1 hc).resolve_left hne
theorem foldput_len : ∀ (l acc : List Int), (l.foldl putF acc).length ≤ acc.length + l.length
  | [], acc => by simp
  | x :: r, acc => by
    have h1 := foldput_len r (putF acc x)
    have h2 := putF_len acc x
    simp only [List.foldl_cons, List.length_cons]
    omega
set_option maxRecDepth 100000 in
set_option maxHeartbeats 8000000 in
theorem sreach_any (v : Value) (ks : List K2) (id : Int) (w : World) (h : keysAt w v ks) (hs : ks.length ≤ 2000000) (M : List Int) (hM : RL ks id M) :
    Calls Try.prog 29 #[v, .int .i64 id] w fun e w' => ∃ v', e = .returned v' ∧ IlD w w' v' M := by
  have HNR := Lib.hid (fun y wx (hb : Below w.heap.size w wx) => snear_any v ks y wx (keysAt_below h hb) hs)
  have HML := Lib.hid (fun F (hF : RL ks id F) => hF.ext hM)
  have HNL := Lib.hid (fun y => show (nearM ks y).length ≤ 30 from by
    unfold nearM
    split
    · rename_i hl
      exact Nat.le_trans (List.length_filterMap_le _ _) ((lns_iff ks).1 hl).1
    · exact Nat.zero_le _)
  have HS0 := Lib.hid (show IlD w (w.alloc (.cells #[.int .i64 id] 3)) (.slice (some ⟨w.heap.size, 0, none⟩) 1 1) [id] from
    ⟨⟨rfl, .inr ⟨w.heap.size, 1, #[.int .i64 id], rfl, Nat.le_refl _, heap_alloc_new w _, Nat.le_refl _, by unfold maxLen; omega, rfl, rfl⟩⟩, (Below.refl w.heap.size w).alloc (Nat.le_refl _) _⟩)
  have HP0 := Lib.hid (SrP.start ks id)
  obtain ⟨la, lc, rfl, -, -⟩ := h
  clear hM
  go_enter Try.func29, Try.ntmps29
  go_wp2
  go_loopw [5, 6] (fun sv i wr => ∃ (m : Nat) (S : List Int) (sv0 : Value), sv0 = sv ∧ m ≤ S.length ∧ i = .int .i64 m ∧ SrP ks id m S ∧ IlD w wr sv S) (fun _ i _ => 100 - (intOf i).toNat)
  case atStart => exact ⟨0, [id], _, rfl, by simp, rfl, HP0.out, HS0.out⟩
  case round =>
    obtain ⟨m, S, sv, rfl, hm, rfl, hP, hS⟩ := hrel
    have HP := Lib.hid hP
    have HS := Lib.hid hS
    have hfew := hP.few
    have hpos := hP.pos
    clear hP hS HP0 HS0
    obtain ⟨sa, sc, hss⟩ := HS.out.shape
    subst hss
    by_cases hlt : m < S.length
    · obtain ⟨g, gcap, hgs⟩ := ownsRow_shape1 HS.out.own hpos
      obtain ⟨rfl, rfl⟩ : sa = some ⟨g, 0, none⟩ ∧ sc = gcap := by cases hgs; exact ⟨rfl, rfl⟩
      have z0 : (0 : Int) ≤ (m : Int) := by omega
      have z1 : (m : Int) < (S.length : Int) := by omega
      have D1 := own_int HS.out.own m hlt
      generalize hx : S[m]?.getD 0 = x at *
      go_wp2_with fail
      refine (HNR.out x _ HS.out.below).mono ?_
      rintro e w1 ⟨vn, rfl, hN⟩
      have HN := Lib.hid hN
      have HS1 := Lib.hid (HS.out.next hN.below)
      have hNl := HNL.out x
      have hwz := HS.out.below.size
      have HNE := Lib.hid (show vn.ownBlock ≠ some g from fun e => by have h1 := (hN.own.lt g e).1; have h2 := (HS.out.own.lt g rfl).2; omega)
      have HNLT := Lib.hid (show ∀ b, vn.ownBlock = some b → b < w1.heap.size from fun b e => (hN.own.lt b e).2)
      obtain ⟨na, nc, hns⟩ := hN.shape
      subst hns
      generalize hNN : nearM ks x = N at *
      have HEN := Lib.hid hNN
      have HXE := Lib.hid hx
      clear hNN hN HS D1 hx
      go_wp2
      go_loopw [5, 8] (fun sv i wr => ∃ (k : Nat) (S' : List Int) (sv0 : Value), sv0 = sv ∧ k ≤ N.length ∧ i = .int .i64 k ∧ (SrP ks id m S' ∧ (∃ A, S' = S ++ A) ∧ ∀ z ∈ N.take k, z ∈ S') ∧ IlD w wr sv S' ∧ (wr.ownsRow w.heap.size 3 1 (.slice na N.length nc) N.length (intsV N) ∧ w1.heap.size ≤ wr.heap.size ∧ ∀ b, (Value.slice na N.length nc).ownBlock = some b → sv.ownBlock ≠ some b)) (fun _ i _ => N.length - (intOf i).toNat)
      case atStart => exact ⟨0, S, _, rfl, Nat.zero_le _, rfl, ⟨HP.out, ⟨[], by simp⟩, by simp⟩, HS1.out, own_base HN.out.own hwz, Nat.le_refl _, fun b e e2 => HNE.out (by rw [e]; exact e2.symm)⟩
      case round =>
        obtain ⟨k, S', sv', rfl, hk, rfl, ⟨hP', hA', hN'⟩, hS', hNo, hsz, hne⟩ := hrel
        have HP' := Lib.hid hP'
        have HA' := Lib.hid hA'
        have HN' := Lib.hid hN'
        have HS' := Lib.hid hS'
        have HNo := Lib.hid (And.intro hNo (And.intro hsz hne))
        have hfew' := hP'.few
        have hpos' := hP'.pos
        have hml : m < S'.length := by obtain ⟨A, rfl⟩ := hA'; simp; omega
        clear hP' hA' hN' hS' hNo hsz hne HS1 HN
        obtain ⟨wq, hwq⟩ : ∃ wq, wq = wr := ⟨_, rfl⟩
        subst hwq
        obtain ⟨sa', sc', hss⟩ := HS'.out.shape
        subst hss
        by_cases hlk : k < N.length
        · obtain ⟨g', gcap', hgs⟩ := ownsRow_shape1 HS'.out.own hpos'
          obtain ⟨rfl, rfl⟩ : sa' = some ⟨g', 0, none⟩ ∧ sc' = gcap' := by cases hgs; exact ⟨rfl, rfl⟩
          obtain ⟨gn, gncap, hgn⟩ := ownsRow_shape1 HNo.out.1 (by omega)
          obtain ⟨rfl, rfl⟩ : na = some ⟨gn, 0, none⟩ ∧ nc = gncap := by cases hgn; exact ⟨rfl, rfl⟩
          have y0 : (0 : Int) ≤ (k : Int) := by omega
          have y1 : (k : Int) < (N.length : Int) := by omega
          have HMEM := Lib.hid (show N[k]?.getD 0 ∈ N by simp [hlk])
          have HTK := Lib.hid (show ∀ F'' : List Int, (∀ z ∈ N.take k, z ∈ F'') → N[k]?.getD 0 ∈ F'' → ∀ z ∈ N.take (k + 1), z ∈ F'' from fun F'' h1 h2 z hz => by
            have e : N[k]?.toList = [N[k]?.getD 0] := by simp [hlk]
            rw [List.take_add_one, e, List.mem_append, List.mem_singleton] at hz
            rcases hz with hz | rfl
            · exact h1 z hz
            · exact h2)
          have HC := Lib.hid (show ∀ wx, Below wq.heap.size wq wx → wx.cell? ⟨gn, k, none⟩ = some (.int .i64 (N[k]?.getD 0)) from fun wx hb => (hb.cell (p := ⟨gn, k, none⟩) (HNo.out.1.lt gn rfl).2).trans (own_int HNo.out.1 k hlk))
          have HCS := Lib.hid (show ∀ wx, Below wq.heap.size wq wx → ∀ j, j < S'.length → wx.cell? ⟨g', j, none⟩ = some (.int .i64 (S'[j]?.getD 0)) from fun wx hb j hj => (hb.cell (p := ⟨g', j, none⟩) (HS'.out.own.lt g' rfl).2).trans (own_int HS'.out.own j hj))
          generalize N[k]?.getD 0 = y at *
          go_wp2
          go_loopw [9, 10] (fun tv i wx => ∃ j : Nat, j ≤ S'.length ∧ i = .int .i64 j ∧ tv = .bool (decide (y ∈ S'.take j)) ∧ Below wq.heap.size wq wx) (fun _ i _ => S'.length - (intOf i).toNat)
          case atStart => exact ⟨0, Nat.zero_le _, rfl, by simp, Below.refl _ _⟩
          case round =>
            obtain ⟨j, hj, rfl, rfl, hbx⟩ := hrel
            have HBX := Lib.hid hbx
            clear hbx
            by_cases hjl : j < S'.length
            · have x0 : (0 : Int) ≤ (j : Int) := by omega
              have x1 : (j : Int) < (S'.length : Int) := by omega
              have LN : ∀ wx, Below wq.heap.size wq wx → (loadVar 3 ⟨gn, k, none⟩).run Try.prog wx = .ok (.int .i64 y) wx := fun wx hb => sint_load (HC.out wx hb)
              have LS : ∀ wx, Below wq.heap.size wq wx → (loadVar 3 ⟨g', j, none⟩).run Try.prog wx = .ok (.int .i64 (S'[j]?.getD 0)) wx := fun wx hb => sint_load (HCS.out wx hb j hjl)
              have HT := Lib.hid (show decide (y ∈ S'.take (j + 1)) = (decide (y ∈ S'.take j) || (S'[j]?.getD 0 == y)) by
                have e : S'[j]?.toList = [S'[j]?.getD 0] := by simp [hjl]
                rw [List.take_add_one, e, Bool.eq_iff_iff]
                simp only [decide_eq_true_eq, Bool.or_eq_true, List.mem_append, List.mem_singleton, beq_iff_eq]
                exact or_congr Iff.rfl ⟨Eq.symm, Eq.symm⟩)
              generalize S'[j]?.getD 0 = u at *
              generalize decide (y ∈ S'.take j) = b at *
              cases b with
              | true =>
                go_wp2
                refine wp_region_below wq (by kernel_rfl) (by kernel_rfl) HBX.out ?_
                repeat (first
                  | go_big_quiet_skip
                  | (go_big_quiet_want
                     first
                       | (refine q_load 3 _ _ _ rfl rfl LN ?_; simp only [Act.put, List.setIfInBounds_toArray, List.set_cons_zero, List.set_cons_succ]; go_big_quiet_on)
                       | (refine q_load 3 _ _ _ rfl rfl LS ?_; simp only [Act.put, List.setIfInBounds_toArray, List.set_cons_zero, List.set_cons_succ]; go_big_quiet_on)
                       | (go_big_quiet_op; go_big_quiet_on)
                       | (go_big_quiet_op; refine ⟨_, fun _ _ => rfl, ?_⟩; go_big_quiet_on)
                       | (go_big_quiet_op; go_big_quiet_on)))
                refine wpQuiet_nil ?_
                intro w5 hb5
                clear LN LS
                go_wp2
                exact ⟨⟨j + 1, by omega, by go_num, by rw [HT.out]; rfl, hb5⟩, by simp [intOf]; omega⟩
              | false =>
                by_cases hu : u = y
                · subst hu
                  go_wp2
                  refine wp_region_below wq (by kernel_rfl) (by kernel_rfl) HBX.out ?_
                  repeat (first
                    | go_big_quiet_skip
                    | (go_big_quiet_want
                       first
                         | (refine q_load 3 _ _ _ rfl rfl LN ?_; simp only [Act.put, List.setIfInBounds_toArray, List.set_cons_zero, List.set_cons_succ]; go_big_quiet_on)
                         | (refine q_load 3 _ _ _ rfl rfl LS ?_; simp only [Act.put, List.setIfInBounds_toArray, List.set_cons_zero, List.set_cons_succ]; go_big_quiet_on)
                         | (go_big_quiet_op; go_big_quiet_on)
                         | (go_big_quiet_op; refine ⟨_, fun _ _ => rfl, ?_⟩; go_big_quiet_on)
                         | (go_big_quiet_op; go_big_quiet_on)))
                  refine wpQuiet_nil ?_
                  intro w5 hb5
                  clear LN LS
                  go_wp2
                  exact ⟨⟨j + 1, by omega, by go_num, by rw [HT.out]; simp, hb5⟩, by simp [intOf]; omega⟩
                · have du : (u == y) = false := by simpa using hu
                  go_wp2
                  refine wp_region_below wq (by kernel_rfl) (by kernel_rfl) HBX.out ?_
                  repeat (first
                    | go_big_quiet_skip
                    | (go_big_quiet_want
                       first
                         | (refine q_load 3 _ _ _ rfl rfl LN ?_; simp only [Act.put, List.setIfInBounds_toArray, List.set_cons_zero, List.set_cons_succ]; go_big_quiet_on)
                         | (refine q_load 3 _ _ _ rfl rfl LS ?_; simp only [Act.put, List.setIfInBounds_toArray, List.set_cons_zero, List.set_cons_succ]; go_big_quiet_on)
                         | (go_big_quiet_op; go_big_quiet_on)
                         | (go_big_quiet_op; refine ⟨_, fun _ _ => rfl, ?_⟩; go_big_quiet_on)
                         | (go_big_quiet_op; go_big_quiet_on)))
                  refine wpQuiet_nil ?_
                  intro w5 hb5
                  clear LN LS
                  go_wp2
                  exact ⟨⟨j + 1, by omega, by go_num, by rw [HT.out]; simp [hu], hb5⟩, by simp [intOf]; omega⟩
            · obtain rfl : j = S'.length := by omega
              rw [List.take_length]
              have HS5 := Lib.hid (HS'.out.next HBX.out)
              have HNo5 := Lib.hid (And.intro (own_below HNo.out.1 HBX.out) (And.intro (Nat.le_trans HNo.out.2.1 HBX.out.size) HNo.out.2.2))
              have D5 := HC.out _ HBX.out
              clear HC HCS HBX HS' HNo
              by_cases hy : y ∈ S'
              · rw [decide_eq_true hy]
                have HK2 := Lib.hid (HTK.out S' HN'.out hy)
                clear hy
                go_wp2
                exact ⟨⟨k + 1, S', _, rfl, by omega, by go_num, ⟨HP'.out, HA'.out, HK2.out⟩, HS5.out, HNo5.out⟩, by simp [intOf]; omega⟩
              · rw [decide_eq_false hy]
                have hP6 := HP'.out.put (y := y) hml (by rw [SrP.same HA'.out hlt, HXE.out, HEN.out]; exact HMEM.out) hy
                have HP6 := Lib.hid hP6
                have HK2 := Lib.hid (HTK.out (S' ++ [y]) (fun z hz => List.mem_append.2 (.inl (HN'.out z hz))) (by simp))
                have HA6 := Lib.hid (show ∃ A, S' ++ [y] = S ++ A from by obtain ⟨A, hA⟩ := HA'.out; exact ⟨A ++ [y], by rw [hA, List.append_assoc]⟩)
                clear hP6 hy
                have HA5 := Lib.hid (HS5.out.alloc (.cells #[.int .i64 y] 3))
                have HNA := Lib.hid (HNo5.out.1.alloc (.cells #[.int .i64 y] 3))
                go_wp2_with (at_builtin; refine wpList_append_in2 rfl (.tmp 53) (.tmp 58) rfl HA5.out.own (wr.heap.size) y (heap_alloc_new _ _) rfl rfl (by omega) HA5.out.below.size ?_; intro v7 w7 ho7 hg7 hv7; have HS7 := Lib.hid (HA5.out.push ho7 hg7); have HN7 := Lib.hid (HNA.out.kept hg7 (.inr fun e => HNo5.out.2.2 gn rfl e.symm)); have HZ7 := Lib.hid (show w1.heap.size ≤ w7.heap.size from by have h1 := HNo5.out.2.1; have h2 := hg7.size; simp at h2; omega); have HE7 := Lib.hid (show ∀ b, (Value.slice (some ⟨gn, 0, none⟩) N.length nc).ownBlock = some b → v7.ownBlock ≠ some b from fun b e e2 => by rcases hv7 with h | h; exact HNo5.out.2.2 b e (h.symm.trans e2); have h1 := Option.some.inj (h.symm.trans e2); have h2 := (HNo5.out.1.lt b e).2; simp at h1; omega); clear ho7 hg7 hv7 HA5 HNA)
                exact ⟨⟨k + 1, _, _, rfl, by omega, by go_num, ⟨HP6.out, HA6.out, HK2.out⟩, HS7.out, HN7.out, HZ7.out, HE7.out⟩, by simp [intOf]; omega⟩
        · obtain rfl : k = N.length := by omega
          have HP9 := Lib.hid (HP'.out.next (by rw [SrP.same HA'.out hlt, HXE.out, HEN.out]; have := HN'.out; rwa [List.take_length] at this))
          clear HP' HN'
          go_wp2
          exact ⟨⟨m + 1, S', _, rfl, by omega, by go_num, HP9.out, HS'.out⟩, by simp [intOf]; omega⟩
    · have HF := Lib.hid (HP.out.fin (by omega))
      have HEM := Lib.hid (HML.out _ HF.out)
      obtain rfl : m = S.length := by omega
      obtain ⟨g, gcap, hgs⟩ := ownsRow_shape1 HS.out.own hpos
      obtain ⟨rfl, rfl⟩ : sa = some ⟨g, 0, none⟩ ∧ sc = gcap := by cases hgs; exact ⟨rfl, rfl⟩
      have HCS := Lib.hid (show ∀ wx, Below wr.heap.size wr wx → ∀ j, j < S.length → wx.cell? ⟨g, j, none⟩ = some (.int .i64 (S[j]?.getD 0)) from fun wx hb j hj => (hb.cell (p := ⟨g, j, none⟩) (HS.out.own.lt g rfl).2).trans (own_int HS.out.own j hj))
      have HO0 := Lib.hid (show IlD w (wr.alloc (.cells #[] 3)) (.slice (some ⟨wr.heap.size, 0, none⟩) 0 0) [] from (IlD.lit wr).base HS.out.below)
      have HB0 := Lib.hid ((Below.refl wr.heap.size wr).alloc (Nat.le_refl _) (.cells #[] 3))
      clear HF HP HS
      go_wp2
      go_loopw [11, 12] (fun ov i wy => ∃ (j : Nat) (ov0 : Value), ov0 = ov ∧ (1 ≤ j ∧ j ≤ S.length) ∧ i = .int .i64 j ∧ IlD w wy ov (((S.take j).drop 1).foldl putF []) ∧ Below wr.heap.size wr wy) (fun _ i _ => S.length - (intOf i).toNat)
      case atStart =>
        refine ⟨1, _, rfl, ⟨Nat.le_refl _, hpos⟩, rfl, ?_, HB0.out⟩
        rw [List.drop_eq_nil_of_le (by rw [List.length_take]; omega)]
        exact HO0.out
      case round =>
        obtain ⟨j, ov, rfl, ⟨hj1, hj⟩, rfl, hO, hbw⟩ := hrel
        have HO := Lib.hid hO
        have HBW := Lib.hid hbw
        clear hO hbw HO0 HB0
        by_cases hjl : j < S.length
        · have x0 : (0 : Int) ≤ (j : Int) := by omega
          have x1 : (j : Int) < (S.length : Int) := by omega
          have D9 := HCS.out _ HBW.out j hjl
          have HT := Lib.hid (show ((S.take (j + 1)).drop 1).foldl putF [] = putF (((S.take j).drop 1).foldl putF []) (S[j]?.getD 0) by
            have e : S[j]?.toList = [S[j]?.getD 0] := by simp [hjl]
            rw [List.take_add_one, e, List.drop_append_of_le_length (by rw [List.length_take]; omega), List.foldl_append]
            rfl)
          have hol := foldput_len ((S.take j).drop 1) []
          rw [List.length_drop, List.length_take] at hol
          simp only [List.length_nil, Nat.zero_add] at hol
          generalize S[j]?.getD 0 = y at *
          generalize ((S.take j).drop 1).foldl putF [] = O at *
          obtain ⟨oa, oc, hos⟩ := HO.out.shape
          subst hos
          go_wp2_with fail
          refine (sput_any _ O y _ HO.out.at (by omega)).mono ?_
          rintro e w8 ⟨v8, rfl, hL8⟩
          have HL8 := Lib.hid (hL8.base HO.out.below)
          have HB8 := Lib.hid (HBW.out.trans (hL8.below.mono HBW.out.size))
          clear hL8 D9
          go_wp2
          exact ⟨⟨j + 1, _, rfl, ⟨by omega, by omega⟩, by go_num, by rw [HT.out]; exact HL8.out, HB8.out⟩, by simp [intOf]; omega⟩
        · obtain rfl : j = S.length := by omega
          have HFF := Lib.hid (show IlD w wr ov M from by have := HO.out; rw [List.take_length, HEM.out] at this; exact this)
          obtain ⟨oa, oc, hos⟩ := HFF.out.shape
          subst hos
          clear HO HBW HCS
          go_wp2
          go_ret
          exact ⟨_, rfl, HFF.out⟩
end Go.Proofs.Ytpfnpinoamjcjaa
namespace Go.Proofs.Ytpfnpinoamjcjaa
open Go.ChangeShapes Go.WideShapes Go.ChangeAt Go.RowKit Go.BigFrame
set_option linter.unusedVariables false
set_option linter.unusedSimpArgs false

theorem tassert (x : Int) (w : World) : (Instr.typeAssert (.iface 3 (.int .i64 x)) 20 3 false).run Try.prog w = .ok (.int .i64 x) w := by
  rfl
set_option maxRecDepth 100000 in
set_option maxHeartbeats 8000000 in
theorem icometo_any (bx : Nat) (v : Value) (ks : List K2) (id : Int) (w : World) (h : keysAt w v ks) (hr : w.heap[bx]? = some (.cells #[v] 24 (0, 0))) (hl : lnsB ks = true) (M : List Int) (hM : RL ks id M) :
    Calls Try.prog 57 #[.int .i64 id, .func (.func 67) #[] #[.pointer (some ⟨bx, 0, none⟩)]] w fun e w' => ∃ v', e = .returned v' ∧ IlD w w' v' M := by
  have hlen := ((lns_iff ks).1 hl).1
  have HNR := Lib.hid (fun y wx (hb : Below w.heap.size w wx) => show Calls Try.prog 67 #[.int .i64 y, .pointer (some ⟨bx, 0, none⟩)] wx (fun e w' => ∃ v', e = .returned v' ∧ IlD wx w' v' (nearM ks y)) from by
    have := inear1_any bx v ks y wx (keysAt_below h hb) ((hb.block _ (Array.getElem?_eq_some_iff.1 hr).1).trans hr) (by omega)
    unfold nearM
    rw [if_pos hl]
    exact this)
  have HML := Lib.hid (fun F (hF : RL ks id F) => hF.ext hM)
  have HNL := Lib.hid (fun y => show (nearM ks y).length ≤ 30 from by
    unfold nearM
    rw [if_pos hl]
    exact Nat.le_trans (List.length_filterMap_le _ _) hlen)
  have hA := heap_first w (.cells #[.slice (some ⟨w.heap.size, 0, none⟩) 1 1] 79) (.cells #[.int .i64 id] 3)
  have hB := heap_alloc_new (w.alloc (.cells #[.int .i64 id] 3)) (.cells #[.slice (some ⟨w.heap.size, 0, none⟩) 1 1] 79)
  rw [show (w.alloc (.cells #[.int .i64 id] 3)).heap.size = w.heap.size + 1 by simp] at hB
  have hb0 := ((Below.refl w.heap.size w).alloc (Nat.le_refl _) (.cells #[.int .i64 id] 3)).alloc (by simp) (.cells #[.slice (some ⟨w.heap.size, 0, none⟩) 1 1] 79)
  have HM0 := Lib.hid (show CtM w ((w.alloc (.cells #[.int .i64 id] 3)).alloc (.cells #[.slice (some ⟨w.heap.size, 0, none⟩) 1 1] 79)) (w.heap.size + 1) (.slice none 0 0) (.slice (some ⟨w.heap.size, 0, none⟩) 1 1) [] [id] from
    ⟨⟨World.ownsRow_nil _ _ _ _, hb0⟩, ⟨hB, ⟨rfl, .inr ⟨w.heap.size, 1, #[.int .i64 id], rfl, Nat.le_refl _, hA, Nat.le_refl _, by unfold maxLen; omega, rfl, rfl⟩⟩, fun e => by have h : w.heap.size = w.heap.size + 1 := Option.some.inj e; omega⟩, by omega, (fun e => by cases e), (fun b e => by cases e)⟩)
  have HP0 := Lib.hid (CtP.start ks id)
  clear h hr hl hM hA hB hb0
  generalize hBB : w.heap.size + 1 = B at *
  go_enter Try.func57, Try.ntmps57
  go_wp2
  try rw [hBB]
  generalize (w.alloc (.cells #[.int .i64 id] 3)).alloc (.cells #[.slice (some ⟨w.heap.size, 0, none⟩) 1 1] 79) = W0 at *
  clear hBB
  go_loopg [5] 45 (fun gh fv wr => ∃ (F H : List Int) (vH fv0 : Value), fv0 = fv ∧ 2 * (22 - F.length) + H.length ≤ gh ∧ CtP ks id (fun _ => False) F H ∧ CtM w wr B fv vH F H)
  case atStart => exact ⟨[], [id], _, _, rfl, by simp, HP0.out, HM0.out⟩
  case round =>
    obtain ⟨F, H, vH, fv, rfl, hgh, hP, hM⟩ := hrel
    have HP := Lib.hid hP
    have HM := Lib.hid hM
    have hfew := hP.few
    have hHl := hP.len
    obtain ⟨ha, hc, hsh⟩ := hM.hp.shape
    subst hsh
    have c0 := hM.hp.cell.1
    clear hP hM HP0 HM0
    by_cases hz : H.length = 0
    · obtain rfl : H = [] := List.length_eq_zero_iff.1 hz
      have HE := Lib.hid (HML.out F HP.out.fin)
      obtain ⟨fa, fc, hfs⟩ := HM.out.found.shape
      subst hfs
      go_wp2_with fail
      refine (hlen_any _ _ _ _).mono ?_
      rintro e w1 ⟨rfl, rfl⟩
      go_wp2
      go_ret
      exact ⟨_, rfl, by rw [← HE.out]; exact HM.out.found⟩
    · obtain ⟨m, hm⟩ : ∃ m, H.length = m + 1 := ⟨H.length - 1, by omega⟩
      have z1 : (0 : Int) < (H.length : Int) := by omega
      have HPOP := Lib.hid (hpop_any w.heap.size B m _ H _ HM.out.hp hm (by omega))
      go_wp2_with fail
      refine (hlen_any _ _ _ _).mono ?_
      rintro e w1 ⟨rfl, rfl⟩
      go_wp2_with fail
      refine HPOP.out.mono ?_
      rintro e w2 ⟨x, v2, H2, rfl, ⟨hl2, hm2⟩, hp2, hb2, hk2⟩
      obtain ⟨hP2, hx⟩ := HP.out.pop (x := x) (H' := H2) (by omega) hm2
      have HP2 := Lib.hid hP2
      have HX := Lib.hid hx
      have HM2 := Lib.hid (HM.out.heap hk2 hp2 (.inl hb2))
      have hgh2 := Nat.le_trans (show 2 * (22 - F.length) + H2.length + 1 ≤ 2 * (22 - F.length) + H.length by omega) hgh
      clear hP2 hx hk2 hp2 hb2 hm2 HP HM HPOP c0 hz z1
      have hta := tassert x w2
      go_wp2_with fail
      refine (HNR.out x _ HM2.out.found.below).mono ?_
      rintro e w3 ⟨vn, rfl, hN⟩
      have HN := Lib.hid hN
      have HM3 := Lib.hid (HM2.out.next hN.below)
      have hNl := HNL.out x
      obtain ⟨na, nc, hns⟩ := hN.shape
      have HNM := Lib.hid (show NrM w2.heap.size w3.heap.size w3 vn (nearM ks x) B fv v2 from ⟨hN.own, fun b e => (hN.own.lt b e).2, Nat.le_refl _, fun e => by have h1 := (hN.own.lt B e).1; have h2 := (Array.getElem?_eq_some_iff.1 HM2.out.hp.box).1; omega, fun b e e2 => by have h1 := (hN.own.lt b e).1; have h2 := (HM2.out.found.own.lt b e2).2; omega, fun b e e2 => by have h1 := (hN.own.lt b e).1; have h2 := (HM2.out.hp.own.lt b e2).2; omega⟩)
      generalize hNN : nearM ks x = N at *
      have HEN := Lib.hid hNN
      subst hns
      clear hNN hN HM2 hta HN
      obtain ⟨T, hT⟩ : ∃ T, T = 2 * (22 - F.length) + H2.length := ⟨_, rfl⟩
      have hT1 : 2 * (22 - F.length) + H2.length ≤ T := by omega
      rw [← hT] at hgh2
      clear hT hgh hfew hHl hl2
      go_wp2
      go_loopw [5, 26] (fun fv i wr => ∃ (k : Nat) (F' H' : List Int) (vH' fv0 : Value), fv0 = fv ∧ k ≤ N.length ∧ i = .int .i64 k ∧ (CtP ks id (fun y => y = x) F' H' ∧ (x = id ∨ x ∈ F') ∧ (∀ z ∈ N.take k, z = id ∨ z ∈ F') ∧ 2 * (22 - F'.length) + H'.length ≤ T) ∧ CtM w wr B fv vH' F' H' ∧ NrM w2.heap.size w3.heap.size wr (.slice na N.length nc) N B fv vH') (fun _ i _ => N.length - (intOf i).toNat)
      case atStart => exact ⟨0, F, H2, v2, _, rfl, Nat.zero_le _, rfl, ⟨HP2.out, HX.out, by simp, hT1⟩, HM3.out, HNM.out⟩
      case round =>
        obtain ⟨k, F', H', vH', fv', rfl, hk, rfl, ⟨hP', hx', hN', hT'⟩, hM', hNM'⟩ := hrel
        have HP' := Lib.hid hP'
        have HX' := Lib.hid hx'
        have HN' := Lib.hid hN'
        have HM' := Lib.hid hM'
        have HNM' := Lib.hid hNM'
        have hfew' := hP'.few
        have hHl' := hP'.len
        clear hP' hx' hN' hM' hNM' HP2 HX HM3 HNM hT1
        by_cases hlt : k < N.length
        · obtain ⟨g, gcap, hgs⟩ := ownsRow_shape1 HNM'.out.own (by omega)
          obtain ⟨rfl, rfl⟩ : na = some ⟨g, 0, none⟩ ∧ nc = gcap := by cases hgs; exact ⟨rfl, rfl⟩
          have z0 : (0 : Int) ≤ (k : Int) := by omega
          have z1 : (k : Int) < (N.length : Int) := by omega
          have D1 := own_int HNM'.out.own k hlt
          have HMEM := Lib.hid (show N[k]?.getD 0 ∈ N by simp [hlt])
          have HTK := Lib.hid (show ∀ F'' : List Int, (∀ z ∈ N.take k, z = id ∨ z ∈ F'') → (N[k]?.getD 0 = id ∨ N[k]?.getD 0 ∈ F'') → ∀ z ∈ N.take (k + 1), z = id ∨ z ∈ F'' from fun F'' h1 h2 z hz => by
            have e : N[k]?.toList = [N[k]?.getD 0] := by simp [hlt]
            rw [List.take_add_one, e, List.mem_append, List.mem_singleton] at hz
            rcases hz with hz | rfl
            · exact h1 z hz
            · exact h2)
          generalize N[k]?.getD 0 = y at *
          have HBS := Lib.hid (ibs_any fv' F' y _ HM'.out.found.at HP'.out.ris (by omega))
          obtain ⟨fa, fc, hfs⟩ := HM'.out.found.shape
          subst hfs
          go_wp2_with fail
          refine HBS.out.mono ?_
          rintro e w4 ⟨i, rfl, ⟨hi, hi1, hi2⟩, hb4⟩
          have HI := Lib.hid (And.intro hi (And.intro hi1 hi2))
          have HM4 := Lib.hid (HM'.out.next hb4)
          have HNM4 := Lib.hid (HNM'.out.next hb4)
          clear hi hi1 hi2 hb4 HM' HNM' HBS D1
          by_cases hkn : y ∈ F'
          · rw [decide_eq_true hkn]
            have HK2 := Lib.hid (HTK.out F' HN'.out (.inr hkn))
            clear hkn
            go_wp2
            exact ⟨⟨k + 1, F', H', vH', _, rfl, by omega, by go_num, ⟨HP'.out, HX'.out, HK2.out, hT'⟩, HM4.out, HNM4.out⟩, by simp [intOf]; omega⟩
          · rw [decide_eq_false hkn]
            by_cases hyi : y = id
            · have HK2 := Lib.hid (HTK.out F' HN'.out (.inl hyi))
              subst hyi
              clear hkn
              go_wp2
              exact ⟨⟨k + 1, F', H', vH', _, rfl, by omega, by go_num, ⟨HP'.out, HX'.out, HK2.out, hT'⟩, HM4.out, HNM4.out⟩, by simp [intOf]; omega⟩
            · have HNK := Lib.hid hkn
              have hbn := (Below.refl w4.heap.size w4).alloc (Nat.le_refl _) (.cells #[.int .i64 y] 3)
              have HM5 := Lib.hid (HM4.out.next hbn)
              have HNM5 := Lib.hid (HNM4.out.next hbn)
              have HR5 := Lib.hid (heap_alloc_new w4 (.cells #[.int .i64 y] 3))
              have HNE5 := Lib.hid (show (Value.slice fa F'.length fc).ownBlock ≠ some w4.heap.size from fun e => by have := (HM4.out.found.own.lt _ e).2; omega)
              clear hkn hbn HM4 HNM4
              go_wp2_with fail
              generalize w4.alloc (.cells #[.int .i64 y] 3) = w5 at *
              refine (iinsertI_any _ F' i w4.heap.size y w w5 HM5.out.found HR5.out HNE5.out HI.out.1 (by omega)).mono ?_
              rintro e w6 ⟨f6, rfl, hf6, hg6, hn6⟩
              have HM6 := Lib.hid (HM5.out.put hf6 hg6 hn6)
              have HNM6 := Lib.hid (HNM5.out.put hg6 hn6)
              clear hf6 hg6 hn6 HM5 HNM5 HR5 HNE5
              have HPU := Lib.hid (hpush_any w.heap.size B vH' H' y w6 HM6.out.hp (by omega) HM6.out.found.below.size)
              go_wp2_with fail
              refine HPU.out.mono ?_
              rintro e w7 ⟨rfl, v7, H7, ⟨hl7, hm7⟩, hp7, hn7, hk7⟩
              have HM7 := Lib.hid (HM6.out.heap hk7 hp7 hn7)
              have HNM7 := Lib.hid (HNM6.out.heap hk7 hn7)
              have HP7 := Lib.hid (HP'.out.put (i := i) HX'.out (by rw [HEN.out]; exact HMEM.out) HNK.out hyi HI.out.1 HI.out.2.1 HI.out.2.2 hl7 hm7)
              have hl8 := insI_len (x := y) HI.out.1
              have hfw := HP7.out.few
              have HK2 := Lib.hid (HTK.out (insI F' y i) (fun z hz => (HN'.out z hz).imp_right fun h => insI_mem.2 (.inr h)) (.inr (insI_mem.2 (.inl rfl))))
              have HX7 := Lib.hid (HX'.out.imp_right fun h => insI_mem.2 (.inr h) : x = id ∨ x ∈ insI F' y i)
              have hT7 : 2 * (22 - (insI F' y i).length) + H7.length ≤ T := by omega
              clear hp7 hn7 hk7 hm7 HPU HM6 HNM6
              go_wp2
              exact ⟨⟨k + 1, _, H7, v7, _, rfl, by omega, by go_num, ⟨HP7.out, HX7.out, HK2.out, hT7⟩, HM7.out, HNM7.out⟩, by simp [intOf]; omega⟩
        · obtain rfl : k = N.length := by omega
          have HP9 := Lib.hid (HP'.out.done (by have := HN'.out; rw [List.take_length] at this; rw [HEN.out]; exact this))
          clear HP' HN'
          go_wp2
          go_roundg T
          case measure => omega
          case rel => exact ⟨F', H', vH', _, rfl, hT', HP9.out, HM'.out⟩
set_option maxRecDepth 100000 in
set_option maxHeartbeats 1000000 in
theorem ireach_any (v : Value) (ks : List K2) (id : Int) (w : World) (h : keysAt w v ks) (hs : ks.length ≤ 2000000) (M : List Int) (hM : RL ks id M) :
    Calls Try.prog 28 #[v, .int .i64 id] w fun e w' => ∃ v', e = .returned v' ∧ IlD w w' v' M := by
  have HLK := Lib.hid (ilinksok_any v ks w h hs)
  have HK := Lib.hid (fun wx (hb : Below w.heap.size w wx) => keysAt_below h hb)
  cases hl : lnsB ks with
  | false =>
    have HE := Lib.hid (show M = [] from by
      cases M with
      | nil => rfl
      | cons y r =>
        have h1 := ((hM.2 y).1 (by simp))
        cases h1.2 with
        | refl => exact absurd rfl h1.1
        | step _ hy => have := (mem_near.1 hy).1; rw [hl] at this; cases this)
    rw [hl] at HLK
    obtain ⟨a, cap, rfl, -, -⟩ := h
    clear hl
    go_enter Try.func28, Try.ntmps28
    go_wp2_with fail
    refine HLK.out.mono ?_
    rintro e w1 ⟨rfl, hb1⟩
    have HB1 := Lib.hid hb1
    clear hb1 HLK HK
    go_wp2
    go_ret
    exact ⟨_, rfl, by rw [HE.out]; exact ⟨World.ownsRow_nil _ _ _ _, HB1.out⟩⟩
  | true =>
    rw [hl] at HLK
    have HN := Lib.hid (fun bx wx (hr : wx.heap[bx]? = some (.cells #[v] 24 (0, 0))) (hk : keysAt wx v ks) => icometo_any bx v ks id wx hk hr hl M hM)
    obtain ⟨a, cap, rfl, -, -⟩ := h
    clear hl
    go_enter Try.func28, Try.ntmps28
    go_wp2_with fail
    refine HLK.out.mono ?_
    rintro e w1 ⟨rfl, hb1⟩
    have HB1 := Lib.hid hb1
    clear hb1 HLK
    go_wp2_with fail
    refine (inearby_any _ _ _ _).mono ?_
    rintro e w2 ⟨rfl, rfl⟩
    have hb2 := (Below.refl w1.heap.size w1).alloc (Nat.le_refl _) (.cells #[.slice a ks.length cap] 24)
    have HB2 := Lib.hid (HB1.out.trans (hb2.mono HB1.out.size))
    have HR := Lib.hid (heap_alloc_new w1 (.cells #[.slice a ks.length cap] 24))
    generalize w1.alloc (.cells #[.slice a ks.length cap] 24) = w3 at *
    go_wp2_with fail
    refine (HN.out _ _ HR.out (HK.out _ HB2.out)).mono ?_
    rintro e w4 ⟨v4, rfl, hL4⟩
    have HL4 := Lib.hid (hL4.base HB2.out)
    clear hL4 HN HK HR HB1 hb2
    go_wp2
    go_ret
    exact ⟨_, rfl, HL4.out⟩
end Go.Proofs.Ytpfnpinoamjcjaa
namespace Go.Proofs.Ytpfnpinoamjcjaa
open Go.RowKit Go.ChangeShapes Go.WideShapes Go.ChangeAt
set_option linter.unusedVariables false
set_option maxRecDepth 100000 in
set_option maxHeartbeats 1000000 in
theorem eqints_self (va vb : Value) (A : List Int) (w : World) (ha : inAt w va A) (hb : inAt w vb A) (hn : A.length ≤ 4000000) :
    Calls Try.prog 36 #[va, vb] w fun e w' => e = .returned (.bool true) ∧ Below w.heap.size w w' := by
  obtain ⟨a1, c1, rfl, hc1, h1⟩ := ha
  obtain ⟨a2, c2, rfl, hc2, h2⟩ := hb
  generalize hN : A.length = n at *
  rcases Nat.eq_zero_or_pos n with rfl | hp
  · clear h1 h2
    go_enter Try.func36, Try.ntmps36
    go_wp2
    go_loopw [5] (fun i wr => i = .int .i64 0 ∧ wr = w) (fun _ _ => 0)
    case atStart => exact ⟨rfl, rfl⟩
    case round =>
      obtain ⟨rfl, rfl⟩ := hrel
      go_wp2
      go_ret
      exact ⟨rfl, Below.refl _ _⟩
  · obtain ⟨g1, o1, rfl, l1, h1⟩ := h1.resolve_left (by omega)
    obtain ⟨g2, o2, rfl, l2, h2⟩ := h2.resolve_left (by omega)
    go_enter Try.func36, Try.ntmps36
    go_wp2
    go_loopw [5] (fun i wr => ∃ (k : Nat), k ≤ n ∧ i = .int .i64 k ∧ Below w.heap.size w wr)
      (fun i _ => n - (intOf i).toNat)
    case atStart => exact ⟨0, Nat.zero_le _, rfl, Below.refl _ _⟩
    case round =>
      obtain ⟨k, hk, rfl, hbr⟩ := hrel
      by_cases hlt : k < n
      · have z0 : (0 : Int) ≤ (k : Int) := by omega
        have z1 : (k : Int) < (n : Int) := by omega
        have d1 := (hbr.cell (p := ⟨g1, o1 + k, none⟩) l1).trans (h1 k hlt)
        have d2 := (hbr.cell (p := ⟨g2, o2 + k, none⟩) l2).trans (h2 k hlt)
        have R := Lib.hid hbr
        clear h1 h2 hbr
        generalize A[k]?.getD 0 = x at *
        go_wp2
        go_region
        go_wp2
        exact ⟨⟨k + 1, by omega, by go_num, R.out.drew⟩, by simp [intOf] <;> omega⟩
      · obtain rfl : k = n := by omega
        clear h1 h2
        go_wp2
        go_ret
        exact ⟨rfl, hbr⟩
end Go.Proofs.Ytpfnpinoamjcjaa
namespace Go.Proofs.Ytpfnpinoamjcjaa
open Go.RowKit Go.ChangeShapes Go.WideShapes Go.ChangeAt
set_option linter.unusedVariables false
set_option maxRecDepth 100000 in
set_option maxHeartbeats 1000000 in
theorem markints_any (base : Nat) (v : Value) (n : Nat) (xs : List Value) (m : Int) (w : World) (h : w.ownsRow base 3 1 v n xs) (hm : 0 ≤ m ∧ m ≤ 1000000000) (hn : n ≤ 4000000) :
    Calls Try.prog 37 #[v, .int .i64 m] w fun e w' => e = .returned (.int .i64 (m + (n : Int))) ∧ w'.ownsRow base 3 1 v n (intsV (mkI n m)) ∧ w.grownBy w' v.ownBlock := by
  rcases ownsRow_shape0 h with ⟨rfl, rfl⟩ | ⟨g, cap, rfl⟩
  · have e0 : m + ((0 : Nat) : Int) = m := by omega
    rw [e0]
    have ho : w.ownsRow base 3 1 (.slice none 0 0) 0 (intsV (mkI 0 m)) := ⟨by simp [mkI, intsV], .inl ⟨rfl, rfl⟩⟩
    go_enter Try.func37, Try.ntmps37
    go_wp2
    go_loopw [1, 5] (fun c i wr => c = .int .i64 m ∧ i = .int .i64 0 ∧ wr = w) (fun _ _ _ => 0)
    case atStart => exact ⟨rfl, rfl, rfl⟩
    case round =>
      obtain ⟨rfl, rfl, rfl⟩ := hrel
      go_wp2
      go_ret
      exact ⟨rfl, ho, World.grownBy.refl _ _⟩
  · have hxl := h.1
    go_enter Try.func37, Try.ntmps37
    go_wp2
    go_loopw [1, 5] (fun c i wr => ∃ (k : Nat) (rest : List Value), k ≤ n ∧ i = .int .i64 k ∧ c = .int .i64 (m + (k : Int)) ∧ wr.ownsRow base 3 1 (.slice (some ⟨g, 0, none⟩) n cap) n (intsV (mkI k m) ++ rest) ∧ w.grownBy wr (some g))
      (fun _ i _ => n - (intOf i).toNat)
    case atStart => exact ⟨0, xs, Nat.zero_le _, rfl, by simp, by simpa [mkI, intsV] using h, World.grownBy.refl _ _⟩
    case round =>
      obtain ⟨k, rest, hk, rfl, rfl, hown, hgr⟩ := hrel
      clear h
      by_cases hlt : k < n
      · have z0 : (0 : Int) ≤ (k : Int) := by omega
        have z1 : (k : Int) < (n : Int) := by omega
        have hl := hown.1
        rw [List.length_append, intsV_len, mkI_len] at hl
        obtain ⟨u, rest2, rfl⟩ : ∃ u r, rest = u :: r := by
          match rest, hl with
          | [], h => simp at h; omega
          | a :: r, _ => exact ⟨a, r, rfl⟩
        have hset : (intsV (mkI k m) ++ u :: rest2).set k (.int .i64 (m + (k : Int))) = intsV (mkI (k + 1) m) ++ rest2 := by
          rw [List.set_append_right _ _ (by rw [intsV_len, mkI_len]; omega), intsV_len, mkI_len, Nat.sub_self, mkI_succ]
          simp [intsV]
        obtain ⟨s1, s2⟩ := own_cell hown k (by omega)
        have st := hown.stored k (.int .i64 (m + (k : Int)))
        rw [hset] at st
        have R := Lib.hid (And.intro st.1 (grown_trans hgr st.2))
        clear st hown hgr hl hset
        go_wp2
        exact ⟨⟨k + 1, rest2, by omega, by go_num, by go_num, R.out.1, R.out.2⟩, by simp [intOf]; omega⟩
      · obtain rfl : k = n := by omega
        have hr0 : rest = [] := by
          have h1 := hown.1
          rw [List.length_append, intsV_len, mkI_len] at h1
          exact List.eq_nil_of_length_eq_zero (by omega)
        subst hr0
        rw [List.append_nil] at hown
        go_wp2
        go_ret
        exact ⟨rfl, hown, hgr⟩
set_option maxRecDepth 100000 in
set_option maxHeartbeats 1000000 in
theorem heldints_any (base : Nat) (v : Value) (n : Nat) (m : Int) (w : World) (h : w.ownsRow base 3 1 v n (intsV (mkI n m))) (hm : 0 ≤ m ∧ m ≤ 1000000000) (hn : n ≤ 4000000) :
    Calls Try.prog 38 #[v, .int .i64 m] w fun e w' => e = .returned (.int .i64 (m + (n : Int))) ∧ w' = w := by
  rcases ownsRow_shape0 h with ⟨rfl, rfl⟩ | ⟨g, cap, rfl⟩
  · have e0 : m + ((0 : Nat) : Int) = m := by omega
    rw [e0]
    go_enter Try.func38, Try.ntmps38
    go_wp2
    go_loopw [1, 5] (fun c i wr => c = .int .i64 m ∧ i = .int .i64 0 ∧ wr = w) (fun _ _ _ => 0)
    case atStart => exact ⟨rfl, rfl, rfl⟩
    case round =>
      obtain ⟨rfl, rfl, rfl⟩ := hrel
      go_wp2
      go_ret
      exact ⟨rfl, rfl⟩
  · have hc := own_int h
    clear h
    go_enter Try.func38, Try.ntmps38
    go_wp2
    go_loopw [1, 5] (fun c i wr => ∃ (k : Nat), k ≤ n ∧ i = .int .i64 k ∧ c = .int .i64 (m + (k : Int)) ∧ wr = w)
      (fun _ i _ => n - (intOf i).toNat)
    case atStart => exact ⟨0, Nat.zero_le _, rfl, by simp, rfl⟩
    case round =>
      obtain ⟨k, hk, rfl, rfl, rfl⟩ := hrel
      by_cases hlt : k < n
      · have z0 : (0 : Int) ≤ (k : Int) := by omega
        have z1 : (k : Int) < (n : Int) := by omega
        have c1 := hc k hlt
        rw [mkI_get n k m hlt] at c1
        clear hc
        go_wp2
        exact ⟨⟨k + 1, by omega, by go_num, by go_num, by trivial⟩, by simp [intOf]; omega⟩
      · obtain rfl : k = n := by omega
        clear hc
        go_wp2
        go_ret
        exact ⟨rfl, rfl⟩
end Go.Proofs.Ytpfnpinoamjcjaa
namespace Go.Proofs.Ytpfnpinoamjcjaa
open Go.ChangeShapes Go.WideShapes Go.ChangeAt Go.RowKit
set_option linter.unusedVariables false
set_option linter.unusedSimpArgs false

set_option maxRecDepth 100000 in
set_option maxHeartbeats 4000000 in
theorem fnexactreach_walk (va : Value) (A : List K2) (i0 : Int) (w : World) (ha : keysAt w va A) (hA63 : A.length ≤ maxLen) :
    Calls Try.prog 11 #[va, .int .i64 i0] w fun e w' => e = .returned (.bool true) ∧ Below w.heap.size w w' := by
  have hsA : ∃ a cap, va = .slice a A.length cap := by obtain ⟨a, cap, h, _⟩ := ha; exact ⟨a, cap, h⟩
  unfold maxLen at hA63
  have S1 := Lib.hid (fun w => szlinks_any va A 1048576 w hsA (by omega) (by omega))
  by_cases hlA : A.length ≤ 1048576
  · rw [if_neg (by omega)] at S1
    have n1 : ¬ 1048576 - (A.length : Int) < 0 := by omega
    have KA := Lib.hid (fun w' (h : Below w.heap.size w w') => tolinks_any va A w' (keysAt_below ha h) (by omega))
    obtain ⟨M, hM⟩ := reach_exists A i0
    have HS := Lib.hid (fun v w' (h : keysAt w' v A) => sreach_any v A i0 w' h (by omega) M hM)
    have HI := Lib.hid (fun v w' (h : keysAt w' v A) => ireach_any v A i0 w' h (by omega) M hM)
    have hMl : M.length ≤ 1048577 := by have := hM.len; omega
    clear hM
    have HB := Lib.hid (Below.refl w.heap.size w)
    clear hsA ha
    go_enter Try.func11, Try.ntmps11
    go_wp2_with fail
    refine (S1.out _).mono ?_
    rintro e w1 ⟨rfl, rfl⟩
    clear S1
    go_wp2_with fail
    refine (KA.out _ HB.out).mono ?_
    rintro e w2 ⟨g1, rfl, hg1, ho, hb⟩
    have O1 := Lib.hid (own_base ho HB.out.size)
    clear ho
    replace HB := Lib.hid (HB.out.trans (hb.mono HB.out.size))
    clear hb
    go_wp2_with fail
    refine (HS.out _ _ (linksAt_own O1.out)).mono ?_
    rintro e w3 ⟨v0, rfl, ho, hb0⟩
    have O0 := Lib.hid (own_base ho HB.out.size)
    clear ho
    replace HB := Lib.hid (HB.out.trans (hb0.mono HB.out.size))
    replace O1 := Lib.hid (own_below O1.out hb0)
    clear hb0
    clear O1
    go_wp2_with fail
    refine (KA.out _ HB.out).mono ?_
    rintro e w4 ⟨g3, rfl, hg3, ho, hb⟩
    have Z0 := Lib.hid (show ∀ b, v0.ownBlock = some b → b < g3 from fun b e => Nat.lt_of_lt_of_le (O0.out.lt b e).2 hg3)
    have OX := Lib.hid (own_base ho HB.out.size)
    clear ho
    replace HB := Lib.hid (HB.out.trans (hb.mono HB.out.size))
    replace O0 := Lib.hid (own_below O0.out hb)
    clear hb
    go_wp2_with fail
    refine (HI.out _ _ (linksAt_own OX.out)).mono ?_
    rintro e w5 ⟨vg, rfl, ho, hb0⟩
    have ZG := Lib.hid (show ∀ b, vg.ownBlock = some b → g3 < b from fun b e => Nat.lt_of_lt_of_le (OX.out.lt g3 rfl).2 (ho.lt b e).1)
    have OG := Lib.hid (own_base ho HB.out.size)
    clear ho
    replace HB := Lib.hid (HB.out.trans (hb0.mono HB.out.size))
    replace O0 := Lib.hid (own_below O0.out hb0)
    replace OX := Lib.hid (own_below OX.out hb0)
    clear hb0
    go_wp2_with fail
    refine (eqints_self _ _ M _ (inAt_own OG.out rfl) (inAt_own O0.out rfl) (by omega)).mono ?_
    rintro e w6 ⟨rfl, hb⟩
    replace HB := Lib.hid (HB.out.trans (hb.mono HB.out.size))
    replace O0 := Lib.hid (own_below O0.out hb)
    replace OX := Lib.hid (own_below OX.out hb)
    replace OG := Lib.hid (own_below OG.out hb)
    clear hb
    go_wp2_with fail
    refine (KA.out _ HB.out).mono ?_
    rintro e w7 ⟨g5, rfl, hg5, ho, hb⟩
    have O5 := Lib.hid (own_base ho HB.out.size)
    clear ho
    replace HB := Lib.hid (HB.out.trans (hb.mono HB.out.size))
    replace O0 := Lib.hid (own_below O0.out hb)
    replace OX := Lib.hid (own_below OX.out hb)
    replace OG := Lib.hid (own_below OG.out hb)
    clear hb
    go_wp2_with fail
    refine (eqlinks_any _ _ A A _ (linksAt_own OX.out) (linksAt_own O5.out) (by omega) (by omega)).mono ?_
    rintro e w8 ⟨rfl, hb⟩
    rw [show decide (A = A) = true by simp]
    replace HB := Lib.hid (HB.out.trans (hb.mono HB.out.size))
    replace O0 := Lib.hid (own_below O0.out hb)
    replace OX := Lib.hid (own_below OX.out hb)
    replace OG := Lib.hid (own_below OG.out hb)
    replace O5 := Lib.hid (own_below O5.out hb)
    clear hb
    clear O5
    go_wp2_with fail
    refine (marklinks_any _ _ _ _ 1 _ OX.out (by omega) (by omega) HB.out.size).mono ?_
    rintro e w9 ⟨rfl, hom, hgr⟩
    replace HB := Lib.hid (HB.out.grown hgr HB.out.size (fun k e => (OX.out.lt k e).1))
    replace O0 := Lib.hid (O0.out.kept hgr (.inr fun e => absurd (Z0.out g3 e) (Nat.lt_irrefl _)))
    replace OG := Lib.hid (OG.out.kept hgr (.inr fun e => absurd (ZG.out g3 e) (Nat.lt_irrefl _)))
    clear hom hgr
    clear OX
    have n4 : ¬ 1 + 2 * (A.length : Int) < 0 := by omega
    go_wp2_with fail
    refine (eqints_self _ _ M _ (inAt_own OG.out rfl) (inAt_own O0.out rfl) (by omega)).mono ?_
    rintro e w10 ⟨rfl, hb⟩
    replace HB := Lib.hid (HB.out.trans (hb.mono HB.out.size))
    replace O0 := Lib.hid (own_below O0.out hb)
    replace OG := Lib.hid (own_below OG.out hb)
    clear hb
    go_wp2_with fail
    refine (markints_any _ _ _ _ 1 _ OG.out (by omega) (by omega)).mono ?_
    rintro e w11 ⟨rfl, hom, hgr⟩
    replace HB := Lib.hid (HB.out.grown hgr HB.out.size (fun k e => (OG.out.lt k e).1))
    have hk : v0.ownBlock = none ∨ v0.ownBlock ≠ vg.ownBlock := by
      cases hv : v0.ownBlock with
      | none => exact .inl rfl
      | some b => exact .inr fun e => by have := Z0.out b hv; have := ZG.out b e.symm; omega
    replace O0 := Lib.hid (O0.out.kept hgr hk)
    replace OG := Lib.hid hom
    clear hom hgr hk ZG Z0
    have n5 : ¬ 1 + (M.length : Int) < 0 := by omega
    go_wp2_with fail
    refine (heldints_any _ _ _ 1 _ OG.out (by omega) (by omega)).mono ?_
    rintro e w12 ⟨rfl, rfl⟩
    go_wp2_with fail
    refine (KA.out _ HB.out).mono ?_
    rintro e w13 ⟨g6, rfl, hg6, ho, hb⟩
    have O6 := Lib.hid (own_base ho HB.out.size)
    clear ho
    replace HB := Lib.hid (HB.out.trans (hb.mono HB.out.size))
    replace O0 := Lib.hid (own_below O0.out hb)
    replace OG := Lib.hid (own_below OG.out hb)
    clear hb
    go_wp2_with fail
    refine (HI.out _ _ (linksAt_own O6.out)).mono ?_
    rintro e w14 ⟨vh, rfl, ho, hb0⟩
    have OH := Lib.hid (own_base ho HB.out.size)
    clear ho
    replace HB := Lib.hid (HB.out.trans (hb0.mono HB.out.size))
    replace O0 := Lib.hid (own_below O0.out hb0)
    replace OG := Lib.hid (own_below OG.out hb0)
    replace O6 := Lib.hid (own_below O6.out hb0)
    clear hb0
    clear O6
    go_wp2_with fail
    refine (eqints_self _ _ M _ (inAt_own OH.out rfl) (inAt_own O0.out rfl) (by omega)).mono ?_
    rintro e w15 ⟨rfl, hb⟩
    replace HB := Lib.hid (HB.out.trans (hb.mono HB.out.size))
    replace O0 := Lib.hid (own_below O0.out hb)
    replace OG := Lib.hid (own_below OG.out hb)
    replace OH := Lib.hid (own_below OH.out hb)
    clear hb
    go_wp2_with fail
    refine (heldints_any _ _ _ 1 _ OG.out (by omega) (by omega)).mono ?_
    rintro e w16 ⟨rfl, rfl⟩
    go_wp2
    go_ret
    exact ⟨rfl, HB.out⟩
  · rw [if_pos (by omega)] at S1
    clear hsA ha
    go_enter Try.func11, Try.ntmps11
    go_wp2_with fail
    refine (S1.out _).mono ?_
    rintro e w1 ⟨rfl, rfl⟩
    go_wp2
    go_ret
    exact ⟨rfl, Below.refl _ _⟩
theorem nodup_sub : ∀ {L R : List Int}, L.Nodup → (∀ x ∈ L, x ∈ R) → L.length ≤ R.length
  | [], R, _, _ => by simp
  | x :: r, R, hn, h => by
    obtain ⟨hx, hr⟩ := List.nodup_cons.1 hn
    have hxR := h x (by simp)
    have h1 := nodup_sub (L := r) (R := R.erase x) hr (fun y hy => by
      have hne : y ≠ x := fun e => hx (e ▸ hy)
      exact (List.mem_erase_of_ne hne).2 (h y (by simp [hy])))
    have h2 := List.length_erase_of_mem hxR
    have h3 : 0 < R.length := List.length_pos_of_mem hxR
    simp only [List.length_cons]
    omega
theorem iris_nodup {L : List Int} (h : IRis L) : L.Nodup := h.imp fun {a b} hab => by omega
theorem RL.near_le {ks : List K2} {id : Int} {M : List Int} (h : RL ks id M) : (nearM ks id).length ≤ M.length :=
  nodup_sub (iris_nodup (near_rising ks id)) fun y hy => by
    refine (h.2 y).2 ⟨?_, Rch.one hy⟩
    obtain ⟨h1, k, hk, h2⟩ := mem_near.1 hy
    exact fun e => (nrF_sym (((lns_iff ks).1 h1).2.1 k hk) h2).2.2 e.symm
theorem RL.other {ks : List K2} {id y : Int} {M M' : List Int} (h : RL ks id M) (hy : y ∈ M) (h' : RL ks y M') : id ∈ M' ∧ M'.length = M.length := by
  obtain ⟨hne, hr⟩ := (h.2 y).1 hy
  have hid : id ∈ M' := (h'.2 id).2 ⟨fun e => hne e.symm, hr.symm⟩
  have hn1 : id ∉ M := fun hm => ((h.2 id).1 hm).1 rfl
  have hn2 : y ∉ M' := fun hm => ((h'.2 y).1 hm).1 rfl
  have a1 : (y :: M').length ≤ (id :: M).length := nodup_sub (List.nodup_cons.2 ⟨hn2, iris_nodup h'.1⟩) fun z hz => by
    rcases List.mem_cons.1 hz with rfl | hz
    · exact List.mem_cons.2 (.inr hy)
    · by_cases e : z = id
      · exact List.mem_cons.2 (.inl e)
      · exact List.mem_cons.2 (.inr ((h.2 z).2 ⟨e, hr.trans ((h'.2 z).1 hz).2⟩))
  have a2 : (id :: M).length ≤ (y :: M').length := nodup_sub (List.nodup_cons.2 ⟨hn1, iris_nodup h.1⟩) fun z hz => by
    rcases List.mem_cons.1 hz with rfl | hz
    · exact List.mem_cons.2 (.inr hid)
    · by_cases e : z = y
      · exact List.mem_cons.2 (.inl e)
      · exact List.mem_cons.2 (.inr ((h'.2 z).2 ⟨e, hr.symm.trans ((h.2 z).1 hz).2⟩))
  simp only [List.length_cons] at a1 a2
  exact ⟨hid, by omega⟩
set_option maxRecDepth 100000 in
set_option maxHeartbeats 4000000 in
theorem fnreach_walk (a0 : Option Addr) (len0 cap0 : Nat) (z0 : List Int) (w : World) (w0 : IsRow .u8 w a0 len0 cap0 z0) :
    Calls Try.prog 5 #[.slice a0 len0 cap0] w fun e w' => e = .returned (.bool true) ∧ Below w.heap.size w w' := by
  by_cases hbig : len0 ≤ 1048576
  · have hc := codeAt_of w0 hbig
    have B1 := Lib.hid (fun w => big_any a0 len0 cap0 w hbig)
    have D1 := Lib.hid (fun (w' : World) (e : w' = w) => by subst e; exact drawreach_any len0 cap0 a0 z0 w' hc)
    clear w0 hc
    go_enter Try.func5, Try.ntmps5
    go_wp2_with fail
    refine (B1.out _).mono ?_
    rintro e w1 ⟨rfl, rfl⟩
    clear B1
    go_wp2_with fail
    refine (D1.out _ rfl).mono ?_
    rintro e w2 ⟨v, ks, id, rfl, ⟨hkl, hid⟩, hV⟩
    have HB := Lib.hid hV.below
    have HK := Lib.hid (fun wx (hb : Below w2.heap.size w2 wx) => keysAt_below hV.at hb)
    obtain ⟨M, hM⟩ := reach_exists ks id
    have HNL := Lib.hid hM.near_le
    have hml0 := hM.len
    have HRM := Lib.hid hM
    obtain ⟨av, cv, rfl⟩ := hV.shape
    clear D1 hV
    clear hM
    go_wp2_with fail
    refine (ireach_any _ ks id _ (HK.out _ (Below.refl _ _)) (by omega) M HRM.out).mono ?_
    rintro e w3 ⟨vn, rfl, hN⟩
    have HN := Lib.hid hN
    clear hN
    obtain ⟨an, cn, rfl⟩ := HN.out.shape
    go_wp2_with fail
    refine (sreach_any _ ks id _ (HK.out _ HN.out.below) (by omega) M HRM.out).mono ?_
    rintro e w4 ⟨vs, rfl, hS⟩
    have HS := Lib.hid hS
    have HN4 := Lib.hid (HN.out.next hS.below)
    clear hS HN
    have hml : M.length ≤ 100 := by omega
    go_wp2_with fail
    refine (sameints_self _ _ M _ HN4.out.at HS.out.at (by omega)).mono ?_
    rintro e w5 ⟨rfl, hb5⟩
    have HN5 := Lib.hid (HN4.out.next hb5)
    clear hb5 HS HN4
    have hat := HN5.out.at
    obtain ⟨an', cn', hvv, hcap, hcells⟩ := hat
    cases hvv
    go_wp2
    go_loopw [6] (fun i wr => ∃ k : Nat, k ≤ M.length ∧ i = .int .i64 k ∧ Below w5.heap.size w5 wr) (fun i _ => M.length - (intOf i).toNat)
    case atStart => exact ⟨0, Nat.zero_le _, rfl, Below.refl _ _⟩
    case round =>
      obtain ⟨k, hk, rfl, hb⟩ := hrel
      have HBr := Lib.hid hb
      clear hb
      by_cases hlt : k < M.length
      · obtain ⟨g, off, rfl, hg, hcs⟩ := hcells.resolve_left (by omega)
        have z0 : (0 : Int) ≤ (k : Int) := by omega
        have z1 : (k : Int) < (M.length : Int) := by omega
        have HC := Lib.hid (fun j (hj : j < M.length) wx (hb : Below w5.heap.size w5 wx) => (hb.cell (p := ⟨g, off + j, none⟩) hg).trans (hcs j hj))
        have D1 := HC.out k hlt _ HBr.out
        have HMEM := Lib.hid (show M[k]?.getD 0 ∈ M by simp [hlt])
        clear hcs hcells
        generalize M[k]?.getD 0 = y at *
        obtain ⟨Mo, hMo⟩ := reach_exists ks y
        have HMO := Lib.hid hMo
        clear hMo
        go_wp2_with fail
        refine (ireach_any _ ks y _ (HK.out _ (HN5.out.below.trans (HBr.out.mono HN5.out.below.size))) (by omega) Mo HMO.out).mono ?_
        rintro e w6 ⟨vo, rfl, hO⟩
        have HO := Lib.hid hO
        have HB6 := Lib.hid (HBr.out.trans (hO.below.mono HBr.out.size))
        clear hO D1
        have HSYM := Lib.hid (HRM.out.other HMEM.out HMO.out)
        have heq : (Mo.length : Int) = (M.length : Int) := by have := HSYM.out.2; omega
        have hol : Mo.length ≤ 100 := by have := HSYM.out.2; omega
        obtain ⟨ao, co, rfl⟩ := HO.out.shape
        have hat2 := HO.out.at
        obtain ⟨ao', co', hvv, hcap2, hcells2⟩ := hat2
        cases hvv
        go_wp2
        go_loopw [8, 9] (fun bv i wr2 => ∃ j : Nat, j ≤ Mo.length ∧ i = .int .i64 j ∧ bv = .bool (decide (id ∈ Mo.take j)) ∧ Below w6.heap.size w6 wr2) (fun _ i _ => Mo.length - (intOf i).toNat)
        case atStart => exact ⟨0, Nat.zero_le _, rfl, rfl, Below.refl _ _⟩
        case round =>
          obtain ⟨j, hj, rfl, rfl, hb2⟩ := hrel
          have HB2 := Lib.hid hb2
          clear hb2
          by_cases hjl : j < Mo.length
          · obtain ⟨g2, off2, rfl, hg2, hcs2⟩ := hcells2.resolve_left (by omega)
            have y0 : (0 : Int) ≤ (j : Int) := by omega
            have y1 : (j : Int) < (Mo.length : Int) := by omega
            have D2 := (HB2.out.cell (p := ⟨g2, off2 + j, none⟩) hg2).trans (hcs2 j hjl)
            have HT := Lib.hid (show decide (id ∈ Mo.take (j + 1)) = (decide (id ∈ Mo.take j) || (Mo[j]?.getD 0 == id)) by
              have e : Mo[j]?.toList = [Mo[j]?.getD 0] := by simp [hjl]
              rw [List.take_add_one, e, Bool.eq_iff_iff]
              simp only [decide_eq_true_eq, Bool.or_eq_true, List.mem_append, List.mem_singleton, beq_iff_eq]
              exact or_congr Iff.rfl ⟨Eq.symm, Eq.symm⟩)
            clear hcs2 hcells2
            generalize Mo[j]?.getD 0 = u at *
            generalize decide (id ∈ Mo.take j) = b at *
            cases b with
            | true =>
              go_wp2
              exact ⟨⟨j + 1, by omega, by go_num, by rw [HT.out]; rfl, HB2.out⟩, by simp [intOf]; omega⟩
            | false =>
              by_cases hu : u = id
              · subst hu
                go_wp2
                exact ⟨⟨j + 1, by omega, by go_num, by rw [HT.out]; simp, HB2.out⟩, by simp [intOf]; omega⟩
              · go_wp2
                exact ⟨⟨j + 1, by omega, by go_num, by rw [HT.out]; simp [hu], HB2.out⟩, by simp [intOf]; omega⟩
          · obtain rfl : j = Mo.length := by omega
            have hb1 : decide (id ∈ Mo.take Mo.length) = true := by rw [List.take_length]; exact decide_eq_true HSYM.out.1
            rw [hb1]
            have HB7 := Lib.hid (HB6.out.trans (HB2.out.mono HB6.out.size))
            clear hb1 hcells2 HB2 HB6 HO HSYM
            go_wp2
            exact ⟨⟨k + 1, by omega, by go_num, HB7.out⟩, by simp [intOf]; omega⟩
      · obtain rfl : k = M.length := by omega
        have HN9 := Lib.hid (HN5.out.next HBr.out)
        clear hcells
        go_wp2_with fail
        refine (inear_any _ ks id _ (HK.out _ HN9.out.below) (by omega)).mono ?_
        rintro e w9 ⟨v9, rfl, hL9⟩
        have HF := Lib.hid (HB.out.trans ((HN9.out.below.trans (hL9.below.mono HN9.out.below.size)).mono HB.out.size))
        have hnl := HNL.out
        obtain ⟨a9, c9, hs9⟩ := hL9.shape
        subst hs9
        generalize (nearM ks id).length = nl at *
        have z9 : (nl : Int) ≤ (M.length : Int) := by omega
        clear hL9
        go_wp2
        go_ret
        exact ⟨by simp [hnl], HF.out⟩
  · go_enter Try.func5, Try.ntmps5
    go_wp2_with fail
    refine (big_true a0 len0 cap0 w hbig).mono ?_
    rintro e w1 ⟨rfl, rfl⟩
    go_wp2
    go_ret
    exact ⟨rfl, Below.refl _ _⟩
end Go.Proofs.Ytpfnpinoamjcjaa
namespace Go.Proofs.Ytpfnpinoamjcjaa
open Go.ChangeShapes Go.WideShapes Go.ChangeAt Go.RowKit Go.Deep
set_option linter.unusedVariables false

set_option maxRecDepth 20000 in
theorem open_links {H : Type} {enc : TypeId × Value → H} {W : World} {r : Reach} {b0 : Nat} {v : Value} {d : DataW H} {p : List MemPlace} (hv : Value.okWide Try.prog W r b0 37 v) (h : DataW.Trod enc Try.prog W 0 (fun _ => true) true 37 v d p) : ∃ ks : List K2, keysAt W v ks ∧ ks.length ≤ maxLen := by
  obtain ⟨a, len, cap, rfl⟩ := okWide_slice Try.underlying37 hv
  obtain ⟨fuel, hf⟩ := h
  rcases open_slice_pairs Try.underlying37 Try.underlying68 (by kernel_rfl) rfl rfl (by kernel_rfl) (by kernel_rfl) hf with ⟨hcs, -⟩ | ⟨x, l, c, m, n, V0, V1, D0, D1, P0, P1, hcs, -, hl, hm, hmm, -, hx⟩
  · simp [Value.cells] at hcs
    obtain ⟨rfl, rfl, rfl⟩ := hcs
    exact ⟨[], ⟨none, 0, rfl, by simp, .inl rfl⟩, by simp⟩
  · simp [Value.cells] at hcs
    obtain ⟨rfl, rfl, rfl⟩ := hcs
    have hmc : len ≤ m := by rw [hmm]; simp; omega
    have hev : ∀ i, i < len → ∃ k : K2, W.cell? (x.add (i * 2)) = some (.int .i64 k.1) ∧ W.cell? (x.add (i * 2 + 1)) = some (.int .i64 k.2) := by
      intro i hi
      obtain ⟨h0, h1, t0, t1⟩ := hx i (by omega)
      obtain ⟨z0, e0, -, -⟩ := DataW.trod_int Try.underlying3 t0
      obtain ⟨z1, e1, -, -⟩ := DataW.trod_int Try.underlying3 t1
      have e0 : V0 i = .int .i64 z0 := (List.cons.inj e0).1
      have e1 : V1 i = .int .i64 z1 := (List.cons.inj e1).1
      exact ⟨(z0, z1), by rw [h0, e0], by rw [h1, e1]⟩
    obtain ⟨f, hf2⟩ := choose_lt hev
    refine ⟨(List.range len).map f, ⟨some x, cap, by simp, by simpa using hl, ?_⟩, by simp; omega⟩
    simp only [List.length_map, List.length_range]
    rcases Nat.eq_zero_or_pos len with h0 | h0
    · exact .inl h0
    · obtain ⟨b, off, spot⟩ := x
      have hc := (hf2 0 h0).1
      have hs : spot = none := by simpa [Addr.add] using World.cell?_spot hc
      subst hs
      have hadd : ∀ j, (⟨b, off, none⟩ : Addr).add j = ⟨b, off + j, none⟩ := by
        intro j
        unfold Addr.add
        split
        · rename_i h; simp [h]
        · rfl
      refine .inr ⟨b, off, rfl, World.block_lt_of_cell? W ⟨b, off, none⟩ (by simpa [Addr.add] using hc), fun i hi => ?_⟩
      have e : ((List.range len).map f).getD i (0, 0) = f i := by simp [List.getD, hi]
      have := hf2 i hi
      rw [hadd, hadd] at this
      rw [e]
      exact this
end Go.Proofs.Ytpfnpinoamjcjaa
