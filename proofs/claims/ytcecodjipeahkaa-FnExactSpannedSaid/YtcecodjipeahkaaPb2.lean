/- What the laws lean on (own lemmas and walks of the called functions). -/
import Derived.Test.YtcecodjipeahkaaPb1
set_option linter.unusedVariables false
set_option linter.unusedSimpArgs false
namespace Go.Proofs.Ytcecodjipeahkaa
open Go
set_option linter.unusedVariables false
set_option linter.unusedSimpArgs false
attribute [local irreducible] pivX

theorem Elim.piv {L R : List W2} {P : List Nat} {place : Nat} (h : Elim L R P place) (i : Nat) (hi : i < P.length) : ordX.piv (R.getD i zW) = P.getD i 0 :=
  ordX.uniq _ _ (h.own i hi) (h.low i hi)
theorem pair_getD {L : List W2} {Q : W2 → W2 → Prop} (h : ∀ i j, i < j → j < L.length → Q (L.getD i zW) (L.getD j zW)) : L.Pairwise Q := by
  refine List.pairwise_iff_getElem.2 fun i j hi hj hij => ?_
  have := h i j hij hj
  simpa [List.getD, hi, hj] using this
theorem take_getD (R : List W2) (n i : Nat) (hi : i < n) : (R.take n).getD i zW = R.getD i zW := by
  simp [List.getD, hi]
/-- the rows with places, and those without any -/
theorem Elim.inv {L R : List W2} {P : List Nat} (h : Elim L R P 2016) : Inv ordX (R.take P.length) (R.drop P.length) L := by
  have hl : (R.take P.length).length = P.length := by rw [List.length_take]; have := h.len; omega
  have hb : ∀ b ∈ R.take P.length, ∃ i, i < P.length ∧ R.getD i zW = b := by
    intro b hb
    obtain ⟨i, hi, e⟩ := mem_at hb
    rw [hl] at hi
    exact ⟨i, hi, by rw [← e, take_getD _ _ _ hi]⟩
  refine ⟨⟨fun b hbm => ?_, ?_⟩, fun b hbm k hk => ?_, fun z hz => ?_, fun y => ?_⟩
  · obtain ⟨i, hi, rfl⟩ := hb b hbm
    show hX _ (ordX.piv _) = true
    rw [h.piv i hi]; exact h.own i hi
  · refine pair_getD fun i j hij hj => ?_
    rw [hl] at hj
    rw [take_getD _ _ _ hj, take_getD _ _ _ (by omega), h.piv i (by omega), h.piv j hj]
    have := h.len
    exact ⟨h.alone j hj i (by omega) (by omega), h.alone i (by omega) j (by omega) (by omega)⟩
  · obtain ⟨i, hi, rfl⟩ := hb b hbm
    rw [h.piv i hi] at hk
    exact h.low i hi k hk
  · obtain ⟨j, hj, e⟩ := List.mem_iff_getElem.1 hz
    rw [List.getElem_drop] at e
    rw [List.length_drop] at hj
    refine bare_of ordX fun p => ?_
    have hg : R.getD (P.length + j) zW = z := by rw [List.getD, List.getElem?_eq_getElem (by omega)]; exact e
    show hX z p = false
    rw [← hg]
    by_cases hp : p < 2016
    · exact h.rest _ (by omega) (by omega) p hp
    · exact hX_end _ _ (by omega)
  · rw [List.take_append_drop]; exact h.span y
theorem Elim.zeros {L R : List W2} {P : List Nat} (h : Elim L R P 2016) : ∀ z ∈ R.drop P.length, z = zW := fun z hz => (bareX z).1 (h.inv.bare z hz)
theorem Elim.base {L R : List W2} {P : List Nat} (h : Elim L R P 2016) (y : W2) : Span grpW (· ∈ R.take P.length) y ↔ Span grpW (· ∈ L) y := by
  rw [← h.inv.span y]
  constructor
  · exact Span.mono fun v hv => List.mem_append_left _ hv
  · refine Span.le fun v hv => ?_
    rcases List.mem_append.1 hv with hv | hv
    · exact .of hv
    · rw [h.zeros v hv]; exact .zero
/-- the word without the places of rows, one row after another -/
def lessX (R : List W2) (P : List Nat) (x : W2) : Nat → W2
  | 0 => x
  | i + 1 => if hX (lessX R P x i) (P.getD i 0) = true then grpW.add (lessX R P x i) (R.getD i zW) else lessX R P x i
theorem Elim.lessX_eq {L R : List W2} {P : List Nat} (h : Elim L R P 2016) (x : W2) : ∀ i, i ≤ P.length → lessX R P x i = lessG ordX.toPla (R.take i) x
  | 0, _ => rfl
  | i + 1, hi => by
    have ih := h.lessX_eq x i (by omega)
    have hr : i < R.length := by have := h.len; omega
    have e : R.take (i + 1) = R.take i ++ [R.getD i zW] := by
      rw [List.take_succ_eq_append_getElem hr, List.getD, List.getElem?_eq_getElem hr]; rfl
    rw [e]
    show _ = List.foldl (lessS ordX.toPla) x (R.take i ++ [R.getD i zW])
    rw [List.foldl_append]
    show _ = lessS ordX.toPla (lessG ordX.toPla (R.take i) x) (R.getD i zW)
    rw [← ih]
    unfold lessS
    have hp := h.piv i (by omega)
    show (if hX _ _ = true then _ else _) = if hX _ (ordX.piv _) = true then _ else _
    rw [hp]
theorem Elim.spanned {L R : List W2} {P : List Nat} (h : Elim L R P 2016) (x : W2) : Span grpW (· ∈ L) x ↔ lessX R P x P.length = zW := by
  rw [h.lessX_eq x P.length (Nat.le_refl _), ← h.base x]
  have hI := h.inv
  have := less_iff ordX.toPla (B := R.take P.length) (Z := []) hI.redu (fun z hz => by cases hz) x
  rw [List.append_nil] at this
  rw [this, Span.none_iff]
end Go.Proofs.Ytcecodjipeahkaa
namespace Go.Proofs.Ytcecodjipeahkaa
open Go
set_option linter.unusedVariables false
set_option linter.unusedSimpArgs false

/-- n bits as a number, the first one lowest -/
def packN (f : Nat → Bool) : Nat → Nat
  | 0 => 0
  | n + 1 => packN f n + (if f n = true then 2 ^ n else 0)
theorem packN_lt (f : Nat → Bool) : ∀ n, packN f n < 2 ^ n
  | 0 => by simp [packN]
  | n + 1 => by
    have ih := packN_lt f n
    unfold packN
    rw [Nat.pow_succ]
    split <;> omega
theorem packN_bit (f : Nat → Bool) : ∀ (n i : Nat), (packN f n).testBit i = (decide (i < n) && f i)
  | 0, i => by simp [packN]
  | n + 1, i => by
    have ih := packN_bit f n i
    have hl := packN_lt f n
    unfold packN
    by_cases hf : f n = true
    · rw [if_pos hf, Nat.add_comm, show 2 ^ n + packN f n = 2 ^ n * 1 + packN f n by omega, Nat.testBit_two_pow_mul_add 1 hl]
      by_cases hi : i < n
      · rw [if_pos hi, ih]; simp [hi, show i < n + 1 by omega]
      · rw [if_neg hi]
        by_cases he : i = n
        · subst he; simp [hf]
        · have h1 : (1 : Nat).testBit (i - n) = false := by
            rw [show i - n = (i - n - 1) + 1 by omega, Nat.testBit_succ]
            simp
          rw [h1]
          simp [show ¬ i < n + 1 by omega]
    · rw [if_neg hf, Nat.add_zero, ih]
      by_cases he : i = n
      · subst he
        have : f i = false := by simpa using hf
        simp [this]
      · by_cases hi : i < n
        · simp [hi, show i < n + 1 by omega]
        · simp [hi, show ¬ i < n + 1 by omega]
theorem packN_eq (f : Nat → Bool) (n m : Nat) (hm : m < 2 ^ n) (h : ∀ i, i < n → m.testBit i = f i) : packN f n = m := by
  refine Nat.eq_of_testBit_eq fun i => ?_
  rw [packN_bit]
  by_cases hi : i < n
  · rw [h i hi]; simp [hi]
  · rw [Nat.testBit_lt_two_pow (Nat.lt_of_lt_of_le hm (Nat.pow_le_pow_right (by decide) (by omega)))]; simp [hi]
theorem packN_congr {f h : Nat → Bool} {n : Nat} (e : ∀ i, i < n → f i = h i) : packN f n = packN h n := by
  refine packN_eq f n _ (packN_lt h n) fun i hi => ?_
  rw [packN_bit, e i hi]; simp [hi]
theorem packN_xor (f h : Nat → Bool) (n : Nat) : packN f n ^^^ packN h n = packN (fun i => f i != h i) n := by
  refine (packN_eq _ n _ (Nat.xor_lt_two_pow (packN_lt f n) (packN_lt h n)) fun i hi => ?_).symm
  rw [Nat.testBit_xor, packN_bit, packN_bit]; simp [hi]
theorem packN_or (f : Nat → Bool) (n k : Nat) (hk : k < n) : packN f n ||| 2 ^ k = packN (fun i => f i || decide (i = k)) n := by
  refine (packN_eq _ n _ (Nat.or_lt_two_pow (packN_lt f n) (Nat.pow_lt_pow_right (by decide) hk)) fun i hi => ?_).symm
  rw [Nat.testBit_or, packN_bit, Nat.testBit_two_pow]
  by_cases e : k = i
  · subst e; simp [hi]
  · simp [hi, e, Ne.symm e]
theorem packN_shr (f : Nat → Bool) (n i : Nat) (hi : i < n) : packN f n / 2 ^ i % 2 = if f i = true then 1 else 0 := by
  have h := packN_bit f n i
  rw [Nat.testBit_eq_decide_div_mod_eq] at h
  simp only [hi, decide_true, Bool.true_and] at h
  have h2 : packN f n / 2 ^ i % 2 < 2 := Nat.mod_lt _ (by decide)
  cases hf : f i with
  | true => rw [hf] at h; have := of_decide_eq_true h; simp; omega
  | false => rw [hf] at h; have := of_decide_eq_false h; simp; omega
/-- the j-th number of a row -/
def rowB (f : Nat → Bool) (j : Nat) : Nat := packN (fun i => f (64 * j + i)) 64
theorem rowB_lt (f : Nat → Bool) (j : Nat) : rowB f j < 18446744073709551616 := packN_lt _ 64
theorem rowB_bit (f : Nat → Bool) (p : Nat) : rowB f (p / 64) / 2 ^ (p % 64) % 2 = if f p = true then 1 else 0 := by
  have h := packN_shr (fun i => f (64 * (p / 64) + i)) 64 (p % 64) (Nat.mod_lt _ (by decide))
  rw [show 64 * (p / 64) + p % 64 = p by omega] at h
  exact h
theorem rowB_xor (f h : Nat → Bool) (j : Nat) : rowB f j ^^^ rowB h j = rowB (fun p => f p != h p) j := packN_xor _ _ 64
theorem rowB_or_same (f : Nat → Bool) (p : Nat) : rowB f (p / 64) ||| 2 ^ (p % 64) = rowB (fun q => f q || decide (q = p)) (p / 64) := by
  unfold rowB
  rw [packN_or _ _ _ (Nat.mod_lt _ (by decide))]
  refine packN_congr fun i hi => ?_
  congr 1
  rw [decide_eq_decide]
  omega
theorem rowB_or_other (f : Nat → Bool) (p j : Nat) (h : j ≠ p / 64) : rowB f j = rowB (fun q => f q || decide (q = p)) j := by
  unfold rowB
  refine packN_congr fun i hi => ?_
  have : ¬ 64 * j + i = p := by omega
  simp [this]
theorem rowB_congr {f h : Nat → Bool} (j : Nat) (e : ∀ i, i < 64 → f (64 * j + i) = h (64 * j + i)) : rowB f j = rowB h j := packN_congr e
theorem rowB_inj {f h : Nat → Bool} (e : ∀ j, j < 32 → rowB f j = rowB h j) (p : Nat) (hp : p < 2048) : f p = h p := by
  have h1 := rowB_bit f p
  rw [e (p / 64) (by omega), rowB_bit h p] at h1
  revert h1
  cases f p <;> cases h p <;> simp
/-- the numbers of a row, as they lie -/
def rowV (f : Nat → Bool) : List Value := (List.range 32).map fun j => Value.int .u64 ((rowB f j : Nat) : Int)
theorem rowV_len (f : Nat → Bool) : (rowV f).length = 32 := by simp [rowV]
theorem rowV_get (f : Nat → Bool) (j : Nat) (hj : j < 32) : (rowV f)[j]? = some (.int .u64 ((rowB f j : Nat) : Int)) := by simp [rowV, hj]
theorem rowV_one (f : Nat → Bool) : ∀ u ∈ rowV f, u.oneCell' = true := by
  intro u hu
  obtain ⟨j, _, rfl⟩ := List.mem_map.1 hu
  rfl
theorem rowV_congr {f h : Nat → Bool} (e : ∀ p, p < 2048 → f p = h p) : rowV f = rowV h := by
  unfold rowV
  refine List.map_congr_left fun j hj => ?_
  have hj' := List.mem_range.1 hj
  rw [rowB_congr j fun i hi => e _ (by omega)]
theorem rowV_inj {f h : Nat → Bool} (e : rowV f = rowV h) (p : Nat) (hp : p < 2048) : f p = h p := by
  refine rowB_inj (fun j hj => ?_) p hp
  have h1 := rowV_get f j hj
  rw [e, rowV_get h j hj] at h1
  have h2 := Option.some.inj h1
  injection h2 with _ h3
  omega
theorem u64_xor (n m : Nat) (hn : n < 18446744073709551616) (hm : m < 18446744073709551616) : bits .xor .u64 (n : Int) (m : Int) = ((n ^^^ m : Nat) : Int) := by
  have hx := Nat.xor_lt_two_pow (n := 64) hn hm
  show IntKind.u64.wrap ((BitVec.ofInt 64 (n : Int) ^^^ BitVec.ofInt 64 (m : Int)).toNat : Nat) = _
  rw [bv_nat, bv_nat, BitVec.toNat_xor, BitVec.toNat_ofNat, BitVec.toNat_ofNat, Nat.mod_eq_of_lt (by omega), Nat.mod_eq_of_lt (by omega)]
  generalize n ^^^ m = z at *
  rw [IntKind.wrap_u64]; omega
theorem u64_or (n m : Nat) (hn : n < 18446744073709551616) (hm : m < 18446744073709551616) : bits .or .u64 (n : Int) (m : Int) = ((n ||| m : Nat) : Int) := by
  have hx := Nat.or_lt_two_pow (n := 64) hn hm
  show IntKind.u64.wrap ((BitVec.ofInt 64 (n : Int) ||| BitVec.ofInt 64 (m : Int)).toNat : Nat) = _
  rw [bv_nat, bv_nat, BitVec.toNat_or, BitVec.toNat_ofNat, BitVec.toNat_ofNat, Nat.mod_eq_of_lt (by omega), Nat.mod_eq_of_lt (by omega)]
  generalize n ||| m = z at *
  rw [IntKind.wrap_u64]; omega
theorem u64_and1 (n : Nat) (hn : n < 18446744073709551616) : bits .and .u64 (n : Int) 1 = ((n % 2 : Nat) : Int) := by
  show IntKind.u64.wrap ((BitVec.ofInt 64 (n : Int) &&& BitVec.ofInt 64 ((1 : Nat) : Int)).toNat : Nat) = _
  rw [bv_nat, bv_nat, BitVec.toNat_and, BitVec.toNat_ofNat, BitVec.toNat_ofNat, Nat.mod_eq_of_lt (by omega), Nat.mod_eq_of_lt (by omega), Nat.and_one_is_mod]
  have : n % 2 < 2 := Nat.mod_lt _ (by decide)
  rw [IntKind.wrap_u64]; omega
end Go.Proofs.Ytcecodjipeahkaa
namespace Go.Proofs.Ytcecodjipeahkaa
open Go.ChangeShapes Go.WideShapes Go.ChangeAt Go.RowKit Go.BigFrame
set_option linter.unusedVariables false

set_option maxRecDepth 100000 in
theorem ihas_any (g o : Nat) (f : Nat → Bool) (p : Nat) (hp : p < 2048) (w : World) (h : w.rangeAt g o (rowV f)) :
    Calls Try.prog 48 #[.pointer (some ⟨g, o, none⟩), .int .i64 (p : Int)] w fun e w' => e = .returned (.bool (f p)) ∧ w' = w := by
  have hc := h (p / 64) _ (rowV_get f (p / 64) (by omega))
  have hb := rowB_bit f p
  have hlt := rowB_lt f (p / 64)
  generalize rowB f (p / 64) = n at *
  have hq : (bits .and .u64 ((n : Int) / 2 ^ (p % 64)) 1 == 1) = f p := by
    have h1 : (n : Int) / 2 ^ (p % 64) = ((n / 2 ^ (p % 64) : Nat) : Int) := by rw [Int.natCast_ediv, Int.natCast_pow]; rfl
    have h2 : n / 2 ^ (p % 64) < 18446744073709551616 := Nat.lt_of_le_of_lt (Nat.div_le_self _ _) hlt
    rw [h1, u64_and1 _ h2, hb]
    cases f p <;> rfl
  have HQ := Lib.hid hq
  clear hq hb hlt
  have e3 : (0 : Int) ≤ ((p / 64 : Nat) : Int) := by omega
  have e4 : ((p / 64 : Nat) : Int) < 32 := by omega
  clear h
  go_enter Try.func48, Try.ntmps48
  go_wp2
  go_ret
  exact ⟨by rw [HQ.out]; rfl, rfl⟩
/-- the same heap, nothing told; what was drawn aside -/
structure Alike (w w' : World) : Prop where
  heap : w'.heap = w.heap
  os : w'.os = w.os
  tape : w'.tape = w.tape
  output : w'.output = w.output
theorem Alike.refl (w : World) : Alike w w := ⟨rfl, rfl, rfl, rfl⟩
theorem Alike.cell {w w' : World} (h : Alike w w') (a : Addr) : w'.cell? a = w.cell? a := by simp [World.cell?, h.heap]
theorem Alike.frozen {w w' : World} (h : Alike w w') (a : Addr) : w'.frozen? a = w.frozen? a := by simp [World.frozen?, h.heap]
theorem Alike.setCell {w w' : World} (h : Alike w w') (a : Addr) (v : Value) : Alike (w.setCell a v) (w'.setCell a v) :=
  ⟨by simp [World.setCell, h.heap], h.os, h.tape, h.output⟩
theorem Alike.drew {w w' : World} (h : Alike w w') : Alike w w'.drew := ⟨h.heap, h.os, h.tape, h.output⟩
theorem Alike.trans {a b c : World} (h : Alike a b) (k : Alike b c) : Alike a c := ⟨k.heap.trans h.heap, k.os.trans h.os, k.tape.trans h.tape, k.output.trans h.output⟩
theorem Alike.below {w w' : World} {n : Nat} (h : Alike w w') : Below n w w' := ⟨h.os, h.tape, h.output, by rw [h.heap]; exact Nat.le_refl _, fun k _ => by rw [h.heap]⟩
theorem Alike.own {w w' : World} (h : Alike w w') {base n : Nat} {e : TypeId} {size : Nat} {v : Value} {xs : List Value} (ho : w.ownsRow base e size v n xs) : w'.ownsRow base e size v n xs := by
  unfold World.ownsRow at *
  rw [h.heap]; exact ho
theorem setCells_snoc (b : Nat) (v : Value) : ∀ (vs : List Value) (o : Nat) (w : World), w.setCells b o (vs ++ [v]) = (w.setCells b o vs).setCell ⟨b, o + vs.length, none⟩ v
  | [], o, w => by simp [World.setCells]
  | u :: vs, o, w => by
    rw [List.cons_append, World.setCells, World.setCells, setCells_snoc b v vs (o + 1) _]
    congr 2
    simp only [List.length_cons]; omega
set_option maxRecDepth 100000 in
set_option maxHeartbeats 1000000 in
theorem iturn_any (g o : Nat) (f : Nat → Bool) (g' o' : Nat) (h : Nat → Bool) (w : World) (hf : w.rangeAt g o (rowV f)) (hh : w.rangeAt g' o' (rowV h)) (ht : w.there g o 32) (hap : g' ≠ g ∨ o' + 32 ≤ o ∨ o + 32 ≤ o') :
    Calls Try.prog 49 #[.pointer (some ⟨g, o, none⟩), .pointer (some ⟨g', o', none⟩)] w fun e w' => e = .returned (.tuple #[]) ∧ Alike (w.setCells g o (rowV fun p => f p != h p)) w' := by
  have hlen := rowV_len fun p => f p != h p
  go_enter Try.func49, Try.ntmps49
  go_wp2_with fail
  go_loopw [5] (fun i wr => ∃ k : Nat, k ≤ 32 ∧ i = .int .i64 k ∧ Alike (w.setCells g o ((rowV fun p => f p != h p).take k)) wr) (fun i _ => 32 - (intOf i).toNat)
  case atStart => exact ⟨0, Nat.zero_le _, rfl, Alike.refl _⟩
  case round =>
    obtain ⟨k, hk, rfl, hA⟩ := hrel
    rename_i wr
    by_cases hlt : k < 32
    · have z0 : (0 : Int) ≤ (k : Int) := by omega
      have z1 : (k : Int) < 32 := by omega
      have hkl : ((rowV fun p => f p != h p).take k).length = k := by rw [List.length_take, hlen]; omega
      have c1 : wr.cell? ⟨g, o + k, none⟩ = some (.int .u64 (rowB f k : Nat)) := by
        rw [hA.cell, World.cell?_setCells_out g _ o w ⟨g, o + k, none⟩ (fun _ _ => by rw [hkl]; right; show o + k ≤ o + k; omega)]
        exact hf k _ (rowV_get f k hlt)
      have c2 : wr.cell? ⟨g', o' + k, none⟩ = some (.int .u64 (rowB h k : Nat)) := by
        rw [hA.cell, World.cell?_setCells_out g _ o w ⟨g', o' + k, none⟩ (fun hb _ => by
          rw [hkl]
          have hb' : g' = g := hb
          rcases hap with hap | hap | hap
          · exact absurd hb' hap
          · left; show o' + k < o; omega
          · right; show o + k ≤ o' + k; omega)]
        exact hh k _ (rowV_get h k hlt)
      have c3 : wr.frozen? ⟨g, o + k, none⟩ = false := by
        rw [hA.frozen, World.frozen?_setCells]; exact (ht k hlt).2
      have hx := u64_xor (rowB f k) (rowB h k) (rowB_lt f k) (rowB_lt h k)
      rw [rowB_xor] at hx
      have hst : Alike (w.setCells g o ((rowV fun p => f p != h p).take (k + 1))) (wr.setCell ⟨g, o + k, none⟩ (.int .u64 (rowB (fun p => f p != h p) k : Nat))) := by
        rw [List.take_add_one, rowV_get _ k hlt]
        show Alike (w.setCells g o (_ ++ [_])) _
        rw [setCells_snoc, hkl]
        exact hA.setCell _ _
      have HST := Lib.hid hst
      clear hst hf hh ht hap hkl hlen hA
      go_wp2_with fail
      go_region_with (fail)
      all_goals
        go_wp2
        exact ⟨⟨k + 1, by omega, by go_num, by first | exact HST.out | exact HST.out.drew⟩, by simp [intOf]; omega⟩
    · obtain rfl : k = 32 := by omega
      rw [List.take_of_length_le (by omega)] at hA
      have HA := Lib.hid hA
      clear hA hf hh ht hap
      go_wp2
      go_end0
      exact ⟨rfl, HA.out⟩
end Go.Proofs.Ytcecodjipeahkaa
namespace Go.Proofs.Ytcecodjipeahkaa
open Go.RowKit Go.Shelf
attribute [local go_sem] Oper.semAt_some
set_option linter.unusedVariables false

/-- the slice value v leads to the keys ks, in blocks below n₀ -/
def keysIn0 (n₀ : Nat) (w : World) (v : Value) (ks : List K2) : Prop :=
  ∃ a cap, v = .slice a ks.length cap ∧ ks.length ≤ cap ∧ (ks.length = 0 ∨ ∃ g off, a = some ⟨g, off, none⟩ ∧ g < n₀ ∧ g < w.heap.size ∧
    ∀ i, i < ks.length → w.cell? ⟨g, off + i * 2, none⟩ = some (.int .i64 (ks.getD i (0, 0)).1) ∧ w.cell? ⟨g, off + i * 2 + 1, none⟩ = some (.int .i64 (ks.getD i (0, 0)).2))
theorem keysIn0.below {n₀ : Nat} {w w' : World} {v : Value} {ks : List K2} (h : keysIn0 n₀ w v ks) (hb : Below n₀ w w') : keysIn0 n₀ w' v ks := by
  obtain ⟨a, cap, h1, h2, h3⟩ := h
  refine ⟨a, cap, h1, h2, h3.imp_right ?_⟩
  rintro ⟨g, off, h4, h0, h5, h6⟩
  refine ⟨g, off, h4, h0, Nat.lt_of_lt_of_le h5 hb.size, fun i hi => ?_⟩
  rw [hb.cell (p := ⟨g, off + i * 2, none⟩) h0, hb.cell (p := ⟨g, off + i * 2 + 1, none⟩) h0]
  exact h6 i hi
theorem keysIn0.at {n₀ : Nat} {w : World} {v : Value} {ks : List K2} (h : keysIn0 n₀ w v ks) : keysAt w v ks := by
  obtain ⟨a, cap, h1, h2, h3⟩ := h
  exact ⟨a, cap, h1, h2, h3.imp_right fun ⟨g, off, h4, _, h5, h6⟩ => ⟨g, off, h4, h5, h6⟩⟩
theorem keysIn0_of {w : World} {v : Value} {ks : List K2} (h : keysAt w v ks) : keysIn0 w.heap.size w v ks := by
  obtain ⟨a, cap, h1, h2, h3⟩ := h
  exact ⟨a, cap, h1, h2, h3.imp_right fun ⟨g, off, h4, h5, h6⟩ => ⟨g, off, h4, h5, h5, h6⟩⟩

theorem kin_any (a : Option Addr) (n c : Nat) (w : World) :
    Calls Try.prog 80 #[.slice a n c] w fun e w' => e = .returned (.func (.func 100) #[] #[.pointer (some ⟨w.heap.size, 0, none⟩)]) ∧ w' = w.alloc (.cells #[.slice a n c] 25) := by
  go_enter Try.func80, Try.ntmps80
  go_wp2
  go_ret
  exact ⟨rfl, rfl⟩

end Go.Proofs.Ytcecodjipeahkaa
namespace Go.Proofs.Ytcecodjipeahkaa
open Go.RowKit Go.Shelf
attribute [local go_sem] Oper.semAt_some
set_option linter.unusedVariables false

/-- a right key -/
abbrev RK := { k : K2 // keyOkB k = true }
def rk0 : RK := ⟨(1, 1), by decide⟩
theorem rk_len (ks : List RK) : (ks.map (·.1)).length = ks.length := List.length_map ..
theorem rk_get (ks : List RK) (k : Nat) (hk : k < ks.length) : (ks.map (·.1)).getD k (0, 0) = (ks.getD k rk0).1 := by simp [List.getD, hk]
set_option maxRecDepth 100000 in
set_option maxHeartbeats 1000000 in
/-- the iterator's closure: every key, in order, or as far as the round says -/
theorem kir_in (n l Bn n₀ : Nat) (v : Value) (ks : List RK) (hs : ks.length ≤ 8000000) (hn : 1 ≤ n) (J Jx : List RK → World → Prop)
    (hJ : ∀ s W W', J s W → W.grownBy W' none → J s W')
    (hY : ∀ pre x W, J pre W → pre.length < ks.length → YieldAt Fence.wide (n - 1) Try.prog l #[kv x.1] W fun e W' =>
      (e = .returned (.bool true) ∧ J (pre ++ [x]) W' ∧ Below n₀ W W') ∨ (e = .returned (.bool false) ∧ Jx (pre ++ [x]) W'))
    (W : World) (hBn : W.cell? ⟨Bn, 0, none⟩ = some v) (hk : keysIn0 n₀ W v (ks.map (·.1))) (hn₀ : n₀ ≤ W.heap.size) (h0 : J [] W) :
    CallsIn Fence.wide n Try.prog 100 #[.func (.yield l) #[] #[], .pointer (some ⟨Bn, 0, none⟩)] W fun e W' => (∃ v, e = .returned v) ∧
      ((∃ ys : List RK, ys = ks ∧ J ys W') ∨ (∃ pre : List RK, pre <+: ks ∧ Jx pre W')) := by
  refine callsIn_of_wp Try.func100 rfl trivial ?_ rfl
  simp only [Try.ntmps100, List.size_toArray, List.length_cons, List.length_nil, Nat.reduceAdd, Nat.reduceSub, Array.replicate_succ, Array.replicate_zero, List.push_toArray, List.append_toArray, List.nil_append, List.cons_append]
  obtain ⟨a, cap, rfl, hcap, hcells⟩ := id hk
  rw [rk_len] at *
  gi_wp2
  gi_loopw [7] (fun p wr => ∃ (k : Nat), p = .int .i64 k ∧ k ≤ ks.length ∧ keysIn0 n₀ wr (.slice a ks.length cap) (ks.map (·.1)) ∧ n₀ ≤ wr.heap.size ∧ J (ks.take k) wr)
    (fun p wr => ks.length + 1 - (intOf p).toNat)
  case atStart => exact ⟨0, rfl, Nat.zero_le _, hk, hn₀, h0⟩
  case round =>
    obtain ⟨k, rfl, hk1, hkw, hnw, hJs⟩ := hrel
    by_cases hlt : k < ks.length
    · have hkw' := hkw
      obtain ⟨a2, cap2, hv2, _, hcs⟩ := hkw
      rw [rk_len] at hv2 hcs
      cases hv2
      obtain ⟨g, off, rfl, hg0, hg, hcs⟩ := hcs.resolve_left (by omega)
      have c1 := hcs k hlt
      rw [rk_get ks k hlt] at c1
      have C1 := c1.1
      have C2 := c1.2
      have hks : ks.take (k + 1) = ks.take k ++ [ks.getD k rk0] := by rw [List.take_add_one]; simp [List.getD, hlt]
      have hlen : (ks.take k).length < ks.length := by simp; omega
      have z0 : (0 : Int) ≤ (k : Int) := by omega
      have z1 : (k : Int) < (ks.length : Int) := by omega
      clear hcs c1 hcells
      generalize ks.getD k rk0 = kx at *
      obtain ⟨⟨p, q⟩, hpq⟩ := kx
      have HKS := Lib.hid hks; clear hks
      dsimp only at C1 C2
      have hJa : J (ks.take k) ((wr.alloc (.cells #[.int .i64 p, .int .i64 q] 44))) := hJ _ _ _ hJs (World.grownBy_alloc wr _ none)
      have hka : keysIn0 n₀ (wr.alloc (.cells #[.int .i64 p, .int .i64 q] 44)) (.slice (some ⟨g, off, none⟩) ks.length cap) (ks.map (·.1)) := hkw'.below ((Below.refl _ _).alloc hnw _)
      have hsa : n₀ ≤ (wr.alloc (.cells #[.int .i64 p, .int .i64 q] 44)).heap.size := by simp; omega
      obtain ⟨fn, tmps, assign, body, hy, hR⟩ := hY (ks.take k) ⟨(p, q), hpq⟩ _ hJa hlen
      unfold kv at hy
      dsimp only at hy
      clear hY hJa
      gi_wp2
      refine hR.mono ?_
      rintro e W3 (⟨rfl, hJ3, hk3⟩ | ⟨rfl, hJx3⟩)
      · have hk3' := hka.below hk3
        have hsz3 := Nat.le_trans hsa hk3.size
        rw [← HKS.out] at hJ3
        clear hka hsa hkw' C1 C2
        gi_wp2
        exact ⟨⟨k + 1, by go_num, by omega, hk3', hsz3, hJ3⟩, by simp [intOf]; omega⟩
      · rw [← HKS.out] at hJx3
        clear hka hsa hkw' C1 C2
        gi_wp2
        refine bodyPost_ret (results_none rfl _ _ _) rfl ?_
        exact ⟨⟨_, rfl⟩, .inr ⟨_, List.take_prefix _ _, hJx3⟩⟩
    · obtain rfl : k = ks.length := by omega
      rw [List.take_length] at hJs
      gi_wp2
      go_end0
      exact ⟨⟨_, rfl⟩, .inl ⟨_, rfl, hJs⟩⟩

theorem kir_stops (n Bn n₀ : Nat) (v : Value) (ks : List RK) (hs : ks.length ≤ 8000000) (hn : 1 ≤ n) (w : World) (hBn : Bn < w.heap.size) (hn₀ : n₀ ≤ w.heap.size) (hc : w.cell? ⟨Bn, 0, none⟩ = some v) (hk : keysIn0 n₀ w v (ks.map (·.1))) :
    SeqStopsK Fence.wide n Try.prog 100 #[.pointer (some ⟨Bn, 0, none⟩)] (fun x : RK => #[kv x.1]) (Below n₀) (fun ys => ys = ks) (fun pre => pre <+: ks) ks.length w :=
  fun l J Jx W hW hJ _ hY h0 => kir_in n l Bn n₀ v ks hs hn J Jx (fun s A B h hg => hJ s A B none h hg (fun r e => by cases e)) hY W ((hW.cell (p := ⟨Bn, 0, none⟩) hBn).trans hc) (hk.below (hW.mono hn₀)) (Nat.le_trans hn₀ hW.size) h0
end Go.Proofs.Ytcecodjipeahkaa
namespace Go.Proofs.Ytcecodjipeahkaa
open Go.ChangeShapes Go.WideShapes Go.ChangeAt Go.RowKit Go.BigFrame
set_option linter.unusedVariables false

theorem iplace_any (k : K2) (hk : keyOkB k = true) (w : World) : Calls Try.prog 81 #[kv k] w fun e w' => e = .returned (.int .i64 (placeK k : Nat)) ∧ Below w.heap.size w w' := by
  obtain ⟨⟨h1, h2⟩, h3, h4⟩ := (keyOk_iff k).1 hk
  obtain ⟨p, q⟩ := k
  dsimp only at h1 h2 h3 h4
  have e1 : IntKind.i64.wrap (p - 1) = p - 1 := IntWalk.i64_in _ (by omega)
  have e2 : IntKind.i64.wrap ((p - 1) * 99) = (p - 1) * 99 := IntWalk.i64_in _ (by omega)
  have e3 : IntKind.i64.wrap ((p - 1) * 99 + q) = (p - 1) * 99 + q := IntWalk.i64_in _ (by omega)
  have e4 : IntKind.i64.wrap ((p - 1) * 99 + q - 1) = (p - 1) * 99 + q - 1 := IntWalk.i64_in _ (by omega)
  have he : ((placeK (p, q) : Nat) : Int) = (p - 1) * 99 + q - 1 := by unfold placeK; dsimp only; omega
  have HE := Lib.hid he
  have HB := Lib.hid ((Below.refl w.heap.size w).alloc (Nat.le_refl _) (.cells #[.int .i64 p, .int .i64 q] 44))
  clear he hk h1 h2 h3 h4
  unfold kv
  dsimp only
  go_enter Try.func81, Try.ntmps81
  go_wp2
  go_ret
  exact ⟨by rw [HE.out]; rfl, HB.out⟩
end Go.Proofs.Ytcecodjipeahkaa
namespace Go.Proofs.Ytcecodjipeahkaa
open Go
section
variable {P : Program} {ops : Array Oper} {Q : Exit → Act → World → Prop} {md : Region.Mode} {S : World → Prop}

/-- whatever order is picked from here on; behind each operation a sharper condition holds -/
def wpG (P : Program) (md : Region.Mode) (ops : Array Oper) (Q : Exit → Act → World → Prop) : Nat → (World → Prop) → Array Bool → Act → World → Prop
  | 0, _, listed, a, w => Region.ready md ops listed = [] ∧ Q .normal a w
  | fuel + 1, S, listed, a, w =>
    (Region.ready md ops listed = [] → Q .normal a w) ∧
    ∀ i ∈ Region.ready md ops listed, wpOp P ops Q i (fun a' w' => ∃ S' : World → Prop, (∀ x, S' x → S x) ∧ S' w' ∧ wpG P md ops Q fuel S' (listed.setIfInBounds i true) a' w') a w

theorem wpAny_of_G : ∀ (fuel : Nat) (S : World → Prop) (listed : Array Bool) (a : Act) (w : World), wpG P md ops Q fuel S listed a w → wpAny P md ops Q fuel listed a w
  | 0, _, _, _, _, h => h
  | fuel + 1, S, _, _, _, h => ⟨h.1, fun i hi => wpOp_mono (fun a' w' ⟨S', _, _, h'⟩ => wpAny_of_G fuel S' _ a' w' h') (h.2 i hi)⟩

theorem YieldsIf.sharper {S' : World → Prop} {o : Oper} {v : Value} {a : Act} (h : ∀ x, S' x → S x) (hy : YieldsIf P ops S o v a) : YieldsIf P ops S' o v a :=
  hy.imp (fun ⟨hw, hv⟩ => ⟨hw, fun w hs => hv w (h w hs)⟩) id

theorem wpG_first {i : Nat} {oi : Oper} {v : Value} (hi : ops[i]? = some oi) (hsel : ∀ (j : Nat) (o : Oper) cs b, ops[j]? = some o → o.op ≠ .select cs b)
    (hQ : ∀ c a w, Q (.panic c) (a.put oi.dst v) w → Q (.panic c) a w) :
    ∀ (fuel : Nat) (S : World → Prop) (listed : Array Bool) (a : Act) (w : World),
      (∀ j oj, ops[j]? = some oj → j ≠ i → listed.getD j true = false → (∀ e ∈ oj.after, Region.binds md e = true → e.on ≠ i) → oi.apart ops oj = true) →
      i ∈ Region.ready md ops listed → YieldsIf P ops S oi v a → S w →
      wpG P md ops Q fuel S (listed.setIfInBounds i true) (a.put oi.dst v) w → wpG P md ops Q (fuel + 1) S listed a w := by
  intro fuel
  induction fuel with
  | zero =>
    intro S listed a w _ hr hy hS H
    refine ⟨fun h => (by rw [h] at hr; cases hr), fun j hj => ?_⟩
    by_cases hji : j = i
    · subst hji; exact hy.wpOp hi hS ⟨S, fun _ h => h, hS, H⟩
    · have := ready_mono hj hji
      rw [H.1] at this
      cases this
  | succ fuel ih =>
    intro S listed a w hfree hr hy hS H
    refine ⟨fun h => (by rw [h] at hr; cases hr), fun j hj => ?_⟩
    by_cases hji : j = i
    · subst hji; exact hy.wpOp hi hS ⟨S, fun _ h => h, hS, H⟩
    · have h1 := H.2 j (ready_mono hj hji)
      obtain ⟨hjun, oj, hoj, hall⟩ := mem_ready.1 hj
      have hnot : ∀ e ∈ oj.after, Region.binds md e = true → e.on ≠ i := fun e he hb heq => by
        have h1 := hall e he hb
        have h0 := (mem_ready.1 hr).1
        rw [heq] at h1
        rcases Nat.lt_or_ge i listed.size with h' | h'
        · simp [h'] at h0 h1; rw [h0] at h1; cases h1
        · simp [Array.getElem?_eq_none h'] at h1
      have h2 := wpOp_putIf hoj (hfree j oj hoj hji hjun hnot) (fun cs b => hsel i oi cs b hi) (fun cs b => hsel j oj cs b hoj) hQ hy h1
      have hfree' : ∀ k ok, ops[k]? = some ok → k ≠ i → (listed.setIfInBounds j true).getD k true = false →
          (∀ e ∈ ok.after, Region.binds md e = true → e.on ≠ i) → oi.apart ops ok = true := fun k ok hk hki hun hno => by
        refine hfree k ok hk hki ?_ hno
        by_cases hjk : j = k
        · subst hjk; exact hjun
        · rw [getD_set_ne true hjk] at hun; exact hun
      refine wpOp_mono (fun a' w' h3 => ?_) h2
      obtain ⟨hy3, S', hs, hs2, h4⟩ := h3
      refine ⟨S', hs, hs2, ih S' (listed.setIfInBounds j true) a' w' hfree' (ready_mono hr (Ne.symm hji)) (YieldsIf.sharper hs hy3) hs2 ?_⟩
      rw [Array.setIfInBounds_comm _ _ hji]
      exact h4

/-- an operation that hands back a value and nothing else -/
def valueOp : Op → Bool
  | .move _ | .assign _ | .pick _ _ _ | .load _ _ | .binOp _ _ _ _ _ | .unOp _ _ _ | .convert _ _ _ | .slice _ _ _ _ _ | .fieldAddr _ _ _ | .field _ _ _ | .indexAddr _ _ _ | .index _ _ _ | .extract _ _ => true
  | _ => false
theorem value_of_run {α : Type} (s : Sem α) (f : α → Value) (w w' : World) (n : Next) (h : ((do pure (Next.value (f (← s)))) : Sem Next).run P w = .ok n w') : ∃ u, n = .value u := by
  rw [Sem.run_bind] at h
  cases hs : s.run P w with
  | ok v w1 =>
    rw [hs] at h
    simp only [Result.andThen, Sem.run_pure, Result.ok.injEq] at h
    exact ⟨_, h.1.symm⟩
  | halt x w1 => rw [hs] at h; simp [Result.andThen] at h
theorem valueOp_spec {o : Oper} (h : valueOp o.op = true) (ρ : Operand → Value) (w w' : World) (n : Next) (hr : (execOp ρ o).run P w = .ok n w') : ∃ u, n = .value u := by
  unfold execOp at hr
  cases ho : o.op <;> rw [ho] at h hr <;> simp only [valueOp] at h <;> try (exact absurd h Bool.false_ne_true)
  all_goals dsimp only at hr
  all_goals first
    | (simp only [Sem.run_pure, Result.ok.injEq] at hr; exact ⟨_, hr.1.symm⟩)
    | exact value_of_run _ (fun v => v) w w' n hr
    | exact value_of_run _ _ w w' n hr
theorem yields_of_quiet {o : Oper} {a : Act} {v : Value} (hv : valueOp o.op = true) (hw : Region.wanted o (yielded ops a.tmps) = true) (h : ∀ w, S w → o.quietAt P a S w v) : YieldsIf P ops S o v a := by
  refine .inl ⟨hw, fun w hs => ?_⟩
  have h1 := h w hs
  unfold Oper.quietAt at h1
  cases hr : (execOp a.eval o).run P w with
  | ok n w' =>
    obtain ⟨u, rfl⟩ := valueOp_spec hv a.eval w w' n hr
    rw [hr] at h1
    simp only [Oper.quietUpon] at h1
    obtain ⟨rfl, rfl⟩ := h1
    rfl
  | halt x w' => rw [hr] at h1; exact absurd h1 (by simp [Oper.quietUpon])

/-- the takes of a segment, in the order of the text -/
def takesB (md : Region.Mode) (l : List Oper) : List Bool → Nat → Array Bool → Bool
  | true :: m, i, listed => (match l[i]? with | some o => valueOp o.op | none => false) && Region.free md l.toArray listed i && (Region.ready md l.toArray listed).contains i && takesB md l m (i + 1) (listed.setIfInBounds i true)
  | false :: m, i, listed => takesB md l m (i + 1) listed
  | [], _, _ => true
def takenL : List Bool → Nat → Array Bool → Array Bool
  | true :: m, i, listed => takenL m (i + 1) (listed.setIfInBounds i true)
  | false :: m, i, listed => takenL m (i + 1) listed
  | [], _, listed => listed
def countT : List Bool → Nat
  | true :: m => countT m + 1
  | false :: m => countT m
  | [] => 0
theorem takes_G {l : List Oper} (hs : Region.noSelect l.toArray = true) (hQ : ∀ c a d v w, Q (.panic c) (Act.put a d v) w → Q (.panic c) a w) {S : World → Prop} {w : World} (hS : S w) {R : Act → Prop} :
    ∀ (m : List Bool) (i fuel : Nat) (listed : Array Bool) (a : Act), takesB md l m i listed = true → m.length + i ≤ l.length →
      (∀ a', R a' → wpG P md l.toArray Q fuel S (takenL m i listed) a' w) → wpQuiet P l.toArray S R (maskRows m (l.drop i)) a → wpG P md l.toArray Q (fuel + countT m) S listed a w
  | [], i, fuel, listed, a, _, _, hk, h => hk a (by simpa [maskRows, wpQuiet] using h)
  | false :: m, i, fuel, listed, a, hb, hl, hk, h => by
    have hlt : i < l.length := by simp only [List.length_cons] at hl; omega
    rw [List.drop_eq_getElem_cons hlt] at h
    exact takes_G hs hQ hS m (i + 1) fuel listed a hb (by simp only [List.length_cons] at hl; omega) hk h
  | true :: m, i, fuel, listed, a, hb, hl, hk, h => by
    have hlt : i < l.length := by simp only [List.length_cons] at hl; omega
    rw [List.drop_eq_getElem_cons hlt] at h
    simp only [takesB, Bool.and_eq_true] at hb
    obtain ⟨⟨⟨hv, hf⟩, hr⟩, hb⟩ := hb
    have ho : l.toArray[i]? = some l[i] := by simp [hlt]
    rw [show l[i]? = some l[i] from by simp [hlt]] at hv
    dsimp only at hv
    simp only [maskRows, wpQuiet] at h
    have hin : i ∈ Region.ready md l.toArray listed := by simpa using hr
    show wpG P md l.toArray Q (fuel + countT m + 1) S listed a w
    by_cases hw : Region.wanted l[i] (yielded l.toArray a.tmps) = true
    · rw [if_pos hw] at h
      obtain ⟨v, h1, h2⟩ := h
      exact wpG_first ho (Region.noSelect_spec hs) (fun c a w => hQ c a _ _ w) _ S listed a w (Region.free_spec ho hf) hin (yields_of_quiet hv hw h1) hS
        (takes_G hs hQ hS m (i + 1) fuel _ _ hb (by simp only [List.length_cons] at hl; omega) hk h2)
    · rw [if_neg hw] at h
      exact wpG_first ho (Region.noSelect_spec hs) (fun c a w => hQ c a _ _ w) _ S listed a w (Region.free_spec ho hf) hin (.inr ⟨by simpa using hw, rfl⟩) hS
        (takes_G hs hQ hS m (i + 1) fuel _ _ hb (by simp only [List.length_cons] at hl; omega) hk h)
theorem wpG_done {listed : Array Bool} {a : Act} {w : World} (hr : Region.ready md ops listed = []) (h : Q .normal a w) : ∀ fuel, wpG P md ops Q fuel S listed a w
  | 0 => ⟨hr, h⟩
  | _ + 1 => ⟨fun _ => h, by rw [hr]; simp⟩
end
end Go.Proofs.Ytcecodjipeahkaa
namespace Go.Proofs.Ytcecodjipeahkaa
open Go
section
variable {P : Program} {Q : Exit → Act → World → Prop} {md : Region.Mode} {S : World → Prop}
def segtB (md : Region.Mode) (l : List Oper) (m : List Bool) (rd : List Nat) (fuel fuel' : Nat) (listed : Array Bool) : Bool :=
  decide (fuel = fuel' + 1 + countT m) && decide (m.length ≤ l.length) && takesB md l m 0 listed && decide (Region.ready md l.toArray (takenL m 0 listed) = rd) && !rd.isEmpty
/-- what reads is taken; then one after another of what is ready is tried -/
theorem wpG_seg {l : List Oper} (m : List Bool) (rd : List Nat) (fuel' : Nat) {fuel : Nat} {listed : Array Bool} {a : Act} {w : World} (hs : Region.noSelect l.toArray = true)
    (hQ : ∀ c a d v w, Q (.panic c) (Act.put a d v) w → Q (.panic c) a w) (hb : segtB md l m rd fuel fuel' listed = true) (hS : S w)
    (h : wpQuiet P l.toArray S (fun a' => ∀ i ∈ rd, wpOp P l.toArray Q i (fun a'' w'' => ∃ S' : World → Prop, (∀ x, S' x → S x) ∧ S' w'' ∧ wpG P md l.toArray Q fuel' S' ((takenL m 0 listed).setIfInBounds i true) a'' w'') a' w) (maskRows m l) a) :
    wpG P md l.toArray Q fuel S listed a w := by
  simp only [segtB, Bool.and_eq_true, decide_eq_true_eq, Bool.not_eq_true'] at hb
  obtain ⟨⟨⟨⟨h1, h2⟩, h3⟩, h4⟩, h5⟩ := hb
  subst h1
  refine takes_G (P := P) (md := md) hs hQ hS (R := fun a' => ∀ i ∈ rd, wpOp P l.toArray Q i (fun a'' w'' => ∃ S' : World → Prop, (∀ x, S' x → S x) ∧ S' w'' ∧ wpG P md l.toArray Q fuel' S' ((takenL m 0 listed).setIfInBounds i true) a'' w'') a' w) m 0 (fuel' + 1) listed a h3 (by omega) (fun a' hq => ?_) (by simpa using h)
  refine ⟨fun h0 => (by rw [h4] at h0; rw [h0] at h5; cases h5), fun j hj => ?_⟩
  rw [h4] at hj
  exact hq j hj
def segeB (md : Region.Mode) (l : List Oper) (m : List Bool) (fuel : Nat) (listed : Array Bool) : Bool :=
  decide (countT m ≤ fuel) && decide (m.length ≤ l.length) && takesB md l m 0 listed && decide (Region.ready md l.toArray (takenL m 0 listed) = [])
theorem wpG_end {l : List Oper} (m : List Bool) {fuel : Nat} {listed : Array Bool} {a : Act} {w : World} (hs : Region.noSelect l.toArray = true)
    (hQ : ∀ c a d v w, Q (.panic c) (Act.put a d v) w → Q (.panic c) a w) (hb : segeB md l m fuel listed = true) (hS : S w)
    (h : wpQuiet P l.toArray S (fun a' => Q .normal a' w) (maskRows m l) a) : wpG P md l.toArray Q fuel S listed a w := by
  simp only [segeB, Bool.and_eq_true, decide_eq_true_eq] at hb
  obtain ⟨⟨⟨h1, h2⟩, h3⟩, h4⟩ := hb
  have := takes_G (P := P) (md := md) hs hQ hS (R := fun a' => Q .normal a' w) m 0 (fuel - countT m) listed a h3 (by omega) (fun a' hq => wpG_done h4 hq _) (by simpa using h)
  rwa [Nat.sub_add_cancel h1] at this
theorem wp_region_G {id : Nat} {a : Act} {w : World} {l : List Oper} (S : World → Prop) (hm : P.follows .mixedOrders = true) (h : wpG P .any l.toArray Q l.length S (Array.replicate l.length false) a w.drew) :
    (Code.region id l.toArray true).wp P Q a w := wp_region_any hm (wpAny_of_G _ _ _ _ _ (by simpa using h))
/-- one that is carried out -/
theorem segt_run {l : List Oper} {fuel : Nat} {listed : Array Bool} {i : Nat} {o : Oper} {a : Act} {w : World} (ho : l.toArray[i]? = some o) (hw : Region.wanted o (yielded l.toArray a.tmps) = true)
    (h : ∀ K : Act → World → Prop, (∀ a' w', (∃ S' : World → Prop, (∀ x, S' x → S x) ∧ S' w' ∧ wpG P md l.toArray Q fuel S' listed a' w') → K a' w') → o.wp P a w K Q) :
    wpOp P l.toArray Q i (fun a'' w'' => ∃ S' : World → Prop, (∀ x, S' x → S x) ∧ S' w'' ∧ wpG P md l.toArray Q fuel S' listed a'' w'') a w := by
  unfold wpOp
  simp only [ho, hw, if_true]
  exact .inl (h _ fun _ _ h => h)
end
end Go.Proofs.Ytcecodjipeahkaa
namespace Go.Proofs.Ytcecodjipeahkaa
open Go
section
variable {P : Program} {ops : Array Oper} {Q : Exit → Act → World → Prop} {md : Region.Mode} {S : World → Prop}
/-- an operation that waits for all others -/
def lastP (md : Region.Mode) (ops : Array Oper) (i : Nat) : Prop := ∃ o, ops[i]? = some o ∧ ∀ k, k < ops.size → k ≠ i → ∃ e ∈ o.after, Region.binds md e = true ∧ e.on = k
def lastB (md : Region.Mode) (ops : Array Oper) (i : Nat) : Bool := match ops[i]? with
  | some o => (List.range ops.size).all fun k => k == i || o.after.any fun e => Region.binds md e && e.on == k
  | none => false
theorem lastP_of {i : Nat} (h : lastB md ops i = true) : lastP md ops i := by
  unfold lastB at h
  split at h
  · rename_i o ho
    refine ⟨o, ho, fun k hk hne => ?_⟩
    have h1 := List.all_eq_true.1 h k (List.mem_range.2 hk)
    simp only [Bool.or_eq_true, beq_iff_eq] at h1
    rcases h1 with h1 | h1
    · exact absurd h1 hne
    · obtain ⟨j, hj, h2⟩ := Array.any_eq_true.1 h1
      simp only [Bool.and_eq_true, beq_iff_eq] at h2
      exact ⟨_, Array.getElem_mem hj, h2.1, h2.2⟩
  · cases h
/-- whatever order is picked from here on; behind each operation a sharper condition holds -/
def wpH (P : Program) (md : Region.Mode) (ops : Array Oper) (Q : Exit → Act → World → Prop) : Nat → (World → Prop) → Array Bool → Act → World → Prop
  | 0, _, listed, a, w => Region.ready md ops listed = [] ∧ Q .normal a w
  | fuel + 1, S, listed, a, w =>
    (Region.ready md ops listed = [] → Q .normal a w) ∧
    ∀ i ∈ Region.ready md ops listed, wpOp P ops Q i (fun a' w' => ((lastP md ops i ∧ Region.ready md ops (listed.setIfInBounds i true) = []) ∧ Q .normal a' w') ∨ ∃ S' : World → Prop, (∀ x, S' x → S x) ∧ S' w' ∧ wpH P md ops Q fuel S' (listed.setIfInBounds i true) a' w') a w

theorem wpAny_done {listed : Array Bool} {a : Act} {w : World} (hr : Region.ready md ops listed = []) (h : Q .normal a w) : ∀ fuel, wpAny P md ops Q fuel listed a w
  | 0 => ⟨hr, h⟩
  | _ + 1 => ⟨fun _ => h, by rw [hr]; simp⟩
theorem wpAny_of_H : ∀ (fuel : Nat) (S : World → Prop) (listed : Array Bool) (a : Act) (w : World), wpH P md ops Q fuel S listed a w → wpAny P md ops Q fuel listed a w
  | 0, _, _, _, _, h => h
  | fuel + 1, S, _, _, _, h => ⟨h.1, fun i hi => wpOp_mono (fun a' w' h' => by
      rcases h' with ⟨⟨_, h1⟩, h2⟩ | ⟨S', _, _, h'⟩
      · exact wpAny_done h1 h2 fuel
      · exact wpAny_of_H fuel S' _ a' w' h') (h.2 i hi)⟩

theorem wpH_first {i : Nat} {oi : Oper} {v : Value} (hi : ops[i]? = some oi) (hsel : ∀ (j : Nat) (o : Oper) cs b, ops[j]? = some o → o.op ≠ .select cs b)
    (hQ : ∀ c a w, Q (.panic c) (a.put oi.dst v) w → Q (.panic c) a w) :
    ∀ (fuel : Nat) (S : World → Prop) (listed : Array Bool) (a : Act) (w : World),
      (∀ j oj, ops[j]? = some oj → j ≠ i → listed.getD j true = false → (∀ e ∈ oj.after, Region.binds md e = true → e.on ≠ i) → oi.apart ops oj = true) →
      i ∈ Region.ready md ops listed → YieldsIf P ops S oi v a → S w →
      wpH P md ops Q fuel S (listed.setIfInBounds i true) (a.put oi.dst v) w → wpH P md ops Q (fuel + 1) S listed a w := by
  intro fuel
  induction fuel with
  | zero =>
    intro S listed a w _ hr hy hS H
    refine ⟨fun h => (by rw [h] at hr; cases hr), fun j hj => ?_⟩
    by_cases hji : j = i
    · subst hji; exact hy.wpOp hi hS (.inr ⟨S, fun _ h => h, hS, H⟩)
    · have := ready_mono hj hji
      rw [H.1] at this
      cases this
  | succ fuel ih =>
    intro S listed a w hfree hr hy hS H
    refine ⟨fun h => (by rw [h] at hr; cases hr), fun j hj => ?_⟩
    by_cases hji : j = i
    · subst hji; exact hy.wpOp hi hS (.inr ⟨S, fun _ h => h, hS, H⟩)
    · have h1 := H.2 j (ready_mono hj hji)
      obtain ⟨hjun, oj, hoj, hall⟩ := mem_ready.1 hj
      have hnot : ∀ e ∈ oj.after, Region.binds md e = true → e.on ≠ i := fun e he hb heq => by
        have h1 := hall e he hb
        have h0 := (mem_ready.1 hr).1
        rw [heq] at h1
        rcases Nat.lt_or_ge i listed.size with h' | h'
        · simp [h'] at h0 h1; rw [h0] at h1; cases h1
        · simp [Array.getElem?_eq_none h'] at h1
      have h2 := wpOp_putIf hoj (hfree j oj hoj hji hjun hnot) (fun cs b => hsel i oi cs b hi) (fun cs b => hsel j oj cs b hoj) hQ hy h1
      have hfree' : ∀ k ok, ops[k]? = some ok → k ≠ i → (listed.setIfInBounds j true).getD k true = false →
          (∀ e ∈ ok.after, Region.binds md e = true → e.on ≠ i) → oi.apart ops ok = true := fun k ok hk hki hun hno => by
        refine hfree k ok hk hki ?_ hno
        by_cases hjk : j = k
        · subst hjk; exact hjun
        · rw [getD_set_ne true hjk] at hun; exact hun
      refine wpOp_mono (fun a' w' h3 => ?_) h2
      obtain ⟨hy3, h3⟩ := h3
      rcases h3 with ⟨⟨⟨o5, h5, h6⟩, _⟩, _⟩ | ⟨S', hs, hs2, h4⟩
      · rw [hoj] at h5
        cases h5
        obtain ⟨e, he, hb, heq⟩ := h6 i (Array.getElem?_eq_some_iff.1 hi).1 (Ne.symm hji)
        exact absurd heq (hnot e he hb)
      refine .inr ⟨S', hs, hs2, ih S' (listed.setIfInBounds j true) a' w' hfree' (ready_mono hr (Ne.symm hji)) (YieldsIf.sharper hs hy3) hs2 ?_⟩
      rw [Array.setIfInBounds_comm _ _ hji]
      exact h4

theorem takes_H {l : List Oper} (hs : Region.noSelect l.toArray = true) (hQ : ∀ c a d v w, Q (.panic c) (Act.put a d v) w → Q (.panic c) a w) {S : World → Prop} {w : World} (hS : S w) {R : Act → Prop} :
    ∀ (m : List Bool) (i fuel : Nat) (listed : Array Bool) (a : Act), takesB md l m i listed = true → m.length + i ≤ l.length →
      (∀ a', R a' → wpH P md l.toArray Q fuel S (takenL m i listed) a' w) → wpQuiet P l.toArray S R (maskRows m (l.drop i)) a → wpH P md l.toArray Q (fuel + countT m) S listed a w
  | [], i, fuel, listed, a, _, _, hk, h => hk a (by simpa [maskRows, wpQuiet] using h)
  | false :: m, i, fuel, listed, a, hb, hl, hk, h => by
    have hlt : i < l.length := by simp only [List.length_cons] at hl; omega
    rw [List.drop_eq_getElem_cons hlt] at h
    exact takes_H hs hQ hS m (i + 1) fuel listed a hb (by simp only [List.length_cons] at hl; omega) hk h
  | true :: m, i, fuel, listed, a, hb, hl, hk, h => by
    have hlt : i < l.length := by simp only [List.length_cons] at hl; omega
    rw [List.drop_eq_getElem_cons hlt] at h
    simp only [takesB, Bool.and_eq_true] at hb
    obtain ⟨⟨⟨hv, hf⟩, hr⟩, hb⟩ := hb
    have ho : l.toArray[i]? = some l[i] := by simp [hlt]
    rw [show l[i]? = some l[i] from by simp [hlt]] at hv
    dsimp only at hv
    simp only [maskRows, wpQuiet] at h
    have hin : i ∈ Region.ready md l.toArray listed := by simpa using hr
    show wpH P md l.toArray Q (fuel + countT m + 1) S listed a w
    by_cases hw : Region.wanted l[i] (yielded l.toArray a.tmps) = true
    · rw [if_pos hw] at h
      obtain ⟨v, h1, h2⟩ := h
      exact wpH_first ho (Region.noSelect_spec hs) (fun c a w => hQ c a _ _ w) _ S listed a w (Region.free_spec ho hf) hin (yields_of_quiet hv hw h1) hS
        (takes_H hs hQ hS m (i + 1) fuel _ _ hb (by simp only [List.length_cons] at hl; omega) hk h2)
    · rw [if_neg hw] at h
      exact wpH_first ho (Region.noSelect_spec hs) (fun c a w => hQ c a _ _ w) _ S listed a w (Region.free_spec ho hf) hin (.inr ⟨by simpa using hw, rfl⟩) hS
        (takes_H hs hQ hS m (i + 1) fuel _ _ hb (by simp only [List.length_cons] at hl; omega) hk h)
/-- what reads is taken; then one after another of what is ready is tried -/
theorem wpH_seg {l : List Oper} (m : List Bool) (rd : List Nat) (fuel' : Nat) {fuel : Nat} {listed : Array Bool} {a : Act} {w : World} (hs : Region.noSelect l.toArray = true)
    (hQ : ∀ c a d v w, Q (.panic c) (Act.put a d v) w → Q (.panic c) a w) (hb : segtB md l m rd fuel fuel' listed = true) (hS : S w)
    (h : wpQuiet P l.toArray S (fun a' => ∀ i ∈ rd, wpOp P l.toArray Q i (fun a'' w'' => ((lastP md l.toArray i ∧ Region.ready md l.toArray ((takenL m 0 listed).setIfInBounds i true) = []) ∧ Q .normal a'' w'') ∨ ∃ S' : World → Prop, (∀ x, S' x → S x) ∧ S' w'' ∧ wpH P md l.toArray Q fuel' S' ((takenL m 0 listed).setIfInBounds i true) a'' w'') a' w) (maskRows m l) a) :
    wpH P md l.toArray Q fuel S listed a w := by
  simp only [segtB, Bool.and_eq_true, decide_eq_true_eq, Bool.not_eq_true'] at hb
  obtain ⟨⟨⟨⟨h1, h2⟩, h3⟩, h4⟩, h5⟩ := hb
  subst h1
  refine takes_H (P := P) (md := md) hs hQ hS (R := fun a' => ∀ i ∈ rd, wpOp P l.toArray Q i (fun a'' w'' => ((lastP md l.toArray i ∧ Region.ready md l.toArray ((takenL m 0 listed).setIfInBounds i true) = []) ∧ Q .normal a'' w'') ∨ ∃ S' : World → Prop, (∀ x, S' x → S x) ∧ S' w'' ∧ wpH P md l.toArray Q fuel' S' ((takenL m 0 listed).setIfInBounds i true) a'' w'') a' w) m 0 (fuel' + 1) listed a h3 (by omega) (fun a' hq => ?_) (by simpa using h)
  refine ⟨fun h0 => (by rw [h4] at h0; rw [h0] at h5; cases h5), fun j hj => ?_⟩
  rw [h4] at hj
  exact hq j hj
/-- the same in a round of a range over a function, at the wide fence -/
theorem wpIn_region_H {id l0 k : Nat} {a : Act} {w : World} {l : List Oper} (S : World → Prop) (hm : P.follows .mixedOrders = true) (hd : noDefer l.toArray = true) (h : wpH P .any l.toArray (OnlyNormal Q) l.length S (Array.replicate l.length false) a w.drew) :
    (Code.region id l.toArray true).wpIn (Fence.wide.inRound l0) k P Q a w := by
  refine wpIn_region_draw fun t => wpOps_in hd _ _ _ ?_
  simp only [Region.schedule, hm, Bool.true_or, if_true]
  exact wpAny_sound l.toArray.size t _ a _ (wpAny_of_H _ _ _ _ _ (by simpa using h))
/-- one that is carried out -/
theorem segh_run {l : List Oper} {fuel : Nat} {R : Act → World → Prop} {listed : Array Bool} {i : Nat} {o : Oper} {a : Act} {w : World} (ho : l.toArray[i]? = some o) (hw : Region.wanted o (yielded l.toArray a.tmps) = true)
    (h : ∀ K : Act → World → Prop, (∀ a' w', (R a' w' ∨ ∃ S' : World → Prop, (∀ x, S' x → S x) ∧ S' w' ∧ wpH P md l.toArray Q fuel S' listed a' w') → K a' w') → o.wp P a w K Q) :
    wpOp P l.toArray Q i (fun a'' w'' => R a'' w'' ∨ ∃ S' : World → Prop, (∀ x, S' x → S x) ∧ S' w'' ∧ wpH P md l.toArray Q fuel S' listed a'' w'') a w := by
  unfold wpOp
  simp only [ho, hw, if_true]
  exact .inl (h _ fun _ _ h => h)
end
end Go.Proofs.Ytcecodjipeahkaa
namespace Go.Proofs.Ytcecodjipeahkaa
open Go.RowKit
set_option linter.unusedVariables false
theorem cells_own {β : Type} (B : Nat) (f : β → Array Value) (t : TypeId) : Own (fun (s : β) W => W.heap[B]? = some (.cells (f s) t (0, 0))) := by
  intro s X Y row h hg hr
  refine (hg.block B (Array.getElem?_eq_some_iff.1 h).1 (fun e => ?_)).trans h
  obtain ⟨o, ho, hc⟩ := hr B e.symm
  rw [h] at ho; cases ho; cases hc
end Go.Proofs.Ytcecodjipeahkaa
namespace Go.Proofs.Ytcecodjipeahkaa
open Go.ChangeShapes Go.WideShapes Go.ChangeAt Go.RowKit
set_option linter.unusedVariables false

theorem numLen_any (x : Int) (w : World) : Calls Try.prog 88 #[.int .i64 x] w fun e w' => e = .returned (.bool (decide (1 ≤ x) && decide (x ≤ 4))) ∧ w' = w := by
  by_cases h1 : 1 ≤ x <;> by_cases h2 : x ≤ 4
  all_goals
    go_enter Try.func88, Try.ntmps88
    go_wp2
    go_ret
    simp [h1, h2]

end Go.Proofs.Ytcecodjipeahkaa
namespace Go.Proofs.Ytcecodjipeahkaa
open Go.ChangeShapes Go.WideShapes Go.ChangeAt Go.RowKit
set_option linter.unusedVariables false

theorem i64_or (v c : Nat) (hv : v < 16777216) (hc : c < 256) : bits .or .i64 ((v : Int) * 256) (c : Int) = (v : Int) * 256 + (c : Int) := by
  have e1 : ((v : Int) * 256) = ((v * 256 : Nat) : Int) := by omega
  have hx : v * 256 ||| c = v * 256 + c := by
    have := Nat.two_pow_add_eq_or_of_lt (i := 8) (b := c) hc v
    rw [show (2 : Nat) ^ 8 = 256 from rfl] at this
    rw [Nat.mul_comm, ← this]
  show IntKind.i64.wrap ((BitVec.ofInt 64 ((v : Int) * 256) ||| BitVec.ofInt 64 (c : Int)).toNat : Nat) = _
  rw [e1, bv_nat, bv_nat, BitVec.toNat_or, BitVec.toNat_ofNat, BitVec.toNat_ofNat, Nat.mod_eq_of_lt (by omega), Nat.mod_eq_of_lt (by omega), hx]
  have := IntWalk.i64_in ((v * 256 + c : Nat) : Int) (by omega)
  rw [this]; omega
set_option maxRecDepth 100000 in
theorem iget_any (s : ByteArray) (p k : Int) (w : World) (hs : s.size ≤ 2000000) :
    Calls Try.prog 82 #[.string s, .int .i64 p, .int .i64 k] w fun e w' => e = .returned (.int .i64 (getV s p k)) ∧ w' = w := by
  by_cases hk : k < 1 ∨ 4 < k
  · have hv : getV s p k = -1 := by unfold getV; rw [if_pos (by omega)]
    have HV := Lib.hid hv; clear hv
    have hb : (decide (1 ≤ k) && decide (k ≤ 4)) = false := by simp; omega
    clear hk
    go_enter Try.func82, Try.ntmps82
    go_wp2_with (go_at_call 88; refine (numLen_any _ _).mono ?_; rintro e w ⟨rfl, rfl⟩)
    go_ret
    exact ⟨by rw [HV.out]; rfl, rfl⟩
  · have hb : (decide (1 ≤ k) && decide (k ≤ 4)) = true := by simp; omega
    obtain ⟨K, rfl⟩ : ∃ K : Nat, k = K := ⟨k.toNat, by omega⟩
    have hK : 1 ≤ K ∧ K ≤ 4 := by omega
    have ew : IntKind.i64.wrap ((s.size : Int) - (K : Int)) = (s.size : Int) - (K : Int) := IntWalk.i64_in _ (by omega)
    by_cases hp : p < 0
    · have hv : getV s p K = -1 := by unfold getV; rw [if_pos (by omega)]
      have HV := Lib.hid hv; clear hv hk
      go_enter Try.func82, Try.ntmps82
      go_wp2_with (go_at_call 88; refine (numLen_any _ _).mono ?_; rintro e w ⟨rfl, rfl⟩)
      go_ret
      exact ⟨by rw [HV.out]; rfl, rfl⟩
    · by_cases hq : (s.size : Int) - K < p
      · have hv : getV s p K = -1 := by unfold getV; rw [if_pos (by omega)]
        have HV := Lib.hid hv; clear hv hk
        go_enter Try.func82, Try.ntmps82
        go_wp2_with (go_at_call 88; refine (numLen_any _ _).mono ?_; rintro e w ⟨rfl, rfl⟩)
        go_ret
        exact ⟨by rw [HV.out]; rfl, rfl⟩
      · have hv : getV s p K = (getN ((s.data.toList.drop p.toNat).take K) : Nat) := by unfold getV; rw [if_neg (by omega)]; simp
        obtain ⟨q, rfl⟩ : ∃ q : Nat, p = q := ⟨p.toNat, by omega⟩
        simp only [Int.toNat_natCast] at hv
        have hqs : q + K ≤ s.size := by omega
        have hbd := fun j => getN_lt ((s.data.toList.drop q).take j)
        have hsn : ∀ j, (h : j < K) → getN ((s.data.toList.drop q).take (j + 1)) = getN ((s.data.toList.drop q).take j) * 256 + (s[q + j]'(by omega)).toNat := by
          intro j h
          rw [List.take_succ_eq_append_getElem (by simp; omega), getN_snoc]
          congr 2
          simp
          rfl
        have hle : ∀ j, ((s.data.toList.drop q).take j).length ≤ j := by intro j; simp; omega
        have HV := Lib.hid hv; have HSN := Lib.hid hsn; clear hv hsn hk
        have hb4 : ∀ j, j ≤ 4 → getN ((s.data.toList.drop q).take j) < 256 ^ j := by
          intro j _
          exact Nat.lt_of_lt_of_le (hbd j) (Nat.pow_le_pow_right (by decide) (hle j))
        have HB4 := Lib.hid hb4; clear hb4 hbd hle
        go_enter Try.func82, Try.ntmps82
        go_wp2_with (go_at_call 88; refine (numLen_any _ _).mono ?_; rintro e w ⟨rfl, rfl⟩)
        go_loopw [7, 25] (fun n i wr => ∃ j : Nat, j ≤ K ∧ i = .int .i64 j ∧ n = .int .i64 (getN ((s.data.toList.drop q).take j) : Nat) ∧ wr = w) (fun _ i _ => K - (intOf i).toNat)
        case atStart => exact ⟨0, Nat.zero_le _, rfl, rfl, rfl⟩
        case round =>
          obtain ⟨j, hj, rfl, rfl, rfl⟩ := hrel
          by_cases hlt : j < K
          · have z1 : (j : Int) < (K : Int) := by omega
            have z2 : (0 : Int) ≤ (q : Int) + (j : Int) := by omega
            have z3 : (q : Int) + (j : Int) < (s.size : Int) := by omega
            have et : ((q : Int) + (j : Int)).toNat = q + j := by omega
            have ew2 : IntKind.i64.wrap ((q : Int) + (j : Int)) = (q : Int) + (j : Int) := IntWalk.i64_in _ (by omega)
            have hsn := HSN.out j hlt
            have hc := (s[q + j]'(by omega)).toNat_lt
            have hb4 : getN ((s.data.toList.drop q).take j) < 256 ^ 3 := Nat.lt_of_lt_of_le (HB4.out j (by omega)) (Nat.pow_le_pow_right (by decide) (by omega))
            have h256 : (256 : Nat) ^ 3 = 16777216 := rfl
            rw [h256] at hb4
            have hql : q + j < s.size := by omega
            have HS := Lib.hid hsn; clear hsn
            generalize getN ((s.data.toList.drop q).take j) = v at *
            have eor := i64_or v (s[q + j]'(by omega)).toNat hb4 hc
            have ew3 : IntKind.i64.wrap ((v : Int) * 256) = (v : Int) * 256 := IntWalk.i64_in _ (by omega)
            have ew4 : wrap64 ((v : Int) * 256) = (v : Int) * 256 := IntWalk.wrap64_in _ (by omega)
            go_wp2
            go_roundw
            case rel => exact ⟨j + 1, by omega, by go_num, by rw [HS.out]; go_num, by first | rfl | trivial⟩
            case measure => simp [intOf]; omega
          · obtain rfl : j = K := by omega
            go_wp2
            go_ret
            exact ⟨by rw [HV.out]; rfl, rfl⟩
end Go.Proofs.Ytcecodjipeahkaa
namespace Go.Proofs.Ytcecodjipeahkaa
open Go.RowKit
set_option linter.unusedVariables false

def KBoxed (W : World) (B : Nat) (k : K2) : Prop := W.heap[B]? = some (.cells #[.int .i64 k.1, .int .i64 k.2] 44 (0, 0))
theorem KBoxed.lt {W : World} {B : Nat} {k : K2} (h : KBoxed W B k) : B < W.heap.size := (Array.getElem?_eq_some_iff.1 h).1
theorem KBoxed.cell0 {W : World} {B : Nat} {k : K2} (h : KBoxed W B k) : W.cell? ⟨B, 0, none⟩ = some (.int .i64 k.1) := by simp [World.cell?, show W.heap[B]? = _ from h]
theorem KBoxed.cell1 {W : World} {B : Nat} {k : K2} (h : KBoxed W B k) : W.cell? ⟨B, 1, none⟩ = some (.int .i64 k.2) := by simp [World.cell?, show W.heap[B]? = _ from h]
theorem KBoxed.new (W : World) (k : K2) : KBoxed (W.alloc (.cells #[.int .i64 k.1, .int .i64 k.2] 44)) W.heap.size k := World.alloc_heap_new W _
theorem KBoxed.kept {W W' : World} {row : Option Nat} {B : Nat} {k : K2} (h : KBoxed W B k) (hg : W.grownBy W' row) (hne : some B ≠ row) : KBoxed W' B k := (hg.block B h.lt hne).trans h
theorem KBoxed.alloc {W : World} {B : Nat} {k : K2} (h : KBoxed W B k) (o : Obj) : KBoxed (W.alloc o) B k := h.kept (World.grownBy_alloc W o none) (by simp)
theorem KBoxed.other {W : World} {B B' : Nat} {k : K2} (h : KBoxed W B k) (hne : B ≠ B') (u : Value) : KBoxed (W.setCell ⟨B', 0, none⟩ u) B k := h.kept (grownBy_setCell' W B' u) (fun e => hne (by cases e; rfl))
theorem KBoxed.load {w : World} {B : Nat} {k : K2} (h : KBoxed w B k) : (loadVar 44 ⟨B, 0, none⟩).run Try.prog w = .ok (kv k) w := key_load (o := 0) ⟨h.cell0, h.cell1⟩ h.lt (Below.refl _ _)
theorem set_cells {w : World} {B j : Nat} {cs : Array Value} {t : TypeId} (u : Value) (h : w.heap[B]? = some (.cells cs t (0, 0))) : (w.setCell ⟨B, j, none⟩ u).heap[B]? = some (.cells (cs.setIfInBounds j u) t (0, 0)) := by
  obtain ⟨hlt, hk⟩ := Array.getElem?_eq_some_iff.1 h
  show (w.heap.modify B _)[B]? = _
  rw [Array.getElem?_eq_getElem (by rw [Array.size_modify]; exact hlt), Array.getElem_modify_self, hk]
  rfl
theorem KBoxed.set {w : World} {B : Nat} {k : K2} (k' : K2) (h : KBoxed w B k) : KBoxed ((w.setCell ⟨B, 0, none⟩ (.int .i64 k'.1)).setCell ⟨B, 1, none⟩ (.int .i64 k'.2)) B k' :=
  set_cells _ (set_cells _ h)
end Go.Proofs.Ytcecodjipeahkaa
namespace Go.Proofs.Ytcecodjipeahkaa
open Go.ChangeShapes Go.WideShapes Go.ChangeAt Go.RowKit Go.BigFrame
set_option linter.unusedVariables false

theorem ikeyok_any (k : K2) (w : World) : Calls Try.prog 78 #[kv k] w fun e w' => e = .returned (.bool (keyOkB k)) ∧ Below w.heap.size w w' := by
  obtain ⟨n, s⟩ := k
  unfold keyOkB kv
  dsimp only
  have hb : ∀ o, Below w.heap.size w (w.alloc o) := fun o => (Below.refl _ _).alloc (Nat.le_refl _) _
  by_cases h1 : 1 ≤ n
  · by_cases h2 : n ≤ 20
    · by_cases h3 : 1 ≤ s
      · by_cases h4 : s ≤ 99
        · go_enter Try.func78, Try.ntmps78
          go_wp2
          go_ret
          exact ⟨by simp [h1, h2, h3, h4], hb _⟩
        · go_enter Try.func78, Try.ntmps78
          go_wp2
          go_ret
          exact ⟨by simp [h1, h2, h3, h4], hb _⟩
      · go_enter Try.func78, Try.ntmps78
        go_wp2
        go_ret
        exact ⟨by simp [h1, h2, h3]; omega, hb _⟩
    · go_enter Try.func78, Try.ntmps78
      go_wp2
      go_ret
      exact ⟨by simp [h1, h2]; omega, hb _⟩
  · go_enter Try.func78, Try.ntmps78
    go_wp2
    go_ret
    exact ⟨by simp [h1]; omega, hb _⟩
theorem iahead_any (a b : K2) (w : World) : Calls Try.prog 79 #[kv a, kv b] w fun e w' => e = .returned (.bool (aheadB a b)) ∧ Below w.heap.size w w' := by
  obtain ⟨n, s⟩ := a
  obtain ⟨m, t⟩ := b
  have hb : ∀ o o', Below w.heap.size w ((w.alloc o).alloc o') := fun o o' => ((Below.refl _ _).alloc (Nat.le_refl _) _).alloc (by simp) _
  by_cases h : n = m
  · have ha : aheadB (n, s) (m, t) = decide (s < t) := by unfold aheadB; rw [if_pos h]
    rw [ha]
    unfold kv
    dsimp only
    subst h
    go_enter Try.func79, Try.ntmps79
    go_wp2
    go_ret
    exact ⟨rfl, hb _ _⟩
  · have ha : aheadB (n, s) (m, t) = decide (n < m) := by unfold aheadB; rw [if_neg h]
    rw [ha]
    unfold kv
    dsimp only
    go_enter Try.func79, Try.ntmps79
    go_wp2
    go_ret
    exact ⟨rfl, hb _ _⟩
set_option maxRecDepth 100000 in
theorem ikeysok_any (v : Value) (ks : List K2) (w : World) (h : keysAt w v ks) (hs : ks.length ≤ 2000000) : Calls Try.prog 46 #[v] w fun e w' => e = .returned (.bool (keysOkR ks)) ∧ Below w.heap.size w w' := by
  obtain ⟨a, cap, rfl, hcap, hcells⟩ := h
  go_enter Try.func46, Try.ntmps46
  go_wp2
  go_loopw [7] (fun i wr => ∃ k : Nat, k ≤ ks.length ∧ i = .int .i64 k ∧ (List.range k).all (stepB ks) = true ∧ Below w.heap.size w wr) (fun i _ => ks.length - (intOf i).toNat)
  case atStart => exact ⟨0, Nat.zero_le _, rfl, rfl, Below.refl _ _⟩
  case round =>
    obtain ⟨k, hk, rfl, hall, hb⟩ := hrel
    by_cases hlt : k < ks.length
    · obtain ⟨g, off, rfl, hg, hcs⟩ := hcells.resolve_left (by omega)
      have z0 : (0 : Int) ≤ (k : Int) := by omega
      have z1 : (k : Int) < (ks.length : Int) := by omega
      have c1 := hcs k hlt
      have hst : stepB ks k = (keyOkB (ks.getD k (0, 0)) && (decide (k = 0) || aheadB (ks.getD (k - 1) (0, 0)) (ks.getD k (0, 0)))) := rfl
      have hsu := keysR_succ ks k
      rw [hst, hall] at hsu
      have HF := Lib.hid (fun (h : stepB ks k = false) => stepB_false hlt h)
      rw [hst] at HF
      have c0 : 0 < k → _ := fun h => hcs (k - 1) (by omega)
      rename_i wr
      have C1 : wr.cell? ⟨g, off + k * 2, none⟩ = some (.int .i64 (ks.getD k (0, 0)).1) := (hb.cell (p := ⟨g, off + k * 2, none⟩) hg).trans c1.1
      have C2 : wr.cell? ⟨g, off + k * 2 + 1, none⟩ = some (.int .i64 (ks.getD k (0, 0)).2) := (hb.cell (p := ⟨g, off + k * 2 + 1, none⟩) hg).trans c1.2
      generalize ks.getD k (0, 0) = kx at *
      obtain ⟨p, q⟩ := kx
      dsimp only at C1 C2
      have hb1 : Below w.heap.size w (wr.alloc (.cells #[.int .i64 p, .int .i64 q] 44)) := hb.alloc hb.size _
      have LK : ∀ w', Below (wr.heap.size + 1) (wr.alloc (.cells #[.int .i64 p, .int .i64 q] 44)) w' → (loadVar 44 ⟨wr.heap.size, 0, none⟩).run Try.prog w' = .ok (kv (p, q)) w' := fun w' hb' =>
        key_load (k := (p, q)) (w := wr.alloc (.cells #[.int .i64 p, .int .i64 q] 44)) (g := wr.heap.size) (o := 0) ⟨by simp, by simp⟩ (by simp) (by simpa using hb')
      have LK0 := Lib.hid LK; clear LK
      have HSU := Lib.hid hsu; have C0 := Lib.hid c0; clear hsu c0 hst c1 hcells hcs
      have HK := Lib.hid (fun w => ikeyok_any (p, q) w)
      have HB1 := Lib.hid hb1; clear hb1
      go_wp2_with fail
      refine (HK.out _).mono ?_
      rintro e w2 ⟨rfl, hb2⟩
      have hbw2 := HB1.out.trans (hb2.mono HB1.out.size)
      have LK : ∀ w', Below w2.heap.size w2 w' → (loadVar 44 ⟨wr.heap.size, 0, none⟩).run Try.prog w' = .ok (kv (p, q)) w' := fun w' hb' => LK0.out w' ((by simpa using hb2 : Below (wr.heap.size + 1) _ w2).trans (hb'.mono (by have := hb2.size; simp at this; omega)))
      clear LK0 C1 C2 HK hb2 HB1
      cases hko : keyOkB (p, q) with
      | false =>
        rw [hko] at HF
        go_wp2
        go_ret
        exact ⟨by rw [HF.out rfl]; rfl, hbw2⟩
      | true =>
        rw [hko] at HF HSU
        by_cases hk0 : k = 0
        · subst hk0
          have y0 : ¬ (0 : Int) < ((0 : Nat) : Int) := by omega
          clear HF C0
          go_wp2
          refine wp_region_below w2 (by kernel_rfl) (by kernel_rfl) (Below.refl _ _) ?_
          repeat (first
            | go_big_quiet_skip
            | (go_big_quiet_want
               first
                 | (go_big_quiet_op; go_big_quiet_on)
                 | (refine q_load 44 _ _ _ rfl rfl LK ?_; simp only [Act.put, List.setIfInBounds_toArray, List.set_cons_zero, List.set_cons_succ]; go_big_quiet_on)
                 | (go_big_quiet_op; refine ⟨_, fun _ _ => rfl, ?_⟩; go_big_quiet_on)
                 | (go_big_quiet_op; go_big_quiet_on)))
          refine wpQuiet_nil ?_
          intro w3 hb3
          have hbw3 := hbw2.trans (hb3.mono hbw2.size)
          clear LK
          go_wp2
          exact ⟨⟨1, by omega, by go_num, by rw [HSU.out]; rfl, hbw3⟩, by simp [intOf]; omega⟩
        · have ha := C0.out (by omega)
          have L2 : ∀ w', Below w2.heap.size w2 w' → (loadVar 44 ⟨g, off + (k - 1) * 2, none⟩).run Try.prog w' = .ok (kv (ks.getD (k - 1) (0, 0))) w' := fun w' hb' => key_load ha hg (hbw2.trans (hb'.mono hbw2.size))
          generalize ks.getD (k - 1) (0, 0) = ky at *
          have HA := Lib.hid (fun w => iahead_any ky (p, q) w)
          have d0 : decide (k = 0) = false := by simpa using hk0
          rw [d0] at HF HSU
          have y0 : (0 : Int) < (k : Int) := by omega
          have yk : 0 < k := by omega
          have y1 : (0 : Int) ≤ (k : Int) - 1 := by omega
          have y2 : (k : Int) - 1 < (ks.length : Int) := by omega
          have ew : IntKind.i64.wrap ((k : Int) - 1) = (k : Int) - 1 := IntWalk.i64_in _ (by omega)
          have et : ((k : Int) - 1).toNat = k - 1 := by omega
          clear C0 ha
          cases hah : aheadB ky (p, q) with
          | false =>
            rw [hah] at HA HF
            have HF2 := HF.out rfl
            have HF3 := Lib.hid HF2; clear HF2 HF HSU
            go_wp2
            refine wp_region_below w2 (by kernel_rfl) (by kernel_rfl) (Below.refl _ _) ?_
            repeat (first
              | go_big_quiet_skip
              | (go_big_quiet_want
                 first
                   | (go_big_quiet_op; go_big_quiet_on)
                   | (refine q_load 44 _ _ _ rfl rfl L2 ?_; simp only [Act.put, List.setIfInBounds_toArray, List.set_cons_zero, List.set_cons_succ]; go_big_quiet_on)
                   | (refine q_load 44 _ _ _ rfl rfl LK ?_; simp only [Act.put, List.setIfInBounds_toArray, List.set_cons_zero, List.set_cons_succ]; go_big_quiet_on)
                   | (go_big_quiet_op; refine ⟨_, fun _ _ => rfl, ?_⟩; go_big_quiet_on)
                   | (go_big_quiet_op; apply Exists.intro; refine ⟨fun w' hw' => ?_, ?_⟩
                      · first
                        | (with_reducible refine (HA.out w').mono ?_
                           rintro e w2 ⟨rfl, hb2⟩
                           exact ⟨rfl, hw'.trans (hb2.mono hw'.size)⟩)
                      go_big_quiet_on)))
            refine wpQuiet_nil ?_
            intro w3 hb3
            have hbw3 := hbw2.trans (hb3.mono hbw2.size)
            clear LK L2 HA
            go_wp2
            go_ret
            exact ⟨by rw [HF3.out]; rfl, hbw3⟩
          | true =>
            rw [hah] at HA HSU
            clear HF
            go_wp2
            refine wp_region_below w2 (by kernel_rfl) (by kernel_rfl) (Below.refl _ _) ?_
            repeat (first
              | go_big_quiet_skip
              | (go_big_quiet_want
                 first
                   | (go_big_quiet_op; go_big_quiet_on)
                   | (refine q_load 44 _ _ _ rfl rfl L2 ?_; simp only [Act.put, List.setIfInBounds_toArray, List.set_cons_zero, List.set_cons_succ]; go_big_quiet_on)
                   | (refine q_load 44 _ _ _ rfl rfl LK ?_; simp only [Act.put, List.setIfInBounds_toArray, List.set_cons_zero, List.set_cons_succ]; go_big_quiet_on)
                   | (go_big_quiet_op; refine ⟨_, fun _ _ => rfl, ?_⟩; go_big_quiet_on)
                   | (go_big_quiet_op; apply Exists.intro; refine ⟨fun w' hw' => ?_, ?_⟩
                      · first
                        | (with_reducible refine (HA.out w').mono ?_
                           rintro e w2 ⟨rfl, hb2⟩
                           exact ⟨rfl, hw'.trans (hb2.mono hw'.size)⟩)
                      go_big_quiet_on)))
            refine wpQuiet_nil ?_
            intro w3 hb3
            have hbw3 := hbw2.trans (hb3.mono hbw2.size)
            clear LK L2 HA
            go_wp2
            exact ⟨⟨k + 1, by omega, by go_num, by rw [HSU.out]; rfl, hbw3⟩, by simp [intOf]; omega⟩
    · obtain rfl : k = ks.length := by omega
      have HF := Lib.hid hall
      go_wp2
      go_ret
      exact ⟨by unfold keysOkR; rw [HF.out]; rfl, hb⟩
end Go.Proofs.Ytcecodjipeahkaa
namespace Go.Proofs.Ytcecodjipeahkaa
open Go.RowKit Go.Shelf
set_option linter.unusedVariables false

theorem kboxed_own {β : Type} (B : Nat) (k : K2) : Own (fun (_ : β) W => KBoxed W B k) := by
  intro s X Y row h hg hr
  refine KBoxed.kept h hg (fun e => ?_)
  obtain ⟨o, ho, hc⟩ := hr B e.symm
  rw [show X.heap[B]? = _ from h] at ho; cases ho; cases hc
end Go.Proofs.Ytcecodjipeahkaa
namespace Go.Proofs.Ytcecodjipeahkaa
open Go.RowKit Go.Shelf
attribute [local go_sem] Oper.semAt_some
set_option linter.unusedVariables false

theorem grownN {A B : World} (h : Below A.heap.size A B) : A.grownBy B none := grown_of_below' h none
end Go.Proofs.Ytcecodjipeahkaa
namespace Go.Proofs.Ytcecodjipeahkaa
open Go.ChangeShapes Go.WideShapes Go.ChangeAt Go.RowKit Go.BigFrame
set_option linter.unusedVariables false

/-- what is known of a world in which two words are put together -/
structure CbC (w W : World) (va : Value) (ya : ByteArray) (vb : Value) (yb : ByteArray) : Prop where
  below : Below w.heap.size w W
  size : w.heap.size + 3 ≤ W.heap.size
  rowa : W.heap[w.heap.size]? = some (.cells #[va, .string ya] 27)
  rowb : W.heap[w.heap.size + 1]? = some (.cells #[vb, .string yb] 27)
  res : W.heap[w.heap.size + 2]? = some (.cells #[.slice none 0 0, .string ⟨#[]⟩] 27)
theorem cbc_new (w : World) (va : Value) (ya : ByteArray) (vb : Value) (yb : ByteArray) : CbC w (((w.alloc (.cells #[va, .string ya] 27)).alloc (.cells #[vb, .string yb] 27)).alloc (.cells #[.slice none 0 0, .string ⟨#[]⟩] 27)) va ya vb yb := by
  have hb1 := (Below.refl w.heap.size w).alloc (Nat.le_refl _) (.cells #[va, .string ya] 27)
  have hb2 := hb1.alloc hb1.size (.cells #[vb, .string yb] 27)
  have e1 : (w.alloc (.cells #[va, .string ya] 27)).heap.size = w.heap.size + 1 := by simp
  have e2 : ((w.alloc (.cells #[va, .string ya] 27)).alloc (.cells #[vb, .string yb] 27)).heap.size = w.heap.size + 2 := by simp
  have r2 := heap_alloc_new (w.alloc (.cells #[va, .string ya] 27)) (.cells #[vb, .string yb] 27)
  rw [e1] at r2
  have r3 := heap_alloc_new ((w.alloc (.cells #[va, .string ya] 27)).alloc (.cells #[vb, .string yb] 27)) (.cells #[.slice none 0 0, .string ⟨#[]⟩] 27)
  rw [e2] at r3
  exact ⟨hb2.alloc hb2.size _, by simp, (Below.heap_alloc _ _ w.heap.size (by simp; omega)).trans ((Below.heap_alloc _ _ w.heap.size (by simp)).trans (heap_alloc_new w _)), (Below.heap_alloc _ _ (w.heap.size + 1) (by simp)).trans r2, r3⟩
theorem CbC.next {w W W' : World} {va : Value} {ya : ByteArray} {vb : Value} {yb : ByteArray} (h : CbC w W va ya vb yb) (hb : Below W.heap.size W W') : CbC w W' va ya vb yb := by
  have hs := h.size
  exact ⟨h.below.trans (hb.mono h.below.size), Nat.le_trans hs hb.size, (hb.block _ (by omega)).trans h.rowa, (hb.block _ (by omega)).trans h.rowb, (hb.block _ (by omega)).trans h.res⟩
theorem row_set2 {W : World} {b b' : Nat} {o : Obj} (h : W.heap[b']? = some o) (hne : b' ≠ b) (p q : Value) : ((W.setCell ⟨b, 0, none⟩ p).setCell ⟨b, 1, none⟩ q).heap[b']? = some o := by
  rw [Below.heap_setCell _ _ _ _ hne, Below.heap_setCell _ _ _ _ hne]; exact h
end Go.Proofs.Ytcecodjipeahkaa
namespace Go.Proofs.Ytcecodjipeahkaa
open Go.ChangeShapes Go.WideShapes Go.ChangeAt Go.RowKit Go.BigFrame
set_option linter.unusedVariables false

theorem sparted_any (va vb : Value) (A B : List K2) (w : World) (ha : keysAt w va A) (hb : keysAt w vb B) (hsA : A.length ≤ 2000000) (hsB : B.length ≤ 2000000) :
    Calls Try.prog 57 #[va, vb] w fun e w' => ∃ v, e = .returned v ∧ w'.ownsRow w.heap.size 44 2 v (mergeV false A B).length (keyCells (mergeV false A B)) ∧ Below w.heap.size w w' := by
  have H := Lib.hid (smerge_any va vb A B false w ha hb hsA hsB)
  go_enter Try.func57, Try.ntmps57
  go_wp2_with fail
  refine H.out.mono ?_
  rintro e w1 ⟨v, rfl, ho, hB⟩
  go_wp2
  go_ret
  exact ⟨v, rfl, ho, hB⟩
end Go.Proofs.Ytcecodjipeahkaa
namespace Go.Proofs.Ytcecodjipeahkaa
open Go.ChangeShapes Go.WideShapes Go.ChangeAt Go.RowKit Go.BigFrame
set_option linter.unusedVariables false

theorem keys_few {ks : List K2} (h : keysOkR ks = true) : ks.length ≤ 1980 := by
  obtain ⟨h1, h2⟩ := (keysR_iff ks).1 h
  have hm : ∀ (l : List K2) (n : Int), (∀ k ∈ l, keyOkB k = true) → Rising l → (∀ k ∈ l, n ≤ (k.1 - 1) * 99 + k.2) → n ≤ 1981 → (l.length : Int) ≤ 1981 - n := by
    intro l
    induction l with
    | nil => intro n _ _ _ h; simp; omega
    | cons a l ih =>
      intro n g1 g2 g3 g4
      have ha := g1 a (List.mem_cons_self ..)
      have hp := g3 a (List.mem_cons_self ..)
      have g2' := List.pairwise_cons.1 g2
      have hb : (1 ≤ a.1 ∧ a.1 ≤ 20) ∧ 1 ≤ a.2 ∧ a.2 ≤ 99 := by unfold keyOkB at ha; simpa using ha
      have := ih ((a.1 - 1) * 99 + a.2 + 1) (fun k hk => g1 k (List.mem_cons_of_mem _ hk)) g2'.2 (fun k hk => by
        have h3 := g2'.1 k hk
        have hk1 := g1 k (List.mem_cons_of_mem _ hk)
        have hkb : (1 ≤ k.1 ∧ k.1 ≤ 20) ∧ 1 ≤ k.2 ∧ k.2 ≤ 99 := by unfold keyOkB at hk1; simpa using hk1
        rw [ahead_iff] at h3
        omega) (by omega)
      simp only [List.length_cons]
      omega
  have := hm ks 1 h1 h2 (fun k hk => by
    have hk1 := h1 k hk
    have hkb : (1 ≤ k.1 ∧ k.1 ≤ 20) ∧ 1 ≤ k.2 ∧ k.2 ≤ 99 := by unfold keyOkB at hk1; simpa using hk1
    omega) (by omega)
  omega
set_option maxRecDepth 100000 in
set_option maxHeartbeats 4000000 in
theorem sadd_any (va : Value) (A : List K2) (ya : ByteArray) (vb : Value) (B : List K2) (yb : ByteArray) (w : World) (ha : keysAt w va A) (hb : keysAt w vb B) (hA : wOk (A, ya)) (hB : wOk (B, yb)) :
    Calls Try.prog 41 #[.agg #[va, .string ya], .agg #[vb, .string yb]] w fun e w' => ∃ v', e = .returned (.agg #[v', .string (addC (A, ya) (B, yb)).2]) ∧
      w'.ownsRow w.heap.size 44 2 v' (addC (A, ya) (B, yb)).1.length (keyCells (addC (A, ya) (B, yb)).1) ∧ Below w.heap.size w w' := by
  have hAl := keys_few hA.1; have hBl := keys_few hB.1
  have hya : ya.size = 4 := hA.2
  have hyb : yb.size = 4 := hB.2
  have HP := Lib.hid (cbc_new w va ya vb yb)
  have SP := Lib.hid (fun w' (h : Below w.heap.size w w') => sparted_any va vb A B w' (keysAt_below ha h) (keysAt_below hb h) (by dsimp only at hAl; omega) (by dsimp only at hBl; omega))
  have SX := Lib.hid (fun w' => sxor_any ya yb w' (by omega) (by omega))
  have HMV : mergeV false A B = mergeL false A B := by
    have h1 : keysOkR A = true := hA.1
    have h2 : keysOkR B = true := hB.1
    unfold mergeV; rw [h1, h2]; rfl
  rw [HMV] at SP
  obtain ⟨aa, ca, hva, -, -⟩ := ha
  obtain ⟨ab, cb, hvb, -, -⟩ := hb
  subst hva; subst hvb
  unfold addC
  dsimp only
  clear HMV hAl hBl hya hyb hA hB
  go_enter Try.func41, Try.ntmps41
  go_wp2_with fail
  generalize ((w.alloc (.cells #[.slice aa A.length ca, .string ya] 27)).alloc (.cells #[.slice ab B.length cb, .string yb] 27)).alloc (.cells #[.slice none 0 0, .string ⟨#[]⟩] 27) = W at *
  have L1 : ∀ w' : World, w'.heap[w.heap.size]? = some (.cells #[.slice aa A.length ca, .string ya] 27) ∧ w'.heap[w.heap.size + 1]? = some (.cells #[.slice ab B.length cb, .string yb] 27) → (loadVar 25 ⟨w.heap.size, 0, none⟩).run Try.prog w' = .ok (.slice aa A.length ca) w' := fun w' h => cd_loadk h.1 (Below.refl _ _)
  have L2 : ∀ w' : World, w'.heap[w.heap.size]? = some (.cells #[.slice aa A.length ca, .string ya] 27) ∧ w'.heap[w.heap.size + 1]? = some (.cells #[.slice ab B.length cb, .string yb] 27) → (loadVar 9 ⟨w.heap.size, 1, none⟩).run Try.prog w' = .ok (.string ya) w' := fun w' h => cd_loads h.1 (Below.refl _ _)
  have L3 : ∀ w' : World, w'.heap[w.heap.size]? = some (.cells #[.slice aa A.length ca, .string ya] 27) ∧ w'.heap[w.heap.size + 1]? = some (.cells #[.slice ab B.length cb, .string yb] 27) → (loadVar 25 ⟨w.heap.size + 1, 0, none⟩).run Try.prog w' = .ok (.slice ab B.length cb) w' := fun w' h => cd_loadk h.2 (Below.refl _ _)
  have L4 : ∀ w' : World, w'.heap[w.heap.size]? = some (.cells #[.slice aa A.length ca, .string ya] 27) ∧ w'.heap[w.heap.size + 1]? = some (.cells #[.slice ab B.length cb, .string yb] 27) → (loadVar 9 ⟨w.heap.size + 1, 1, none⟩).run Try.prog w' = .ok (.string yb) w' := fun w' h => cd_loads h.2 (Below.refl _ _)
  have HRA := Lib.hid HP.out.rowa
  have HRB := Lib.hid HP.out.rowb
  have HRES := Lib.hid HP.out.res
  have HB0 := Lib.hid HP.out.below
  have HSZ := Lib.hid HP.out.size
  clear HP
  refine wp_region_G (fun w' => w'.heap[w.heap.size]? = some (.cells #[.slice aa A.length ca, .string ya] 27) ∧ w'.heap[w.heap.size + 1]? = some (.cells #[.slice ab B.length cb, .string yb] 27)) (by kernel_rfl) ?_
  replace HRA := Lib.hid (show (World.drew _).heap[_]? = _ from HRA.out)
  replace HRB := Lib.hid (show (World.drew _).heap[_]? = _ from HRB.out)
  replace HB0 := Lib.hid (HB0.out.drew)
  replace HRES := Lib.hid (show (World.drew _).heap[_]? = _ from HRES.out)
  replace HSZ := Lib.hid (show _ ≤ (World.drew _).heap.size from HSZ.out)
  generalize (W).drew = wD at *
  refine wpG_seg [true, true, true, true, false, true, true, true, true] [4] 3 (by kernel_rfl) (by intro c a d v w h; cases d <;> exact h) (by kernel_rfl) ⟨HRA.out, HRB.out⟩ ?_
  try simp only [maskRows]
  repeat (first
    | go_big_quiet_skip
    | (go_big_quiet_want
       first
         | (go_big_quiet_op; go_big_quiet_on)
         | (refine q_load 25 _ _ _ rfl rfl L1 ?_; simp only [Act.put, List.setIfInBounds_toArray, List.set_cons_zero, List.set_cons_succ]; go_big_quiet_on)
         | (refine q_load 9 _ _ _ rfl rfl L2 ?_; simp only [Act.put, List.setIfInBounds_toArray, List.set_cons_zero, List.set_cons_succ]; go_big_quiet_on)
         | (refine q_load 25 _ _ _ rfl rfl L3 ?_; simp only [Act.put, List.setIfInBounds_toArray, List.set_cons_zero, List.set_cons_succ]; go_big_quiet_on)
         | (refine q_load 9 _ _ _ rfl rfl L4 ?_; simp only [Act.put, List.setIfInBounds_toArray, List.set_cons_zero, List.set_cons_succ]; go_big_quiet_on)
         | (go_big_quiet_op; refine ⟨_, fun _ _ => rfl, ?_⟩; go_big_quiet_on)
         | (go_big_quiet_op; refine ⟨_, fun _ _ _ => rfl, ?_⟩; go_big_quiet_on)))
  refine wpQuiet_nil ?_
  refine List.forall_mem_singleton.2 ?_
  refine segt_run rfl (by rfl) (fun K hK => ?_)
  go_simp
  refine (SP.out _ HB0.out).mono ?_
  rintro e w3 ⟨v3, rfl, ho3, hb⟩
  dsimp only
  have HSZo := Lib.hid HSZ.out
  have hNE := fun (b6 : Nat) (hl : b6 < wD.heap.size) (e : v3.ownBlock = some b6) => (absurd (ho3.lt b6 e).1 (Nat.not_le.2 hl) : False)
  replace HRA := Lib.hid ((hb.block _ (Array.getElem?_eq_some_iff.1 HRA.out).1).trans HRA.out)
  replace HRB := Lib.hid ((hb.block _ (Array.getElem?_eq_some_iff.1 HRB.out).1).trans HRB.out)
  replace HB0 := Lib.hid (HB0.out.trans (hb.mono HB0.out.size))
  replace HRES := Lib.hid ((hb.block _ (Array.getElem?_eq_some_iff.1 HRES.out).1).trans HRES.out)
  replace HSZ := Lib.hid (Nat.le_trans HSZ.out hb.size)
  clear hNE
  obtain ⟨a3, n3, k3, rfl⟩ := own_shape ho3
  have HO := Lib.hid (own_base ho3 HSZo.out)
  clear ho3 HSZo
  clear hb
  refine hK _ _ ⟨_, fun _ h => h, ⟨HRA.out, HRB.out⟩, ?_⟩
  clear hK K
  try simp only [Act.put, List.setIfInBounds_toArray, List.set_cons_zero, List.set_cons_succ]
  refine wpG_seg [] [9] 2 (by kernel_rfl) (by intro c a d v w h; cases d <;> exact h) (by kernel_rfl) ⟨HRA.out, HRB.out⟩ ?_
  try simp only [maskRows]
  refine wpQuiet_nil ?_
  refine List.forall_mem_singleton.2 ?_
  refine segt_run rfl (by rfl) (fun K hK => ?_)
  go_simp
  refine (SX.out _).mono ?_
  rintro e w4 ⟨rfl, hb⟩
  dsimp only
  replace HRA := Lib.hid ((hb.block _ (Array.getElem?_eq_some_iff.1 HRA.out).1).trans HRA.out)
  replace HRB := Lib.hid ((hb.block _ (Array.getElem?_eq_some_iff.1 HRB.out).1).trans HRB.out)
  replace HB0 := Lib.hid (HB0.out.trans (hb.mono HB0.out.size))
  replace HRES := Lib.hid ((hb.block _ (Array.getElem?_eq_some_iff.1 HRES.out).1).trans HRES.out)
  replace HSZ := Lib.hid (Nat.le_trans HSZ.out hb.size)
  replace HO := Lib.hid (own_below HO.out hb)
  clear hb
  refine hK _ _ ⟨_, fun _ h => h, ⟨HRA.out, HRB.out⟩, ?_⟩
  clear hK K
  try simp only [Act.put, List.setIfInBounds_toArray, List.set_cons_zero, List.set_cons_succ]
  refine wpG_seg [] [10] 1 (by kernel_rfl) (by intro c a d v w h; cases d <;> exact h) (by kernel_rfl) ⟨HRA.out, HRB.out⟩ ?_
  try simp only [maskRows]
  refine wpQuiet_nil ?_
  refine List.forall_mem_singleton.2 ?_
  refine segt_run rfl (by rfl) (fun K hK => ?_)
  go_simp
  refine hK _ _ ⟨_, fun _ h => h, ⟨HRA.out, HRB.out⟩, ?_⟩
  clear hK K
  try simp only [Act.put, List.setIfInBounds_toArray, List.set_cons_zero, List.set_cons_succ]
  refine wpG_seg [] [11] 0 (by kernel_rfl) (by intro c a d v w h; cases d <;> exact h) (by kernel_rfl) ⟨HRA.out, HRB.out⟩ ?_
  try simp only [maskRows]
  refine wpQuiet_nil ?_
  refine List.forall_mem_singleton.2 ?_
  obtain ⟨c0, c1, f0, f1⟩ := row2_of HRES.out
  have hlt := (Array.getElem?_eq_some_iff.1 HRES.out).1
  have HF := Lib.hid (And.intro (cd_res HRES.out (.slice a3 n3 k3) (xorS ya yb)) (And.intro (own_base (own_set2 HO.out (by omega : w.heap.size + 2 < w.heap.size + 3) (.slice a3 n3 k3) (.string (xorS ya yb))) (by omega : w.heap.size ≤ w.heap.size + 3)) (below2 HB0.out (by omega : w.heap.size ≤ w.heap.size + 2) (.slice a3 n3 k3) (.string (xorS ya yb)))))
  have HRA' := Lib.hid (row_set2 HRA.out (by omega : w.heap.size ≠ w.heap.size + 2) (.slice a3 n3 k3) (.string (xorS ya yb)))
  have HRB' := Lib.hid (row_set2 HRB.out (by omega : w.heap.size + 1 ≠ w.heap.size + 2) (.slice a3 n3 k3) (.string (xorS ya yb)))
  clear HRES HO HB0 HSZ
  refine segt_run rfl (by rfl) (fun K hK => ?_)
  go_simp
  replace HRA := HRA'
  replace HRB := HRB'
  clear HRA' HRB' c0 c1 f0 f1 hlt
  refine hK _ _ ⟨_, fun _ h => h, ⟨HRA.out, HRB.out⟩, ?_⟩
  clear hK K
  try simp only [Act.put, List.setIfInBounds_toArray, List.set_cons_zero, List.set_cons_succ]
  refine wpG_end [] (by kernel_rfl) (by intro c a d v w h; cases d <;> exact h) (by kernel_rfl) ⟨HRA.out, HRB.out⟩ ?_
  try simp only [maskRows]
  refine wpQuiet_nil ?_
  clear HRA HRB
  go_wp2_with fail
  refine bodyPost_ret (v := .agg #[.slice a3 n3 k3, .string (xorS ya yb)]) ?_ rfl ⟨_, rfl, HF.out.2.1, HF.out.2.2⟩
  rw [results_cell (p := 4) (ty := 27) (by kernel_rfl)]
  have l2 := HF.out.1
  simp [asAddr, Result.andThen, l2]
end Go.Proofs.Ytcecodjipeahkaa
namespace Go.Proofs.Ytcecodjipeahkaa
open Go.ChangeShapes Go.WideShapes Go.ChangeAt Go.RowKit Go.BigFrame Go.Shelf Go.Great
attribute [local go_sem] Oper.semAt_some
set_option linter.unusedVariables false

/-- the bits of some right keys -/
def bitsK (pre : List RK) (p : Nat) : Bool := pre.any fun k => decide (p = placeK k.1)
theorem bitsK_snoc (pre : List RK) (k : RK) : (bitsK (pre ++ [k])) = fun p => bitsK pre p || decide (p = placeK k.1) := by
  funext p
  simp [bitsK]
theorem bitsK_nil : bitsK [] = fun _ => false := rfl
theorem agg_u64 (w : World) : (isAgg 74).run Try.prog w = .ok false w := by simp [isAgg, underlying, Try.underlying74]
theorem size_row : (Try.prog.info? 76).map (·.size) = some 32 := by kernel_rfl
def rowA (f : Nat → Bool) : Array Value := (rowV f).toArray
theorem rowA_size (f : Nat → Bool) : (rowA f).size = 32 := by unfold rowA; rw [List.size_toArray, rowV_len]
theorem rowA_zero : #[.int .u64 0, .int .u64 0, .int .u64 0, .int .u64 0, .int .u64 0, .int .u64 0, .int .u64 0, .int .u64 0, .int .u64 0, .int .u64 0, .int .u64 0, .int .u64 0, .int .u64 0, .int .u64 0, .int .u64 0, .int .u64 0, .int .u64 0, .int .u64 0, .int .u64 0, .int .u64 0, .int .u64 0, .int .u64 0, .int .u64 0, .int .u64 0, .int .u64 0, .int .u64 0, .int .u64 0, .int .u64 0, .int .u64 0, .int .u64 0, .int .u64 0, .int .u64 0] = rowA fun _ => false := by kernel_rfl
theorem rowA_get (f : Nat → Bool) (j : Nat) (hj : j < 32) : (rowA f)[j]? = some (.int .u64 ((rowB f j : Nat) : Int)) := by
  unfold rowA; rw [List.getElem?_toArray]; exact rowV_get f j hj
/-- one number of a row set -/
theorem rowA_or (f : Nat → Bool) (p : Nat) (hp : p / 64 < 32) : (rowA f).setIfInBounds (p / 64) (.int .u64 ((rowB f (p / 64) ||| 2 ^ (p % 64) : Nat) : Int)) = rowA fun q => f q || decide (q = p) := by
  unfold rowA
  rw [List.setIfInBounds_toArray]
  congr 1
  refine List.ext_getElem? fun j => ?_
  rw [List.getElem?_set]
  by_cases hj : j < 32
  · rw [rowV_get (fun q => f q || decide (q = p)) j hj]
    by_cases e : p / 64 = j
    · subst e
      rw [if_pos rfl, if_pos (by rw [rowV_len]; exact hp), rowB_or_same]
    · rw [if_neg e, rowV_get f j hj, rowB_or_other f p j (Ne.symm e)]
  · have h1 : (rowV fun q => f q || decide (q = p))[j]? = none := List.getElem?_eq_none (by rw [rowV_len]; omega)
    have h2 : (rowV f)[j]? = none := List.getElem?_eq_none (by rw [rowV_len]; omega)
    rw [h1, if_neg (by omega), h2]
/-- the load's number set -/
theorem rowA_load (f : Nat → Bool) (x : C2) (hf : ∀ p, p < 1984 → f p = hasX x p) (hx : x.2.size = 4) : (rowA f).setIfInBounds 31 (.int .u64 ((numL x.2 : Nat) : Int)) = rowA (hasX x) := by
  unfold rowA
  rw [List.setIfInBounds_toArray]
  congr 1
  refine List.ext_getElem? fun j => ?_
  rw [List.getElem?_set]
  have hl := numL_lt x.2 hx
  by_cases hj : j < 32
  · rw [rowV_get (hasX x) j hj]
    by_cases e : 31 = j
    · subst e
      rw [if_pos rfl, if_pos (by rw [rowV_len]; omega)]
      have : rowB (hasX x) 31 = numL x.2 := packN_eq _ _ _ (by omega) fun i hi => by
        unfold hasX
        rw [if_neg (by omega), show 64 * 31 + i - 1984 = i by omega]
      rw [this]
    · rw [if_neg e, rowV_get f j hj, rowB_congr j fun i hi => hf _ (by omega)]
  · have h1 : (rowV (hasX x))[j]? = none := List.getElem?_eq_none (by rw [rowV_len]; omega)
    have h2 : (rowV f)[j]? = none := List.getElem?_eq_none (by rw [rowV_len]; omega)
    rw [h1, if_neg (by omega), h2]
/-- right keys, each with its proof -/
theorem rk_list : ∀ ks : List K2, keysOkR ks = true → ∃ rs : List RK, rs.map (·.1) = ks := by
  intro ks h
  have h1 := ((keysR_iff ks).1 h).1
  clear h
  induction ks with
  | nil => exact ⟨[], rfl⟩
  | cons k l ih =>
    obtain ⟨rs, hr⟩ := ih fun x hx => h1 x (List.mem_cons_of_mem _ hx)
    exact ⟨⟨k, h1 k (List.mem_cons_self ..)⟩ :: rs, by rw [List.map_cons, hr]⟩
theorem bitsK_has (rs : List RK) (y : ByteArray) (p : Nat) (hp : p < 1984) : bitsK rs p = hasX (rs.map (·.1), y) p := by
  unfold bitsK hasX
  rw [if_pos hp]
  dsimp only
  rw [Bool.eq_iff_iff, List.any_eq_true, decide_eq_true_eq, List.mem_map]
  constructor
  · rintro ⟨k, hk, e⟩
    have e := of_decide_eq_true e
    exact ⟨k, hk, by rw [e, place_key k.2]⟩
  · rintro ⟨k, hk, e⟩
    exact ⟨k, hk, decide_eq_true (by rw [e, key_place])⟩
theorem getV_load (y : ByteArray) (hy : y.size = 4) : getV y 0 4 = (numL y : Nat) := by
  unfold getV numL
  rw [if_neg (by omega)]
  congr 1
  have : (y.data.toList.drop (0 : Int).toNat).take (4 : Int).toNat = y.data.toList := by
    show (y.data.toList.drop 0).take 4 = _
    rw [List.drop_zero, List.take_of_length_le (by simp [hy])]
  rw [this]
theorem load_u64 {w : World} {p : Addr} {v : Value} (h : w.cell? p = some v) : (loadVar 74 p).run Try.prog w = .ok v w := load_one agg_u64 h
attribute [local irreducible] rowA rowB hasX bitsK numL
set_option maxRecDepth 100000 in
set_option maxHeartbeats 1200000 in
theorem irow_any (vx : Value) (ks : List K2) (y : ByteArray) (w : World) (hx : keysAt w vx ks) (hk : keysOkR ks = true) (hy : y.size = 4) :
    Calls Try.prog 47 #[.agg #[vx, .string y]] w fun e w' => e = .returned (.agg (rowA (hasX (ks, y)))) ∧ Below w.heap.size w w' := by
  refine (callsIn_wide (n := 9)).1 ?_
  have hx0 := keysIn0_of hx
  obtain ⟨rs, hrs⟩ := rk_list ks hk
  subst hrs
  have hfew := keys_few hk
  obtain ⟨ax, cx, rfl, -, -⟩ := hx
  rw [rk_len] at *
  have hb1 := (Below.refl w.heap.size w).alloc (Nat.le_refl _) (.cells #[.slice ax rs.length cx, .string y] 27)
  have hb2 := hb1.alloc hb1.size (.cells (rowA fun _ => false) 76)
  have HB := Lib.hid (hb2.alloc hb2.size (.cells (rowA fun _ => false) 76))
  have RX := Lib.hid ((Below.heap_alloc ((w.alloc (.cells #[.slice ax rs.length cx, .string y] 27)).alloc (.cells (rowA fun _ => false) 76)) (.cells (rowA fun _ => false) 76) w.heap.size (by simp; omega)).trans (heap_first w (.cells (rowA fun _ => false) 76) (.cells #[.slice ax rs.length cx, .string y] 27)))
  have RR := Lib.hid (heap_mid w (.cells #[.slice ax rs.length cx, .string y] 27) (.cells (rowA fun _ => false) 76) (.cells (rowA fun _ => false) 76))
  have rr := heap_alloc_new ((w.alloc (.cells #[.slice ax rs.length cx, .string y] 27)).alloc (.cells (rowA fun _ => false) 76)) (.cells (rowA fun _ => false) 76)
  rw [show ((w.alloc (.cells #[.slice ax rs.length cx, .string y] 27)).alloc (.cells (rowA fun _ => false) 76)).heap.size = w.heap.size + 2 by simp] at rr
  have RL := Lib.hid rr
  have hqz : (((w.alloc (.cells #[.slice ax rs.length cx, .string y] 27)).alloc (.cells (rowA fun _ => false) 76)).alloc (.cells (rowA fun _ => false) 76)).heap.size = w.heap.size + 3 := by simp
  obtain ⟨x0, x1, -, -⟩ := row2_of RX.out
  clear hb1 hb2 rr
  refine callsIn_of_wp_marks Try.func47 rfl trivial ?_ rfl
  simp only [Try.ntmps47, List.size_toArray, List.length_cons, List.length_nil, Nat.reduceAdd, Nat.reduceSub, Array.replicate_succ, Array.replicate_zero, List.push_toArray, List.append_toArray, List.nil_append, List.cons_append]
  gi_wp2
  rw [rowA_zero]
  generalize hW : (((w.alloc (.cells #[.slice ax rs.length cx, .string y] 27)).alloc (.cells (rowA fun _ => false) 76)).alloc (.cells (rowA fun _ => false) 76)) = W5 at *
  clear hW
  refine ⟨trivial, (callsIn_wide.2 (kin_any _ _ _ _)).mono ?_⟩
  rintro e w6 ⟨rfl, rfl⟩
  have bS := Boxed.new W5 25 (.slice ax rs.length cx)
  have hRL := (Below.heap_alloc W5 (.cells #[.slice ax rs.length cx] 25) _ (Array.getElem?_eq_some_iff.1 RL.out).1).trans RL.out
  have hRX := (Below.heap_alloc W5 (.cells #[.slice ax rs.length cx] 25) _ (Array.getElem?_eq_some_iff.1 RX.out).1).trans RX.out
  have hRR := (Below.heap_alloc W5 (.cells #[.slice ax rs.length cx] 25) _ (Array.getElem?_eq_some_iff.1 RR.out).1).trans RR.out
  have hB0 := HB.out.alloc HB.out.size (.cells #[.slice ax rs.length cx] 25)
  have hsz : (W5.alloc (.cells #[.slice ax rs.length cx] 25)).heap.size = w.heap.size + 4 := by simp; omega
  have hnS : W5.heap.size = w.heap.size + 3 := by omega
  rw [hnS] at bS
  clear RX RR RL HB x0 x1
  gi_wp2
  generalize W5.alloc (.cells #[.slice ax rs.length cx] 25) = W0 at *
  refine wpIn_rangeFunc_ownH (n := 9) rfl (by omega) (gf := 100) (lb := #[.pointer (some ⟨w.heap.size + 3, 0, none⟩)]) rfl trivial (enters_of Try.func100 (by kernel_rfl) rfl)
    (kir_stops 8 (w.heap.size + 3) w.heap.size (.slice ax rs.length cx) rs (by omega) (by omega) W0 (by omega) (by omega) bS.cell (hx0.below hB0)) belowK_t (belowK_b (by omega)) (Below.refl _ _) (fun _ => rfl)
    (fun pre W => W.heap[w.heap.size + 2]? = some (.cells (rowA (bitsK pre)) 76 (0, 0)) ∧ W.heap[w.heap.size]? = some (.cells #[.slice ax rs.length cx, .string y] 27 (0, 0)) ∧ W.heap[w.heap.size + 1]? = some (.cells (rowA fun _ => false) 76 (0, 0)) ∧ Below w.heap.size w W)
    (fun _ _ _ => False)
    (OwnFrom.and (Own.from (cells_own (w.heap.size + 2) (fun pre : List RK => rowA (bitsK pre)) 76) _) (OwnFrom.and (Own.from (cells_own w.heap.size (fun _ => #[.slice ax rs.length cx, .string y]) 27) _) (OwnFrom.and (Own.from (cells_own (w.heap.size + 1) (fun _ => rowA fun _ => false) 76) _) (ownFrom_below (Nat.le_refl _) (by omega)))))
    (fun _ _ _ _ _ hs _ _ => hs)
    ⟨by rw [bitsK_nil]; exact hRL, hRX, hRR, hB0⟩
    (fun x a' W => ∃ Bx, w.heap.size + 2 < Bx ∧ KBoxed W Bx x.1 ∧ a' = { tmps := #[.agg #[.slice ax rs.length cx, .string y], .pointer (some ⟨w.heap.size, 0, none⟩), .pointer (some ⟨w.heap.size + 1, 0, none⟩), .pointer (some ⟨w.heap.size + 1 + 1, 0, none⟩), .pointer (some ⟨Bx, 0, none⟩), undef, .pointer (some ⟨w.heap.size, 0, none⟩), .slice ax rs.length cx, .func (.func 100) #[] #[.pointer (some ⟨w.heap.size + 3, 0, none⟩)], kv x.1, undef, undef, undef, undef, undef, undef, undef, undef, undef, undef, undef, undef, undef, undef, undef, undef, undef], defers := [] })
    (fun x a' _ X Y row hs hg hr => by
      obtain ⟨Bx, e1, e2, e4⟩ := hs
      exact ⟨Bx, e1, kboxed_own Bx x.1 () X Y row e2 hg (fun r e => (hr r e).2), e4⟩)
    ?assign ?body ?done ?stop
  case assign =>
    rintro l pre ⟨⟨p, q⟩, hpq⟩ W K ⟨hRL, hTb, hRes, hB⟩ hK
    unfold kv at *
    dsimp only at *
    gi_wp2
    exact hK _ _ ((KeepsOthers.alloc _ _).from _) ((Below.refl _ W).alloc hB.size _) ⟨(Below.heap_alloc _ _ _ (Array.getElem?_eq_some_iff.1 hRL).1).trans hRL, (Below.heap_alloc _ _ _ (Array.getElem?_eq_some_iff.1 hTb).1).trans hTb, (Below.heap_alloc _ _ _ (Array.getElem?_eq_some_iff.1 hRes).1).trans hRes, hB.alloc hB.size _⟩ ⟨W.heap.size, (Array.getElem?_eq_some_iff.1 hRL).1, KBoxed.new W (p, q), rfl⟩
  case body =>
    rintro l pre ⟨⟨p, q⟩, hpq⟩ a' W hl ⟨r, hr⟩ ⟨hRL, hTb, hRes, hB⟩ ⟨Bx, hBx, bX, rfl⟩ hlt
    have hsn := bitsK_snoc pre ⟨(p, q), hpq⟩
    have hplt := place_lt hpq
    have hsW := hB.size
    have IP := Lib.hid (iplace_any (p, q) hpq)
    dsimp only at hsn
    generalize placeK (p, q) = P at *
    generalize bitsK pre = M at *
    have HSN := Lib.hid hsn
    clear hsn
    unfold kv at *
    dsimp only at *
    have cX0 := bX.cell0
    have cX1 := bX.cell1
    dsimp only at cX0 cX1
    gi_wp2
    refine ⟨trivial, (CallsIn.inRound l (callsIn_wide.2 (IP.out _))).mono ?_⟩
    rintro e W1 ⟨rfl, hb1⟩
    have g1 := grownN hb1
    have hRL1 := (hb1.block _ (Array.getElem?_eq_some_iff.1 hRL).1).trans hRL
    have hTb1 := (hb1.block _ (Array.getElem?_eq_some_iff.1 hTb).1).trans hTb
    have hRes1 := (hb1.block _ (Array.getElem?_eq_some_iff.1 hRes).1).trans hRes
    have hs1 := Nat.le_trans hsW hb1.size
    have hk1 : KeepsOthers W W1 := KeepsOthers.of_grownBy g1 (fun j o e => by cases e)
    have hB1 := hB.trans (hb1.mono hsW)
    have HBP1 := Lib.hid (hb1.mono hsW)
    have HK1 := Lib.hid hk1
    have HRL := Lib.hid hRL1
    have HT := Lib.hid hTb1
    have HRE := Lib.hid hRes1
    have HBB := Lib.hid hB1
    have HSZ := Lib.hid hs1
    clear hRL hTb hRes bX hb1 g1 hk1 hB cX0 cX1 IP hRL1 hTb1 hRes1 hB1 hs1
    have z0 : (0 : Int) ≤ ((P / 64 : Nat) : Int) := by omega
    have z1 : ((P / 64 : Nat) : Int) < 32 := by omega
    have hP64 : P / 64 < 32 := by omega
    have LA : ∀ w' : World, w'.heap[w.heap.size + 2]? = some (.cells (rowA M) 76 (0, 0)) → (loadVar 74 ⟨w.heap.size + 2, P / 64, none⟩).run Try.prog w' = .ok (.int .u64 ((rowB M (P / 64) : Nat) : Int)) w' := fun w' h => load_u64 (by rw [cell_of_row _ _ _ _ _ _ h]; exact rowA_get _ _ hP64)
    have HOR := Lib.hid (rowA_or M P hP64)
    have hbl := rowB_lt M (P / 64)
    gi_wp2
    refine wpIn_region_H (fun w' => w'.heap[w.heap.size + 2]? = some (.cells (rowA M) 76 (0, 0))) (by kernel_rfl) (by kernel_rfl) ?_
    have hb := (Below.refl W1.heap.size W1).drew
    have g2 := grownN hb
    replace HRL := Lib.hid ((hb.block _ (Array.getElem?_eq_some_iff.1 HRL.out).1).trans HRL.out)
    replace HT := Lib.hid ((hb.block _ (Array.getElem?_eq_some_iff.1 HT.out).1).trans HT.out)
    replace HRE := Lib.hid ((hb.block _ (Array.getElem?_eq_some_iff.1 HRE.out).1).trans HRE.out)
    replace HBP1 := Lib.hid (HBP1.out.trans (hb.mono HSZ.out))
    replace HBB := Lib.hid (HBB.out.trans (hb.mono HSZ.out))
    replace HK1 := Lib.hid (HK1.out.trans (KeepsOthers.of_grownBy g2 (fun j o e => by cases e)))
    replace HSZ := Lib.hid (Nat.le_trans HSZ.out hb.size)
    clear hb g2
    generalize W1.drew = w2 at *
    refine wpH_seg [true, true, true, true, true, true, true, true, true] [9] 0 (by kernel_rfl) (fun _ _ _ _ _ h => h) (by kernel_rfl) HRL.out ?_
    try simp only [maskRows]
    repeat (first
      | go_big_quiet_skip
      | (go_big_quiet_want
         first
           | (go_big_quiet_op; go_big_quiet_on)
           | (refine q_load 74 _ _ _ rfl rfl LA ?_; simp only [Act.put, List.setIfInBounds_toArray, List.set_cons_zero, List.set_cons_succ]; go_big_quiet_on)
           | (go_big_quiet_op; refine ⟨_, fun _ _ => rfl, ?_⟩; go_big_quiet_on)
           | (go_big_quiet_op; refine ⟨_, fun _ _ _ => rfl, ?_⟩; go_big_quiet_on)))
    refine wpQuiet_nil ?_
    refine List.forall_mem_singleton.2 ?_
    have c0 : w2.cell? ⟨w.heap.size + 2, P / 64, none⟩ = some (.int .u64 ((rowB M (P / 64) : Nat) : Int)) := by rw [cell_of_row _ _ _ _ _ _ HRL.out]; exact rowA_get _ _ hP64
    have f0 : w2.frozen? ⟨w.heap.size + 2, P / 64, none⟩ = false := by simp [World.frozen?, HRL.out]
    have hlt := (Array.getElem?_eq_some_iff.1 HRL.out).1
    refine segh_run rfl (by rfl) (fun K hK => ?_)
    go_simp
    have hor : bits .or .u64 ((rowB M (P / 64) : Nat) : Int) (IntKind.u64.wrap (2 ^ (P % 64))) = ((rowB M (P / 64) ||| 2 ^ (P % 64) : Nat) : Int) := by
      have h2 : (2 : Nat) ^ (P % 64) < 18446744073709551616 := Nat.pow_lt_pow_right (by decide) (show P % 64 < 64 by omega)
      have h3 : (2 : Int) ^ (P % 64) = ((2 ^ (P % 64) : Nat) : Int) := by rw [Int.natCast_pow]; rfl
      rw [h3]
      generalize 2 ^ (P % 64) = t at *
      have h4 : IntKind.u64.wrap (t : Int) = (t : Int) := by rw [IntKind.wrap_u64]; omega
      rw [h4]
      exact u64_or _ _ hbl h2
    have hset := set_cellsD (j := P / 64) (.int .u64 (bits .or .u64 ((rowB M (P / 64) : Nat) : Int) (IntKind.u64.wrap (2 ^ (P % 64))))) HRL.out
    have hset2 : (w2.setCell ⟨w.heap.size + 2, P / 64, none⟩ (.int .u64 (bits .or .u64 ((rowB M (P / 64) : Nat) : Int) (IntKind.u64.wrap (2 ^ (P % 64)))))).heap[w.heap.size + 2]? = some (.cells (rowA (bitsK (pre ++ [⟨(p, q), hpq⟩]))) 76 (0, 0)) := by
      rw [hset, hor, HOR.out, HSN.out]
    have g9 := Lib.grownBy_setCell w2 (w.heap.size + 2) (P / 64) (.int .u64 (bits .or .u64 ((rowB M (P / 64) : Nat) : Int) (IntKind.u64.wrap (2 ^ (P % 64)))))
    have hne9 : ∀ B, B ≠ w.heap.size + 2 → some B ≠ some (w.heap.size + 2) := fun B h e => h (Option.some.inj e)
    have HRL2 := Lib.hid hset2
    have HT2 := Lib.hid ((g9.block _ (Array.getElem?_eq_some_iff.1 HT.out).1 (hne9 _ (by omega))).trans HT.out)
    have HRE2 := Lib.hid ((g9.block _ (Array.getElem?_eq_some_iff.1 HRE.out).1 (hne9 _ (by omega))).trans HRE.out)
    have HBP2 := Lib.hid (HBP1.out.setCell (p := ⟨w.heap.size + 2, P / 64, none⟩) (by show w.heap.size ≤ w.heap.size + 2; omega) (.int .u64 (bits .or .u64 ((rowB M (P / 64) : Nat) : Int) (IntKind.u64.wrap (2 ^ (P % 64))))))
    have HBB2 := Lib.hid (HBB.out.setCell (p := ⟨w.heap.size + 2, P / 64, none⟩) (by show w.heap.size ≤ w.heap.size + 2; omega) (.int .u64 (bits .or .u64 ((rowB M (P / 64) : Nat) : Int) (IntKind.u64.wrap (2 ^ (P % 64))))))
    have HK2 := Lib.hid (HK1.out.trans (KeepsOthers.of_grownBy g9 (fun j o e ho => by cases e; rw [HRL.out] at ho; cases ho; rfl)))
    clear HT HRE HBP1 HBB HK1 HSZ c0 f0 hlt g9 hne9 hset hset2 HRL hor LA
    refine hK _ _ (.inl ⟨⟨lastP_of (by kernel_rfl), by kernel_rfl⟩, ?_⟩)
    clear hK K
    try simp only [Act.put, List.setIfInBounds_toArray, List.set_cons_zero, List.set_cons_succ]
    simp only [OnlyNormal]
    gi_wp2
    exact ⟨HK2.out.from _, HBP2.out, HRL2.out, HT2.out, HRE2.out, HBB2.out⟩
  case done =>
    rintro D ys W hD hys ⟨hRL, hTb, hRes, hB⟩ hK
    subst hys
    have hsW := hB.size
    obtain ⟨x0, x1, -, -⟩ := row2_of hTb
    have hn := getV_load y hy
    have hl := numL_lt y hy
    have IG := Lib.hid (fun w => iget_any y 0 4 w (by omega))
    rw [hn] at IG
    have hwr : IntKind.u64.wrap ((numL y : Nat) : Int) = ((numL y : Nat) : Int) := by rw [IntKind.wrap_u64]; omega
    have hset := set_cellsD (j := 31) (.int .u64 ((numL y : Nat) : Int)) hRL
    rw [rowA_load (bitsK ys) (ys.map (·.1), y) (fun p hp => bitsK_has ys y p hp) hy] at hset
    have c0 : W.cell? ⟨w.heap.size + 2, 31, none⟩ = some (.int .u64 ((rowB (bitsK ys) 31 : Nat) : Int)) := by rw [cell_of_row _ _ _ _ _ _ hRL]; exact rowA_get _ _ (by omega)
    have f0 : W.frozen? ⟨w.heap.size + 2, 31, none⟩ = false := by simp [World.frozen?, hRL]
    have hlt := (Array.getElem?_eq_some_iff.1 hRL).1
    have g9 := Lib.grownBy_setCell W (w.heap.size + 2) 31 (.int .u64 ((numL y : Nat) : Int))
    have hDlt := (Array.getElem?_eq_some_iff.1 hK).1
    have hD2 : w.heap.size + 2 ≠ D := by omega
    have hK2 := (g9.block D hDlt (fun e => by cases e; omega)).trans hK
    have hR2 := (g9.block _ (Array.getElem?_eq_some_iff.1 hRes).1 (fun e => by have := Option.some.inj e; omega)).trans hRes
    have hB2 := hB.setCell (p := ⟨w.heap.size + 2, 31, none⟩) (by show w.heap.size ≤ w.heap.size + 2; omega) (.int .u64 ((numL y : Nat) : Int))
    have HF := Lib.hid (And.intro hset (And.intro hK2 (And.intro hR2 hB2)))
    clear hRL hTb hRes hB hset hK2 hR2 hB2 g9 hK hn
    simp only [Exit.inBlock, Exit.then]
    rename_i hKK
    refine hKK _ _ ?_
    clear hKK
    refine wpIn_wide.2 ?_
    apply wp_seq_k; intro K0 hK0
    have HK0 := Lib.hid hK0; clear hK0
    go_wp2_with fail
    refine (IG.out _).mono ?_
    rintro e W1 ⟨rfl, rfl⟩
    go_wp2_with fail
    refine HK0.out _ _ ?_
    clear HK0 K0
    obtain ⟨hset, hK2, hR2, hB2⟩ := HF.out
    have hW2 : ∃ W2, W2 = W1.setCell ⟨w.heap.size + 2, 31, none⟩ (.int .u64 ((numL y : Nat) : Int)) := ⟨_, rfl⟩
    obtain ⟨W2, hW2⟩ := hW2
    rw [← hW2] at hset hK2 hR2 hB2
    rw [show W1.setCell ⟨w.heap.size + 1 + 1, 31, none⟩ (.int .u64 ((numL y : Nat) : Int)) = W2 from hW2.symm]
    clear hW2
    have LD := run_loadVar_row (P := Try.prog) W2 (w.heap.size + 2) 76 76 (rowA (hasX (ys.map (·.1), y))) (0, 0) _ hset Try.underlying76 rfl (by rw [rowA_size]; exact size_row)
    have hs3 := setRow_heap W2 (w.heap.size + 1) _ (rowA (hasX (ys.map (·.1), y))) 76 (0, 0) hR2
    have hB3 : Below w.heap.size w (W2.setRow (w.heap.size + 1) (rowA (hasX (ys.map (·.1), y)))) := hB2.trans ⟨rfl, rfl, rfl, by rw [setRow_size]; exact Nat.le_refl _, fun k hk => setRow_other _ _ _ _ (by omega)⟩
    have hK3 := (setRow_other W2 (w.heap.size + 1) D (rowA (hasX (ys.map (·.1), y))) (by omega)).trans hK2
    have hone : (rowA (hasX (ys.map (·.1), y))).all (·.oneCell') = true := by unfold rowA; exact all_oneCell_toArray (rowV_one _)
    have hrz := rowA_size (hasX (ys.map (·.1), y))
    have hrz0 := rowA_size (fun _ => false)
    generalize hA2 : rowA (hasX (ys.map (·.1), y)) = A2 at *
    generalize (rowA fun _ => false) = A0 at *
    have HF := Lib.hid (And.intro hK3 (And.intro hs3 hB3))
    clear hK3 hs3 hB3 hK2 hB2
    apply wp_seq_k; intro K0 hK0
    apply wp_region_lit
    refine wpList_load_row rfl 76 (.tmp 3) rfl (w.heap.size + 2) rfl 76 A2 (0, 0) _ hset Try.underlying76 rfl (by rw [hrz]; exact size_row) ?_
    refine wpList_store_rowTo rfl 76 (.tmp 2) (.tmp 26) rfl rfl (w.heap.size + 1) A2 rfl rfl 76 A0 hR2 (by rw [hrz]; exact size_row) (by rw [hrz0, hrz]) hone ?_
    apply wpList_nil
    refine hK0 _ _ ?_
    apply wp_ret
    obtain ⟨hK3, hs3, hB3⟩ := HF.out
    try rw [Exit.noGoto_ret]
    refine ⟨by simp, .inl ⟨_, _, rfl, run_takeDeferred hK3, ?_⟩⟩
    have hR3 := (World.putObj_heap_other (w := W2.setRow (w.heap.size + 1) A2) (r := D) (o := .deferred none) (show w.heap.size + 1 ≠ D by omega)).trans hs3
    have l3 := run_loadVar_row (P := Try.prog) _ (w.heap.size + 1) 76 76 A2 (0, 0) _ hR3 Try.underlying76 rfl (by rw [hrz]; exact size_row)
    refine ⟨.agg A2, ?_, by rw [hA2], hB3.trans (belowK_b (w := w) (Nat.le_refl _) _ D _ _ (by omega) hK3 rfl rfl)⟩
    rw [results_cell (p := 2) (ty := 76) (by kernel_rfl)]
    simp [asAddr, Result.andThen, l3, Act.put]
  case stop =>
    rintro D c pre W _ _ h _
    exact h.elim
end Go.Proofs.Ytcecodjipeahkaa
namespace Go.Proofs.Ytcecodjipeahkaa
open Go.ChangeShapes Go.WideShapes Go.ChangeAt Go.RowKit Go.BigFrame
set_option linter.unusedVariables false

/-- four bytes as an array's value -/
def arr4 (y : ByteArray) : Value := .agg (Lib.byteCells y.data.toList).toArray
theorem four_bytes (y : ByteArray) (h : y.size = 4) : ∃ a b c d : UInt8, y.data.toList = [a, b, c, d] := by
  have hl : y.data.toList.length = 4 := by simpa using h
  match hm : y.data.toList, hl with
  | [a, b, c, d], _ => exact ⟨a, b, c, d, rfl⟩
theorem set_cellsR {w : World} {B j : Nat} {cs : Array Value} {t : TypeId} (u : Value) (h : w.heap[B]? = some (.cells cs t (0, 0))) : (w.setCell ⟨B, j, none⟩ u).heap[B]? = some (.cells (cs.setIfInBounds j u) t (0, 0)) := by
  obtain ⟨hlt, hk⟩ := Array.getElem?_eq_some_iff.1 h
  show (w.heap.modify B _)[B]? = _
  rw [Array.getElem?_eq_getElem (by rw [Array.size_modify]; exact hlt), Array.getElem_modify_self, hk]
  rfl
set_option maxRecDepth 100000 in
theorem iloadbytes_any (y : ByteArray) (w : World) (hy : y.size = 4) : Calls Try.prog 65 #[.string y] w fun e w' => e = .returned (arr4 y) ∧ Below w.heap.size w w' := by
  obtain ⟨a, b, c, d, hd⟩ := four_bytes y hy
  have hsz : (Try.prog.info? 5).map (·.size) = some 1 := by kernel_rfl
  have hW : (((w.alloc (.cells #[.int .u8 0, .int .u8 0, .int .u8 0, .int .u8 0] 95)).alloc (.cells #[.int .u8 0, .int .u8 0, .int .u8 0, .int .u8 0] 95))).heap[w.heap.size + 1]? = some (.cells #[.int .u8 0, .int .u8 0, .int .u8 0, .int .u8 0] 95) := by
    have := heap_alloc_new (w.alloc (.cells #[.int .u8 0, .int .u8 0, .int .u8 0, .int .u8 0] 95)) (.cells #[.int .u8 0, .int .u8 0, .int .u8 0, .int .u8 0] 95)
    simpa using this
  have hB : Below w.heap.size w ((w.alloc (.cells #[.int .u8 0, .int .u8 0, .int .u8 0, .int .u8 0] 95)).alloc (.cells #[.int .u8 0, .int .u8 0, .int .u8 0, .int .u8 0] 95)) := ((Below.refl _ _).alloc (Nat.le_refl _) _).alloc (by simp) _
  have hF : ((w.alloc (.cells #[.int .u8 0, .int .u8 0, .int .u8 0, .int .u8 0] 95)).alloc (.cells #[.int .u8 0, .int .u8 0, .int .u8 0, .int .u8 0] 95)).heap[w.heap.size]? = some (.cells #[.int .u8 0, .int .u8 0, .int .u8 0, .int .u8 0] 95) := heap_first _ _ _
  have hr := fun ty => Lib.run_copy_row_string (P := Try.prog) ((w.alloc (.cells #[.int .u8 0, .int .u8 0, .int .u8 0, .int .u8 0] 95)).alloc (.cells #[.int .u8 0, .int .u8 0, .int .u8 0, .int .u8 0] 95)) 22 9 ty 5 (w.heap.size + 1) 0 4 4 y #[.int .u8 0, .int .u8 0, .int .u8 0, .int .u8 0] 95 Try.underlying22 hsz hW (by omega) (by simp; omega)
  rw [show (List.take 0 (#[Value.int .u8 0, .int .u8 0, .int .u8 0, .int .u8 0] : Array Value).toList ++ Lib.byteCells y.data.toList ++ List.drop (0 + y.size) (#[Value.int .u8 0, .int .u8 0, .int .u8 0, .int .u8 0] : Array Value).toList).toArray = #[.int .u8 a.toNat, .int .u8 b.toNat, .int .u8 c.toNat, .int .u8 d.toNat] by rw [hy, hd]; rfl] at hr
  have hB2 := below_setRow hB (show w.heap.size ≤ w.heap.size + 1 by omega) #[.int .u8 a.toNat, .int .u8 b.toNat, .int .u8 c.toNat, .int .u8 d.toNat]
  have hS := setRow_heap _ (w.heap.size + 1) _ #[.int .u8 a.toNat, .int .u8 b.toNat, .int .u8 c.toNat, .int .u8 d.toNat] 95 (0, 0) hW
  have hF2 : (World.setRow ((w.alloc (.cells #[.int .u8 0, .int .u8 0, .int .u8 0, .int .u8 0] 95)).alloc (.cells #[.int .u8 0, .int .u8 0, .int .u8 0, .int .u8 0] 95)) (w.heap.size + 1) #[.int .u8 a.toNat, .int .u8 b.toNat, .int .u8 c.toNat, .int .u8 d.toNat]).heap[w.heap.size]? = some (.cells #[.int .u8 0, .int .u8 0, .int .u8 0, .int .u8 0] 95) := by
    rw [setRow_other _ _ _ _ (by omega)]; exact hF
  generalize World.setRow ((w.alloc (.cells #[.int .u8 0, .int .u8 0, .int .u8 0, .int .u8 0] 95)).alloc (.cells #[.int .u8 0, .int .u8 0, .int .u8 0, .int .u8 0] 95)) (w.heap.size + 1) #[.int .u8 a.toNat, .int .u8 b.toNat, .int .u8 c.toNat, .int .u8 d.toNat] = W2 at *
  have c0 : W2.cell? ⟨w.heap.size + 1, 0, none⟩ = some (.int .u8 a.toNat) := by rw [cell_of_row _ _ 0 _ _ _ hS]; rfl
  have c1 : W2.cell? ⟨w.heap.size + 1, 1, none⟩ = some (.int .u8 b.toNat) := by rw [cell_of_row _ _ 1 _ _ _ hS]; rfl
  have c2 : W2.cell? ⟨w.heap.size + 1, 2, none⟩ = some (.int .u8 c.toNat) := by rw [cell_of_row _ _ 2 _ _ _ hS]; rfl
  have c3 : W2.cell? ⟨w.heap.size + 1, 3, none⟩ = some (.int .u8 d.toNat) := by rw [cell_of_row _ _ 3 _ _ _ hS]; rfl
  have d0 : W2.cell? ⟨w.heap.size, 0, none⟩ = some (.int .u8 0) := by rw [cell_of_row _ _ 0 _ _ _ hF2]; rfl
  have d1 : W2.cell? ⟨w.heap.size, 1, none⟩ = some (.int .u8 0) := by rw [cell_of_row _ _ 1 _ _ _ hF2]; rfl
  have d2 : W2.cell? ⟨w.heap.size, 2, none⟩ = some (.int .u8 0) := by rw [cell_of_row _ _ 2 _ _ _ hF2]; rfl
  have d3 : W2.cell? ⟨w.heap.size, 3, none⟩ = some (.int .u8 0) := by rw [cell_of_row _ _ 3 _ _ _ hF2]; rfl
  have f0 : W2.frozen? ⟨w.heap.size, 0, none⟩ = false := by simp [World.frozen?, hF2]
  have f1 : W2.frozen? ⟨w.heap.size, 1, none⟩ = false := by simp [World.frozen?, hF2]
  have f2 : W2.frozen? ⟨w.heap.size, 2, none⟩ = false := by simp [World.frozen?, hF2]
  have f3 : W2.frozen? ⟨w.heap.size, 3, none⟩ = false := by simp [World.frozen?, hF2]
  have hfin : ((((W2.setCell ⟨w.heap.size, 0, none⟩ (.int .u8 a.toNat)).setCell ⟨w.heap.size, 1, none⟩ (.int .u8 b.toNat)).setCell ⟨w.heap.size, 2, none⟩ (.int .u8 c.toNat)).setCell ⟨w.heap.size, 3, none⟩ (.int .u8 d.toNat)).heap[w.heap.size]? = some (.cells #[.int .u8 a.toNat, .int .u8 b.toNat, .int .u8 c.toNat, .int .u8 d.toNat] 95) :=
    set_cellsR _ (set_cellsR _ (set_cellsR _ (set_cellsR _ hF2)))
  have hBf := (((hB2.setCell (p := ⟨w.heap.size, 0, none⟩) (Nat.le_refl _) (.int .u8 a.toNat)).setCell (p := ⟨w.heap.size, 1, none⟩) (Nat.le_refl _) (.int .u8 b.toNat)).setCell (p := ⟨w.heap.size, 2, none⟩) (Nat.le_refl _) (.int .u8 c.toNat)).setCell (p := ⟨w.heap.size, 3, none⟩) (Nat.le_refl _) (.int .u8 d.toNat)
  have L2 := run_loadVar_row (P := Try.prog) _ w.heap.size 95 95 #[.int .u8 a.toNat, .int .u8 b.toNat, .int .u8 c.toNat, .int .u8 d.toNat] (0, 0) _ hfin Try.underlying95 rfl (by kernel_rfl)
  have L2 := Lib.hid L2; have HBF := Lib.hid hBf; clear hfin hBf hB2 hB hF hW hF2 hS hsz
  go_enter Try.func65, Try.ntmps65
  go_wp2_with (at_builtin; refine Lib.wpList_copy_run _ rfl (.tmp 4) (.tmp 5) 22 9 rfl _ _ rfl rfl (hr _) ?_)
  refine bodyPost_ret (v := .agg #[.int .u8 a.toNat, .int .u8 b.toNat, .int .u8 c.toNat, .int .u8 d.toNat]) ?_ rfl ⟨by unfold arr4; rw [hd]; rfl, HBF.out⟩
  rw [results_cell (p := 2) (ty := 95) (by kernel_rfl)]
  simp [asAddr, Result.andThen, L2.out]
end Go.Proofs.Ytcecodjipeahkaa
namespace Go.Proofs.Ytcecodjipeahkaa
open Go.ChangeShapes Go.WideShapes Go.ChangeAt Go.RowKit Go.BigFrame
set_option linter.unusedVariables false

theorem arr_sz : ∀ w : World, (sizeOf 5).run Try.prog w = .ok 1 w := by
  obtain ⟨i0, h1, h2⟩ : ∃ i, Try.prog.info? 5 = some i ∧ i.size = 1 := by
    have h : (Try.prog.info? 5).map (·.size) = some 1 := by kernel_rfl
    cases hq : Try.prog.info? 5 with
    | none => rw [hq] at h; simp at h
    | some i => rw [hq] at h; exact ⟨i, rfl, by simpa using h⟩
  intro w
  simp [sizeOf, typeInfo, h1, h2]
theorem arr_eql (x y : ByteArray) (hx : x.size = 4) (hy : y.size = 4) (w : World) : (binOp .eql 95 (arr4 x) (arr4 y)).run Try.prog w = .ok (.bool (x.data.toList == y.data.toList)) w :=
  run_eql_bytes w 95 5 4 Try.underlying95 Try.underlying5 arr_sz _ _ (by simpa using hx) (by simpa using hy)
theorem arr_guard (op : BinOp) (x y : Operand) (a b : ByteArray) (w : World) : (eqGuard op 95 x y (arr4 a) (arr4 b)).run Try.prog w = .ok () w := by
  unfold arr4
  exact run_eqGuard_agg w op 95 x y _ _ (by kernel_rfl)
theorem arr4_lit (y : ByteArray) (h : y.size = 4) : ∃ a b c d : Int, arr4 y = .agg #[.int .u8 a, .int .u8 b, .int .u8 c, .int .u8 d] := by
  obtain ⟨a, b, c, d, hd⟩ := four_bytes y h
  exact ⟨a.toNat, b.toNat, c.toNat, d.toNat, by unfold arr4; rw [hd]; rfl⟩
end Go.Proofs.Ytcecodjipeahkaa
namespace Go.Proofs.Ytcecodjipeahkaa
open Go.ChangeShapes Go.WideShapes Go.ChangeAt Go.RowKit Go.BigFrame
set_option linter.unusedVariables false

def zero4L : List UInt8 := [0, 0, 0, 0]
theorem z4_eq (y : ByteArray) : decide (y = z4) = (y.data.toList == zero4L) := by
  rw [Bool.eq_iff_iff, decide_eq_true_eq, beq_iff_eq]
  constructor
  · rintro rfl; rfl
  · intro h
    have : y = ⟨y.data.toList.toArray⟩ := by simp
    rw [this, h]; rfl
set_option maxRecDepth 100000 in
set_option maxHeartbeats 1000000 in
theorem icodeok_any (v : Value) (ks : List K2) (y : ByteArray) (w : World) (h : keysAt w v ks) (hs : ks.length ≤ 2000000) :
    Calls Try.prog 99 #[.agg #[v, .string y]] w fun e w' => e = .returned (.bool (codeOkB (ks, y))) ∧ Below w.heap.size w w' := by
  have hb := (Below.refl w.heap.size w).alloc (Nat.le_refl _) (.cells #[v, .string y] 27)
  have HB := Lib.hid hb
  have HX := Lib.hid (heap_alloc_new w (.cells #[v, .string y] 27))
  have HK := Lib.hid (ikeysok_any v ks (w.alloc (.cells #[v, .string y] 27)) (keysAt_below h hb) hs)
  obtain ⟨a, cap, rfl, -, -⟩ := h
  unfold codeOkB
  dsimp only
  obtain ⟨x0, x1, -, -⟩ := row2_of HX.out
  clear hb
  go_enter Try.func99, Try.ntmps99
  by_cases h1 : ks.length ≤ 6
  · have i1 : ¬ (6 : Int) < (ks.length : Int) := by omega
    have i2 : (ks.length : Int) ≤ 6 := by omega
    go_wp2_with fail
    generalize w.alloc (.cells #[.slice a ks.length cap, .string y] 27) = W at *
    refine HK.out.mono ?_
    rintro e w1 ⟨rfl, hb1⟩
    have HB1 := Lib.hid (HB.out.trans (hb1.mono HB.out.size))
    clear x0 x1
    obtain ⟨x0, x1⟩ := cd_cells HX.out hb1
    clear hb1 HK HX HB
    cases h2 : keysOkR ks with
    | false =>
      go_wp2
      go_ret
      exact ⟨by simp [h1, h2], HB1.out⟩
    | true =>
      by_cases h3 : y.size = 4
      · have i3 : (y.size : Int) = 4 := by omega
        by_cases h4 : 0 < ks.length
        · have i4 : (0 : Int) < (ks.length : Int) := by omega
          go_wp2
          go_ret
          exact ⟨by simp [h1, h2, h3, h4], HB1.out⟩
        · have i4 : ¬ (0 : Int) < (ks.length : Int) := by omega
          have AE := fun w => arr_eql y z4 h3 rfl w
          have AG := fun op x z w => arr_guard op x z y z4 w
          have HL := Lib.hid (iloadbytes_any y w1 h3)
          obtain ⟨p, q, r, s, hp⟩ := arr4_lit y h3
          rw [hp] at AE AG HL
          rw [show arr4 z4 = .agg #[.int .u8 0, .int .u8 0, .int .u8 0, .int .u8 0] from rfl] at AE AG
          rw [show z4.data.toList = zero4L from rfl, ← z4_eq] at AE
          clear hp
          generalize hbo : decide (y = z4) = bo at *
          go_wp2_with fail
          refine HL.out.mono ?_
          rintro e w2 ⟨rfl, hb2⟩
          have HB2 := Lib.hid (HB1.out.trans (hb2.mono HB1.out.size))
          clear hb2 HL x0 x1 HB1
          go_wp2
          go_ret
          exact ⟨by rw [← hbo]; simp [h1, h2, h3, h4], HB2.out⟩
      · have i3 : ¬ (y.size : Int) = 4 := by omega
        go_wp2
        go_ret
        exact ⟨by simp [h1, h2, h3], HB1.out⟩
  · have i1 : (6 : Int) < (ks.length : Int) := by omega
    have i2 : ¬ (ks.length : Int) ≤ 6 := by omega
    go_wp2
    go_ret
    exact ⟨by simp [h1], HB.out⟩
end Go.Proofs.Ytcecodjipeahkaa
namespace Go.Proofs.Ytcecodjipeahkaa
open Go.ChangeShapes Go.WideShapes Go.ChangeAt Go.RowKit Go.BigFrame
set_option linter.unusedVariables false

/-- rows, as they lie one behind the other -/
def rowsC (R : List W2) : List Value := R.flatMap fun x => rowV (hX x)
theorem rowsC_snoc (R : List W2) (x : W2) : rowsC (R ++ [x]) = rowsC R ++ rowV (hX x) := by simp [rowsC]
theorem rowsC_len : ∀ R : List W2, (rowsC R).length = R.length * 32
  | [] => rfl
  | x :: R => by
    have := rowsC_len R
    simp only [rowsC, List.flatMap_cons, List.length_append, List.length_cons, rowV_len] at *
    omega
theorem rowsC_get : ∀ (R : List W2) (i j : Nat), i < R.length → j < 32 → (rowsC R)[i * 32 + j]? = (rowV (hX (R.getD i zW)))[j]?
  | [], _, _, h, _ => by simp at h
  | x :: R, 0, j, _, hj => by
    simp only [rowsC, List.flatMap_cons, List.getD_cons_zero, Nat.zero_mul, Nat.zero_add]
    rw [List.getElem?_append_left (by rw [rowV_len]; exact hj)]
  | x :: R, i + 1, j, h, hj => by
    have ih := rowsC_get R i j (by simpa using h) hj
    simp only [rowsC, List.flatMap_cons, List.getD_cons_succ] at *
    rw [List.getElem?_append_right (by rw [rowV_len]; omega), rowV_len, show (i + 1) * 32 + j - 32 = i * 32 + j by omega]
    exact ih
def setL : List Value → Nat → List Value → List Value
  | xs, _, [] => xs
  | xs, o, v :: r => setL (xs.set o v) (o + 1) r
theorem setL_cons (x : Value) : ∀ (vs : List Value) (xs : List Value) (o : Nat), setL (x :: xs) (o + 1) vs = x :: setL xs o vs
  | [], _, _ => rfl
  | v :: r, xs, o => by
    show setL ((x :: xs).set (o + 1) v) (o + 1 + 1) r = _
    rw [List.set_cons_succ]
    exact setL_cons x r (xs.set o v) (o + 1)
theorem setL_front : ∀ (a b post : List Value), a.length = b.length → setL (a ++ post) 0 b = b ++ post
  | [], [], _, _ => rfl
  | x :: a, y :: b, post, h => by
    show setL ((x :: (a ++ post)).set 0 y) (0 + 1) b = _
    rw [List.set_cons_zero, setL_cons, setL_front a b post (by simpa using h)]
    rfl
  | [], y :: b, _, h => by simp at h
  | x :: a, [], _, h => by simp at h
theorem setL_mid : ∀ (pre a b post : List Value), a.length = b.length → setL (pre ++ (a ++ post)) pre.length b = pre ++ (b ++ post)
  | [], a, b, post, h => setL_front a b post h
  | x :: pre, a, b, post, h => by
    show setL (x :: (pre ++ (a ++ post))) (pre.length + 1) b = _
    rw [setL_cons, setL_mid pre a b post h]
    rfl
theorem setL_rows : ∀ (R : List W2) (i : Nat) (x : W2), i < R.length → setL (rowsC R) (i * 32) (rowV (hX x)) = rowsC (R.set i x) := by
  intro R i x hi
  have e1 : R = R.take i ++ (R.getD i zW :: R.drop (i + 1)) := by
    rw [List.getD, List.getElem?_eq_getElem hi]
    show R = R.take i ++ (R[i] :: R.drop (i + 1))
    rw [← List.drop_eq_getElem_cons hi, List.take_append_drop]
  have e2 : R.set i x = R.take i ++ (x :: R.drop (i + 1)) := List.set_eq_take_append_cons_drop .. |>.trans (by rw [if_pos hi])
  have hl : (rowsC (R.take i)).length = i * 32 := by rw [rowsC_len, List.length_take, Nat.min_eq_left (by omega)]
  have h1 : rowsC R = rowsC (R.take i) ++ (rowV (hX (R.getD i zW)) ++ rowsC (R.drop (i + 1))) := by
    rw [e1]
    simp only [rowsC, List.flatMap_append, List.flatMap_cons]
    rw [← e1]
  have h2 : rowsC (R.set i x) = rowsC (R.take i) ++ (rowV (hX x) ++ rowsC (R.drop (i + 1))) := by
    rw [e2]
    simp only [rowsC, List.flatMap_append, List.flatMap_cons]
  rw [h1, h2, ← hl]
  exact setL_mid _ _ _ _ (by rw [rowV_len, rowV_len])
theorem own_setCells : ∀ (vs : List Value) (o : Nat) (w : World) {base g cap n : Nat} {e : TypeId} {size : Nat} {xs : List Value}, w.ownsRow base e size (.slice (some ⟨g, 0, none⟩) n cap) n xs →
    (w.setCells g o vs).ownsRow base e size (.slice (some ⟨g, 0, none⟩) n cap) n (setL xs o vs)
  | [], _, _, _, _, _, _, _, _, _, h => h
  | v :: r, o, w, _, _, _, _, _, _, _, h => by
    have h1 := (h.stored o v).1
    exact own_setCells r (o + 1) _ h1
theorem grown_setCells (g : Nat) : ∀ (vs : List Value) (o : Nat) (w : World), w.grownBy (w.setCells g o vs) (some g)
  | [], _, w => World.grownBy.refl _ _
  | v :: r, o, w => grown_trans (Lib.grownBy_setCell w g o v) (grown_setCells g r (o + 1) _)
/-- rows of one's own -/
def rwOwn (W : World) (base : Nat) (v : Value) (R : List W2) : Prop := W.ownsRow base 76 32 v R.length (rowsC R)
theorem rwOwn.range {W : World} {base g cap : Nat} {R : List W2} (h : rwOwn W base (.slice (some ⟨g, 0, none⟩) R.length cap) R) (i : Nat) (hi : i < R.length) : W.rangeAt g (i * 32) (rowV (hX (R.getD i zW))) := by
  intro j v hj
  have hj32 : j < 32 := by have := (List.getElem?_eq_some_iff.1 hj).1; rwa [rowV_len] at this
  rw [World.ownsRow.cellAt h (i * 32 + j) (by omega), rowsC_get R i j hi hj32]
  exact hj
theorem rwOwn.there {W : World} {base g cap : Nat} {R : List W2} (h : rwOwn W base (.slice (some ⟨g, 0, none⟩) R.length cap) R) (i : Nat) (hi : i < R.length) : W.there g (i * 32) 32 := by
  intro j hj
  refine ⟨?_, World.ownsRow.frozenAt h _⟩
  rw [World.ownsRow.cellAt h (i * 32 + j) (by omega), rowsC_get R i j hi hj, rowV_get _ j hj]
  rfl
theorem rwOwn.set {W : World} {base g cap : Nat} {R : List W2} (h : rwOwn W base (.slice (some ⟨g, 0, none⟩) R.length cap) R) (i : Nat) (x : W2) (hi : i < R.length) : rwOwn (W.setCells g (i * 32) (rowV (hX x))) base (.slice (some ⟨g, 0, none⟩) R.length cap) (R.set i x) := by
  have := own_setCells (rowV (hX x)) (i * 32) W h
  rw [setL_rows R i x hi] at this
  unfold rwOwn
  rw [List.length_set]
  exact this
theorem infoRow : (Try.prog.info? 76).map (fun i => (i.zero, i.size, i.bytes)) = some (some (.agg (rowA fun _ => false)), 32, 256) := by
  rw [← rowA_zero]; kernel_rfl
theorem run_append_rw {w : World} {base : Nat} {v : Value} {R : List W2} (hown : rwOwn w base v R) (g : Nat) (x : W2) (hu : w.heap[g]? = some (.cells (rowA (hX x)) 76 (0, 0))) (ty : TypeId) (hn : R.length ≤ 1000) (hbase : base ≤ w.heap.size) :
    ∃ v' w', (Builtin.append_ #[68, 68] ty #[v, .slice (some ⟨g, 0, none⟩) 1 1]).run Try.prog w = .ok v' w' ∧ rwOwn w' base v' (R ++ [x]) ∧ w.grownBy w' v.ownBlock := by
  obtain ⟨i0, hi, hz0, hz1, hz2⟩ := info_parts infoRow
  obtain ⟨v', w', hr, h2, h3, h4, h5⟩ := run_append_own_at (P := Try.prog) w base 68 ty 76 i0 (.agg (rowA fun _ => false)) 32 256 Try.underlying68 hi hz0 hz1 hz2 (by show (rowA fun _ => false).size = 32; exact rowA_size _) (by decide) v R.length (rowsC R) hown ⟨g, 0, none⟩ 1 1 (rowV (hX x)) (by rw [rowV_len])
    (fun j u hj => by
      have hadd : (⟨g, 0, none⟩ : Addr).add j = ⟨g, j, none⟩ := by unfold Addr.add; split <;> simp_all
      rw [hadd, cell_of_row _ _ _ _ _ _ hu]
      unfold rowA
      rw [List.getElem?_toArray]; exact hj) (rowV_one _) (by unfold maxLen; omega) (by omega) hbase
  refine ⟨v', w', hr, ?_, h3⟩
  unfold rwOwn
  rw [List.length_append, rowsC_snoc]
  exact h2
theorem wpList_append_rw {ops : Array Oper} {rest : List Oper} {o : Oper} {a : Act} {w : World} {Q : Exit → Act → World → Prop} (hgd : o.guard = none) (s x : Operand)
    (ho : o.op = .call { callee := .builtin .append, args := #[s, x], argTypes := #[68, 68] })
    {base : Nat} {v : Value} {R : List W2} (hown : rwOwn w base v R) (g : Nat) (u : W2) (hu : w.heap[g]? = some (.cells (rowA (hX u)) 76 (0, 0))) (hs : a.eval s = v) (hx : a.eval x = .slice (some ⟨g, 0, none⟩) 1 1) (hn : R.length ≤ 1000) (hbase : base ≤ w.heap.size)
    (h : ∀ v' w', rwOwn w' base v' (R ++ [u]) → w.grownBy w' v.ownBlock → wpList Try.prog ops Q rest (a.put o.dst v') w') : wpList Try.prog ops Q (o :: rest) a w := by
  refine wpList_plain hgd fun K hK => ?_
  obtain ⟨v', w', hr, h2, h3⟩ := run_append_rw hown g u hu o.type hn hbase
  unfold Oper.wp execOp
  simp only [ho, resolve, invoke, builtin, Sem.run_bind, Sem.run_pure, Result.andThen_ok, List.map_toArray, List.map_cons, List.map_nil, hs, hx, hr]
  exact hK _ _ (h v' w' h2 h3)
theorem fold_row (f : Nat → Bool) : Array.foldl (fun (cs : Array Value) x => cs.setIfInBounds x.snd x.fst) #[Value.int .u64 0, Value.int .u64 0, Value.int .u64 0, Value.int .u64 0, Value.int .u64 0, Value.int .u64 0, Value.int .u64 0, Value.int .u64 0, Value.int .u64 0, Value.int .u64 0, Value.int .u64 0, Value.int .u64 0, Value.int .u64 0, Value.int .u64 0, Value.int .u64 0, Value.int .u64 0, Value.int .u64 0, Value.int .u64 0, Value.int .u64 0, Value.int .u64 0, Value.int .u64 0, Value.int .u64 0, Value.int .u64 0, Value.int .u64 0, Value.int .u64 0, Value.int .u64 0, Value.int .u64 0, Value.int .u64 0, Value.int .u64 0, Value.int .u64 0, Value.int .u64 0, Value.int .u64 0] ((rowA f).zipIdx 0) 0 (rowA f).size = rowA f := by kernel_rfl
end Go.Proofs.Ytcecodjipeahkaa
namespace Go.Proofs.Ytcecodjipeahkaa
open Go.ChangeShapes Go.WideShapes Go.ChangeAt Go.RowKit Go.BigFrame
set_option linter.unusedVariables false

set_option maxRecDepth 100000 in
set_option maxHeartbeats 2000000 in
theorem shaskey_any (v : Value) (ks : List K2) (x : K2) (w : World) (h : keysAt w v ks) (hs : ks.length ≤ 2000000) : Calls Try.prog 83 #[v, kv x] w fun e w' => e = .returned (.bool (hasKeyB ks x)) ∧ Below w.heap.size w w' := by
  obtain ⟨a, cap, rfl, hcap, hcells⟩ := h
  obtain ⟨n, s⟩ := x
  unfold kv
  dsimp only
  have hW : ∀ w' : World, Below (w.heap.size + 1) (w.alloc (.cells #[.int .i64 n, .int .i64 s] 44)) w' → (loadVar 44 ⟨w.heap.size, 0, none⟩).run Try.prog w' = .ok (kv (n, s)) w' := fun w' hb' =>
    key_load (k := (n, s)) (w := w.alloc (.cells #[.int .i64 n, .int .i64 s] 44)) (g := w.heap.size) (o := 0) ⟨by simp, by simp⟩ (by simp) (by simpa using hb')
  have hB0 : Below w.heap.size w (w.alloc (.cells #[.int .i64 n, .int .i64 s] 44)) := (Below.refl _ _).alloc (Nat.le_refl _) _
  have hsz0 : (w.alloc (.cells #[.int .i64 n, .int .i64 s] 44)).heap.size = w.heap.size + 1 := by simp
  have HW := Lib.hid hW; have HB0 := Lib.hid hB0; have HSZ := Lib.hid hsz0; clear hW hB0 hsz0
  go_enter Try.func83, Try.ntmps83
  go_wp2
  generalize w.alloc (.cells #[.int .i64 n, .int .i64 s] 44) = W at *
  go_loopw [5] (fun i wr => ∃ k : Nat, k ≤ ks.length ∧ i = .int .i64 k ∧ (∀ j, j < k → (ks.getD j (0, 0) == (n, s)) = false) ∧ Below W.heap.size W wr) (fun i _ => ks.length - (intOf i).toNat)
  case atStart => exact ⟨0, Nat.zero_le _, rfl, fun j hj => by omega, Below.refl _ _⟩
  case round =>
    obtain ⟨k, hk, rfl, hall, hb⟩ := hrel
    by_cases hlt : k < ks.length
    · obtain ⟨g, off, rfl, hg, hcs⟩ := hcells.resolve_left (by omega)
      have z0 : (0 : Int) ≤ (k : Int) := by omega
      have z1 : (k : Int) < (ks.length : Int) := by omega
      have c1 := hcs k hlt
      have L1 : ∀ w', Below W.heap.size W w' → (loadVar 44 ⟨g, off + k * 2, none⟩).run Try.prog w' = .ok (kv (ks.getD k (0, 0))) w' := fun w' hb' =>
        key_load c1 (w' := w') hg (HB0.out.trans (hb'.mono (by rw [HSZ.out]; omega)))
      have L2 : ∀ w', Below W.heap.size W w' → (loadVar 44 ⟨w.heap.size, 0, none⟩).run Try.prog w' = .ok (kv (n, s)) w' := fun w' hb' => HW.out w' (by rw [← HSZ.out]; exact hb')
      clear hcells hcs c1
      generalize hkx : ks.getD k (0, 0) = kx at *
      obtain ⟨p, q⟩ := kx
      cases he : ((p, q) == (n, s)) with
      | true =>
        have hh : hasKeyB ks (n, s) = true := by
          unfold hasKeyB
          rw [List.any_eq_true]
          refine ⟨ks[k], List.getElem_mem hlt, ?_⟩
          have : ks[k] = (p, q) := by rw [← hkx]; simp [List.getD, hlt]
          rw [this, he]
        have HH := Lib.hid hh
        clear hall hkx hh
        go_wp2
        refine wp_region_below W (by kernel_rfl) (by kernel_rfl) hb ?_
        repeat (first
          | go_big_quiet_skip
          | (go_big_quiet_want
             first
               | (go_big_quiet_op; go_big_quiet_on)
               | (refine q_load 44 _ _ _ rfl rfl L1 ?_; simp only [Act.put, List.setIfInBounds_toArray, List.set_cons_zero, List.set_cons_succ]; go_big_quiet_on)
               | (refine q_load 44 _ _ _ rfl rfl L2 ?_; simp only [Act.put, List.setIfInBounds_toArray, List.set_cons_zero, List.set_cons_succ]; go_big_quiet_on)
               | (refine q_bin _ 44 _ _ _ _ _ _ rfl rfl rfl (fun w => key_guard _ _ _ _ _ w) (fun w => key_eql _ _ w) ?_; simp only [Act.put, List.setIfInBounds_toArray, List.set_cons_zero, List.set_cons_succ]; go_big_quiet_on)
               | (refine q_bin _ 44 _ _ _ _ _ _ rfl rfl rfl (fun w => key_guard _ _ _ _ _ w) (fun w => key_neq _ _ w) ?_; simp only [Act.put, List.setIfInBounds_toArray, List.set_cons_zero, List.set_cons_succ]; go_big_quiet_on)
               | (go_big_quiet_op; refine ⟨_, fun _ _ => rfl, ?_⟩; go_big_quiet_on)
               | (go_big_quiet_op; go_big_quiet_on)))
        refine wpQuiet_nil ?_
        intro w2 hb2
        rw [he]
        clear L1 L2 hb
        go_wp2
        go_ret
        exact ⟨by rw [HH.out]; rfl, HB0.out.trans (hb2.mono (by rw [HSZ.out]; omega))⟩
      | false =>
        have hn : ∀ j, j < k + 1 → (ks.getD j (0, 0) == (n, s)) = false := by
          intro j hj
          rcases (by omega : j < k ∨ j = k) with h1 | rfl
          · exact hall j h1
          · rw [hkx, he]
        have HN := Lib.hid hn
        clear hall hkx hn
        go_wp2
        refine wp_region_below W (by kernel_rfl) (by kernel_rfl) hb ?_
        repeat (first
          | go_big_quiet_skip
          | (go_big_quiet_want
             first
               | (go_big_quiet_op; go_big_quiet_on)
               | (refine q_load 44 _ _ _ rfl rfl L1 ?_; simp only [Act.put, List.setIfInBounds_toArray, List.set_cons_zero, List.set_cons_succ]; go_big_quiet_on)
               | (refine q_load 44 _ _ _ rfl rfl L2 ?_; simp only [Act.put, List.setIfInBounds_toArray, List.set_cons_zero, List.set_cons_succ]; go_big_quiet_on)
               | (refine q_bin _ 44 _ _ _ _ _ _ rfl rfl rfl (fun w => key_guard _ _ _ _ _ w) (fun w => key_eql _ _ w) ?_; simp only [Act.put, List.setIfInBounds_toArray, List.set_cons_zero, List.set_cons_succ]; go_big_quiet_on)
               | (refine q_bin _ 44 _ _ _ _ _ _ rfl rfl rfl (fun w => key_guard _ _ _ _ _ w) (fun w => key_neq _ _ w) ?_; simp only [Act.put, List.setIfInBounds_toArray, List.set_cons_zero, List.set_cons_succ]; go_big_quiet_on)
               | (go_big_quiet_op; refine ⟨_, fun _ _ => rfl, ?_⟩; go_big_quiet_on)
               | (go_big_quiet_op; go_big_quiet_on)))
        refine wpQuiet_nil ?_
        intro w2 hb2
        rw [he]
        clear L1 L2 hb
        go_wp2
        exact ⟨⟨k + 1, by omega, by go_num, HN.out, hb2⟩, by simp [intOf]; omega⟩
    · obtain rfl : k = ks.length := by omega
      have hh : hasKeyB ks (n, s) = false := by
        unfold hasKeyB
        rw [List.any_eq_false]
        intro x hx
        obtain ⟨i, hi, rfl⟩ := List.getElem_of_mem hx
        have := hall i hi
        simp only [List.getD, List.getElem?_eq_getElem hi, Option.getD_some] at this
        simp [this]
      have HH := Lib.hid hh
      clear hall hh
      go_wp2
      go_ret
      exact ⟨by rw [HH.out]; rfl, HB0.out.trans (hb.mono (by rw [HSZ.out]; omega))⟩
end Go.Proofs.Ytcecodjipeahkaa
namespace Go.Proofs.Ytcecodjipeahkaa
open Go.ChangeShapes Go.WideShapes Go.ChangeAt Go.RowKit Go.BigFrame
set_option linter.unusedVariables false

/-- what a word's slice leads to in a later world, but in the same blocks -/
theorem keysAv.also {w w' : World} {b : Option Nat} {v : Value} {ks : List K2} (h : keysAv w b v ks) (h2 : keysAt w' v ks) : keysAv w' b v ks := by
  obtain ⟨a, cap, e1, e2, e3⟩ := h
  obtain ⟨a', cap', f1, f2, f3⟩ := h2
  refine ⟨a', cap', f1, f2, ?_⟩
  rw [e1] at f1
  cases f1
  rcases e3 with e3 | ⟨g, off, rfl, g1, g2, g3⟩
  · exact .inl e3
  · rcases f3 with f3 | ⟨g', off', e, j1, j3⟩
    · exact .inl f3
    · cases e
      exact .inr ⟨g, off, rfl, j1, g2, j3⟩
theorem hasKey_mem (ks : List K2) (k : K2) : hasKeyB ks k = decide (k ∈ ks) := by
  unfold hasKeyB
  rw [Bool.eq_iff_iff, decide_eq_true_eq, List.any_eq_true]
  constructor
  · rintro ⟨x, h1, h2⟩; rw [← eq_of_beq h2]; exact h1
  · intro h; exact ⟨k, h, beq_self_eq_true k⟩
theorem getD_W (Bs : List W2) (k : Nat) (hk : k < Bs.length) : (Bs.map (·.1)).getD k blankC = (Bs.getD k grpW.zero).1 := by
  simp [List.getD, hk]
theorem less_take (Bs : List W2) (x : W2) (k : Nat) (hk : k < Bs.length) : lessG ordW.toPla (Bs.take (k + 1)) x = lessS ordW.toPla (lessG ordW.toPla (Bs.take k) x) (Bs.getD k grpW.zero) := by
  have e : Bs.take (k + 1) = Bs.take k ++ [Bs.getD k grpW.zero] := by
    rw [List.take_succ_eq_append_getElem hk, List.getD, List.getElem?_eq_getElem hk]; rfl
  rw [e]
  unfold lessG
  rw [List.foldl_append]; rfl
/-- a word on its way, in its box -/
structure LsC (w W : World) (v0 : Value) (k0 : List K2) (vX : Value) (X : C2) : Prop where
  below : Below w.heap.size w W
  box : W.heap[w.heap.size]? = some (.cells #[vX, .string X.2] 27)
  res : W.heap[w.heap.size + 1]? = some (.cells #[.slice none 0 0, .string ⟨#[]⟩] 27)
  ka : keysAv W (some w.heap.size) vX X.1
  kb : keysAv W (some (w.heap.size + 1)) vX X.1
  kc : ∀ b, b < w.heap.size → keysAv w (some b) v0 k0 → keysAv W (some b) vX X.1
theorem LsC.next {w W W' : World} {v0 : Value} {k0 : List K2} {vX : Value} {X : C2} (h : LsC w W v0 k0 vX X) (hb : Below W.heap.size W W') : LsC w W' v0 k0 vX X :=
  ⟨h.below.trans (hb.mono h.below.size), (hb.block _ (Array.getElem?_eq_some_iff.1 h.box).1).trans h.box, (hb.block _ (Array.getElem?_eq_some_iff.1 h.res).1).trans h.res, h.ka.below hb, h.kb.below hb, fun b h1 h2 => (h.kc b h1 h2).below hb⟩
theorem LsC.start (w : World) (v : Value) (ks : List K2) (y : ByteArray) (h : keysAt w v ks) :
    LsC w ((w.alloc (.cells #[v, .string y] 27)).alloc (.cells #[.slice none 0 0, .string ⟨#[]⟩] 27)) v ks v (ks, y) := by
  have hp := cpc_new w v y
  have e1 : (w.alloc (.cells #[v, .string y] 27)).heap.size = w.heap.size + 1 := by simp
  exact ⟨hp.below, hp.row, hp.res, (keysAv_of h (fun g hg e => by cases e; omega)).below hp.below, (keysAv_of h (fun g hg e => by cases e; omega)).below hp.below, fun b h1 h2 => h2.below hp.below⟩
theorem LsC.sets {w W : World} {v0 : Value} {k0 : List K2} {vX : Value} {X : C2} (h : LsC w W v0 k0 vX X) {base : Nat} {v : Value} {ks : List K2} (y : ByteArray) (ho : W.ownsRow base 44 2 v ks.length (keyCells ks)) (hb : w.heap.size + 2 ≤ base) :
    LsC w ((W.setCell ⟨w.heap.size, 0, none⟩ v).setCell ⟨w.heap.size, 1, none⟩ (.string y)) v0 k0 v (ks, y) := by
  have hg := grown2 W w.heap.size v (.string y)
  have h1 := (keysAv_own ho (show w.heap.size < base by omega)).grown hg
  refine ⟨below2 h.below (Nat.le_refl _) v (.string y), set2 v (.string y) h.box, row_set2 h.res (by omega) v (.string y), h1, (keysAv_own ho (show w.heap.size + 1 < base by omega)).also h1.to, fun b hb2 _ => (keysAv_own ho (show b < base by omega)).also h1.to⟩
structure LsF (w W : World) (v0 : Value) (k0 : List K2) (v : Value) (X : C2) : Prop where
  c0 : W.cell? ⟨w.heap.size, 0, none⟩ = some v
  c1 : W.cell? ⟨w.heap.size, 1, none⟩ = some (.string X.2)
  d0 : W.cell? ⟨w.heap.size + 1, 0, none⟩ = some (.slice none 0 0)
  d1 : W.cell? ⟨w.heap.size + 1, 1, none⟩ = some (.string ⟨#[]⟩)
  g0 : W.frozen? ⟨w.heap.size + 1, 0, none⟩ = false
  g1 : W.frozen? ⟨w.heap.size + 1, 1, none⟩ = false
  load : (loadVar 27 ⟨w.heap.size + 1, 0, none⟩).run Try.prog ((W.setCell ⟨w.heap.size + 1, 0, none⟩ v).setCell ⟨w.heap.size + 1, 1, none⟩ (.string X.2)) = .ok (.agg #[v, .string X.2]) ((W.setCell ⟨w.heap.size + 1, 0, none⟩ v).setCell ⟨w.heap.size + 1, 1, none⟩ (.string X.2))
  fin : keysAt ((W.setCell ⟨w.heap.size + 1, 0, none⟩ v).setCell ⟨w.heap.size + 1, 1, none⟩ (.string X.2)) v X.1 ∧ (∀ b, b < w.heap.size → keysAv w (some b) v0 k0 → keysAv ((W.setCell ⟨w.heap.size + 1, 0, none⟩ v).setCell ⟨w.heap.size + 1, 1, none⟩ (.string X.2)) (some b) v X.1) ∧ Below w.heap.size w ((W.setCell ⟨w.heap.size + 1, 0, none⟩ v).setCell ⟨w.heap.size + 1, 1, none⟩ (.string X.2))
theorem LsC.fin {w W : World} {v0 : Value} {k0 : List K2} {vX : Value} {X : C2} (h : LsC w W v0 k0 vX X) : LsF w W v0 k0 vX X := by
  obtain ⟨c0, c1, -, -⟩ := row2_of h.box
  obtain ⟨d0, d1, g0, g1⟩ := row2_of h.res
  have h1 := h.kb.grown (grown2 W (w.heap.size + 1) vX (.string X.2))
  exact ⟨c0, c1, d0, d1, g0, g1, cd_res h.res vX X.2, h1.to, fun b hb hv => (h.kc b hb hv).also h1.to, below2 h.below (by omega) vX (.string X.2)⟩
set_option maxRecDepth 100000 in
set_option maxHeartbeats 3000000 in
theorem sless_any (vb : Value) (Bs : List W2) (v : Value) (x : W2) (bb : Option Nat) (w : World) (hb : cdAv w bb vb (Bs.map (·.1))) (hne : ∀ b ∈ Bs, b.1.1 ≠ []) (hlen : Bs.length ≤ 1000000) (h : keysAt w v x.1.1) :
    Calls Try.prog 52 #[vb, .agg #[v, .string x.1.2]] w fun e w' => ∃ v', e = .returned (.agg #[v', .string (lessG ordW.toPla Bs x).1.2]) ∧ keysAt w' v' (lessG ordW.toPla Bs x).1.1 ∧
      (∀ b, b < w.heap.size → keysAv w (some b) v x.1.1 → keysAv w' (some b) v' (lessG ordW.toPla Bs x).1.1) ∧ Below w.heap.size w w' := by
  have HP := Lib.hid (LsC.start w v x.1.1 x.1.2 h)
  obtain ⟨ab, capb, rfl, hcapb, hcells⟩ := hb
  rw [List.length_map] at hcapb hcells ⊢
  obtain ⟨ax, capx, rfl, -, -⟩ := h
  go_enter Try.func52, Try.ntmps52
  go_wp2_with fail
  generalize (w.alloc (.cells #[.slice ax x.1.1.length capx, .string x.1.2] 27)).alloc (.cells #[.slice none 0 0, .string ⟨#[]⟩] 27) = W at *
  go_loopw [5] (fun i wr => ∃ (k : Nat) (vX : Value) (X : W2), k ≤ Bs.length ∧ i = .int .i64 k ∧ X = lessG ordW.toPla (Bs.take k) x ∧ LsC w wr (.slice ax x.1.1.length capx) x.1.1 vX X.1) (fun i _ => Bs.length - (intOf i).toNat)
  case atStart => exact ⟨0, _, x, Nat.zero_le _, rfl, rfl, HP.out⟩
  case round =>
    obtain ⟨k, vX, X, hk, rfl, hX, hO⟩ := hrel
    have HO := Lib.hid hO
    have HXE := Lib.hid hX
    clear hO HP hX
    by_cases hlt : k < Bs.length
    · obtain ⟨g, off, rfl, hg, hcs⟩ := hcells.resolve_left (by omega)
      have z0 : (0 : Int) ≤ (k : Int) := by omega
      have z1 : (k : Int) < (Bs.length : Int) := by omega
      obtain ⟨u, c1, c2, c3⟩ := hcs k hlt
      have hbn := hne (Bs.getD k grpW.zero) (by rw [List.getD, List.getElem?_eq_getElem hlt]; exact List.getElem_mem hlt)
      have hst := less_take Bs x k hlt
      rw [getD_W Bs k hlt] at c2 c3
      rw [← HXE.out] at hst
      generalize Bs.getD k grpW.zero = B at *
      have HST := Lib.hid hst
      clear hcells hcs hst HXE
      obtain ⟨au, cu, rfl, hcu, hku⟩ := c3.to
      have hbl : B.1.1.length ≠ 0 := fun e => hbn (List.length_eq_zero_iff.1 e)
      obtain ⟨gu, ou, rfl, hgu, hkc⟩ := hku.resolve_left hbl
      have hk0 := hkc 0 (by omega)
      simp only [Nat.zero_mul, Nat.add_zero] at hk0
      have y0 : (0 : Int) < (B.1.1.length : Int) := by omega
      have hpiv : B.1.1.getD 0 (0, 0) = ordW.piv B := by
        show B.1.1.getD 0 (0, 0) = B.1.1.headD (0, 0)
        cases hB : B.1.1 with
        | nil => exact absurd hB hbn
        | cons a l => rfl
      rw [hpiv] at hk0
      rename_i wr
      have hB := HO.out.below
      have L1 : ∀ w', Below wr.heap.size wr w' → (loadVar 25 ⟨w.heap.size, 0, none⟩).run Try.prog w' = .ok vX w' := fun w' hw => cd_loadk HO.out.box hw
      have L2 : ∀ w', Below wr.heap.size wr w' → (loadVar 25 ⟨g, off + k * 2, none⟩).run Try.prog w' = .ok (.slice (some ⟨gu, ou, none⟩) B.1.1.length cu) w' := fun w' hw => load_one agg_keys ((hw.cell (p := ⟨g, off + k * 2, none⟩) (Nat.lt_of_lt_of_le hg hB.size)).trans ((hB.cell (p := ⟨g, off + k * 2, none⟩) hg).trans c1))
      have hk1 : wr.cell? ⟨gu, ou, none⟩ = some (.int .i64 (ordW.piv B).1) ∧ wr.cell? ⟨gu, ou + 1, none⟩ = some (.int .i64 (ordW.piv B).2) := ⟨(hB.cell (p := ⟨gu, ou, none⟩) hgu).trans hk0.1, (hB.cell (p := ⟨gu, ou + 1, none⟩) hgu).trans hk0.2⟩
      have L3 : ∀ w', Below wr.heap.size wr w' → (loadVar 44 ⟨gu, ou, none⟩).run Try.prog w' = .ok (kv (ordW.piv B)) w' := fun w' hw => key_load hk1 (Nat.lt_of_lt_of_le hgu hB.size) hw
      have HK := Lib.hid (fun w' (hw : Below wr.heap.size wr w') => shaskey_any vX X.1.1 (ordW.piv B) w' (keysAt_below HO.out.ka.to hw) (by have := keys_few X.2.1; omega))
      have hhk : hasKeyB X.1.1 (ordW.piv B) = ordW.has X (ordW.piv B) := hasKey_mem _ _
      rw [hhk] at HK
      have d1 := (hB.cell (p := ⟨g, off + k * 2, none⟩) hg).trans c1
      have d2 := (hB.cell (p := ⟨g, off + k * 2 + 1, none⟩) hg).trans c2
      have HC3 := Lib.hid (keysAt_below c3.to hB)
      have HD := Lib.hid (And.intro d1 d2)
      clear hhk hk0 hk1 hkc hku hpiv c1 c2 c3 hbn d1 d2 hB
      have hS : lessS ordW.toPla X B = if ordW.has X (ordW.piv B) = true then grpW.add X B else X := rfl
      have HS := Lib.hid hS
      clear hS
      generalize ordW.piv B = kp at *
      obtain ⟨kp1, kp2⟩ := kp
      unfold kv at L3 HK
      dsimp only at L3 HK
      generalize hhas : ordW.has X (kp1, kp2) = hs at *
      go_wp2_with fail
      refine wp_region_below wr (by kernel_rfl) (by kernel_rfl) (Below.refl _ _) ?_
      repeat (first
        | go_big_quiet_skip
        | (go_big_quiet_want
           first
             | (go_big_quiet_op; go_big_quiet_on)
             | (refine q_load 25 _ _ _ rfl rfl L1 ?_; simp only [Act.put, List.setIfInBounds_toArray, List.set_cons_zero, List.set_cons_succ]; go_big_quiet_on)
             | (refine q_load 25 _ _ _ rfl rfl L2 ?_; simp only [Act.put, List.setIfInBounds_toArray, List.set_cons_zero, List.set_cons_succ]; go_big_quiet_on)
             | (refine q_load 44 _ _ _ rfl rfl L3 ?_; simp only [Act.put, List.setIfInBounds_toArray, List.set_cons_zero, List.set_cons_succ]; go_big_quiet_on)
             | (go_big_quiet_op; refine ⟨_, fun _ _ => rfl, ?_⟩; go_big_quiet_on)
             | (go_big_quiet_op; apply Exists.intro; refine ⟨fun w' hw' => ?_, ?_⟩
                · first
                  | (with_reducible refine (HK.out w' hw').mono ?_
                     rintro e w2 ⟨rfl, hb2⟩
                     exact ⟨rfl, hw'.trans (hb2.mono hw'.size)⟩)
                go_big_quiet_on)))
      refine wpQuiet_nil ?_
      intro w2 hb2
      clear L1 L2 L3 HK
      have HO2 := Lib.hid (HO.out.next hb2)
      have HC4 := Lib.hid (keysAt_below HC3.out hb2)
      have HD2 := Lib.hid (And.intro ((hb2.cell (p := ⟨g, off + k * 2, none⟩) (World.block_lt_of_cell? _ _ HD.out.1)).trans HD.out.1) ((hb2.cell (p := ⟨g, off + k * 2 + 1, none⟩) (World.block_lt_of_cell? _ _ HD.out.2)).trans HD.out.2))
      clear hb2 HO HC3 HD
      cases hs with
      | false =>
        go_wp2_with fail
        exact ⟨⟨k + 1, vX, X, by omega, by go_num, by rw [HST.out, HS.out]; rfl, HO2.out⟩, by simp [intOf]; omega⟩
      | true =>
        have SA := Lib.hid (fun w' (hw : Below w2.heap.size w2 w') => sadd_any vX X.1.1 X.1.2 (.slice (some ⟨gu, ou, none⟩) B.1.1.length cu) B.1.1 B.1.2 w' (keysAt_below HO2.out.ka.to hw) (keysAt_below HC4.out hw) X.2 B.2)
        obtain ⟨b0, b1, bf0, bf1⟩ := row2_of HO2.out.box
        have hl5 := (Array.getElem?_eq_some_iff.1 HO2.out.box).1
        have hd2 := HD2.out
        obtain ⟨d1, d2⟩ := hd2
        obtain ⟨avx, cvx, rfl, -, -⟩ := HO2.out.ka
        clear HC4 HD2
        go_wp2_with fail
        go_region_law (first
          | (go_simp
             go_at_call 41
             refine (SA.out _ (by first | exact Below.refl _ _ | exact (Below.refl _ _).drew)).mono ?_
             rintro e w5 ⟨v5, rfl, ho5, hb5⟩
             dsimp only
             obtain ⟨a5, n5, k5, rfl⟩ := own_shape ho5
             have HO5 := Lib.hid (LsC.next (LsC.next HO2.out (by first | exact Below.refl _ _ | exact (Below.refl _ _).drew)) hb5)
             obtain ⟨e0, e1, ef0, ef1⟩ := row2_of HO5.out.box
             have HW := Lib.hid (own_base ho5 (show w.heap.size + 2 ≤ _ by have := (Array.getElem?_eq_some_iff.1 HO2.out.res).1; first | exact this | (show w.heap.size + 2 ≤ w2.heap.size; omega)))
             have hl6 := (Array.getElem?_eq_some_iff.1 HO5.out.box).1
             clear hb5 ho5 b0 b1 bf0 bf1 d1 d2 SA HO2 hl5))
        all_goals
          have HO7 := Lib.hid (HO5.out.sets (addC (X.1.1, X.1.2) (B.1.1, B.1.2)).2 HW.out (Nat.le_refl _))
          clear HO5 HW
          go_wp2
          exact ⟨⟨k + 1, .slice a5 n5 k5, grpW.add X B, by omega, by go_num, by rw [HST.out, HS.out]; rfl, HO7.out⟩, by simp [intOf]; omega⟩
    · obtain rfl : k = Bs.length := by omega
      clear hcells hne
      obtain ⟨avx, cvx, rfl, -, -⟩ := HO.out.ka
      have HF := Lib.hid HO.out.fin
      have hF := HF.out
      obtain ⟨c0, c1, d0, d1, g0, g1, -, -⟩ := hF
      have hl5 := (Array.getElem?_eq_some_iff.1 HO.out.box).1
      have hlr := (Array.getElem?_eq_some_iff.1 HO.out.res).1
      have hXE := HXE.out
      rw [List.take_length] at hXE
      subst hXE
      go_wp2_with fail
      refine bodyPost_ret (v := .agg #[.slice avx (lessG ordW.toPla Bs x).1.1.length cvx, .string (lessG ordW.toPla Bs x).1.2]) ?_ rfl ⟨_, rfl, HF.out.fin.1, HF.out.fin.2.1, HF.out.fin.2.2⟩
      rw [results_cell (p := 4) (ty := 27) (by kernel_rfl)]
      have l2 := HF.out.load
      simp [asAddr, Result.andThen, l2]
end Go.Proofs.Ytcecodjipeahkaa
namespace Go.Proofs.Ytcecodjipeahkaa
open Go.ChangeShapes Go.WideShapes Go.ChangeAt Go.RowKit Go.BigFrame
set_option linter.unusedVariables false

attribute [local irreducible] rowA
set_option maxRecDepth 100000 in
set_option maxHeartbeats 2000000 in
theorem ieq_any (vl : Value) (L : List C2) (w : World) (h : cdAv w none vl L) (hl : L.length ≤ 1900000) (hks : ∀ x ∈ L, x.1.length ≤ 2000000) :
    Calls Try.prog 77 #[vl] w fun e w' => ∃ v, e = .returned v ∧ rwOwn w' w.heap.size v (rowsN L L.length) ∧ Below w.heap.size w w' := by
  have h0 : rwOwn w w.heap.size (.slice none 0 0) [] := World.ownsRow_nil _ _ _ _
  have H0 := Lib.hid h0
  clear h0
  obtain ⟨al, cl, rfl, hcl, hcells⟩ := h
  go_enter Try.func77, Try.ntmps77
  go_wp2_with fail
  go_loopw [3, 8] (fun v i wr => ∃ (k : Nat) (a : Option Addr) (c : Nat), k ≤ L.length ∧ i = .int .i64 k ∧ v = .slice a (rowsN L k).length c ∧ rwOwn wr w.heap.size v (rowsN L k) ∧ Below w.heap.size w wr) (fun _ i _ => L.length - (intOf i).toNat)
  case atStart => exact ⟨0, none, 0, Nat.zero_le _, rfl, rfl, H0.out, Below.refl _ _⟩
  case round =>
    obtain ⟨k, a, c, hk, rfl, rfl, ho, hB⟩ := hrel
    have HO := Lib.hid ho
    have HB := Lib.hid hB
    have hml := (rowsN_le L k).1
    clear ho hB H0
    rename_i wr
    by_cases hlt : k < L.length
    · obtain ⟨gl, off, rfl, hg, hcs⟩ := hcells.resolve_left (by omega)
      have z0 : (0 : Int) ≤ (k : Int) := by omega
      have z1 : (k : Int) < (L.length : Int) := by omega
      obtain ⟨u, c1, c2, c3⟩ := hcs k hlt
      have hxl := hks (L.getD k blankC) (by rw [List.getD, List.getElem?_eq_getElem hlt]; exact List.getElem_mem hlt)
      have hyes := fun hck => rowsN_yes (l := L) (i := k) hck
      have hno := fun hck => rowsN_no (l := L) (i := k) hck
      generalize L.getD k blankC = x at *
      have d1 := (HB.out.cell (p := ⟨gl, off + k * 2, none⟩) hg).trans c1
      have d2 := (HB.out.cell (p := ⟨gl, off + k * 2 + 1, none⟩) hg).trans c2
      have hx0 := keysAt_below c3.to HB.out
      obtain ⟨au, cu, rfl, -, -⟩ := c3
      have hbA := (Below.refl wr.heap.size wr).alloc (Nat.le_refl _) (.cells #[.slice au x.1.length cu, .string x.2] 27)
      have HX := Lib.hid (heap_alloc_new wr (.cells #[.slice au x.1.length cu, .string x.2] 27))
      have HK := Lib.hid (keysAt_below hx0 hbA)
      have HBA := Lib.hid (HB.out.trans (hbA.mono HB.out.size))
      have HOA := Lib.hid (show rwOwn _ _ _ _ from own_below HO.out hbA)
      clear hcells hcs c1 c2 hks hx0 hbA
      by_cases hm : (rowsN L k).length = 20
      · have m1 : ((rowsN L k).length : Int) = 20 := by omega
        have hf := rowsN_full (l := L) (i := k) hm (L.length - k)
        rw [show k + (L.length - k) = L.length by omega] at hf
        have HF := Lib.hid hf
        clear hf hyes hno hm
        go_wp2_with fail
        go_ret
        exact ⟨_, rfl, by rw [HF.out]; exact HOA.out, HBA.out⟩
      · have m1 : ¬ ((rowsN L k).length : Int) = 20 := by omega
        go_wp2_with fail
        generalize wr.alloc (.cells #[.slice au x.1.length cu, .string x.2] 27) = W at *
        obtain ⟨x0, x1, -, -⟩ := row2_of HX.out
        go_wp2_with fail
        refine (icodeok_any _ x.1 x.2 W HK.out hxl).mono ?_
        rintro e w1 ⟨rfl, hb1⟩
        have HX1 := Lib.hid ((hb1.block _ (Array.getElem?_eq_some_iff.1 HX.out).1).trans HX.out)
        have HK1 := Lib.hid (keysAt_below HK.out hb1)
        have HB1 := Lib.hid (HBA.out.trans (hb1.mono HBA.out.size))
        have HO1 := Lib.hid (show rwOwn _ _ _ _ from own_below HOA.out hb1)
        clear hb1 HX HK HBA HOA x0 x1
        cases hck : codeOkB (x.1, x.2) with
        | false =>
          have HN := Lib.hid (hno hck)
          clear hyes hno hck
          go_wp2_with fail
          exact ⟨⟨k + 1, a, c, by omega, by go_num, by rw [HN.out], by rw [HN.out]; exact HO1.out, HB1.out⟩, by simp [intOf]; omega⟩
        | true =>
          have HY := Lib.hid (hyes hck (by omega))
          have hw := ok_w hck
          generalize hxw : (⟨x, hw⟩ : W2) = xw at *
          have hx1 : x = xw.1 := by rw [← hxw]
          subst hx1
          have IR := Lib.hid (fun w' (hb : Below w1.heap.size w1 w') => irow_any (.slice au xw.1.1.length cu) xw.1.1 xw.1.2 w' (keysAt_below HK1.out hb) xw.2.1 xw.2.2)
          obtain ⟨x0, x1, -, -⟩ := row2_of HX1.out
          clear hyes hno hck HK1 hxw hw
          go_wp2_with fail
          refine (IR.out _ (Below.refl _ _)).mono ?_
          rintro e w2 ⟨rfl, hb2⟩
          have HB2 := Lib.hid (HB1.out.trans (hb2.mono HB1.out.size))
          have HO2 := Lib.hid (show rwOwn _ _ _ _ from own_below HO1.out hb2)
          clear hb2 HX1 HB1 HO1 x0 x1 IR
          rw [show hasX (xw.1.1, xw.1.2) = hX xw from rfl]
          have hbA := (Below.refl w2.heap.size w2).alloc (Nat.le_refl _) (.cells (rowA (hX xw)) 76)
          have HA := Lib.hid (heap_alloc_new w2 (.cells (rowA (hX xw)) 76))
          have HB3 := Lib.hid (HB2.out.trans (hbA.mono HB2.out.size))
          have HO3 := Lib.hid (show rwOwn _ _ _ _ from own_below HO2.out hbA)
          have hsz := HB3.out.size
          have hfold := fold_row (hX xw)
          have hrs := rowA_size (hX xw)
          have hfold2 := hfold
          rw [hrs] at hfold2
          clear hbA HB2 HO2
          go_wp2_with (at_builtin; refine wpList_append_rw rfl (.tmp 17) (.tmp 20) rfl HO3.out w2.heap.size xw HA.out rfl rfl (by omega) hsz ?_; intro v5 w5 hown5 hgr5)
          have hB5 := HB3.out.grown hgr5 hsz (fun j e => (HO3.out.lt j e).1)
          rcases ownsRowK_shape hown5 with ⟨-, hz⟩ | ⟨g3, c3, rfl, -⟩
          · simp at hz
          · exact ⟨⟨k + 1, some ⟨g3, 0, none⟩, c3, by omega, by go_num, by rw [HY.out], by rw [HY.out]; exact hown5, hB5⟩, by simp [intOf]; omega⟩
    · obtain rfl : k = L.length := by omega
      clear hcells hks
      go_wp2_with fail
      go_ret
      exact ⟨_, rfl, HO.out, HB.out⟩
end Go.Proofs.Ytcecodjipeahkaa
namespace Go.Proofs.Ytcecodjipeahkaa
open Go.ChangeShapes Go.WideShapes Go.ChangeAt Go.RowKit Go.BigFrame
set_option linter.unusedVariables false

theorem wpStill_load {P : Program} {ops : Array Oper} {w : World} {Q : Act → Prop} {a : Act} {o : Oper} {rest : List Oper} (ty : TypeId) (x : Operand) (p : Addr) (v : Value) (hw : Region.wanted o (yielded ops a.tmps) = true) (ho : o.op = .load ty x)
    (hx : a.eval x = .pointer (some p)) (hl : (loadVar ty p).run P w = .ok v w) (h : wpStill P ops w Q rest (a.put o.dst v)) : wpStill P ops w Q (o :: rest) a := by
  refine wpStill_step fun K hK => ?_
  rw [if_pos hw]
  unfold Oper.still execOp
  simp only [ho, hx, Instr.loadAt, Instr.sureAddr, Sem.run_bind, Sem.run_pure, Result.andThen_ok, hl]
  rw [Oper.stillUpon_value]
  exact hK _ h
def pivC (P : List Nat) : List Value := P.map fun (p : Nat) => Value.int .i64 (p : Int)
theorem pivC_snoc (P : List Nat) (p : Nat) : pivC (P ++ [p]) = pivC P ++ [.int .i64 (p : Int)] := by simp [pivC]
theorem pivC_get (P : List Nat) (i : Nat) (hi : i < P.length) : (pivC P)[i]? = some (.int .i64 ((P.getD i 0 : Nat) : Int)) := by simp [pivC, hi]
theorem infoI : (Try.prog.info? 3).map (fun i => (i.zero, i.size, i.bytes)) = some (some (.int .i64 0), 1, 8) := by kernel_rfl
theorem wpList_append_piv {ops : Array Oper} {rest : List Oper} {o : Oper} {a : Act} {w : World} {Q : Exit → Act → World → Prop} (hgd : o.guard = none) (s x : Operand)
    (ho : o.op = .call { callee := .builtin .append, args := #[s, x], argTypes := #[69, 69] })
    {base : Nat} {v : Value} {P : List Nat} (hown : w.ownsRow base 3 1 v P.length (pivC P)) (g : Nat) (p : Nat) (hu : w.heap[g]? = some (.cells #[.int .i64 (p : Int)] 3 (0, 0))) (hs : a.eval s = v) (hx : a.eval x = .slice (some ⟨g, 0, none⟩) 1 1) (hn : P.length ≤ 100000) (hbase : base ≤ w.heap.size)
    (h : ∀ v' w', w'.ownsRow base 3 1 v' (P ++ [p]).length (pivC (P ++ [p])) → w.grownBy w' v.ownBlock → (v'.ownBlock = v.ownBlock ∨ v'.ownBlock = some w.heap.size) → wpList Try.prog ops Q rest (a.put o.dst v') w') : wpList Try.prog ops Q (o :: rest) a w := by
  refine wpList_plain hgd fun K hK => ?_
  obtain ⟨i0, hi, hz0, hz1, hz2⟩ := info_parts infoI
  obtain ⟨v', w', hr, h2, h3, h4, h5⟩ := run_append_own_at (P := Try.prog) w base 69 o.type 3 i0 (.int .i64 0) 1 8 Try.underlying69 hi hz0 hz1 hz2 rfl (by decide) v P.length (pivC P) hown ⟨g, 0, none⟩ 1 1 [.int .i64 (p : Int)] rfl
    (fun j u hj => by
      have hadd : (⟨g, 0, none⟩ : Addr).add j = ⟨g, j, none⟩ := by unfold Addr.add; split <;> simp_all
      rw [hadd, cell_of_row _ _ _ _ _ _ hu]
      simpa using hj) (fun u hu => by rcases List.mem_singleton.1 hu with rfl; rfl) (by unfold maxLen; omega) (by omega) hbase
  unfold Oper.wp execOp
  simp only [ho, resolve, invoke, builtin, Sem.run_bind, Sem.run_pure, Result.andThen_ok, List.map_toArray, List.map_cons, List.map_nil, hs, hx, hr]
  refine hK _ _ (h v' w' ?_ h3 h5)
  rw [List.length_append, pivC_snoc]
  exact h2
theorem Alike.setCells {w w' : World} (h : Alike w w') (g : Nat) : ∀ (vs : List Value) (o : Nat), Alike (w.setCells g o vs) (w'.setCells g o vs) := by
  intro vs
  induction vs generalizing w w' with
  | nil => intro o; exact h
  | cons v r ih => intro o; exact ih (h.setCell _ _) (o + 1)
/-- rows and pivots of one's own -/
structure RwP (w W : World) (a : Option Addr) (n c : Nat) (R : List W2) (v3 : Value) (P : List Nat) : Prop where
  below : Below w.heap.size w W
  len : R.length = n
  rows : W.ownsRow w.heap.size 76 32 (.slice a n c) n (rowsC R)
  piv : W.ownsRow w.heap.size 3 1 v3 P.length (pivC P)
  ne : v3.ownBlock = none ∨ v3.ownBlock ≠ (Value.slice a n c).ownBlock
theorem RwP.next {w W W' : World} {a : Option Addr} {n c : Nat} {R : List W2} {v3 : Value} {P : List Nat} (h : RwP w W a n c R v3 P) (hb : Below W.heap.size W W') : RwP w W' a n c R v3 P :=
  ⟨h.below.trans (hb.mono h.below.size), h.len, own_below h.rows hb, own_below h.piv hb, h.ne⟩
theorem RwP.alike {w W W' : World} {a : Option Addr} {n c : Nat} {R : List W2} {v3 : Value} {P : List Nat} (h : RwP w W a n c R v3 P) (ha : Alike W W') : RwP w W' a n c R v3 P := h.next ha.below
theorem RwP.own {w W : World} {g n c : Nat} {R : List W2} {v3 : Value} {P : List Nat} (h : RwP w W (some ⟨g, 0, none⟩) n c R v3 P) : rwOwn W w.heap.size (.slice (some ⟨g, 0, none⟩) R.length c) R := by
  have := h.rows
  unfold rwOwn
  rw [h.len]; exact this
theorem RwP.set {w W : World} {g n c : Nat} {R : List W2} {v3 : Value} {P : List Nat} (h : RwP w W (some ⟨g, 0, none⟩) n c R v3 P) (i : Nat) (x : W2) (hi : i < n) : RwP w (W.setCells g (i * 32) (rowV (hX x))) (some ⟨g, 0, none⟩) n c (R.set i x) v3 P := by
  have hl := h.len
  have hg := h.rows.lt g rfl
  have hgr := grown_setCells g (rowV (hX x)) (i * 32) W
  refine ⟨h.below.grown hgr h.below.size (fun j e => by cases e; exact hg.1), by rw [List.length_set, hl], ?_, h.piv.kept hgr (h.ne.imp_right fun hne e => hne e), h.ne⟩
  have := h.own.set i x (by omega)
  unfold rwOwn at this
  rw [List.length_set, hl] at this
  exact this
theorem RwP.swap {w W : World} {g n c : Nat} {R : List W2} {v3 : Value} {P : List Nat} (h : RwP w W (some ⟨g, 0, none⟩) n c R v3 P) (i j : Nat) (hi : i < n) (hj : j < n) :
    RwP w ((W.setCells g (i * 32) (rowV (hX (R.getD j zW)))).setCells g (j * 32) (rowV (hX (R.getD i zW)))) (some ⟨g, 0, none⟩) n c (swapL R i j) v3 P := (h.set i (R.getD j zW) hi).set j (R.getD i zW) hj
theorem RwP.push {w W W' : World} {g n c : Nat} {R : List W2} {v3 v5 : Value} {P : List Nat} {p : Nat} (h : RwP w W (some ⟨g, 0, none⟩) n c R v3 P) (hgr : W.grownBy W' v3.ownBlock) (ho : W'.ownsRow w.heap.size 3 1 v5 (P ++ [p]).length (pivC (P ++ [p])))
    (hv : v5.ownBlock = v3.ownBlock ∨ v5.ownBlock = some W.heap.size) : RwP w W' (some ⟨g, 0, none⟩) n c R v5 (P ++ [p]) := by
  have hg := h.rows.lt g rfl
  have hne : (Value.slice (some ⟨g, 0, none⟩) n c).ownBlock ≠ v3.ownBlock := by
    rcases h.ne with e | e
    · rw [e]; intro e2; cases e2
    · exact fun e2 => e e2.symm
  refine ⟨h.below.grown hgr h.below.size (fun j e => (h.piv.lt j e).1), h.len, h.rows.kept hgr (.inr hne), ho, ?_⟩
  rcases hv with e | e
  · rw [e]; exact h.ne
  · right
    rw [e]
    intro e2
    have e3 : W.heap.size = g := Option.some.inj e2
    omega
theorem rowV_add (x y : W2) : (rowV fun p => hX x p != hX y p) = rowV (hX (grpW.add x y)) := rowV_congr fun p _ => (hX_add x y p).symm
/-- what is told of rows and pivots -/
structure SvE (w W : World) (v v3 : Value) (Lw R : List W2) (P : List Nat) : Prop where
  below : Below w.heap.size w W
  el : Elim Lw R P 2016
  few : P.length ≤ 20
  geR : ∀ b, v.ownBlock = some b → w.heap.size ≤ b
  geP : ∀ b, v3.ownBlock = some b → w.heap.size ≤ b
  rows : ∃ a c, v = .slice a P.length c ∧ P.length ≤ c ∧ (P.length = 0 ∨ ∃ g, a = some ⟨g, 0, none⟩ ∧ g < W.heap.size ∧ ∀ i, i < P.length → W.rangeAt g (i * 32) (rowV (hX (R.getD i zW))))
  piv : ∃ a c, v3 = .slice a P.length c ∧ P.length ≤ c ∧ (P.length = 0 ∨ ∃ g, a = some ⟨g, 0, none⟩ ∧ g < W.heap.size ∧ ∀ i, i < P.length → W.cell? ⟨g, i, none⟩ = some (.int .i64 ((P.getD i 0 : Nat) : Int)))
theorem SvE.next {w W W' : World} {v v3 : Value} {Lw R : List W2} {P : List Nat} (h : SvE w W v v3 Lw R P) (hb : Below W.heap.size W W') : SvE w W' v v3 Lw R P := by
  refine ⟨h.below.trans (hb.mono h.below.size), h.el, h.few, h.geR, h.geP, ?_, ?_⟩
  · obtain ⟨a, c, e1, e2, e3⟩ := h.rows
    refine ⟨a, c, e1, e2, e3.imp_right ?_⟩
    rintro ⟨g, e4, e5, e6⟩
    exact ⟨g, e4, Nat.lt_of_lt_of_le e5 hb.size, fun i hi j v hv => (hb.cell (p := ⟨g, i * 32 + j, none⟩) e5).trans (e6 i hi j v hv)⟩
  · obtain ⟨a, c, e1, e2, e3⟩ := h.piv
    refine ⟨a, c, e1, e2, e3.imp_right ?_⟩
    rintro ⟨g, e4, e5, e6⟩
    exact ⟨g, e4, Nat.lt_of_lt_of_le e5 hb.size, fun i hi => (hb.cell (p := ⟨g, i, none⟩) e5).trans (e6 i hi)⟩
theorem RwP.out {w W : World} {a : Option Addr} {n c : Nat} {R : List W2} {v3 : Value} {P : List Nat} {Lw : List W2} (h : RwP w W a n c R v3 P) (he : Elim Lw R P 2016) (hn : n ≤ 20) : SvE w W (.slice a P.length c) v3 Lw R P := by
  have hl := h.len
  have hPn : P.length ≤ n := by rw [← hl]; exact he.len
  refine ⟨h.below, he, by omega, fun b hb => (h.rows.lt b (by cases a with | none => cases hb | some x => exact hb)).1, fun b hb => (h.piv.lt b hb).1, ?_, ?_⟩
  · rcases h.rows.2 with ⟨e, h0⟩ | ⟨g, cap, cur, e, hb, hg, hnc, _⟩
    · cases e
      exact ⟨none, 0, rfl, by omega, .inl (by omega)⟩
    · cases e
      refine ⟨_, _, rfl, by omega, .inr ⟨g, rfl, (Array.getElem?_eq_some_iff.1 hg).1, fun i hi => h.own.range i (by omega)⟩⟩
  · rcases h.piv.2 with ⟨e, h0⟩ | ⟨g, cap, cur, e, hb, hg, hnc, _⟩
    · exact ⟨none, 0, by rw [e, h0], by omega, .inl h0⟩
    · subst e
      refine ⟨_, _, rfl, hnc, .inr ⟨g, rfl, (Array.getElem?_eq_some_iff.1 hg).1, fun i hi => ?_⟩⟩
      rw [h.piv.cellAt i (by omega)]
      exact pivC_get P i hi
end Go.Proofs.Ytcecodjipeahkaa
namespace Go.Proofs.Ytcecodjipeahkaa
open Go.ChangeShapes Go.WideShapes Go.ChangeAt Go.RowKit Go.BigFrame
set_option linter.unusedVariables false

attribute [local irreducible] rowV rowA
set_option maxRecDepth 100000 in
set_option maxHeartbeats 3000000 in
theorem isolved_any (vl : Value) (L : List C2) (w : World) (h : cdAv w none vl L) (hl : L.length ≤ 1900000) (hks : ∀ x ∈ L, x.1.length ≤ 2000000) :
    Calls Try.prog 44 #[vl] w fun e w' => ∃ v v3 R P, e = .returned (.tuple #[v, v3]) ∧ SvE w w' v v3 (rowsN L L.length) R P := by
  have H := Lib.hid (ieq_any vl L w h hl hks)
  have hn20 := (rowsN_le L L.length).1
  go_enter Try.func44, Try.ntmps44
  go_wp2_with fail
  refine wp_scope_straight ?_
  go_wp2_with fail
  refine H.out.mono ?_
  rintro e w1 ⟨v1, rfl, ho1, hb1⟩
  generalize hRS : rowsN L L.length = RS at *
  obtain ⟨a, n, c, hv1, hn⟩ : ∃ a n c, v1 = .slice a n c ∧ RS.length = n := by
    rcases ownsRowK_shape ho1 with ⟨e1, h0⟩ | ⟨g, cap, e1, -⟩
    · exact ⟨none, 0, 0, e1, h0⟩
    · exact ⟨_, _, _, e1, rfl⟩
  subst hv1
  have ho1' : w1.ownsRow w.heap.size 76 32 (.slice a n c) n (rowsC RS) := by
    have := ho1; unfold rwOwn at this; rw [hn] at this; exact this
  have H1 := Lib.hid (show RwP w w1 a n c RS (.slice none 0 0) [] from ⟨hb1, hn, ho1', World.ownsRow_nil _ _ _ _, .inl rfl⟩)
  have HE := Lib.hid (Elim.start RS)
  have hnn : n ≤ 20 := by omega
  clear ho1 ho1' hb1 H hn hn20
  go_wp2_with fail
  try (refine wp_label ?_)
  try go_wp2_with fail
  go_loopw [3, 10] (fun v i wr => ∃ (p : Nat) (R : List W2) (P : List Nat) (a3 : Option Addr) (c3 : Nat), p ≤ 2016 ∧ i = .int .i64 p ∧ v = .slice a3 P.length c3 ∧ RwP w wr a n c R v P ∧ Elim RS R P p) (fun _ i _ => 2016 - (intOf i).toNat)
  case atStart => exact ⟨0, RS, [], none, 0, Nat.zero_le _, rfl, rfl, H1.out, HE.out⟩
  case round =>
    obtain ⟨p, R, P, a3, c3, hp, rfl, rfl, hR, hE⟩ := hrel
    have HR := Lib.hid hR
    have HE := Lib.hid hE
    clear hR hE H1
    rename_i wr
    have hlen := HR.out.len
    have hPn := HE.out.len
    rw [hlen] at hPn
    clear hlen
    by_cases hlt : p < 2016
    · have z0 : (0 : Int) ≤ (p : Int) := by omega
      have z1 : (p : Int) < 2016 := by omega
      go_wp2_with fail
      obtain ⟨wo, rfl⟩ : ∃ wo : World, wo = wr := ⟨_, rfl⟩
      go_loopw [6] (fun i wx => ∃ (t : Nat), P.length ≤ t ∧ t ≤ n ∧ i = .int .i64 t ∧ wx = wo ∧ ∀ j, P.length ≤ j → j < t → hX (R.getD j zW) p = false) (fun i _ => n - (intOf i).toNat)
      case atStart => exact ⟨P.length, Nat.le_refl _, hPn, rfl, rfl, fun j h1 h2 => by omega⟩
      case round =>
        obtain ⟨t, ht1, ht2, rfl, hwx, hno⟩ := hrel
        have hwx' := hwx.symm
        clear hwx
        subst hwx'
        have HNO := Lib.hid hno
        clear hno
        by_cases htn : t = n
        · have y1 : (t : Int) = (n : Int) := by omega
          have hE2 := Lib.hid (HE.out.no fun j h1 h2 => HNO.out j h1 (by rw [HR.out.len] at h2; omega))
          go_wp2_with fail
          exact ⟨⟨p + 1, R, P, a3, c3, by omega, by go_num, rfl, HR.out, hE2.out⟩, by simp [intOf]; omega⟩
        · have y1 : ¬ (t : Int) = (n : Int) := by omega
          have y0 : (0 : Int) ≤ (t : Int) := by omega
          have y2 : (t : Int) < (n : Int) := by omega
          obtain ⟨g, rfl⟩ : ∃ g, a = some ⟨g, 0, none⟩ := by
            rcases HR.out.rows.2 with ⟨e1, h0⟩ | ⟨g, cap, cur, e1, _⟩
            · omega
            · cases e1; exact ⟨g, rfl⟩
          have hrt := HR.out.own.range t (by rw [HR.out.len]; omega)
          have IH := Lib.hid (ihas_any g (t * 32) (hX (R.getD t zW)) p (by omega) wo hrt)
          clear hrt
          go_wp2_with fail
          refine IH.out.mono ?_
          rintro e w2 ⟨rfl, hw2⟩
          have hw2' := hw2.symm
          clear hw2
          subst hw2'
          clear IH
          cases hx : hX (R.getD t zW) p with
          | false =>
            go_wp2_with fail
            exact ⟨⟨t + 1, by omega, by omega, by go_num, trivial, fun j h1 h2 => by
              rcases (by omega : j < t ∨ j = t) with h3 | rfl
              · exact HNO.out j h1 h3
              · exact hx⟩, by simp [intOf]; omega⟩
          | true =>
            have hd : P.length < n := by omega
            have HSW := Lib.hid (HE.out.swap ht1 (by rw [HR.out.len]; omega))
            have hxd : hX ((swapL R P.length t).getD P.length zW) p = true := by
              have hl := HR.out.len
              rw [swap_get R P.length t P.length (by omega) (by omega) (by omega)]
              by_cases e : P.length = t
              · rw [if_pos e, e]; exact hx
              · rw [if_neg e, if_pos rfl]; exact hx
            have HET := Lib.hid (HSW.out.turn (by rw [swap_len, HR.out.len]; exact hd) hxd)
            have HRD := Lib.hid (HR.out.next (Below.refl wo.heap.size wo).drew)
            have HRS2 := Lib.hid (HRD.out.swap P.length t hd (by omega))
            have hro := HRD.out.own
            have hrl := HRD.out.len
            have LD1 := run_loadVar_mid (P := Try.prog) wo.drew g (t * 32) 76 (rowV (hX (R.getD t zW))) _ (hro.range t (by omega)) Try.underlying76 rfl (by rw [rowV_len]; exact size_row)
            have LD2 := run_loadVar_mid (P := Try.prog) wo.drew g (P.length * 32) 76 (rowV (hX (R.getD P.length zW))) _ (hro.range P.length (by omega)) Try.underlying76 rfl (by rw [rowV_len]; exact size_row)
            have ht1' := hro.there P.length (by omega)
            have ht2' := World.there_setCells (hro.there t (by omega)) g (P.length * 32) (rowV (hX (R.getD t zW)))
            have hs1 := rowV_len (hX (R.getD t zW))
            have hs2 := rowV_len (hX (R.getD P.length zW))
            have ho1 : (rowV (hX (R.getD t zW))).toArray.all (·.oneCell') = true := all_oneCell_toArray (rowV_one _)
            have ho2 : (rowV (hX (R.getD P.length zW))).toArray.all (·.oneCell') = true := all_oneCell_toArray (rowV_one _)
            have y3 : (0 : Int) ≤ (P.length : Int) := by omega
            have y4 : (P.length : Int) < (n : Int) := by omega
            clear hro hrl hx hxd HSW HNO
            generalize rowV (hX (R.getD t zW)) = A1 at *
            generalize rowV (hX (R.getD P.length zW)) = A2 at *
            go_wp2_with fail
            refine wp_region_plan [2, 3] [true, true, false, false, true, true, true, true, true, true, true, true, true] 13 (by kernel_rfl) (by kernel_rfl) (by kernel_rfl) ?_
            simp only [maskRows, movesA, moveOf, List.getElem?_toArray, List.getElem?_cons_zero, List.getElem?_cons_succ, List.drop_succ_cons, List.drop_zero]
            repeat (first
              | (refine wpStill_load 76 _ _ _ rfl rfl rfl LD1 ?_; simp only [Act.put, List.setIfInBounds_toArray, List.set_cons_zero, List.set_cons_succ])
              | (refine wpStill_load 76 _ _ _ rfl rfl rfl LD2 ?_; simp only [Act.put, List.setIfInBounds_toArray, List.set_cons_zero, List.set_cons_succ])
              | still_step)
            refine wpStill_nil ?_
            intro K1 hK1
            refine wpList_store_mid rfl 76 (.tmp 39) (.tmp 34) rfl g (P.length * 32) A1.toArray rfl rfl (by rw [List.size_toArray, hs1]; exact ht1') (by rw [List.size_toArray, hs1]; exact size_row) ho1 ?_
            refine wpList_plain rfl (fun K hK => ?_)
            go_simp
            refine hK _ _ ?_
            clear hK K
            refine wpList_store_mid rfl 76 (.tmp 40) (.tmp 38) rfl g (t * 32) A2.toArray rfl rfl (by rw [List.size_toArray, hs2]; exact ht2') (by rw [List.size_toArray, hs2]; exact size_row) ho2 ?_
            apply wpList_nil
            refine hK1 _ _ ?_
            clear hK1 K1 LD1 LD2 ht1' ht2' ho1 ho2
            simp only [Act.put]
            generalize (wo.drew.setCells g (P.length * 32) A1).setCells g (t * 32) A2 = W5 at *
            rw [show (swapL R P.length t).length = n by rw [swap_len, HR.out.len]] at HET
            clear HR HRD HE hs1 hs2
            generalize swapL R P.length t = R5 at *
            have hR5 := HRS2.out.len
            go_wp2_with fail
            obtain ⟨wq, rfl⟩ : ∃ wq : World, wq = W5 := ⟨_, rfl⟩
            have HT0 := Lib.hid (show RwP w wq (some ⟨g, 0, none⟩) n c (turnL R5 P.length p 0) (.slice a3 P.length c3) P by rw [turn_zero]; exact HRS2.out)
            go_loopw [43] (fun i wx => ∃ (t : Nat) (wy : World), t ≤ n ∧ i = .int .i64 t ∧ wy = wx ∧ RwP w wy (some ⟨g, 0, none⟩) n c (turnL R5 P.length p t) (.slice a3 P.length c3) P) (fun i _ => n - (intOf i).toNat)
            case atStart => exact ⟨0, _, Nat.zero_le _, rfl, rfl, HT0.out⟩
            case round =>
              obtain ⟨i, wy, hi, rfl, hwy, hTT⟩ := hrel
              subst hwy
              have HTT := Lib.hid hTT
              clear hTT HT0 HRS2
              by_cases hin : i < n
              · have q0 : (0 : Int) ≤ (i : Int) := by omega
                have q1 : (i : Int) < (n : Int) := by omega
                have hat := turn_at R5 P.length p i (by omega)
                have hatd := turn_d R5 P.length p i (by omega)
                by_cases hid : i = P.length
                · have e1 : (i : Int) = (P.length : Int) := by omega
                  have hst := Lib.hid (turn_same R5 P.length p i (by omega) (.inl hid))
                  clear hat hatd hid
                  go_wp2_with fail
                  exact ⟨⟨i + 1, _, by omega, by go_num, rfl, by rw [hst.out]; exact HTT.out⟩, by simp [intOf]; omega⟩
                · have e1 : ¬ (i : Int) = (P.length : Int) := by omega
                  have hro := HTT.out.own
                  have hrl := HTT.out.len
                  have hri := hro.range i (by omega)
                  have hrd := hro.range P.length (by omega)
                  have hti := hro.there i (by omega)
                  rw [hat] at hri
                  rw [hatd] at hrd
                  have IH := Lib.hid (ihas_any g (i * 32) (hX (R5.getD i zW)) p (by omega) wy hri)
                  have HRI := Lib.hid (And.intro hri (And.intro hrd hti))
                  clear hro hri hrd hti hat hatd
                  go_wp2_with fail
                  refine IH.out.mono ?_
                  rintro e w2 ⟨rfl, hw2⟩
                  have hw2' := hw2.symm
                  clear hw2
                  subst hw2'
                  clear IH
                  cases hx : hX (R5.getD i zW) p with
                  | false =>
                    have hst := Lib.hid (turn_same R5 P.length p i (by omega) (.inr hx))
                    clear hx
                    go_wp2_with fail
                    exact ⟨⟨i + 1, _, by omega, by go_num, rfl, by rw [hst.out]; exact HTT.out⟩, by simp [intOf]; omega⟩
                  | true =>
                    have hst := Lib.hid (turn_step R5 P.length p i (by omega) hid hx)
                    have HSET := Lib.hid (fun W' (ha : Alike (wy.setCells g (i * 32) (rowV fun q => hX (R5.getD i zW) q != hX (R5.getD P.length zW) q)) W') => (show RwP w W' (some ⟨g, 0, none⟩) n c (turnL R5 P.length p (i + 1)) (.slice a3 P.length c3) P by
                      rw [rowV_add] at ha
                      rw [hst.out]
                      exact (HTT.out.set i _ hin).alike ha))
                    have IT := Lib.hid (fun w' (hb : Alike wy w') => iturn_any g (i * 32) (hX (R5.getD i zW)) g (P.length * 32) (hX (R5.getD P.length zW)) w' (fun j v hj => (hb.cell _).trans (HRI.out.1 j v hj)) (fun j v hj => (hb.cell _).trans (HRI.out.2.1 j v hj)) (fun j hj => ⟨by rw [hb.cell]; exact (HRI.out.2.2 j hj).1, by rw [hb.frozen]; exact (HRI.out.2.2 j hj).2⟩) (by right; omega))
                    have y3 : (0 : Int) ≤ (P.length : Int) := by omega
                    have y4 : (P.length : Int) < (n : Int) := by omega
                    clear hx hst HRI HTT
                    go_wp2_with fail
                    go_region_law (first
                      | (go_simp
                         go_at_call 49
                         refine (IT.out _ (by first | exact Alike.refl _ | exact (Alike.refl _).drew)).mono ?_
                         rintro e w5 ⟨rfl, ha5⟩
                         dsimp only))
                    all_goals
                      have HFF := Lib.hid (HSET.out _ (by first | exact ha5 | exact (Alike.setCells (Alike.refl wy).drew g _ _).trans ha5))
                      clear ha5 IT HSET
                      go_wp2
                      exact ⟨⟨i + 1, _, by omega, by go_num, rfl, HFF.out⟩, by simp [intOf]; omega⟩
              · obtain rfl : n = i := by omega
                have hbA := (Below.refl wy.heap.size wy).alloc (Nat.le_refl _) (.cells #[.int .i64 (p : Int)] 3)
                have HA := Lib.hid (heap_alloc_new wy (.cells #[.int .i64 (p : Int)] 3))
                have HTA := Lib.hid (HTT.out.next hbA)
                have hsz := HTA.out.below.size
                clear hbA HTT hR5
                go_wp2_with (at_builtin; refine wpList_append_piv rfl (.tmp 64) (.tmp 66) rfl HTA.out.piv wy.heap.size p HA.out rfl rfl (by omega) hsz ?_; intro v5 w5 hown5 hgr5 hv5)
                have HP := Lib.hid (HTA.out.push hgr5 hown5 hv5)
                rcases ownsRowK_shape hown5 with ⟨-, hz⟩ | ⟨g3, k3, rfl, -⟩
                · simp at hz
                · exact ⟨⟨p + 1, _, P ++ [p], some ⟨g3, 0, none⟩, k3, by omega, by go_num, rfl, HP.out, HET.out⟩, by simp [intOf]; omega⟩
    · obtain rfl : p = 2016 := by omega
      have HO := Lib.hid (HR.out.out HE.out (by omega))
      have hPc : (P.length : Int) ≤ (c : Int) := by
        have : n ≤ c := by
          rcases HR.out.rows.2 with ⟨e1, h0⟩ | ⟨g, cap, cur, e1, _, _, h3, _⟩
          · omega
          · cases e1; exact h3
        omega
      have hRSx := Lib.hid hRS
      clear hRS HR HE
      go_wp2_with fail
      rw [Exit.noGoto_ret]
      go_ret2
      exact ⟨_, _, R, P, rfl, by rw [hRSx.out]; exact HO.out⟩
end Go.Proofs.Ytcecodjipeahkaa
namespace Go.Proofs.Ytcecodjipeahkaa
open Go.ChangeShapes Go.WideShapes Go.ChangeAt Go.RowKit Go.BigFrame
set_option linter.unusedVariables false

theorem strEq (a b : ByteArray) : (a.toList == b.toList) = decide (a = b) := by
  rw [Bool.eq_iff_iff, decide_eq_true_eq, beq_iff_eq, bytes_toList_iff]
def agB (Z : List W2) : Bool := Z.all fun z => decide (z.1.2 = z4)
theorem agB_snoc (Z : List W2) (z : W2) : agB (Z ++ [z]) = (agB Z && decide (z.1.2 = z4)) := by simp [agB]
theorem agB_iff (M : List W2) : agB (baseG ordW M).2 = true ↔ ∀ z ∈ (baseG ordW M).2, z = grpW.zero := by
  unfold agB
  rw [List.all_eq_true]
  have hI := base_inv ordW M
  constructor
  · intro h z hz
    exact (zeroW z ((bareW z).1 (hI.bare z hz))).2 (of_decide_eq_true (h z hz))
  · intro h z hz
    exact decide_eq_true ((zeroW z ((bareW z).1 (hI.bare z hz))).1 (h z hz))
theorem base_ne (M : List W2) : ∀ b ∈ (baseG ordW M).1, b.1.1 ≠ [] := by
  intro b hb e
  have h1 := (base_inv ordW M).redu.1 b hb
  have h2 : decide (ordW.piv b ∈ b.1.1) = true := h1
  rw [e] at h2; simp at h2
theorem base_len (L : List C2) (k : Nat) : (baseG ordW (rowsN L k)).1.length ≤ 20 := by
  have := rank_le ordW (rowsN L k); have := rowsN_le L k; omega
theorem base_bare {M : List W2} {x : W2} (h : (lessG ordW.toPla (baseG ordW M).1 x).1.1 = []) : baseG ordW (M ++ [x]) = ((baseG ordW M).1, (baseG ordW M).2 ++ [lessG ordW.toPla (baseG ordW M).1 x]) := by
  rw [base_snoc]
  unfold baseS
  rw [if_pos ((bareW _).2 h)]
theorem base_more {M : List W2} {x : W2} (h : (lessG ordW.toPla (baseG ordW M).1 x).1.1 ≠ []) : baseG ordW (M ++ [x]) = (insG ordW.toPla (baseG ordW M).1 (lessG ordW.toPla (baseG ordW M).1 x), (baseG ordW M).2) := by
  rw [base_snoc]
  unfold baseS
  rw [if_neg (fun e => h ((bareW _).1 e))]
/-- the rows, the first k of which have had x taken in -/
def insN (x : W2) (B : List W2) (k : Nat) : List W2 := (B.take k).map (insS ordW.toPla x) ++ B.drop k
theorem insN_len (x : W2) (B : List W2) (k : Nat) : (insN x B k).length = B.length := by
  unfold insN
  rw [List.length_append, List.length_map, List.length_take, List.length_drop]; omega
theorem insN_all (x : W2) (B : List W2) : insN x B B.length ++ [x] = insG ordW.toPla B x := by
  unfold insN insG
  rw [List.take_length, List.drop_length, List.append_nil]
theorem insN_get (x : W2) (B : List W2) (k : Nat) (hk : k < B.length) : (insN x B k).getD k grpW.zero = B.getD k grpW.zero := by
  unfold insN
  simp only [List.getD]
  rw [List.getElem?_append_right (by rw [List.length_map, List.length_take]; omega), List.length_map, List.length_take, Nat.min_eq_left (by omega), Nat.sub_self, List.getElem?_drop, Nat.add_zero]
theorem insN_succ (x : W2) (B : List W2) (k : Nat) (hk : k < B.length) : insN x B (k + 1) = (insN x B k).set k (insS ordW.toPla x (B.getD k grpW.zero)) := by
  unfold insN
  have e : (B.take k).length = k := by rw [List.length_take]; omega
  have e2 : (List.map (insS ordW.toPla x) (B.take k)).length = k := by rw [List.length_map, e]
  rw [List.take_succ_eq_append_getElem hk, List.map_append, List.drop_eq_getElem_cons hk, List.set_append_right _ _ (by omega), e2, Nat.sub_self, List.set_cons_zero, List.append_assoc]
  simp [List.getD, hk]
theorem insN_set_map (x : W2) (B : List W2) (k : Nat) (hk : k < B.length) : (insN x B (k + 1)).map (·.1) = ((insN x B k).map (·.1)).set k (insS ordW.toPla x (B.getD k grpW.zero)).1 := by
  rw [insN_succ x B k hk, List.map_set]
theorem set_same_map (R : List C2) (k : Nat) (x : C2) (h : R.getD k blankC = x) (hk : k < R.length) : R.set k x = R := by
  subst h
  simp [List.getD, hk]
/-- rows of one's own -/
structure BsC (w W : World) (g c : Nat) (us : List Value) (B : List W2) : Prop where
  below : Below w.heap.size w W
  own : cdOwn W w.heap.size (.slice (some ⟨g, 0, none⟩) B.length c) us (B.map (·.1))
theorem BsC.next {w W W' : World} {g c : Nat} {us : List Value} {B : List W2} (h : BsC w W g c us B) (hb : Below W.heap.size W W') : BsC w W' g c us B :=
  ⟨h.below.trans (hb.mono h.below.size), h.own.below hb⟩
theorem BsC.blk {w W : World} {g c : Nat} {us : List Value} {B : List W2} (h : BsC w W g c us B) : w.heap.size ≤ g ∧ g < W.heap.size := h.own.own.lt g rfl
theorem BsC.to {w W : World} {g c : Nat} {us : List Value} {B : List W2} (h : BsC w W g c us B) : cdAv W (some g) (.slice (some ⟨g, 0, none⟩) B.length c) (B.map (·.1)) := h.own.to
/-- what is there of a row -/
structure BsAt (W : World) (g k : Nat) (u : Value) (x : C2) : Prop where
  c0 : W.cell? ⟨g, k * 2, none⟩ = some u
  c1 : W.cell? ⟨g, k * 2 + 1, none⟩ = some (.string x.2)
  f0 : W.frozen? ⟨g, k * 2, none⟩ = false
  f1 : W.frozen? ⟨g, k * 2 + 1, none⟩ = false
  keys : keysAv W (some g) u x.1
theorem BsC.at {w W : World} {g c : Nat} {us : List Value} {B : List W2} (h : BsC w W g c us B) (k : Nat) (hk : k < B.length) : BsAt W g k (us.getD k undef) (B.getD k grpW.zero).1 := by
  have hl : (B.map (·.1)).length = B.length := List.length_map ..
  have hc := cdCells_get us (B.map (·.1)) k h.own.len (by omega)
  have ho := h.own.own
  rw [hl] at ho
  have h1 := ho.cellAt (k * 2) (by omega)
  have h2 := ho.cellAt (k * 2 + 1) (by omega)
  have hk2 := h.own.keys k (by omega)
  rw [getD_W B k hk] at hc hk2
  exact ⟨h1.trans hc.1, h2.trans hc.2, ho.frozenAt _, ho.frozenAt _, hk2⟩
theorem BsC.set {w W : World} {g c : Nat} {us : List Value} {B B' : List W2} (h : BsC w W g c us B) (k : Nat) (u : Value) (x : C2) (hu : keysAv W (some g) u x.1) (hl : B'.length = B.length) (he : B'.map (·.1) = (B.map (·.1)).set k x) :
    BsC w ((W.setCell ⟨g, k * 2, none⟩ u).setCell ⟨g, k * 2 + 1, none⟩ (.string x.2)) g c (us.set k u) B' := by
  refine ⟨(h.below.setCell (p := ⟨g, k * 2, none⟩) h.blk.1 u).setCell (p := ⟨g, k * 2 + 1, none⟩) h.blk.1 _, ?_⟩
  rw [he, hl]
  exact h.own.set k u x hu
/-- rows on their way to take one in, which lies in its box -/
structure InC (w W : World) (g c : Nat) (us : List Value) (B : List W2) (n b8 : Nat) (vX : Value) (X : C2) : Prop where
  bs : BsC w W g c us B
  len : B.length = n
  box : W.heap[b8]? = some (.cells #[vX, .string X.2] 27)
  key : keysAv W (some g) vX X.1
  ne : g < b8
theorem InC.next {w W W' : World} {g c : Nat} {us : List Value} {B : List W2} {n b8 : Nat} {vX : Value} {X : C2} (h : InC w W g c us B n b8 vX X) (hb : Below W.heap.size W W') : InC w W' g c us B n b8 vX X :=
  ⟨h.bs.next hb, h.len, (hb.block _ (Array.getElem?_eq_some_iff.1 h.box).1).trans h.box, h.key.below hb, h.ne⟩
theorem InC.set {w W : World} {g c : Nat} {us : List Value} {B B' : List W2} {n b8 : Nat} {vX : Value} {X : C2} (h : InC w W g c us B n b8 vX X) (k : Nat) (u : Value) (x : C2) (hu : keysAv W (some g) u x.1) (hl : B'.length = B.length) (he : B'.map (·.1) = (B.map (·.1)).set k x) :
    InC w ((W.setCell ⟨g, k * 2, none⟩ u).setCell ⟨g, k * 2 + 1, none⟩ (.string x.2)) g c (us.set k u) B' n b8 vX X := by
  have hne := h.ne
  have hgr : W.grownBy ((W.setCell ⟨g, k * 2, none⟩ u).setCell ⟨g, k * 2 + 1, none⟩ (.string x.2)) (some g) := (Lib.grownBy_setCell W g (k * 2) u).trans (Lib.grownBy_setCell _ g (k * 2 + 1) (.string x.2))
  exact ⟨h.bs.set k u x hu hl he, hl.trans h.len, (hgr.block _ (Array.getElem?_eq_some_iff.1 h.box).1 (fun e => by cases e; omega)).trans h.box, h.key.grown hgr, hne⟩
theorem InC.same {w W : World} {g c : Nat} {us : List Value} {X : W2} {B : List W2} {j n b8 : Nat} {vX : Value} (h : InC w W g c us (insN X B j) n b8 vX X.1) (hs : (insN X B (j + 1)).map (·.1) = ((insN X B j).map (·.1)).set j (insS ordW.toPla X (B.getD j grpW.zero)).1)
    (hg : (insN X B j).getD j grpW.zero = B.getD j grpW.zero) (he : insS ordW.toPla X (B.getD j grpW.zero) = B.getD j grpW.zero) (hj : j < B.length) : InC w W g c us (insN X B (j + 1)) n b8 vX X.1 := by
  have hl : (insN X B j).length = B.length := insN_len X B j
  have e : (insN X B (j + 1)).map (·.1) = (insN X B j).map (·.1) := by
    rw [hs, he, ← hg]
    exact set_same_map _ j _ (getD_W _ j (by omega)) (by rw [List.length_map]; omega)
  have hl2 : (insN X B (j + 1)).length = B.length := insN_len X B (j + 1)
  refine ⟨⟨h.bs.below, ?_⟩, by rw [hl2, ← h.len, hl], h.box, h.key, h.ne⟩
  rw [e, hl2, ← hl]
  exact h.bs.own
set_option maxRecDepth 100000 in
set_option maxHeartbeats 6000000 in
theorem sbase_any (vl : Value) (L : List C2) (w : World) (h : cdAv w none vl L) (hl : L.length ≤ 1900000) (hks : ∀ x ∈ L, x.1.length ≤ 2000000) :
    Calls Try.prog 50 #[vl] w fun e w' => ∃ g c us, e = .returned (.tuple #[.slice (some ⟨g, 0, none⟩) (baseG ordW (rowsN L L.length)).1.length c, .bool (agB (baseG ordW (rowsN L L.length)).2)]) ∧
      BsC w w' g c us (baseG ordW (rowsN L L.length)).1 := by
  have hB0 : BsC w (w.alloc (.cells #[] 27)) w.heap.size 0 [] [] := by
    refine ⟨(Below.refl _ _).alloc (Nat.le_refl _) _, rfl, ?_, fun i hi => by simp at hi⟩
    exact World.ownsRow_made (base := w.heap.size) (e := 27) (size := 2) w #[] 0 (Nat.le_refl _) (by unfold maxLen; omega) rfl
  have HB0 := Lib.hid hB0
  clear hB0
  obtain ⟨al, cl, rfl, hcl, hcells⟩ := h
  go_enter Try.func50, Try.ntmps50
  go_wp2_with fail
  generalize w.alloc (.cells #[] 27) = W0 at *
  go_loopw [4, 5, 6, 7] (fun v a m i wr => ∃ (k g c : Nat) (us : List Value), k ≤ L.length ∧ v = .slice (some ⟨g, 0, none⟩) (baseG ordW (rowsN L k)).1.length c ∧ a = .bool (agB (baseG ordW (rowsN L k)).2) ∧ m = .int .i64 ((rowsN L k).length : Nat) ∧ i = .int .i64 k ∧ BsC w wr g c us (baseG ordW (rowsN L k)).1)
    (fun _ _ _ i _ => L.length - (intOf i).toNat)
  case atStart => exact ⟨0, w.heap.size, 0, [], Nat.zero_le _, rfl, rfl, rfl, rfl, HB0.out⟩
  case round =>
    clear HB0
    obtain ⟨k, g, c, us, hk, rfl, rfl, rfl, rfl, hC⟩ := hrel
    have HC := Lib.hid hC
    have hbl := base_len L k
    have hml := (rowsN_le L k).1
    clear hC
    by_cases hlt : k < L.length
    · by_cases hm : (rowsN L k).length < 20
      · obtain ⟨gl, off, rfl, hg, hcs⟩ := hcells.resolve_left (by omega)
        have z0 : (0 : Int) ≤ (k : Int) := by omega
        have z1 : (k : Int) < (L.length : Int) := by omega
        have m1 : ((rowsN L k).length : Int) < 20 := by omega
        obtain ⟨u, c1, c2, c3⟩ := hcs k hlt
        have hxl := hks (L.getD k blankC) (by rw [List.getD, List.getElem?_eq_getElem hlt]; exact List.getElem_mem hlt)
        have hyes := fun hck => rowsN_yes (l := L) (i := k) hck hm
        have hno := fun hck => rowsN_no (l := L) (i := k) hck
        generalize L.getD k blankC = x at *
        rename_i wr
        have hB := HC.out.below
        have SC := Lib.hid (fun w' (hw : Below wr.heap.size wr w') => scodeok_any u x.1 x.2 w' (keysAt_below (keysAt_below c3.to hB) hw) hxl)
        have d1 := (hB.cell (p := ⟨gl, off + k * 2, none⟩) hg).trans c1
        have d2 := (hB.cell (p := ⟨gl, off + k * 2 + 1, none⟩) hg).trans c2
        have HX := Lib.hid (keysAt_below c3.to hB)
        have HXA := Lib.hid (keysAv.also (keysAv_of (b := some g) c3.to (fun j hj e => by cases e; have := HC.out.blk; omega)) HX.out)
        have HD := Lib.hid (And.intro (And.intro d1 d2) (Nat.lt_of_lt_of_le hg hB.size))
        obtain ⟨au, cu, hu, -, -⟩ := c3
        subst hu
        clear hcells hcs c1 c2 hB hks hxl
        go_wp2_with fail
        refine (SC.out _ (Below.refl _ _)).mono ?_
        rintro e w1 ⟨rfl, hb1⟩
        have HC1 := Lib.hid (HC.out.next hb1)
        have HX1 := Lib.hid (keysAt_below HX.out hb1)
        have HXA1 := Lib.hid (HXA.out.below hb1)
        have d1' := (hb1.cell (p := ⟨gl, off + k * 2, none⟩) HD.out.2).trans d1
        have d2' := (hb1.cell (p := ⟨gl, off + k * 2 + 1, none⟩) HD.out.2).trans d2
        clear hb1 d1 d2 HD HC HX HXA SC
        cases hck : codeOkB (x.1, x.2) with
        | false =>
          have HN := Lib.hid (hno hck)
          clear hyes hno hck HX1 HXA1
          go_wp2_with fail
          exact ⟨⟨k + 1, g, c, us, by omega, by rw [HN.out], by rw [HN.out], by rw [HN.out], by go_num, by rw [HN.out]; exact HC1.out⟩, by simp [intOf]; omega⟩
        | true =>
          have HY := Lib.hid (hyes hck)
          have hw := ok_w hck
          generalize hxw : (⟨x, hw⟩ : W2) = xw at *
          have hx1 : x = xw.1 := by rw [← hxw]
          subst hx1
          have SL := Lib.hid (sless_any (.slice (some ⟨g, 0, none⟩) (baseG ordW (rowsN L k)).1.length c) (baseG ordW (rowsN L k)).1 (.slice au xw.1.1.length cu) xw (some g) w1 HC1.out.to (base_ne _) (by omega) HX1.out)
          have hBE := @base_bare (rowsN L k) xw
          have hBM := @base_more (rowsN L k) xw
          clear hyes hno hck hxw hw HX1
          generalize rowsN L k = R at *
          generalize hX : lessG ordW.toPla (baseG ordW R).1 xw = X at *
          have HBE := Lib.hid hBE; have HBM := Lib.hid hBM
          clear hBE hBM
          generalize (baseG ordW R).1 = B at *
          generalize (baseG ordW R).2 = Z at *
          have hr1 : IntKind.i64.wrap ((R.length : Int) + 1) = ((R.length + 1 : Nat) : Int) := by rw [IntWalk.i64_in _ (by omega)]; omega
          go_wp2_with fail
          refine SL.out.mono ?_
          rintro e w2 ⟨v2, rfl, hk2, ha2, hb2⟩
          have HA2 := Lib.hid (ha2 g HC1.out.blk.2 HXA1.out)
          have HC2 := Lib.hid (HC1.out.next hb2)
          obtain ⟨a2, c2, rfl, -, -⟩ := hk2
          clear ha2 hb2 SL HXA1 HC1 d1' d2'
          by_cases h0 : X.1.1.length = 0
          · have i0 : (X.1.1.length : Int) = 0 := by omega
            have hx0 : X.1.1 = [] := List.length_eq_zero_iff.1 h0
            have HE := Lib.hid (HBE.out hx0)
            clear HBE HBM hx0 h0
            go_wp2_with fail
            have HBOX := Lib.hid (heap_alloc_new w2 (.cells #[.slice a2 X.1.1.length c2, .string X.1.2] 27))
            have HC3 := Lib.hid (HC2.out.next ((Below.refl w2.heap.size w2).alloc (Nat.le_refl _) (.cells #[.slice a2 X.1.1.length c2, .string X.1.2] 27)))
            have HA3 := Lib.hid (HA2.out.below ((Below.refl w2.heap.size w2).alloc (Nat.le_refl _) (.cells #[.slice a2 X.1.1.length c2, .string X.1.2] 27)))
            have HGB := Lib.hid HC2.out.blk.2
            clear HA2 HC2
            generalize w2.alloc (.cells #[.slice a2 X.1.1.length c2, .string X.1.2] 27) = w3 at *
            generalize w2.heap.size = b8 at *
            have L1 : ∀ w', Below w3.heap.size w3 w' → (loadVar 9 ⟨b8, 1, none⟩).run Try.prog w' = .ok (.string X.1.2) w' := fun w' hw => cd_loads HBOX.out hw
            have hag := agB_snoc Z X
            have hse := strEq X.1.2 z4
            rw [← hse] at hag
            have HAG := Lib.hid hag
            clear hag hse
            cases hz : agB Z with
            | false =>
              rw [hz] at HAG
              refine wp_region_below w3 (by kernel_rfl) (by kernel_rfl) (Below.refl _ _) ?_
              repeat (first
                | go_big_quiet_skip
                | (go_big_quiet_want
                   first
                     | (go_big_quiet_op; go_big_quiet_on)
                     | (refine q_load 9 _ _ _ rfl rfl L1 ?_; simp only [Act.put, List.setIfInBounds_toArray, List.set_cons_zero, List.set_cons_succ]; go_big_quiet_on)
                     | (go_big_quiet_op; refine ⟨_, fun _ _ => rfl, ?_⟩; go_big_quiet_on)
                     | (go_big_quiet_op; apply Exists.intro; refine ⟨fun w' hw' => ?_, ?_⟩
                        · first
                          | (with_reducible refine (szero_below w').mono ?_
                             rintro e w2 ⟨rfl, hb2⟩
                             exact ⟨rfl, hw'.trans (hb2.mono hw'.size)⟩)
                        go_big_quiet_on)))
              refine wpQuiet_nil ?_
              intro w4 hb4
              have HC4 := Lib.hid (HC3.out.next hb4)
              clear L1 hb4 HC3 HA3
              go_wp2_with fail
              exact ⟨⟨k + 1, g, c, us, by omega, by rw [HY.out, HE.out], by rw [HY.out, HE.out, HAG.out]; rfl, by rw [HY.out, List.length_append]; go_num, by go_num, by rw [HY.out, HE.out]; exact HC4.out⟩, by simp [intOf]; omega⟩
            | true =>
              rw [hz] at HAG
              refine wp_region_below w3 (by kernel_rfl) (by kernel_rfl) (Below.refl _ _) ?_
              repeat (first
                | go_big_quiet_skip
                | (go_big_quiet_want
                   first
                     | (go_big_quiet_op; go_big_quiet_on)
                     | (refine q_load 9 _ _ _ rfl rfl L1 ?_; simp only [Act.put, List.setIfInBounds_toArray, List.set_cons_zero, List.set_cons_succ]; go_big_quiet_on)
                     | (go_big_quiet_op; refine ⟨_, fun _ _ => rfl, ?_⟩; go_big_quiet_on)
                     | (go_big_quiet_op; apply Exists.intro; refine ⟨fun w' hw' => ?_, ?_⟩
                        · first
                          | (with_reducible refine (szero_below w').mono ?_
                             rintro e w2 ⟨rfl, hb2⟩
                             exact ⟨rfl, hw'.trans (hb2.mono hw'.size)⟩)
                        go_big_quiet_on)))
              refine wpQuiet_nil ?_
              intro w4 hb4
              have HC4 := Lib.hid (HC3.out.next hb4)
              clear L1 hb4 HC3 HA3
              go_wp2_with fail
              exact ⟨⟨k + 1, g, c, us, by omega, by rw [HY.out, HE.out], by rw [HY.out, HE.out, HAG.out]; rfl, by rw [HY.out, List.length_append]; go_num, by go_num, by rw [HY.out, HE.out]; exact HC4.out⟩, by simp [intOf]; omega⟩
          · have i0 : ¬ (X.1.1.length : Int) = 0 := by omega
            have HE := Lib.hid (HBM.out fun e => h0 (List.length_eq_zero_iff.2 e))
            clear HBE HBM
            go_wp2_with fail
            have HBOX := Lib.hid (heap_alloc_new w2 (.cells #[.slice a2 X.1.1.length c2, .string X.1.2] 27))
            have HC3 := Lib.hid (HC2.out.next ((Below.refl w2.heap.size w2).alloc (Nat.le_refl _) (.cells #[.slice a2 X.1.1.length c2, .string X.1.2] 27)))
            have HA3 := Lib.hid (HA2.out.below ((Below.refl w2.heap.size w2).alloc (Nat.le_refl _) (.cells #[.slice a2 X.1.1.length c2, .string X.1.2] 27)))
            have HGB := Lib.hid HC2.out.blk.2
            clear HA2 HC2
            generalize w2.alloc (.cells #[.slice a2 X.1.1.length c2, .string X.1.2] 27) = w3 at *
            generalize w2.heap.size = b8 at *
            have hI : InC w w3 g c us (insN X B 0) B.length b8 (.slice a2 X.1.1.length c2) X.1 := ⟨HC3.out, rfl, HBOX.out, HA3.out, HGB.out⟩
            have HI := Lib.hid hI
            clear hI HC3 HBOX HA3 HGB
            have hbq : ((X.1.1.length : Int) == 0) = false := by rw [beq_eq_false_iff_ne]; exact i0
            simp only [hbq]
            go_loopw [9] (fun i wr => ∃ (j : Nat) (us : List Value), j ≤ B.length ∧ i = .int .i64 j ∧ InC w wr g c us (insN X B j) B.length b8 (.slice a2 X.1.1.length c2) X.1) (fun i _ => B.length - (intOf i).toNat)
            case atStart => exact ⟨0, us, Nat.zero_le _, rfl, HI.out⟩
            case round =>
              obtain ⟨j, us, hj, rfl, hJ⟩ := hrel
              have HJ := Lib.hid hJ
              clear hJ HI
              rename_i wr
              by_cases hjl : j < B.length
              · have y0 : (0 : Int) ≤ (j : Int) := by omega
                have y1 : (j : Int) < (B.length : Int) := by omega
                have hat := HJ.out.bs.at j (by rw [insN_len]; exact hjl)
                rw [insN_get X B j hjl] at hat
                have hset := insN_set_map X B j hjl
                have hsame := insN_get X B j hjl
                generalize hBj : B.getD j grpW.zero = Bj at *
                generalize us.getD j undef = u at *
                obtain ⟨k0, k1, kf0, kf1, kk⟩ := hat
                obtain ⟨ax', cx', hax, -, hxk⟩ := HJ.out.key
                cases hax
                obtain ⟨gx, ox, rfl, hgx, -, hxc⟩ := hxk.resolve_left h0
                have hk0 := hxc 0 (by omega)
                simp only [Nat.zero_mul, Nat.add_zero] at hk0
                have x0 : (0 : Int) < (X.1.1.length : Int) := by omega
                have hpiv : X.1.1.getD 0 (0, 0) = ordW.piv X := by
                  show X.1.1.getD 0 (0, 0) = X.1.1.headD (0, 0)
                  cases hB : X.1.1 with
                  | nil => rw [hB] at h0; exact absurd rfl h0
                  | cons a l => rfl
                rw [hpiv] at hk0
                have L1 : ∀ w', Below wr.heap.size wr w' → (loadVar 25 ⟨b8, 0, none⟩).run Try.prog w' = .ok (.slice (some ⟨gx, ox, none⟩) X.1.1.length c2) w' := fun w' hw => cd_loadk HJ.out.box hw
                have L2 : ∀ w', Below wr.heap.size wr w' → (loadVar 25 ⟨g, j * 2, none⟩).run Try.prog w' = .ok u w' := fun w' hw => load_one agg_keys ((hw.cell (p := ⟨g, j * 2, none⟩) HJ.out.bs.blk.2).trans k0)
                have L3 : ∀ w', Below wr.heap.size wr w' → (loadVar 44 ⟨gx, ox, none⟩).run Try.prog w' = .ok (kv (ordW.piv X)) w' := fun w' hw => key_load hk0 hgx hw
                have HK := Lib.hid (fun w' (hw : Below wr.heap.size wr w') => shaskey_any u Bj.1.1 (ordW.piv X) w' (keysAt_below kk.to hw) (by have := keys_few Bj.2.1; omega))
                have hhk : hasKeyB Bj.1.1 (ordW.piv X) = ordW.has Bj (ordW.piv X) := hasKey_mem _ _
                rw [hhk] at HK
                have HKK := Lib.hid kk
                have hS : insS ordW.toPla X Bj = if ordW.has Bj (ordW.piv X) = true then grpW.add Bj X else Bj := rfl
                have HS := Lib.hid hS
                have HSET := Lib.hid hset
                have HSAME := Lib.hid hsame
                have HBJ := Lib.hid hBj
                clear hS hhk hk0 hxc hxk hpiv kk hset hsame hBj
                generalize ordW.piv X = kp at *
                obtain ⟨kp1, kp2⟩ := kp
                unfold kv at L3 HK
                dsimp only at L3 HK
                generalize hhas : ordW.has Bj (kp1, kp2) = hs at *
                go_wp2_with fail
                refine wp_region_below wr (by kernel_rfl) (by kernel_rfl) (Below.refl _ _) ?_
                repeat (first
                  | go_big_quiet_skip
                  | (go_big_quiet_want
                     first
                       | (go_big_quiet_op; go_big_quiet_on)
                       | (refine q_load 25 _ _ _ rfl rfl L1 ?_; simp only [Act.put, List.setIfInBounds_toArray, List.set_cons_zero, List.set_cons_succ]; go_big_quiet_on)
                       | (refine q_load 25 _ _ _ rfl rfl L2 ?_; simp only [Act.put, List.setIfInBounds_toArray, List.set_cons_zero, List.set_cons_succ]; go_big_quiet_on)
                       | (refine q_load 44 _ _ _ rfl rfl L3 ?_; simp only [Act.put, List.setIfInBounds_toArray, List.set_cons_zero, List.set_cons_succ]; go_big_quiet_on)
                       | (go_big_quiet_op; refine ⟨_, fun _ _ => rfl, ?_⟩; go_big_quiet_on)
                       | (go_big_quiet_op; apply Exists.intro; refine ⟨fun w' hw' => ?_, ?_⟩
                          · first
                            | (with_reducible refine (HK.out w' hw').mono ?_
                               rintro e w2 ⟨rfl, hb2⟩
                               exact ⟨rfl, hw'.trans (hb2.mono hw'.size)⟩)
                          go_big_quiet_on)))
                refine wpQuiet_nil ?_
                intro w4 hb4
                have HJ4 := Lib.hid (HJ.out.next hb4)
                have HKK4 := Lib.hid (HKK.out.below hb4)
                have k0' := (hb4.cell (p := ⟨g, j * 2, none⟩) HJ.out.bs.blk.2).trans k0
                have k1' := (hb4.cell (p := ⟨g, j * 2 + 1, none⟩) HJ.out.bs.blk.2).trans k1
                clear hb4 HJ HKK L1 L2 L3 HK k0 k1 kf0 kf1
                cases hs with
                | false =>
                  go_wp2_with fail
                  exact ⟨⟨j + 1, us, by omega, by go_num, HJ4.out.same (by rw [HBJ.out]; exact HSET.out) (by rw [HBJ.out]; exact HSAME.out) (by rw [HBJ.out, HS.out]; rfl) hjl⟩, by simp [intOf]; omega⟩
                | true =>
                  have SA := Lib.hid (fun w' (hw : Below w4.heap.size w4 w') => sadd_any u Bj.1.1 Bj.1.2 (.slice (some ⟨gx, ox, none⟩) X.1.1.length c2) X.1.1 X.1.2 w' (keysAt_below HKK4.out.to hw) (keysAt_below HJ4.out.key.to hw) Bj.2 X.2)
                  obtain ⟨b0, b1, bf0, bf1⟩ := row2_of HJ4.out.box
                  have hl5 := (Array.getElem?_eq_some_iff.1 HJ4.out.box).1
                  obtain ⟨au, cu, rfl, -, -⟩ := HKK4.out
                  clear HKK4
                  go_wp2_with fail
                  go_region_law (first
                    | (go_simp
                       go_at_call 41
                       refine (SA.out _ (by first | exact Below.refl _ _ | exact (Below.refl _ _).drew)).mono ?_
                       rintro e w5 ⟨v5, rfl, ho5, hb5⟩
                       dsimp only
                       obtain ⟨a5, n5, k5, rfl⟩ := own_shape ho5
                       have HJ5 := Lib.hid (InC.next (InC.next HJ4.out (by first | exact Below.refl _ _ | exact (Below.refl _ _).drew)) hb5)
                       have HW := Lib.hid (keysAv_own ho5 (show g < _ by have := HJ4.out.bs.blk.2; first | exact this | (show g < w4.heap.size; omega)))
                       obtain ⟨k0, k1, kf0, kf1, -⟩ := HJ5.out.bs.at j (by rw [insN_len]; exact hjl)
                       have hg5 := HJ5.out.bs.blk.2
                       clear hb5 ho5 b0 b1 bf0 bf1 k0' k1' SA HJ4 hl5))
                  all_goals
                    have HJ7 := Lib.hid (HJ5.out.set (B' := insN X B (j + 1)) j (.slice a5 n5 k5) (addC (Bj.1.1, Bj.1.2) (X.1.1, X.1.2)) HW.out (by rw [insN_len, insN_len]) (by rw [HSET.out, HS.out]; rfl))
                    clear HJ5 HW
                    go_wp2
                    exact ⟨⟨j + 1, us.set j (.slice a5 n5 k5), by omega, by go_num, HJ7.out⟩, by simp [intOf]; omega⟩
              · obtain rfl : j = B.length := by omega
                have e1 := heap_alloc_new wr (.cells #[.slice a2 X.1.1.length c2, .string X.1.2] 27)
                have hbA := (Below.refl wr.heap.size wr).alloc (Nat.le_refl _) (.cells #[.slice a2 X.1.1.length c2, .string X.1.2] 27)
                have HJA := Lib.hid (HJ.out.next hbA)
                have HONE := Lib.hid (cd_one X.1.2 HJ.out.key)
                obtain ⟨b0, b1, bf0, bf1⟩ := row2_of HJ.out.box
                have hl5 := (Array.getElem?_eq_some_iff.1 HJ.out.box).1
                have HLN := Lib.hid (insN_len X B B.length)
                clear e1 hbA HJ
                have HOW := Lib.hid HJA.out.bs.own
                rw [HLN.out] at HOW
                have hbz := HJA.out.bs.below.size
                go_wp2_with (at_builtin; refine wpList_append_cd rfl (.tmp 71) (.tmp 73) rfl HOW.out _ [X.1] HONE.out rfl rfl (by rw [List.length_map, HLN.out]; simp; omega) hbz ?_; intro v5 w5 us5 hown5 hul5 hgr5 hv5)
                have hlen5 : ((insN X B B.length).map (·.1) ++ [X.1]).length = (insG ordW.toPla B X).length := by rw [← insN_all]; simp
                have hmap5 : (insN X B B.length).map (·.1) ++ [X.1] = (insG ordW.toPla B X).map (·.1) := by rw [← insN_all, List.map_append]; rfl
                have hB5 := HJA.out.bs.below.grown hgr5 HJA.out.bs.below.size (fun j e => by cases e; exact HJA.out.bs.blk.1)
                rcases ownsRowK_shape hown5.own with ⟨-, hz⟩ | ⟨g3, c3, rfl, -⟩
                · rw [hmap5, List.length_map] at hz
                  simp [insG] at hz
                · rw [hmap5, List.length_map] at *
                  exact ⟨⟨k + 1, g3, c3, us ++ us5, by omega, by rw [HY.out, HE.out], by rw [HY.out, HE.out], by rw [HY.out, List.length_append]; go_num, by go_num, by rw [HY.out, HE.out]; exact ⟨hB5, hown5⟩⟩, by simp [intOf]; omega⟩
      · have m1 : ¬ ((rowsN L k).length : Int) < 20 := by omega
        have hf := rowsN_full (l := L) (i := k) (by omega) (L.length - k)
        rw [show k + (L.length - k) = L.length by omega] at hf
        have HF := Lib.hid hf
        have z1 : (k : Int) < (L.length : Int) := by omega
        clear hf hcells hks
        go_wp2_with fail
        go_ret2
        exact ⟨g, c, by rw [HF.out]; rfl, us, by rw [HF.out]; exact HC.out⟩
    · obtain rfl : k = L.length := by omega
      clear hcells hks
      go_wp2_with fail
      go_ret2
      first | exact ⟨g, c, us, rfl, HC.out⟩ | exact ⟨g, c, rfl, us, HC.out⟩
end Go.Proofs.Ytcecodjipeahkaa
namespace Go.Proofs.Ytcecodjipeahkaa
open Go.ChangeShapes Go.WideShapes Go.ChangeAt Go.RowKit Go.BigFrame
set_option linter.unusedVariables false

theorem getD_map (B : List W2) (i : Nat) : (B.map (·.1)).getD i blankC = (B.getD i grpW.zero).1 := by
  by_cases h : i < B.length
  · exact getD_W B i h
  · simp only [List.getD]
    rw [List.getElem?_eq_none (by rw [List.length_map]; omega), List.getElem?_eq_none (by omega)]
    rfl
/-- rows of one's own, and loads of one's own -/
structure BsZ (w W : World) (g c : Nat) (us : List Value) (B : List W2) (vz : Value) (Z : List ByteArray) : Prop where
  bs : BsC w W g c us B
  zown : W.ownsRow w.heap.size 9 1 vz Z.length (Z.map Value.string)
  zne : vz.ownBlock ≠ some g
  zk : ∀ i, i < B.length → keysAv W vz.ownBlock (us.getD i undef) (B.getD i grpW.zero).1.1
theorem BsZ.next {w W W' : World} {g c : Nat} {us : List Value} {B : List W2} {vz : Value} {Z : List ByteArray} (h : BsZ w W g c us B vz Z) (hb : Below W.heap.size W W') : BsZ w W' g c us B vz Z :=
  ⟨h.bs.next hb, own_below h.zown hb, h.zne, fun i hi => (h.zk i hi).below hb⟩
theorem BsZ.set {w W : World} {g c : Nat} {us : List Value} {B B' : List W2} {vz : Value} {Z : List ByteArray} (h : BsZ w W g c us B vz Z) (k : Nat) (u : Value) (x : C2) (hu : keysAv W (some g) u x.1) (hz : keysAv W vz.ownBlock u x.1) (hl : B'.length = B.length)
    (he : B'.map (·.1) = (B.map (·.1)).set k x) : BsZ w ((W.setCell ⟨g, k * 2, none⟩ u).setCell ⟨g, k * 2 + 1, none⟩ (.string x.2)) g c (us.set k u) B' vz Z := by
  have h1 := h.bs.set k u x hu hl he
  have hgr : W.grownBy ((W.setCell ⟨g, k * 2, none⟩ u).setCell ⟨g, k * 2 + 1, none⟩ (.string x.2)) (some g) := grown_trans (Lib.grownBy_setCell W g (k * 2) u) (Lib.grownBy_setCell _ g (k * 2 + 1) (.string x.2))
  refine ⟨h1, h.zown.kept hgr (.inr h.zne), h.zne, fun i hi => ?_⟩
  have ha := (h1.at i hi).keys.to
  by_cases e : k = i
  · subst e
    have hlen : us.length = B.length := by have := h.bs.own.len; rwa [List.length_map] at this
    have e1 : (us.set k u).getD k undef = u := by simp [List.getD, hlen, show k < B.length by omega]
    have e2 : (B'.getD k grpW.zero).1 = x := by
      rw [← getD_map, he]
      simp [List.getD, show k < B.length by omega]
    rw [e1, e2] at ha ⊢
    exact hz.also ha
  · have e1 : (us.set k u).getD i undef = us.getD i undef := by simp [List.getD, e]
    have e2 : (B'.getD i grpW.zero).1 = (B.getD i grpW.zero).1 := by
      rw [← getD_map, ← getD_map, he]
      simp [List.getD, e]
    rw [e1, e2] at ha ⊢
    exact (h.zk i (by omega)).also ha
theorem BsZ.load {w W W' : World} {g c : Nat} {us : List Value} {B : List W2} {vz vz' : Value} {Z : List ByteArray} {y : ByteArray} (h : BsZ w W g c us B vz Z) (hg : W.grownBy W' vz.ownBlock)
    (ho : W'.ownsRow w.heap.size 9 1 vz' (Z ++ [y]).length ((Z ++ [y]).map Value.string)) (hv : vz'.ownBlock = vz.ownBlock ∨ vz'.ownBlock = some W.heap.size) : BsZ w W' g c us B vz' (Z ++ [y]) := by
  have hblk := h.bs.blk
  have hown := h.bs.own.other hg (fun e => h.zne e.symm) (fun i hi => by rw [getD_map]; exact h.zk i (by rwa [List.length_map] at hi))
  refine ⟨⟨h.bs.below.grown hg h.bs.below.size (fun j e => (h.zown.lt j e).1), hown⟩, ho, ?_, fun i hi => ?_⟩
  · rcases hv with e | e
    · rw [e]; exact h.zne
    · rw [e]; intro e2; have := Option.some.inj e2; omega
  · have h1 := (h.zk i hi).grown hg
    rcases hv with e | e
    · rw [e]; exact h1
    · rw [e]
      exact ((h.zk i hi).avoid (b' := some W.heap.size) (fun j hj e2 => by have := Option.some.inj e2; omega)).also h1.to
theorem BsZ.push {w W W' : World} {g c g3 c3 : Nat} {us us' : List Value} {B B' : List W2} {vz : Value} {Z : List ByteArray} {u : Value} {x : C2} (h : BsZ w W g c us B vz Z) (hg : W.grownBy W' (some g)) (hbs : BsC w W' g3 c3 (us ++ us') B') (hul : us'.length = 1)
    (he : B'.map (·.1) = B.map (·.1) ++ [x]) (hu0 : ∀ i, i < B'.length → i = B.length → (us ++ us').getD i undef = u) (hz : keysAv W vz.ownBlock u x.1) (hv : some g3 = some g ∨ some g3 = some W.heap.size) : BsZ w W' g3 c3 (us ++ us') B' vz Z := by
  have hlen : us.length = B.length := by have := h.bs.own.len; rwa [List.length_map] at this
  have hl : B'.length = B.length + 1 := by have := congrArg List.length he; simpa using this
  refine ⟨hbs, h.zown.kept hg (.inr h.zne), fun e => ?_, fun i hi => ?_⟩
  · rcases hv with e2 | e2
    · rw [e2] at e; exact h.zne e
    · rw [e2] at e; have := (h.zown.lt _ e).2; omega
  · have ha := (hbs.at i hi).keys.to
    by_cases hlt : i < B.length
    · have e1 : (us ++ us').getD i undef = us.getD i undef := by simp only [List.getD]; rw [List.getElem?_append_left (by omega)]
      have e2 : (B'.getD i grpW.zero).1 = (B.getD i grpW.zero).1 := by
        rw [← getD_map, ← getD_map, he]
        simp only [List.getD]; rw [List.getElem?_append_left (by rw [List.length_map]; exact hlt)]
      rw [e1, e2] at ha ⊢
      exact (h.zk i hlt).also ha
    · have hi2 : i = B.length := by omega
      have e1 := hu0 i hi hi2
      have e2 : (B'.getD i grpW.zero).1 = x := by
        rw [← getD_map, he, hi2]
        simp only [List.getD]; rw [List.getElem?_append_right (by rw [List.length_map]; exact Nat.le_refl _)]; simp
      rw [e1, e2] at ha ⊢
      exact hz.also ha
/-- rows on their way to take one in -/
structure InZ (w W : World) (g c : Nat) (us : List Value) (B : List W2) (n b8 : Nat) (vX : Value) (X : C2) (vz : Value) (Z : List ByteArray) : Prop where
  bz : BsZ w W g c us B vz Z
  len : B.length = n
  box : W.heap[b8]? = some (.cells #[vX, .string X.2] 27)
  key : keysAv W (some g) vX X.1
  zx : keysAv W vz.ownBlock vX X.1
  ne : g < b8
theorem InZ.next {w W W' : World} {g c : Nat} {us : List Value} {B : List W2} {n b8 : Nat} {vX : Value} {X : C2} {vz : Value} {Z : List ByteArray} (h : InZ w W g c us B n b8 vX X vz Z) (hb : Below W.heap.size W W') : InZ w W' g c us B n b8 vX X vz Z :=
  ⟨h.bz.next hb, h.len, (hb.block _ (Array.getElem?_eq_some_iff.1 h.box).1).trans h.box, h.key.below hb, h.zx.below hb, h.ne⟩
theorem InZ.set {w W : World} {g c : Nat} {us : List Value} {B B' : List W2} {n b8 : Nat} {vX : Value} {X : C2} {vz : Value} {Z : List ByteArray} (h : InZ w W g c us B n b8 vX X vz Z) (k : Nat) (u : Value) (x : C2) (hu : keysAv W (some g) u x.1) (hz : keysAv W vz.ownBlock u x.1) (hl : B'.length = B.length)
    (he : B'.map (·.1) = (B.map (·.1)).set k x) : InZ w ((W.setCell ⟨g, k * 2, none⟩ u).setCell ⟨g, k * 2 + 1, none⟩ (.string x.2)) g c (us.set k u) B' n b8 vX X vz Z := by
  have hne := h.ne
  have hgr : W.grownBy ((W.setCell ⟨g, k * 2, none⟩ u).setCell ⟨g, k * 2 + 1, none⟩ (.string x.2)) (some g) := grown_trans (Lib.grownBy_setCell W g (k * 2) u) (Lib.grownBy_setCell _ g (k * 2 + 1) (.string x.2))
  have hk := h.key.grown hgr
  exact ⟨h.bz.set k u x hu hz hl he, hl.trans h.len, (hgr.block _ (Array.getElem?_eq_some_iff.1 h.box).1 (fun e => by cases e; omega)).trans h.box, hk, h.zx.also hk.to, hne⟩
theorem InZ.same {w W : World} {g c : Nat} {us : List Value} {X : W2} {B : List W2} {j n b8 : Nat} {vX : Value} {vz : Value} {Z : List ByteArray} (h : InZ w W g c us (insN X B j) n b8 vX X.1 vz Z) (hs : (insN X B (j + 1)).map (·.1) = ((insN X B j).map (·.1)).set j (insS ordW.toPla X (B.getD j grpW.zero)).1)
    (hg : (insN X B j).getD j grpW.zero = B.getD j grpW.zero) (he : insS ordW.toPla X (B.getD j grpW.zero) = B.getD j grpW.zero) (hj : j < B.length) : InZ w W g c us (insN X B (j + 1)) n b8 vX X.1 vz Z := by
  have hl : (insN X B j).length = B.length := insN_len X B j
  have e : (insN X B (j + 1)).map (·.1) = (insN X B j).map (·.1) := by
    rw [hs, he, ← hg]
    exact set_same_map _ j _ (getD_W _ j (by omega)) (by rw [List.length_map]; omega)
  have hl2 : (insN X B (j + 1)).length = B.length := insN_len X B (j + 1)
  have e3 : insN X B (j + 1) = insN X B j := (List.map_inj_right (fun a b h => Subtype.ext h)).1 e
  rw [e3]
  exact h
set_option maxRecDepth 100000 in
theorem sbit_any (s : ByteArray) (b : Nat) (hs : s.size = 4) (hb : b < 32) (w : World) : Calls Try.prog 86 #[.string s, .int .i64 (b : Int)] w fun e w' => e = .returned (.bool (bitL s b)) ∧ w' = w := by
  have z0 : (0 : Int) ≤ ((b / 8 : Nat) : Int) := by omega
  have z1 : ((b / 8 : Nat) : Int) < 4 := by omega
  have z2 : b / 8 < s.size := by omega
  have hs4 : (s.size : Int) = 4 := by omega
  have hbl : bitL s b = ((s[b / 8]'z2).toNat / 2 ^ (b % 8) % 2 == 1) := by
    unfold bitL
    have e : s.data.toList.getD (b / 8) 0 = s[b / 8]'z2 := by
      rw [List.getD, List.getElem?_eq_getElem (by simpa using z2)]; rfl
    rw [e, Nat.testBit_eq_decide_div_mod_eq]
    rfl
  have hlt := (s[b / 8]'z2).toNat_lt
  rw [hbl]
  clear hbl
  generalize hn : (s[b / 8]'z2).toNat = n at *
  go_enter Try.func86, Try.ntmps86
  have hq : (bits .and .u8 ((n : Int) / 2 ^ (b % 8)) 1 == 1) = (n / 2 ^ (b % 8) % 2 == 1) := by
    have h1 : (n : Int) / 2 ^ (b % 8) = ((n / 2 ^ (b % 8) : Nat) : Int) := by rw [Int.natCast_ediv, Int.natCast_pow]; rfl
    have h2 : n / 2 ^ (b % 8) < 256 := Nat.lt_of_le_of_lt (Nat.div_le_self _ _) hlt
    rw [h1]
    generalize n / 2 ^ (b % 8) = m at *
    have h3 : bits .and .u8 (m : Int) 1 = ((m % 2 : Nat) : Int) := by
      show IntKind.u8.wrap ((BitVec.ofInt 8 (m : Int) &&& BitVec.ofInt 8 ((1 : Nat) : Int)).toNat : Nat) = _
      rw [bv_nat, bv_nat, BitVec.toNat_and, BitVec.toNat_ofNat, BitVec.toNat_ofNat, Nat.mod_eq_of_lt (by omega), Nat.mod_eq_of_lt (by omega), Nat.and_one_is_mod]
      have : m % 2 < 2 := Nat.mod_lt _ (by decide)
      rw [IntKind.wrap_u8]; omega
    rw [h3, Bool.eq_iff_iff, beq_iff_eq, beq_iff_eq]
    omega
  have HQ := Lib.hid hq
  clear hq
  go_wp2
  go_ret
  exact ⟨by rw [← HQ.out]; rfl, rfl⟩
theorem keysAv_ownO {w : World} {base : Nat} {o : Option Nat} {v : Value} {ks : List K2} (h : w.ownsRow base 44 2 v ks.length (keyCells ks)) (hb : ∀ b, o = some b → b < base) : keysAv w o v ks := by
  cases o with
  | none => exact keysAv_of (keysAt_own h) fun g _ e => by cases e
  | some b => exact keysAv_own h (hb b rfl)
theorem infoStr : (Try.prog.info? 9).map (fun i => (i.zero, i.size, i.bytes)) = some (some (.string ⟨#[]⟩), 1, 16) := by kernel_rfl
theorem wpList_append_str {ops : Array Oper} {rest : List Oper} {o : Oper} {a : Act} {w : World} {Q : Exit → Act → World → Prop} (hgd : o.guard = none) (s x : Operand)
    (ho : o.op = .call { callee := .builtin .append, args := #[s, x], argTypes := #[109, 109] })
    {base : Nat} {v : Value} {Z : List ByteArray} (hown : w.ownsRow base 9 1 v Z.length (Z.map Value.string)) (g : Nat) (y : ByteArray) (hu : w.heap[g]? = some (.cells #[.string y] 9 (0, 0))) (hs : a.eval s = v) (hx : a.eval x = .slice (some ⟨g, 0, none⟩) 1 1) (hn : Z.length ≤ 100000) (hbase : base ≤ w.heap.size)
    (h : ∀ v' w', w'.ownsRow base 9 1 v' (Z ++ [y]).length ((Z ++ [y]).map Value.string) → w.grownBy w' v.ownBlock → (v'.ownBlock = v.ownBlock ∨ v'.ownBlock = some w.heap.size) → wpList Try.prog ops Q rest (a.put o.dst v') w') : wpList Try.prog ops Q (o :: rest) a w := by
  refine wpList_plain hgd fun K hK => ?_
  obtain ⟨i0, hi, hz0, hz1, hz2⟩ := info_parts infoStr
  obtain ⟨v', w', hr, h2, h3, h4, h5⟩ := run_append_own_at (P := Try.prog) w base 109 o.type 9 i0 (.string ⟨#[]⟩) 1 16 Try.underlying109 hi hz0 hz1 hz2 rfl (by decide) v Z.length (Z.map Value.string) hown ⟨g, 0, none⟩ 1 1 [.string y] rfl
    (fun j u hj => by
      have hadd : (⟨g, 0, none⟩ : Addr).add j = ⟨g, j, none⟩ := by unfold Addr.add; split <;> simp_all
      rw [hadd, cell_of_row _ _ _ _ _ _ hu]
      simpa using hj) (fun u hu => by rcases List.mem_singleton.1 hu with rfl; rfl) (by unfold maxLen; omega) (by omega) hbase
  unfold Oper.wp execOp
  simp only [ho, resolve, invoke, builtin, Sem.run_bind, Sem.run_pure, Result.andThen_ok, List.map_toArray, List.map_cons, List.map_nil, hs, hx, hr]
  refine hK _ _ (h v' w' ?_ h3 h5)
  rw [List.length_append, List.map_append]
  exact h2
theorem wpList_append_cd1 {ops : Array Oper} {rest : List Oper} {o : Oper} {a : Act} {w : World} {Q : Exit → Act → World → Prop} (hgd : o.guard = none) (s x : Operand)
    (ho : o.op = .call { callee := .builtin .append, args := #[s, x], argTypes := #[24, 24] })
    {base : Nat} {v : Value} {us : List Value} {L : List C2} (hown : cdOwn w base v us L) (g0 : Nat) (u : Value) (z : C2) (hu : w.heap[g0]? = some (.cells #[u, .string z.2] 27 (0, 0))) (hus : ∃ a n c, u = .slice a n c) (hk : keysAv w v.ownBlock u z.1)
    (hs : a.eval s = v) (hx : a.eval x = .slice (some ⟨g0, 0, none⟩) 1 1) (hn : L.length ≤ 1000000) (hbase : base ≤ w.heap.size)
    (h : ∀ v' w', cdOwn w' base v' (us ++ [u]) (L ++ [z]) → w.grownBy w' v.ownBlock → (v'.ownBlock = v.ownBlock ∨ v'.ownBlock = some w.heap.size) → wpList Try.prog ops Q rest (a.put o.dst v') w') : wpList Try.prog ops Q (o :: rest) a w := by
  refine wpList_plain hgd fun K hK => ?_
  obtain ⟨i0, hi, hz0, hz1, hz2⟩ := info_parts infoC
  obtain ⟨v', w', hr, h2, h3, h4, h5⟩ := run_append_own_at (P := Try.prog) w base 24 o.type 27 i0 (.agg #[.slice none 0 0, .string ⟨#[]⟩]) 2 40 Try.underlying24 hi hz0 hz1 hz2 rfl (by decide) v L.length (cdCells us L) hown.own ⟨g0, 0, none⟩ 1 1 (cdCells [u] [z]) rfl
    (fun j q hj => by
      have hadd : (⟨g0, 0, none⟩ : Addr).add j = ⟨g0, j, none⟩ := by unfold Addr.add; split <;> simp_all
      rw [hadd, cell_of_row _ _ _ _ _ _ hu]
      simpa [cdCells] using hj) (cdCells_one [u] [z] (fun q hq => by rcases List.mem_singleton.1 hq with rfl; exact hus)) (by unfold maxLen; omega) (by omega) hbase
  unfold Oper.wp execOp
  simp only [ho, resolve, invoke, builtin, Sem.run_bind, Sem.run_pure, Result.andThen_ok, List.map_toArray, List.map_cons, List.map_nil, hs, hx, hr]
  refine hK _ _ (h v' w' ⟨by simp [hown.len], by rw [cdCells_app _ _ _ _ hown.len, List.length_append]; exact h2, fun i hi => ?_⟩ h3 h5)
  have hk0 : keysAv w v.ownBlock ((us ++ [u]).getD i undef) ((L ++ [z]).getD i blankC).1 := by
    rw [List.length_append, List.length_singleton] at hi
    by_cases hlt : i < L.length
    · have e1 : (us ++ [u]).getD i undef = us.getD i undef := by simp only [List.getD]; rw [List.getElem?_append_left (by rw [hown.len]; exact hlt)]
      have e2 : (L ++ [z]).getD i blankC = L.getD i blankC := by simp only [List.getD]; rw [List.getElem?_append_left hlt]
      rw [e1, e2]; exact hown.keys i hlt
    · obtain rfl : i = L.length := by omega
      have e1 : (us ++ [u]).getD L.length undef = u := by rw [← hown.len]; simp [List.getD]
      have e2 : (L ++ [z]).getD L.length blankC = z := by simp [List.getD]
      rw [e1, e2]; exact hk
  have hk1 := hk0.grown h3
  rcases h5 with e | e
  · rw [e]; exact hk1
  · rw [e]
    exact (hk0.avoid (b' := some w.heap.size) (fun j hj e2 => by have := Option.some.inj e2; omega)).also hk1.to
theorem base_z_len (L : List C2) (k : Nat) : (baseG ordW (rowsN L k)).2.length ≤ 20 := by
  suffices H : ∀ n (M : List W2), M.length = n → (baseG ordW M).2.length ≤ n from Nat.le_trans (H _ _ rfl) (rowsN_le L k).1
  intro n
  induction n with
  | zero => intro M hM; obtain rfl : M = [] := List.length_eq_zero_iff.1 hM; exact Nat.le_refl _
  | succ n ih =>
    intro M hM
    have hne : M ≠ [] := by intro e; rw [e] at hM; cases hM
    have hi := ih M.dropLast (by simp [hM])
    have e := List.dropLast_concat_getLast hne
    rw [← e, base_snoc]
    unfold baseS
    split
    · simp; omega
    · dsimp only; omega
def loadsEnd (M : List W2) (y : L4) : L4 := ((List.range 32).foldl (elimS bitsPla) ((baseG ordW M).2.map ldW, y)).2
end Go.Proofs.Ytcecodjipeahkaa
namespace Go.Proofs.Ytcecodjipeahkaa
open Go.ChangeShapes Go.WideShapes Go.ChangeAt Go.RowKit Go.BigFrame
set_option linter.unusedVariables false

abbrev zL4 : L4 := grpL.zero
def strsL (Z : List L4) : List Value := Z.map fun z => Value.string z.1
theorem strsL_get (Z : List L4) (i : Nat) (hi : i < Z.length) : (strsL Z)[i]? = some (.string (Z.getD i zL4).1) := by simp [strsL, hi]
theorem strsL_set (Z : List L4) (i : Nat) (z : L4) : (strsL Z).set i (.string z.1) = strsL (Z.set i z) := by simp [strsL, List.map_set]
theorem strsL_ld (Z : List W2) : (Z.map (·.1.2)).map Value.string = strsL (Z.map ldW) := by simp [strsL, ldW]
structure LdO (w W : World) (a : Option Addr) (n c : Nat) (Z : List L4) : Prop where
  below : Below w.heap.size w W
  len : Z.length = n
  own : W.ownsRow w.heap.size 9 1 (.slice a n c) n (strsL Z)
theorem LdO.next {w W W' : World} {a : Option Addr} {n c : Nat} {Z : List L4} (h : LdO w W a n c Z) (hb : Below W.heap.size W W') : LdO w W' a n c Z := ⟨h.below.trans (hb.mono h.below.size), h.len, own_below h.own hb⟩
theorem LdO.set {w W : World} {g n c : Nat} {Z : List L4} (h : LdO w W (some ⟨g, 0, none⟩) n c Z) (i : Nat) (z : L4) : LdO w (W.setCell ⟨g, i, none⟩ (.string z.1)) (some ⟨g, 0, none⟩) n c (Z.set i z) := by
  have st := h.own.stored i (.string z.1)
  rw [strsL_set] at st
  exact ⟨h.below.setCell (p := ⟨g, i, none⟩) (h.own.lt g rfl).1 _, by rw [List.length_set, h.len], st.1⟩
theorem LdO.at {w W : World} {g n c : Nat} {Z : List L4} (h : LdO w W (some ⟨g, 0, none⟩) n c Z) (i : Nat) (hi : i < n) : W.cell? ⟨g, i, none⟩ = some (.string (Z.getD i zL4).1) ∧ W.frozen? ⟨g, i, none⟩ = false ∧ g < W.heap.size := by
  refine ⟨?_, h.own.frozenAt i, (h.own.lt g rfl).2⟩
  rw [h.own.cellAt i (by omega)]
  exact strsL_get Z i (by rw [h.len]; exact hi)
def stL (Z : List L4) (y : L4) (b : Nat) : List L4 × L4 := (List.range b).foldl (elimS bitsPla) (Z, y)
theorem stL_succ (Z : List L4) (y : L4) (b : Nat) : stL Z y (b + 1) = elimS bitsPla (stL Z y b) b := by
  unfold stL
  rw [List.range_succ, List.foldl_append]; rfl
/-- the first load with a one -/
def firstI (Z : List L4) (b : Nat) : Nat → Int
  | 0 => -1
  | k + 1 => if firstI Z b k < 0 ∧ bitL (Z.getD k zL4).1 b = true then (k : Int) else firstI Z b k
theorem firstI_cases (Z : List L4) (b : Nat) : ∀ k, (firstI Z b k = -1 ∧ ∀ j, j < k → bitL (Z.getD j zL4).1 b = false) ∨ ∃ i, i < k ∧ firstI Z b k = (i : Int) ∧ bitL (Z.getD i zL4).1 b = true ∧ ∀ j, j < i → bitL (Z.getD j zL4).1 b = false
  | 0 => .inl ⟨rfl, fun j hj => by omega⟩
  | k + 1 => by
    rcases firstI_cases Z b k with ⟨h1, h2⟩ | ⟨i, h1, h2, h3, h4⟩
    · cases hb : bitL (Z.getD k zL4).1 b with
      | true =>
        right
        refine ⟨k, by omega, ?_, hb, h2⟩
        show (if _ then _ else _) = _
        rw [if_pos ⟨by omega, hb⟩]
      | false =>
        left
        refine ⟨?_, fun j hj => ?_⟩
        · show (if _ then _ else _) = _
          rw [if_neg (by rw [hb]; simp)]; exact h1
        · rcases (by omega : j < k ∨ j = k) with h | rfl
          · exact h2 j h
          · exact hb
    · right
      refine ⟨i, by omega, ?_, h3, h4⟩
      show (if _ then _ else _) = _
      rw [if_neg (by omega)]; exact h2
theorem elim_none (Z : List L4) (v : L4) (b : Nat) (h : ∀ j, j < Z.length → bitL (Z.getD j zL4).1 b = false) : elimS bitsPla (Z, v) b = (Z, v) := by
  have hf : (Z, v).1.find? (fun z => bitsPla.has z b) = none := by
    refine List.find?_eq_none.2 fun z hz => ?_
    obtain ⟨j, hj, rfl⟩ := List.mem_iff_getElem.1 hz
    have := h j hj
    rw [List.getD, List.getElem?_eq_getElem hj] at this
    have e : bitsPla.has Z[j] b = false := this
    rw [e]; simp
  unfold elimS
  rw [hf]
theorem elim_some (Z : List L4) (v : L4) (b i : Nat) (hi : i < Z.length) (h1 : bitL (Z.getD i zL4).1 b = true) (h : ∀ j, j < i → bitL (Z.getD j zL4).1 b = false) :
    elimS bitsPla (Z, v) b = (Z.map (elimF bitsPla (Z.getD i zL4) b), elimF bitsPla (Z.getD i zL4) b v) := by
  have e : Z.getD i zL4 = Z[i] := by simp [List.getD, hi]
  have hf : (Z, v).1.find? (fun z => bitsPla.has z b) = some (Z.getD i zL4) := by
    rw [e]
    refine List.find?_eq_some_iff_getElem.2 ⟨?_, i, hi, rfl, fun j hj => ?_⟩
    · rw [e] at h1; exact h1
    · have := h j hj
      have e2 : Z.getD j zL4 = Z[j] := by simp [List.getD, show j < Z.length by omega]
      rw [e2] at this
      have e3 : bitsPla.has Z[j] b = false := this
      rw [e3]; rfl
  unfold elimS
  rw [hf]
/-- the loads, the first k of which have had one taken in -/
def mapL (one : L4) (b : Nat) (Z : List L4) (k : Nat) : List L4 := (Z.take k).map (elimF bitsPla one b) ++ Z.drop k
theorem mapL_len (one : L4) (b : Nat) (Z : List L4) (k : Nat) : (mapL one b Z k).length = Z.length := by
  unfold mapL
  rw [List.length_append, List.length_map, List.length_take, List.length_drop]; omega
theorem mapL_get (one : L4) (b : Nat) (Z : List L4) (k : Nat) (hk : k < Z.length) : (mapL one b Z k).getD k zL4 = Z.getD k zL4 := by
  unfold mapL
  simp only [List.getD]
  rw [List.getElem?_append_right (by rw [List.length_map, List.length_take]; omega), List.length_map, List.length_take, Nat.min_eq_left (by omega), Nat.sub_self, List.getElem?_drop, Nat.add_zero]
theorem mapL_succ (one : L4) (b : Nat) (Z : List L4) (k : Nat) (hk : k < Z.length) : mapL one b Z (k + 1) = (mapL one b Z k).set k (elimF bitsPla one b (Z.getD k zL4)) := by
  unfold mapL
  have e : (Z.take k).length = k := by rw [List.length_take]; omega
  have e2 : (List.map (elimF bitsPla one b) (Z.take k)).length = k := by rw [List.length_map, e]
  rw [List.take_succ_eq_append_getElem hk, List.map_append, List.drop_eq_getElem_cons hk, List.set_append_right _ _ (by omega), e2, Nat.sub_self, List.set_cons_zero, List.append_assoc]
  simp [List.getD, hk]
theorem mapL_same (one : L4) (b : Nat) (Z : List L4) (k : Nat) (hk : k < Z.length) (h : bitL (Z.getD k zL4).1 b = false) : mapL one b Z (k + 1) = mapL one b Z k := by
  rw [mapL_succ one b Z k hk]
  have e : elimF bitsPla one b (Z.getD k zL4) = Z.getD k zL4 := by
    unfold elimF
    have : bitsPla.has (Z.getD k zL4) b = false := h
    rw [this]; rfl
  rw [e, ← mapL_get one b Z k hk]
  have hl := mapL_len one b Z k
  generalize mapL one b Z k = M at *
  simp [List.getD, show k < M.length by omega]
theorem mapL_all (one : L4) (b : Nat) (Z : List L4) : mapL one b Z Z.length = Z.map (elimF bitsPla one b) := by
  unfold mapL
  rw [List.take_length, List.drop_length, List.append_nil]
theorem elimF_yes (one : L4) (b : Nat) (z : L4) (h : bitL z.1 b = true) : elimF bitsPla one b z = grpL.add z one := by
  unfold elimF
  have : bitsPla.has z b = true := h
  rw [if_pos this]
theorem elimF_no (one : L4) (b : Nat) (z : L4) (h : bitL z.1 b = false) : elimF bitsPla one b z = z := by
  unfold elimF
  have : bitsPla.has z b = false := h
  rw [this]; rfl
end Go.Proofs.Ytcecodjipeahkaa
namespace Go.Proofs.Ytcecodjipeahkaa
open Go.ChangeShapes Go.WideShapes Go.ChangeAt Go.RowKit Go.BigFrame
set_option linter.unusedVariables false

theorem all_range_int : ∀ (xs ys : List Int), xs.length = ys.length → ((List.range xs.length).all fun i => xs.getD i 0 == ys.getD i 0) = (xs == ys)
  | [], [], _ => rfl
  | x :: xs, y :: ys, h => by
    have ih := all_range_int xs ys (by simpa using h)
    rw [List.length_cons, List.range_succ_eq_map, List.all_cons, List.all_map]
    simp only [List.getD_cons_zero, Function.comp_def, List.getD_cons_succ, ih]
    simp [List.cons_beq_cons]
  | [], _ :: _, h => by simp at h
  | _ :: _, [], h => by simp at h
section
variable {P : Program} (w : World)
theorem run_equalIn_u64 (d : Nat) (t e : TypeId) (n : Nat) (ht : P.underlying t = some (.array n e)) (he : P.underlying e = some (.int .u64)) (hsz : ∀ w, (sizeOf e).run P w = .ok 1 w)
    (xs ys : List Int) (hx : xs.length = n) (hy : ys.length = n) :
    (Op.equalIn (d + 2) t (.agg (xs.map (Value.int .u64)).toArray) (.agg (ys.map (Value.int .u64)).toArray)).run P w = .ok (xs == ys) w := by
  rw [← all_range_int xs ys (hx.trans hy.symm), hx, List.range_eq_range', Op.equalIn]
  simp only [Sem.run_bind, run_underlying ht, Result.andThen_ok, hsz, Std.Legacy.Range.forIn_eq_forIn_range', Std.Legacy.Range.size, Nat.sub_zero, Nat.add_sub_cancel, Nat.div_one]
  have hl : ∀ i ∈ List.range' 0 n 1, i < n := fun i hi => by simpa using (List.mem_range'_1.1 hi).2
  generalize List.range' 0 n 1 = l at hl ⊢
  induction l with
  | nil => simp
  | cons i l ih =>
    have hi : i < n := hl i (by simp)
    have px : (part e (xs.map (Value.int .u64)).toArray (i * 1)).run P w = .ok (Value.int .u64 (xs.getD i 0)) w := by
      simp [part, isAgg, run_underlying he, List.getD, List.getElem?_eq_getElem (show i < xs.length by omega)]
    have py : (part e (ys.map (Value.int .u64)).toArray (i * 1)).run P w = .ok (Value.int .u64 (ys.getD i 0)) w := by
      simp [part, isAgg, run_underlying he, List.getD, List.getElem?_eq_getElem (show i < ys.length by omega)]
    have pe : (Op.equalIn (d + 1) e (Value.int .u64 (xs.getD i 0)) (Value.int .u64 (ys.getD i 0))).run P w = .ok (xs.getD i 0 == ys.getD i 0) w := by
      rw [run_equalIn_int w d e .u64 .u64 _ _ he]
    simp only [List.forIn_cons, Sem.run_bind, px, py, pe, Result.andThen_ok, List.all_cons]
    cases hb : (xs.getD i 0 == ys.getD i 0)
    · simp
    · simp only [Bool.not_true, Bool.false_eq_true, if_false, Sem.run_pure, Result.andThen_ok, Bool.true_and]
      exact ih fun j hj => hl j (by simp [hj])
theorem run_eql_u64 (t e : TypeId) (n : Nat) (ht : P.underlying t = some (.array n e)) (he : P.underlying e = some (.int .u64)) (hsz : ∀ w, (sizeOf e).run P w = .ok 1 w)
    (xs ys : List Int) (hx : xs.length = n) (hy : ys.length = n) :
    (binOp .eql t (.agg (xs.map (Value.int .u64)).toArray) (.agg (ys.map (Value.int .u64)).toArray)).run P w = .ok (.bool (xs == ys)) w := by
  rw [run_eql_struct, run_equalIn_u64 w 9998 t e n ht he hsz xs ys hx hy]
  rfl
end
theorem u64_sz : ∀ w : World, (sizeOf 74).run Try.prog w = .ok 1 w := by
  obtain ⟨i0, h1, h2⟩ : ∃ i, Try.prog.info? 74 = some i ∧ i.size = 1 := by
    have h : (Try.prog.info? 74).map (·.size) = some 1 := by kernel_rfl
    cases hq : Try.prog.info? 74 with
    | none => rw [hq] at h; simp at h
    | some i => rw [hq] at h; exact ⟨i, rfl, by simpa using h⟩
  intro w
  simp [sizeOf, typeInfo, h1, h2]
def rowI (f : Nat → Bool) : List Int := (List.range 32).map fun j => ((rowB f j : Nat) : Int)
theorem rowI_map (f : Nat → Bool) : (rowI f).map (Value.int .u64) = rowV f := by simp [rowI, rowV]
theorem hX_ext {x y : W2} (h : ∀ p, p < 2048 → hX x p = hX y p) : x = y := by
  have h0 := hX_none (grpW.add x y) fun p hp => by rw [hX_add, h p (by omega)]; simp
  have h2 := grpW.back x y
  rw [h0, grpW.zr] at h2
  exact h2
theorem rowI_eq (x y : W2) : (rowI (hX x) == rowI (hX y)) = decide (x = y) := by
  rw [Bool.eq_iff_iff, beq_iff_eq, decide_eq_true_eq]
  constructor
  · intro h
    refine hX_ext fun p hp => rowV_inj ?_ p hp
    rw [← rowI_map, h, rowI_map]
  · rintro rfl; rfl
theorem row_eql (x y : W2) (w : World) : (binOp .eql 76 (.agg (rowA (hX x))) (.agg (rowA (hX y)))).run Try.prog w = .ok (.bool (decide (x = y))) w := by
  have := run_eql_u64 (P := Try.prog) w 76 74 32 Try.underlying76 Try.underlying74 u64_sz (rowI (hX x)) (rowI (hX y)) (by simp [rowI]) (by simp [rowI])
  rw [rowI_map, rowI_map, rowI_eq] at this
  exact this
theorem zeros_row : #[.int .u64 0, .int .u64 0, .int .u64 0, .int .u64 0, .int .u64 0, .int .u64 0, .int .u64 0, .int .u64 0, .int .u64 0, .int .u64 0, .int .u64 0, .int .u64 0, .int .u64 0, .int .u64 0, .int .u64 0, .int .u64 0, .int .u64 0, .int .u64 0, .int .u64 0, .int .u64 0, .int .u64 0, .int .u64 0, .int .u64 0, .int .u64 0, .int .u64 0, .int .u64 0, .int .u64 0, .int .u64 0, .int .u64 0, .int .u64 0, .int .u64 0, .int .u64 0] = rowA (hX zW) := by
  rw [show hX zW = fun _ => false from funext hX_zero]
  exact rowA_zero
theorem row_eql_zero (x : W2) (w : World) : (binOp .eql 76 (.agg (rowA (hX x))) (.agg #[.int .u64 0, .int .u64 0, .int .u64 0, .int .u64 0, .int .u64 0, .int .u64 0, .int .u64 0, .int .u64 0, .int .u64 0, .int .u64 0, .int .u64 0, .int .u64 0, .int .u64 0, .int .u64 0, .int .u64 0, .int .u64 0, .int .u64 0, .int .u64 0, .int .u64 0, .int .u64 0, .int .u64 0, .int .u64 0, .int .u64 0, .int .u64 0, .int .u64 0, .int .u64 0, .int .u64 0, .int .u64 0, .int .u64 0, .int .u64 0, .int .u64 0, .int .u64 0])).run Try.prog w = .ok (.bool (decide (x = zW))) w := by
  rw [zeros_row]; exact row_eql x zW w
theorem row_guard (op : BinOp) (x y : Operand) (a b : Array Value) (w : World) : (eqGuard op 76 x y (.agg a) (.agg b)).run Try.prog w = .ok () w :=
  run_eqGuard_agg w op 76 x y _ _ (by kernel_rfl)
end Go.Proofs.Ytcecodjipeahkaa
namespace Go.Proofs.Ytcecodjipeahkaa
open Go.ChangeShapes Go.WideShapes Go.ChangeAt Go.RowKit Go.BigFrame
set_option linter.unusedVariables false

open Classical in
/-- a sum of some of the list's rows is just x -/
noncomputable def spanB (L : List C2) (x : C2) : Bool := decide (∃ h : wOk x, Span grpW (· ∈ rowsN L L.length) ⟨x, h⟩)
theorem spanB_no {L : List C2} {x : C2} (h : ¬ (keysOkR x.1 = true ∧ x.2.size = 4)) : spanB L x = false := by
  unfold spanB
  simp only [decide_eq_false_iff_not]
  exact fun ⟨g, _⟩ => h g
theorem spanB_yes {L : List C2} {x : C2} (h : wOk x) : spanB L x = true ↔ Span grpW (· ∈ rowsN L L.length) ⟨x, h⟩ := by
  unfold spanB
  simp only [decide_eq_true_eq]
  exact ⟨fun ⟨g, e⟩ => e, fun e => ⟨h, e⟩⟩
theorem lessX_same (R : List W2) (P : List Nat) (x : W2) (i : Nat) (h : hX (lessX R P x i) (P.getD i 0) = false) : lessX R P x (i + 1) = lessX R P x i := by
  show (if _ then _ else _) = _
  rw [h]; rfl
theorem lessX_turn (R : List W2) (P : List Nat) (x : W2) (i : Nat) (h : hX (lessX R P x i) (P.getD i 0) = true) : lessX R P x (i + 1) = grpW.add (lessX R P x i) (R.getD i zW) := by
  show (if _ then _ else _) = _
  rw [h]; rfl
/-- the row that is left, in its block -/
structure SpI (w W : World) (bl : Nat) (v v3 : Value) (Lw R : List W2) (P : List Nat) (y : W2) : Prop where
  sv : SvE w W v v3 Lw R P
  left : W.heap[bl]? = some (.cells (rowA (hX y)) 76 (0, 0))
  ge : w.heap.size ≤ bl
  apart : v.ownBlock ≠ some bl
  apart3 : v3.ownBlock ≠ some bl
theorem rowA_range {W : World} {bl : Nat} {f : Nat → Bool} (h : W.heap[bl]? = some (.cells (rowA f) 76 (0, 0))) : W.rangeAt bl 0 (rowV f) := by
  intro j v hj
  rw [Nat.zero_add, cell_of_row _ _ _ _ _ _ h]
  unfold rowA
  rw [List.getElem?_toArray]; exact hj
theorem rowA_there {W : World} {bl : Nat} {f : Nat → Bool} (h : W.heap[bl]? = some (.cells (rowA f) 76 (0, 0))) : W.there bl 0 32 := by
  intro j hj
  refine ⟨?_, by simp [World.frozen?, h]⟩
  rw [Nat.zero_add, cell_of_row _ _ _ _ _ _ h, rowA_get _ _ hj]; rfl
theorem setCells_heap : ∀ (vs : List Value) (o : Nat) (w : World) (g : Nat) (cs : Array Value) (t : TypeId), w.heap[g]? = some (.cells cs t (0, 0)) → (w.setCells g o vs).heap[g]? = some (.cells (setL cs.toList o vs).toArray t (0, 0))
  | [], o, w, g, cs, t, h => by simpa [World.setCells, setL] using h
  | v :: r, o, w, g, cs, t, h => by
    have h1 := set_cellsD (j := o) v h
    have := setCells_heap r (o + 1) _ g _ t h1
    simpa [World.setCells, setL] using this
theorem rowA_turn {W : World} {bl : Nat} {x y : W2} (h : W.heap[bl]? = some (.cells (rowA (hX x)) 76 (0, 0))) : (W.setCells bl 0 (rowV fun p => hX x p != hX y p)).heap[bl]? = some (.cells (rowA (hX (grpW.add x y))) 76 (0, 0)) := by
  rw [setCells_heap _ _ _ _ _ _ h, rowV_add]
  have e : setL (rowA (hX x)).toList 0 (rowV (hX (grpW.add x y))) = rowV (hX (grpW.add x y)) := by
    have := setL_front (rowV (hX x)) (rowV (hX (grpW.add x y))) [] (by rw [rowV_len, rowV_len])
    rw [List.append_nil, List.append_nil] at this
    unfold rowA
    rw [List.toList_toArray]; exact this
  rw [e]; rfl
theorem SpI.next {w W W' : World} {bl : Nat} {v v3 : Value} {Lw R : List W2} {P : List Nat} {y : W2} (h : SpI w W bl v v3 Lw R P y) (hb : Below W.heap.size W W') : SpI w W' bl v v3 Lw R P y :=
  ⟨h.sv.next hb, (hb.block _ (Array.getElem?_eq_some_iff.1 h.left).1).trans h.left, h.ge, h.apart, h.apart3⟩
theorem SvE.other {w0 w W W' : World} {bl : Nat} {v v3 : Value} {Lw R : List W2} {P : List Nat} (h : SvE w W v v3 Lw R P) (hg : W.grownBy W' (some bl))
    (ap : v.ownBlock ≠ some bl) (ap3 : v3.ownBlock ≠ some bl) (hb : Below w0.heap.size w0 W') (g1 : ∀ b, v.ownBlock = some b → w0.heap.size ≤ b) (g2 : ∀ b, v3.ownBlock = some b → w0.heap.size ≤ b) : SvE w0 W' v v3 Lw R P := by
  refine ⟨hb, h.el, h.few, g1, g2, ?_, ?_⟩
  · obtain ⟨a, c, e1, e2, e3⟩ := h.rows
    refine ⟨a, c, e1, e2, e3.imp_right ?_⟩
    rintro ⟨g, e4, e5, e6⟩
    subst e1; subst e4
    exact ⟨g, rfl, Nat.lt_of_lt_of_le e5 hg.size, fun i hi j v hv => hg.cell (e6 i hi j v hv) (fun e => ap e)⟩
  · obtain ⟨a, c, e1, e2, e3⟩ := h.piv
    refine ⟨a, c, e1, e2, e3.imp_right ?_⟩
    rintro ⟨g, e4, e5, e6⟩
    subst e1; subst e4
    exact ⟨g, rfl, Nat.lt_of_lt_of_le e5 hg.size, fun i hi => hg.cell (e6 i hi) (fun e => ap3 e)⟩
theorem SpI.turn {w W W' : World} {bl : Nat} {v v3 : Value} {Lw R : List W2} {P : List Nat} {x y : W2} (h : SpI w W bl v v3 Lw R P x) (ha : Alike (W.setCells bl 0 (rowV fun p => hX x p != hX y p)) W') : SpI w W' bl v v3 Lw R P (grpW.add x y) := by
  have hg := grown_setCells bl (rowV fun p => hX x p != hX y p) 0 W
  refine ⟨(h.sv.other hg h.apart h.apart3 (h.sv.below.grown hg h.sv.below.size (fun j e => by cases e; exact h.ge)) h.sv.geR h.sv.geP).next ha.below, ?_, h.ge, h.apart, h.apart3⟩
  rw [ha.heap]
  exact rowA_turn h.left
attribute [local irreducible] rowA rowV
set_option maxRecDepth 100000 in
set_option maxHeartbeats 2000000 in
theorem ispanned_any (vl : Value) (L : List C2) (vx : Value) (x : C2) (w : World) (h : cdAv w none vl L) (hl : L.length ≤ 1900000) (hks : ∀ x ∈ L, x.1.length ≤ 2000000) (hx : keysAt w vx x.1) (hxl : x.1.length ≤ 2000000) :
    Calls Try.prog 13 #[vl, .agg #[vx, .string x.2]] w fun e w' => e = .returned (.bool (spanB L x)) ∧ Below w.heap.size w w' := by
  have hb1 := (Below.refl w.heap.size w).alloc (Nat.le_refl _) (.cells #[vx, .string x.2] 27)
  have HR := Lib.hid (heap_alloc_new w (.cells #[vx, .string x.2] 27))
  have HB := Lib.hid hb1
  have HL := Lib.hid (cdAv_below h hb1)
  have HX := Lib.hid (keysAt_below hx hb1)
  have HK := Lib.hid (ikeysok_any vx x.1 (w.alloc (.cells #[vx, .string x.2] 27)) (keysAt_below hx hb1) hxl)
  obtain ⟨ax, cx, rfl, -, -⟩ := hx
  obtain ⟨x0, x1, -, -⟩ := row2_of HR.out
  clear hb1
  go_enter Try.func13, Try.ntmps13
  go_wp2_with fail
  generalize w.alloc (.cells #[.slice ax x.1.length cx, .string x.2] 27) = W at *
  refine HK.out.mono ?_
  rintro e w1 ⟨rfl, hb1⟩
  have HR1 := Lib.hid ((hb1.block _ (Array.getElem?_eq_some_iff.1 HR.out).1).trans HR.out)
  have HB1 := Lib.hid (HB.out.trans (hb1.mono HB.out.size))
  have HL1 := Lib.hid (cdAv_below HL.out hb1)
  have HX1 := Lib.hid (keysAt_below HX.out hb1)
  clear hb1 HR HB HL HX HK x0 x1
  obtain ⟨x0, x1, -, -⟩ := row2_of HR1.out
  cases h1 : keysOkR x.1 with
  | false =>
    have HN := Lib.hid (spanB_no (L := L) (x := x) fun g => by rw [h1] at g; cases g.1)
    clear h1
    go_wp2
    go_ret
    exact ⟨by rw [HN.out]; rfl, HB1.out⟩
  | true =>
    by_cases h4 : x.2.size = 4
    · have i4 : (x.2.size : Int) = 4 := by omega
      obtain ⟨xw, hxw⟩ : ∃ xw : W2, xw.1 = x := ⟨⟨x, h1, h4⟩, rfl⟩
      subst hxw
      have IR := Lib.hid (irow_any (.slice ax xw.1.1.length cx) xw.1.1 xw.1.2 w1 HX1.out xw.2.1 xw.2.2)
      rw [show hasX (xw.1.1, xw.1.2) = hX xw from rfl] at IR
      clear h1 h4
      go_wp2_with fail
      refine IR.out.mono ?_
      rintro e w2 ⟨rfl, hb2⟩
      have HB2 := Lib.hid (HB1.out.trans (hb2.mono HB1.out.size))
      have HL2 := Lib.hid (cdAv_below HL1.out hb2)
      have hrs := rowA_size (hX xw)
      have hone : (rowA (hX xw)).all (·.oneCell') = true := by unfold rowA; exact all_oneCell_toArray (rowV_one _)
      have HZ0 := Lib.hid (heap_alloc_new w2 (.cells #[.int .u64 0, .int .u64 0, .int .u64 0, .int .u64 0, .int .u64 0, .int .u64 0, .int .u64 0, .int .u64 0, .int .u64 0, .int .u64 0, .int .u64 0, .int .u64 0, .int .u64 0, .int .u64 0, .int .u64 0, .int .u64 0, .int .u64 0, .int .u64 0, .int .u64 0, .int .u64 0, .int .u64 0, .int .u64 0, .int .u64 0, .int .u64 0, .int .u64 0, .int .u64 0, .int .u64 0, .int .u64 0, .int .u64 0, .int .u64 0, .int .u64 0, .int .u64 0] 76))
      have hsr := World.setRow_alloc_new w2 #[.int .u64 0, .int .u64 0, .int .u64 0, .int .u64 0, .int .u64 0, .int .u64 0, .int .u64 0, .int .u64 0, .int .u64 0, .int .u64 0, .int .u64 0, .int .u64 0, .int .u64 0, .int .u64 0, .int .u64 0, .int .u64 0, .int .u64 0, .int .u64 0, .int .u64 0, .int .u64 0, .int .u64 0, .int .u64 0, .int .u64 0, .int .u64 0, .int .u64 0, .int .u64 0, .int .u64 0, .int .u64 0, .int .u64 0, .int .u64 0, .int .u64 0, .int .u64 0] (rowA (hX xw)) 76
      clear hb2 HB1 HL1 HX1 IR HR1 x0 x1
      go_wp2_with (refine wpList_store_rowTo rfl 76 (.tmp 5) (.tmp 21) rfl rfl w2.heap.size (rowA (hX xw)) rfl rfl 76 #[.int .u64 0, .int .u64 0, .int .u64 0, .int .u64 0, .int .u64 0, .int .u64 0, .int .u64 0, .int .u64 0, .int .u64 0, .int .u64 0, .int .u64 0, .int .u64 0, .int .u64 0, .int .u64 0, .int .u64 0, .int .u64 0, .int .u64 0, .int .u64 0, .int .u64 0, .int .u64 0, .int .u64 0, .int .u64 0, .int .u64 0, .int .u64 0, .int .u64 0, .int .u64 0, .int .u64 0, .int .u64 0, .int .u64 0, .int .u64 0, .int .u64 0, .int .u64 0] HZ0.out (by rw [hrs]; exact size_row) (by rw [hrs]; rfl) hone ?_)
      have hbA := (Below.refl w2.heap.size w2).alloc (Nat.le_refl _) (.cells (rowA (hX xw)) 76)
      have HA := Lib.hid (heap_alloc_new w2 (.cells (rowA (hX xw)) 76))
      have HB3 := Lib.hid (HB2.out.trans (hbA.mono HB2.out.size))
      have HL3 := Lib.hid (cdAv_below HL2.out hbA)
      have hsz3 : w2.heap.size < (w2.alloc (.cells (rowA (hX xw)) 76)).heap.size := by simp
      have hge : w.heap.size ≤ w2.heap.size := HB2.out.size
      clear hbA hsr HZ0 hone hrs HB2 HL2
      generalize w2.alloc (.cells (rowA (hX xw)) 76) = w3 at *
      generalize w2.heap.size = bl at *
      refine (isolved_any vl L w3 HL3.out hl hks).mono ?_
      rintro e w4 ⟨v, v3, R, P, rfl, hS⟩
      have hI : SpI w w4 bl v v3 (rowsN L L.length) R P (lessX R P xw 0) :=
        ⟨(hS.other (bl := bl) (World.grownBy.refl _ _) (fun e => by have := hS.geR _ e; omega) (fun e => by have := hS.geP _ e; omega) (HB3.out.trans (hS.below.mono HB3.out.size)) (fun b e => by have := hS.geR b e; omega) (fun b e => by have := hS.geP b e; omega)),
          (hS.below.block _ hsz3).trans HA.out, hge, (fun e => by have := hS.geR _ e; omega), (fun e => by have := hS.geP _ e; omega)⟩
      have HI := Lib.hid hI
      obtain ⟨a, c, rfl, hc, -⟩ := hS.rows
      obtain ⟨a3, c3, rfl, hc3, -⟩ := hS.piv
      have hfew : P.length ≤ 20 := hS.few
      clear hS hI HB3 HL3 HA hsz3
      go_wp2_with fail
      go_loopw [29] (fun i wx => ∃ (k : Nat) (wy : World), k ≤ P.length ∧ i = .int .i64 k ∧ wy = wx ∧ SpI w wy bl (.slice a P.length c) (.slice a3 P.length c3) (rowsN L L.length) R P (lessX R P xw k)) (fun i _ => P.length - (intOf i).toNat)
      case atStart => exact ⟨0, _, Nat.zero_le _, rfl, rfl, HI.out⟩
      case round =>
        obtain ⟨k, wy, hk, rfl, hwy, hJ⟩ := hrel
        subst hwy
        have HJ := Lib.hid hJ
        clear hJ HI
        by_cases hlt : k < P.length
        · have z0 : (0 : Int) ≤ (k : Int) := by omega
          have z1 : (k : Int) < (P.length : Int) := by omega
          obtain ⟨a', c', e1, -, hr⟩ := HJ.out.sv.rows
          cases e1
          obtain ⟨gr, rfl, hgr, hrr⟩ := hr.resolve_left (by omega)
          obtain ⟨a', c', e1, -, hp⟩ := HJ.out.sv.piv
          cases e1
          obtain ⟨gp, rfl, hgp, hpp⟩ := hp.resolve_left (by omega)
          have hc1 := hpp k hlt
          have hplt : P.getD k 0 < 2016 := HJ.out.sv.el.lt _ (by rw [List.getD, List.getElem?_eq_getElem hlt]; exact List.getElem_mem hlt)
          have hrk := hrr k hlt
          have hs0 := lessX_same R P xw k
          have hs1 := lessX_turn R P xw k
          have HS0 := Lib.hid hs0; have HS1 := Lib.hid hs1
          have hne : gr ≠ bl := fun e => HJ.out.apart (by rw [← e]; rfl)
          clear hs0 hs1 hr hp hrr hpp
          generalize P.getD k 0 = q at *
          have IH := Lib.hid (ihas_any bl 0 (hX (lessX R P xw k)) q (by omega) wy (rowA_range HJ.out.left))
          have IT := Lib.hid (iturn_any bl 0 (hX (lessX R P xw k)) gr (k * 32) (hX (R.getD k zW)) wy (rowA_range HJ.out.left) hrk (rowA_there HJ.out.left) (.inl hne))
          clear hrk
          go_wp2_with fail
          refine IH.out.mono ?_
          rintro e w5 ⟨rfl, hw5⟩
          have hw5' := hw5.symm
          clear hw5
          subst hw5'
          clear IH
          cases hb : hX (lessX R P xw k) q with
          | false =>
            have HE := Lib.hid (HS0.out hb)
            clear HS0 HS1 hb IT
            go_wp2_with fail
            exact ⟨⟨k + 1, _, by omega, by go_num, rfl, by rw [HE.out]; exact HJ.out⟩, by simp [intOf]; omega⟩
          | true =>
            have HE := Lib.hid (HS1.out hb)
            clear HS0 HS1 hb
            go_wp2_with fail
            refine IT.out.mono ?_
            rintro e w6 ⟨rfl, ha6⟩
            have HJ6 := Lib.hid (HJ.out.turn ha6)
            clear ha6 HJ IT
            go_wp2_with fail
            exact ⟨⟨k + 1, _, by omega, by go_num, rfl, by rw [HE.out]; exact HJ6.out⟩, by simp [intOf]; omega⟩
        · obtain rfl : k = P.length := by omega
          have hsp : spanB L xw.1 = decide (lessX R P xw P.length = zW) := by
            rw [Bool.eq_iff_iff, spanB_yes xw.2, decide_eq_true_eq]
            exact HJ.out.sv.el.spanned xw
          have HSP := Lib.hid hsp
          have hrs := rowA_size (hX (lessX R P xw P.length))
          have LD := run_loadVar_row (P := Try.prog) wy bl 76 76 (rowA (hX (lessX R P xw P.length))) (0, 0) _ HJ.out.left Try.underlying76 rfl (by rw [hrs]; exact size_row)
          have AE := row_eql_zero (lessX R P xw P.length)
          have HBZ := Lib.hid HJ.out.sv.below
          clear hsp hks hc hc3
          have HLEFT := Lib.hid HJ.out.left
          have AG := fun op x z b w => row_guard op x z (rowA (hX (lessX R P xw P.length))) b w
          clear HJ LD
          generalize lessX R P xw P.length = y at *
          generalize decide (y = zW) = q at *
          generalize rowA (hX y) = A at *
          go_wp2_with (refine wpList_load_row rfl 76 (.tmp 5) rfl bl rfl 76 A (0, 0) _ HLEFT.out Try.underlying76 rfl (by rw [hrs]; exact size_row) ?_)
          go_ret
          exact ⟨by rw [HSP.out]; rfl, HBZ.out⟩
    · have i4 : ¬ (x.2.size : Int) = 4 := by omega
      have HN := Lib.hid (spanB_no (L := L) (x := x) fun g => h4 g.2)
      clear h4 h1
      go_wp2
      go_ret
      exact ⟨by rw [HN.out]; rfl, HB1.out⟩
end Go.Proofs.Ytcecodjipeahkaa
