/- Keys of a map, and what stands at them: four bytes. -/
import Derived.Test.YtbkeggklfaepnaaRdB
import Derived.Maps.OwnSet
import Derived.Maps.Views
import Derived.DeepKeys4
namespace Go.Proofs.Ytbkeggklfaepnaa
open Go.ChangeShapes Go.WideShapes Go.ChangeAt Go.RowKit Go.BigFrame Go.Maps
set_option linter.unusedVariables false

theorem laidOutR : laidOutB Try.prog = true := by kernel_rfl
theorem keyLawR : Keyed Try.prog 26 := Keyed.of_law (deep_law_laid laidOutR (m := 3) (by omega) (of_decide_eq_true (by kernel_rfl)) (by kernel_rfl) (by kernel_rfl))
def klit (k : K2) : Lit := .string (keyBytes [.int .i64 k.1, .int .i64 k.2])
theorem keyR_of (k : K2) (h1 : (Lit.int .i64 k.1).wf = true) (h2 : (Lit.int .i64 k.2).wf = true) : keyOf Try.prog 26 (kv k) = some (klit k) := by
  obtain ⟨n, hn⟩ : ∃ n, Try.prog.types.size = n + 1 := ⟨Try.prog.types.size - 1, by have : 1 ≤ Try.prog.types.size := of_decide_eq_true (by kernel_rfl); omega⟩
  have hkt : Try.prog.keyType 26 = true := by kernel_rfl
  have hc : Try.prog.cellsOf 26 = 2 := by kernel_rfl
  have hc1 : Try.prog.cellsOf 3 = 1 := by kernel_rfl
  have hf : (kv k).formed Try.prog 26 = true := by
    unfold kv Value.formed
    rw [Try.underlying26, hc]; rfl
  unfold keyOf
  rw [Try.underlying26]
  simp only [hkt, hf, Bool.and_self, if_true]
  rw [hn]
  unfold Program.keyLits
  rw [Try.underlying26]
  simp [kv, Value.cells, hc, hc1, Program.keyLits, Try.underlying3, h1, h2, klit]
theorem klit_inj {a b : K2} (ha1 : (Lit.int .i64 a.1).wf = true) (ha2 : (Lit.int .i64 a.2).wf = true) (hb1 : (Lit.int .i64 b.1).wf = true) (hb2 : (Lit.int .i64 b.2).wf = true) (h : klit a = klit b) : a = b := by
  have h1 := keyR_of a ha1 ha2
  have h2 := keyR_of b hb1 hb2
  rw [← h] at h2
  have := keyLawR.inj h1 h2
  unfold kv at this
  obtain ⟨x, y⟩ := a; obtain ⟨z, u⟩ := b
  simpa using this
def cellD : Value → DataW Unit
  | .int k n => .lit (.int k n)
  | _ => .lit (.bool false)
def fourE : Value → Option (DataW Unit × List MemPlace)
  | .agg xs => some (.agg (xs.toList.map cellD), [])
  | _ => none
def fourD (y : ByteArray) : DataW Unit := .agg ((Lib.byteCells y.data.toList).map cellD)
theorem fourE_arr (y : ByteArray) : fourE (arr4 y) = some (fourD y, []) := by simp [fourE, arr4, fourD]
theorem cellD_inv : ∀ (xs : List Value) (l : List UInt8), xs.map cellD = (Lib.byteCells l).map cellD → xs = Lib.byteCells l
  | [], [], _ => rfl
  | [], _ :: _, h => by simp [Lib.byteCells] at h
  | _ :: _, [], h => by simp [Lib.byteCells] at h
  | x :: xs, b :: l, h => by
    simp only [Lib.byteCells, List.map_cons, List.cons.injEq] at h ⊢
    refine ⟨?_, cellD_inv xs l (by simpa [Lib.byteCells] using h.2)⟩
    have h1 := h.1
    cases x <;> simp [cellD] at h1 ⊢
    exact h1
theorem fourE_inv {v : Value} {y : ByteArray} {ps : List MemPlace} (h : fourE v = some (fourD y, ps)) : v = arr4 y := by
  unfold fourE at h
  split at h
  · rename_i xs
    simp only [Option.some.injEq, Prod.mk.injEq, fourD, DataW.agg.injEq] at h
    have := cellD_inv _ _ h.1
    unfold arr4
    rw [← this]
  · cases h
/-- the map of readings -/
def loadsD (rs : List R3) (D : DataW Unit) : DataW Unit := rs.foldl (fun m r => m.put (klit r.1) (fourD r.2)) D
theorem loadsD_snoc (rs : List R3) (r : R3) (D : DataW Unit) : loadsD (rs ++ [r]) D = (loadsD rs D).put (klit r.1) (fourD r.2) := by simp [loadsD, List.foldl_append]
theorem keyWf {k : K2} (h : keyOkB k = true) : (Lit.int .i64 k.1).wf = true ∧ (Lit.int .i64 k.2).wf = true := by
  simp only [keyOkB, Bool.and_eq_true, decide_eq_true_eq] at h
  refine ⟨?_, ?_⟩ <;> simp [Lit.wf, IntKind.min, IntKind.max, IntKind.signed, IntKind.bits] <;> omega
theorem loadsD_other (x : K2) (hx : keyOkB x = true) : ∀ (rs : List R3) (D : DataW Unit), (∀ r ∈ rs, keyOkB r.1 = true) → (∀ r ∈ rs, r.1 ≠ x) → (∀ z, (loadsD rs D).atKey (klit x) z = D.atKey (klit x) z) ∧ Maps.has (loadsD rs D) (klit x) = Maps.has D (klit x)
  | [], D, _, _ => ⟨fun _ => rfl, rfl⟩
  | r :: l, D, hk, hn => by
    obtain ⟨h1, h2⟩ := loadsD_other x hx l (D.put (klit r.1) (fourD r.2)) (fun r hr => hk r (List.mem_cons_of_mem _ hr)) (fun r hr => hn r (List.mem_cons_of_mem _ hr))
    have hne : klit x ≠ klit r.1 := fun e => hn r (by simp) (klit_inj (keyWf hx).1 (keyWf hx).2 (keyWf (hk r (by simp))).1 (keyWf (hk r (by simp))).2 e).symm
    exact ⟨fun z => (h1 z).trans (Maps.atKey_put_other hne _ _), h2.trans (Maps.has_put_other hne _)⟩
theorem loadsD_isMap : ∀ (rs : List R3) (D : DataW Unit), Maps.IsMap D → Maps.IsMap (loadsD rs D)
  | [], _, h => h
  | r :: l, D, h => loadsD_isMap l _ (h.put _ _)
theorem klit_key (x : K2) (hx : keyOkB x = true) : WideAt.IsKeyLit (klit x) := keyLawR.key (keyR_of x (keyWf hx).1 (keyWf hx).2)
theorem loadsD_at (x : K2) (hx : keyOkB x = true) : ∀ (rs : List R3) (D : DataW Unit), Maps.IsMap D → (∀ r ∈ rs, keyOkB r.1 = true) → rs.Pairwise (fun a b => a.1 ≠ b.1) →
    match loadO rs x with
    | some l => (∀ z, (loadsD rs D).atKey (klit x) z = fourD l) ∧ Maps.has (loadsD rs D) (klit x) = true
    | none => (∀ z, (loadsD rs D).atKey (klit x) z = D.atKey (klit x) z) ∧ Maps.has (loadsD rs D) (klit x) = Maps.has D (klit x)
  | [], D, _, _, _ => ⟨fun _ => rfl, rfl⟩
  | r :: l, D, hD, hk, hp => by
    obtain ⟨hp1, hp2⟩ := List.pairwise_cons.1 hp
    unfold loadO
    by_cases he : r.1 = x
    · rw [if_pos (by simpa using he)]
      subst he
      obtain ⟨h1, h2⟩ := loadsD_other r.1 hx l (D.put (klit r.1) (fourD r.2)) (fun r hr => hk r (List.mem_cons_of_mem _ hr)) (fun q hq => fun e => hp1 q hq e.symm)
      exact ⟨fun z => (h1 z).trans (Maps.atKey_put_same hD (klit_key _ hx) _ _), h2.trans (Maps.has_put_same hD (klit_key _ hx) _)⟩
    · rw [if_neg (by simpa using he)]
      have hne : klit x ≠ klit r.1 := fun e => he (klit_inj (keyWf hx).1 (keyWf hx).2 (keyWf (hk r (by simp))).1 (keyWf (hk r (by simp))).2 e).symm
      have ih := loadsD_at x hx l (D.put (klit r.1) (fourD r.2)) (hD.put _ _) (fun r hr => hk r (List.mem_cons_of_mem _ hr)) hp2
      cases ho : loadO l x with
      | some y => rw [ho] at ih; exact ih
      | none =>
        rw [ho] at ih
        exact ⟨fun z => (ih.1 z).trans (Maps.atKey_put_other hne _ _), ih.2.trans (Maps.has_put_other hne _)⟩
theorem rdsOk_keys {rs : List R3} (h : rdsOkR rs = true) : (∀ r ∈ rs, rdOkB r = true) ∧ Rising (rs.map (·.1)) := by
  rw [rdsOk_split, Bool.and_eq_true, List.all_eq_true] at h
  exact ⟨h.1, ((keysR_iff _).1 h.2).2⟩
theorem rdOk_key {r : R3} (h : rdOkB r = true) : keyOkB r.1 = true ∧ r.2.size = 4 := by
  simp only [rdOkB, Bool.and_eq_true, decide_eq_true_eq] at h
  exact h
theorem rising_ne {rs : List R3} (h : Rising (rs.map (·.1))) : rs.Pairwise (fun a b => a.1 ≠ b.1) := by
  unfold Rising at h
  rw [List.pairwise_map] at h
  refine h.imp fun {a b} hab e => ?_
  rw [e, ahead_irrefl] at hab
  cases hab
end Go.Proofs.Ytbkeggklfaepnaa
