/- What the laws lean on (own lemmas and walks of the called functions). -/
import Derived.Test.YtfohmhigidgfhaaPa1
set_option linter.unusedVariables false
set_option linter.unusedSimpArgs false
namespace Go.Proofs.Ytfohmhigidgfhaa
open Go.ChangeShapes Go.WideShapes Go.ChangeAt Go.RowKit Go.BigFrame Go.Maps
set_option linter.unusedVariables false
set_option linter.unusedSimpArgs false

/-- the numbers of n keys: those of ks, then 0 -/
def setI : Nat → List K2 → List Int
  | 0, _ => []
  | n + 1, [] => 0 :: 0 :: setI n []
  | n + 1, k :: ks => k.1 :: k.2 :: setI n ks
theorem setI_len : ∀ (n : Nat) (ks : List K2), (setI n ks).length = n * 2
  | 0, _ => rfl
  | n + 1, [] => by rw [setI, List.length_cons, List.length_cons, setI_len n]; omega
  | n + 1, k :: ks => by rw [setI, List.length_cons, List.length_cons, setI_len n]; omega
theorem setI_inj : ∀ (n : Nat) (a b : List K2), a.length ≤ n → b.length ≤ n → (∀ k ∈ a, keyOkB k = true) → (∀ k ∈ b, keyOkB k = true) → setI n a = setI n b → a = b
  | _, [], [], _, _, _, _, _ => rfl
  | 0, _ :: _, _, h, _, _, _, _ => by simp at h
  | 0, _, _ :: _, _, h, _, _, _ => by simp at h
  | n + 1, [], k :: b, _, _, _, hb, h => by
    have h1 : (0 : Int) = k.1 := (List.cons.inj h).1
    have := hb k (by simp)
    unfold keyOkB at this
    rw [← h1] at this
    simp at this
  | n + 1, k :: a, [], _, _, ha, _, h => by
    have h1 : k.1 = (0 : Int) := (List.cons.inj h).1
    have := ha k (by simp)
    unfold keyOkB at this
    rw [h1] at this
    simp at this
  | n + 1, (p, q) :: a, (p', q') :: b, h1, h2, ha, hb, h => by
    unfold setI at h
    simp only [List.cons.injEq] at h
    obtain ⟨rfl, rfl, h⟩ := h
    rw [setI_inj n a b (by simpa using h1) (by simpa using h2) (fun k hk => ha k (List.mem_cons_of_mem _ hk)) (fun k hk => hb k (List.mem_cons_of_mem _ hk)) h]
theorem setI_wf : ∀ (n : Nat) (ks : List K2), (∀ k ∈ ks, keyOkB k = true) → ∀ x ∈ setI n ks, (Lit.int .i64 x).wf = true
  | 0, _, _, x, h => by simp [setI] at h
  | n + 1, [], hk, x, h => by
    unfold setI at h
    simp only [List.mem_cons] at h
    rcases h with rfl | rfl | h
    · rfl
    · rfl
    · exact setI_wf n [] hk x h
  | n + 1, k :: ks, hk, x, h => by
    unfold setI at h
    simp only [List.mem_cons] at h
    have hw := keyWf (hk k (by simp))
    rcases h with rfl | rfl | h
    · exact hw.1
    · exact hw.2
    · exact setI_wf n ks (fun k' h' => hk k' (List.mem_cons_of_mem _ h')) x h
def setC (ks : List K2) : List Value := (setI 6 ks).map (Value.int .i64)
def setV (ks : List K2) : Value := .agg (setC ks).toArray
theorem setC_len (ks : List K2) : (setC ks).length = 12 := by unfold setC; rw [List.length_map, setI_len]
theorem twelve (l : List Int) (h : l.length = 12) : ∃ a b c d e f g i j k m n, l = [a, b, c, d, e, f, g, i, j, k, m, n] := by
  match l, h with
  | [a, b, c, d, e, f, g, i, j, k, m, n], _ => exact ⟨a, b, c, d, e, f, g, i, j, k, m, n, rfl⟩
theorem keyLawS : Keyed Try.prog 138 := Keyed.of_law (deep_law_laid laidOutR (m := 4) (by omega) (of_decide_eq_true (by kernel_rfl)) (by kernel_rfl) (by kernel_rfl))
theorem keyLits_key (n : Nat) (p q : Int) (h1 : (Lit.int .i64 p).wf = true) (h2 : (Lit.int .i64 q).wf = true) : Try.prog.keyLits (n + 2) 43 [.int .i64 p, .int .i64 q] = some [.int .i64 p, .int .i64 q] := by
  have hc : Try.prog.cellsOf 43 = 2 := by kernel_rfl
  have hc1 : Try.prog.cellsOf 3 = 1 := by kernel_rfl
  unfold Program.keyLits
  rw [Try.underlying43]
  simp [hc, hc1, Program.keyLits, Try.underlying3, h1, h2]
theorem keySet_of (l : List Int) (hl : l.length = 12) (hw : ∀ x ∈ l, (Lit.int .i64 x).wf = true) : keyOf Try.prog 138 (.agg (l.map (Value.int .i64)).toArray) = some (.string (keyBytes (l.map (Lit.int .i64)))) := by
  obtain ⟨n, hn⟩ : ∃ n, Try.prog.types.size = n + 2 := ⟨Try.prog.types.size - 2, by have : 2 ≤ Try.prog.types.size := of_decide_eq_true (by kernel_rfl); omega⟩
  have hkt : Try.prog.keyType 138 = true := by kernel_rfl
  have hc : Try.prog.cellsOf 138 = 12 := by kernel_rfl
  have hc2 : Try.prog.cellsOf 43 = 2 := by kernel_rfl
  obtain ⟨x0, x1, x2, x3, x4, x5, x6, x7, x8, x9, x10, x11, rfl⟩ := twelve l hl
  simp only [List.mem_cons, List.not_mem_nil, or_false, forall_eq_or_imp, forall_eq] at hw
  obtain ⟨w0, w1, w2, w3, w4, w5, w6, w7, w8, w9, w10, w11⟩ := hw
  have hf : (Value.agg (List.map (Value.int .i64) [x0, x1, x2, x3, x4, x5, x6, x7, x8, x9, x10, x11]).toArray).formed Try.prog 138 = true := by
    unfold Value.formed
    rw [Try.underlying138, hc]; rfl
  unfold keyOf
  rw [Try.underlying138]
  simp only [hkt, hf, Bool.and_self, if_true]
  rw [hn]
  unfold Program.keyLits
  rw [Try.underlying138]
  have hr : List.range 6 = [0, 1, 2, 3, 4, 5] := rfl
  simp [Value.cells, hc, hc2, hr, keyLits_key, w0, w1, w2, w3, w4, w5, w6, w7, w8, w9, w10, w11]
def slit (ks : List K2) : Lit := .string (keyBytes ((setI 6 ks).map (Lit.int .i64)))
/-- lists that may be asked for -/
def ksetOk (ks : List K2) : Prop := ks.length ≤ 6 ∧ ∀ k ∈ ks, keyOkB k = true
theorem setR_of {ks : List K2} (h : ksetOk ks) : keyOf Try.prog 138 (setV ks) = some (slit ks) := keySet_of (setI 6 ks) (setI_len 6 ks) (setI_wf 6 ks h.2)
theorem slit_inj {a b : List K2} (ha : ksetOk a) (hb : ksetOk b) (h : slit a = slit b) : a = b := by
  have h1 := setR_of ha
  have h2 := setR_of hb
  rw [← h] at h2
  have := keyLawS.inj h1 h2
  unfold setV setC at this
  have e : (setI 6 a).map (Value.int .i64) = (setI 6 b).map (Value.int .i64) := by simpa using this
  refine setI_inj 6 a b ha.1 hb.1 ha.2 hb.2 ?_
  exact (List.map_inj_right (fun x y h => by injection h)).1 e
theorem slit_key {ks : List K2} (h : ksetOk ks) : WideAt.IsKeyLit (slit ks) := keyLawS.key (setR_of h)
theorem setOk_code {x : C2} (h : codeOkB x = true) : ksetOk x.1 := by
  obtain ⟨h1, h2, -, -⟩ := (codeOk_iff x).1 h
  exact ⟨h1, ((keysR_iff _).1 h2).1⟩
/-- how a place reads -/
def inE : Value → Option (DataW Unit × List MemPlace)
  | .int .i64 n => some (.lit (.int .i64 n), [])
  | _ => none
theorem inE_inv {v : Value} {n : Int} {ps : List MemPlace} (h : inE v = some (.lit (.int .i64 n), ps)) : v = .int .i64 n := by
  unfold inE at h
  split at h
  · cases h; rfl
  · cases h
theorem zeroIn (w : World) : (zeroValue 3).run Try.prog w = .ok (.int .i64 0) w := by kernel_rfl
theorem run_makeMap_pl (n : Nat) (w : World) : (Instr.makeMap 122 (some (.int .i64 n))).run Try.prog w = .ok (.map (some w.heap.size)) (w.alloc (.map #[] 0)) := by
  simp [Instr.makeMap, run_underlying Try.underlying122, asInt, go_sem]
/-- a map of places in memory: block b tells P -/
theorem map_tight {w : World} {P : Program} {k : TypeId} {R : Value → Option (DataW Unit × List MemPlace)} {b n : Nat} {D : DataW Unit} (h : w.ownsMap P k R b n D) : w.ownsMap P k R b (Maps.size D) D := by
  obtain ⟨es, clock, hb, F, hs, rfl⟩ := h
  exact ⟨es, clock, hb, F, by simp [Maps.size, length_sorted], rfl⟩
def PlI (W : World) (b : Nat) (P : List K2 → Option Nat) (m : Nat) : Prop := ∃ D : DataW Unit, Maps.Tidy D ∧ W.ownsMap Try.prog 138 inE b m D ∧ Maps.size D = m ∧
  ∀ ks, ksetOk ks → match P ks with
    | some i => Maps.has D (slit ks) = true ∧ ∀ z, D.atKey (slit ks) z = .lit (.int .i64 i)
    | none => Maps.has D (slit ks) = false
theorem PlI.start (w : World) : PlI (w.alloc (.map #[] 0)) w.heap.size (fun _ => none) 0 :=
  ⟨.map [], Maps.tidy_empty, World.ownsMap_made (H := Unit) w Try.prog 138 inE, rfl, fun ks _ => rfl⟩
theorem PlI.kept {w w' : World} {b m : Nat} {P : List K2 → Option Nat} {row : Option Nat} (h : PlI w b P m) (hg : w.grownBy w' row) (hne : some b ≠ row) : PlI w' b P m := by
  obtain ⟨D, h1, h2, h3, h4⟩ := h
  exact ⟨D, h1, h2.kept hg hne, h3, h4⟩
theorem PlI.below {w w' : World} {b m : Nat} {P : List K2 → Option Nat} (h : PlI w b P m) (hb : Below w.heap.size w w') : PlI w' b P m := h.kept (grown_of_below' hb none) (by simp)
theorem PlI.lt {w : World} {b m : Nat} {P : List K2 → Option Nat} (h : PlI w b P m) : b < w.heap.size := by
  obtain ⟨D, -, h2, -, -⟩ := h
  exact h2.lt
/-- what is told at a key that may not stand there -/
def atP (P : List K2 → Option Nat) (ks : List K2) : Value := .tuple #[.int .i64 (((P ks).getD 0 : Nat) : Int), .bool (P ks).isSome]
theorem PlI.look {W : World} {b m : Nat} {P : List K2 → Option Nat} (h : PlI W b P m) {ks : List K2} (hk : ksetOk ks) :
    (Instr.lookup 122 (.map (some b)) (setV ks) true).run Try.prog W = .ok (atP P ks) W := by
  obtain ⟨D, hD, hmap, -, hat⟩ := h
  obtain ⟨v, ps, hr, hv⟩ := hmap.look_ok (e := 3) keyLawS Try.underlying122 (zeroIn W) (zd := .lit (.int .i64 0)) (zp := []) rfl (setR_of hk)
  have h1 := hat ks hk
  unfold atP
  cases hP : P ks with
  | some i =>
    rw [hP] at h1
    rw [h1.2] at hv
    rw [inE_inv hv, h1.1] at hr
    exact hr
  | none =>
    rw [hP] at h1
    rw [Maps.atKey_of_not_has h1] at hv
    rw [inE_inv hv, h1] at hr
    exact hr
theorem PlI.put {W : World} {b m : Nat} {P : List K2 → Option Nat} (h : PlI W b P m) (hn : m < maxLen) {ks : List K2} (hk : ksetOk ks) (i : Nat) :
    ∃ W', (Instr.mapUpdate 122 (.map (some b)) (setV ks) (.int .i64 i)).run Try.prog W = .ok () W' ∧ PlI W' b (fun x => if x = ks then some i else P x) (if (P ks).isSome then m else m + 1) ∧ W.grownBy W' (some b) := by
  obtain ⟨D, hD, hmap, hsz, hat⟩ := h
  obtain ⟨W', hr, hm, hg⟩ := hmap.update (e := 3) keyLawS Try.underlying122 hn (setR_of hk) (val := .int .i64 i) (d := .lit (.int .i64 i)) (ps := []) rfl
  have hsp := Maps.size_put (k := slit ks) hD (.lit (.int .i64 (i : Int)))
  have h1 := hat ks hk
  have hs2 : Maps.size (D.put (slit ks) (.lit (.int .i64 (i : Int)))) = if (P ks).isSome then m else m + 1 := by
    rw [hsp, hsz]
    cases hP : P ks with
    | some j => rw [hP] at h1; rw [h1.1]; rfl
    | none => rw [hP] at h1; rw [h1]; rfl
  refine ⟨W', hr, ⟨_, hD.put (slit_key hk) _, hs2 ▸ map_tight hm, hs2, fun x hx => ?_⟩, hg⟩
  · dsimp only
    by_cases e : x = ks
    · subst e
      rw [if_pos rfl]
      exact ⟨Maps.has_put_same hD.isMap (slit_key hx) _, fun z => Maps.atKey_put_same hD.isMap (slit_key hx) _ _⟩
    · rw [if_neg e]
      have hne : slit x ≠ slit ks := fun e2 => e (slit_inj hx hk e2)
      have h2 := hat x hx
      revert h2
      cases P x with
      | some j => exact fun h2 => ⟨by rw [Maps.has_put_other hne]; exact h2.1, fun z => by rw [Maps.atKey_put_other hne]; exact h2.2 z⟩
      | none => exact fun h2 => by rw [Maps.has_put_other hne]; exact h2
theorem PlI.drop {W : World} {b m : Nat} {P : List K2 → Option Nat} (h : PlI W b P m) {ks : List K2} (hk : ksetOk ks) (ty : TypeId) :
    ∃ W', (Builtin.delete_ #[122, 138] ty #[.map (some b), setV ks]).run Try.prog W = .ok (.tuple #[]) W' ∧ PlI W' b (fun x => if x = ks then none else P x) (if (P ks).isSome then m - 1 else m) ∧ W.grownBy W' (some b) := by
  obtain ⟨D, hD, hmap, hsz, hat⟩ := h
  obtain ⟨W', hr, hm, hg⟩ := hmap.drop (e := 3) keyLawS Try.underlying122 (setR_of hk) ty
  have hsp := Maps.size_del (k := slit ks) hD
  have h1 := hat ks hk
  have hs2 : Maps.size (D.del (slit ks)) = if (P ks).isSome then m - 1 else m := by
    cases hP : P ks with
    | some j => rw [hP] at h1; rw [h1.1] at hsp; simp at hsp ⊢; omega
    | none => rw [hP] at h1; rw [h1] at hsp; simp at hsp ⊢; omega
  refine ⟨W', hr, ⟨_, hD.del _, hs2 ▸ map_tight hm, hs2, fun x hx => ?_⟩, hg.grown⟩
  · dsimp only
    by_cases e : x = ks
    · subst e
      rw [if_pos rfl]
      exact Maps.has_del_same
    · rw [if_neg e]
      have hne : slit x ≠ slit ks := fun e2 => e (slit_inj hx hk e2)
      have h2 := hat x hx
      revert h2
      cases P x with
      | some j => exact fun h2 => ⟨by rw [Maps.has_del_other hne]; exact h2.1, fun z => by rw [Maps.atKey_del_other hne]; exact h2.2 z⟩
      | none => exact fun h2 => by rw [Maps.has_del_other hne]; exact h2
theorem PlI.len {W : World} {b m : Nat} {P : List K2 → Option Nat} (h : PlI W b P m) (ty : TypeId) : (Builtin.len_ #[122] ty #[.map (some b)]).run Try.prog W = .ok (.int .i64 m) W := by
  obtain ⟨D, hD, hmap, hsz, hat⟩ := h
  rw [← hsz]
  exact hmap.len (e := 3) Try.underlying122 ty
end Go.Proofs.Ytfohmhigidgfhaa
namespace Go.Proofs.Ytfohmhigidgfhaa
open Go.RowKit Go.Shelf
attribute [local go_sem] Oper.semAt_some
set_option linter.unusedVariables false

/-- the slice value v leads to the keys ks, in blocks below n₀ -/
def keysIn0 (n₀ : Nat) (w : World) (v : Value) (ks : List K2) : Prop :=
  ∃ a cap, v = .slice a ks.length cap ∧ ks.length ≤ cap ∧ (ks.length = 0 ∨ ∃ g off, a = some ⟨g, off, none⟩ ∧ g < n₀ ∧ g < w.heap.size ∧
    ∀ i, i < ks.length → w.cell? ⟨g, off + i * 2, none⟩ = some (.int .i64 (ks.getD i (0, 0)).1) ∧ w.cell? ⟨g, off + i * 2 + 1, none⟩ = some (.int .i64 (ks.getD i (0, 0)).2))
theorem keysIn0.below {n₀ : Nat} {w w' : World} {v : Value} {ks : List K2} (h : keysIn0 n₀ w v ks) (hb : Below n₀ w w') : keysIn0 n₀ w' v ks := by
  obtain ⟨a, cap, h1, h2, h3⟩ := h
  refine ⟨a, cap, h1, h2, h3.imp_right ?_⟩
  rintro ⟨g, off, h4, h0, h5, h6⟩
  refine ⟨g, off, h4, h0, Nat.lt_of_lt_of_le h5 hb.size, fun i hi => ?_⟩
  rw [hb.cell (p := ⟨g, off + i * 2, none⟩) h0, hb.cell (p := ⟨g, off + i * 2 + 1, none⟩) h0]
  exact h6 i hi
theorem keysIn0.at {n₀ : Nat} {w : World} {v : Value} {ks : List K2} (h : keysIn0 n₀ w v ks) : keysAt w v ks := by
  obtain ⟨a, cap, h1, h2, h3⟩ := h
  exact ⟨a, cap, h1, h2, h3.imp_right fun ⟨g, off, h4, _, h5, h6⟩ => ⟨g, off, h4, h5, h6⟩⟩
theorem keysIn0_of {w : World} {v : Value} {ks : List K2} (h : keysAt w v ks) : keysIn0 w.heap.size w v ks := by
  obtain ⟨a, cap, h1, h2, h3⟩ := h
  exact ⟨a, cap, h1, h2, h3.imp_right fun ⟨g, off, h4, h5, h6⟩ => ⟨g, off, h4, h5, h5, h6⟩⟩

set_option maxRecDepth 100000 in
set_option maxHeartbeats 1000000 in
/-- the iterator's closure: every key, in order, or as far as the round says -/
theorem kin_in (n l Bn n₀ : Nat) (v : Value) (ks : List K2) (hs : ks.length ≤ 8000000) (hn : 1 ≤ n) (J Jx : List K2 → World → Prop)
    (hJ : ∀ s W W', J s W → W.grownBy W' none → J s W')
    (hY : ∀ pre x W, J pre W → pre.length < ks.length → YieldAt Fence.wide (n - 1) Try.prog l #[kv x] W fun e W' =>
      (e = .returned (.bool true) ∧ J (pre ++ [x]) W' ∧ Below n₀ W W') ∨ (e = .returned (.bool false) ∧ Jx (pre ++ [x]) W'))
    (W : World) (hBn : W.cell? ⟨Bn, 0, none⟩ = some v) (hk : keysIn0 n₀ W v ks) (hn₀ : n₀ ≤ W.heap.size) (h0 : J [] W) :
    CallsIn Fence.wide n Try.prog 132 #[.func (.yield l) #[] #[], .pointer (some ⟨Bn, 0, none⟩)] W fun e W' => (∃ v, e = .returned v) ∧
      ((∃ ys : List K2, ys = ks ∧ J ys W') ∨ (∃ pre : List K2, pre <+: ks ∧ Jx pre W')) := by
  refine callsIn_of_wp Try.func132 rfl trivial ?_ rfl
  simp only [Try.ntmps132, List.size_toArray, List.length_cons, List.length_nil, Nat.reduceAdd, Nat.reduceSub, Array.replicate_succ, Array.replicate_zero, List.push_toArray, List.append_toArray, List.nil_append, List.cons_append]
  obtain ⟨a, cap, rfl, hcap, hcells⟩ := id hk
  gi_wp2
  gi_loopw [7] (fun p wr => ∃ (k : Nat), p = .int .i64 k ∧ k ≤ ks.length ∧ keysIn0 n₀ wr (.slice a ks.length cap) ks ∧ n₀ ≤ wr.heap.size ∧ J (ks.take k) wr)
    (fun p wr => ks.length + 1 - (intOf p).toNat)
  case atStart => exact ⟨0, rfl, Nat.zero_le _, hk, hn₀, h0⟩
  case round =>
    obtain ⟨k, rfl, hk1, hkw, hnw, hJs⟩ := hrel
    by_cases hlt : k < ks.length
    · have hkw' := hkw
      obtain ⟨a2, cap2, hv2, _, hcs⟩ := hkw
      cases hv2
      obtain ⟨g, off, rfl, hg0, hg, hcs⟩ := hcs.resolve_left (by omega)
      have c1 := hcs k hlt
      have C1 := c1.1
      have C2 := c1.2
      have hks : ks.take (k + 1) = ks.take k ++ [ks.getD k (0, 0)] := by rw [List.take_add_one]; simp [List.getD, hlt]
      have hlen : (ks.take k).length < ks.length := by simp; omega
      have z0 : (0 : Int) ≤ (k : Int) := by omega
      have z1 : (k : Int) < (ks.length : Int) := by omega
      clear hcs c1 hcells
      generalize ks.getD k (0, 0) = kx at *
      obtain ⟨p, q⟩ := kx
      have HKS := Lib.hid hks; clear hks
      dsimp only at C1 C2
      have hJa : J (ks.take k) ((wr.alloc (.cells #[.int .i64 p, .int .i64 q] 43))) := hJ _ _ _ hJs (World.grownBy_alloc wr _ none)
      have hka : keysIn0 n₀ (wr.alloc (.cells #[.int .i64 p, .int .i64 q] 43)) (.slice (some ⟨g, off, none⟩) ks.length cap) ks := hkw'.below ((Below.refl _ _).alloc hnw _)
      have hsa : n₀ ≤ (wr.alloc (.cells #[.int .i64 p, .int .i64 q] 43)).heap.size := by simp; omega
      obtain ⟨fn, tmps, assign, body, hy, hR⟩ := hY (ks.take k) (p, q) _ hJa hlen
      unfold kv at hy
      dsimp only at hy
      clear hY hJa
      gi_wp2
      refine hR.mono ?_
      rintro e W3 (⟨rfl, hJ3, hk3⟩ | ⟨rfl, hJx3⟩)
      · have hk3' := hka.below hk3
        have hsz3 := Nat.le_trans hsa hk3.size
        rw [← HKS.out] at hJ3
        clear hka hsa hkw' C1 C2
        gi_wp2
        exact ⟨⟨k + 1, by go_num, by omega, hk3', hsz3, hJ3⟩, by simp [intOf]; omega⟩
      · rw [← HKS.out] at hJx3
        clear hka hsa hkw' C1 C2
        gi_wp2
        refine bodyPost_ret (results_none rfl _ _ _) rfl ?_
        exact ⟨⟨_, rfl⟩, .inr ⟨_, List.take_prefix _ _, hJx3⟩⟩
    · obtain rfl : k = ks.length := by omega
      rw [List.take_length] at hJs
      gi_wp2
      go_end0
      exact ⟨⟨_, rfl⟩, .inl ⟨_, rfl, hJs⟩⟩

theorem kin_any (a : Option Addr) (n c : Nat) (w : World) :
    Calls Try.prog 94 #[.slice a n c] w fun e w' => e = .returned (.func (.func 132) #[] #[.pointer (some ⟨w.heap.size, 0, none⟩)]) ∧ w' = w.alloc (.cells #[.slice a n c] 28) := by
  go_enter Try.func94, Try.ntmps94
  go_wp2
  go_ret
  exact ⟨rfl, rfl⟩

theorem kin_stops (n Bn n₀ : Nat) (v : Value) (ks : List K2) (hs : ks.length ≤ 8000000) (hn : 1 ≤ n) (w : World) (hBn : Bn < w.heap.size) (hn₀ : n₀ ≤ w.heap.size) (hc : w.cell? ⟨Bn, 0, none⟩ = some v) (hk : keysIn0 n₀ w v ks) :
    SeqStopsK Fence.wide n Try.prog 132 #[.pointer (some ⟨Bn, 0, none⟩)] (fun x : K2 => #[kv x]) (Below n₀) (fun ys => ys = ks) (fun pre => pre <+: ks) ks.length w :=
  fun l J Jx W hW hJ _ hY h0 => kin_in n l Bn n₀ v ks hs hn J Jx (fun s A B h hg => hJ s A B none h hg (fun r e => by cases e)) hY W ((hW.cell (p := ⟨Bn, 0, none⟩) hBn).trans hc) (hk.below (hW.mono hn₀)) (Nat.le_trans hn₀ hW.size) h0
end Go.Proofs.Ytfohmhigidgfhaa
namespace Go.Proofs.Ytfohmhigidgfhaa
open Go.RowKit
set_option linter.unusedVariables false

def KBoxed (W : World) (B : Nat) (k : K2) : Prop := W.heap[B]? = some (.cells #[.int .i64 k.1, .int .i64 k.2] 43 (0, 0))
theorem KBoxed.lt {W : World} {B : Nat} {k : K2} (h : KBoxed W B k) : B < W.heap.size := (Array.getElem?_eq_some_iff.1 h).1
theorem KBoxed.cell0 {W : World} {B : Nat} {k : K2} (h : KBoxed W B k) : W.cell? ⟨B, 0, none⟩ = some (.int .i64 k.1) := by simp [World.cell?, show W.heap[B]? = _ from h]
theorem KBoxed.cell1 {W : World} {B : Nat} {k : K2} (h : KBoxed W B k) : W.cell? ⟨B, 1, none⟩ = some (.int .i64 k.2) := by simp [World.cell?, show W.heap[B]? = _ from h]
theorem KBoxed.new (W : World) (k : K2) : KBoxed (W.alloc (.cells #[.int .i64 k.1, .int .i64 k.2] 43)) W.heap.size k := World.alloc_heap_new W _
theorem KBoxed.kept {W W' : World} {row : Option Nat} {B : Nat} {k : K2} (h : KBoxed W B k) (hg : W.grownBy W' row) (hne : some B ≠ row) : KBoxed W' B k := (hg.block B h.lt hne).trans h
theorem KBoxed.alloc {W : World} {B : Nat} {k : K2} (h : KBoxed W B k) (o : Obj) : KBoxed (W.alloc o) B k := h.kept (World.grownBy_alloc W o none) (by simp)
theorem KBoxed.other {W : World} {B B' : Nat} {k : K2} (h : KBoxed W B k) (hne : B ≠ B') (u : Value) : KBoxed (W.setCell ⟨B', 0, none⟩ u) B k := h.kept (grownBy_setCell' W B' u) (fun e => hne (by cases e; rfl))
theorem KBoxed.load {w : World} {B : Nat} {k : K2} (h : KBoxed w B k) : (loadVar 43 ⟨B, 0, none⟩).run Try.prog w = .ok (kv k) w := key_load (o := 0) ⟨h.cell0, h.cell1⟩ h.lt (Below.refl _ _)
theorem set_cells {w : World} {B j : Nat} {cs : Array Value} {t : TypeId} (u : Value) (h : w.heap[B]? = some (.cells cs t (0, 0))) : (w.setCell ⟨B, j, none⟩ u).heap[B]? = some (.cells (cs.setIfInBounds j u) t (0, 0)) := by
  obtain ⟨hlt, hk⟩ := Array.getElem?_eq_some_iff.1 h
  show (w.heap.modify B _)[B]? = _
  rw [Array.getElem?_eq_getElem (by rw [Array.size_modify]; exact hlt), Array.getElem_modify_self, hk]
  rfl
theorem KBoxed.set {w : World} {B : Nat} {k : K2} (k' : K2) (h : KBoxed w B k) : KBoxed ((w.setCell ⟨B, 0, none⟩ (.int .i64 k'.1)).setCell ⟨B, 1, none⟩ (.int .i64 k'.2)) B k' :=
  set_cells _ (set_cells _ h)
end Go.Proofs.Ytfohmhigidgfhaa
namespace Go.Proofs.Ytfohmhigidgfhaa
open Go.RowKit Go.Shelf
set_option linter.unusedVariables false

theorem kboxed_own {β : Type} (B : Nat) (k : K2) : Own (fun (_ : β) W => KBoxed W B k) := by
  intro s X Y row h hg hr
  refine KBoxed.kept h hg (fun e => ?_)
  obtain ⟨o, ho, hc⟩ := hr B e.symm
  rw [show X.heap[B]? = _ from h] at ho; cases ho; cases hc
theorem boxG_own {β : Type} (B : Nat) (t : TypeId) (G : β → Value → Prop) : Own (fun (s : β) W => ∃ v, Boxed W B t v ∧ G s v) := by
  rintro s X Y row ⟨v, h, hG⟩ hg hr
  refine ⟨v, h.kept hg (fun e => ?_), hG⟩
  obtain ⟨o, ho, hc⟩ := hr B e.symm
  rw [show X.heap[B]? = _ from h] at ho; cases ho; cases hc
theorem boxed_uniq {W : World} {B : Nat} {t : TypeId} {v v' : Value} (h : Boxed W B t v) (h' : Boxed W B t v') : v = v' := by
  have := h.cell.symm.trans h'.cell
  exact Option.some.inj this
theorem boxed_app {W w1 : World} {n₀ B B' : Nat} {t e : TypeId} {size : Nat} {u v : Value} {k : Nat} {xs : List Value} {tmp : Obj} (h : Boxed W B' t u) (hte : t ≠ e) (hrow : W.ownsRow n₀ e size v k xs)
    (hgrow : (W.alloc tmp).grownBy w1 v.ownBlock) (hne : B' ≠ B) (u' : Value) : Boxed (w1.setCell ⟨B, 0, none⟩ u') B' t u :=
  ((h.alloc tmp).kept hgrow (h.not_row hte hrow)).other hne u'
end Go.Proofs.Ytfohmhigidgfhaa
namespace Go.Proofs.Ytfohmhigidgfhaa
open Go.ChangeShapes Go.WideShapes Go.ChangeAt Go.RowKit Go.BigFrame Go.Maps
set_option linter.unusedVariables false
set_option linter.unusedSimpArgs false

theorem setI_app : ∀ (n : Nat) (ks : List K2), ks.length ≤ n → setI n ks = ks.flatMap (fun k => [k.1, k.2]) ++ List.replicate ((n - ks.length) * 2) 0
  | 0, [], _ => rfl
  | 0, _ :: _, h => by simp at h
  | n + 1, [], _ => by
    have := setI_app n [] (Nat.zero_le _)
    rw [setI, this]
    simp [List.replicate_succ, Nat.add_mul]
  | n + 1, k :: ks, h => by
    have := setI_app n ks (by simpa using h)
    rw [setI, this]
    simp [Nat.add_sub_add_right]
theorem setC_app (ks : List K2) (h : ks.length ≤ 6) : setC ks = keyCells ks ++ (List.replicate 12 (Value.int .i64 0)).drop (keyCells ks).length := by
  unfold setC
  rw [setI_app 6 ks h, List.map_append, List.drop_replicate, keyCells_len]
  congr 1
  · unfold keyCells; rw [List.map_flatMap]; rfl
  · rw [List.map_replicate]; congr 1; omega
set_option maxRecDepth 20000 in
/-- keys copied into an array of six -/
theorem run_copy_set {w : World} {b n cap : Nat} {a : Option Addr} {ks : List K2} (hb : w.heap[b]? = some (.cells (List.replicate 12 (Value.int .i64 0)).toArray 138)) (hk : keysAt w (.slice a n cap) ks) (h6 : ks.length ≤ 6) (ty : TypeId) (dc : Nat) :
    (Builtin.copy_ #[28, 28] ty #[.slice (some ⟨b, 0, none⟩) 6 dc, .slice a n cap]).run Try.prog w = .ok (goInt ks.length) (w.setRow b (setC ks).toArray) := by
  obtain ⟨i0, hin, hz0, hz1, hz2⟩ := info_parts infoK
  obtain ⟨a', cap', h1, hcap, hcells⟩ := hk
  cases h1
  have u := Try.underlying28
  have hmin : Nat.min ks.length 6 = ks.length := Nat.min_eq_left h6
  by_cases h0 : ks.length = 0
  · obtain rfl : ks = [] := List.length_eq_zero_iff.1 h0
    have e : setC [] = List.replicate 12 (Value.int .i64 0) := rfl
    have e2 : w.setRow b (List.replicate 12 (Value.int .i64 0)).toArray = w := by
      obtain ⟨hlt, hg⟩ := Array.getElem?_eq_some_iff.1 hb
      have hh : w.heap.modify b (fun | .cells _ t f => .cells (List.replicate 12 (Value.int .i64 0)).toArray t f | o => o) = w.heap := by
        apply Array.ext_getElem?
        intro i
        by_cases hi : i = b
        · subst hi
          rw [Array.getElem?_eq_getElem (by rw [Array.size_modify]; exact hlt), Array.getElem_modify_self, hg, hb]
        · rw [Array.getElem?_modify]
          simp [show ¬ b = i from fun e => hi e.symm]
      show ({ w with heap := _ } : World) = w
      have : ({ w with heap := w.heap.modify b (fun | .cells _ t f => .cells (List.replicate 12 (Value.int .i64 0)).toArray t f | o => o) } : World) = w := by rw [hh]
      exact this
    rw [e, e2]
    cases a <;> simp [Builtin.copy_, run_underlying u, Builtin.lenOf, Builtin.firstCells, sizeOf, typeInfo, hin, hz1, storeCells, loadCells, go_sem]
  · obtain ⟨g, off, rfl, hg, hcs⟩ := hcells.resolve_left h0
    have hcl := keyCells_len ks
    have hl := run_loadCells_list (P := Try.prog) w ⟨g, off, none⟩ _ (kyCells_at hcs)
    have hst := run_storeCells_at Try.prog b 0 138 (keyCells ks) 0 (List.replicate 12 (Value.int .i64 0)).toArray w hb (by rw [hcl, List.size_toArray, List.length_replicate]; omega) (kyCells_one _)
    rw [hcl] at hl
    have e : (setC ks).toArray = ((List.replicate 12 (Value.int .i64 0)).toArray.toList.take (0 + 0) ++ keyCells ks ++ (List.replicate 12 (Value.int .i64 0)).toArray.toList.drop (0 + 0 + (keyCells ks).length)).toArray := by
      rw [setC_app ks h6]; simp
    rw [e]
    simp [Builtin.copy_, run_underlying u, Builtin.lenOf, Builtin.firstCells, sizeOf, typeInfo, hin, hz1, hmin, hl, hst]
theorem size_set : (Try.prog.info? 138).map (·.size) = some 12 := by kernel_rfl
theorem setC_one (ks : List K2) : (setC ks).toArray.all (·.oneCell') = true := by unfold setC; simp [Value.oneCell']
set_option maxRecDepth 100000 in
set_option maxHeartbeats 2000000 in
theorem isetof_any (v : Value) (ks : List K2) (w : World) (h : keysAt w v ks) (h6 : ks.length ≤ 6) : Calls Try.prog 105 #[v] w fun e w' => e = .returned (setV ks) ∧ Below w.heap.size w w' := by
  have z12 : (List.replicate 12 (Value.int .i64 0)).toArray = #[.int .i64 0, .int .i64 0, .int .i64 0, .int .i64 0, .int .i64 0, .int .i64 0, .int .i64 0, .int .i64 0, .int .i64 0, .int .i64 0, .int .i64 0, .int .i64 0] := rfl
  have hb0 := (Below.refl w.heap.size w).alloc (Nat.le_refl _) (.cells #[.int .i64 0, .int .i64 0, .int .i64 0, .int .i64 0, .int .i64 0, .int .i64 0, .int .i64 0, .int .i64 0, .int .i64 0, .int .i64 0, .int .i64 0, .int .i64 0] 138)
  have hb1 := hb0.alloc hb0.size (.cells #[.int .i64 0, .int .i64 0, .int .i64 0, .int .i64 0, .int .i64 0, .int .i64 0, .int .i64 0, .int .i64 0, .int .i64 0, .int .i64 0, .int .i64 0, .int .i64 0] 138)
  have hx := heap_alloc_new (w.alloc (.cells #[.int .i64 0, .int .i64 0, .int .i64 0, .int .i64 0, .int .i64 0, .int .i64 0, .int .i64 0, .int .i64 0, .int .i64 0, .int .i64 0, .int .i64 0, .int .i64 0] 138)) (.cells #[.int .i64 0, .int .i64 0, .int .i64 0, .int .i64 0, .int .i64 0, .int .i64 0, .int .i64 0, .int .i64 0, .int .i64 0, .int .i64 0, .int .i64 0, .int .i64 0] 138)
  have hF : ((w.alloc (.cells #[.int .i64 0, .int .i64 0, .int .i64 0, .int .i64 0, .int .i64 0, .int .i64 0, .int .i64 0, .int .i64 0, .int .i64 0, .int .i64 0, .int .i64 0, .int .i64 0] 138)).alloc (.cells #[.int .i64 0, .int .i64 0, .int .i64 0, .int .i64 0, .int .i64 0, .int .i64 0, .int .i64 0, .int .i64 0, .int .i64 0, .int .i64 0, .int .i64 0, .int .i64 0] 138)).heap[w.heap.size]? = some (.cells #[.int .i64 0, .int .i64 0, .int .i64 0, .int .i64 0, .int .i64 0, .int .i64 0, .int .i64 0, .int .i64 0, .int .i64 0, .int .i64 0, .int .i64 0, .int .i64 0] 138) := heap_first _ _ _
  rw [show (w.alloc (.cells #[.int .i64 0, .int .i64 0, .int .i64 0, .int .i64 0, .int .i64 0, .int .i64 0, .int .i64 0, .int .i64 0, .int .i64 0, .int .i64 0, .int .i64 0, .int .i64 0] 138)).heap.size = w.heap.size + 1 by simp] at hx
  have hk := keysAt_below h hb1
  obtain ⟨a, cap, rfl, hcap, hcells⟩ := h
  have hr := fun ty dc => run_copy_set (b := w.heap.size + 1) (ty := ty) (dc := dc) (by rw [z12]; exact hx) hk h6
  have hB2 := below_setRow hb1 (show w.heap.size ≤ w.heap.size + 1 by omega) (setC ks).toArray
  have hS := setRow_heap _ (w.heap.size + 1) _ (setC ks).toArray 138 (0, 0) hx
  have hF2 : (World.setRow ((w.alloc (.cells #[.int .i64 0, .int .i64 0, .int .i64 0, .int .i64 0, .int .i64 0, .int .i64 0, .int .i64 0, .int .i64 0, .int .i64 0, .int .i64 0, .int .i64 0, .int .i64 0] 138)).alloc (.cells #[.int .i64 0, .int .i64 0, .int .i64 0, .int .i64 0, .int .i64 0, .int .i64 0, .int .i64 0, .int .i64 0, .int .i64 0, .int .i64 0, .int .i64 0, .int .i64 0] 138)) (w.heap.size + 1) (setC ks).toArray).heap[w.heap.size]? = some (.cells #[.int .i64 0, .int .i64 0, .int .i64 0, .int .i64 0, .int .i64 0, .int .i64 0, .int .i64 0, .int .i64 0, .int .i64 0, .int .i64 0, .int .i64 0, .int .i64 0] 138) := by
    rw [setRow_other _ _ _ _ (by omega)]; exact hF
  generalize World.setRow ((w.alloc (.cells #[.int .i64 0, .int .i64 0, .int .i64 0, .int .i64 0, .int .i64 0, .int .i64 0, .int .i64 0, .int .i64 0, .int .i64 0, .int .i64 0, .int .i64 0, .int .i64 0] 138)).alloc (.cells #[.int .i64 0, .int .i64 0, .int .i64 0, .int .i64 0, .int .i64 0, .int .i64 0, .int .i64 0, .int .i64 0, .int .i64 0, .int .i64 0, .int .i64 0, .int .i64 0] 138)) (w.heap.size + 1) (setC ks).toArray = W2 at *
  unfold setV
  have hsz : (setC ks).toArray.size = 12 := by rw [List.size_toArray, setC_len]
  have hone := setC_one ks
  generalize (setC ks).toArray = A2 at *
  have hfin := setRow_heap _ w.heap.size _ A2 138 (0, 0) hF2
  have hBf := below_setRow hB2 (Nat.le_refl _) A2
  have L2 := run_loadVar_row (P := Try.prog) _ w.heap.size 138 138 A2 (0, 0) _ hfin Try.underlying138 rfl (by rw [hsz]; exact size_set)
  have L2 := Lib.hid L2; have HBF := Lib.hid hBf; have HF2 := Lib.hid hF2; have HS := Lib.hid hS; clear hfin hBf hB2 hb0 hb1 hk hF hF2 hS hcells z12 hx
  go_enter Try.func105, Try.ntmps105
  go_upto_region 3 with (fail)
  apply wp_region_lit
  refine wpList_load_row rfl 138 (.tmp 3) rfl (w.heap.size + 1) rfl 138 A2 (0, 0) _ HS.out Try.underlying138 rfl (by rw [hsz]; exact size_set) ?_
  refine wpList_store_rowTo rfl 138 (.tmp 2) (.tmp 7) rfl rfl w.heap.size A2 rfl rfl 138 #[.int .i64 0, .int .i64 0, .int .i64 0, .int .i64 0, .int .i64 0, .int .i64 0, .int .i64 0, .int .i64 0, .int .i64 0, .int .i64 0, .int .i64 0, .int .i64 0] HF2.out (by rw [hsz]; exact size_set) (by rw [hsz]; rfl) hone ?_
  go_wp2
  refine bodyPost_ret (v := .agg A2) ?_ rfl ⟨rfl, HBF.out⟩
  rw [results_cell (p := 2) (ty := 138) (by kernel_rfl)]
  have l2 := L2.out
  simp [asAddr, Result.andThen, l2, Act.put]
end Go.Proofs.Ytfohmhigidgfhaa
namespace Go.Proofs.Ytfohmhigidgfhaa
set_option linter.unusedVariables false
set_option linter.unusedSimpArgs false

/-- what adds up, each with itself to nothing -/
structure Grp (V : Type) where
  add : V → V → V
  zero : V
  comm : ∀ x y, add x y = add y x
  assoc : ∀ x y z, add (add x y) z = add x (add y z)
  self : ∀ x, add x x = zero
  zl : ∀ x, add zero x = x
namespace Grp
variable {V : Type} (G : Grp V)
theorem zr (x : V) : G.add x G.zero = x := by rw [G.comm, G.zl]
theorem back (x y : V) : G.add x (G.add x y) = y := by rw [← G.assoc, G.self, G.zl]
theorem left (x y z : V) : G.add x (G.add y z) = G.add y (G.add x z) := by rw [← G.assoc, G.comm x y, G.assoc]
end Grp
inductive Span {V : Type} (G : Grp V) (S : V → Prop) : V → Prop
  | zero : Span G S G.zero
  | step {x y : V} : S x → Span G S y → Span G S (G.add x y)
namespace Span
variable {V : Type} {G : Grp V} {S T : V → Prop}
theorem of {x : V} (h : S x) : Span G S x := by have := Span.step (G := G) h .zero; rwa [G.zr] at this
theorem plus {x y : V} (hx : Span G S x) (hy : Span G S y) : Span G S (G.add x y) := by
  induction hx with
  | zero => rwa [G.zl]
  | step h _ ih => rw [G.assoc]; exact .step h ih
theorem le (h : ∀ x, S x → Span G T x) {y : V} (hy : Span G S y) : Span G T y := by
  induction hy with
  | zero => exact .zero
  | step h1 _ ih => exact (h _ h1).plus ih
theorem mono (h : ∀ x, S x → T x) {y : V} (hy : Span G S y) : Span G T y := hy.le fun x hx => .of (h x hx)
theorem only {f : V → Bool} (h0 : f G.zero = false) (hf : ∀ x y, f (G.add x y) = (f x != f y)) (h : ∀ x, S x → f x = false) {y : V} (hy : Span G S y) : f y = false := by
  induction hy with
  | zero => exact h0
  | step h1 _ ih => rw [hf, h _ h1, ih]; rfl
end Span
end Go.Proofs.Ytfohmhigidgfhaa
namespace Go.Proofs.Ytfohmhigidgfhaa
open Go
set_option linter.unusedVariables false
set_option linter.unusedSimpArgs false

/-- a word whose keys are right and rise and whose load is four bytes -/
def wOk (x : C2) : Prop := keysOkR x.1 = true ∧ x.2.size = 4
abbrev W2 := { x : C2 // wOk x }
end Go.Proofs.Ytfohmhigidgfhaa
namespace Go.Proofs.Ytfohmhigidgfhaa
open Go
set_option linter.unusedVariables false
set_option linter.unusedSimpArgs false

structure Snk where
  most : Int
  known : List R3
  wait : List C2
  same : Int
  lost : Int
  bad : Int
def noSnk : Snk := ⟨0, [], [], 0, 0, 0⟩
def cntOk (n : Int) : Bool := decide (0 ≤ n) && decide (n ≤ 1000000000)
/-- those that wait are right, of two keys or more, none of them known; no two of the same keys -/
structure WaitP (K : List R3) (W : List C2) : Prop where
  ok : ∀ x ∈ W, codeOkB x = true ∧ 2 ≤ x.1.length ∧ ∀ k ∈ x.1, loadO K k = none
  apart : (W.map (·.1)).Nodup
theorem WaitP.nil (K : List R3) : WaitP K [] := ⟨fun x hx => (by cases hx), List.nodup_nil⟩
instance (K : List R3) (W : List C2) : Decidable (WaitP K W) :=
  decidable_of_iff ((∀ x ∈ W, codeOkB x = true ∧ 2 ≤ x.1.length ∧ ∀ k ∈ x.1, loadO K k = none) ∧ (W.map (·.1)).Nodup) ⟨fun h => ⟨h.1, h.2⟩, fun h => ⟨h.ok, h.apart⟩⟩
structure SnkP (s : Snk) : Prop where
  most : 0 ≤ s.most ∧ s.most ≤ 12
  known : rdsOkR s.known = true
  room : (s.wait.length : Int) ≤ s.most
  same : cntOk s.same = true
  lost : cntOk s.lost = true
  bad : cntOk s.bad = true
  wait : WaitP s.known s.wait
instance (s : Snk) : Decidable (SnkP s) :=
  decidable_of_iff ((0 ≤ s.most ∧ s.most ≤ 12) ∧ rdsOkR s.known = true ∧ (s.wait.length : Int) ≤ s.most ∧ cntOk s.same = true ∧ cntOk s.lost = true ∧ cntOk s.bad = true ∧ WaitP s.known s.wait)
    ⟨fun h => ⟨h.1, h.2.1, h.2.2.1, h.2.2.2.1, h.2.2.2.2.1, h.2.2.2.2.2.1, h.2.2.2.2.2.2⟩, fun h => ⟨h.1, h.2, h.3, h.4, h.5, h.6, h.7⟩⟩
def sinkOkB (s : Snk) : Bool := decide (SnkP s)
def newM (n : Int) : Snk := if 0 ≤ n ∧ n ≤ 12 then ⟨n, [], [], 0, 0, 0⟩ else noSnk
end Go.Proofs.Ytfohmhigidgfhaa
namespace Go.Proofs.Ytfohmhigidgfhaa
open Go
set_option linter.unusedVariables false
set_option linter.unusedSimpArgs false

abbrev Pl := List K2 → Option Nat
def setP (P : Pl) (d : List K2) (i : Nat) : Pl := fun ks => if ks = d then some i else P ks
theorem getW {W : List C2} {k : Nat} (hk : k < W.length) : W.getD k blankC ∈ W := by
  rw [List.getD, List.getElem?_eq_getElem hk]; exact List.getElem_mem hk
end Go.Proofs.Ytfohmhigidgfhaa
namespace Go.Proofs.Ytfohmhigidgfhaa
open Go.ChangeShapes Go.WideShapes Go.ChangeAt Go.RowKit Go.BigFrame Go.Maps
set_option linter.unusedVariables false
set_option linter.unusedSimpArgs false

/-- the places of the first k words; of two with the same keys that of the last one -/
def endP (L : List C2) : Nat → Pl
  | 0 => fun _ => none
  | k + 1 => setP (endP L k) (L.getD k blankC).1 k
def cntP (L : List C2) : Nat → Nat
  | 0 => 0
  | k + 1 => if (endP L k (L.getD k blankC).1).isSome then cntP L k else cntP L k + 1
theorem last_some {L : List C2} : ∀ {k : Nat} {ks : List K2} {i : Nat}, endP L k ks = some i → i < k ∧ (L.getD i blankC).1 = ks
  | 0, _, _, h => by cases h
  | k + 1, ks, i, h => by
    unfold endP setP at h
    split at h
    · rename_i e
      cases h
      exact ⟨by omega, e.symm⟩
    · have := last_some h
      exact ⟨by omega, this.2⟩
theorem last_none {L : List C2} : ∀ {k : Nat} {ks : List K2}, endP L k ks = none → ∀ i, i < k → (L.getD i blankC).1 ≠ ks
  | 0, _, _, i, hi => by omega
  | k + 1, ks, h, i, hi => by
    unfold endP setP at h
    split at h
    · cases h
    · rename_i e
      rcases (by omega : i < k ∨ i = k) with h1 | rfl
      · exact last_none h i h1
      · exact fun e2 => e e2.symm
theorem cnt_le (L : List C2) : ∀ k, cntP L k ≤ k
  | 0 => Nat.le_refl _
  | k + 1 => by
    have := cnt_le L k
    unfold cntP
    split <;> omega
/-- as many places as words: no two with the same keys -/
theorem cnt_full (L : List C2) : ∀ k, cntP L k = k ↔ ∀ i j, i < j → j < k → (L.getD i blankC).1 ≠ (L.getD j blankC).1
  | 0 => ⟨fun _ i j _ h => by omega, fun _ => rfl⟩
  | k + 1 => by
    have ih := cnt_full L k
    have hle := cnt_le L k
    unfold cntP
    cases h : endP L k (L.getD k blankC).1 with
    | some m =>
      obtain ⟨h1, h2⟩ := last_some h
      simp only [Option.isSome_some, if_true]
      exact ⟨fun e => by omega, fun hf => absurd h2 (hf m k h1 (by omega))⟩
    | none =>
      have hn := last_none h
      simp only [Option.isSome_none, Bool.false_eq_true, if_false]
      constructor
      · intro e i j hij hj
        rcases (by omega : j < k ∨ j = k) with h1 | rfl
        · exact ih.1 (by omega) i j hij h1
        · exact hn i hij
      · intro hf
        have := ih.2 (fun i j hij hj => hf i j hij (by omega))
        omega
theorem cnt_nodup (L : List C2) : cntP L L.length = L.length ↔ (L.map (·.1)).Nodup := by
  rw [cnt_full, List.Nodup, List.pairwise_iff_getElem]
  constructor
  · intro h i j hi hj hij
    rw [List.length_map] at hi hj
    have := h i j hij hj
    rw [List.getElem_map, List.getElem_map]
    simpa [List.getD, hi, hj] using this
  · intro h i j hij hj
    have := h i j (by simp; omega) (by simpa using hj) hij
    rw [List.getElem_map, List.getElem_map] at this
    simpa [List.getD, hj, show i < L.length by omega] using this
set_option maxRecDepth 100000 in
set_option maxHeartbeats 1000000 in
theorem iplacesof_any (v : Value) (L : List C2) (w : World) (h : cdAv w none v L) (hL : L.length ≤ 1900000) (hok : ∀ x ∈ L, ksetOk x.1) :
    Calls Try.prog 99 #[v] w fun e w' => e = .returned (.map (some w.heap.size)) ∧ PlI w' w.heap.size (endP L L.length) (cntP L L.length) ∧ Below w.heap.size w w' := by
  have hmm := run_makeMap_pl L.length
  obtain ⟨a, cap, rfl, hcap, hcells⟩ := h
  have hown0 := PlI.start w
  have hb0 : Below w.heap.size w (w.alloc (.map #[] 0)) := (Below.refl _ _).alloc (Nat.le_refl _) _
  go_enter Try.func99, Try.ntmps99
  go_wp2
  clear hmm
  go_loopw [11] (fun i wr => ∃ k : Nat, k ≤ L.length ∧ i = .int .i64 k ∧ PlI wr w.heap.size (endP L k) (cntP L k) ∧ Below w.heap.size w wr) (fun i _ => L.length - (intOf i).toNat)
  case atStart => exact ⟨0, Nat.zero_le _, rfl, hown0, hb0⟩
  case round =>
    clear hown0 hb0
    obtain ⟨k, hk, rfl, hown, hb⟩ := hrel
    by_cases hlt : k < L.length
    · obtain ⟨g, off, rfl, hg, hcs⟩ := hcells.resolve_left (by omega)
      have z0 : (0 : Int) ≤ (k : Int) := by omega
      have z1 : (k : Int) < (L.length : Int) := by omega
      obtain ⟨u, c1, c2, c3⟩ := hcs k hlt
      rename_i wr
      have C1 := (hb.cell (p := ⟨g, off + k * 2, none⟩) hg).trans c1
      have C2 := (hb.cell (p := ⟨g, off + k * 2 + 1, none⟩) hg).trans c2
      have hx := hok (L.getD k blankC) (getW hlt)
      have hcn := cnt_le L k
      have hnext : ∀ W', PlI W' w.heap.size (fun x => if x = (L.getD k blankC).1 then some k else endP L k x) (if (endP L k (L.getD k blankC).1).isSome then cntP L k else cntP L k + 1) → PlI W' w.heap.size (endP L (k + 1)) (cntP L (k + 1)) := fun W' h => h
      have HN := Lib.hid hnext
      clear hcells hcs c1 c2 hnext
      generalize L.getD k blankC = x at *
      have hba := (Below.refl wr.heap.size wr).alloc (Nat.le_refl _) (.cells #[u, .string x.2] 30)
      have HX := Lib.hid (heap_alloc_new wr (.cells #[u, .string x.2] 30))
      have HK := Lib.hid (fun wx (hbx : Below wr.heap.size wr wx) => isetof_any u x.1 wx (keysAt_below (keysAt_below c3.to hb) hbx) hx.1)
      have HO1 := Lib.hid (hown.below hba)
      have HB1 := Lib.hid (hb.trans (hba.mono hb.size))
      have HBA := Lib.hid hba
      have HXO := Lib.hid hx
      have hbz := hb.size
      obtain ⟨au, cu, rfl, -, -⟩ := c3
      clear hb hown hba hx
      go_upto_region 5 with (fail)
      generalize wr.alloc (.cells #[.slice au x.1.length cu, .string x.2] 30) = W at *
      obtain ⟨x0, x1, -, -⟩ := row2_of HX.out
      go_wp2_with fail
      refine (HK.out _ HBA.out).mono ?_
      rintro e w2 ⟨rfl, hb2⟩
      have hown2 := HO1.out.below hb2
      have hbw2 := HB1.out.trans (hb2.mono HB1.out.size)
      obtain ⟨w3, hrun, hown3, hgr3⟩ := hown2.put (by unfold maxLen; omega) HXO.out k
      have HF := Lib.hid (And.intro (HN.out _ hown3) (hbw2.grown hgr3 hbw2.size (fun j hj => by cases hj; exact Nat.le_refl _)))
      clear hown2 hbw2 hown3 hgr3 hb2 x0 x1
      go_wp2
      exact ⟨⟨k + 1, by omega, by go_num, HF.out.1, HF.out.2⟩, by simp [intOf]; omega⟩
    · obtain rfl : k = L.length := by omega
      go_wp2
      go_ret
      exact ⟨rfl, hown, hb⟩
end Go.Proofs.Ytfohmhigidgfhaa
namespace Go.Proofs.Ytfohmhigidgfhaa
open Go
set_option linter.unusedVariables false
set_option linter.unusedSimpArgs false

/-- the place of a word with these keys -/
def atI (W : List C2) (ks : List K2) : Option Nat := W.findIdx? fun x => decide (x.1 = ks)
theorem atI_some {W : List C2} {ks : List K2} {i : Nat} : atI W ks = some i ↔ ∃ h : i < W.length, W[i].1 = ks ∧ ∀ j (hj : j < i), W[j].1 ≠ ks := by
  unfold atI
  rw [List.findIdx?_eq_some_iff_getElem]
  simp
/-- the step of a look through words for these keys -/
theorem atI_no {W : List C2} {ks : List K2} (h : ∀ j (hj : j < W.length), W[j].1 ≠ ks) : atI W ks = none := by
  unfold atI
  rw [List.findIdx?_eq_none_iff]
  intro x hx
  obtain ⟨j, hj, rfl⟩ := List.getElem_of_mem hx
  simpa using h j hj
/-- whether the i-th that waits is right -/
def waitB (K : List R3) (W : List C2) (i : Nat) : Bool :=
  match W[i]? with
  | some x => codeOkB x && decide (2 ≤ x.1.length) && decide (atI W x.1 = some i) && x.1.all fun k => (loadO K k).isNone
  | none => true
theorem waitP_iff (K : List R3) (W : List C2) : WaitP K W ↔ ∀ i, i < W.length → waitB K W i = true := by
  constructor
  · intro h i hi
    unfold waitB
    rw [List.getElem?_eq_getElem hi]
    obtain ⟨h1, h2, h3⟩ := h.ok W[i] (List.getElem_mem hi)
    simp only [Bool.and_eq_true, decide_eq_true_eq, List.all_eq_true]
    refine ⟨⟨⟨h1, h2⟩, atI_some.2 ⟨hi, rfl, fun j hj e => ?_⟩⟩, fun k hk => by rw [h3 k hk]; rfl⟩
    have hn := h.apart
    have hjl : j < W.length := by omega
    have e1 : (W.map (·.1))[j]'(by simpa using hjl) = (W.map (·.1))[i]'(by simpa using hi) := by rw [List.getElem_map, List.getElem_map]; exact e
    have := (List.getElem_inj hn).1 e1
    omega
  · intro h
    have hs : ∀ i (hi : i < W.length), codeOkB W[i] = true ∧ 2 ≤ W[i].1.length ∧ atI W W[i].1 = some i ∧ ∀ k ∈ W[i].1, loadO K k = none := by
      intro i hi
      have := h i hi
      unfold waitB at this
      rw [List.getElem?_eq_getElem hi] at this
      simp only [Bool.and_eq_true, decide_eq_true_eq, List.all_eq_true] at this
      exact ⟨this.1.1.1, this.1.1.2, this.1.2, fun k hk => by simpa using this.2 k hk⟩
    refine ⟨fun x hx => ?_, ?_⟩
    · obtain ⟨i, hi, rfl⟩ := List.getElem_of_mem hx
      obtain ⟨h1, h2, -, h3⟩ := hs i hi
      exact ⟨h1, h2, h3⟩
    · rw [List.Nodup, List.pairwise_iff_getElem]
      intro i j hi hj hij e
      rw [List.length_map] at hi hj
      rw [List.getElem_map, List.getElem_map] at e
      obtain ⟨-, -, h3, -⟩ := hs j hj
      exact (atI_some.1 h3).2.2 i hij e
end Go.Proofs.Ytfohmhigidgfhaa
namespace Go.Proofs.Ytfohmhigidgfhaa
open Go.RowKit
set_option linter.unusedVariables false
theorem cells_own {β : Type} (B : Nat) (f : β → Array Value) (t : TypeId) : Own (fun (s : β) W => W.heap[B]? = some (.cells (f s) t (0, 0))) := by
  intro s X Y row h hg hr
  refine (hg.block B (Array.getElem?_eq_some_iff.1 h).1 (fun e => ?_)).trans h
  obtain ⟨o, ho, hc⟩ := hr B e.symm
  rw [h] at ho; cases ho; cases hc
end Go.Proofs.Ytfohmhigidgfhaa
namespace Go.Proofs.Ytfohmhigidgfhaa
open Go.ChangeShapes Go.WideShapes Go.ChangeAt Go.RowKit Go.BigFrame
set_option linter.unusedVariables false

theorem arr_sz : ∀ w : World, (sizeOf 5).run Try.prog w = .ok 1 w := by
  obtain ⟨i0, h1, h2⟩ : ∃ i, Try.prog.info? 5 = some i ∧ i.size = 1 := by
    have h : (Try.prog.info? 5).map (·.size) = some 1 := by kernel_rfl
    cases hq : Try.prog.info? 5 with
    | none => rw [hq] at h; simp at h
    | some i => rw [hq] at h; exact ⟨i, rfl, by simpa using h⟩
  intro w
  simp [sizeOf, typeInfo, h1, h2]
theorem arr_eql (x y : ByteArray) (hx : x.size = 4) (hy : y.size = 4) (w : World) : (binOp .eql 114 (arr4 x) (arr4 y)).run Try.prog w = .ok (.bool (x.data.toList == y.data.toList)) w :=
  run_eql_bytes w 114 5 4 Try.underlying114 Try.underlying5 arr_sz _ _ (by simpa using hx) (by simpa using hy)
theorem arr_guard (op : BinOp) (x y : Operand) (a b : ByteArray) (w : World) : (eqGuard op 114 x y (arr4 a) (arr4 b)).run Try.prog w = .ok () w := by
  unfold arr4
  exact run_eqGuard_agg w op 114 x y _ _ (by kernel_rfl)
theorem arr4_lit (y : ByteArray) (h : y.size = 4) : ∃ a b c d : Int, arr4 y = .agg #[.int .u8 a, .int .u8 b, .int .u8 c, .int .u8 d] := by
  obtain ⟨a, b, c, d, hd⟩ := four_bytes y h
  exact ⟨a.toNat, b.toNat, c.toNat, d.toNat, by unfold arr4; rw [hd]; rfl⟩
end Go.Proofs.Ytfohmhigidgfhaa
namespace Go.Proofs.Ytfohmhigidgfhaa
open Go.ChangeShapes Go.WideShapes Go.ChangeAt Go.RowKit Go.BigFrame
set_option linter.unusedVariables false

theorem nums_cell {w : World} {b : Nat} {p q r s : UInt8} {t : TypeId} (h : w.heap[b]? = some (.cells #[.int .u8 p.toNat, .int .u8 q.toNat, .int .u8 r.toNat, .int .u8 s.toNat] t (0, 0))) :
    ∀ i, i < 4 → w.cell? ⟨b, 0 + i, none⟩ = some (.int .u8 ((numsOf [p, q, r, s]).getD i 0)) := by
  intro i hi
  rcases (by omega : i = 0 ∨ i = 1 ∨ i = 2 ∨ i = 3) with rfl | rfl | rfl | rfl <;> (rw [cell_of_row _ _ _ _ _ _ h]; rfl)
set_option maxRecDepth 100000 in
theorem icodeof_any (a : Option Addr) (n c : Nat) (y : ByteArray) (hy : y.size = 4) (w : World) :
    Calls Try.prog 97 #[.slice a n c, arr4 y] w fun e w' => e = .returned (.agg #[.slice a n c, .string y]) ∧ Below w.heap.size w w' := by
  obtain ⟨p, q, r, s, hd⟩ := four_bytes y hy
  have ha : arr4 y = .agg #[.int .u8 p.toNat, .int .u8 q.toNat, .int .u8 r.toNat, .int .u8 s.toNat] := by unfold arr4; rw [hd]; rfl
  have hb1 := (Below.refl w.heap.size w).alloc (Nat.le_refl _) (.cells #[.int .u8 p.toNat, .int .u8 q.toNat, .int .u8 r.toNat, .int .u8 s.toNat] 114)
  have hb2 := hb1.alloc hb1.size (.cells #[.slice a n c, .string y] 30)
  have hr3 := heap_alloc_new (w.alloc (.cells #[.int .u8 p.toNat, .int .u8 q.toNat, .int .u8 r.toNat, .int .u8 s.toNat] 114)) (.cells #[.slice a n c, .string y] 30)
  have hr1 := heap_first w (.cells #[.slice none 0 0, .string ⟨#[]⟩] 30) (.cells #[.int .u8 p.toNat, .int .u8 q.toNat, .int .u8 r.toNat, .int .u8 s.toNat] 114)
  have hr2 := heap_alloc_new (w.alloc (.cells #[.int .u8 p.toNat, .int .u8 q.toNat, .int .u8 r.toNat, .int .u8 s.toNat] 114)) (.cells #[.slice none 0 0, .string ⟨#[]⟩] 30)
  have e1 : (w.alloc (.cells #[.int .u8 p.toNat, .int .u8 q.toNat, .int .u8 r.toNat, .int .u8 s.toNat] 114)).heap.size = w.heap.size + 1 := by simp
  rw [e1] at hr2 hr3
  have hconv := run_convert_bytes_arg (P := Try.prog) _ 22 5 Try.underlying22 Try.underlying5 w.heap.size 0 4 4 (numsOf [p, q, r, s]) rfl (nums_cell hr1) 9 Try.underlying9
  rw [nums_back, show (⟨[p, q, r, s].toArray⟩ : ByteArray) = y from by rw [← hd]] at hconv
  rw [ha]
  obtain ⟨c0, c1, f0, f1⟩ := row2_of hr2
  have HF := Lib.hid (And.intro (cd_load hr3 (Below.refl _ _)) hb2)
  clear hb1 hb2 hr1 hr2 hr3 e1 ha hd
  go_enter Try.func97, Try.ntmps97
  go_wp2_with fail
  refine bodyPost_ret (v := .agg #[.slice a n c, .string y]) ?_ rfl ⟨rfl, HF.out.2⟩
  rw [results_cell (p := 4) (ty := 30) (by kernel_rfl)]
  have l2 := HF.out.1
  simp [asAddr, Result.andThen, l2]
end Go.Proofs.Ytfohmhigidgfhaa
namespace Go.Proofs.Ytfohmhigidgfhaa
open Go.ChangeShapes Go.WideShapes Go.ChangeAt Go.RowKit Go.BigFrame
set_option linter.unusedVariables false

def zero4L : List UInt8 := [0, 0, 0, 0]
theorem z4_eq (y : ByteArray) : decide (y = z4) = (y.data.toList == zero4L) := by
  rw [Bool.eq_iff_iff, decide_eq_true_eq, beq_iff_eq]
  constructor
  · rintro rfl; rfl
  · intro h
    have : y = ⟨y.data.toList.toArray⟩ := by simp
    rw [this, h]; rfl
set_option maxRecDepth 100000 in
set_option maxHeartbeats 1000000 in
theorem icodeok_any (v : Value) (ks : List K2) (y : ByteArray) (w : World) (h : keysAt w v ks) (hs : ks.length ≤ 2000000) :
    Calls Try.prog 42 #[.agg #[v, .string y]] w fun e w' => e = .returned (.bool (codeOkB (ks, y))) ∧ Below w.heap.size w w' := by
  have hb := (Below.refl w.heap.size w).alloc (Nat.le_refl _) (.cells #[v, .string y] 30)
  have HB := Lib.hid hb
  have HX := Lib.hid (heap_alloc_new w (.cells #[v, .string y] 30))
  have HK := Lib.hid (ikeysok_any v ks (w.alloc (.cells #[v, .string y] 30)) (keysAt_below h hb) hs)
  obtain ⟨a, cap, rfl, -, -⟩ := h
  unfold codeOkB
  dsimp only
  obtain ⟨x0, x1, -, -⟩ := row2_of HX.out
  clear hb
  go_enter Try.func42, Try.ntmps42
  by_cases h1 : ks.length ≤ 6
  · have i1 : ¬ (6 : Int) < (ks.length : Int) := by omega
    have i2 : (ks.length : Int) ≤ 6 := by omega
    go_wp2_with fail
    generalize w.alloc (.cells #[.slice a ks.length cap, .string y] 30) = W at *
    refine HK.out.mono ?_
    rintro e w1 ⟨rfl, hb1⟩
    have HB1 := Lib.hid (HB.out.trans (hb1.mono HB.out.size))
    clear x0 x1
    obtain ⟨x0, x1⟩ := cd_cells HX.out hb1
    clear hb1 HK HX HB
    cases h2 : keysOkR ks with
    | false =>
      go_wp2
      go_ret
      exact ⟨by simp [h1, h2], HB1.out⟩
    | true =>
      by_cases h3 : y.size = 4
      · have i3 : (y.size : Int) = 4 := by omega
        by_cases h4 : 0 < ks.length
        · have i4 : (0 : Int) < (ks.length : Int) := by omega
          go_wp2
          go_ret
          exact ⟨by simp [h1, h2, h3, h4], HB1.out⟩
        · have i4 : ¬ (0 : Int) < (ks.length : Int) := by omega
          have AE := fun w => arr_eql y z4 h3 rfl w
          have AG := fun op x z w => arr_guard op x z y z4 w
          have HL := Lib.hid (iloadbytes_any y w1 h3)
          obtain ⟨p, q, r, s, hp⟩ := arr4_lit y h3
          rw [hp] at AE AG HL
          rw [show arr4 z4 = .agg #[.int .u8 0, .int .u8 0, .int .u8 0, .int .u8 0] from rfl] at AE AG
          rw [show z4.data.toList = zero4L from rfl, ← z4_eq] at AE
          clear hp
          generalize hbo : decide (y = z4) = bo at *
          go_wp2_with fail
          refine HL.out.mono ?_
          rintro e w2 ⟨rfl, hb2⟩
          have HB2 := Lib.hid (HB1.out.trans (hb2.mono HB1.out.size))
          clear hb2 HL x0 x1 HB1
          go_wp2
          go_ret
          exact ⟨by rw [← hbo]; simp [h1, h2, h3, h4], HB2.out⟩
      · have i3 : ¬ (y.size : Int) = 4 := by omega
        go_wp2
        go_ret
        exact ⟨by simp [h1, h2, h3], HB1.out⟩
  · have i1 : (6 : Int) < (ks.length : Int) := by omega
    have i2 : ¬ (ks.length : Int) ≤ 6 := by omega
    go_wp2
    go_ret
    exact ⟨by simp [h1], HB.out⟩
end Go.Proofs.Ytfohmhigidgfhaa
namespace Go.Proofs.Ytfohmhigidgfhaa
open Go.ChangeShapes Go.WideShapes Go.ChangeAt Go.RowKit Go.BigFrame
set_option linter.unusedVariables false

/-- the first k by or (exclusively), the others as they were -/
def mixL : Nat → List UInt8 → List UInt8 → List UInt8
  | 0, a, _ => a
  | k + 1, x :: a, y :: b => (x ^^^ y) :: mixL k a b
  | _ + 1, a, _ => a
def row4 : List UInt8 → Array Value
  | [p, q, r, s] => #[.int .u8 p.toNat, .int .u8 q.toNat, .int .u8 r.toNat, .int .u8 s.toNat]
  | _ => #[]
structure Row4 (w : World) (b : Nat) (x y z u : Value) : Prop where
  c0 : w.cell? ⟨b, 0, none⟩ = some x
  c1 : w.cell? ⟨b, 1, none⟩ = some y
  c2 : w.cell? ⟨b, 2, none⟩ = some z
  c3 : w.cell? ⟨b, 3, none⟩ = some u
  f0 : w.frozen? ⟨b, 0, none⟩ = false
  f1 : w.frozen? ⟨b, 1, none⟩ = false
  f2 : w.frozen? ⟨b, 2, none⟩ = false
  f3 : w.frozen? ⟨b, 3, none⟩ = false
theorem row4_of {w : World} {b : Nat} {x y z u : Value} {t : TypeId} (h : w.heap[b]? = some (.cells #[x, y, z, u] t (0, 0))) : Row4 w b x y z u :=
  ⟨by rw [cell_of_row _ _ 0 _ _ _ h]; rfl, by rw [cell_of_row _ _ 1 _ _ _ h]; rfl, by rw [cell_of_row _ _ 2 _ _ _ h]; rfl, by rw [cell_of_row _ _ 3 _ _ _ h]; rfl,
   by simp [World.frozen?, h], by simp [World.frozen?, h], by simp [World.frozen?, h], by simp [World.frozen?, h]⟩
theorem arr4_load {W w' : World} {b : Nat} {x y z u : Value} (h : W.heap[b]? = some (.cells #[x, y, z, u] 114 (0, 0))) (hb : Below W.heap.size W w') :
    (loadVar 114 ⟨b, 0, none⟩).run Try.prog w' = .ok (.agg #[x, y, z, u]) w' :=
  run_loadVar_row (P := Try.prog) w' b 114 114 #[x, y, z, u] (0, 0) _ ((hb.block _ (Array.getElem?_eq_some_iff.1 h).1).trans h) Try.underlying114 rfl (by kernel_rfl)
theorem set4 {w : World} {b : Nat} {x y z u : Value} {t : TypeId} (p q r s : Value) (h : w.heap[b]? = some (.cells #[x, y, z, u] t (0, 0))) :
    ((((w.setCell ⟨b, 0, none⟩ p).setCell ⟨b, 1, none⟩ q).setCell ⟨b, 2, none⟩ r).setCell ⟨b, 3, none⟩ s).heap[b]? = some (.cells #[p, q, r, s] t (0, 0)) := set_cellsR _ (set_cellsR _ (set_cellsR _ (set_cellsR _ h)))
theorem below4 {w W : World} {n b : Nat} (hb : Below n w W) (h : n ≤ b) (p q r s : Value) : Below n w ((((W.setCell ⟨b, 0, none⟩ p).setCell ⟨b, 1, none⟩ q).setCell ⟨b, 2, none⟩ r).setCell ⟨b, 3, none⟩ s) :=
  (((hb.setCell (p := ⟨b, 0, none⟩) h p).setCell (p := ⟨b, 1, none⟩) h q).setCell (p := ⟨b, 2, none⟩) h r).setCell (p := ⟨b, 3, none⟩) h s
/-- what is known in the loop -/
structure OrK (w W : World) (A B : List UInt8) : Prop where
  below : Below w.heap.size w W
  bx : W.heap[w.heap.size]? = some (.cells (row4 A) 114 (0, 0))
  by' : W.heap[w.heap.size + 1]? = some (.cells (row4 B) 114 (0, 0))
  res : W.heap[w.heap.size + 2]? = some (.cells #[.int .u8 0, .int .u8 0, .int .u8 0, .int .u8 0] 114 (0, 0))
theorem ork_new (w : World) (p q r s p2 q2 r2 s2 : UInt8) : OrK w (((w.alloc (.cells #[.int .u8 p.toNat, .int .u8 q.toNat, .int .u8 r.toNat, .int .u8 s.toNat] 114)).alloc (.cells #[.int .u8 p2.toNat, .int .u8 q2.toNat, .int .u8 r2.toNat, .int .u8 s2.toNat] 114)).alloc (.cells #[.int .u8 0, .int .u8 0, .int .u8 0, .int .u8 0] 114)) [p, q, r, s] [p2, q2, r2, s2] := by
  have hb1 := (Below.refl w.heap.size w).alloc (Nat.le_refl _) (.cells #[.int .u8 p.toNat, .int .u8 q.toNat, .int .u8 r.toNat, .int .u8 s.toNat] 114)
  have hb2 := hb1.alloc hb1.size (.cells #[.int .u8 p2.toNat, .int .u8 q2.toNat, .int .u8 r2.toNat, .int .u8 s2.toNat] 114)
  have hb3 := hb2.alloc hb2.size (.cells #[.int .u8 0, .int .u8 0, .int .u8 0, .int .u8 0] 114)
  refine ⟨hb3, ?_, ?_, ?_⟩
  · exact (Below.heap_alloc _ _ w.heap.size (by simp; omega)).trans ((Below.heap_alloc _ _ w.heap.size (by simp)).trans (heap_alloc_new w _))
  · refine (Below.heap_alloc _ _ (w.heap.size + 1) (by simp)).trans ?_
    have := heap_alloc_new (w.alloc (.cells #[.int .u8 p.toNat, .int .u8 q.toNat, .int .u8 r.toNat, .int .u8 s.toNat] 114)) (.cells #[.int .u8 p2.toNat, .int .u8 q2.toNat, .int .u8 r2.toNat, .int .u8 s2.toNat] 114)
    rw [show (w.alloc (.cells #[.int .u8 p.toNat, .int .u8 q.toNat, .int .u8 r.toNat, .int .u8 s.toNat] 114)).heap.size = w.heap.size + 1 by simp] at this
    exact this
  · have := heap_alloc_new ((w.alloc (.cells #[.int .u8 p.toNat, .int .u8 q.toNat, .int .u8 r.toNat, .int .u8 s.toNat] 114)).alloc (.cells #[.int .u8 p2.toNat, .int .u8 q2.toNat, .int .u8 r2.toNat, .int .u8 s2.toNat] 114)) (.cells #[.int .u8 0, .int .u8 0, .int .u8 0, .int .u8 0] 114)
    simpa using this
theorem OrK.drew {w W : World} {A B : List UInt8} (h : OrK w W A B) : OrK w W.drew A B := ⟨h.below.drew, h.bx, h.by', h.res⟩
theorem OrK.set {w W : World} {A B A' : List UInt8} {j : Nat} {v : Value} (h : OrK w W A B) (hr : (row4 A).setIfInBounds j v = row4 A') : OrK w (W.setCell ⟨w.heap.size, j, none⟩ v) A' B := by
  refine ⟨h.below.setCell (p := ⟨w.heap.size, j, none⟩) (Nat.le_refl _) v, ?_, ?_, ?_⟩
  · rw [← hr]; exact set_cellsR v h.bx
  · rw [Below.heap_setCell _ _ _ _ (by simp)]; exact h.by'
  · rw [Below.heap_setCell _ _ _ _ (by simp)]; exact h.res
set_option maxRecDepth 100000 in
set_option maxHeartbeats 1000000 in
theorem iorof_any (x y : ByteArray) (hx : x.size = 4) (hy : y.size = 4) (w : World) :
    Calls Try.prog 96 #[arr4 x, arr4 y] w fun e w' => e = .returned (arr4 (xorS x y)) ∧ Below w.heap.size w w' := by
  obtain ⟨p, q, r, s, hd⟩ := four_bytes x hx
  obtain ⟨p2, q2, r2, s2, hd2⟩ := four_bytes y hy
  have hz : arr4 (xorS x y) = .agg (row4 (mixL 4 [p, q, r, s] [p2, q2, r2, s2])) := by
    unfold xorS
    rw [if_pos (by omega), hd, hd2]
    rfl
  have ha : arr4 x = .agg #[.int .u8 p.toNat, .int .u8 q.toNat, .int .u8 r.toNat, .int .u8 s.toNat] := by unfold arr4; rw [hd]; rfl
  have ha2 : arr4 y = .agg #[.int .u8 p2.toNat, .int .u8 q2.toNat, .int .u8 r2.toNat, .int .u8 s2.toNat] := by unfold arr4; rw [hd2]; rfl
  have K0 := Lib.hid (ork_new w p q r s p2 q2 r2 s2)
  rw [ha, ha2]
  have HZ := Lib.hid hz
  clear hd hd2 ha ha2 hz
  have X0 := u8_xor p p2; have X1 := u8_xor q q2; have X2 := u8_xor r r2; have X3 := u8_xor s s2
  go_enter Try.func96, Try.ntmps96
  go_wp2
  generalize (((w.alloc (.cells #[.int .u8 p.toNat, .int .u8 q.toNat, .int .u8 r.toNat, .int .u8 s.toNat] 114)).alloc (.cells #[.int .u8 p2.toNat, .int .u8 q2.toNat, .int .u8 r2.toNat, .int .u8 s2.toNat] 114)).alloc (.cells #[.int .u8 0, .int .u8 0, .int .u8 0, .int .u8 0] 114)) = W at *
  go_loopw [6] (fun i wr => ∃ k : Nat, k ≤ 4 ∧ i = .int .i64 k ∧ OrK w wr (mixL k [p, q, r, s] [p2, q2, r2, s2]) [p2, q2, r2, s2]) (fun i _ => 4 - (intOf i).toNat)
  case atStart => exact ⟨0, Nat.zero_le _, rfl, K0.out⟩
  case round =>
    obtain ⟨k, hk, rfl, K⟩ := hrel
    have HK := Lib.hid K
    rcases (by omega : k = 0 ∨ k = 1 ∨ k = 2 ∨ k = 3 ∨ k = 4) with rfl | rfl | rfl | rfl | rfl
    · obtain ⟨c0, c1, c2, c3, f0, f1, f2, f3⟩ := row4_of K.bx
      obtain ⟨d0, d1, d2, d3, -, -, -, -⟩ := row4_of K.by'
      clear K
      go_wp2
      refine wp_region_plan [0, 3] [false, true, true, false, true, true, true, true] 8 (by kernel_rfl) (by kernel_rfl) (by kernel_rfl) ?_
      simp only [maskRows, movesA, moveOf, List.getElem?_toArray, List.getElem?_cons_zero, List.getElem?_cons_succ, List.drop_succ_cons, List.drop_zero]
      repeat still_step
      refine wpStill_nil ?_
      intro K1 hK1
      go_wp2
      exact ⟨⟨1, by omega, rfl, HK.out.drew.set rfl⟩, by simp [intOf]⟩
    · obtain ⟨c0, c1, c2, c3, f0, f1, f2, f3⟩ := row4_of K.bx
      obtain ⟨d0, d1, d2, d3, -, -, -, -⟩ := row4_of K.by'
      clear K
      go_wp2
      refine wp_region_plan [0, 3] [false, true, true, false, true, true, true, true] 8 (by kernel_rfl) (by kernel_rfl) (by kernel_rfl) ?_
      simp only [maskRows, movesA, moveOf, List.getElem?_toArray, List.getElem?_cons_zero, List.getElem?_cons_succ, List.drop_succ_cons, List.drop_zero]
      repeat still_step
      refine wpStill_nil ?_
      intro K1 hK1
      go_wp2
      exact ⟨⟨2, by omega, rfl, HK.out.drew.set rfl⟩, by simp [intOf]⟩
    · obtain ⟨c0, c1, c2, c3, f0, f1, f2, f3⟩ := row4_of K.bx
      obtain ⟨d0, d1, d2, d3, -, -, -, -⟩ := row4_of K.by'
      clear K
      go_wp2
      refine wp_region_plan [0, 3] [false, true, true, false, true, true, true, true] 8 (by kernel_rfl) (by kernel_rfl) (by kernel_rfl) ?_
      simp only [maskRows, movesA, moveOf, List.getElem?_toArray, List.getElem?_cons_zero, List.getElem?_cons_succ, List.drop_succ_cons, List.drop_zero]
      repeat still_step
      refine wpStill_nil ?_
      intro K1 hK1
      go_wp2
      exact ⟨⟨3, by omega, rfl, HK.out.drew.set rfl⟩, by simp [intOf]⟩
    · obtain ⟨c0, c1, c2, c3, f0, f1, f2, f3⟩ := row4_of K.bx
      obtain ⟨d0, d1, d2, d3, -, -, -, -⟩ := row4_of K.by'
      clear K
      go_wp2
      refine wp_region_plan [0, 3] [false, true, true, false, true, true, true, true] 8 (by kernel_rfl) (by kernel_rfl) (by kernel_rfl) ?_
      simp only [maskRows, movesA, moveOf, List.getElem?_toArray, List.getElem?_cons_zero, List.getElem?_cons_succ, List.drop_succ_cons, List.drop_zero]
      repeat still_step
      refine wpStill_nil ?_
      intro K1 hK1
      go_wp2
      exact ⟨⟨4, by omega, rfl, HK.out.drew.set rfl⟩, by simp [intOf]⟩
    · obtain ⟨d0, d1, d2, d3, -, -, -, -⟩ := row4_of K.bx
      obtain ⟨c0, c1, c2, c3, f0, f1, f2, f3⟩ := row4_of K.res
      have hl := (Array.getElem?_eq_some_iff.1 K.res).1
      have hfin := set4 (.int .u8 (p ^^^ p2).toNat) (.int .u8 (q ^^^ q2).toNat) (.int .u8 (r ^^^ r2).toNat) (.int .u8 (s ^^^ s2).toNat) K.res
      have HF := Lib.hid (And.intro (arr4_load hfin (Below.refl _ _)) (below4 K.below (by omega : w.heap.size ≤ w.heap.size + 2) (.int .u8 (p ^^^ p2).toNat) (.int .u8 (q ^^^ q2).toNat) (.int .u8 (r ^^^ r2).toNat) (.int .u8 (s ^^^ s2).toNat)))
      clear K HK hfin
      go_wp2_with fail
      refine bodyPost_ret (v := .agg #[.int .u8 (p ^^^ p2).toNat, .int .u8 (q ^^^ q2).toNat, .int .u8 (r ^^^ r2).toNat, .int .u8 (s ^^^ s2).toNat]) ?_ rfl ⟨by rw [HZ.out]; rfl, HF.out.2⟩
      rw [results_cell (p := 4) (ty := 114) (by kernel_rfl)]
      have l2 := HF.out.1
      simp only [UInt8.toNat_xor] at l2
      simp [asAddr, Result.andThen, l2]
end Go.Proofs.Ytfohmhigidgfhaa
namespace Go.Proofs.Ytfohmhigidgfhaa
open Go.RowKit
set_option linter.unusedVariables false

theorem cloneR_any (s : ByteArray) (w : World) (hs : s.size ≤ 2000000) : Calls Try.prog 128 #[.string s] w fun e w' => e = .returned (.string s) ∧ Below w.heap.size w w' := by
  go_enter Try.func128, Try.ntmps128
  go_wp2_with (go_at_call 138; refine (Try.stringslite_Clone s _ (by omega)).mono ?_; rintro e w' ⟨rfl, hb⟩)
  go_ret
  exact ⟨rfl, hb⟩
end Go.Proofs.Ytfohmhigidgfhaa
namespace Go.Proofs.Ytfohmhigidgfhaa
open Go.ChangeShapes Go.WideShapes Go.ChangeAt Go.RowKit Go.BigFrame
set_option linter.unusedVariables false

set_option maxRecDepth 100000 in
set_option maxHeartbeats 1000000 in
theorem iloadof_any (v : Value) (rs : List R3) (x : K2) (w : World) (h : rdAt w v rs) (hs : rs.length ≤ 2000000) (hx : ∀ r ∈ rs, r.2.size ≤ 2000000) : Calls Try.prog 95 #[v, kv x] w fun e w' => e = .returned (loadV (loadO rs x)) ∧ Below w.heap.size w w' := by
  obtain ⟨a, cap, rfl, hcap, hcells⟩ := h
  obtain ⟨n, s⟩ := x
  unfold kv
  dsimp only
  have hx0 : (w.alloc (.cells #[.int .i64 n, .int .i64 s] 43)).heap[w.heap.size]? = some (.cells #[.int .i64 n, .int .i64 s] 43) := heap_alloc_new w _
  have hB0 : Below w.heap.size w (w.alloc (.cells #[.int .i64 n, .int .i64 s] 43)) := (Below.refl _ _).alloc (Nat.le_refl _) _
  have hsz0 : (w.alloc (.cells #[.int .i64 n, .int .i64 s] 43)).heap.size = w.heap.size + 1 := by simp
  have HX0 := Lib.hid hx0; have HB0 := Lib.hid hB0; have HSZ := Lib.hid hsz0; clear hx0 hB0 hsz0
  go_enter Try.func95, Try.ntmps95
  go_wp2
  generalize w.alloc (.cells #[.int .i64 n, .int .i64 s] 43) = W at *
  go_loopw [10] (fun i wr => ∃ k : Nat, k ≤ rs.length ∧ i = .int .i64 k ∧ (∀ j, j < k → ((rs.getD j r0).1 == (n, s)) = false) ∧ Below W.heap.size W wr) (fun i _ => rs.length - (intOf i).toNat)
  case atStart => exact ⟨0, Nat.zero_le _, rfl, fun j hj => by omega, Below.refl _ _⟩
  case round =>
    obtain ⟨k, hk, rfl, hall, hb⟩ := hrel
    by_cases hlt : k < rs.length
    · obtain ⟨g, off, rfl, hg, hcs⟩ := hcells.resolve_left (by omega)
      have z0 : (0 : Int) ≤ (k : Int) := by omega
      have z1 : (k : Int) < (rs.length : Int) := by omega
      have c1 := hcs k hlt
      rename_i wr
      have hbw := HB0.out.trans (hb.mono (by rw [HSZ.out]; omega))
      have C1 : wr.cell? ⟨g, off + k * 3, none⟩ = some (.int .i64 (rs.getD k r0).1.1) := (hbw.cell (p := ⟨g, off + k * 3, none⟩) hg).trans c1.1
      have C2 : wr.cell? ⟨g, off + k * 3 + 1, none⟩ = some (.int .i64 (rs.getD k r0).1.2) := (hbw.cell (p := ⟨g, off + k * 3 + 1, none⟩) hg).trans c1.2.1
      have C3 : wr.cell? ⟨g, off + k * 3 + 2, none⟩ = some (.string (rs.getD k r0).2) := (hbw.cell (p := ⟨g, off + k * 3 + 2, none⟩) hg).trans c1.2.2
      have hx2 : wr.heap[w.heap.size]? = some (.cells #[.int .i64 n, .int .i64 s] 43) := (hb.block _ (by rw [HSZ.out]; omega)).trans HX0.out
      have E1 : wr.cell? ⟨w.heap.size, 0, none⟩ = some (.int .i64 n) := by rw [cell_of_row _ _ 0 _ _ _ hx2]; rfl
      have E2 : wr.cell? ⟨w.heap.size, 1, none⟩ = some (.int .i64 s) := by rw [cell_of_row _ _ 1 _ _ _ hx2]; rfl
      have HY := Lib.hid (hx (rs.getD k r0) (by simp [List.getD, hlt]))
      have hwz : w.heap.size < wr.heap.size := by have := hb.size; rw [HSZ.out] at this; omega
      clear hcells hcs c1 hx2
      generalize hkx : rs.getD k r0 = kx at *
      obtain ⟨⟨p, q⟩, y⟩ := kx
      dsimp only at C1 C2 C3 HY
      have HC := Lib.hid (fun w => cloneR_any y w HY.out)
      have HBA := Lib.hid (hbw.alloc hbw.size (.cells #[.int .i64 p, .int .i64 q, .string y] 46))
      have HB1 := Lib.hid (hb.alloc hb.size (.cells #[.int .i64 p, .int .i64 q, .string y] 46))
      have EQ := fun w => key_eql (p, q) (n, s) w
      unfold kv at EQ
      dsimp only at EQ
      cases he : ((p, q) == (n, s)) with
      | true =>
        have hh : loadO rs (n, s) = some y := by
          have := loadO_hit (n, s) rs k hlt hall (by rw [hkx]; exact he)
          rw [this, hkx]
        have HH := Lib.hid hh
        rw [he] at EQ
        clear hall hkx hh he hb hbw HY
        go_wp2_with fail
        refine (HC.out _).mono ?_
        rintro e w2 ⟨rfl, hb2⟩
        have hB2 := HBA.out.trans (hb2.mono HBA.out.size)
        go_wp2
        go_ret2
        exact ⟨by rw [HH.out]; rfl, hB2⟩
      | false =>
        have hn : ∀ j, j < k + 1 → ((rs.getD j r0).1 == (n, s)) = false := by
          intro j hj
          rcases (by omega : j < k ∨ j = k) with h1 | rfl
          · exact hall j h1
          · rw [hkx, he]
        have HN := Lib.hid hn
        rw [he] at EQ
        clear hall hkx hn he hb hbw HY
        go_wp2
        exact ⟨⟨k + 1, by omega, by go_num, HN.out, HB1.out⟩, by simp [intOf]; omega⟩
    · obtain rfl : k = rs.length := by omega
      have hh : loadO rs (n, s) = none := loadO_miss (n, s) rs hall
      have HH := Lib.hid hh
      clear hall hh
      go_wp2
      go_ret2
      exact ⟨by rw [HH.out]; rfl, HB0.out.trans (hb.mono (by rw [HSZ.out]; omega))⟩
end Go.Proofs.Ytfohmhigidgfhaa
namespace Go.Proofs.Ytfohmhigidgfhaa
open Go
section
variable {P : Program} {ops : Array Oper} {Q : Exit → Act → World → Prop} {md : Region.Mode} {S : World → Prop}

/-- whatever order is picked from here on; behind each operation a sharper condition holds -/
def wpG (P : Program) (md : Region.Mode) (ops : Array Oper) (Q : Exit → Act → World → Prop) : Nat → (World → Prop) → Array Bool → Act → World → Prop
  | 0, _, listed, a, w => Region.ready md ops listed = [] ∧ Q .normal a w
  | fuel + 1, S, listed, a, w =>
    (Region.ready md ops listed = [] → Q .normal a w) ∧
    ∀ i ∈ Region.ready md ops listed, wpOp P ops Q i (fun a' w' => ∃ S' : World → Prop, (∀ x, S' x → S x) ∧ S' w' ∧ wpG P md ops Q fuel S' (listed.setIfInBounds i true) a' w') a w

theorem wpAny_of_G : ∀ (fuel : Nat) (S : World → Prop) (listed : Array Bool) (a : Act) (w : World), wpG P md ops Q fuel S listed a w → wpAny P md ops Q fuel listed a w
  | 0, _, _, _, _, h => h
  | fuel + 1, S, _, _, _, h => ⟨h.1, fun i hi => wpOp_mono (fun a' w' ⟨S', _, _, h'⟩ => wpAny_of_G fuel S' _ a' w' h') (h.2 i hi)⟩

theorem YieldsIf.sharper {S' : World → Prop} {o : Oper} {v : Value} {a : Act} (h : ∀ x, S' x → S x) (hy : YieldsIf P ops S o v a) : YieldsIf P ops S' o v a :=
  hy.imp (fun ⟨hw, hv⟩ => ⟨hw, fun w hs => hv w (h w hs)⟩) id

theorem wpG_first {i : Nat} {oi : Oper} {v : Value} (hi : ops[i]? = some oi) (hsel : ∀ (j : Nat) (o : Oper) cs b, ops[j]? = some o → o.op ≠ .select cs b)
    (hQ : ∀ c a w, Q (.panic c) (a.put oi.dst v) w → Q (.panic c) a w) :
    ∀ (fuel : Nat) (S : World → Prop) (listed : Array Bool) (a : Act) (w : World),
      (∀ j oj, ops[j]? = some oj → j ≠ i → listed.getD j true = false → (∀ e ∈ oj.after, Region.binds md e = true → e.on ≠ i) → oi.apart ops oj = true) →
      i ∈ Region.ready md ops listed → YieldsIf P ops S oi v a → S w →
      wpG P md ops Q fuel S (listed.setIfInBounds i true) (a.put oi.dst v) w → wpG P md ops Q (fuel + 1) S listed a w := by
  intro fuel
  induction fuel with
  | zero =>
    intro S listed a w _ hr hy hS H
    refine ⟨fun h => (by rw [h] at hr; cases hr), fun j hj => ?_⟩
    by_cases hji : j = i
    · subst hji; exact hy.wpOp hi hS ⟨S, fun _ h => h, hS, H⟩
    · have := ready_mono hj hji
      rw [H.1] at this
      cases this
  | succ fuel ih =>
    intro S listed a w hfree hr hy hS H
    refine ⟨fun h => (by rw [h] at hr; cases hr), fun j hj => ?_⟩
    by_cases hji : j = i
    · subst hji; exact hy.wpOp hi hS ⟨S, fun _ h => h, hS, H⟩
    · have h1 := H.2 j (ready_mono hj hji)
      obtain ⟨hjun, oj, hoj, hall⟩ := mem_ready.1 hj
      have hnot : ∀ e ∈ oj.after, Region.binds md e = true → e.on ≠ i := fun e he hb heq => by
        have h1 := hall e he hb
        have h0 := (mem_ready.1 hr).1
        rw [heq] at h1
        rcases Nat.lt_or_ge i listed.size with h' | h'
        · simp [h'] at h0 h1; rw [h0] at h1; cases h1
        · simp [Array.getElem?_eq_none h'] at h1
      have h2 := wpOp_putIf hoj (hfree j oj hoj hji hjun hnot) (fun cs b => hsel i oi cs b hi) (fun cs b => hsel j oj cs b hoj) hQ hy h1
      have hfree' : ∀ k ok, ops[k]? = some ok → k ≠ i → (listed.setIfInBounds j true).getD k true = false →
          (∀ e ∈ ok.after, Region.binds md e = true → e.on ≠ i) → oi.apart ops ok = true := fun k ok hk hki hun hno => by
        refine hfree k ok hk hki ?_ hno
        by_cases hjk : j = k
        · subst hjk; exact hjun
        · rw [getD_set_ne true hjk] at hun; exact hun
      refine wpOp_mono (fun a' w' h3 => ?_) h2
      obtain ⟨hy3, S', hs, hs2, h4⟩ := h3
      refine ⟨S', hs, hs2, ih S' (listed.setIfInBounds j true) a' w' hfree' (ready_mono hr (Ne.symm hji)) (YieldsIf.sharper hs hy3) hs2 ?_⟩
      rw [Array.setIfInBounds_comm _ _ hji]
      exact h4

/-- an operation that hands back a value and nothing else -/
def valueOp : Op → Bool
  | .move _ | .assign _ | .pick _ _ _ | .load _ _ | .binOp _ _ _ _ _ | .unOp _ _ _ | .convert _ _ _ | .slice _ _ _ _ _ | .fieldAddr _ _ _ | .field _ _ _ | .indexAddr _ _ _ | .index _ _ _ | .extract _ _ => true
  | _ => false
theorem value_of_run {α : Type} (s : Sem α) (f : α → Value) (w w' : World) (n : Next) (h : ((do pure (Next.value (f (← s)))) : Sem Next).run P w = .ok n w') : ∃ u, n = .value u := by
  rw [Sem.run_bind] at h
  cases hs : s.run P w with
  | ok v w1 =>
    rw [hs] at h
    simp only [Result.andThen, Sem.run_pure, Result.ok.injEq] at h
    exact ⟨_, h.1.symm⟩
  | halt x w1 => rw [hs] at h; simp [Result.andThen] at h
theorem valueOp_spec {o : Oper} (h : valueOp o.op = true) (ρ : Operand → Value) (w w' : World) (n : Next) (hr : (execOp ρ o).run P w = .ok n w') : ∃ u, n = .value u := by
  unfold execOp at hr
  cases ho : o.op <;> rw [ho] at h hr <;> simp only [valueOp] at h <;> try (exact absurd h Bool.false_ne_true)
  all_goals dsimp only at hr
  all_goals first
    | (simp only [Sem.run_pure, Result.ok.injEq] at hr; exact ⟨_, hr.1.symm⟩)
    | exact value_of_run _ (fun v => v) w w' n hr
    | exact value_of_run _ _ w w' n hr
theorem yields_of_quiet {o : Oper} {a : Act} {v : Value} (hv : valueOp o.op = true) (hw : Region.wanted o (yielded ops a.tmps) = true) (h : ∀ w, S w → o.quietAt P a S w v) : YieldsIf P ops S o v a := by
  refine .inl ⟨hw, fun w hs => ?_⟩
  have h1 := h w hs
  unfold Oper.quietAt at h1
  cases hr : (execOp a.eval o).run P w with
  | ok n w' =>
    obtain ⟨u, rfl⟩ := valueOp_spec hv a.eval w w' n hr
    rw [hr] at h1
    simp only [Oper.quietUpon] at h1
    obtain ⟨rfl, rfl⟩ := h1
    rfl
  | halt x w' => rw [hr] at h1; exact absurd h1 (by simp [Oper.quietUpon])

/-- the takes of a segment, in the order of the text -/
def takesB (md : Region.Mode) (l : List Oper) : List Bool → Nat → Array Bool → Bool
  | true :: m, i, listed => (match l[i]? with | some o => valueOp o.op | none => false) && Region.free md l.toArray listed i && (Region.ready md l.toArray listed).contains i && takesB md l m (i + 1) (listed.setIfInBounds i true)
  | false :: m, i, listed => takesB md l m (i + 1) listed
  | [], _, _ => true
def takenL : List Bool → Nat → Array Bool → Array Bool
  | true :: m, i, listed => takenL m (i + 1) (listed.setIfInBounds i true)
  | false :: m, i, listed => takenL m (i + 1) listed
  | [], _, listed => listed
def countT : List Bool → Nat
  | true :: m => countT m + 1
  | false :: m => countT m
  | [] => 0
theorem takes_G {l : List Oper} (hs : Region.noSelect l.toArray = true) (hQ : ∀ c a d v w, Q (.panic c) (Act.put a d v) w → Q (.panic c) a w) {S : World → Prop} {w : World} (hS : S w) {R : Act → Prop} :
    ∀ (m : List Bool) (i fuel : Nat) (listed : Array Bool) (a : Act), takesB md l m i listed = true → m.length + i ≤ l.length →
      (∀ a', R a' → wpG P md l.toArray Q fuel S (takenL m i listed) a' w) → wpQuiet P l.toArray S R (maskRows m (l.drop i)) a → wpG P md l.toArray Q (fuel + countT m) S listed a w
  | [], i, fuel, listed, a, _, _, hk, h => hk a (by simpa [maskRows, wpQuiet] using h)
  | false :: m, i, fuel, listed, a, hb, hl, hk, h => by
    have hlt : i < l.length := by simp only [List.length_cons] at hl; omega
    rw [List.drop_eq_getElem_cons hlt] at h
    exact takes_G hs hQ hS m (i + 1) fuel listed a hb (by simp only [List.length_cons] at hl; omega) hk h
  | true :: m, i, fuel, listed, a, hb, hl, hk, h => by
    have hlt : i < l.length := by simp only [List.length_cons] at hl; omega
    rw [List.drop_eq_getElem_cons hlt] at h
    simp only [takesB, Bool.and_eq_true] at hb
    obtain ⟨⟨⟨hv, hf⟩, hr⟩, hb⟩ := hb
    have ho : l.toArray[i]? = some l[i] := by simp [hlt]
    rw [show l[i]? = some l[i] from by simp [hlt]] at hv
    dsimp only at hv
    simp only [maskRows, wpQuiet] at h
    have hin : i ∈ Region.ready md l.toArray listed := by simpa using hr
    show wpG P md l.toArray Q (fuel + countT m + 1) S listed a w
    by_cases hw : Region.wanted l[i] (yielded l.toArray a.tmps) = true
    · rw [if_pos hw] at h
      obtain ⟨v, h1, h2⟩ := h
      exact wpG_first ho (Region.noSelect_spec hs) (fun c a w => hQ c a _ _ w) _ S listed a w (Region.free_spec ho hf) hin (yields_of_quiet hv hw h1) hS
        (takes_G hs hQ hS m (i + 1) fuel _ _ hb (by simp only [List.length_cons] at hl; omega) hk h2)
    · rw [if_neg hw] at h
      exact wpG_first ho (Region.noSelect_spec hs) (fun c a w => hQ c a _ _ w) _ S listed a w (Region.free_spec ho hf) hin (.inr ⟨by simpa using hw, rfl⟩) hS
        (takes_G hs hQ hS m (i + 1) fuel _ _ hb (by simp only [List.length_cons] at hl; omega) hk h)
theorem wpG_done {listed : Array Bool} {a : Act} {w : World} (hr : Region.ready md ops listed = []) (h : Q .normal a w) : ∀ fuel, wpG P md ops Q fuel S listed a w
  | 0 => ⟨hr, h⟩
  | _ + 1 => ⟨fun _ => h, by rw [hr]; simp⟩
end
end Go.Proofs.Ytfohmhigidgfhaa
namespace Go.Proofs.Ytfohmhigidgfhaa
open Go
section
variable {P : Program} {Q : Exit → Act → World → Prop} {md : Region.Mode} {S : World → Prop}
def segtB (md : Region.Mode) (l : List Oper) (m : List Bool) (rd : List Nat) (fuel fuel' : Nat) (listed : Array Bool) : Bool :=
  decide (fuel = fuel' + 1 + countT m) && decide (m.length ≤ l.length) && takesB md l m 0 listed && decide (Region.ready md l.toArray (takenL m 0 listed) = rd) && !rd.isEmpty
/-- what reads is taken; then one after another of what is ready is tried -/
theorem wpG_seg {l : List Oper} (m : List Bool) (rd : List Nat) (fuel' : Nat) {fuel : Nat} {listed : Array Bool} {a : Act} {w : World} (hs : Region.noSelect l.toArray = true)
    (hQ : ∀ c a d v w, Q (.panic c) (Act.put a d v) w → Q (.panic c) a w) (hb : segtB md l m rd fuel fuel' listed = true) (hS : S w)
    (h : wpQuiet P l.toArray S (fun a' => ∀ i ∈ rd, wpOp P l.toArray Q i (fun a'' w'' => ∃ S' : World → Prop, (∀ x, S' x → S x) ∧ S' w'' ∧ wpG P md l.toArray Q fuel' S' ((takenL m 0 listed).setIfInBounds i true) a'' w'') a' w) (maskRows m l) a) :
    wpG P md l.toArray Q fuel S listed a w := by
  simp only [segtB, Bool.and_eq_true, decide_eq_true_eq, Bool.not_eq_true'] at hb
  obtain ⟨⟨⟨⟨h1, h2⟩, h3⟩, h4⟩, h5⟩ := hb
  subst h1
  refine takes_G (P := P) (md := md) hs hQ hS (R := fun a' => ∀ i ∈ rd, wpOp P l.toArray Q i (fun a'' w'' => ∃ S' : World → Prop, (∀ x, S' x → S x) ∧ S' w'' ∧ wpG P md l.toArray Q fuel' S' ((takenL m 0 listed).setIfInBounds i true) a'' w'') a' w) m 0 (fuel' + 1) listed a h3 (by omega) (fun a' hq => ?_) (by simpa using h)
  refine ⟨fun h0 => (by rw [h4] at h0; rw [h0] at h5; cases h5), fun j hj => ?_⟩
  rw [h4] at hj
  exact hq j hj
def segeB (md : Region.Mode) (l : List Oper) (m : List Bool) (fuel : Nat) (listed : Array Bool) : Bool :=
  decide (countT m ≤ fuel) && decide (m.length ≤ l.length) && takesB md l m 0 listed && decide (Region.ready md l.toArray (takenL m 0 listed) = [])
theorem wpG_end {l : List Oper} (m : List Bool) {fuel : Nat} {listed : Array Bool} {a : Act} {w : World} (hs : Region.noSelect l.toArray = true)
    (hQ : ∀ c a d v w, Q (.panic c) (Act.put a d v) w → Q (.panic c) a w) (hb : segeB md l m fuel listed = true) (hS : S w)
    (h : wpQuiet P l.toArray S (fun a' => Q .normal a' w) (maskRows m l) a) : wpG P md l.toArray Q fuel S listed a w := by
  simp only [segeB, Bool.and_eq_true, decide_eq_true_eq] at hb
  obtain ⟨⟨⟨h1, h2⟩, h3⟩, h4⟩ := hb
  have := takes_G (P := P) (md := md) hs hQ hS (R := fun a' => Q .normal a' w) m 0 (fuel - countT m) listed a h3 (by omega) (fun a' hq => wpG_done h4 hq _) (by simpa using h)
  rwa [Nat.sub_add_cancel h1] at this
theorem wp_region_G {id : Nat} {a : Act} {w : World} {l : List Oper} (S : World → Prop) (hm : P.follows .mixedOrders = true) (h : wpG P .any l.toArray Q l.length S (Array.replicate l.length false) a w.drew) :
    (Code.region id l.toArray true).wp P Q a w := wp_region_any hm (wpAny_of_G _ _ _ _ _ (by simpa using h))
/-- one that is carried out -/
theorem segt_run {l : List Oper} {fuel : Nat} {listed : Array Bool} {i : Nat} {o : Oper} {a : Act} {w : World} (ho : l.toArray[i]? = some o) (hw : Region.wanted o (yielded l.toArray a.tmps) = true)
    (h : ∀ K : Act → World → Prop, (∀ a' w', (∃ S' : World → Prop, (∀ x, S' x → S x) ∧ S' w' ∧ wpG P md l.toArray Q fuel S' listed a' w') → K a' w') → o.wp P a w K Q) :
    wpOp P l.toArray Q i (fun a'' w'' => ∃ S' : World → Prop, (∀ x, S' x → S x) ∧ S' w'' ∧ wpG P md l.toArray Q fuel S' listed a'' w'') a w := by
  unfold wpOp
  simp only [ho, hw, if_true]
  exact .inl (h _ fun _ _ h => h)
end
end Go.Proofs.Ytfohmhigidgfhaa
namespace Go.Proofs.Ytfohmhigidgfhaa
open Go.ChangeShapes Go.WideShapes Go.ChangeAt Go.RowKit Go.BigFrame
set_option linter.unusedVariables false

theorem row_set2 {W : World} {b b' : Nat} {o : Obj} (h : W.heap[b']? = some o) (hne : b' ≠ b) (p q : Value) : ((W.setCell ⟨b, 0, none⟩ p).setCell ⟨b, 1, none⟩ q).heap[b']? = some o := by
  rw [Below.heap_setCell _ _ _ _ hne, Below.heap_setCell _ _ _ _ hne]; exact h
end Go.Proofs.Ytfohmhigidgfhaa
namespace Go.Proofs.Ytfohmhigidgfhaa
open Go.ChangeShapes Go.WideShapes Go.ChangeAt Go.RowKit Go.BigFrame
set_option linter.unusedVariables false

theorem below_of_grown {w w' : World} (h : w.grownBy w' none) : Below w.heap.size w w' := (Below.refl w.heap.size w).grown h (Nat.le_refl _) (fun g e => by cases e)
theorem op_append_key {o : Oper} {a : Act} {w : World} {K : Act → World → Prop} {Q : Exit → Act → World → Prop} (hgd : o.guard = none) (s x : Operand)
    (ho : o.op = .call { callee := .builtin .append, args := #[s, x], argTypes := #[28, 28] })
    {base n : Nat} {v : Value} {xs : List Value} (hown : w.ownsRow base 43 2 v n xs) (u : Value) (ks : List K2) (hu : keysAt w u ks) (hs : a.eval s = v) (hx : a.eval x = u) (hn : n + ks.length ≤ 4000000) (hbase : base ≤ w.heap.size)
    (h : ∀ v' w', w'.ownsRow base 43 2 v' (n + ks.length) (xs ++ keyCells ks) → w.grownBy w' v.ownBlock → (v'.ownBlock = v.ownBlock ∨ v'.ownBlock = some w.heap.size) → K (a.put o.dst v') w') : Oper.wp Try.prog o a w K Q := by
  have := step_append_key (ops := #[]) (Q := Q) (E := True) hgd s x ho hown u ks hu hs hx hn hbase h
  rwa [if_pos (by simp [Region.wanted, hgd])] at this
set_option maxRecDepth 100000 in
set_option maxHeartbeats 1000000 in
theorem icopy_any (v : Value) (ks : List K2) (y : ByteArray) (w : World) (h : keysAt w v ks) (hs : ks.length ≤ 2000000) (hy : y.size ≤ 2000000) :
    Calls Try.prog 90 #[.agg #[v, .string y]] w fun e w' => ∃ v', e = .returned (.agg #[v', .string y]) ∧ w'.ownsRow w.heap.size 43 2 v' ks.length (keyCells ks) ∧ Below w.heap.size w w' := by
  have HP := Lib.hid (cpc_new w v y)
  have HZ := Lib.hid (show ((w.alloc (.cells #[v, .string y] 30)).alloc (.cells #[.slice none 0 0, .string ⟨#[]⟩] 30)).heap.size = w.heap.size + 2 by simp)
  have HB0 := Lib.hid (HP.out.below)
  have HRES := Lib.hid HP.out.res
  have HKS := Lib.hid (fun w' (hb : Below w.heap.size w w') => keysAt_below h hb)
  have HC := Lib.hid (fun w => cloneR_any y w hy)
  obtain ⟨a, cap, hv, -, -⟩ := h
  subst hv
  go_enter Try.func90, Try.ntmps90
  go_wp2_with fail
  generalize (w.alloc (.cells #[.slice a ks.length cap, .string y] 30)).alloc (.cells #[.slice none 0 0, .string ⟨#[]⟩] 30) = W at *
  have L1 : ∀ w' : World, w'.heap[w.heap.size]? = some (.cells #[.slice a ks.length cap, .string y] 30) → (loadVar 28 ⟨w.heap.size, 0, none⟩).run Try.prog w' = .ok (.slice a ks.length cap) w' := fun w' h => cd_loadk h (Below.refl _ _)
  have L2 : ∀ w' : World, w'.heap[w.heap.size]? = some (.cells #[.slice a ks.length cap, .string y] 30) → (loadVar 9 ⟨w.heap.size, 1, none⟩).run Try.prog w' = .ok (.string y) w' := fun w' h => cd_loads h (Below.refl _ _)
  have HX := Lib.hid HP.out.row
  have HSZ := Lib.hid (Nat.le_of_eq HZ.out.symm)
  refine wp_region_G (fun w' => w'.heap[w.heap.size]? = some (.cells #[.slice a ks.length cap, .string y] 30)) (by kernel_rfl) ?_
  replace HX := Lib.hid (show (World.drew _).heap[_]? = _ from HX.out)
  replace HB0 := Lib.hid (HB0.out.drew)
  replace HRES := Lib.hid (show (World.drew _).heap[_]? = _ from HRES.out)
  replace HSZ := Lib.hid (show _ ≤ (World.drew _).heap.size from HSZ.out)
  refine wpG_seg [true, true, false, true, true] [2] 3 (by kernel_rfl) (by intro c a d v w h; cases d <;> exact h) (by kernel_rfl) HX.out ?_
  try simp only [maskRows]
  repeat (first
    | go_big_quiet_skip
    | (go_big_quiet_want
       first
         | (go_big_quiet_op; go_big_quiet_on)
         | (refine q_load 28 _ _ _ rfl rfl L1 ?_; simp only [Act.put, List.setIfInBounds_toArray, List.set_cons_zero, List.set_cons_succ]; go_big_quiet_on)
         | (refine q_load 9 _ _ _ rfl rfl L2 ?_; simp only [Act.put, List.setIfInBounds_toArray, List.set_cons_zero, List.set_cons_succ]; go_big_quiet_on)
         | (go_big_quiet_op; refine ⟨_, fun _ _ => rfl, ?_⟩; go_big_quiet_on)))
  refine wpQuiet_nil ?_
  refine List.forall_mem_singleton.2 ?_
  refine segt_run rfl (by rfl) (fun K hK => ?_)
  refine op_append_key rfl (.const (.slice none 0 0)) (.tmp 4) rfl (World.ownsRow_nil _ (w.heap.size + 2) 43 2) _ ks (HKS.out _ HB0.out) rfl (by simp [Act.eval, Act.put]) (by omega) HSZ.out ?_
  intro v3 w3 ho3 hg3 hj3
  clear hj3
  have hb := below_of_grown hg3
  obtain ⟨a3, n3, k3, rfl⟩ := own_shape ho3
  simp only [Nat.zero_add, List.nil_append] at ho3
  replace HX := Lib.hid ((hb.block _ (Array.getElem?_eq_some_iff.1 HX.out).1).trans HX.out)
  replace HB0 := Lib.hid (HB0.out.trans (hb.mono HB0.out.size))
  replace HRES := Lib.hid ((hb.block _ (Array.getElem?_eq_some_iff.1 HRES.out).1).trans HRES.out)
  replace HSZ := Lib.hid (Nat.le_trans HSZ.out hb.size)
  have HO := Lib.hid ho3
  clear hb hg3 ho3
  refine hK _ _ ⟨_, fun _ h => h, HX.out, ?_⟩
  clear hK K
  try simp only [Act.put, List.setIfInBounds_toArray, List.set_cons_zero, List.set_cons_succ]
  refine wpG_seg [] [5] 2 (by kernel_rfl) (by intro c a d v w h; cases d <;> exact h) (by kernel_rfl) HX.out ?_
  try simp only [maskRows]
  refine wpQuiet_nil ?_
  refine List.forall_mem_singleton.2 ?_
  refine segt_run rfl (by rfl) (fun K hK => ?_)
  go_simp
  refine (HC.out _).mono ?_
  rintro e w4 ⟨rfl, hb⟩
  dsimp only
  replace HX := Lib.hid ((hb.block _ (Array.getElem?_eq_some_iff.1 HX.out).1).trans HX.out)
  replace HB0 := Lib.hid (HB0.out.trans (hb.mono HB0.out.size))
  replace HRES := Lib.hid ((hb.block _ (Array.getElem?_eq_some_iff.1 HRES.out).1).trans HRES.out)
  replace HSZ := Lib.hid (Nat.le_trans HSZ.out hb.size)
  replace HO := Lib.hid (own_below HO.out hb)
  clear hb
  refine hK _ _ ⟨_, fun _ h => h, HX.out, ?_⟩
  clear hK K
  try simp only [Act.put, List.setIfInBounds_toArray, List.set_cons_zero, List.set_cons_succ]
  refine wpG_seg [] [6] 1 (by kernel_rfl) (by intro c a d v w h; cases d <;> exact h) (by kernel_rfl) HX.out ?_
  try simp only [maskRows]
  refine wpQuiet_nil ?_
  refine List.forall_mem_singleton.2 ?_
  refine segt_run rfl (by rfl) (fun K hK => ?_)
  go_simp
  obtain ⟨c0, c1, f0, f1⟩ := row2_of HRES.out
  have hlt := (Array.getElem?_eq_some_iff.1 HRES.out).1
  have HF := Lib.hid (And.intro (cd_res HRES.out (.slice a3 n3 k3) y) (And.intro (own_base (own_set2 HO.out (by omega : w.heap.size + 1 < w.heap.size + 2) (.slice a3 n3 k3) (.string y)) (by omega : w.heap.size ≤ w.heap.size + 2)) (below2 HB0.out (by omega : w.heap.size ≤ w.heap.size + 1) (.slice a3 n3 k3) (.string y))))
  have HX2 := Lib.hid (row_set2 HX.out (by omega : w.heap.size ≠ w.heap.size + 1) (.slice a3 n3 k3) (.string y))
  refine hK _ _ ⟨_, fun _ h => h, HX.out, ?_⟩
  clear hK K
  try simp only [Act.put, List.setIfInBounds_toArray, List.set_cons_zero, List.set_cons_succ]
  refine wpG_seg [] [7] 0 (by kernel_rfl) (by intro c a d v w h; cases d <;> exact h) (by kernel_rfl) HX.out ?_
  try simp only [maskRows]
  refine wpQuiet_nil ?_
  refine List.forall_mem_singleton.2 ?_
  refine segt_run rfl (by rfl) (fun K hK => ?_)
  go_simp
  replace HX := HX2
  clear HX2 HRES HO HB0 c0 c1 f0 f1 hlt
  refine hK _ _ ⟨_, fun _ h => h, HX.out, ?_⟩
  clear hK K
  try simp only [Act.put, List.setIfInBounds_toArray, List.set_cons_zero, List.set_cons_succ]
  refine wpG_end [] (by kernel_rfl) (by intro c a d v w h; cases d <;> exact h) (by kernel_rfl) HX.out ?_
  try simp only [maskRows]
  refine wpQuiet_nil ?_
  go_wp2_with fail
  refine bodyPost_ret (v := .agg #[.slice a3 n3 k3, .string y]) ?_ rfl ⟨_, rfl, HF.out.2.1, HF.out.2.2⟩
  rw [results_cell (p := 2) (ty := 30) (by kernel_rfl)]
  have l2 := HF.out.1
  simp [asAddr, Result.andThen, l2]
end Go.Proofs.Ytfohmhigidgfhaa
namespace Go.Proofs.Ytfohmhigidgfhaa
open Go.ChangeShapes Go.WideShapes Go.ChangeAt Go.RowKit Go.BigFrame Go.Shelf
attribute [local go_sem] Oper.semAt_some
set_option linter.unusedVariables false

/-- the loads of keys that are known, put to y -/
def accR (T : List R3) (y : ByteArray) (l : List K2) : ByteArray := l.foldl (fun y k => match loadO T k with | some z => xorS y z | none => y) y
theorem accR_snoc (T : List R3) (y : ByteArray) (l : List K2) (k : K2) : accR T y (l ++ [k]) = match loadO T k with | some z => xorS (accR T y l) z | none => accR T y l := by
  unfold accR; rw [List.foldl_append]; rfl
theorem accR_size {T : List R3} (h : ∀ r ∈ T, r.2.size = 4) : ∀ (l : List K2) {y : ByteArray}, y.size = 4 → (accR T y l).size = 4
  | [], _, hy => hy
  | k :: l, y, hy => by
    show (accR T (match loadO T k with | some z => xorS y z | none => y) l).size = 4
    cases hz : loadO T k with
    | none => exact accR_size h l hy
    | some z => exact accR_size h l (by rw [xorS_size _ _ (by rw [hy, loadO_four h hz])]; exact hy)
theorem accR_form {T : List R3} (h : ∀ r ∈ T, r.2.size = 4) {y : ByteArray} (hy : y.size = 4) : ∀ (l : List K2), accR T y l = xorS y (sumX T (inK T l)) := by
  intro l
  induction l generalizing y with
  | nil => show y = xorS y z4; rw [xorS_z4 _ hy]
  | cons k l ih =>
    show accR T (match loadO T k with | some z => xorS y z | none => y) l = _
    cases hz : loadO T k with
    | none =>
      dsimp only
      rw [ih hy]
      simp [inK, hz]
    | some z =>
      have z4' := loadO_four h hz
      have hxy : (xorS y z).size = 4 := by rw [xorS_size _ _ (by omega)]; exact hy
      dsimp only
      rw [ih hxy]
      have e : inK T (k :: l) = k :: inK T l := by simp [inK, hz]
      have sz := sumX_size (inK_all h l)
      rw [e, sumX_cons, hz, Option.getD_some, xorS_assoc y z _ (by omega) (by omega)]
theorem outK_snoc (T : List R3) (l : List K2) (k : K2) : outK T (l ++ [k]) = match loadO T k with | some _ => outK T l | none => outK T l ++ [k] := by
  unfold outK
  rw [List.filter_append]
  cases hz : loadO T k <;> simp [hz]
set_option maxRecDepth 100000 in
set_option maxHeartbeats 4000000 in
theorem ireduced_no (vx : Value) (ks : List K2) (y : ByteArray) (vT : Value) (T : List R3) (w : World) (hx : keysAt w vx ks) (hT : rdAt w vT T) (hs : ks.length ≤ 1048576) (hsT : T.length ≤ 1048576) (hy : y.size ≤ 2000000) (hno : ¬ (codeOkB (ks, y) = true ∧ rdsOkR T = true)) :
    Calls Try.prog 43 #[.agg #[vx, .string y], vT] w fun e w' => ∃ v', e = .returned (.agg #[v', .string y]) ∧ w'.ownsRow w.heap.size 43 2 v' ks.length (keyCells ks) ∧ Below w.heap.size w w' := by
  have CX := Lib.hid (fun w' (hb : Below w.heap.size w w') => icodeok_any vx ks y w' (keysAt_below hx hb) (by omega))
  have CT := Lib.hid (fun w' (hb : Below w.heap.size w w') => ireadingsok_any vT T w' (rdAt_below hT hb) (by omega))
  have CC := Lib.hid (fun w' (hb : Below w.heap.size w w') => icopy_any vx ks y w' (keysAt_below hx hb) (by omega) hy)
  have hb1 := (Below.refl w.heap.size w).alloc (Nat.le_refl _) (.cells #[vx, .string y] 30)
  have hb2 := hb1.alloc hb1.size (.cells #[vT] 24)
  have HB := Lib.hid (hb2.alloc hb2.size (.cells #[.slice none 0 0, .string ⟨#[]⟩] 30))
  have RX := Lib.hid ((Below.heap_alloc ((w.alloc (.cells #[vx, .string y] 30)).alloc (.cells #[vT] 24)) (.cells #[.slice none 0 0, .string ⟨#[]⟩] 30) w.heap.size (by simp; omega)).trans (heap_first w (.cells #[vT] 24) (.cells #[vx, .string y] 30)))
  have RT := Lib.hid (heap_mid w (.cells #[vx, .string y] 30) (.cells #[vT] 24) (.cells #[.slice none 0 0, .string ⟨#[]⟩] 30))
  have rr := heap_alloc_new ((w.alloc (.cells #[vx, .string y] 30)).alloc (.cells #[vT] 24)) (.cells #[.slice none 0 0, .string ⟨#[]⟩] 30)
  rw [show ((w.alloc (.cells #[vx, .string y] 30)).alloc (.cells #[vT] 24)).heap.size = w.heap.size + 2 by simp] at rr
  have RR := Lib.hid rr
  have hz : w.heap.size + 3 ≤ (((w.alloc (.cells #[vx, .string y] 30)).alloc (.cells #[vT] 24)).alloc (.cells #[.slice none 0 0, .string ⟨#[]⟩] 30)).heap.size := by simp
  clear hb1 hb2 rr
  obtain ⟨ax, cx, rfl, -, -⟩ := hx
  obtain ⟨aT, cT, rfl, -, -⟩ := hT
  generalize codeOkB (ks, y) = p at *
  generalize rdsOkR T = q at *
  go_enter Try.func43, Try.ntmps43
  obtain ⟨x0, x1, -, -⟩ := row2_of RX.out
  go_wp2_with fail
  generalize (((w.alloc (.cells #[.slice ax ks.length cx, .string y] 30)).alloc (.cells #[.slice aT T.length cT] 24)).alloc (.cells #[.slice none 0 0, .string ⟨#[]⟩] 30)) = W at *
  refine (CX.out _ HB.out).mono ?_
  rintro e w1 ⟨rfl, hb⟩
  replace HB := Lib.hid (HB.out.trans (hb.mono HB.out.size))
  replace RX := Lib.hid ((hb.block _ (Array.getElem?_eq_some_iff.1 RX.out).1).trans RX.out)
  replace RT := Lib.hid ((hb.block _ (Array.getElem?_eq_some_iff.1 RT.out).1).trans RT.out)
  replace RR := Lib.hid ((hb.block _ (Array.getElem?_eq_some_iff.1 RR.out).1).trans RR.out)
  have hz1 := Nat.le_trans hz hb.size
  clear hb x0 x1 CX hz
  cases p with
  | false =>
    obtain ⟨x0, x1, -, -⟩ := row2_of RX.out
    go_wp2_with fail
    refine (CC.out _ HB.out).mono ?_
    rintro e w2 ⟨v', rfl, ho, hb⟩
    obtain ⟨a3, n3, k3, rfl⟩ := own_shape ho
    have hR := (hb.block _ (Array.getElem?_eq_some_iff.1 RR.out).1).trans RR.out
    obtain ⟨c0, c1, f0, f1⟩ := row2_of hR
    have hlt := (Array.getElem?_eq_some_iff.1 hR).1
    have HF := Lib.hid (And.intro (cd_res hR (.slice a3 n3 k3) y) (And.intro (own_base (own_set2 ho (by omega : w.heap.size + 2 < w1.heap.size) (.slice a3 n3 k3) (.string y)) (by omega : w.heap.size ≤ w1.heap.size)) (below2 (HB.out.trans (hb.mono HB.out.size)) (by omega : w.heap.size ≤ w.heap.size + 2) (.slice a3 n3 k3) (.string y))))
    clear hb ho hR RX RT RR HB x0 x1
    go_wp2_with fail
    refine bodyPost_ret (v := .agg #[.slice a3 n3 k3, .string y]) ?_ rfl ⟨_, rfl, HF.out.2.1, HF.out.2.2⟩
    rw [results_cell (p := 4) (ty := 30) (by kernel_rfl)]
    have l2 := HF.out.1
    simp [asAddr, Result.andThen, l2]
  | true =>
    cases q with
    | true => exact absurd ⟨rfl, rfl⟩ hno
    | false =>
      have t0 : w1.cell? ⟨w.heap.size + 1, 0, none⟩ = some (.slice aT T.length cT) := by rw [cell_of_row _ _ 0 _ _ _ RT.out]; rfl
      go_wp2_with fail
      refine (CT.out _ HB.out).mono ?_
      rintro e w2 ⟨rfl, hb⟩
      replace HB := Lib.hid (HB.out.trans (hb.mono HB.out.size))
      replace RX := Lib.hid ((hb.block _ (Array.getElem?_eq_some_iff.1 RX.out).1).trans RX.out)
      replace RR := Lib.hid ((hb.block _ (Array.getElem?_eq_some_iff.1 RR.out).1).trans RR.out)
      have hz2 := Nat.le_trans hz1 hb.size
      clear hb t0 CT
      obtain ⟨x0, x1, -, -⟩ := row2_of RX.out
      go_wp2_with fail
      refine (CC.out _ HB.out).mono ?_
      rintro e w3 ⟨v', rfl, ho, hb⟩
      obtain ⟨a3, n3, k3, rfl⟩ := own_shape ho
      have hR := (hb.block _ (Array.getElem?_eq_some_iff.1 RR.out).1).trans RR.out
      obtain ⟨c0, c1, f0, f1⟩ := row2_of hR
      have hlt := (Array.getElem?_eq_some_iff.1 hR).1
      have HF := Lib.hid (And.intro (cd_res hR (.slice a3 n3 k3) y) (And.intro (own_base (own_set2 ho (by omega : w.heap.size + 2 < w2.heap.size) (.slice a3 n3 k3) (.string y)) (by omega : w.heap.size ≤ w2.heap.size)) (below2 (HB.out.trans (hb.mono HB.out.size)) (by omega : w.heap.size ≤ w.heap.size + 2) (.slice a3 n3 k3) (.string y))))
      clear hb ho hR RX RT RR HB x0 x1
      go_wp2_with fail
      refine bodyPost_ret (v := .agg #[.slice a3 n3 k3, .string y]) ?_ rfl ⟨_, rfl, HF.out.2.1, HF.out.2.2⟩
      rw [results_cell (p := 4) (ty := 30) (by kernel_rfl)]
      have l2 := HF.out.1
      simp [asAddr, Result.andThen, l2]
end Go.Proofs.Ytfohmhigidgfhaa
namespace Go.Proofs.Ytfohmhigidgfhaa
open Go.RowKit Go.Shelf
attribute [local go_sem] Oper.semAt_some
set_option linter.unusedVariables false

theorem grownN {A B : World} (h : Below A.heap.size A B) : A.grownBy B none := grown_of_below' h none
end Go.Proofs.Ytfohmhigidgfhaa
namespace Go.Proofs.Ytfohmhigidgfhaa
open Go
section
variable {P : Program} {ops : Array Oper} {Q : Exit → Act → World → Prop} {md : Region.Mode} {S : World → Prop}
/-- an operation that waits for all others -/
def lastP (md : Region.Mode) (ops : Array Oper) (i : Nat) : Prop := ∃ o, ops[i]? = some o ∧ ∀ k, k < ops.size → k ≠ i → ∃ e ∈ o.after, Region.binds md e = true ∧ e.on = k
def lastB (md : Region.Mode) (ops : Array Oper) (i : Nat) : Bool := match ops[i]? with
  | some o => (List.range ops.size).all fun k => k == i || o.after.any fun e => Region.binds md e && e.on == k
  | none => false
theorem lastP_of {i : Nat} (h : lastB md ops i = true) : lastP md ops i := by
  unfold lastB at h
  split at h
  · rename_i o ho
    refine ⟨o, ho, fun k hk hne => ?_⟩
    have h1 := List.all_eq_true.1 h k (List.mem_range.2 hk)
    simp only [Bool.or_eq_true, beq_iff_eq] at h1
    rcases h1 with h1 | h1
    · exact absurd h1 hne
    · obtain ⟨j, hj, h2⟩ := Array.any_eq_true.1 h1
      simp only [Bool.and_eq_true, beq_iff_eq] at h2
      exact ⟨_, Array.getElem_mem hj, h2.1, h2.2⟩
  · cases h
/-- whatever order is picked from here on; behind each operation a sharper condition holds -/
def wpH (P : Program) (md : Region.Mode) (ops : Array Oper) (Q : Exit → Act → World → Prop) : Nat → (World → Prop) → Array Bool → Act → World → Prop
  | 0, _, listed, a, w => Region.ready md ops listed = [] ∧ Q .normal a w
  | fuel + 1, S, listed, a, w =>
    (Region.ready md ops listed = [] → Q .normal a w) ∧
    ∀ i ∈ Region.ready md ops listed, wpOp P ops Q i (fun a' w' => ((lastP md ops i ∧ Region.ready md ops (listed.setIfInBounds i true) = []) ∧ Q .normal a' w') ∨ ∃ S' : World → Prop, (∀ x, S' x → S x) ∧ S' w' ∧ wpH P md ops Q fuel S' (listed.setIfInBounds i true) a' w') a w

theorem wpAny_done {listed : Array Bool} {a : Act} {w : World} (hr : Region.ready md ops listed = []) (h : Q .normal a w) : ∀ fuel, wpAny P md ops Q fuel listed a w
  | 0 => ⟨hr, h⟩
  | _ + 1 => ⟨fun _ => h, by rw [hr]; simp⟩
theorem wpAny_of_H : ∀ (fuel : Nat) (S : World → Prop) (listed : Array Bool) (a : Act) (w : World), wpH P md ops Q fuel S listed a w → wpAny P md ops Q fuel listed a w
  | 0, _, _, _, _, h => h
  | fuel + 1, S, _, _, _, h => ⟨h.1, fun i hi => wpOp_mono (fun a' w' h' => by
      rcases h' with ⟨⟨_, h1⟩, h2⟩ | ⟨S', _, _, h'⟩
      · exact wpAny_done h1 h2 fuel
      · exact wpAny_of_H fuel S' _ a' w' h') (h.2 i hi)⟩

theorem wpH_first {i : Nat} {oi : Oper} {v : Value} (hi : ops[i]? = some oi) (hsel : ∀ (j : Nat) (o : Oper) cs b, ops[j]? = some o → o.op ≠ .select cs b)
    (hQ : ∀ c a w, Q (.panic c) (a.put oi.dst v) w → Q (.panic c) a w) :
    ∀ (fuel : Nat) (S : World → Prop) (listed : Array Bool) (a : Act) (w : World),
      (∀ j oj, ops[j]? = some oj → j ≠ i → listed.getD j true = false → (∀ e ∈ oj.after, Region.binds md e = true → e.on ≠ i) → oi.apart ops oj = true) →
      i ∈ Region.ready md ops listed → YieldsIf P ops S oi v a → S w →
      wpH P md ops Q fuel S (listed.setIfInBounds i true) (a.put oi.dst v) w → wpH P md ops Q (fuel + 1) S listed a w := by
  intro fuel
  induction fuel with
  | zero =>
    intro S listed a w _ hr hy hS H
    refine ⟨fun h => (by rw [h] at hr; cases hr), fun j hj => ?_⟩
    by_cases hji : j = i
    · subst hji; exact hy.wpOp hi hS (.inr ⟨S, fun _ h => h, hS, H⟩)
    · have := ready_mono hj hji
      rw [H.1] at this
      cases this
  | succ fuel ih =>
    intro S listed a w hfree hr hy hS H
    refine ⟨fun h => (by rw [h] at hr; cases hr), fun j hj => ?_⟩
    by_cases hji : j = i
    · subst hji; exact hy.wpOp hi hS (.inr ⟨S, fun _ h => h, hS, H⟩)
    · have h1 := H.2 j (ready_mono hj hji)
      obtain ⟨hjun, oj, hoj, hall⟩ := mem_ready.1 hj
      have hnot : ∀ e ∈ oj.after, Region.binds md e = true → e.on ≠ i := fun e he hb heq => by
        have h1 := hall e he hb
        have h0 := (mem_ready.1 hr).1
        rw [heq] at h1
        rcases Nat.lt_or_ge i listed.size with h' | h'
        · simp [h'] at h0 h1; rw [h0] at h1; cases h1
        · simp [Array.getElem?_eq_none h'] at h1
      have h2 := wpOp_putIf hoj (hfree j oj hoj hji hjun hnot) (fun cs b => hsel i oi cs b hi) (fun cs b => hsel j oj cs b hoj) hQ hy h1
      have hfree' : ∀ k ok, ops[k]? = some ok → k ≠ i → (listed.setIfInBounds j true).getD k true = false →
          (∀ e ∈ ok.after, Region.binds md e = true → e.on ≠ i) → oi.apart ops ok = true := fun k ok hk hki hun hno => by
        refine hfree k ok hk hki ?_ hno
        by_cases hjk : j = k
        · subst hjk; exact hjun
        · rw [getD_set_ne true hjk] at hun; exact hun
      refine wpOp_mono (fun a' w' h3 => ?_) h2
      obtain ⟨hy3, h3⟩ := h3
      rcases h3 with ⟨⟨⟨o5, h5, h6⟩, _⟩, _⟩ | ⟨S', hs, hs2, h4⟩
      · rw [hoj] at h5
        cases h5
        obtain ⟨e, he, hb, heq⟩ := h6 i (Array.getElem?_eq_some_iff.1 hi).1 (Ne.symm hji)
        exact absurd heq (hnot e he hb)
      refine .inr ⟨S', hs, hs2, ih S' (listed.setIfInBounds j true) a' w' hfree' (ready_mono hr (Ne.symm hji)) (YieldsIf.sharper hs hy3) hs2 ?_⟩
      rw [Array.setIfInBounds_comm _ _ hji]
      exact h4

theorem takes_H {l : List Oper} (hs : Region.noSelect l.toArray = true) (hQ : ∀ c a d v w, Q (.panic c) (Act.put a d v) w → Q (.panic c) a w) {S : World → Prop} {w : World} (hS : S w) {R : Act → Prop} :
    ∀ (m : List Bool) (i fuel : Nat) (listed : Array Bool) (a : Act), takesB md l m i listed = true → m.length + i ≤ l.length →
      (∀ a', R a' → wpH P md l.toArray Q fuel S (takenL m i listed) a' w) → wpQuiet P l.toArray S R (maskRows m (l.drop i)) a → wpH P md l.toArray Q (fuel + countT m) S listed a w
  | [], i, fuel, listed, a, _, _, hk, h => hk a (by simpa [maskRows, wpQuiet] using h)
  | false :: m, i, fuel, listed, a, hb, hl, hk, h => by
    have hlt : i < l.length := by simp only [List.length_cons] at hl; omega
    rw [List.drop_eq_getElem_cons hlt] at h
    exact takes_H hs hQ hS m (i + 1) fuel listed a hb (by simp only [List.length_cons] at hl; omega) hk h
  | true :: m, i, fuel, listed, a, hb, hl, hk, h => by
    have hlt : i < l.length := by simp only [List.length_cons] at hl; omega
    rw [List.drop_eq_getElem_cons hlt] at h
    simp only [takesB, Bool.and_eq_true] at hb
    obtain ⟨⟨⟨hv, hf⟩, hr⟩, hb⟩ := hb
    have ho : l.toArray[i]? = some l[i] := by simp [hlt]
    rw [show l[i]? = some l[i] from by simp [hlt]] at hv
    dsimp only at hv
    simp only [maskRows, wpQuiet] at h
    have hin : i ∈ Region.ready md l.toArray listed := by simpa using hr
    show wpH P md l.toArray Q (fuel + countT m + 1) S listed a w
    by_cases hw : Region.wanted l[i] (yielded l.toArray a.tmps) = true
    · rw [if_pos hw] at h
      obtain ⟨v, h1, h2⟩ := h
      exact wpH_first ho (Region.noSelect_spec hs) (fun c a w => hQ c a _ _ w) _ S listed a w (Region.free_spec ho hf) hin (yields_of_quiet hv hw h1) hS
        (takes_H hs hQ hS m (i + 1) fuel _ _ hb (by simp only [List.length_cons] at hl; omega) hk h2)
    · rw [if_neg hw] at h
      exact wpH_first ho (Region.noSelect_spec hs) (fun c a w => hQ c a _ _ w) _ S listed a w (Region.free_spec ho hf) hin (.inr ⟨by simpa using hw, rfl⟩) hS
        (takes_H hs hQ hS m (i + 1) fuel _ _ hb (by simp only [List.length_cons] at hl; omega) hk h)
/-- what reads is taken; then one after another of what is ready is tried -/
theorem wpH_seg {l : List Oper} (m : List Bool) (rd : List Nat) (fuel' : Nat) {fuel : Nat} {listed : Array Bool} {a : Act} {w : World} (hs : Region.noSelect l.toArray = true)
    (hQ : ∀ c a d v w, Q (.panic c) (Act.put a d v) w → Q (.panic c) a w) (hb : segtB md l m rd fuel fuel' listed = true) (hS : S w)
    (h : wpQuiet P l.toArray S (fun a' => ∀ i ∈ rd, wpOp P l.toArray Q i (fun a'' w'' => ((lastP md l.toArray i ∧ Region.ready md l.toArray ((takenL m 0 listed).setIfInBounds i true) = []) ∧ Q .normal a'' w'') ∨ ∃ S' : World → Prop, (∀ x, S' x → S x) ∧ S' w'' ∧ wpH P md l.toArray Q fuel' S' ((takenL m 0 listed).setIfInBounds i true) a'' w'') a' w) (maskRows m l) a) :
    wpH P md l.toArray Q fuel S listed a w := by
  simp only [segtB, Bool.and_eq_true, decide_eq_true_eq, Bool.not_eq_true'] at hb
  obtain ⟨⟨⟨⟨h1, h2⟩, h3⟩, h4⟩, h5⟩ := hb
  subst h1
  refine takes_H (P := P) (md := md) hs hQ hS (R := fun a' => ∀ i ∈ rd, wpOp P l.toArray Q i (fun a'' w'' => ((lastP md l.toArray i ∧ Region.ready md l.toArray ((takenL m 0 listed).setIfInBounds i true) = []) ∧ Q .normal a'' w'') ∨ ∃ S' : World → Prop, (∀ x, S' x → S x) ∧ S' w'' ∧ wpH P md l.toArray Q fuel' S' ((takenL m 0 listed).setIfInBounds i true) a'' w'') a' w) m 0 (fuel' + 1) listed a h3 (by omega) (fun a' hq => ?_) (by simpa using h)
  refine ⟨fun h0 => (by rw [h4] at h0; rw [h0] at h5; cases h5), fun j hj => ?_⟩
  rw [h4] at hj
  exact hq j hj
/-- the same in a round of a range over a function, at the wide fence -/
theorem wpIn_region_H {id l0 k : Nat} {a : Act} {w : World} {l : List Oper} (S : World → Prop) (hm : P.follows .mixedOrders = true) (hd : noDefer l.toArray = true) (h : wpH P .any l.toArray (OnlyNormal Q) l.length S (Array.replicate l.length false) a w.drew) :
    (Code.region id l.toArray true).wpIn (Fence.wide.inRound l0) k P Q a w := by
  refine wpIn_region_draw fun t => wpOps_in hd _ _ _ ?_
  simp only [Region.schedule, hm, Bool.true_or, if_true]
  exact wpAny_sound l.toArray.size t _ a _ (wpAny_of_H _ _ _ _ _ (by simpa using h))
/-- one that is carried out -/
theorem segh_run {l : List Oper} {fuel : Nat} {R : Act → World → Prop} {listed : Array Bool} {i : Nat} {o : Oper} {a : Act} {w : World} (ho : l.toArray[i]? = some o) (hw : Region.wanted o (yielded l.toArray a.tmps) = true)
    (h : ∀ K : Act → World → Prop, (∀ a' w', (R a' w' ∨ ∃ S' : World → Prop, (∀ x, S' x → S x) ∧ S' w' ∧ wpH P md l.toArray Q fuel S' listed a' w') → K a' w') → o.wp P a w K Q) :
    wpOp P l.toArray Q i (fun a'' w'' => R a'' w'' ∨ ∃ S' : World → Prop, (∀ x, S' x → S x) ∧ S' w'' ∧ wpH P md l.toArray Q fuel S' listed a'' w'') a w := by
  unfold wpOp
  simp only [ho, hw, if_true]
  exact .inl (h _ fun _ _ h => h)
end
end Go.Proofs.Ytfohmhigidgfhaa
namespace Go.Proofs.Ytfohmhigidgfhaa
open Go.ChangeShapes Go.WideShapes Go.ChangeAt Go.RowKit Go.BigFrame Go.Shelf
attribute [local go_sem] Oper.semAt_some
set_option linter.unusedVariables false

def rowA (y : ByteArray) : Array Value := (Lib.byteCells y.data.toList).toArray
theorem rowA_four (y : ByteArray) (h : y.size = 4) : ∃ p q r s : Int, rowA y = #[.int .u8 p, .int .u8 q, .int .u8 r, .int .u8 s] ∧ arr4 y = .agg #[.int .u8 p, .int .u8 q, .int .u8 r, .int .u8 s] := by
  obtain ⟨a, b, c, d, hd⟩ := four_bytes y h
  exact ⟨a.toNat, b.toNat, c.toNat, d.toNat, by unfold rowA; rw [hd]; rfl, by unfold arr4; rw [hd]; rfl⟩
theorem grown4 (w : World) (b : Nat) (p q r s : Value) : w.grownBy ((((w.setCell ⟨b, 0, none⟩ p).setCell ⟨b, 1, none⟩ q).setCell ⟨b, 2, none⟩ r).setCell ⟨b, 3, none⟩ s) (some b) :=
  grownT (grownT (grownT (Lib.grownBy_setCell w b 0 p) (Lib.grownBy_setCell _ b 1 q)) (Lib.grownBy_setCell _ b 2 r)) (Lib.grownBy_setCell _ b 3 s)
set_option maxRecDepth 100000 in
set_option maxHeartbeats 8000000 in
theorem ireduced_yes (vx : Value) (ks : List K2) (y : ByteArray) (vT : Value) (T : List R3) (w : World) (hx : keysAt w vx ks) (hT : rdAt w vT T) (hs : ks.length ≤ 1048576) (hsT : T.length ≤ 1048576) (hok : codeOkB (ks, y) = true) (hokT : rdsOkR T = true) :
    Calls Try.prog 43 #[.agg #[vx, .string y], vT] w fun e w' => ∃ v', e = .returned (.agg #[v', .string (accR T y ks)]) ∧ w'.ownsRow w.heap.size 43 2 v' (outK T ks).length (keyCells (outK T ks)) ∧ Below w.heap.size w w' := by
  refine (callsIn_wide (n := 9)).1 ?_
  obtain ⟨i0, hi, hz0, hz1, hz2⟩ := info_parts infoK
  have hy : y.size = 4 := ((codeOk_iff (ks, y)).1 hok).2.2.1
  have h4 : ∀ r ∈ T, r.2.size = 4 := rds_four hokT
  have hx0 := keysIn0_of hx
  have CX := Lib.hid (fun w' (hb : Below w.heap.size w w') => icodeok_any vx ks y w' (keysAt_below hx hb) (by omega))
  have CT := Lib.hid (fun w' (hb : Below w.heap.size w w') => ireadingsok_any vT T w' (rdAt_below hT hb) (by omega))
  have CL := Lib.hid (fun w' k (hb : Below w.heap.size w w') => iloadof_any vT T k w' (rdAt_below hT hb) (by omega) (fun r hr => by rw [h4 r hr]; omega))
  rw [hok] at CX
  rw [hokT] at CT
  have hb1 := (Below.refl w.heap.size w).alloc (Nat.le_refl _) (.cells #[vx, .string y] 30)
  have hb2 := hb1.alloc hb1.size (.cells #[vT] 24)
  have HB := Lib.hid (hb2.alloc hb2.size (.cells #[.slice none 0 0, .string ⟨#[]⟩] 30))
  have RX := Lib.hid ((Below.heap_alloc ((w.alloc (.cells #[vx, .string y] 30)).alloc (.cells #[vT] 24)) (.cells #[.slice none 0 0, .string ⟨#[]⟩] 30) w.heap.size (by simp; omega)).trans (heap_first w (.cells #[vT] 24) (.cells #[vx, .string y] 30)))
  have RT := Lib.hid (heap_mid w (.cells #[vx, .string y] 30) (.cells #[vT] 24) (.cells #[.slice none 0 0, .string ⟨#[]⟩] 30))
  have rr := heap_alloc_new ((w.alloc (.cells #[vx, .string y] 30)).alloc (.cells #[vT] 24)) (.cells #[.slice none 0 0, .string ⟨#[]⟩] 30)
  rw [show ((w.alloc (.cells #[vx, .string y] 30)).alloc (.cells #[vT] 24)).heap.size = w.heap.size + 2 by simp] at rr
  have RR := Lib.hid rr
  have hqz : w.heap.size + 3 ≤ (((w.alloc (.cells #[vx, .string y] 30)).alloc (.cells #[vT] 24)).alloc (.cells #[.slice none 0 0, .string ⟨#[]⟩] 30)).heap.size := by simp
  clear hb1 hb2 rr
  obtain ⟨ax, cx, rfl, -, -⟩ := hx
  obtain ⟨aT, cT, rfl, -, -⟩ := hT
  refine callsIn_of_wp_marks Try.func43 rfl trivial ?_ rfl
  simp only [Try.ntmps43, List.size_toArray, List.length_cons, List.length_nil, Nat.reduceAdd, Nat.reduceSub, Array.replicate_succ, Array.replicate_zero, List.push_toArray, List.append_toArray, List.nil_append, List.cons_append]
  obtain ⟨x0, x1, -, -⟩ := row2_of RX.out
  gi_wp2
  generalize (((w.alloc (.cells #[.slice ax ks.length cx, .string y] 30)).alloc (.cells #[.slice aT T.length cT] 24)).alloc (.cells #[.slice none 0 0, .string ⟨#[]⟩] 30)) = W at *
  refine ⟨trivial, (callsIn_wide.2 (CX.out _ HB.out)).mono ?_⟩
  rintro e w1 ⟨rfl, hb⟩
  replace HB := Lib.hid (HB.out.trans (hb.mono HB.out.size))
  replace RX := Lib.hid ((hb.block _ (Array.getElem?_eq_some_iff.1 RX.out).1).trans RX.out)
  replace RT := Lib.hid ((hb.block _ (Array.getElem?_eq_some_iff.1 RT.out).1).trans RT.out)
  replace RR := Lib.hid ((hb.block _ (Array.getElem?_eq_some_iff.1 RR.out).1).trans RR.out)
  have hq1z := Nat.le_trans hqz hb.size
  clear hb x0 x1 CX hqz
  have t0 : w1.cell? ⟨w.heap.size + 1, 0, none⟩ = some (.slice aT T.length cT) := by rw [cell_of_row _ _ 0 _ _ _ RT.out]; rfl
  gi_wp2
  refine ⟨trivial, (callsIn_wide.2 (CT.out _ HB.out)).mono ?_⟩
  rintro e w2 ⟨rfl, hb⟩
  replace HB := Lib.hid (HB.out.trans (hb.mono HB.out.size))
  replace RX := Lib.hid ((hb.block _ (Array.getElem?_eq_some_iff.1 RX.out).1).trans RX.out)
  replace RT := Lib.hid ((hb.block _ (Array.getElem?_eq_some_iff.1 RT.out).1).trans RT.out)
  replace RR := Lib.hid ((hb.block _ (Array.getElem?_eq_some_iff.1 RR.out).1).trans RR.out)
  have hq2z := Nat.le_trans hq1z hb.size
  clear hb t0 CT
  -- the box of the keys that are left
  have bK := Boxed.new w2 28 (.slice none 0 0)
  replace RX := Lib.hid ((Below.heap_alloc w2 (.cells #[.slice none 0 0] 28) _ (Array.getElem?_eq_some_iff.1 RX.out).1).trans RX.out)
  replace RT := Lib.hid ((Below.heap_alloc w2 (.cells #[.slice none 0 0] 28) _ (Array.getElem?_eq_some_iff.1 RT.out).1).trans RT.out)
  replace RR := Lib.hid ((Below.heap_alloc w2 (.cells #[.slice none 0 0] 28) _ (Array.getElem?_eq_some_iff.1 RR.out).1).trans RR.out)
  replace HB := Lib.hid (HB.out.alloc HB.out.size (.cells #[.slice none 0 0] 28))
  have hq3z : w2.heap.size + 1 = (w2.alloc (.cells #[.slice none 0 0] 28)).heap.size := by simp
  obtain ⟨x0, x1, -, -⟩ := row2_of RX.out
  gi_wp2
  generalize w2.alloc (.cells #[.slice none 0 0] 28) = W3 at *
  have hzz : w.heap.size + 3 ≤ w2.heap.size := by omega
  generalize w2.heap.size = nK at *
  refine ⟨trivial, (callsIn_wide.2 (iloadbytes_any y _ hy)).mono ?_⟩
  rintro e w4 ⟨rfl, hb⟩
  obtain ⟨p0, p1, p2, p3, hrow, harr⟩ := rowA_four y hy
  rw [harr]
  replace HB := Lib.hid (HB.out.trans (hb.mono HB.out.size))
  replace RX := Lib.hid ((hb.block _ (Array.getElem?_eq_some_iff.1 RX.out).1).trans RX.out)
  replace RT := Lib.hid ((hb.block _ (Array.getElem?_eq_some_iff.1 RT.out).1).trans RT.out)
  replace RR := Lib.hid ((hb.block _ (Array.getElem?_eq_some_iff.1 RR.out).1).trans RR.out)
  have bK : Boxed w4 nK 28 (.slice none 0 0) := (hb.block _ bK.lt).trans bK
  have hq4z := hb.size
  clear hb x0 x1
  have RL := heap_alloc_new w4 (.cells #[.int .u8 p0, .int .u8 p1, .int .u8 p2, .int .u8 p3] 114)
  have bK := bK.alloc (.cells #[.int .u8 p0, .int .u8 p1, .int .u8 p2, .int .u8 p3] 114)
  replace RX := Lib.hid ((Below.heap_alloc w4 (.cells #[.int .u8 p0, .int .u8 p1, .int .u8 p2, .int .u8 p3] 114) _ (Array.getElem?_eq_some_iff.1 RX.out).1).trans RX.out)
  replace RT := Lib.hid ((Below.heap_alloc w4 (.cells #[.int .u8 p0, .int .u8 p1, .int .u8 p2, .int .u8 p3] 114) _ (Array.getElem?_eq_some_iff.1 RT.out).1).trans RT.out)
  replace RR := Lib.hid ((Below.heap_alloc w4 (.cells #[.int .u8 p0, .int .u8 p1, .int .u8 p2, .int .u8 p3] 114) _ (Array.getElem?_eq_some_iff.1 RR.out).1).trans RR.out)
  replace HB := Lib.hid (HB.out.alloc HB.out.size (.cells #[.int .u8 p0, .int .u8 p1, .int .u8 p2, .int .u8 p3] 114))
  have hq5z : (w4.alloc (.cells #[.int .u8 p0, .int .u8 p1, .int .u8 p2, .int .u8 p3] 114)).heap.size = w4.heap.size + 1 := by simp
  obtain ⟨x0, x1, -, -⟩ := row2_of RX.out
  gi_wp2
  generalize w4.alloc (.cells #[.int .u8 p0, .int .u8 p1, .int .u8 p2, .int .u8 p3] 114) = W5 at *
  have hlz : nK < w4.heap.size := by omega
  generalize w4.heap.size = nL at *
  refine ⟨trivial, (callsIn_wide.2 (kin_any _ _ _ _)).mono ?_⟩
  rintro e w6 ⟨rfl, rfl⟩
  have bS := Boxed.new W5 28 (.slice ax ks.length cx)
  have bK := bK.alloc (.cells #[.slice ax ks.length cx] 28)
  have RL := (Below.heap_alloc W5 (.cells #[.slice ax ks.length cx] 28) _ (Array.getElem?_eq_some_iff.1 RL).1).trans RL
  have bT : Boxed (W5.alloc (.cells #[.slice ax ks.length cx] 28)) (w.heap.size + 1) 24 (.slice aT T.length cT) := (Below.heap_alloc W5 (.cells #[.slice ax ks.length cx] 28) _ (Array.getElem?_eq_some_iff.1 RT.out).1).trans RT.out
  have hRR := (Below.heap_alloc W5 (.cells #[.slice ax ks.length cx] 28) _ (Array.getElem?_eq_some_iff.1 RR.out).1).trans RR.out
  have hB0 := HB.out.alloc HB.out.size (.cells #[.slice ax ks.length cx] 28)
  have hsz : (W5.alloc (.cells #[.slice ax ks.length cx] 28)).heap.size = nL + 2 := by simp; omega
  have hnS : W5.heap.size = nL + 1 := by omega
  rw [hnS] at bS
  clear RX RT RR HB x0 x1
  gi_wp2
  generalize W5.alloc (.cells #[.slice ax ks.length cx] 28) = W0 at *
  have hlen : ∀ l, (outK T l).length ≤ l.length := fun l => List.length_filter_le _ _
  refine wpIn_rangeFunc_ownH (n := 9) rfl (by omega) (gf := 132) (lb := #[.pointer (some ⟨nL + 1, 0, none⟩)]) rfl trivial (enters_of Try.func132 (by kernel_rfl) rfl)
    (kin_stops 8 (nL + 1) w.heap.size (.slice ax ks.length cx) ks (by omega) (by omega) W0 (by omega) (by omega) bS.cell (hx0.below hB0)) belowK_t (belowK_b (by omega)) (Below.refl _ _) (fun _ => rfl)
    (fun pre W => (∃ v, Boxed W nK 28 v ∧ W.ownsRow w.heap.size 43 2 v (outK T pre).length (keyCells (outK T pre)) ∧ True) ∧ W.heap[nL]? = some (.cells (rowA (accR T y pre)) 114 (0, 0)) ∧ Boxed W (w.heap.size + 1) 24 (.slice aT T.length cT) ∧ W.heap[w.heap.size + 2]? = some (.cells #[.slice none 0 0, .string ⟨#[]⟩] 30 (0, 0)) ∧ Below w.heap.size w W)
    (fun _ _ _ => False)
    (OwnFrom.and (Own.from (holdsRow_own w.heap.size nK 28 43 2 (fun pre : List K2 => (outK T pre).length) (fun pre => keyCells (outK T pre)) (fun pre v => True)) _) (OwnFrom.and (Own.from (cells_own nL (fun pre : List K2 => rowA (accR T y pre)) 114) _) (OwnFrom.and (Own.from (boxed_own _ _ (fun _ => .slice aT T.length cT)) _) (OwnFrom.and (Own.from (cells_own (w.heap.size + 2) (fun _ => #[.slice none 0 0, .string ⟨#[]⟩]) 30) _) (ownFrom_below (Nat.le_refl _) (by omega))))))
    (fun _ _ _ _ _ hs _ _ => hs)
    ⟨⟨_, bK, World.ownsRow_nil _ _ _ _, trivial⟩, by rw [← hrow] at RL; exact RL, bT, hRR, hB0⟩
    (fun x a' W => ∃ Bx, nL < Bx ∧ KBoxed W Bx x ∧ (∃ v, Boxed W nK 28 v ∧ v.ownBlock ≠ some Bx) ∧ a' = { tmps := #[.agg #[.slice ax ks.length cx, .string y], .slice aT T.length cT, .pointer (some ⟨w.heap.size, 0, none⟩), .pointer (some ⟨w.heap.size + 1, 0, none⟩), .pointer (some ⟨w.heap.size + 1 + 1, 0, none⟩), .pointer (some ⟨nK, 0, none⟩), .pointer (some ⟨nL, 0, none⟩), .pointer (some ⟨Bx, 0, none⟩), undef, undef, .agg #[.slice ax ks.length cx, .string y], .bool true, .bool false, .bool false, .slice aT T.length cT, .bool true, .bool false, .bool false, undef, undef, .pointer (some ⟨w.heap.size, 1, none⟩), .string y, .agg #[.int .u8 p0, .int .u8 p1, .int .u8 p2, .int .u8 p3], .pointer (some ⟨w.heap.size, 0, none⟩), .slice ax ks.length cx, .func (.func 132) #[] #[.pointer (some ⟨nL + 1, 0, none⟩)], kv x, undef, undef, undef, undef, undef, undef, undef, undef, undef, undef, undef, undef, undef, undef, undef, undef, undef, undef], defers := [] })
    (fun x a' _ X Y row hs hg hr => by
      obtain ⟨Bx, e1, e2, e3, e4⟩ := hs
      exact ⟨Bx, e1, kboxed_own Bx x () X Y row e2 hg (fun r e => (hr r e).2), boxG_own nK 28 (fun (_ : Unit) v => v.ownBlock ≠ some Bx) () X Y row e3 hg (fun r e => (hr r e).2), e4⟩)
    ?assign ?body ?done ?stop
  case assign =>
    rintro l pre ⟨p, q⟩ W K ⟨⟨v, hv, hrow, -⟩, hRL, hTb, hRes, hB⟩ hK
    unfold kv at *
    dsimp only at *
    gi_wp2
    exact hK _ _ ((KeepsOthers.alloc _ _).from _) ((Below.refl _ W).alloc hB.size _) ⟨⟨_, hv.alloc _, (hrow.alloc _), trivial⟩, (Below.heap_alloc _ _ _ (Array.getElem?_eq_some_iff.1 hRL).1).trans hRL, hTb.alloc _, (Below.heap_alloc _ _ _ (Array.getElem?_eq_some_iff.1 hRes).1).trans hRes, hB.alloc hB.size _⟩ ⟨W.heap.size, (Array.getElem?_eq_some_iff.1 hRL).1, KBoxed.new W (p, q), ⟨_, hv.alloc _, fun e => by have := (hrow.lt _ e).2; omega⟩, rfl⟩
  case body =>
    rintro l pre ⟨p, q⟩ a' W hl ⟨r, hr⟩ ⟨⟨v, hv, hrw, -⟩, hRL, hTb, hRes, hB⟩ ⟨Bx, hBx, bX, ⟨v2, hv2, hne⟩, rfl⟩ hlt
    obtain rfl := boxed_uniq hv hv2
    clear hv2
    have hsn := outK_snoc T pre (p, q)
    have han := accR_snoc T y pre (p, q)
    have hsz1 := accR_size h4 pre hy
    have hl1 := hlen pre
    have hsW := hB.size
    generalize hM : outK T pre = M at *
    generalize hA : accR T y pre = A at *
    have HSN := Lib.hid hsn
    have HAN := Lib.hid han
    clear hsn han
    have CLx := Lib.hid (CL.out W (p, q) hB)
    unfold kv at *
    dsimp only at *
    have cX0 := bX.cell0
    have cX1 := bX.cell1
    have cTb := hTb.cell
    dsimp only at cX0 cX1
    cases hlo : loadO T (p, q) with
    | some z =>
      rw [hlo] at CLx HSN HAN
      have hz4 := loadO_four h4 hlo
      dsimp only at HSN HAN
      rw [show loadV (some z) = .tuple #[.string z, .bool true] from rfl] at CLx
      gi_wp2
      refine ⟨trivial, (CallsIn.inRound l (callsIn_wide.2 CLx.out)).mono ?_⟩
      rintro e W1 ⟨rfl, hb1⟩
      have g1 := grownN hb1
      have hv1 := hv.kept g1 (by simp)
      have hRL1 := (hb1.block _ (Array.getElem?_eq_some_iff.1 hRL).1).trans hRL
      have hTb1 := hTb.kept g1 (by simp)
      have hRes1 := (hb1.block _ (Array.getElem?_eq_some_iff.1 hRes).1).trans hRes
      have bX1 := bX.kept g1 (by simp)
      have hrw1 := own_below hrw hb1
      have hs1 := Nat.le_trans hsW hb1.size
      have hk1 : KeepsOthers W W1 := KeepsOthers.of_grownBy g1 (fun j o e => by cases e)
      have hB1 := hB.trans (hb1.mono hsW)
      have HBP1 := Lib.hid (hb1.mono hsW)
      have HK1 := Lib.hid hk1
      clear hv hRL hTb hRes bX hrw hb1 g1 hk1 hB CLx cX0 cX1 cTb
      obtain ⟨a0, a1, a2, a3, hrA, haA⟩ := rowA_four A hsz1
      have hxz : (xorS A z).size = 4 := by rw [xorS_size A z (by omega)]; exact hsz1
      obtain ⟨b0, b1, b2, b3, hrZ, haZ⟩ := rowA_four (xorS A z) hxz
      have HLB := Lib.hid (fun w => iloadbytes_any z w hz4)
      have HOR := Lib.hid (fun w => iorof_any A z hsz1 hz4 w)
      rw [haA, haZ] at HOR
      have HRL := Lib.hid (hrA ▸ hRL1 : W1.heap[nL]? = some (.cells #[.int .u8 a0, .int .u8 a1, .int .u8 a2, .int .u8 a3] 114 (0, 0)))
      have HV := Lib.hid hv1
      have HT := Lib.hid hTb1
      have HRE := Lib.hid hRes1
      have HO := Lib.hid hrw1
      have HBB := Lib.hid hB1
      have HSZ := Lib.hid hs1
      have hnlW : nL < W1.heap.size := (Array.getElem?_eq_some_iff.1 hRL1).1
      clear hRL1 hv1 hTb1 hRes1 hrw1 hB1 bX1
      gi_wp2
      have LA : ∀ w' : World, w'.heap[nL]? = some (.cells #[.int .u8 a0, .int .u8 a1, .int .u8 a2, .int .u8 a3] 114 (0, 0)) → (loadVar 114 ⟨nL, 0, none⟩).run Try.prog w' = .ok (.agg #[.int .u8 a0, .int .u8 a1, .int .u8 a2, .int .u8 a3]) w' := fun w' h => arr4_load h (Below.refl _ _)
      refine wpIn_region_H (fun w' => w'.heap[nL]? = some (.cells #[.int .u8 a0, .int .u8 a1, .int .u8 a2, .int .u8 a3] 114 (0, 0))) (by kernel_rfl) (by kernel_rfl) ?_
      have hb := (Below.refl W1.heap.size W1).drew
      have g2 := grownN hb
      replace HRL := Lib.hid ((hb.block _ (Array.getElem?_eq_some_iff.1 HRL.out).1).trans HRL.out)
      replace HV := Lib.hid (HV.out.kept g2 (by simp))
      replace HT := Lib.hid (HT.out.kept g2 (by simp))
      replace HRE := Lib.hid ((hb.block _ (Array.getElem?_eq_some_iff.1 HRE.out).1).trans HRE.out)
      replace HO := Lib.hid (own_below HO.out hb)
      replace HBP1 := Lib.hid (HBP1.out.trans (hb.mono HSZ.out))
      replace HBB := Lib.hid (HBB.out.trans (hb.mono HSZ.out))
      replace HK1 := Lib.hid (HK1.out.trans (KeepsOthers.of_grownBy g2 (fun j o e => by cases e)))
      replace HSZ := Lib.hid (Nat.le_trans HSZ.out hb.size)
      clear hb g2
      generalize W1.drew = w2 at *
      refine wpH_seg [true, true] [2] 2 (by kernel_rfl) (fun _ _ _ _ _ h => h) (by kernel_rfl) HRL.out ?_
      try simp only [maskRows]
      repeat (first
        | go_big_quiet_skip
        | (go_big_quiet_want
           first
             | (go_big_quiet_op; go_big_quiet_on)
             | (refine q_load 114 _ _ _ rfl rfl LA ?_; simp only [Act.put, List.setIfInBounds_toArray, List.set_cons_zero, List.set_cons_succ]; go_big_quiet_on)
             | (go_big_quiet_op; refine ⟨_, fun _ _ => rfl, ?_⟩; go_big_quiet_on)
             | (go_big_quiet_op; refine ⟨_, fun _ _ _ => rfl, ?_⟩; go_big_quiet_on)))
      refine wpQuiet_nil ?_
      refine List.forall_mem_singleton.2 ?_
      refine segh_run rfl (by rfl) (fun K hK => ?_)
      go_simp
      refine (HLB.out _).mono ?_
      rintro e w3 ⟨rfl, hb⟩
      dsimp only
      have g3 := grownN hb
      replace HRL := Lib.hid ((hb.block _ (Array.getElem?_eq_some_iff.1 HRL.out).1).trans HRL.out)
      replace HV := Lib.hid (HV.out.kept g3 (by simp))
      replace HT := Lib.hid (HT.out.kept g3 (by simp))
      replace HRE := Lib.hid ((hb.block _ (Array.getElem?_eq_some_iff.1 HRE.out).1).trans HRE.out)
      replace HO := Lib.hid (own_below HO.out hb)
      replace HBP1 := Lib.hid (HBP1.out.trans (hb.mono HSZ.out))
      replace HBB := Lib.hid (HBB.out.trans (hb.mono HSZ.out))
      replace HK1 := Lib.hid (HK1.out.trans (KeepsOthers.of_grownBy g3 (fun j o e => by cases e)))
      replace HSZ := Lib.hid (Nat.le_trans HSZ.out hb.size)
      clear hb g3
      refine hK _ _ (.inr ⟨_, fun _ h => h, HRL.out, ?_⟩)
      clear hK K
      try simp only [Act.put, List.setIfInBounds_toArray, List.set_cons_zero, List.set_cons_succ]
      refine wpH_seg [] [3] 1 (by kernel_rfl) (fun _ _ _ _ _ h => h) (by kernel_rfl) HRL.out ?_
      try simp only [maskRows]
      refine wpQuiet_nil ?_
      refine List.forall_mem_singleton.2 ?_
      refine segh_run rfl (by rfl) (fun K hK => ?_)
      go_simp
      refine (HOR.out _).mono ?_
      rintro e w4 ⟨rfl, hb⟩
      dsimp only
      have g4 := grownN hb
      replace HRL := Lib.hid ((hb.block _ (Array.getElem?_eq_some_iff.1 HRL.out).1).trans HRL.out)
      replace HV := Lib.hid (HV.out.kept g4 (by simp))
      replace HT := Lib.hid (HT.out.kept g4 (by simp))
      replace HRE := Lib.hid ((hb.block _ (Array.getElem?_eq_some_iff.1 HRE.out).1).trans HRE.out)
      replace HO := Lib.hid (own_below HO.out hb)
      replace HBP1 := Lib.hid (HBP1.out.trans (hb.mono HSZ.out))
      replace HBB := Lib.hid (HBB.out.trans (hb.mono HSZ.out))
      replace HK1 := Lib.hid (HK1.out.trans (KeepsOthers.of_grownBy g4 (fun j o e => by cases e)))
      replace HSZ := Lib.hid (Nat.le_trans HSZ.out hb.size)
      clear hb g4
      refine hK _ _ (.inr ⟨_, fun _ h => h, HRL.out, ?_⟩)
      clear hK K
      try simp only [Act.put, List.setIfInBounds_toArray, List.set_cons_zero, List.set_cons_succ]
      refine wpH_seg [] [4] 0 (by kernel_rfl) (fun _ _ _ _ _ h => h) (by kernel_rfl) HRL.out ?_
      try simp only [maskRows]
      refine wpQuiet_nil ?_
      refine List.forall_mem_singleton.2 ?_
      obtain ⟨c0, c1, c2, c3, f0, f1, f2, f3⟩ := row4_of HRL.out
      have hlt := (Array.getElem?_eq_some_iff.1 HRL.out).1
      refine segh_run rfl (by rfl) (fun K hK => ?_)
      go_simp
      have hRL2 := set4 (.int .u8 b0) (.int .u8 b1) (.int .u8 b2) (.int .u8 b3) HRL.out
      have g9 := grown4 w4 nL (.int .u8 b0) (.int .u8 b1) (.int .u8 b2) (.int .u8 b3)
      have hne9 : ∀ B, B ≠ nL → some B ≠ some nL := fun B h e => h (Option.some.inj e)
      have HV2 := Lib.hid (HV.out.kept g9 (hne9 _ (by omega)))
      have HT2 := Lib.hid (HT.out.kept g9 (hne9 _ (by omega)))
      have HRE2 := Lib.hid ((g9.block _ (Array.getElem?_eq_some_iff.1 HRE.out).1 (hne9 _ (by omega))).trans HRE.out)
      have HO2 := Lib.hid (HO.out.kept g9 (.inr fun e => by
        rcases HO.out.2 with ⟨h, _⟩ | ⟨g', cap', cur', h, _, hgb, _⟩
        · rw [h] at e; cases e
        · rw [h] at e
          have e2 : g' = nL := Option.some.inj e
          subst e2
          rw [HRL.out] at hgb
          injection hgb with h1
          injection h1 with h2 h3
          revert h3
          decide))
      have HBP2 := Lib.hid (below4 HBP1.out (by omega : w.heap.size ≤ nL) (.int .u8 b0) (.int .u8 b1) (.int .u8 b2) (.int .u8 b3))
      have HBB2 := Lib.hid (below4 HBB.out (by omega : w.heap.size ≤ nL) (.int .u8 b0) (.int .u8 b1) (.int .u8 b2) (.int .u8 b3))
      have HK2 := Lib.hid (HK1.out.trans (KeepsOthers.of_grownBy g9 (fun j o e ho => by cases e; rw [HRL.out] at ho; cases ho; rfl)))
      have HRL3 := Lib.hid hRL2
      clear HV HT HRE HO HBP1 HBB HK1 HSZ c0 c1 c2 c3 f0 f1 f2 f3 hlt g9 hne9 hRL2
      replace HRL := HRL3
      clear HRL3
      refine hK _ _ (.inl ⟨⟨lastP_of (by kernel_rfl), by kernel_rfl⟩, ?_⟩)
      clear hK K
      try simp only [Act.put, List.setIfInBounds_toArray, List.set_cons_zero, List.set_cons_succ]
      simp only [OnlyNormal]
      have HRF := Lib.hid (show _ = some (Obj.cells (rowA (xorS A z)) 114 (0, 0)) from hrZ ▸ HRL.out)
      clear HRL
      gi_wp2
      exact ⟨HK2.out.from _, HBP2.out, ⟨_, HV2.out, by rw [HSN.out]; exact HO2.out, trivial⟩, by rw [HAN.out]; exact HRF.out, HT2.out, HRE2.out, HBB2.out⟩
    | none =>
      rw [hlo] at CLx HSN HAN
      dsimp only at HSN HAN
      rw [show loadV (none : Option ByteArray) = .tuple #[.string ⟨#[]⟩, .bool false] from rfl] at CLx
      gi_wp2
      refine ⟨trivial, (CallsIn.inRound l (callsIn_wide.2 CLx.out)).mono ?_⟩
      rintro e W1 ⟨rfl, hb1⟩
      have g1 := grownN hb1
      have hv1 := hv.kept g1 (by simp)
      have hRL1 := (hb1.block _ (Array.getElem?_eq_some_iff.1 hRL).1).trans hRL
      have hTb1 := hTb.kept g1 (by simp)
      have hRes1 := (hb1.block _ (Array.getElem?_eq_some_iff.1 hRes).1).trans hRes
      have bX1 := bX.kept g1 (by simp)
      have hrw1 := own_below hrw hb1
      have hs1 := Nat.le_trans hsW hb1.size
      have hk1 : KeepsOthers W W1 := KeepsOthers.of_grownBy g1 (fun j o e => by cases e)
      have hB1 := hB.trans (hb1.mono hsW)
      have HBP1 := Lib.hid (hb1.mono hsW)
      have HK1 := Lib.hid hk1
      clear hv hRL hTb hRes bX hrw hb1 g1 hk1 hB CLx cX0 cX1 cTb
      have cL1 := hv1.cell
      have cX0 := bX1.cell0
      have cX1 := bX1.cell1
      dsimp only at cX0 cX1
      have hnlW := (Array.getElem?_eq_some_iff.1 hRL1).1
      have HRL1 := Lib.hid hRL1
      have HT1 := Lib.hid hTb1
      have HRE1 := Lib.hid hRes1
      clear hRL1 hTb1 hRes1
      gi_wp2_with (gi_at_builtin; refine wpListIn_append_own_at _ rfl (.tmp 38) (.tmp 40) 28 rfl w.heap.size 43 i0 (.agg #[.int .i64 0, .int .i64 0]) 2 16 Try.underlying28 hi hz0 hz1 hz2 rfl (by decide) _ _ _ rfl (hrw1.alloc _) ⟨W1.heap.size, 0, none⟩ 1 1 [.int .i64 p, .int .i64 q] rfl rfl (cell_two_new _ _ _ _) (by intro u hu; simp at hu; rcases hu with rfl | rfl <;> rfl) (by unfold maxLen; omega) (by omega) (by rw [World.size_alloc]; omega) ?_; intro v5 w5 hown5 hgrow5 _ hat5; obtain ⟨g5, cap5, rfl⟩ := ownsRow_succ hown5; obtain ⟨hvx, hvy, hrz, hkz, hbz⟩ := hv1.appended (by decide) hrw1 hs1 (by omega) hown5 hgrow5; have hc5 := hvx.cell; have hf5 := hvx.frozen)
      have hal := (Below.heap_alloc W1 (.cells #[.int .i64 p, .int .i64 q] 43) nL hnlW).trans HRL1.out
      have hrl5 := (hgrow5.block nL (by simp; omega) (fun e => by
        rcases hrw1.2 with ⟨h, _⟩ | ⟨g', cap', cur', h, _, hgb, _⟩
        · rw [h] at e; cases e
        · rw [h] at e
          have e2 : g' = nL := (Option.some.inj e).symm
          subst e2
          rw [HRL1.out] at hgb
          injection hgb with h1
          injection h1 with h2 h3
          revert h3
          decide)).trans hal
      have hre := (Below.heap_alloc W1 (.cells #[.int .i64 p, .int .i64 q] 43) _ (Array.getElem?_eq_some_iff.1 HRE1.out).1).trans HRE1.out
      have hre5 := (hgrow5.block (w.heap.size + 2) (by simp; omega) (fun e => by
        rcases hrw1.2 with ⟨h, _⟩ | ⟨g', cap', cur', h, _, hgb, _⟩
        · rw [h] at e; cases e
        · rw [h] at e
          have e2 : g' = w.heap.size + 2 := (Option.some.inj e).symm
          subst e2
          rw [HRE1.out] at hgb
          injection hgb with h1
          injection h1 with h2 h3
          revert h3
          decide)).trans hre
      have HF := Lib.hid (And.intro ((Below.heap_setCell _ ⟨nK, 0, none⟩ (.slice (some ⟨g5, 0, none⟩) (M.length + 1) cap5) nL (by simp; omega)).trans hrl5) ((Below.heap_setCell _ ⟨nK, 0, none⟩ (.slice (some ⟨g5, 0, none⟩) (M.length + 1) cap5) (w.heap.size + 2) (by simp; omega)).trans hre5))
      clear hal hrl5 hre hre5
      exact ⟨(HK1.out.trans hkz).from _, HBP1.out.trans hbz, ⟨_, hvy, by rw [HSN.out, keyCells_snoc]; simpa using hrz, trivial⟩, by rw [HAN.out]; exact HF.out.1, boxed_app HT1.out (by decide) hrw1 hgrow5 (by omega) _, HF.out.2, hB1.trans hbz⟩
  case done =>
    rintro D ys W hD hys ⟨⟨v, hv, hrow, -⟩, hRL, hTb, hRes, hB⟩ hK
    subst hys
    have hll := hlen ys
    have h4y := accR_size h4 ys hy
    obtain ⟨a3, n3, k3, rfl⟩ := own_shape hrow
    obtain ⟨a0, a1, a2, a3', hrA, haA⟩ := rowA_four (accR T y ys) h4y
    rw [hrA] at hRL
    have HC := Lib.hid (fun w => icodeof_any a3 n3 k3 (accR T y ys) h4y w)
    rw [haA] at HC
    have cK := hv.cell
    obtain ⟨d0, d1, d2, d3, -, -, -, -⟩ := row4_of hRL
    have hsW := hB.size
    gi_wp2
    refine ⟨trivial, (callsIn_wide.2 (HC.out _)).mono ?_⟩
    rintro e W1 ⟨rfl, hb⟩
    have hR1 := (hb.block _ (Array.getElem?_eq_some_iff.1 hRes).1).trans hRes
    have hK1 := (hb.block D (Array.getElem?_eq_some_iff.1 hK).1).trans hK
    have ho1 := own_below hrow hb
    have hB1 := hB.trans (hb.mono hsW)
    obtain ⟨c0, c1, f0, f1⟩ := row2_of hR1
    have hlt := (Array.getElem?_eq_some_iff.1 hR1).1
    have hD2 : w.heap.size + 2 ≠ D := by omega
    have hR2 := set2 (.slice a3 n3 k3) (.string (accR T y ys)) hR1
    have hK2 := row_set2 hK1 (b := w.heap.size + 2) (by omega) (.slice a3 n3 k3) (.string (accR T y ys))
    have ho2 := ho1.kept (grown2 W1 (w.heap.size + 2) (.slice a3 n3 k3) (.string (accR T y ys))) (.inr fun e => by
      rcases ho1.2 with ⟨h, _⟩ | ⟨g', cap', cur', h, _, hgb, _⟩
      · rw [h] at e; cases e
      · rw [h] at e
        have e2 : g' = w.heap.size + 2 := Option.some.inj e
        subst e2
        rw [hR1] at hgb
        injection hgb with h1
        injection h1 with h2 h3
        revert h3
        decide)
    have hB2 := below2 hB1 (by omega : w.heap.size ≤ w.heap.size + 2) (.slice a3 n3 k3) (.string (accR T y ys))
    have HF := Lib.hid (And.intro hR2 (And.intro hK2 (And.intro ho2 hB2)))
    clear hR1 hK1 ho1 hB1 hR2 hK2 ho2 hB2 hb hv hRL hTb hRes hrow hB cK d0 d1 d2 d3 hK
    gi_wp2
    obtain ⟨hR2, hK2, ho2, hB2⟩ := HF.out
    try rw [Exit.noGoto_ret]
    refine ⟨by simp, .inl ⟨_, _, rfl, run_takeDeferred hK2, ?_⟩⟩
    have hR3 := (World.putObj_heap_other (w := (World.setCell (World.setCell W1 ⟨w.heap.size + 2, 0, none⟩ (.slice a3 n3 k3)) ⟨w.heap.size + 2, 1, none⟩ (.string (accR T y ys)))) (r := D) (o := .deferred none) hD2).trans hR2
    have l3 := cd_load hR3 (Below.refl _ _)
    refine ⟨.agg #[.slice a3 n3 k3, .string (accR T y ys)], ?_, _, rfl, ownsRow_putObj ho2 (.deferred none) hK2 rfl, hB2.trans (belowK_b (w := w) (Nat.le_refl _) _ D _ _ (by omega) hK2 rfl rfl)⟩
    rw [results_cell (p := 4) (ty := 30) (by kernel_rfl)]
    simp [asAddr, Result.andThen, l3]
  case stop =>
    rintro D c pre W _ _ h _
    exact h.elim
theorem ireduced_any (vx : Value) (ks : List K2) (y : ByteArray) (vT : Value) (T : List R3) (w : World) (hx : keysAt w vx ks) (hT : rdAt w vT T) (hs : ks.length ≤ 1048576) (hsT : T.length ≤ 1048576) (hy : y.size ≤ 2000000) :
    Calls Try.prog 43 #[.agg #[vx, .string y], vT] w fun e w' => ∃ v', e = .returned (.agg #[v', .string (redM (ks, y) T).2]) ∧ w'.ownsRow w.heap.size 43 2 v' (redM (ks, y) T).1.length (keyCells (redM (ks, y) T).1) ∧ Below w.heap.size w w' := by
  by_cases h : codeOkB (ks, y) = true ∧ rdsOkR T = true
  · have h4y : y.size = 4 := ((codeOk_iff (ks, y)).1 h.1).2.2.1
    rw [redM_form h.1 h.2]
    dsimp only
    rw [← accR_form (rds_four h.2) h4y ks]
    exact ireduced_yes vx ks y vT T w hx hT hs hsT h.1 h.2
  · have e : redM (ks, y) T = (ks, y) := by unfold redM; rw [if_neg h]
    rw [e]
    exact ireduced_no vx ks y vT T w hx hT hs hsT hy h
end Go.Proofs.Ytfohmhigidgfhaa
namespace Go.Proofs.Ytfohmhigidgfhaa
open Go.ChangeShapes Go.WideShapes Go.ChangeAt Go.RowKit Go.BigFrame Go.Maps
set_option linter.unusedVariables false
set_option linter.unusedSimpArgs false

theorem agg_keysS (w : World) : (isAgg 28).run Try.prog w = .ok false w := by simp [isAgg, underlying, Try.underlying28]
theorem run_field0 (v : Value) (y : ByteArray) (w : World) : (Instr.field 30 (.agg #[v, .string y]) 0).run Try.prog w = .ok v w := by
  simp only [Instr.field, underlying, part, asAgg, Sem.run_bind, agg_keysS, Try.underlying30, Result.andThen_ok]
  simp [part, Sem.run_bind, agg_keysS]
theorem q_field {P : Program} {C : World → Prop} {a : Act} {o : Oper} {K : Act → Prop} (t : TypeId) (x : Operand) (i : Nat) (v z : Value) (ho : o.op = .field t x i) (hx : a.eval x = v) (hf : ∀ w, (Instr.field t v i).run P w = .ok z w) (hk : K (a.put o.dst z)) : o.quiet P a C K := by
  refine ⟨z, fun w hw => ?_, hk⟩
  unfold Oper.quietAt execOp
  simp only [ho, hx, Sem.run_bind, Sem.run_pure, Result.andThen_ok, hf w]
  exact ⟨rfl, rfl⟩
theorem cd_load_b {w w' : World} {g : Nat} {u : Value} {y : ByteArray} (h : w.heap[g]? = some (.cells #[u, .string y] 30 (0, 0))) (hb : Below w.heap.size w w') : (loadVar 30 ⟨g, 0, none⟩).run Try.prog w' = .ok (.agg #[u, .string y]) w' :=
  run_loadVar_row (P := Try.prog) w' g 30 30 #[u, .string y] (0, 0) _ ((hb.block _ (Array.getElem?_eq_some_iff.1 h).1).trans h) Try.underlying30 rfl (by kernel_rfl)
theorem own_lenS {w : World} {base n m c : Nat} {e : TypeId} {size : Nat} {a : Option Addr} {xs : List Value} (h : w.ownsRow base e size (.slice a n c) m xs) : n = m := by
  rcases h.2 with ⟨h1, h0⟩ | ⟨g, cap, cur, h1, -⟩
  · cases h1; exact h0.symm
  · cases h1; rfl
/-- whether a word may wait, alone -/
def wGood (K : List R3) (x : C2) : Bool := codeOkB x && decide (2 ≤ x.1.length) && x.1.all fun k => (loadO K k).isNone
theorem waitP_good (K : List R3) (L : List C2) : WaitP K L ↔ (∀ i, i < L.length → wGood K (L.getD i blankC) = true) ∧ (L.map (·.1)).Nodup := by
  have e : ∀ x, wGood K x = true ↔ codeOkB x = true ∧ 2 ≤ x.1.length ∧ ∀ k ∈ x.1, loadO K k = none := by
    intro x
    unfold wGood
    simp only [Bool.and_eq_true, decide_eq_true_eq, List.all_eq_true, Option.isNone_iff_eq_none]
    constructor
    · rintro ⟨⟨h1, h2⟩, h3⟩; exact ⟨h1, h2, h3⟩
    · rintro ⟨h1, h2, h3⟩; exact ⟨⟨h1, h2⟩, h3⟩
  constructor
  · intro h
    exact ⟨fun i hi => (e _).2 (h.ok _ (getW hi)), h.apart⟩
  · rintro ⟨h1, h2⟩
    refine ⟨fun x hx => ?_, h2⟩
    obtain ⟨i, hi, rfl⟩ := List.getElem_of_mem hx
    have := (e _).1 (h1 i hi)
    rwa [List.getD, List.getElem?_eq_getElem hi] at this
theorem red_less {x : C2} {K : List R3} (hx : codeOkB x = true) (hK : rdsOkR K = true) : decide ((redM x K).1.length < x.1.length) = !(x.1.all fun k => (loadO K k).isNone) := by
  rw [redM_form hx hK]
  show decide ((outK K x.1).length < x.1.length) = _
  unfold outK
  have hle := List.length_filter_le (fun k => (loadO K k).isNone) x.1
  cases h : x.1.all fun k => (loadO K k).isNone with
  | true =>
    rw [List.filter_eq_self.2 (fun k hk => List.all_eq_true.1 h k hk)]
    simp
  | false =>
    have : (x.1.filter fun k => (loadO K k).isNone).length ≠ x.1.length := by
      intro e
      have := List.length_filter_eq_length_iff.1 e
      rw [List.all_eq_true.2 this] at h
      cases h
    simp only [Bool.not_false, decide_eq_true_eq]
    omega
set_option maxRecDepth 100000 in
set_option maxHeartbeats 2000000 in
theorem iwaitok_any (v : Value) (L : List C2) (vk : Value) (K : List R3) (w : World) (h : cdAv w none v L) (hk : rdAt w vk K) (hL : L.length ≤ 1900000) (hK : K.length ≤ 1048576) (hok : rdsOkR K = true) (hx : ∀ x ∈ L, x.1.length ≤ 1048576) :
    Calls Try.prog 57 #[v, vk] w fun e w' => e = .returned (.bool (decide (WaitP K L))) ∧ Below w.heap.size w w' := by
  have HP := Lib.hid (fun wx (hb : Below w.heap.size w wx) (hg : ∀ i, i < L.length → wGood K (L.getD i blankC) = true) => iplacesof_any v L wx (cdAv_below h hb) hL (fun x hx => by
    obtain ⟨i, hi, rfl⟩ := List.getElem_of_mem hx
    have := hg i hi
    unfold wGood at this
    simp only [Bool.and_eq_true] at this
    have e : L.getD i blankC = L[i] := by rw [List.getD, List.getElem?_eq_getElem hi]; rfl
    rw [e] at this
    exact setOk_code this.1.1))
  have HRD := Lib.hid (fun wx (hb : Below w.heap.size w wx) => rdAt_below hk hb)
  obtain ⟨a, cap, rfl, hcap, hcells⟩ := h
  obtain ⟨ak, ck, rfl, -, -⟩ := hk
  have HWP := Lib.hid (waitP_good K L)
  have HKO := Lib.hid hok
  clear hok
  go_enter Try.func57, Try.ntmps57
  go_wp2
  go_loopw [9] (fun i wr => ∃ k : Nat, k ≤ L.length ∧ i = .int .i64 k ∧ (∀ j, j < k → wGood K (L.getD j blankC) = true) ∧ Below w.heap.size w wr) (fun i _ => L.length - (intOf i).toNat)
  case atStart => exact ⟨0, Nat.zero_le _, rfl, fun j hj => by omega, Below.refl _ _⟩
  case round =>
    obtain ⟨k, hkl, rfl, hall, hb⟩ := hrel
    rename_i wr
    by_cases hlt : k < L.length
    · obtain ⟨g, off, rfl, hg, hcs⟩ := hcells.resolve_left (by omega)
      have z0 : (0 : Int) ≤ (k : Int) := by omega
      have z1 : (k : Int) < (L.length : Int) := by omega
      obtain ⟨u, c1, c2, c3⟩ := hcs k hlt
      have C1 := (hb.cell (p := ⟨g, off + k * 2, none⟩) hg).trans c1
      have C2 := (hb.cell (p := ⟨g, off + k * 2 + 1, none⟩) hg).trans c2
      have hxx := hx (L.getD k blankC) (getW hlt)
      have HBAD := Lib.hid (show wGood K (L.getD k blankC) = false → decide (WaitP K L) = false from fun e => decide_eq_false fun hw => by
        have := (HWP.out.1 hw).1 k hlt
        rw [e] at this; cases this)
      have HNX := Lib.hid (show wGood K (L.getD k blankC) = true → ∀ j, j < k + 1 → wGood K (L.getD j blankC) = true from fun e j hj => by
        rcases (by omega : j < k ∨ j = k) with h1 | rfl
        · exact hall j h1
        · exact e)
      clear hcells hcs c1 c2 hall
      generalize L.getD k blankC = x at *
      obtain ⟨ks, y⟩ := x
      dsimp only at *
      have hba := (Below.refl wr.heap.size wr).alloc (Nat.le_refl _) (.cells #[u, .string y] 30)
      have HX := Lib.hid (heap_alloc_new wr (.cells #[u, .string y] 30))
      have HC := Lib.hid (fun wx (hbx : Below wr.heap.size wr wx) => icodeok_any u ks y wx (keysAt_below (keysAt_below c3.to hb) hbx) (by omega))
      have HR := Lib.hid (fun wx (hbx : Below wr.heap.size wr wx) (hco : codeOkB (ks, y) = true) => ireduced_any u ks y _ K wx (keysAt_below (keysAt_below c3.to hb) hbx) (HRD.out wx (hb.trans (hbx.mono hb.size))) hxx hK (by have := ((codeOk_iff (ks, y)).1 hco).2.2.1; dsimp only at this; omega))
      have HB1 := Lib.hid hb
      have HBA := Lib.hid hba
      obtain ⟨au, cu, rfl, -, -⟩ := c3
      clear hb hba
      have hgo : wGood K (ks, y) = (codeOkB (ks, y) && decide (2 ≤ ks.length) && ks.all fun k => (loadO K k).isNone) := rfl
      have HLS := Lib.hid (fun (hco : codeOkB (ks, y) = true) => red_less hco HKO.out)
      have HGO := Lib.hid hgo
      clear hgo
      go_upto_region 4 with (fail)
      generalize wr.alloc (.cells #[.slice au ks.length cu, .string y] 30) = W at *
      have LX : ∀ w', Below W.heap.size W w' → (loadVar 30 ⟨wr.heap.size, 0, none⟩).run Try.prog w' = .ok (.agg #[.slice au ks.length cu, .string y]) w' := fun w' hb => cd_load_b HX.out hb
      have LK : ∀ w', Below W.heap.size W w' → (loadVar 28 ⟨wr.heap.size, 0, none⟩).run Try.prog w' = .ok (.slice au ks.length cu) w' := fun w' hb => cd_loadk HX.out hb
      cases hco : codeOkB (ks, y) with
      | false =>
        have HF := Lib.hid (HBAD.out (by rw [HGO.out, hco]; rfl))
        have HCO := Lib.hid hco
        clear hco
        refine wp_region_below W (by kernel_rfl) (by kernel_rfl) (Below.refl _ _) ?_
        repeat (first
          | go_big_quiet_skip
          | (go_big_quiet_want
             first
               | (go_big_quiet_op; go_big_quiet_on)
               | (refine q_load 30 _ _ _ rfl rfl LX ?_; simp only [Act.put, List.setIfInBounds_toArray, List.set_cons_zero, List.set_cons_succ]; go_big_quiet_on)
               | (refine q_load 28 _ _ _ rfl rfl LK ?_; simp only [Act.put, List.setIfInBounds_toArray, List.set_cons_zero, List.set_cons_succ]; go_big_quiet_on)
               | (go_big_quiet_op; refine ⟨_, fun _ _ => rfl, ?_⟩; go_big_quiet_on)
               | (go_big_quiet_op; apply Exists.intro; refine ⟨fun w' hw' => ?_, ?_⟩
                  · first
                    | (with_reducible refine (HC.out w' (HBA.out.trans (hw'.mono HBA.out.size))).mono ?_
                       rintro e w2 ⟨rfl, hb2⟩
                       exact ⟨by rw [HCO.out], hw'.trans (hb2.mono hw'.size)⟩)
                  go_big_quiet_on)))
        refine wpQuiet_nil ?_
        intro w5 hb5
        have HB5 := Lib.hid (HB1.out.trans ((HBA.out.trans (hb5.mono HBA.out.size)).mono HB1.out.size))
        clear LX LK hb5
        go_wp2
        go_ret
        exact ⟨by rw [HF.out]; rfl, HB5.out⟩
      | true =>
        have HCO := Lib.hid hco
        clear hco
        by_cases hl2 : ks.length < 2
        · have z2 : (ks.length : Int) < 2 := by omega
          have HF := Lib.hid (HBAD.out (by rw [HGO.out, HCO.out, decide_eq_false (by omega)]; rfl))
          clear hl2
          refine wp_region_below W (by kernel_rfl) (by kernel_rfl) (Below.refl _ _) ?_
          repeat (first
            | go_big_quiet_skip
            | (go_big_quiet_want
               first
                 | (go_big_quiet_op; go_big_quiet_on)
                 | (refine q_load 30 _ _ _ rfl rfl LX ?_; simp only [Act.put, List.setIfInBounds_toArray, List.set_cons_zero, List.set_cons_succ]; go_big_quiet_on)
                 | (refine q_load 28 _ _ _ rfl rfl LK ?_; simp only [Act.put, List.setIfInBounds_toArray, List.set_cons_zero, List.set_cons_succ]; go_big_quiet_on)
                 | (go_big_quiet_op; refine ⟨_, fun _ _ => rfl, ?_⟩; go_big_quiet_on)
                 | (go_big_quiet_op; apply Exists.intro; refine ⟨fun w' hw' => ?_, ?_⟩
                    · first
                      | (with_reducible refine (HC.out w' (HBA.out.trans (hw'.mono HBA.out.size))).mono ?_
                         rintro e w2 ⟨rfl, hb2⟩
                         exact ⟨by rw [HCO.out], hw'.trans (hb2.mono hw'.size)⟩)
                    go_big_quiet_on)))
          refine wpQuiet_nil ?_
          intro w5 hb5
          have HB5 := Lib.hid (HB1.out.trans ((HBA.out.trans (hb5.mono HBA.out.size)).mono HB1.out.size))
          clear LX LK hb5
          go_wp2
          go_ret
          exact ⟨by rw [HF.out]; rfl, HB5.out⟩
        · have z2 : ¬ (ks.length : Int) < 2 := by omega
          have HL2 := Lib.hid hl2
          have HBC := Lib.hid (Below.refl W.heap.size W).drew
          clear hl2
          by_cases hls : (redM (ks, y) K).1.length < ks.length
          · have z3 : ((redM (ks, y) K).1.length : Int) < (ks.length : Int) := by omega
            have HF := Lib.hid (HBAD.out (by rw [HGO.out, HCO.out, decide_eq_true (show 2 ≤ ks.length by have := HL2.out; omega)]; have h9 := HLS.out HCO.out; dsimp only at h9; rw [decide_eq_true hls] at h9; simpa using h9.symm))
            clear hls
            refine wp_region_G (fun wx => Below W.heap.size W wx) (by kernel_rfl) ?_
            refine wpG_seg [true] [1] 18 (by kernel_rfl) (by intro c a d v w h; cases d <;> exact h) (by kernel_rfl) HBC.out ?_
            try simp only [maskRows]
            repeat (first
              | go_big_quiet_skip
              | (go_big_quiet_want
                 first
                   | (go_big_quiet_op; go_big_quiet_on)
                   | (refine q_load 30 _ _ _ rfl rfl LX ?_; simp only [Act.put, List.setIfInBounds_toArray, List.set_cons_zero, List.set_cons_succ]; go_big_quiet_on)
                   | (refine q_load 28 _ _ _ rfl rfl LK ?_; simp only [Act.put, List.setIfInBounds_toArray, List.set_cons_zero, List.set_cons_succ]; go_big_quiet_on)
                   | (refine q_field 30 _ 0 _ _ rfl rfl (fun w => run_field0 _ _ w) ?_; simp only [Act.put, List.setIfInBounds_toArray, List.set_cons_zero, List.set_cons_succ]; go_big_quiet_on)
                   | (go_big_quiet_op; refine ⟨_, fun _ _ => rfl, ?_⟩; go_big_quiet_on)
                   | (go_big_quiet_op; refine ⟨_, fun _ _ _ => rfl, ?_⟩; go_big_quiet_on)))
            refine wpQuiet_nil ?_
            refine List.forall_mem_singleton.2 ?_
            refine segt_run rfl (by rfl) (fun K hK => ?_)
            go_simp
            refine (HC.out _ (HBA.out.trans (HBC.out.mono HBA.out.size))).mono ?_
            rintro e w2 ⟨rfl, hb2⟩
            dsimp only
            rw [HCO.out]
            replace HBC := Lib.hid (HBC.out.trans (hb2.mono HBC.out.size))
            clear hb2
            refine hK _ _ ⟨_, fun _ h => h, HBC.out, ?_⟩
            clear hK K
            try simp only [Act.put, List.setIfInBounds_toArray, List.set_cons_zero, List.set_cons_succ]
            refine wpG_seg [false, false, true, true, true, true] [6] 13 (by kernel_rfl) (by intro c a d v w h; cases d <;> exact h) (by kernel_rfl) HBC.out ?_
            try simp only [maskRows]
            repeat (first
              | go_big_quiet_skip
              | (go_big_quiet_want
                 first
                   | (go_big_quiet_op; go_big_quiet_on)
                   | (refine q_load 30 _ _ _ rfl rfl LX ?_; simp only [Act.put, List.setIfInBounds_toArray, List.set_cons_zero, List.set_cons_succ]; go_big_quiet_on)
                   | (refine q_load 28 _ _ _ rfl rfl LK ?_; simp only [Act.put, List.setIfInBounds_toArray, List.set_cons_zero, List.set_cons_succ]; go_big_quiet_on)
                   | (refine q_field 30 _ 0 _ _ rfl rfl (fun w => run_field0 _ _ w) ?_; simp only [Act.put, List.setIfInBounds_toArray, List.set_cons_zero, List.set_cons_succ]; go_big_quiet_on)
                   | (go_big_quiet_op; refine ⟨_, fun _ _ => rfl, ?_⟩; go_big_quiet_on)
                   | (go_big_quiet_op; refine ⟨_, fun _ _ _ => rfl, ?_⟩; go_big_quiet_on)))
            refine wpQuiet_nil ?_
            refine List.forall_mem_singleton.2 ?_
            refine segt_run rfl (by rfl) (fun K hK => ?_)
            go_simp
            refine hK _ _ ⟨_, fun _ h => h, HBC.out, ?_⟩
            clear hK K
            try simp only [Act.put, List.setIfInBounds_toArray, List.set_cons_zero, List.set_cons_succ]
            refine wpG_seg [false, false, false, false, false, false, false, true, true, true, true, true, false, false, false, true, true] [12, 17] 5 (by kernel_rfl) (by intro c a d v w h; cases d <;> exact h) (by kernel_rfl) HBC.out ?_
            try simp only [maskRows]
            repeat (first
              | go_big_quiet_skip
              | (go_big_quiet_want
                 first
                   | (go_big_quiet_op; go_big_quiet_on)
                   | (refine q_load 30 _ _ _ rfl rfl LX ?_; simp only [Act.put, List.setIfInBounds_toArray, List.set_cons_zero, List.set_cons_succ]; go_big_quiet_on)
                   | (refine q_load 28 _ _ _ rfl rfl LK ?_; simp only [Act.put, List.setIfInBounds_toArray, List.set_cons_zero, List.set_cons_succ]; go_big_quiet_on)
                   | (refine q_field 30 _ 0 _ _ rfl rfl (fun w => run_field0 _ _ w) ?_; simp only [Act.put, List.setIfInBounds_toArray, List.set_cons_zero, List.set_cons_succ]; go_big_quiet_on)
                   | (go_big_quiet_op; refine ⟨_, fun _ _ => rfl, ?_⟩; go_big_quiet_on)
                   | (go_big_quiet_op; refine ⟨_, fun _ _ _ => rfl, ?_⟩; go_big_quiet_on)))
            refine wpQuiet_nil ?_
            refine List.forall_mem_cons.2 ⟨?_, List.forall_mem_singleton.2 ?_⟩
            · refine segt_run rfl (by rfl) (fun K hK => ?_)
              go_simp
              refine (HR.out _ (HBA.out.trans (HBC.out.mono HBA.out.size)) HCO.out).mono ?_
              rintro e w3 ⟨v3, rfl, ho3, hb3⟩
              dsimp only
              replace HBC := Lib.hid (HBC.out.trans (hb3.mono HBC.out.size))
              obtain ⟨a3, n3, c3, rfl⟩ := own_shape ho3
              have hn3 := own_lenS ho3
              subst hn3
              clear hb3 ho3
              refine hK _ _ ⟨_, fun _ h => h, HBC.out, ?_⟩
              clear hK K
              try simp only [Act.put, List.setIfInBounds_toArray, List.set_cons_zero, List.set_cons_succ]
              refine wpG_seg [false, false, false, false, false, false, false, false, false, false, false, false, false, true] [14, 17] 3 (by kernel_rfl) (by intro c a d v w h; cases d <;> exact h) (by kernel_rfl) HBC.out ?_
              try simp only [maskRows]
              repeat (first
                | go_big_quiet_skip
                | (go_big_quiet_want
                   first
                     | (go_big_quiet_op; go_big_quiet_on)
                     | (refine q_load 30 _ _ _ rfl rfl LX ?_; simp only [Act.put, List.setIfInBounds_toArray, List.set_cons_zero, List.set_cons_succ]; go_big_quiet_on)
                     | (refine q_load 28 _ _ _ rfl rfl LK ?_; simp only [Act.put, List.setIfInBounds_toArray, List.set_cons_zero, List.set_cons_succ]; go_big_quiet_on)
                     | (refine q_field 30 _ 0 _ _ rfl rfl (fun w => run_field0 _ _ w) ?_; simp only [Act.put, List.setIfInBounds_toArray, List.set_cons_zero, List.set_cons_succ]; go_big_quiet_on)
                     | (go_big_quiet_op; refine ⟨_, fun _ _ => rfl, ?_⟩; go_big_quiet_on)
                     | (go_big_quiet_op; refine ⟨_, fun _ _ _ => rfl, ?_⟩; go_big_quiet_on)))
              refine wpQuiet_nil ?_
              refine List.forall_mem_cons.2 ⟨?_, List.forall_mem_singleton.2 ?_⟩
              · refine segt_run rfl (by rfl) (fun K hK => ?_)
                go_simp
                refine hK _ _ ⟨_, fun _ h => h, HBC.out, ?_⟩
                clear hK K
                try simp only [Act.put, List.setIfInBounds_toArray, List.set_cons_zero, List.set_cons_succ]
                refine wpG_seg [] [17] 2 (by kernel_rfl) (by intro c a d v w h; cases d <;> exact h) (by kernel_rfl) HBC.out ?_
                try simp only [maskRows]
                refine wpQuiet_nil ?_
                refine List.forall_mem_singleton.2 ?_
                refine segt_run rfl (by rfl) (fun K hK => ?_)
                go_simp
                refine hK _ _ ⟨_, fun _ h => h, HBC.out, ?_⟩
                clear hK K
                try simp only [Act.put, List.setIfInBounds_toArray, List.set_cons_zero, List.set_cons_succ]
                refine wpG_end [false, false, false, false, false, false, false, false, false, false, false, false, false, false, false, false, false, false, true, true] (by kernel_rfl) (by intro c a d v w h; cases d <;> exact h) (by kernel_rfl) HBC.out ?_
                try simp only [maskRows]
                repeat (first
                  | go_big_quiet_skip
                  | (go_big_quiet_want
                     first
                       | (go_big_quiet_op; go_big_quiet_on)
                       | (refine q_load 30 _ _ _ rfl rfl LX ?_; simp only [Act.put, List.setIfInBounds_toArray, List.set_cons_zero, List.set_cons_succ]; go_big_quiet_on)
                       | (refine q_load 28 _ _ _ rfl rfl LK ?_; simp only [Act.put, List.setIfInBounds_toArray, List.set_cons_zero, List.set_cons_succ]; go_big_quiet_on)
                       | (refine q_field 30 _ 0 _ _ rfl rfl (fun w => run_field0 _ _ w) ?_; simp only [Act.put, List.setIfInBounds_toArray, List.set_cons_zero, List.set_cons_succ]; go_big_quiet_on)
                       | (go_big_quiet_op; refine ⟨_, fun _ _ => rfl, ?_⟩; go_big_quiet_on)
                       | (go_big_quiet_op; refine ⟨_, fun _ _ _ => rfl, ?_⟩; go_big_quiet_on)))
                refine wpQuiet_nil ?_
                clear LX LK
                have HB5 := Lib.hid (HB1.out.trans ((HBA.out.trans (HBC.out.mono HBA.out.size)).mono HB1.out.size))
                go_wp2
                go_ret
                exact ⟨by rw [HF.out]; rfl, HB5.out⟩
              · refine segt_run rfl (by rfl) (fun K hK => ?_)
                go_simp
                refine hK _ _ ⟨_, fun _ h => h, HBC.out, ?_⟩
                clear hK K
                try simp only [Act.put, List.setIfInBounds_toArray, List.set_cons_zero, List.set_cons_succ]
                refine wpG_seg [] [14] 2 (by kernel_rfl) (by intro c a d v w h; cases d <;> exact h) (by kernel_rfl) HBC.out ?_
                try simp only [maskRows]
                refine wpQuiet_nil ?_
                refine List.forall_mem_singleton.2 ?_
                refine segt_run rfl (by rfl) (fun K hK => ?_)
                go_simp
                refine hK _ _ ⟨_, fun _ h => h, HBC.out, ?_⟩
                clear hK K
                try simp only [Act.put, List.setIfInBounds_toArray, List.set_cons_zero, List.set_cons_succ]
                refine wpG_end [false, false, false, false, false, false, false, false, false, false, false, false, false, false, false, false, false, false, true, true] (by kernel_rfl) (by intro c a d v w h; cases d <;> exact h) (by kernel_rfl) HBC.out ?_
                try simp only [maskRows]
                repeat (first
                  | go_big_quiet_skip
                  | (go_big_quiet_want
                     first
                       | (go_big_quiet_op; go_big_quiet_on)
                       | (refine q_load 30 _ _ _ rfl rfl LX ?_; simp only [Act.put, List.setIfInBounds_toArray, List.set_cons_zero, List.set_cons_succ]; go_big_quiet_on)
                       | (refine q_load 28 _ _ _ rfl rfl LK ?_; simp only [Act.put, List.setIfInBounds_toArray, List.set_cons_zero, List.set_cons_succ]; go_big_quiet_on)
                       | (refine q_field 30 _ 0 _ _ rfl rfl (fun w => run_field0 _ _ w) ?_; simp only [Act.put, List.setIfInBounds_toArray, List.set_cons_zero, List.set_cons_succ]; go_big_quiet_on)
                       | (go_big_quiet_op; refine ⟨_, fun _ _ => rfl, ?_⟩; go_big_quiet_on)
                       | (go_big_quiet_op; refine ⟨_, fun _ _ _ => rfl, ?_⟩; go_big_quiet_on)))
                refine wpQuiet_nil ?_
                clear LX LK
                have HB5 := Lib.hid (HB1.out.trans ((HBA.out.trans (HBC.out.mono HBA.out.size)).mono HB1.out.size))
                go_wp2
                go_ret
                exact ⟨by rw [HF.out]; rfl, HB5.out⟩
            · refine segt_run rfl (by rfl) (fun K hK => ?_)
              go_simp
              refine hK _ _ ⟨_, fun _ h => h, HBC.out, ?_⟩
              clear hK K
              try simp only [Act.put, List.setIfInBounds_toArray, List.set_cons_zero, List.set_cons_succ]
              refine wpG_seg [] [12] 4 (by kernel_rfl) (by intro c a d v w h; cases d <;> exact h) (by kernel_rfl) HBC.out ?_
              try simp only [maskRows]
              refine wpQuiet_nil ?_
              refine List.forall_mem_singleton.2 ?_
              refine segt_run rfl (by rfl) (fun K hK => ?_)
              go_simp
              refine (HR.out _ (HBA.out.trans (HBC.out.mono HBA.out.size)) HCO.out).mono ?_
              rintro e w3 ⟨v3, rfl, ho3, hb3⟩
              dsimp only
              replace HBC := Lib.hid (HBC.out.trans (hb3.mono HBC.out.size))
              obtain ⟨a3, n3, c3, rfl⟩ := own_shape ho3
              have hn3 := own_lenS ho3
              subst hn3
              clear hb3 ho3
              refine hK _ _ ⟨_, fun _ h => h, HBC.out, ?_⟩
              clear hK K
              try simp only [Act.put, List.setIfInBounds_toArray, List.set_cons_zero, List.set_cons_succ]
              refine wpG_seg [false, false, false, false, false, false, false, false, false, false, false, false, false, true] [14] 2 (by kernel_rfl) (by intro c a d v w h; cases d <;> exact h) (by kernel_rfl) HBC.out ?_
              try simp only [maskRows]
              repeat (first
                | go_big_quiet_skip
                | (go_big_quiet_want
                   first
                     | (go_big_quiet_op; go_big_quiet_on)
                     | (refine q_load 30 _ _ _ rfl rfl LX ?_; simp only [Act.put, List.setIfInBounds_toArray, List.set_cons_zero, List.set_cons_succ]; go_big_quiet_on)
                     | (refine q_load 28 _ _ _ rfl rfl LK ?_; simp only [Act.put, List.setIfInBounds_toArray, List.set_cons_zero, List.set_cons_succ]; go_big_quiet_on)
                     | (refine q_field 30 _ 0 _ _ rfl rfl (fun w => run_field0 _ _ w) ?_; simp only [Act.put, List.setIfInBounds_toArray, List.set_cons_zero, List.set_cons_succ]; go_big_quiet_on)
                     | (go_big_quiet_op; refine ⟨_, fun _ _ => rfl, ?_⟩; go_big_quiet_on)
                     | (go_big_quiet_op; refine ⟨_, fun _ _ _ => rfl, ?_⟩; go_big_quiet_on)))
              refine wpQuiet_nil ?_
              refine List.forall_mem_singleton.2 ?_
              refine segt_run rfl (by rfl) (fun K hK => ?_)
              go_simp
              refine hK _ _ ⟨_, fun _ h => h, HBC.out, ?_⟩
              clear hK K
              try simp only [Act.put, List.setIfInBounds_toArray, List.set_cons_zero, List.set_cons_succ]
              refine wpG_end [false, false, false, false, false, false, false, false, false, false, false, false, false, false, false, false, false, false, true, true] (by kernel_rfl) (by intro c a d v w h; cases d <;> exact h) (by kernel_rfl) HBC.out ?_
              try simp only [maskRows]
              repeat (first
                | go_big_quiet_skip
                | (go_big_quiet_want
                   first
                     | (go_big_quiet_op; go_big_quiet_on)
                     | (refine q_load 30 _ _ _ rfl rfl LX ?_; simp only [Act.put, List.setIfInBounds_toArray, List.set_cons_zero, List.set_cons_succ]; go_big_quiet_on)
                     | (refine q_load 28 _ _ _ rfl rfl LK ?_; simp only [Act.put, List.setIfInBounds_toArray, List.set_cons_zero, List.set_cons_succ]; go_big_quiet_on)
                     | (refine q_field 30 _ 0 _ _ rfl rfl (fun w => run_field0 _ _ w) ?_; simp only [Act.put, List.setIfInBounds_toArray, List.set_cons_zero, List.set_cons_succ]; go_big_quiet_on)
                     | (go_big_quiet_op; refine ⟨_, fun _ _ => rfl, ?_⟩; go_big_quiet_on)
                     | (go_big_quiet_op; refine ⟨_, fun _ _ _ => rfl, ?_⟩; go_big_quiet_on)))
              refine wpQuiet_nil ?_
              clear LX LK
              have HB5 := Lib.hid (HB1.out.trans ((HBA.out.trans (HBC.out.mono HBA.out.size)).mono HB1.out.size))
              go_wp2
              go_ret
              exact ⟨by rw [HF.out]; rfl, HB5.out⟩
          · have z3 : ¬ ((redM (ks, y) K).1.length : Int) < (ks.length : Int) := by omega
            have HF := Lib.hid (HNX.out (by rw [HGO.out, HCO.out, decide_eq_true (show 2 ≤ ks.length by have := HL2.out; omega)]; have h9 := HLS.out HCO.out; dsimp only at h9; rw [decide_eq_false hls] at h9; simpa using h9.symm))
            clear hls
            refine wp_region_G (fun wx => Below W.heap.size W wx) (by kernel_rfl) ?_
            refine wpG_seg [true] [1] 18 (by kernel_rfl) (by intro c a d v w h; cases d <;> exact h) (by kernel_rfl) HBC.out ?_
            try simp only [maskRows]
            repeat (first
              | go_big_quiet_skip
              | (go_big_quiet_want
                 first
                   | (go_big_quiet_op; go_big_quiet_on)
                   | (refine q_load 30 _ _ _ rfl rfl LX ?_; simp only [Act.put, List.setIfInBounds_toArray, List.set_cons_zero, List.set_cons_succ]; go_big_quiet_on)
                   | (refine q_load 28 _ _ _ rfl rfl LK ?_; simp only [Act.put, List.setIfInBounds_toArray, List.set_cons_zero, List.set_cons_succ]; go_big_quiet_on)
                   | (refine q_field 30 _ 0 _ _ rfl rfl (fun w => run_field0 _ _ w) ?_; simp only [Act.put, List.setIfInBounds_toArray, List.set_cons_zero, List.set_cons_succ]; go_big_quiet_on)
                   | (go_big_quiet_op; refine ⟨_, fun _ _ => rfl, ?_⟩; go_big_quiet_on)
                   | (go_big_quiet_op; refine ⟨_, fun _ _ _ => rfl, ?_⟩; go_big_quiet_on)))
            refine wpQuiet_nil ?_
            refine List.forall_mem_singleton.2 ?_
            refine segt_run rfl (by rfl) (fun K hK => ?_)
            go_simp
            refine (HC.out _ (HBA.out.trans (HBC.out.mono HBA.out.size))).mono ?_
            rintro e w2 ⟨rfl, hb2⟩
            dsimp only
            rw [HCO.out]
            replace HBC := Lib.hid (HBC.out.trans (hb2.mono HBC.out.size))
            clear hb2
            refine hK _ _ ⟨_, fun _ h => h, HBC.out, ?_⟩
            clear hK K
            try simp only [Act.put, List.setIfInBounds_toArray, List.set_cons_zero, List.set_cons_succ]
            refine wpG_seg [false, false, true, true, true, true] [6] 13 (by kernel_rfl) (by intro c a d v w h; cases d <;> exact h) (by kernel_rfl) HBC.out ?_
            try simp only [maskRows]
            repeat (first
              | go_big_quiet_skip
              | (go_big_quiet_want
                 first
                   | (go_big_quiet_op; go_big_quiet_on)
                   | (refine q_load 30 _ _ _ rfl rfl LX ?_; simp only [Act.put, List.setIfInBounds_toArray, List.set_cons_zero, List.set_cons_succ]; go_big_quiet_on)
                   | (refine q_load 28 _ _ _ rfl rfl LK ?_; simp only [Act.put, List.setIfInBounds_toArray, List.set_cons_zero, List.set_cons_succ]; go_big_quiet_on)
                   | (refine q_field 30 _ 0 _ _ rfl rfl (fun w => run_field0 _ _ w) ?_; simp only [Act.put, List.setIfInBounds_toArray, List.set_cons_zero, List.set_cons_succ]; go_big_quiet_on)
                   | (go_big_quiet_op; refine ⟨_, fun _ _ => rfl, ?_⟩; go_big_quiet_on)
                   | (go_big_quiet_op; refine ⟨_, fun _ _ _ => rfl, ?_⟩; go_big_quiet_on)))
            refine wpQuiet_nil ?_
            refine List.forall_mem_singleton.2 ?_
            refine segt_run rfl (by rfl) (fun K hK => ?_)
            go_simp
            refine hK _ _ ⟨_, fun _ h => h, HBC.out, ?_⟩
            clear hK K
            try simp only [Act.put, List.setIfInBounds_toArray, List.set_cons_zero, List.set_cons_succ]
            refine wpG_seg [false, false, false, false, false, false, false, true, true, true, true, true, false, false, false, true, true] [12, 17] 5 (by kernel_rfl) (by intro c a d v w h; cases d <;> exact h) (by kernel_rfl) HBC.out ?_
            try simp only [maskRows]
            repeat (first
              | go_big_quiet_skip
              | (go_big_quiet_want
                 first
                   | (go_big_quiet_op; go_big_quiet_on)
                   | (refine q_load 30 _ _ _ rfl rfl LX ?_; simp only [Act.put, List.setIfInBounds_toArray, List.set_cons_zero, List.set_cons_succ]; go_big_quiet_on)
                   | (refine q_load 28 _ _ _ rfl rfl LK ?_; simp only [Act.put, List.setIfInBounds_toArray, List.set_cons_zero, List.set_cons_succ]; go_big_quiet_on)
                   | (refine q_field 30 _ 0 _ _ rfl rfl (fun w => run_field0 _ _ w) ?_; simp only [Act.put, List.setIfInBounds_toArray, List.set_cons_zero, List.set_cons_succ]; go_big_quiet_on)
                   | (go_big_quiet_op; refine ⟨_, fun _ _ => rfl, ?_⟩; go_big_quiet_on)
                   | (go_big_quiet_op; refine ⟨_, fun _ _ _ => rfl, ?_⟩; go_big_quiet_on)))
            refine wpQuiet_nil ?_
            refine List.forall_mem_cons.2 ⟨?_, List.forall_mem_singleton.2 ?_⟩
            · refine segt_run rfl (by rfl) (fun K hK => ?_)
              go_simp
              refine (HR.out _ (HBA.out.trans (HBC.out.mono HBA.out.size)) HCO.out).mono ?_
              rintro e w3 ⟨v3, rfl, ho3, hb3⟩
              dsimp only
              replace HBC := Lib.hid (HBC.out.trans (hb3.mono HBC.out.size))
              obtain ⟨a3, n3, c3, rfl⟩ := own_shape ho3
              have hn3 := own_lenS ho3
              subst hn3
              clear hb3 ho3
              refine hK _ _ ⟨_, fun _ h => h, HBC.out, ?_⟩
              clear hK K
              try simp only [Act.put, List.setIfInBounds_toArray, List.set_cons_zero, List.set_cons_succ]
              refine wpG_seg [false, false, false, false, false, false, false, false, false, false, false, false, false, true] [14, 17] 3 (by kernel_rfl) (by intro c a d v w h; cases d <;> exact h) (by kernel_rfl) HBC.out ?_
              try simp only [maskRows]
              repeat (first
                | go_big_quiet_skip
                | (go_big_quiet_want
                   first
                     | (go_big_quiet_op; go_big_quiet_on)
                     | (refine q_load 30 _ _ _ rfl rfl LX ?_; simp only [Act.put, List.setIfInBounds_toArray, List.set_cons_zero, List.set_cons_succ]; go_big_quiet_on)
                     | (refine q_load 28 _ _ _ rfl rfl LK ?_; simp only [Act.put, List.setIfInBounds_toArray, List.set_cons_zero, List.set_cons_succ]; go_big_quiet_on)
                     | (refine q_field 30 _ 0 _ _ rfl rfl (fun w => run_field0 _ _ w) ?_; simp only [Act.put, List.setIfInBounds_toArray, List.set_cons_zero, List.set_cons_succ]; go_big_quiet_on)
                     | (go_big_quiet_op; refine ⟨_, fun _ _ => rfl, ?_⟩; go_big_quiet_on)
                     | (go_big_quiet_op; refine ⟨_, fun _ _ _ => rfl, ?_⟩; go_big_quiet_on)))
              refine wpQuiet_nil ?_
              refine List.forall_mem_cons.2 ⟨?_, List.forall_mem_singleton.2 ?_⟩
              · refine segt_run rfl (by rfl) (fun K hK => ?_)
                go_simp
                refine hK _ _ ⟨_, fun _ h => h, HBC.out, ?_⟩
                clear hK K
                try simp only [Act.put, List.setIfInBounds_toArray, List.set_cons_zero, List.set_cons_succ]
                refine wpG_seg [] [17] 2 (by kernel_rfl) (by intro c a d v w h; cases d <;> exact h) (by kernel_rfl) HBC.out ?_
                try simp only [maskRows]
                refine wpQuiet_nil ?_
                refine List.forall_mem_singleton.2 ?_
                refine segt_run rfl (by rfl) (fun K hK => ?_)
                go_simp
                refine hK _ _ ⟨_, fun _ h => h, HBC.out, ?_⟩
                clear hK K
                try simp only [Act.put, List.setIfInBounds_toArray, List.set_cons_zero, List.set_cons_succ]
                refine wpG_end [false, false, false, false, false, false, false, false, false, false, false, false, false, false, false, false, false, false, true, true] (by kernel_rfl) (by intro c a d v w h; cases d <;> exact h) (by kernel_rfl) HBC.out ?_
                try simp only [maskRows]
                repeat (first
                  | go_big_quiet_skip
                  | (go_big_quiet_want
                     first
                       | (go_big_quiet_op; go_big_quiet_on)
                       | (refine q_load 30 _ _ _ rfl rfl LX ?_; simp only [Act.put, List.setIfInBounds_toArray, List.set_cons_zero, List.set_cons_succ]; go_big_quiet_on)
                       | (refine q_load 28 _ _ _ rfl rfl LK ?_; simp only [Act.put, List.setIfInBounds_toArray, List.set_cons_zero, List.set_cons_succ]; go_big_quiet_on)
                       | (refine q_field 30 _ 0 _ _ rfl rfl (fun w => run_field0 _ _ w) ?_; simp only [Act.put, List.setIfInBounds_toArray, List.set_cons_zero, List.set_cons_succ]; go_big_quiet_on)
                       | (go_big_quiet_op; refine ⟨_, fun _ _ => rfl, ?_⟩; go_big_quiet_on)
                       | (go_big_quiet_op; refine ⟨_, fun _ _ _ => rfl, ?_⟩; go_big_quiet_on)))
                refine wpQuiet_nil ?_
                clear LX LK
                have HB5 := Lib.hid (HB1.out.trans ((HBA.out.trans (HBC.out.mono HBA.out.size)).mono HB1.out.size))
                go_wp2
                exact ⟨⟨k + 1, by omega, by go_num, HF.out, HB5.out⟩, by simp [intOf]; omega⟩
              · refine segt_run rfl (by rfl) (fun K hK => ?_)
                go_simp
                refine hK _ _ ⟨_, fun _ h => h, HBC.out, ?_⟩
                clear hK K
                try simp only [Act.put, List.setIfInBounds_toArray, List.set_cons_zero, List.set_cons_succ]
                refine wpG_seg [] [14] 2 (by kernel_rfl) (by intro c a d v w h; cases d <;> exact h) (by kernel_rfl) HBC.out ?_
                try simp only [maskRows]
                refine wpQuiet_nil ?_
                refine List.forall_mem_singleton.2 ?_
                refine segt_run rfl (by rfl) (fun K hK => ?_)
                go_simp
                refine hK _ _ ⟨_, fun _ h => h, HBC.out, ?_⟩
                clear hK K
                try simp only [Act.put, List.setIfInBounds_toArray, List.set_cons_zero, List.set_cons_succ]
                refine wpG_end [false, false, false, false, false, false, false, false, false, false, false, false, false, false, false, false, false, false, true, true] (by kernel_rfl) (by intro c a d v w h; cases d <;> exact h) (by kernel_rfl) HBC.out ?_
                try simp only [maskRows]
                repeat (first
                  | go_big_quiet_skip
                  | (go_big_quiet_want
                     first
                       | (go_big_quiet_op; go_big_quiet_on)
                       | (refine q_load 30 _ _ _ rfl rfl LX ?_; simp only [Act.put, List.setIfInBounds_toArray, List.set_cons_zero, List.set_cons_succ]; go_big_quiet_on)
                       | (refine q_load 28 _ _ _ rfl rfl LK ?_; simp only [Act.put, List.setIfInBounds_toArray, List.set_cons_zero, List.set_cons_succ]; go_big_quiet_on)
                       | (refine q_field 30 _ 0 _ _ rfl rfl (fun w => run_field0 _ _ w) ?_; simp only [Act.put, List.setIfInBounds_toArray, List.set_cons_zero, List.set_cons_succ]; go_big_quiet_on)
                       | (go_big_quiet_op; refine ⟨_, fun _ _ => rfl, ?_⟩; go_big_quiet_on)
                       | (go_big_quiet_op; refine ⟨_, fun _ _ _ => rfl, ?_⟩; go_big_quiet_on)))
                refine wpQuiet_nil ?_
                clear LX LK
                have HB5 := Lib.hid (HB1.out.trans ((HBA.out.trans (HBC.out.mono HBA.out.size)).mono HB1.out.size))
                go_wp2
                exact ⟨⟨k + 1, by omega, by go_num, HF.out, HB5.out⟩, by simp [intOf]; omega⟩
            · refine segt_run rfl (by rfl) (fun K hK => ?_)
              go_simp
              refine hK _ _ ⟨_, fun _ h => h, HBC.out, ?_⟩
              clear hK K
              try simp only [Act.put, List.setIfInBounds_toArray, List.set_cons_zero, List.set_cons_succ]
              refine wpG_seg [] [12] 4 (by kernel_rfl) (by intro c a d v w h; cases d <;> exact h) (by kernel_rfl) HBC.out ?_
              try simp only [maskRows]
              refine wpQuiet_nil ?_
              refine List.forall_mem_singleton.2 ?_
              refine segt_run rfl (by rfl) (fun K hK => ?_)
              go_simp
              refine (HR.out _ (HBA.out.trans (HBC.out.mono HBA.out.size)) HCO.out).mono ?_
              rintro e w3 ⟨v3, rfl, ho3, hb3⟩
              dsimp only
              replace HBC := Lib.hid (HBC.out.trans (hb3.mono HBC.out.size))
              obtain ⟨a3, n3, c3, rfl⟩ := own_shape ho3
              have hn3 := own_lenS ho3
              subst hn3
              clear hb3 ho3
              refine hK _ _ ⟨_, fun _ h => h, HBC.out, ?_⟩
              clear hK K
              try simp only [Act.put, List.setIfInBounds_toArray, List.set_cons_zero, List.set_cons_succ]
              refine wpG_seg [false, false, false, false, false, false, false, false, false, false, false, false, false, true] [14] 2 (by kernel_rfl) (by intro c a d v w h; cases d <;> exact h) (by kernel_rfl) HBC.out ?_
              try simp only [maskRows]
              repeat (first
                | go_big_quiet_skip
                | (go_big_quiet_want
                   first
                     | (go_big_quiet_op; go_big_quiet_on)
                     | (refine q_load 30 _ _ _ rfl rfl LX ?_; simp only [Act.put, List.setIfInBounds_toArray, List.set_cons_zero, List.set_cons_succ]; go_big_quiet_on)
                     | (refine q_load 28 _ _ _ rfl rfl LK ?_; simp only [Act.put, List.setIfInBounds_toArray, List.set_cons_zero, List.set_cons_succ]; go_big_quiet_on)
                     | (refine q_field 30 _ 0 _ _ rfl rfl (fun w => run_field0 _ _ w) ?_; simp only [Act.put, List.setIfInBounds_toArray, List.set_cons_zero, List.set_cons_succ]; go_big_quiet_on)
                     | (go_big_quiet_op; refine ⟨_, fun _ _ => rfl, ?_⟩; go_big_quiet_on)
                     | (go_big_quiet_op; refine ⟨_, fun _ _ _ => rfl, ?_⟩; go_big_quiet_on)))
              refine wpQuiet_nil ?_
              refine List.forall_mem_singleton.2 ?_
              refine segt_run rfl (by rfl) (fun K hK => ?_)
              go_simp
              refine hK _ _ ⟨_, fun _ h => h, HBC.out, ?_⟩
              clear hK K
              try simp only [Act.put, List.setIfInBounds_toArray, List.set_cons_zero, List.set_cons_succ]
              refine wpG_end [false, false, false, false, false, false, false, false, false, false, false, false, false, false, false, false, false, false, true, true] (by kernel_rfl) (by intro c a d v w h; cases d <;> exact h) (by kernel_rfl) HBC.out ?_
              try simp only [maskRows]
              repeat (first
                | go_big_quiet_skip
                | (go_big_quiet_want
                   first
                     | (go_big_quiet_op; go_big_quiet_on)
                     | (refine q_load 30 _ _ _ rfl rfl LX ?_; simp only [Act.put, List.setIfInBounds_toArray, List.set_cons_zero, List.set_cons_succ]; go_big_quiet_on)
                     | (refine q_load 28 _ _ _ rfl rfl LK ?_; simp only [Act.put, List.setIfInBounds_toArray, List.set_cons_zero, List.set_cons_succ]; go_big_quiet_on)
                     | (refine q_field 30 _ 0 _ _ rfl rfl (fun w => run_field0 _ _ w) ?_; simp only [Act.put, List.setIfInBounds_toArray, List.set_cons_zero, List.set_cons_succ]; go_big_quiet_on)
                     | (go_big_quiet_op; refine ⟨_, fun _ _ => rfl, ?_⟩; go_big_quiet_on)
                     | (go_big_quiet_op; refine ⟨_, fun _ _ _ => rfl, ?_⟩; go_big_quiet_on)))
              refine wpQuiet_nil ?_
              clear LX LK
              have HB5 := Lib.hid (HB1.out.trans ((HBA.out.trans (HBC.out.mono HBA.out.size)).mono HB1.out.size))
              go_wp2
              exact ⟨⟨k + 1, by omega, by go_num, HF.out, HB5.out⟩, by simp [intOf]; omega⟩
    · obtain rfl : k = L.length := by omega
      have HB := Lib.hid hb
      have HPP := Lib.hid (HP.out _ hb hall)
      have HDE := Lib.hid (show decide (WaitP K L) = ((cntP L L.length : Int) == (L.length : Int)) from by
        by_cases hw : WaitP K L
        · rw [decide_eq_true hw, (cnt_nodup L).2 (HWP.out.1 hw).2]; simp
        · rw [decide_eq_false hw]
          symm
          refine beq_eq_false_iff_ne.2 fun e => hw (HWP.out.2 ⟨hall, (cnt_nodup L).1 (by omega)⟩))
      clear hcells hall hb
      go_wp2_with fail
      refine HPP.out.mono ?_
      rintro e w2 ⟨rfl, hpl, hb2⟩
      have hlen := fun ty => hpl.len ty
      have HB2 := Lib.hid (HB.out.trans (hb2.mono HB.out.size))
      clear hpl hb2
      go_wp2
      go_ret
      exact ⟨by rw [HDE.out]; rfl, HB2.out⟩
end Go.Proofs.Ytfohmhigidgfhaa
namespace Go.Proofs.Ytfohmhigidgfhaa
open Go.ChangeShapes Go.WideShapes Go.ChangeAt Go.RowKit Go.BigFrame
set_option linter.unusedVariables false
set_option linter.unusedSimpArgs false

def snV (s : Snk) (vk vw : Value) : Value := .agg #[.int .i64 s.most, vk, vw, .int .i64 s.same, .int .i64 s.lost, .int .i64 s.bad]
end Go.Proofs.Ytfohmhigidgfhaa
namespace Go.Proofs.Ytfohmhigidgfhaa
open Go.ChangeShapes Go.WideShapes Go.ChangeAt Go.RowKit Go.BigFrame Go.Maps
set_option linter.unusedVariables false
set_option linter.unusedSimpArgs false

def snC (s : Snk) (vk vw : Value) : Array Value := #[.int .i64 s.most, vk, vw, .int .i64 s.same, .int .i64 s.lost, .int .i64 s.bad]
theorem snV_eq (s : Snk) (vk vw : Value) : snV s vk vw = .agg (snC s vk vw) := rfl
theorem row6_of {W : World} {b : Nat} {v0 v1 v2 v3 v4 v5 : Value} {T : TypeId} (h : W.heap[b]? = some (.cells #[v0, v1, v2, v3, v4, v5] T (0, 0))) :
    (W.cell? ⟨b, 0, none⟩ = some v0 ∧ W.cell? ⟨b, 1, none⟩ = some v1 ∧ W.cell? ⟨b, 2, none⟩ = some v2 ∧ W.cell? ⟨b, 3, none⟩ = some v3 ∧ W.cell? ⟨b, 4, none⟩ = some v4 ∧ W.cell? ⟨b, 5, none⟩ = some v5) ∧
    (W.frozen? ⟨b, 0, none⟩ = false ∧ W.frozen? ⟨b, 1, none⟩ = false ∧ W.frozen? ⟨b, 2, none⟩ = false ∧ W.frozen? ⟨b, 3, none⟩ = false ∧ W.frozen? ⟨b, 4, none⟩ = false ∧ W.frozen? ⟨b, 5, none⟩ = false) := by
  refine ⟨⟨?_, ?_, ?_, ?_, ?_, ?_⟩, ?_, ?_, ?_, ?_, ?_, ?_⟩
  · rw [cell_of_row _ _ 0 _ _ _ h]; rfl
  · rw [cell_of_row _ _ 1 _ _ _ h]; rfl
  · rw [cell_of_row _ _ 2 _ _ _ h]; rfl
  · rw [cell_of_row _ _ 3 _ _ _ h]; rfl
  · rw [cell_of_row _ _ 4 _ _ _ h]; rfl
  · rw [cell_of_row _ _ 5 _ _ _ h]; rfl
  all_goals simp [World.frozen?, h]
/-- a sink's six cells, written one by one -/
abbrev set6 (W : World) (b : Nat) (u0 u1 u2 u3 u4 u5 : Value) : World := (((((W.setCell ⟨b, 0, none⟩ u0).setCell ⟨b, 1, none⟩ u1).setCell ⟨b, 2, none⟩ u2).setCell ⟨b, 3, none⟩ u3).setCell ⟨b, 4, none⟩ u4).setCell ⟨b, 5, none⟩ u5
theorem sn_set {W : World} {b : Nat} {v0 v1 v2 v3 v4 v5 : Value} {T : TypeId} (h : W.heap[b]? = some (.cells #[v0, v1, v2, v3, v4, v5] T (0, 0))) (u0 u1 u2 u3 u4 u5 : Value) :
    (set6 W b u0 u1 u2 u3 u4 u5).heap[b]? = some (.cells #[u0, u1, u2, u3, u4, u5] T (0, 0)) :=
  set_cellsR _ (set_cellsR _ (set_cellsR _ (set_cellsR _ (set_cellsR _ (set_cellsR _ h)))))
theorem sn_setB {w W : World} {B b : Nat} (h : Below B w W) (hb : B ≤ b) (u0 u1 u2 u3 u4 u5 : Value) : Below B w (set6 W b u0 u1 u2 u3 u4 u5) :=
  (((((h.setCell (p := ⟨b, 0, none⟩) hb u0).setCell (p := ⟨b, 1, none⟩) hb u1).setCell (p := ⟨b, 2, none⟩) hb u2).setCell (p := ⟨b, 3, none⟩) hb u3).setCell (p := ⟨b, 4, none⟩) hb u4).setCell (p := ⟨b, 5, none⟩) hb u5
theorem sn_load {W : World} {b : Nat} {v0 v1 v2 v3 v4 v5 : Value} (h : W.heap[b]? = some (.cells #[v0, v1, v2, v3, v4, v5] 27 (0, 0))) : (loadVar 27 ⟨b, 0, none⟩).run Try.prog W = .ok (.agg #[v0, v1, v2, v3, v4, v5]) W :=
  run_loadVar_row (P := Try.prog) W b 27 27 #[v0, v1, v2, v3, v4, v5] (0, 0) _ h Try.underlying27 rfl (by kernel_rfl)
set_option maxRecDepth 20000 in
theorem icountok_any (n : Int) (w : World) : Calls Try.prog 55 #[.int .i64 n] w fun e w' => e = .returned (.bool (cntOk n)) ∧ w' = w := by
  have e : cntOk n = (decide (0 ≤ n) && decide (n ≤ 1000000000)) := rfl
  rw [e]
  go_enter Try.func55, Try.ntmps55
  by_cases h1 : 0 ≤ n
  · by_cases h2 : n ≤ 1000000000
    · go_wp2
      go_ret
      simp [h1, h2]
    · go_wp2
      go_ret
      simp [h1, h2]
  · go_wp2
    go_ret
    simp [h1]
    try omega
set_option maxRecDepth 100000 in
set_option maxHeartbeats 2000000 in
theorem isinkok_any (s : Snk) (vk vw : Value) (w : World) (hk : rdAt w vk s.known) (hw : cdAv w none vw s.wait) (hsk : s.known.length ≤ 1048576) (hsw : s.wait.length ≤ 1048576) (hx : ∀ x ∈ s.wait, x.1.length ≤ 1048576) :
    Calls Try.prog 14 #[snV s vk vw] w fun e w' => e = .returned (.bool (sinkOkB s)) ∧ Below w.heap.size w w' := by
  obtain ⟨mo, kn, wa, sa, lo, ba⟩ := s
  dsimp only at *
  have hb := (Below.refl w.heap.size w).alloc (Nat.le_refl _) (.cells #[.int .i64 mo, vk, vw, .int .i64 sa, .int .i64 lo, .int .i64 ba] 27)
  have HX := Lib.hid (heap_alloc_new w (.cells #[.int .i64 mo, vk, vw, .int .i64 sa, .int .i64 lo, .int .i64 ba] 27))
  have HB := Lib.hid hb
  have HR := Lib.hid (fun wx (hbx : Below w.heap.size w wx) => ireadingsok_any vk kn wx (rdAt_below hk hbx) (by omega))
  have HW := Lib.hid (fun wx (hbx : Below w.heap.size w wx) (hok : rdsOkR kn = true) => iwaitok_any vw wa vk kn wx (cdAv_below hw hbx) (rdAt_below hk hbx) (by omega) hsk hok hx)
  obtain ⟨ak, ck, rfl, -, -⟩ := hk
  obtain ⟨aw, cw, rfl, -, -⟩ := hw
  have HS := Lib.hid (show ∀ b : Bool, (SnkP ⟨mo, kn, wa, sa, lo, ba⟩ ↔ b = true) → sinkOkB ⟨mo, kn, wa, sa, lo, ba⟩ = b from fun b h => by
    unfold sinkOkB
    by_cases hp : SnkP ⟨mo, kn, wa, sa, lo, ba⟩
    · rw [decide_eq_true hp, h.1 hp]
    · rw [decide_eq_false hp]
      cases b with
      | false => rfl
      | true => exact absurd (h.2 rfl) hp)
  clear hb
  rw [snV_eq]
  unfold snC
  dsimp only
  by_cases a1 : mo < 0
  · have HF := Lib.hid (HS.out false ⟨fun h => (by have h9 := h.most; dsimp only at h9; omega), fun h => (by cases h)⟩)
    go_enter Try.func14, Try.ntmps14
    go_upto_region 1 with (fail)
    generalize w.alloc (.cells #[.int .i64 mo, .slice ak kn.length ck, .slice aw wa.length cw, .int .i64 sa, .int .i64 lo, .int .i64 ba] 27) = W at *
    obtain ⟨⟨x0, x1, x2, x3, x4, x5⟩, -⟩ := row6_of HX.out
    go_wp2
    go_ret
    exact ⟨by rw [HF.out]; rfl, HB.out⟩
  by_cases a2 : 12 < mo
  · have HF := Lib.hid (HS.out false ⟨fun h => (by have h9 := h.most; dsimp only at h9; omega), fun h => (by cases h)⟩)
    go_enter Try.func14, Try.ntmps14
    go_upto_region 1 with (fail)
    generalize w.alloc (.cells #[.int .i64 mo, .slice ak kn.length ck, .slice aw wa.length cw, .int .i64 sa, .int .i64 lo, .int .i64 ba] 27) = W at *
    obtain ⟨⟨x0, x1, x2, x3, x4, x5⟩, -⟩ := row6_of HX.out
    go_wp2
    go_ret
    exact ⟨by rw [HF.out]; rfl, HB.out⟩
  cases c1 : cntOk sa with
  | false =>
    have C1 := Lib.hid c1
    have HF := Lib.hid (HS.out false ⟨fun h => (by have h9 := h.same; dsimp only at h9; rw [c1] at h9; cases h9), fun h => (by cases h)⟩)
    clear c1
    go_enter Try.func14, Try.ntmps14
    go_upto_region 1 with (fail)
    generalize w.alloc (.cells #[.int .i64 mo, .slice ak kn.length ck, .slice aw wa.length cw, .int .i64 sa, .int .i64 lo, .int .i64 ba] 27) = W at *
    obtain ⟨⟨x0, x1, x2, x3, x4, x5⟩, -⟩ := row6_of HX.out
    go_wp2_with fail
    refine (icountok_any _ _).mono ?_
    rintro e w2 ⟨rfl, rfl⟩
    rw [C1.out]
    go_wp2
    go_ret
    exact ⟨by rw [HF.out]; rfl, HB.out⟩
  | true =>
    have C1 := Lib.hid c1
    clear c1
    cases c2 : cntOk lo with
    | false =>
      have C2 := Lib.hid c2
      have HF := Lib.hid (HS.out false ⟨fun h => (by have h9 := h.lost; dsimp only at h9; rw [c2] at h9; cases h9), fun h => (by cases h)⟩)
      clear c2
      go_enter Try.func14, Try.ntmps14
      go_upto_region 1 with (fail)
      generalize w.alloc (.cells #[.int .i64 mo, .slice ak kn.length ck, .slice aw wa.length cw, .int .i64 sa, .int .i64 lo, .int .i64 ba] 27) = W at *
      obtain ⟨⟨x0, x1, x2, x3, x4, x5⟩, -⟩ := row6_of HX.out
      go_wp2_with fail
      refine (icountok_any _ _).mono ?_
      rintro e w2 ⟨rfl, rfl⟩
      rw [C1.out]
      go_wp2_with fail
      refine (icountok_any _ _).mono ?_
      rintro e w3 ⟨rfl, rfl⟩
      rw [C2.out]
      go_wp2
      go_ret
      exact ⟨by rw [HF.out]; rfl, HB.out⟩
    | true =>
      have C2 := Lib.hid c2
      clear c2
      cases c3 : cntOk ba with
      | false =>
        have C3 := Lib.hid c3
        have HF := Lib.hid (HS.out false ⟨fun h => (by have h9 := h.bad; dsimp only at h9; rw [c3] at h9; cases h9), fun h => (by cases h)⟩)
        clear c3
        go_enter Try.func14, Try.ntmps14
        go_upto_region 1 with (fail)
        generalize w.alloc (.cells #[.int .i64 mo, .slice ak kn.length ck, .slice aw wa.length cw, .int .i64 sa, .int .i64 lo, .int .i64 ba] 27) = W at *
        obtain ⟨⟨x0, x1, x2, x3, x4, x5⟩, -⟩ := row6_of HX.out
        go_wp2_with fail
        refine (icountok_any _ _).mono ?_
        rintro e w2 ⟨rfl, rfl⟩
        rw [C1.out]
        go_wp2_with fail
        refine (icountok_any _ _).mono ?_
        rintro e w3 ⟨rfl, rfl⟩
        rw [C2.out]
        go_wp2_with fail
        refine (icountok_any _ _).mono ?_
        rintro e w4 ⟨rfl, rfl⟩
        rw [C3.out]
        go_wp2
        go_ret
        exact ⟨by rw [HF.out]; rfl, HB.out⟩
      | true =>
        have C3 := Lib.hid c3
        clear c3
        cases c4 : rdsOkR kn with
        | false =>
          have C4 := Lib.hid c4
          have HF := Lib.hid (HS.out false ⟨fun h => (by have h9 := h.known; dsimp only at h9; rw [c4] at h9; cases h9), fun h => (by cases h)⟩)
          clear c4
          go_enter Try.func14, Try.ntmps14
          go_upto_region 1 with (fail)
          generalize w.alloc (.cells #[.int .i64 mo, .slice ak kn.length ck, .slice aw wa.length cw, .int .i64 sa, .int .i64 lo, .int .i64 ba] 27) = W at *
          obtain ⟨⟨x0, x1, x2, x3, x4, x5⟩, -⟩ := row6_of HX.out
          go_wp2_with fail
          refine (icountok_any _ _).mono ?_
          rintro e w2 ⟨rfl, rfl⟩
          rw [C1.out]
          go_wp2_with fail
          refine (icountok_any _ _).mono ?_
          rintro e w3 ⟨rfl, rfl⟩
          rw [C2.out]
          go_wp2_with fail
          refine (icountok_any _ _).mono ?_
          rintro e w4 ⟨rfl, rfl⟩
          rw [C3.out]
          go_wp2_with fail
          refine (HR.out _ HB.out).mono ?_
          rintro e w7 ⟨rfl, hb7⟩
          rw [C4.out]
          have HB7 := Lib.hid (HB.out.trans (hb7.mono HB.out.size))
          obtain ⟨⟨x0, x1, x2, x3, x4, x5⟩, -⟩ := row6_of ((hb7.block _ (Array.getElem?_eq_some_iff.1 HX.out).1).trans HX.out)
          clear hb7
          go_wp2
          go_ret
          exact ⟨by rw [HF.out]; rfl, HB7.out⟩
        | true =>
          have C4 := Lib.hid c4
          clear c4
          by_cases a5 : (wa.length : Int) ≤ mo
          · have A5 := Lib.hid a5
            have HF := Lib.hid (HS.out (decide (WaitP kn wa)) ⟨fun h => decide_eq_true h.wait, fun h => ⟨⟨by dsimp only; omega, by dsimp only; omega⟩, C4.out, A5.out, C1.out, C2.out, C3.out, of_decide_eq_true h⟩⟩)
            go_enter Try.func14, Try.ntmps14
            go_upto_region 1 with (fail)
            generalize w.alloc (.cells #[.int .i64 mo, .slice ak kn.length ck, .slice aw wa.length cw, .int .i64 sa, .int .i64 lo, .int .i64 ba] 27) = W at *
            obtain ⟨⟨x0, x1, x2, x3, x4, x5⟩, -⟩ := row6_of HX.out
            go_wp2_with fail
            refine (icountok_any _ _).mono ?_
            rintro e w2 ⟨rfl, rfl⟩
            rw [C1.out]
            go_wp2_with fail
            refine (icountok_any _ _).mono ?_
            rintro e w3 ⟨rfl, rfl⟩
            rw [C2.out]
            go_wp2_with fail
            refine (icountok_any _ _).mono ?_
            rintro e w4 ⟨rfl, rfl⟩
            rw [C3.out]
            go_wp2_with fail
            refine (HR.out _ HB.out).mono ?_
            rintro e w7 ⟨rfl, hb7⟩
            rw [C4.out]
            have HB7 := Lib.hid (HB.out.trans (hb7.mono HB.out.size))
            obtain ⟨⟨x0, x1, x2, x3, x4, x5⟩, -⟩ := row6_of ((hb7.block _ (Array.getElem?_eq_some_iff.1 HX.out).1).trans HX.out)
            clear hb7
            go_wp2_with fail
            refine (HW.out _ HB7.out C4.out).mono ?_
            rintro e w8 ⟨rfl, hb8⟩
            have HB8 := Lib.hid (HB7.out.trans (hb8.mono HB7.out.size))
            clear hb8
            go_wp2
            go_ret
            exact ⟨by rw [HF.out]; rfl, HB8.out⟩
          · have HF := Lib.hid (HS.out false ⟨fun h => (by have h9 := h.room; exact absurd h9 a5), fun h => (by cases h)⟩)
            go_enter Try.func14, Try.ntmps14
            go_upto_region 1 with (fail)
            generalize w.alloc (.cells #[.int .i64 mo, .slice ak kn.length ck, .slice aw wa.length cw, .int .i64 sa, .int .i64 lo, .int .i64 ba] 27) = W at *
            obtain ⟨⟨x0, x1, x2, x3, x4, x5⟩, -⟩ := row6_of HX.out
            go_wp2_with fail
            refine (icountok_any _ _).mono ?_
            rintro e w2 ⟨rfl, rfl⟩
            rw [C1.out]
            go_wp2_with fail
            refine (icountok_any _ _).mono ?_
            rintro e w3 ⟨rfl, rfl⟩
            rw [C2.out]
            go_wp2_with fail
            refine (icountok_any _ _).mono ?_
            rintro e w4 ⟨rfl, rfl⟩
            rw [C3.out]
            go_wp2_with fail
            refine (HR.out _ HB.out).mono ?_
            rintro e w7 ⟨rfl, hb7⟩
            rw [C4.out]
            have HB7 := Lib.hid (HB.out.trans (hb7.mono HB.out.size))
            obtain ⟨⟨x0, x1, x2, x3, x4, x5⟩, -⟩ := row6_of ((hb7.block _ (Array.getElem?_eq_some_iff.1 HX.out).1).trans HX.out)
            clear hb7
            go_wp2
            go_ret
            exact ⟨by rw [HF.out]; rfl, HB7.out⟩
set_option maxRecDepth 100000 in
set_option maxHeartbeats 1000000 in
theorem inewsink_any (n : Int) (w : World) : Calls Try.prog 21 #[.int .i64 n] w fun e w' => e = .returned (snV (newM n) (.slice none 0 0) (.slice none 0 0)) ∧ Below w.heap.size w w' := by
  have hb0 := (Below.refl w.heap.size w).alloc (Nat.le_refl _) (.cells #[.int .i64 0, .slice none 0 0, .slice none 0 0, .int .i64 0, .int .i64 0, .int .i64 0] 27)
  have hb1 := hb0.alloc hb0.size (.cells #[.int .i64 n, .slice none 0 0, .slice none 0 0, .int .i64 0, .int .i64 0, .int .i64 0] 27)
  have hx := heap_alloc_new (w.alloc (.cells #[.int .i64 0, .slice none 0 0, .slice none 0 0, .int .i64 0, .int .i64 0, .int .i64 0] 27)) (.cells #[.int .i64 n, .slice none 0 0, .slice none 0 0, .int .i64 0, .int .i64 0, .int .i64 0] 27)
  rw [show (w.alloc (.cells #[.int .i64 0, .slice none 0 0, .slice none 0 0, .int .i64 0, .int .i64 0, .int .i64 0] 27)).heap.size = w.heap.size + 1 by simp] at hx
  have HX := Lib.hid hx
  have HR := Lib.hid (heap_first w (.cells #[.int .i64 n, .slice none 0 0, .slice none 0 0, .int .i64 0, .int .i64 0, .int .i64 0] 27) (.cells #[.int .i64 0, .slice none 0 0, .slice none 0 0, .int .i64 0, .int .i64 0, .int .i64 0] 27))
  have HB := Lib.hid hb1
  have HS := Lib.hid (fun wx => isinkok_any ⟨n, [], [], 0, 0, 0⟩ (.slice none 0 0) (.slice none 0 0) wx ⟨none, 0, rfl, Nat.le_refl _, .inl rfl⟩ ⟨none, 0, rfl, Nat.le_refl _, .inl rfl⟩ (by simp) (by simp) (fun x hx => by cases hx))
  have hm : sinkOkB ⟨n, [], [], 0, 0, 0⟩ = decide (0 ≤ n ∧ n ≤ 12) := by
    unfold sinkOkB
    by_cases h : 0 ≤ n ∧ n ≤ 12
    · rw [decide_eq_true h]
      exact decide_eq_true ⟨h, rfl, by simpa using h.1, rfl, rfl, rfl, WaitP.nil _⟩
    · rw [decide_eq_false h]
      exact decide_eq_false fun hp => h hp.most
  unfold snV at HS
  dsimp only at HS
  clear hb0 hb1 hx
  go_enter Try.func21, Try.ntmps21
  go_upto_region 2 with (fail)
  generalize (w.alloc (.cells #[.int .i64 0, .slice none 0 0, .slice none 0 0, .int .i64 0, .int .i64 0, .int .i64 0] 27)).alloc (.cells #[.int .i64 n, .slice none 0 0, .slice none 0 0, .int .i64 0, .int .i64 0, .int .i64 0] 27) = W at *
  obtain ⟨⟨x0, x1, x2, x3, x4, x5⟩, -⟩ := row6_of HX.out
  go_wp2_with fail
  refine (HS.out _).mono ?_
  rintro e w2 ⟨rfl, hb2⟩
  rw [hm]
  have hr2 := (hb2.block _ (Array.getElem?_eq_some_iff.1 HR.out).1).trans HR.out
  have hx2 := (hb2.block _ (Array.getElem?_eq_some_iff.1 HX.out).1).trans HX.out
  have HB2 := Lib.hid (HB.out.trans (hb2.mono HB.out.size))
  have HN := Lib.hid (show newM n = if 0 ≤ n ∧ n ≤ 12 then ⟨n, [], [], 0, 0, 0⟩ else noSnk from rfl)
  clear x0 x1 x2 x3 x4 x5 hb2 hm HS
  obtain ⟨⟨x0, x1, x2, x3, x4, x5⟩, -⟩ := row6_of hx2
  obtain ⟨⟨y0, y1, y2, y3, y4, y5⟩, f0, f1, f2, f3, f4, f5⟩ := row6_of hr2
  by_cases hn : 0 ≤ n ∧ n ≤ 12
  · rw [decide_eq_true hn]
    have HFV := Lib.hid (show newM n = ⟨n, [], [], 0, 0, 0⟩ by rw [HN.out, if_pos hn])
    clear hn HN
    have HF := Lib.hid (sn_set hr2 (.int .i64 n) (.slice none 0 0) (.slice none 0 0) (.int .i64 0) (.int .i64 0) (.int .i64 0))
    have HBF := Lib.hid (sn_setB HB2.out (Nat.le_refl _) (.int .i64 n) (.slice none 0 0) (.slice none 0 0) (.int .i64 0) (.int .i64 0) (.int .i64 0))
    clear hr2 hx2
    go_wp2
    refine bodyPost_ret (v := snV ⟨n, [], [], 0, 0, 0⟩ (.slice none 0 0) (.slice none 0 0)) ?_ rfl ⟨by rw [HFV.out], HBF.out⟩
    rw [results_cell (p := 2) (ty := 27) (by kernel_rfl)]
    have l2 := sn_load HF.out
    simp [asAddr, Result.andThen, l2, snV]
  · rw [decide_eq_false hn]
    have HFV := Lib.hid (show newM n = noSnk by rw [HN.out, if_neg hn])
    clear hn HN
    have HF := Lib.hid (sn_set hr2 (.int .i64 0) (.slice none 0 0) (.slice none 0 0) (.int .i64 0) (.int .i64 0) (.int .i64 0))
    have HBF := Lib.hid (sn_setB HB2.out (Nat.le_refl _) (.int .i64 0) (.slice none 0 0) (.slice none 0 0) (.int .i64 0) (.int .i64 0) (.int .i64 0))
    clear hr2 hx2
    go_wp2
    refine bodyPost_ret (v := snV noSnk (.slice none 0 0) (.slice none 0 0)) ?_ rfl ⟨by rw [HFV.out], HBF.out⟩
    rw [results_cell (p := 2) (ty := 27) (by kernel_rfl)]
    have l2 := sn_load HF.out
    simp [asAddr, Result.andThen, l2, snV, noSnk]
end Go.Proofs.Ytfohmhigidgfhaa
namespace Go.Proofs.Ytfohmhigidgfhaa
open Go.ChangeShapes Go.WideShapes Go.ChangeAt Go.RowKit Go.Deep
set_option linter.unusedVariables false

theorem keys_cells {H : Type} {enc : TypeId × Value → H} {W : World} {base : Nat} {sp : Nat → Bool} {held : Bool} {n : Nat} {cs : List Value} {y : DataW H × List MemPlace}
    (h : DataW.trod enc Try.prog W base sp held n 59 cs = some y) : ∃ (v : Value) (ks : List K2), cs = [v] ∧ keysAt W v ks ∧ ks.length ≤ maxLen := by
  rcases open_slice_pairs Try.underlying59 Try.underlying145 (by kernel_rfl) rfl rfl (by kernel_rfl) (by kernel_rfl) h with ⟨hcs, -⟩ | ⟨x, len, cap, m, n, V0, V1, D0, D1, P0, P1, hcs, -, hl, hm, hmm, -, hx⟩
  · exact ⟨_, [], hcs, ⟨none, 0, rfl, by simp, .inl rfl⟩, by simp⟩
  · have hmc : len ≤ m := by
      rw [hmm]
      split <;> omega
    have hev : ∀ i, i < len → ∃ k : K2, W.cell? (x.add (i * 2)) = some (.int .i64 k.1) ∧ W.cell? (x.add (i * 2 + 1)) = some (.int .i64 k.2) := by
      intro i hi
      obtain ⟨h0, h1, t0, t1⟩ := hx i (by omega)
      obtain ⟨z0, e0, -, -⟩ := DataW.trod_int Try.underlying3 t0
      obtain ⟨z1, e1, -, -⟩ := DataW.trod_int Try.underlying3 t1
      have e0 : V0 i = .int .i64 z0 := (List.cons.inj e0).1
      have e1 : V1 i = .int .i64 z1 := (List.cons.inj e1).1
      exact ⟨(z0, z1), by rw [h0, e0], by rw [h1, e1]⟩
    obtain ⟨f, hf2⟩ := choose_lt hev
    refine ⟨_, (List.range len).map f, hcs, ⟨some x, cap, by simp, by simpa using hl, ?_⟩, by simp; omega⟩
    simp only [List.length_map, List.length_range]
    rcases Nat.eq_zero_or_pos len with h0 | h0
    · exact .inl h0
    · obtain ⟨b, off, spot⟩ := x
      have hc := (hf2 0 h0).1
      have hs : spot = none := by simpa [Addr.add] using World.cell?_spot hc
      subst hs
      have hadd : ∀ j, (⟨b, off, none⟩ : Addr).add j = ⟨b, off + j, none⟩ := by
        intro j
        unfold Addr.add
        split
        · rename_i h; simp [h]
        · rfl
      refine .inr ⟨b, off, rfl, World.block_lt_of_cell? W ⟨b, off, none⟩ (by simpa [Addr.add] using hc), fun i hi => ?_⟩
      have e : ((List.range len).map f).getD i (0, 0) = f i := by simp [List.getD, hi]
      have := hf2 i hi
      rw [hadd, hadd] at this
      rw [e]
      exact this
set_option maxRecDepth 10000 in
theorem cd_cells_read {H : Type} {enc : TypeId × Value → H} {W : World} {base : Nat} {sp : Nat → Bool} {held : Bool} {n : Nat} {cs : List Value} {x : DataW H × List MemPlace} (hl : cs.length = 2)
    (h : DataW.trod enc Try.prog W base sp held n 61 cs = some x) : ∃ (v : Value) (ks : List K2) (y : ByteArray), cs = [v, .string y] ∧ keysAt W v ks ∧ ks.length ≤ maxLen ∧ y.size ≤ maxLen := by
  have c0 : Try.prog.cellsOf 59 = 1 := by kernel_rfl
  have c1 : Try.prog.cellsOf 9 = 1 := by kernel_rfl
  match cs, hl with
  | [a, b], _ =>
    obtain ⟨xs, k, hk, hxy, _, hxl, hf⟩ := DataW.trod_struct Try.underlying61 h
    match xs, hxl with
    | [y0, y1], _ =>
      have g0 := hf 0 _ rfl
      have g1 := hf 1 _ rfl
      simp [c0, c1] at g0 g1
      obtain ⟨v, ks, hv, hks, hkl⟩ := keys_cells g0
      obtain ⟨s, e2, -, hs⟩ := DataW.trod_string Try.underlying9 g1
      cases hv; cases e2
      exact ⟨_, ks, s, rfl, hks, hkl, hs⟩
end Go.Proofs.Ytfohmhigidgfhaa
namespace Go.Proofs.Ytfohmhigidgfhaa
open Go.ChangeShapes Go.WideShapes Go.ChangeAt Go.RowKit Go.Deep
set_option linter.unusedVariables false

set_option maxRecDepth 20000 in
theorem rd_cells_read {H : Type} {enc : TypeId × Value → H} {W : World} {base : Nat} {sp : Nat → Bool} {held : Bool} {n : Nat} {cs : List Value} {x : DataW H × List MemPlace} (hl : cs.length = 3)
    (h : DataW.trod enc Try.prog W base sp held n 147 cs = some x) : ∃ r : R3, cs = [.int .i64 r.1.1, .int .i64 r.1.2, .string r.2] ∧ r.2.size ≤ maxLen := by
  have c0 : Try.prog.cellsOf 145 = 2 := by kernel_rfl
  have c1 : Try.prog.cellsOf 9 = 1 := by kernel_rfl
  have c2 : Try.prog.cellsOf 3 = 1 := by kernel_rfl
  match cs, hl with
  | [a, b, c], _ =>
    obtain ⟨xs, k, hk, hxy, _, hxl, hf⟩ := DataW.trod_struct Try.underlying147 h
    match xs, hxl with
    | [y0, y1], _ =>
      have g0 := hf 0 _ rfl
      have g1 := hf 1 _ rfl
      simp [c0, c1] at g0 g1
      obtain ⟨zs, k2, hk2, hzy, _, hzl, hg⟩ := DataW.trod_struct Try.underlying145 g0
      match zs, hzl with
      | [u0, u1], _ =>
        have i0 := hg 0 _ rfl
        have i1 := hg 1 _ rfl
        simp [c2] at i0 i1
        obtain ⟨z0, e0, -, -⟩ := DataW.trod_int Try.underlying3 i0
        obtain ⟨z1, e1, -, -⟩ := DataW.trod_int Try.underlying3 i1
        obtain ⟨s, e2, -, hs⟩ := DataW.trod_string Try.underlying9 g1
        cases e0; cases e1; cases e2
        exact ⟨((z0, z1), s), rfl, hs⟩
end Go.Proofs.Ytfohmhigidgfhaa
namespace Go.Proofs.Ytfohmhigidgfhaa
open Go.ChangeShapes Go.WideShapes Go.ChangeAt Go.RowKit Go.Deep
set_option linter.unusedVariables false

set_option maxRecDepth 20000 in
theorem cds_cells {H : Type} {enc : TypeId × Value → H} {W : World} {base : Nat} {sp : Nat → Bool} {held : Bool} {nn : Nat} {cs : List Value} {yy : DataW H × List MemPlace}
    (hf : DataW.trod enc Try.prog W base sp held nn 51 cs = some yy) : ∃ (v : Value) (L : List C2), cs = [v] ∧ cdAv W none v L ∧ L.length ≤ maxLen ∧ ∀ x ∈ L, x.1.length ≤ maxLen ∧ x.2.size ≤ maxLen := by
  have hC : Try.prog.cellsOf 61 = 2 := by kernel_rfl
  rcases open_slice Try.underlying51 hf with ⟨hcs, -⟩ | ⟨x, len, cap, m, n, D, Pl, hcs, -, hl, hm, hmm, -, hx⟩
  · exact ⟨_, [], hcs, ⟨none, 0, rfl, by simp, .inl rfl⟩, by simp, fun x hx => by simp at hx⟩
  · have hmc : len ≤ m := by
      rw [hmm]
      split <;> omega
    have hev : ∀ i, i < len → ∃ q : Value × C2, (W.cell? (x.add (i * 2)) = some q.1 ∧ W.cell? (x.add (i * 2 + 1)) = some (.string q.2.2) ∧ keysAt W q.1 q.2.1) ∧ q.2.1.length ≤ maxLen ∧ q.2.2.size ≤ maxLen := by
      intro i hi
      obtain ⟨cs', h1, h2⟩ := hx i (by omega)
      rw [hC] at h1
      obtain ⟨_, hlen, hcell⟩ := World.cells?_some h1
      obtain ⟨u, ks, y, rfl, hk, hl2, hs⟩ := cd_cells_read hlen h2
      have e0 := hcell 0 (by omega)
      have e1 := hcell 1 (by omega)
      rw [add_add] at e0 e1
      exact ⟨(u, (ks, y)), ⟨by simpa using e0, by simpa using e1, hk⟩, hl2, hs⟩
    obtain ⟨f, hf2⟩ := choose_lt hev
    have hfd : ∀ i, i < len → ((List.range len).map fun i => (f i).2).getD i blankC = (f i).2 := fun i hi => by simp [List.getD, hi]
    refine ⟨_, (List.range len).map fun i => (f i).2, hcs, ⟨some x, cap, by simp, by simpa using hl, ?_⟩, by simp; omega, fun y hy => ?_⟩
    · simp only [List.length_map, List.length_range]
      rcases Nat.eq_zero_or_pos len with h0 | h0
      · exact .inl h0
      · obtain ⟨b, off, spot⟩ := x
        have hc := (hf2 0 h0).1.1
        have hs : spot = none := by simpa [Addr.add] using World.cell?_spot hc
        subst hs
        have hadd : ∀ j, (⟨b, off, none⟩ : Addr).add j = ⟨b, off + j, none⟩ := by
          intro j
          unfold Addr.add
          split
          · rename_i h; simp [h]
          · rfl
        refine .inr ⟨b, off, rfl, World.block_lt_of_cell? W ⟨b, off, none⟩ (by simpa [Addr.add] using hc), fun i hi => ?_⟩
        have := (hf2 i hi).1
        rw [hadd, hadd] at this
        rw [hfd i hi]
        exact ⟨(f i).1, this.1, this.2.1, keysAv_of this.2.2 fun g _ e => by cases e⟩
    · obtain ⟨j, hj, rfl⟩ := List.mem_map.1 hy
      exact (hf2 j (List.mem_range.1 hj)).2
set_option maxRecDepth 20000 in
theorem rds_cells {H : Type} {enc : TypeId × Value → H} {W : World} {base : Nat} {sp : Nat → Bool} {held : Bool} {nn : Nat} {cs : List Value} {yy : DataW H × List MemPlace}
    (hf : DataW.trod enc Try.prog W base sp held nn 50 cs = some yy) : ∃ (v : Value) (rs : List R3), cs = [v] ∧ rdAt W v rs ∧ rs.length ≤ maxLen ∧ ∀ j, j < rs.length → (rs.getD j r0).2.size ≤ maxLen := by
  have hC : Try.prog.cellsOf 147 = 3 := by kernel_rfl
  rcases open_slice Try.underlying50 hf with ⟨hcs, -⟩ | ⟨x, len, cap, m, n, D, Pl, hcs, -, hl, hm, hmm, -, hx⟩
  · exact ⟨_, [], hcs, ⟨none, 0, rfl, by simp, .inl rfl⟩, by simp, fun j hj => by simp at hj⟩
  · have hmc : len ≤ m := by
      rw [hmm]
      split <;> omega
    have hev : ∀ i, i < len → ∃ q : R3, (W.cell? (x.add (i * 3)) = some (.int .i64 q.1.1) ∧ W.cell? (x.add (i * 3 + 1)) = some (.int .i64 q.1.2) ∧ W.cell? (x.add (i * 3 + 2)) = some (.string q.2)) ∧ q.2.size ≤ maxLen := by
      intro i hi
      obtain ⟨cs', h1, h2⟩ := hx i (by omega)
      rw [hC] at h1
      obtain ⟨_, hlen, hcell⟩ := World.cells?_some h1
      obtain ⟨q, rfl, hs⟩ := rd_cells_read hlen h2
      have e0 := hcell 0 (by omega)
      have e1 := hcell 1 (by omega)
      have e2 := hcell 2 (by omega)
      rw [add_add] at e0 e1 e2
      exact ⟨q, ⟨by simpa using e0, by simpa using e1, by simpa using e2⟩, hs⟩
    obtain ⟨f, hf2⟩ := choose_lt hev
    have hfd : ∀ i, i < len → ((List.range len).map f).getD i r0 = f i := fun i hi => by simp [List.getD, hi]
    refine ⟨_, (List.range len).map f, hcs, ⟨some x, cap, by simp, by simpa using hl, ?_⟩, by simp; omega, fun j hj => ?_⟩
    · simp only [List.length_map, List.length_range]
      rcases Nat.eq_zero_or_pos len with h0 | h0
      · exact .inl h0
      · obtain ⟨b, off, spot⟩ := x
        have hc := (hf2 0 h0).1.1
        have hs : spot = none := by simpa [Addr.add] using World.cell?_spot hc
        subst hs
        have hadd : ∀ j, (⟨b, off, none⟩ : Addr).add j = ⟨b, off + j, none⟩ := by
          intro j
          unfold Addr.add
          split
          · rename_i h; simp [h]
          · rfl
        refine .inr ⟨b, off, rfl, World.block_lt_of_cell? W ⟨b, off, none⟩ (by simpa [Addr.add] using hc), fun i hi => ?_⟩
        have := (hf2 i hi).1
        rw [hadd, hadd, hadd] at this
        rw [hfd i hi]
        exact this
    · have hj2 : j < len := by simpa using hj
      rw [hfd j hj2]
      exact (hf2 j hj2).2
/-- what a sink that came in is -/
structure SnIn (w : World) (s : Snk) (vk vw : Value) : Prop where
  known : rdAt w vk s.known
  wait : cdAv w none vw s.wait
  nk : s.known.length ≤ maxLen
  xk : ∀ j, j < s.known.length → (s.known.getD j r0).2.size ≤ maxLen
  nw : s.wait.length ≤ maxLen
  xw : ∀ x ∈ s.wait, x.1.length ≤ maxLen ∧ x.2.size ≤ maxLen
  most : (Lit.int .i64 s.most).wf = true
  same : (Lit.int .i64 s.same).wf = true
  lost : (Lit.int .i64 s.lost).wf = true
  bad : (Lit.int .i64 s.bad).wf = true
set_option maxRecDepth 20000 in
theorem open_sink {H : Type} {enc : TypeId × Value → H} {W : World} {r : Reach} {b0 : Nat} {v : Value} {d : DataW H} {p : List MemPlace} (hv : Value.okWide Try.prog W r b0 53 v) (h : DataW.Trod enc Try.prog W 0 (fun _ => true) true 53 v d p) :
    ∃ (s : Snk) (vk vw : Value), v = snV s vk vw ∧ SnIn W s vk vw := by
  obtain ⟨cs, rfl, hsz⟩ := okWide_struct Try.underlying53 hv
  have hC : Try.prog.cellsOf 53 = 6 := by kernel_rfl
  have c0 : Try.prog.cellsOf 50 = 1 := by kernel_rfl
  have c1 : Try.prog.cellsOf 51 = 1 := by kernel_rfl
  have c2 : Try.prog.cellsOf 3 = 1 := by kernel_rfl
  obtain ⟨fuel, hf⟩ := h
  have hl6 : cs.toList.length = 6 := by simpa [Value.cells] using hsz.trans hC
  simp only [Value.cells] at hf
  generalize hcl : cs.toList = l at *
  match l, hl6 with
  | [a0, a1, a2, a3, a4, a5], _ =>
    obtain ⟨xs, k, hk, hxy, _, hxl, hg⟩ := DataW.trod_struct Try.underlying53 hf
    match xs, hxl with
    | [y0, y1, y2, y3, y4, y5], _ =>
      have g0 := hg 0 _ rfl
      have g1 := hg 1 _ rfl
      have g2 := hg 2 _ rfl
      have g3 := hg 3 _ rfl
      have g4 := hg 4 _ rfl
      have g5 := hg 5 _ rfl
      simp [c0, c1, c2] at g0 g1 g2 g3 g4 g5
      obtain ⟨z0, e0, -, f0⟩ := DataW.trod_int Try.underlying3 g0
      obtain ⟨vk, rs, e1, r1, r2, r3⟩ := rds_cells g1
      obtain ⟨vw, L, e2, l1, l2, l3⟩ := cds_cells g2
      obtain ⟨z3, e3, -, f3⟩ := DataW.trod_int Try.underlying3 g3
      obtain ⟨z4, e4, -, f4⟩ := DataW.trod_int Try.underlying3 g4
      obtain ⟨z5, e5, -, f5⟩ := DataW.trod_int Try.underlying3 g5
      cases e0; cases e1; cases e2; cases e3; cases e4; cases e5
      refine ⟨⟨z0, rs, L, z3, z4, z5⟩, a1, a2, ?_, ⟨r1, l1, r2, r3, l2, l3, f0, f3, f4, f5⟩⟩
      rw [← Array.toArray_toList (xs := cs), hcl]
      rfl
end Go.Proofs.Ytfohmhigidgfhaa
namespace Go.Proofs.Ytfohmhigidgfhaa
open Go.ChangeShapes Go.WideShapes Go.ChangeAt Go.RowKit Go.BigFrame
set_option linter.unusedVariables false
set_option linter.unusedSimpArgs false

theorem rd_shape {w : World} {v : Value} {rs : List R3} (h : rdAt w v rs) : ∃ a c, v = .slice a rs.length c := by
  obtain ⟨a, c, rfl, -⟩ := h
  exact ⟨a, c, rfl⟩
set_option maxRecDepth 100000 in
set_option maxHeartbeats 1000000 in
theorem szsink_any (s : Snk) (vk vw : Value) (left : Int) (w : World) (h : SnIn w s vk vw) (hl : 0 ≤ left ∧ left ≤ 1000000000) :
    Calls Try.prog 25 #[snV s vk vw, .int .i64 left] w fun e w' => ∃ z : Int, e = .returned (.int .i64 z) ∧ (z < 0 ∨ ((s.known.length : Int) ≤ left ∧ (∀ j, j < s.known.length → ((s.known.getD j r0).2.size : Int) ≤ left) ∧ (s.wait.length : Int) ≤ left ∧ (∀ x ∈ s.wait, (x.1.length : Int) ≤ left ∧ (x.2.size : Int) ≤ left) ∧ szK s.wait ≤ 2 * (left - (s.known.length : Int)))) ∧ Below w.heap.size w w' := by
  obtain ⟨h1, h2, h3, h4, h5, h6, -, -, -, -⟩ := h
  obtain ⟨mo, kn, wa, sa, lo, ba⟩ := s
  dsimp only at *
  have hb := (Below.refl w.heap.size w).alloc (Nat.le_refl _) (.cells #[.int .i64 mo, vk, vw, .int .i64 sa, .int .i64 lo, .int .i64 ba] 53)
  have HX := Lib.hid (heap_alloc_new w (.cells #[.int .i64 mo, vk, vw, .int .i64 sa, .int .i64 lo, .int .i64 ba] 53))
  have HB := Lib.hid hb
  have HS := Lib.hid (fun wx (hb : Below w.heap.size w wx) => szreadings_any vk kn left wx (rdAt_below h1 hb) hl h3 h4)
  have HC := Lib.hid (fun wx m (hb : Below w.heap.size w wx) (hm : 0 ≤ m ∧ m ≤ 1000000000) => szcodes_any vw wa m wx (cdAv_below h2 hb) h5 h6 hm)
  have hvk := rd_shape h1
  obtain ⟨aw, cw, rfl, -, -⟩ := h2
  obtain ⟨ak, ck, rfl⟩ := hvk
  clear hb h1 h3 h4 h5 h6
  rw [snV_eq]
  unfold snC
  dsimp only
  go_enter Try.func25, Try.ntmps25
  go_upto_region 1 with (fail)
  generalize w.alloc (.cells #[.int .i64 mo, .slice ak kn.length ck, .slice aw wa.length cw, .int .i64 sa, .int .i64 lo, .int .i64 ba] 53) = W at *
  obtain ⟨⟨x0, x1, x2, x3, x4, x5⟩, -⟩ := row6_of HX.out
  go_wp2_with fail
  refine (HS.out _ HB.out).mono ?_
  rintro e w2 ⟨m, rfl, hm, hb2⟩
  have HB2 := Lib.hid (HB.out.trans (hb2.mono HB.out.size))
  have hx2 := (hb2.block _ (Array.getElem?_eq_some_iff.1 HX.out).1).trans HX.out
  clear x0 x1 x2 x3 x4 x5 hb2 HS
  obtain ⟨⟨x0, x1, x2, x3, x4, x5⟩, -⟩ := row6_of hx2
  rcases hm with rfl | ⟨m0, m1, m2⟩
  · go_wp2
    go_ret
    exact ⟨-1, rfl, .inl (by omega), HB2.out⟩
  · have n0 : ¬ m < 0 := by omega
    have M2 := Lib.hid m2
    clear m2 hx2
    go_wp2_with fail
    refine (HC.out _ m HB2.out ⟨m0, by omega⟩).mono ?_
    rintro e w3 ⟨z, rfl, hz, hb3⟩
    have HB3 := Lib.hid (HB2.out.trans (hb3.mono HB2.out.size))
    clear hb3 x0 x1 x2 x3 x4 x5
    by_cases hneg : z < 0
    · go_wp2
      go_ret
      exact ⟨-1, rfl, .inl (by omega), HB3.out⟩
    · have hk := szL_ok (L := wa) (l := m) (by omega)
      have hsm := szL_sum (L := wa) (l := m) (by omega)
      have HF := Lib.hid (show (z < 0 ∨ ((kn.length : Int) ≤ left ∧ (∀ j, j < kn.length → ((kn.getD j r0).2.size : Int) ≤ left) ∧ (wa.length : Int) ≤ left ∧ (∀ x ∈ wa, (x.1.length : Int) ≤ left ∧ (x.2.size : Int) ≤ left) ∧ szK wa ≤ 2 * (left - (kn.length : Int)))) from
        .inr ⟨by omega, M2.out, by omega, fun x hx => by have := hk.2 x hx; omega, by omega⟩)
      clear hz hk hsm
      go_wp2
      go_ret
      exact ⟨z, rfl, HF.out, HB3.out⟩
/-- another block is written -/
theorem TcO.other {w W W' : World} {g : Nat} {us : List Value} {L : List C2} {b : Nat} (h : TcO w W g us L) (hg : W.grownBy W' (some b)) (hb : w.heap.size ≤ b) (hlt : b < g) : TcO w W' g us L := by
  refine ⟨h.below.grown hg h.below.size (fun j e => by cases e; exact hb), h.ge, h.len, h.own.kept hg (.inr fun e => by have : g = b := Option.some.inj e; omega), fun i hi => (h.keys i hi).kept hg ?_, h.dist⟩
  cases hv : (us.getD i undef).ownBlock with
  | none => exact .inl rfl
  | some j => exact .inr fun e => by have h1 := ((h.keys i hi).lt j hv).1; have := Option.some.inj e; omega
theorem TcO.rebase {w0 w W : World} {g : Nat} {us : List Value} {L : List C2} (h : TcO w W g us L) (hb : Below w0.heap.size w0 w) : TcO w0 W g us L :=
  ⟨hb.trans (h.below.mono hb.size), Nat.le_trans hb.size h.ge, h.len, own_base h.own hb.size, h.keys, h.dist⟩
/-- a sink made anew -/
structure ToS (w W : World) (s : Snk) (gk gw : Nat) (us : List Value) : Prop where
  wait : TcO w W gw us s.wait
  known : W.ownsRow w.heap.size 46 3 (.slice (some ⟨gk, 0, none⟩) s.known.length s.known.length) s.known.length (rdCells s.known)
  klt : gk < gw
/-- its value -/
def toV (s : Snk) (gk gw : Nat) : Value := snV s (.slice (some ⟨gk, 0, none⟩) s.known.length s.known.length) (.slice (some ⟨gw, 0, none⟩) s.wait.length s.wait.length)
theorem ToS.next {w W W' : World} {s : Snk} {gk gw : Nat} {us : List Value} (h : ToS w W s gk gw us) (hb : Below W.heap.size W W') : ToS w W' s gk gw us :=
  ⟨h.wait.next hb, own_below h.known hb, h.klt⟩
theorem ToS.rd {w W : World} {s : Snk} {gk gw : Nat} {us : List Value} (h : ToS w W s gk gw us) : rdAt W (.slice (some ⟨gk, 0, none⟩) s.known.length s.known.length) s.known := rdAt_own h.known
set_option maxRecDepth 100000 in
set_option maxHeartbeats 2000000 in
theorem tosink_any (s : Snk) (vk vw : Value) (w : World) (h1 : rdAt w vk s.known) (h2 : cdAv w none vw s.wait) (hk : s.known.length ≤ 1900000) (hw : s.wait.length ≤ 1900000) (hx : ∀ x ∈ s.wait, x.1.length ≤ 1900000) :
    Calls Try.prog 26 #[snV s vk vw] w fun e w' => ∃ gk gw us, e = .returned (toV s gk gw) ∧ ToS w w' s gk gw us := by
  obtain ⟨mo, kn, wa, sa, lo, ba⟩ := s
  dsimp only at *
  have HT := Lib.hid (fun wx (hb : Below w.heap.size w wx) => toreadings_any vk kn wx (rdAt_below h1 hb) (by omega))
  have HC := Lib.hid (fun wx (hb : Below w.heap.size w wx) => tocodes_any vw wa wx (cdAv_below h2 hb) hw hx)
  have hvk := rd_shape h1
  obtain ⟨aw, cw, rfl, -, -⟩ := h2
  obtain ⟨ak, ck, rfl⟩ := hvk
  clear h1
  have hb0 := (Below.refl w.heap.size w).alloc (Nat.le_refl _) (.cells #[.int .i64 mo, .slice ak kn.length ck, .slice aw wa.length cw, .int .i64 sa, .int .i64 lo, .int .i64 ba] 53)
  have hb1 := hb0.alloc hb0.size (.cells #[.int .i64 0, .slice none 0 0, .slice none 0 0, .int .i64 0, .int .i64 0, .int .i64 0] 27)
  have hb2 := hb1.alloc hb1.size (.cells #[.int .i64 0, .slice none 0 0, .slice none 0 0, .int .i64 0, .int .i64 0, .int .i64 0] 27)
  have hA := heap_first ((w.alloc (.cells #[.int .i64 mo, .slice ak kn.length ck, .slice aw wa.length cw, .int .i64 sa, .int .i64 lo, .int .i64 ba] 53))) (.cells #[.int .i64 0, .slice none 0 0, .slice none 0 0, .int .i64 0, .int .i64 0, .int .i64 0] 27) (.cells #[.int .i64 0, .slice none 0 0, .slice none 0 0, .int .i64 0, .int .i64 0, .int .i64 0] 27)
  have hN := heap_alloc_new ((w.alloc (.cells #[.int .i64 mo, .slice ak kn.length ck, .slice aw wa.length cw, .int .i64 sa, .int .i64 lo, .int .i64 ba] 53)).alloc (.cells #[.int .i64 0, .slice none 0 0, .slice none 0 0, .int .i64 0, .int .i64 0, .int .i64 0] 27)) (.cells #[.int .i64 0, .slice none 0 0, .slice none 0 0, .int .i64 0, .int .i64 0, .int .i64 0] 27)
  have e1 : (w.alloc (.cells #[.int .i64 mo, .slice ak kn.length ck, .slice aw wa.length cw, .int .i64 sa, .int .i64 lo, .int .i64 ba] 53)).heap.size = w.heap.size + 1 := by simp
  have e2 : ((w.alloc (.cells #[.int .i64 mo, .slice ak kn.length ck, .slice aw wa.length cw, .int .i64 sa, .int .i64 lo, .int .i64 ba] 53)).alloc (.cells #[.int .i64 0, .slice none 0 0, .slice none 0 0, .int .i64 0, .int .i64 0, .int .i64 0] 27)).heap.size = w.heap.size + 2 := by simp
  have e3 : (((w.alloc (.cells #[.int .i64 mo, .slice ak kn.length ck, .slice aw wa.length cw, .int .i64 sa, .int .i64 lo, .int .i64 ba] 53)).alloc (.cells #[.int .i64 0, .slice none 0 0, .slice none 0 0, .int .i64 0, .int .i64 0, .int .i64 0] 27)).alloc (.cells #[.int .i64 0, .slice none 0 0, .slice none 0 0, .int .i64 0, .int .i64 0, .int .i64 0] 27)).heap.size = w.heap.size + 3 := by simp
  have h0 : (((w.alloc (.cells #[.int .i64 mo, .slice ak kn.length ck, .slice aw wa.length cw, .int .i64 sa, .int .i64 lo, .int .i64 ba] 53)).alloc (.cells #[.int .i64 0, .slice none 0 0, .slice none 0 0, .int .i64 0, .int .i64 0, .int .i64 0] 27)).alloc (.cells #[.int .i64 0, .slice none 0 0, .slice none 0 0, .int .i64 0, .int .i64 0, .int .i64 0] 27)).heap[w.heap.size]? = some (.cells #[.int .i64 mo, .slice ak kn.length ck, .slice aw wa.length cw, .int .i64 sa, .int .i64 lo, .int .i64 ba] 53) :=
    (Below.heap_alloc _ _ _ (by rw [e2]; omega)).trans (heap_first w _ _)
  rw [e1] at hA
  rw [e2] at hN
  have HB := Lib.hid hb2
  have HX := Lib.hid h0; have HR := Lib.hid hA; have HO := Lib.hid hN
  have HE := Lib.hid e3
  clear hb0 hb1 hb2 h0 hA hN e1 e2 e3
  rw [snV_eq]
  unfold snC
  dsimp only
  go_enter Try.func26, Try.ntmps26
  go_upto_region 2 with (fail)
  generalize ((w.alloc (.cells #[.int .i64 mo, .slice ak kn.length ck, .slice aw wa.length cw, .int .i64 sa, .int .i64 lo, .int .i64 ba] 53)).alloc (.cells #[.int .i64 0, .slice none 0 0, .slice none 0 0, .int .i64 0, .int .i64 0, .int .i64 0] 27)).alloc (.cells #[.int .i64 0, .slice none 0 0, .slice none 0 0, .int .i64 0, .int .i64 0, .int .i64 0] 27) = W at *
  obtain ⟨⟨x0, x1, x2, x3, x4, x5⟩, -⟩ := row6_of HX.out
  obtain ⟨⟨o0, o1, o2, o3, o4, o5⟩, p0, p1, p2, p3, p4, p5⟩ := row6_of HO.out
  go_upto_region 3 with (fail)
  have HB1 := Lib.hid (HB.out.setCell (p := ⟨w.heap.size + 2, 0, none⟩) (by show w.heap.size ≤ w.heap.size + 2; omega) (.int .i64 mo))
  have HX1 := Lib.hid ((Below.heap_setCell W ⟨w.heap.size + 2, 0, none⟩ (.int .i64 mo) w.heap.size (by show w.heap.size ≠ w.heap.size + 2; omega)).trans HX.out)
  have HR1 := Lib.hid ((Below.heap_setCell W ⟨w.heap.size + 2, 0, none⟩ (.int .i64 mo) (w.heap.size + 1) (by show w.heap.size + 1 ≠ w.heap.size + 2; omega)).trans HR.out)
  have HO1 := Lib.hid (set_cellsR (w := W) (B := w.heap.size + 2) (j := 0) (.int .i64 mo) HO.out)
  clear x0 x1 x2 x3 x4 x5 o0 o1 o2 o3 o4 o5 p0 p1 p2 p3 p4 p5
  generalize W.setCell ⟨w.heap.size + 2, 0, none⟩ (.int .i64 mo) = W2 at *
  obtain ⟨⟨x0, x1, x2, x3, x4, x5⟩, -⟩ := row6_of HX1.out
  go_wp2_with fail
  refine (HT.out _ HB1.out).mono ?_
  rintro e w3 ⟨gk, rfl, hgk, hok, hb3⟩
  have HB3 := Lib.hid (HB1.out.trans (hb3.mono HB1.out.size))
  have HX3 := Lib.hid ((hb3.block _ (Array.getElem?_eq_some_iff.1 HX1.out).1).trans HX1.out)
  have HR3 := Lib.hid ((hb3.block _ (Array.getElem?_eq_some_iff.1 HR1.out).1).trans HR1.out)
  have HO3 := Lib.hid ((hb3.block _ (Array.getElem?_eq_some_iff.1 HO1.out).1).trans HO1.out)
  have hw2 : w.heap.size + 2 < W2.heap.size := (Array.getElem?_eq_some_iff.1 HO1.out).1
  have HKO := Lib.hid hok
  have HGK := Lib.hid (show w.heap.size + 2 < gk ∧ gk < w3.heap.size from ⟨by omega, (hok.lt gk rfl).2⟩)
  have HW2 := Lib.hid hw2
  clear x0 x1 x2 x3 x4 x5 hb3 hok hgk hw2
  obtain ⟨⟨o0, o1, o2, o3, o4, o5⟩, p0, p1, p2, p3, p4, p5⟩ := row6_of HO3.out
  go_upto_region 4 with (fail)
  have HB4 := Lib.hid (HB3.out.setCell (p := ⟨w.heap.size + 2, 1, none⟩) (by show w.heap.size ≤ w.heap.size + 2; omega) (.slice (some ⟨gk, 0, none⟩) kn.length kn.length))
  have HX4 := Lib.hid ((Below.heap_setCell w3 ⟨w.heap.size + 2, 1, none⟩ (.slice (some ⟨gk, 0, none⟩) kn.length kn.length) w.heap.size (by show w.heap.size ≠ w.heap.size + 2; omega)).trans HX3.out)
  have HR4 := Lib.hid ((Below.heap_setCell w3 ⟨w.heap.size + 2, 1, none⟩ (.slice (some ⟨gk, 0, none⟩) kn.length kn.length) (w.heap.size + 1) (by show w.heap.size + 1 ≠ w.heap.size + 2; omega)).trans HR3.out)
  have HO4 := Lib.hid (set_cellsR (w := w3) (B := w.heap.size + 2) (j := 1) (.slice (some ⟨gk, 0, none⟩) kn.length kn.length) HO3.out)
  have HK4 := Lib.hid (HKO.out.kept (Lib.grownBy_setCell w3 (w.heap.size + 2) 1 (.slice (some ⟨gk, 0, none⟩) kn.length kn.length)) (.inr (fun e => by have h9 : gk = w.heap.size + 2 := Option.some.inj e; have := HGK.out.1; omega)))
  have hs4 : w3.heap.size = (w3.setCell ⟨w.heap.size + 2, 1, none⟩ (.slice (some ⟨gk, 0, none⟩) kn.length kn.length)).heap.size := by simp
  have HG4 := Lib.hid (show gk < (w3.setCell ⟨w.heap.size + 2, 1, none⟩ (.slice (some ⟨gk, 0, none⟩) kn.length kn.length)).heap.size by rw [← hs4]; exact HGK.out.2)
  clear o0 o1 o2 o3 o4 o5 p0 p1 p2 p3 p4 p5 hs4
  generalize w3.setCell ⟨w.heap.size + 2, 1, none⟩ (.slice (some ⟨gk, 0, none⟩) kn.length kn.length) = W4 at *
  obtain ⟨⟨x0, x1, x2, x3, x4, x5⟩, -⟩ := row6_of HX4.out
  go_wp2_with fail
  refine (HC.out _ HB4.out).mono ?_
  rintro e w5 ⟨gw, us, rfl, hT⟩
  have hb5 := hT.below
  have HB5 := Lib.hid (HB4.out.trans (hb5.mono HB4.out.size))
  have HX5 := Lib.hid ((hb5.block _ (Array.getElem?_eq_some_iff.1 HX4.out).1).trans HX4.out)
  have HR5 := Lib.hid ((hb5.block _ (Array.getElem?_eq_some_iff.1 HR4.out).1).trans HR4.out)
  have HO5 := Lib.hid ((hb5.block _ (Array.getElem?_eq_some_iff.1 HO4.out).1).trans HO4.out)
  have HK5 := Lib.hid (own_below HK4.out hb5)
  have HT5 := Lib.hid hT
  have HW4 := Lib.hid (show w.heap.size + 2 < W4.heap.size from (Array.getElem?_eq_some_iff.1 HO4.out).1)
  clear x0 x1 x2 x3 x4 x5 hb5 hT
  obtain ⟨⟨x0, x1, x2, x3, x4, x5⟩, -⟩ := row6_of HX5.out
  obtain ⟨⟨o0, o1, o2, o3, o4, o5⟩, p0, p1, p2, p3, p4, p5⟩ := row6_of HO5.out
  obtain ⟨⟨r0', r1', r2', r3', r4', r5'⟩, q0, q1, q2, q3, q4, q5⟩ := row6_of HR5.out
  have hne : w.heap.size ≠ w.heap.size + 2 := by omega
  have hne1 : w.heap.size + 1 ≠ w.heap.size + 2 := by omega
  have HF := Lib.hid (show ToS w (set6 ((((w5.setCell ⟨w.heap.size + 2, 2, none⟩ (.slice (some ⟨gw, 0, none⟩) wa.length wa.length)).setCell ⟨w.heap.size + 2, 3, none⟩ (.int .i64 sa)).setCell ⟨w.heap.size + 2, 4, none⟩ (.int .i64 lo)).setCell ⟨w.heap.size + 2, 5, none⟩ (.int .i64 ba)) (w.heap.size + 1) (.int .i64 mo) (.slice (some ⟨gk, 0, none⟩) kn.length kn.length) (.slice (some ⟨gw, 0, none⟩) wa.length wa.length) (.int .i64 sa) (.int .i64 lo) (.int .i64 ba)) ⟨mo, kn, wa, sa, lo, ba⟩ gk gw us from by
    have g1 := grown_trans (grown_trans (grown_trans (Lib.grownBy_setCell w5 (w.heap.size + 2) 2 (.slice (some ⟨gw, 0, none⟩) wa.length wa.length)) (Lib.grownBy_setCell _ (w.heap.size + 2) 3 (.int .i64 sa))) (Lib.grownBy_setCell _ (w.heap.size + 2) 4 (.int .i64 lo))) (Lib.grownBy_setCell _ (w.heap.size + 2) 5 (.int .i64 ba))
    have g2 := fun W => grown_trans (grown_trans (grown_trans (grown_trans (grown_trans (Lib.grownBy_setCell W (w.heap.size + 1) 0 (.int .i64 mo)) (Lib.grownBy_setCell _ (w.heap.size + 1) 1 (.slice (some ⟨gk, 0, none⟩) kn.length kn.length))) (Lib.grownBy_setCell _ (w.heap.size + 1) 2 (.slice (some ⟨gw, 0, none⟩) wa.length wa.length))) (Lib.grownBy_setCell _ (w.heap.size + 1) 3 (.int .i64 sa))) (Lib.grownBy_setCell _ (w.heap.size + 1) 4 (.int .i64 lo))) (Lib.grownBy_setCell _ (w.heap.size + 1) 5 (.int .i64 ba))
    have hk := (HK5.out.kept g1 (.inr (fun e => by have h9 : gk = w.heap.size + 2 := Option.some.inj e; have := HGK.out.1; omega))).kept (g2 _) (.inr (fun e => by have h9 : gk = w.heap.size + 1 := Option.some.inj e; have := HGK.out.1; omega))
    have hw4 := HW4.out
    have hge := HT5.out.ge
    have hT2 := ((HT5.out.rebase HB4.out).other g1 (by omega) (by omega)).other (g2 _) (by omega) (by omega)
    exact ⟨hT2, own_base hk (by have := HB1.out.size; omega), by have := HG4.out; omega⟩)
  have HFR := Lib.hid (sn_set (W := (((w5.setCell ⟨w.heap.size + 2, 2, none⟩ (.slice (some ⟨gw, 0, none⟩) wa.length wa.length)).setCell ⟨w.heap.size + 2, 3, none⟩ (.int .i64 sa)).setCell ⟨w.heap.size + 2, 4, none⟩ (.int .i64 lo)).setCell ⟨w.heap.size + 2, 5, none⟩ (.int .i64 ba)) (b := w.heap.size + 1) (T := 27)
    ((Below.heap_setCell _ ⟨w.heap.size + 2, 5, none⟩ _ (w.heap.size + 1) hne1).trans ((Below.heap_setCell _ ⟨w.heap.size + 2, 4, none⟩ _ (w.heap.size + 1) hne1).trans ((Below.heap_setCell _ ⟨w.heap.size + 2, 3, none⟩ _ (w.heap.size + 1) hne1).trans ((Below.heap_setCell _ ⟨w.heap.size + 2, 2, none⟩ _ (w.heap.size + 1) hne1).trans HR5.out)))) (.int .i64 mo) (.slice (some ⟨gk, 0, none⟩) kn.length kn.length) (.slice (some ⟨gw, 0, none⟩) wa.length wa.length) (.int .i64 sa) (.int .i64 lo) (.int .i64 ba))
  clear hne hne1
  go_wp2
  refine bodyPost_ret (v := toV ⟨mo, kn, wa, sa, lo, ba⟩ gk gw) ?_ rfl ⟨gk, gw, us, rfl, HF.out⟩
  rw [results_cell (p := 2) (ty := 27) (by kernel_rfl)]
  have l2 := sn_load HFR.out
  simp [asAddr, Result.andThen, l2, snV, toV]
set_option maxRecDepth 100000 in
set_option maxHeartbeats 2000000 in
theorem eqsink_self (s : Snk) (ka va kb vb : Value) (w : World) (hka : rdAt w ka s.known) (hkb : rdAt w kb s.known) (hva : cdAv w none va s.wait) (hvb : cdAv w none vb s.wait) (hk : s.known.length ≤ 4000000) (hw : s.wait.length ≤ 4000000) (hx : ∀ x ∈ s.wait, x.1.length ≤ 4000000) :
    Calls Try.prog 27 #[snV s ka va, snV s kb vb] w fun e w' => e = .returned (.bool true) ∧ Below w.heap.size w w' := by
  obtain ⟨mo, kn, wa, sa, lo, ba⟩ := s
  dsimp only at *
  have HR := Lib.hid (fun wx (hb : Below w.heap.size w wx) => eqrds_self ka kb kn wx (rdAt_below hka hb) (rdAt_below hkb hb) hk)
  have HC := Lib.hid (fun wx (hb : Below w.heap.size w wx) => eqcodes_any va vb wa wa wx (cdAv_below hva hb) (cdAv_below hvb hb) hw hw hx hx)
  have e1 := rd_shape hka
  have e2 := rd_shape hkb
  obtain ⟨aw, cw, rfl, -, -⟩ := hva
  obtain ⟨bw, dw, rfl, -, -⟩ := hvb
  obtain ⟨ak, ck, rfl⟩ := e1
  obtain ⟨bk, dk, rfl⟩ := e2
  clear hka hkb
  have hb0 := (Below.refl w.heap.size w).alloc (Nat.le_refl _) (.cells #[.int .i64 mo, .slice ak kn.length ck, .slice aw wa.length cw, .int .i64 sa, .int .i64 lo, .int .i64 ba] 27)
  have hb1 := hb0.alloc hb0.size (.cells #[.int .i64 mo, .slice bk kn.length dk, .slice bw wa.length dw, .int .i64 sa, .int .i64 lo, .int .i64 ba] 27)
  have hA := heap_first w (.cells #[.int .i64 mo, .slice bk kn.length dk, .slice bw wa.length dw, .int .i64 sa, .int .i64 lo, .int .i64 ba] 27) (.cells #[.int .i64 mo, .slice ak kn.length ck, .slice aw wa.length cw, .int .i64 sa, .int .i64 lo, .int .i64 ba] 27)
  have hN := heap_alloc_new (w.alloc (.cells #[.int .i64 mo, .slice ak kn.length ck, .slice aw wa.length cw, .int .i64 sa, .int .i64 lo, .int .i64 ba] 27)) (.cells #[.int .i64 mo, .slice bk kn.length dk, .slice bw wa.length dw, .int .i64 sa, .int .i64 lo, .int .i64 ba] 27)
  rw [show (w.alloc (.cells #[.int .i64 mo, .slice ak kn.length ck, .slice aw wa.length cw, .int .i64 sa, .int .i64 lo, .int .i64 ba] 27)).heap.size = w.heap.size + 1 by simp] at hN
  have HB := Lib.hid hb1; have HX := Lib.hid hA; have HY := Lib.hid hN
  clear hb0 hb1 hA hN
  rw [snV_eq, snV_eq]
  unfold snC
  dsimp only
  have hdt : decide (wa = wa) = true := decide_eq_true rfl
  go_enter Try.func27, Try.ntmps27
  go_upto_region 1 with (fail)
  generalize (w.alloc (.cells #[.int .i64 mo, .slice ak kn.length ck, .slice aw wa.length cw, .int .i64 sa, .int .i64 lo, .int .i64 ba] 27)).alloc (.cells #[.int .i64 mo, .slice bk kn.length dk, .slice bw wa.length dw, .int .i64 sa, .int .i64 lo, .int .i64 ba] 27) = W at *
  obtain ⟨⟨x0, x1, x2, x3, x4, x5⟩, -⟩ := row6_of HX.out
  obtain ⟨⟨y0, y1, y2, y3, y4, y5⟩, -⟩ := row6_of HY.out
  go_wp2_with fail
  refine (HR.out _ HB.out).mono ?_
  rintro e w2 ⟨rfl, hb2⟩
  have HB2 := Lib.hid (HB.out.trans (hb2.mono HB.out.size))
  have HX2 := Lib.hid ((hb2.block _ (Array.getElem?_eq_some_iff.1 HX.out).1).trans HX.out)
  have HY2 := Lib.hid ((hb2.block _ (Array.getElem?_eq_some_iff.1 HY.out).1).trans HY.out)
  clear x0 x1 x2 x3 x4 x5 y0 y1 y2 y3 y4 y5 hb2
  obtain ⟨⟨x0, x1, x2, x3, x4, x5⟩, -⟩ := row6_of HX2.out
  obtain ⟨⟨y0, y1, y2, y3, y4, y5⟩, -⟩ := row6_of HY2.out
  go_wp2_with fail
  refine (HC.out _ HB2.out).mono ?_
  rintro e w3 ⟨rfl, hb3⟩
  rw [hdt]
  have HB3 := Lib.hid (HB2.out.trans (hb3.mono HB2.out.size))
  have HX3 := Lib.hid ((hb3.block _ (Array.getElem?_eq_some_iff.1 HX2.out).1).trans HX2.out)
  have HY3 := Lib.hid ((hb3.block _ (Array.getElem?_eq_some_iff.1 HY2.out).1).trans HY2.out)
  clear x0 x1 x2 x3 x4 x5 y0 y1 y2 y3 y4 y5 hb3 hdt
  obtain ⟨⟨x0, x1, x2, x3, x4, x5⟩, -⟩ := row6_of HX3.out
  obtain ⟨⟨y0, y1, y2, y3, y4, y5⟩, -⟩ := row6_of HY3.out
  go_wp2
  go_ret
  exact ⟨rfl, HB3.out⟩
end Go.Proofs.Ytfohmhigidgfhaa
namespace Go.Proofs.Ytfohmhigidgfhaa
open Go.ChangeShapes Go.WideShapes Go.ChangeAt Go.RowKit Go.BigFrame
set_option linter.unusedVariables false
set_option linter.unusedSimpArgs false

set_option maxRecDepth 100000 in
set_option maxHeartbeats 1000000 in
theorem ssame_any (va vb : Value) (A B : List K2) (w : World) (ha : keysAt w va A) (hb : keysAt w vb B) (hsA : A.length ≤ 4000000) (hsB : B.length ≤ 4000000) :
    Calls Try.prog 109 #[va, vb] w fun e w' => e = .returned (.bool (decide (A = B))) ∧ Below w.heap.size w w' := by
  obtain ⟨aa, ca, rfl, hca, hcA⟩ := ha
  obtain ⟨ab, cb, rfl, hcb, hcB⟩ := hb
  by_cases hl : A.length = B.length
  · have e0 : (A.length : Int) = (B.length : Int) := by omega
    go_enter Try.func109, Try.ntmps109
    rw [hl] at hca hcA ⊢
    go_wp2
    go_loopw [5] (fun i wr => ∃ k : Nat, k ≤ B.length ∧ i = .int .i64 k ∧ (∀ j, j < k → A.getD j (0, 0) = B.getD j (0, 0)) ∧ Below w.heap.size w wr) (fun i _ => B.length - (intOf i).toNat)
    case atStart => exact ⟨0, Nat.zero_le _, rfl, fun j hj => by omega, Below.refl _ _⟩
    case round =>
      obtain ⟨k, hk, rfl, hall, hbr⟩ := hrel
      by_cases hlt : k < B.length
      · obtain ⟨ga, offa, rfl, hga, hcsA⟩ := hcA.resolve_left (by omega)
        obtain ⟨gb, offb, rfl, hgb, hcsB⟩ := hcB.resolve_left (by omega)
        have cA := hcsA k hlt
        have cB := hcsB k hlt
        have z0 : (0 : Int) ≤ (k : Int) := by omega
        have z1 : (k : Int) < (B.length : Int) := by omega
        clear hcsA hcsB hcA hcB
        have L1 : ∀ w', Below w.heap.size w w' → (loadVar 43 ⟨ga, offa + k * 2, none⟩).run Try.prog w' = .ok (kv (A.getD k (0, 0))) w' := fun w' h => key_load cA hga h
        have L2 : ∀ w', Below w.heap.size w w' → (loadVar 43 ⟨gb, offb + k * 2, none⟩).run Try.prog w' = .ok (kv (B.getD k (0, 0))) w' := fun w' h => key_load cB hgb h
        clear cA cB
        cases he : (A.getD k (0, 0) == B.getD k (0, 0)) with
        | true =>
          have hn : ∀ j, j < k + 1 → A.getD j (0, 0) = B.getD j (0, 0) := by
            intro j hj
            rcases (by omega : j < k ∨ j = k) with h1 | rfl
            · exact hall j h1
            · exact eq_of_beq he
          have HN := Lib.hid hn
          clear hall hn
          generalize A.getD k (0, 0) = kx at *
          generalize B.getD k (0, 0) = ky at *
          go_wp2
          refine wp_region_below w (by kernel_rfl) (by kernel_rfl) hbr ?_
          repeat (first
            | go_big_quiet_skip
            | (go_big_quiet_want
               first
                 | (go_big_quiet_op; go_big_quiet_on)
                 | (refine q_load 43 _ _ _ rfl rfl L1 ?_; simp only [Act.put, List.setIfInBounds_toArray, List.set_cons_zero, List.set_cons_succ]; go_big_quiet_on)
                 | (refine q_load 43 _ _ _ rfl rfl L2 ?_; simp only [Act.put, List.setIfInBounds_toArray, List.set_cons_zero, List.set_cons_succ]; go_big_quiet_on)
                 | (refine q_bin _ 43 _ _ _ _ _ _ rfl rfl rfl (fun w => key_guard _ _ _ _ _ w) (fun w => key_eql _ _ w) ?_; simp only [Act.put, List.setIfInBounds_toArray, List.set_cons_zero, List.set_cons_succ]; go_big_quiet_on)
                 | (refine q_bin _ 43 _ _ _ _ _ _ rfl rfl rfl (fun w => key_guard _ _ _ _ _ w) (fun w => key_neq _ _ w) ?_; simp only [Act.put, List.setIfInBounds_toArray, List.set_cons_zero, List.set_cons_succ]; go_big_quiet_on)
                 | (go_big_quiet_op; refine ⟨_, fun _ _ => rfl, ?_⟩; go_big_quiet_on)
                 | (go_big_quiet_op; go_big_quiet_on)))
          refine wpQuiet_nil ?_
          intro w2 hb2
          rw [he]
          clear L1 L2 hbr
          go_wp2
          exact ⟨⟨k + 1, by omega, by go_num, HN.out, hb2⟩, by simp [intOf]; omega⟩
        | false =>
          have hne : decide (A = B) = false := by
            simp only [decide_eq_false_iff_not]
            intro e
            subst e
            simp at he
          have HD := Lib.hid hne
          clear hall hne
          generalize A.getD k (0, 0) = kx at *
          generalize B.getD k (0, 0) = ky at *
          go_wp2
          refine wp_region_below w (by kernel_rfl) (by kernel_rfl) hbr ?_
          repeat (first
            | go_big_quiet_skip
            | (go_big_quiet_want
               first
                 | (go_big_quiet_op; go_big_quiet_on)
                 | (refine q_load 43 _ _ _ rfl rfl L1 ?_; simp only [Act.put, List.setIfInBounds_toArray, List.set_cons_zero, List.set_cons_succ]; go_big_quiet_on)
                 | (refine q_load 43 _ _ _ rfl rfl L2 ?_; simp only [Act.put, List.setIfInBounds_toArray, List.set_cons_zero, List.set_cons_succ]; go_big_quiet_on)
                 | (refine q_bin _ 43 _ _ _ _ _ _ rfl rfl rfl (fun w => key_guard _ _ _ _ _ w) (fun w => key_eql _ _ w) ?_; simp only [Act.put, List.setIfInBounds_toArray, List.set_cons_zero, List.set_cons_succ]; go_big_quiet_on)
                 | (refine q_bin _ 43 _ _ _ _ _ _ rfl rfl rfl (fun w => key_guard _ _ _ _ _ w) (fun w => key_neq _ _ w) ?_; simp only [Act.put, List.setIfInBounds_toArray, List.set_cons_zero, List.set_cons_succ]; go_big_quiet_on)
                 | (go_big_quiet_op; refine ⟨_, fun _ _ => rfl, ?_⟩; go_big_quiet_on)
                 | (go_big_quiet_op; go_big_quiet_on)))
          refine wpQuiet_nil ?_
          intro w2 hb2
          rw [he]
          clear L1 L2 hbr
          go_wp2
          go_ret
          exact ⟨by rw [HD.out]; rfl, hb2⟩
      · obtain rfl : k = B.length := by omega
        have he : decide (A = B) = true := by
          simp only [decide_eq_true_eq]
          apply List.ext_getElem hl
          intro i h1 h2
          have := hall i h2
          simpa [List.getD, h1, h2] using this
        have HD := Lib.hid he
        clear hall he
        go_wp2
        go_ret
        exact ⟨by rw [HD.out]; rfl, hbr⟩
  · have hne : decide (A = B) = false := by simp only [decide_eq_false_iff_not]; intro e; subst e; exact hl rfl
    have HD := Lib.hid hne
    have e0 : ¬ (A.length : Int) = (B.length : Int) := by omega
    clear hne
    go_enter Try.func109, Try.ntmps109
    go_wp2
    go_ret
    exact ⟨by rw [HD.out]; rfl, Below.refl _ _⟩

def plI : Option Nat → Int
  | some i => i
  | none => -1
set_option maxRecDepth 100000 in
set_option maxHeartbeats 1000000 in
theorem sat_any (v : Value) (L : List C2) (vk : Value) (ks : List K2) (w : World) (h : cdAv w none v L) (hk : keysAt w vk ks) (hL : L.length ≤ 4000000) (hx : ∀ x ∈ L, x.1.length ≤ 4000000) (hs : ks.length ≤ 4000000) :
    Calls Try.prog 53 #[v, vk] w fun e w' => e = .returned (.int .i64 (plI (atI L ks))) ∧ Below w.heap.size w w' := by
  have HKS := Lib.hid (fun wx (hb : Below w.heap.size w wx) => keysAt_below hk hb)
  obtain ⟨a, cap, rfl, hcap, hcells⟩ := h
  obtain ⟨ak, ck, rfl, -, -⟩ := hk
  go_enter Try.func53, Try.ntmps53
  go_wp2_with fail
  go_loopw [5] (fun i wr => ∃ k : Nat, k ≤ L.length ∧ i = .int .i64 k ∧ (∀ j, j < k → (L.getD j blankC).1 ≠ ks) ∧ Below w.heap.size w wr) (fun i _ => L.length - (intOf i).toNat)
  case atStart => exact ⟨0, Nat.zero_le _, rfl, fun j hj => by omega, Below.refl _ _⟩
  case round =>
    obtain ⟨k, hkl, rfl, hall, hb⟩ := hrel
    rename_i wr
    by_cases hlt : k < L.length
    · obtain ⟨g, off, rfl, hg, hcs⟩ := hcells.resolve_left (by omega)
      have z0 : (0 : Int) ≤ (k : Int) := by omega
      have z1 : (k : Int) < (L.length : Int) := by omega
      obtain ⟨u, c1, c2, c3⟩ := hcs k hlt
      have C1 := (hb.cell (p := ⟨g, off + k * 2, none⟩) hg).trans c1
      have hxx := hx (L.getD k blankC) (getW hlt)
      have HYES := Lib.hid (fun (e : (L.getD k blankC).1 = ks) => show atI L ks = some k from atI_some.2 ⟨hlt, by rw [← e]; simp [List.getD, hlt], fun j hj e2 => hall j hj (by rw [← e2]; simp [List.getD, show j < L.length by omega])⟩)
      have HNX := Lib.hid (fun (e : (L.getD k blankC).1 ≠ ks) => show ∀ j, j < k + 1 → (L.getD j blankC).1 ≠ ks from fun j hj => by
        rcases (by omega : j < k ∨ j = k) with h1 | rfl
        · exact hall j h1
        · exact e)
      clear hcells hcs c1 c2 hall
      generalize L.getD k blankC = x at *
      obtain ⟨xs, y⟩ := x
      dsimp only at *
      have HS := Lib.hid (ssame_any u (.slice ak ks.length ck) xs ks wr (keysAt_below c3.to hb) (HKS.out _ hb) (by omega) (by omega))
      have HB := Lib.hid hb
      obtain ⟨au, cu, rfl, -, -⟩ := c3
      clear hb
      go_wp2_with fail
      refine HS.out.mono ?_
      rintro e w2 ⟨rfl, hb2⟩
      have HB2 := Lib.hid (HB.out.trans (hb2.mono HB.out.size))
      clear hb2 HS C1
      by_cases he : xs = ks
      · rw [decide_eq_true he]
        have HY := Lib.hid (HYES.out he)
        clear he
        go_wp2
        go_ret
        exact ⟨by rw [HY.out]; rfl, HB2.out⟩
      · rw [decide_eq_false he]
        have HN := Lib.hid (HNX.out he)
        clear he
        go_wp2
        exact ⟨⟨k + 1, by omega, by go_num, HN.out, HB2.out⟩, by simp [intOf]; omega⟩
    · obtain rfl : k = L.length := by omega
      have HN := Lib.hid (show atI L ks = none from atI_no fun j hj => by have := hall j hj; simpa [List.getD, hj] using this)
      clear hall hcells
      go_wp2
      go_ret
      exact ⟨by rw [HN.out]; rfl, hb⟩
theorem scount_any (n : Int) (w : World) : Calls Try.prog 60 #[.int .i64 n] w fun e w' => e = .returned (.bool (cntOk n)) ∧ w' = w := by
  have e : cntOk n = (decide (0 ≤ n) && decide (n ≤ 1000000000)) := rfl
  rw [e]
  go_enter Try.func60, Try.ntmps60
  go_wp2_with fail
  refine (sin_any n 0 1000000000 w).mono ?_
  rintro e w' ⟨rfl, rfl⟩
  go_wp2
  go_ret
  exact ⟨rfl, rfl⟩
set_option maxRecDepth 100000 in
set_option maxHeartbeats 1000000 in
theorem snewsink_any (n : Int) (w : World) : Calls Try.prog 28 #[.int .i64 n] w fun e w' => e = .returned (snV (newM n) (.slice none 0 0) (.slice none 0 0)) ∧ Below w.heap.size w w' := by
  have hb0 := (Below.refl w.heap.size w).alloc (Nat.le_refl _) (.cells #[.int .i64 0, .slice none 0 0, .slice none 0 0, .int .i64 0, .int .i64 0, .int .i64 0] 27)
  have hr := heap_alloc_new w (.cells #[.int .i64 0, .slice none 0 0, .slice none 0 0, .int .i64 0, .int .i64 0, .int .i64 0] 27)
  have hHN : newM n = if 0 ≤ n ∧ n ≤ 12 then ⟨n, [], [], 0, 0, 0⟩ else noSnk := rfl
  have HN := Lib.hid hHN
  have HR := Lib.hid hr
  have HB := Lib.hid hb0
  clear hHN hb0
  go_enter Try.func28, Try.ntmps28
  go_upto_region 1 with (fail)
  generalize w.alloc (.cells #[.int .i64 0, .slice none 0 0, .slice none 0 0, .int .i64 0, .int .i64 0, .int .i64 0] 27) = W at *
  obtain ⟨⟨y0, y1, y2, y3, y4, y5⟩, f0, f1, f2, f3, f4, f5⟩ := row6_of hr
  go_wp2_with fail
  refine (sin_any n 0 12 _).mono ?_
  rintro e w' ⟨rfl, rfl⟩
  by_cases h1 : 0 ≤ n
  · by_cases h2 : n ≤ 12
    · have HFV := Lib.hid (show newM n = ⟨n, [], [], 0, 0, 0⟩ by rw [HN.out, if_pos ⟨h1, h2⟩])
      have HF := Lib.hid (sn_set hr (.int .i64 n) (.slice none 0 0) (.slice none 0 0) (.int .i64 0) (.int .i64 0) (.int .i64 0))
      have HBF := Lib.hid (sn_setB HB.out (Nat.le_refl _) (.int .i64 n) (.slice none 0 0) (.slice none 0 0) (.int .i64 0) (.int .i64 0) (.int .i64 0))
      rw [decide_eq_true h1, decide_eq_true h2]
      clear hr h1 h2
      go_wp2
      refine bodyPost_ret (v := snV ⟨n, [], [], 0, 0, 0⟩ (.slice none 0 0) (.slice none 0 0)) ?_ rfl ⟨by rw [HFV.out], HBF.out⟩
      rw [results_cell (p := 2) (ty := 27) (by kernel_rfl)]
      have l2 := sn_load HF.out
      simp [asAddr, Result.andThen, l2, snV]
    · have HFV := Lib.hid (show newM n = noSnk by rw [HN.out, if_neg (fun h => h2 h.2)])
      have HF := Lib.hid (sn_set hr (.int .i64 0) (.slice none 0 0) (.slice none 0 0) (.int .i64 0) (.int .i64 0) (.int .i64 0))
      have HBF := Lib.hid (sn_setB HB.out (Nat.le_refl _) (.int .i64 0) (.slice none 0 0) (.slice none 0 0) (.int .i64 0) (.int .i64 0) (.int .i64 0))
      rw [decide_eq_true h1, decide_eq_false h2]
      clear hr h1 h2
      go_wp2
      refine bodyPost_ret (v := snV noSnk (.slice none 0 0) (.slice none 0 0)) ?_ rfl ⟨by rw [HFV.out], HBF.out⟩
      rw [results_cell (p := 2) (ty := 27) (by kernel_rfl)]
      have l2 := sn_load HF.out
      simp [asAddr, Result.andThen, l2, snV, noSnk]
  · have HFV := Lib.hid (show newM n = noSnk by rw [HN.out, if_neg (fun h => h1 h.1)])
    have HF := Lib.hid (sn_set hr (.int .i64 0) (.slice none 0 0) (.slice none 0 0) (.int .i64 0) (.int .i64 0) (.int .i64 0))
    have HBF := Lib.hid (sn_setB HB.out (Nat.le_refl _) (.int .i64 0) (.slice none 0 0) (.slice none 0 0) (.int .i64 0) (.int .i64 0) (.int .i64 0))
    rw [decide_eq_false h1]
    clear hr h1
    go_wp2
    refine bodyPost_ret (v := snV noSnk (.slice none 0 0) (.slice none 0 0)) ?_ rfl ⟨by rw [HFV.out], HBF.out⟩
    rw [results_cell (p := 2) (ty := 27) (by kernel_rfl)]
    have l2 := sn_load HF.out
    simp [asAddr, Result.andThen, l2, snV, noSnk]
end Go.Proofs.Ytfohmhigidgfhaa
