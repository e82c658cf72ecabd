/- What the laws lean on (own lemmas and walks of the called functions). -/
import Derived.Test.YtpfnpinoamjcjaaPd1
set_option linter.unusedVariables false
set_option linter.unusedSimpArgs false
namespace Go.Proofs.Ytpfnpinoamjcjaa
open Go.ChangeShapes Go.WideShapes Go.ChangeAt Go.RowKit Go.BigFrame
set_option linter.unusedVariables false
set_option linter.unusedSimpArgs false

theorem grown_setCells (g : Nat) : ∀ (vs : List Value) (o : Nat) (w : World), w.grownBy (w.setCells g o vs) (some g)
  | [], _, w => World.grownBy.refl _ _
  | v :: r, o, w => grownT (Lib.grownBy_setCell w g o v) (grown_setCells g r (o + 1) _)
theorem wpList_append_in2 {ops : Array Oper} {rest : List Oper} {o : Oper} {a : Act} {w : World} {Q : Exit → Act → World → Prop} (hgd : o.guard = none) (s x : Operand)
    (ho : o.op = .call { callee := .builtin .append, args := #[s, x], argTypes := #[33, 33] })
    {base : Nat} {v : Value} {xs : List Int} (hown : w.ownsRow base 3 1 v xs.length (intsV xs)) (g : Nat) (z : Int) (hu : w.heap[g]? = some (.cells #[.int .i64 z] 3 (0, 0))) (hs : a.eval s = v) (hx : a.eval x = .slice (some ⟨g, 0, none⟩) 1 1) (hn : xs.length ≤ 1000000) (hbase : base ≤ w.heap.size)
    (h : ∀ v' w', w'.ownsRow base 3 1 v' (xs ++ [z]).length (intsV (xs ++ [z])) → w.grownBy w' v.ownBlock → (v'.ownBlock = v.ownBlock ∨ v'.ownBlock = some w.heap.size) → wpList Try.prog ops Q rest (a.put o.dst v') w') : wpList Try.prog ops Q (o :: rest) a w := by
  refine wpList_plain hgd fun K hK => ?_
  obtain ⟨i0, hi, hz0, hz1, hz2⟩ := info_parts infoInt
  obtain ⟨v', w', hr, h2, h3, h4, h5⟩ := run_append_own_at (P := Try.prog) w base 33 o.type 3 i0 (.int .i64 0) 1 8 Try.underlying33 hi hz0 hz1 hz2 rfl (by decide) v xs.length (intsV xs) hown ⟨g, 0, none⟩ 1 1 [.int .i64 z] rfl
    (fun j u hj => by
      have hadd : (⟨g, 0, none⟩ : Addr).add j = ⟨g, j, none⟩ := by unfold Addr.add; split <;> simp_all
      rw [hadd, cell_of_row _ _ _ _ _ _ hu]
      simpa using hj) (fun u hu => by rcases List.mem_singleton.1 hu with rfl; rfl) (by unfold maxLen; omega) (by omega) hbase
  unfold Oper.wp execOp
  simp only [ho, resolve, invoke, builtin, Sem.run_bind, Sem.run_pure, Result.andThen_ok, List.map_toArray, List.map_cons, List.map_nil, hs, hx, hr]
  refine hK _ _ (h v' w' ?_ h3 h5)
  rw [List.length_append, intsV_app]
  exact h2
def insI (xs : List Int) (l : Int) (i : Nat) : List Int := xs.take i ++ l :: xs.drop i
/-- links of one's own at the row -/
def IRow (w0 w : World) (g n cap : Nat) (ks : List Int) (cur : Array Value) : Prop :=
  ks.length = n ∧ w0.heap.size ≤ g ∧ w.heap[g]? = some (.cells cur 3 (0, 0)) ∧ n ≤ cap ∧ cap ≤ maxLen ∧ cur.size = cap ∧ cur.toList.take (n) = intsV ks ∧ Below w0.heap.size w0 w
theorem IlD.row {w0 w : World} {v : Value} {ks : List Int} (h : IlD w0 w v ks) : (v = .slice none 0 0 ∧ ks = []) ∨ ∃ g cap cur, v = .slice (some ⟨g, 0, none⟩) ks.length cap ∧ IRow w0 w g ks.length cap ks cur := by
  rcases h.1.2 with ⟨h1, h2⟩ | ⟨g, cap, cur, h1, h2, h3, h4, h5, h6, h7⟩
  · exact .inl ⟨h1, List.length_eq_zero_iff.1 h2⟩
  · exact .inr ⟨g, cap, cur, h1, rfl, h2, h3, h4, h5, by omega, by rwa [Nat.mul_one] at h7, h.2⟩
theorem IRow.ilD {w0 w : World} {g n cap : Nat} {ks : List Int} {cur : Array Value} (h : IRow w0 w g n cap ks cur) : IlD w0 w (.slice (some ⟨g, 0, none⟩) n cap) ks := by
  obtain ⟨rfl, h2, h3, h4, h5, h6, h7, h8⟩ := h
  exact ⟨⟨by rw [intsV_len, Nat.mul_one], .inr ⟨g, cap, cur, rfl, h2, h3, h4, h5, by omega, by rwa [Nat.mul_one]⟩⟩, h8⟩
theorem IRow.get {w0 w : World} {g n cap : Nat} {ks : List Int} {cur : Array Value} (h : IRow w0 w g n cap ks cur) (j : Nat) (hj : j < n) : cur[j]? = (intsV ks)[j]? := by
  obtain ⟨h1, h2, h3, h4, h5, h6, h7, h8⟩ := h
  rw [← h7, List.getElem?_take_of_lt hj, Array.getElem?_toList]
theorem IRow.drew {w0 w : World} {g n cap : Nat} {ks : List Int} {cur : Array Value} (h : IRow w0 w g n cap ks cur) : IRow w0 w.drew g n cap ks cur := ⟨h.1, h.2.1, h.2.2.1, h.2.2.2.1, h.2.2.2.2.1, h.2.2.2.2.2.1, h.2.2.2.2.2.2.1, h.2.2.2.2.2.2.2.drew⟩
/-- what is written into the row: the links become others -/
theorem IRow.write {w0 w : World} {g n m cap : Nat} {ks ls : List Int} {cur : Array Value} (h : IRow w0 w g n cap ks cur) (o : Nat) (vs : List Value) (ho : o + vs.length ≤ cap) (hm : ls.length = m) (hmc : m ≤ cap)
    (hl : ∀ j, j < m → (intsV ls)[j]? = if o ≤ j ∧ j < o + vs.length then vs[j - o]? else cur[j]?) : ∃ cur', IRow w0 (w.setCells g o vs) g m cap ls cur' ∧ ∀ j, j < cur.size → cur'[j]? = if o ≤ j ∧ j < o + vs.length then vs[j - o]? else cur[j]? := by
  obtain ⟨h1, h2, h3, h4, h5, h6, h7, h8⟩ := h
  obtain ⟨cur', c1, c2, c3⟩ := row_setCells vs o w cur h3 (by rw [h6]; exact ho)
  refine ⟨cur', ⟨hm, h2, c1, hmc, h5, by rw [c2, h6], ?_, Lib.below_setCells g h2 vs o h8⟩, c3⟩
  have hkl := intsV_len ls
  rw [hm] at hkl
  apply List.ext_getElem?
  intro j
  by_cases hj : j < m
  · rw [List.getElem?_take_of_lt hj, Array.getElem?_toList, c3 j (by omega), hl j hj]
  · rw [List.getElem?_eq_none (by simp; omega), List.getElem?_eq_none (by omega)]
theorem intsV_take (xs : List Int) (i : Nat) : intsV (xs.take i) = (intsV xs).take i := by simp [intsV, List.map_take]
theorem intsV_drop (xs : List Int) (i : Nat) : intsV (xs.drop i) = (intsV xs).drop i := by simp [intsV, List.map_drop]
theorem ki_ins (A B : List Int) (x : Int) (i j : Nat) (hA : A.length = i) : (intsV (A ++ x :: B))[j]? = if j < i then (intsV A)[j]? else if j < (i + 1) then ([.int .i64 x] : List Value)[j - i]? else (intsV B)[j - (i + 1)]? := by
  have e : intsV (A ++ x :: B) = intsV A ++ ([.int .i64 x] ++ intsV B) := by simp [intsV]
  have hl : (intsV A).length = i := by rw [intsV_len, hA]
  rw [e]
  by_cases h1 : j < i
  · rw [if_pos h1, List.getElem?_append_left (by omega)]
  · rw [if_neg h1, List.getElem?_append_right (by omega), hl]
    by_cases h2 : j < (i + 1)
    · rw [if_pos h2, List.getElem?_append_left (by simp; omega)]
    · rw [if_neg h2, List.getElem?_append_right (by simp; omega)]
      simp only [List.length_cons, List.length_nil]
      rw [show j - i - (0 + 1) = j - (i + 1) by omega]
theorem writeI_tail {w0 w : World} {g n m cap i : Nat} {A B C : List Int} {x : Int} {cur : Array Value} (h : IRow w0 w g n cap (A ++ x :: B) cur) (hA : A.length = i) (hm : i + 1 + C.length = m) (hmc : m ≤ cap) : ∃ cur', IRow w0 (w.setCells g ((i + 1)) (intsV C)) g m cap (A ++ x :: C) cur' := by
  have hn : i + 1 + B.length = n := by rw [← h.1, ← hA]; simp; omega
  obtain ⟨cur', hw, -⟩ := h.write ((i + 1)) (intsV C) (m := m) (ls := A ++ x :: C) (by rw [intsV_len]; omega) (by rw [← hm, ← hA]; simp; omega) hmc (fun j hj => by
    rw [ki_ins A C x i j hA]
    by_cases h1 : j < (i + 1)
    · have h2 : ¬ ((i + 1) ≤ j ∧ j < (i + 1) + (intsV C).length) := by omega
      have := h.get j (by omega)
      rw [ki_ins A B x i j hA] at this
      rw [if_neg h2, this]
      simp only [if_pos h1]
    · rw [if_neg (by omega), if_neg h1, if_pos (by rw [intsV_len]; omega)])
  exact ⟨cur', hw⟩
theorem writeI_mid {w0 w : World} {g m cap i : Nat} {A B : List Int} {x y : Int} {cur : Array Value} (h : IRow w0 w g m cap (A ++ x :: B) cur) (hA : A.length = i) : ∃ cur', IRow w0 (w.setCells g (i) [.int .i64 y]) g m cap (A ++ y :: B) cur' := by
  have hn : i + 1 + B.length = m := by rw [← h.1, ← hA]; simp; omega
  have hc := h.2.2.2.1
  obtain ⟨cur', hw, -⟩ := h.write (i) [.int .i64 y] (m := m) (ls := A ++ y :: B) (by simp; omega) (by rw [← hn, ← hA]; simp; omega) hc (fun j hj => by
    rw [ki_ins A B y i j hA]
    have := h.get j hj
    rw [ki_ins A B x i j hA] at this
    by_cases h1 : j < i
    · rw [if_pos h1, if_neg (by omega), this, if_pos h1]
    · by_cases h2 : j < (i + 1)
      · rw [if_neg h1, if_pos h2, if_pos (by simp; omega)]
      · rw [if_neg h1, if_neg h2, if_neg (by simp; omega), this, if_neg h1, if_neg h2])
  exact ⟨cur', hw⟩
theorem run_copy_in (w : World) (ty : TypeId) (b o dLen dCap : Nat) (a : Addr) (sLen sCap k : Nat) (cs : List Value) (hk : k = Nat.min sLen dLen) (hn : cs.length = k)
    (hsrc : ∀ j v, cs[j]? = some v → w.cell? (a.add j) = some v) (hc : ∀ j, j < cs.length → (w.cell? ⟨b, o + j, none⟩).isSome = true) (hf : ∀ j, j < cs.length → w.frozen? ⟨b, o + j, none⟩ = false) (h1 : ∀ v ∈ cs, v.oneCell' = true) :
    (Builtin.copy_ #[33, 33] ty #[.slice (some ⟨b, o, none⟩) dLen dCap, .slice (some a) sLen sCap]).run Try.prog w = .ok (goInt k) (w.setCells b o cs) := by
  obtain ⟨i0, hin, hz0, hz1, hz2⟩ := info_parts infoInt
  have := run_copy_cells (P := Try.prog) w 33 33 ty 3 b o dLen dCap a sLen sCap cs Try.underlying33 (by rw [hin]; simp [hz1]) (by omega) hsrc hc hf h1
  rw [hn] at this
  exact this
theorem IRow.copyOk {w0 w : World} {g n cap : Nat} {ks : List Int} {cur : Array Value} (h : IRow w0 w g n cap ks cur) (o k : Nat) (ho : o + k ≤ cap) : (∀ j, j < k → (w.cell? ⟨g, o + j, none⟩).isSome = true) ∧ ∀ j, j < k → w.frozen? ⟨g, o + j, none⟩ = false :=
  ⟨fun j hj => by rw [cells_of_row h.2.2.1, Array.getElem?_eq_getElem (by rw [h.2.2.2.2.2.1]; omega)]; rfl, fun j hj => frozen_row h.2.2.1 _⟩
theorem IRow.srcOk {w0 w : World} {g n cap : Nat} {ks : List Int} {cur : Array Value} (h : IRow w0 w g n cap ks cur) (i : Nat) (hi : i ≤ n) : ∀ (j : Nat) (v : Value), (intsV (ks.drop i))[j]? = some v → w.cell? ((⟨g, i, none⟩ : Addr).add j) = some v := fun j v hj => by
  have hjl : j < (n - i) := by
    have := (List.getElem?_eq_some_iff.1 hj).1
    rwa [intsV_len, List.length_drop, h.1] at this
  rw [addr_plusK, cells_of_row h.2.2.1, h.get _ (by omega)]
  rwa [intsV_drop, List.getElem?_drop] at hj
theorem grownI_row {w0 w : World} {g n cap : Nat} {ks : List Int} {cur : Array Value} (h : IRow w0 w g n cap ks cur) (i G : Nat) (hi : i ≤ n) (hG : n + 1 ≤ G) (hGm : G ≤ maxLen) :
    IRow w0 (w.drew.alloc (.cells (((intsV ks).take (i)).toArray ++ Builtin.zeroCells #[.int .i64 0] (n + 1 - i) ++ Builtin.zeroCells #[.int .i64 0] (G - (n + 1))) 3)) w.heap.size (n + 1) G (ks.take i ++ 0 :: List.replicate (n - i) 0) (((intsV ks).take (i)).toArray ++ Builtin.zeroCells #[.int .i64 0] (n + 1 - i) ++ Builtin.zeroCells #[.int .i64 0] (G - (n + 1))) := by
  have h1 := h.1
  have hb := h.2.2.2.2.2.2.2
  have hzs : ∀ k, (Builtin.zeroCells #[Value.int .i64 0] k).size = k := fun k => by simp [Builtin.zeroCells]
  have hkl : ((intsV ks).take (i)).length = i := by rw [List.length_take, intsV_len]; omega
  have hzl : (Builtin.zeroCells #[Value.int .i64 0] (n + 1 - i)).toList = intsV (0 :: List.replicate (n - i) 0) := by
    rw [show (0 :: List.replicate (n - i) 0 : List Int) = List.replicate (n + 1 - i) 0 by rw [show n + 1 - i = (n - i) + 1 by omega]; rfl]
    apply List.ext_getElem
    · simp [hzs, intsV]
    · intro j hj1 hj2
      simp [Builtin.zeroCells, intsV, Nat.mod_one]
  refine ⟨by simp; omega, Nat.le_trans hb.size (Nat.le_refl _), heap_alloc_new _ _, hG, hGm, ?_, ?_, hb.drew.alloc hb.size _⟩
  · simp only [Array.size_append, List.size_toArray, hkl, hzs]
    omega
  · simp only [Array.toList_append, List.toList_toArray, hzl]
    rw [intsV_app, intsV_take, List.take_append_of_le_length (by simp [hkl, intsV_len]; omega), List.take_of_length_le (by simp [hkl, intsV_len]; omega)]
theorem insI_nth (ks : List Int) (i : Nat) (hi : i < ks.length) : ks = ks.take i ++ ks.getD i 0 :: ks.drop (i + 1) := by
  have e : ks.getD i 0 = ks[i] := by simp [List.getD, hi]
  rw [e, ← List.drop_eq_getElem_cons hi, List.take_append_drop]
set_option maxRecDepth 100000 in
set_option maxHeartbeats 4000000 in
/-- there is room: in place -/
theorem iinsertI_room (g n cap i gl : Nat) (ks : List Int) (p : Int) (cur : Array Value) (w0 w : World) (hrow : IRow w0 w g n cap ks cur) (hl : w.heap[gl]? = some (.cells #[.int .i64 p] 3 (0, 0))) (hne : gl ≠ g) (hi : i < n) (hroom : n + 1 ≤ cap) :
    Calls Try.prog 72 #[.slice (some ⟨g, 0, none⟩) n cap, .int .i64 i, .slice (some ⟨gl, 0, none⟩) 1 1] w fun e w' => ∃ v', e = .returned v' ∧ IlD w0 w' v' (insI ks p i) ∧ w.grownBy w' (some g) ∧ (v'.ownBlock = (some g) ∨ ∀ b, v'.ownBlock = some b → w.heap.size ≤ b) := by
  have u := Try.underlying33
  have hcm := hrow.2.2.2.2.1
  unfold maxLen at hcm
  have hk1 := hrow.1
  have hov : ∀ lb cb, (callFunc 79 #[.slice (some ⟨gl, 0, none⟩) 1 1, .slice (some ⟨g, (i + 1), none⟩) lb cb]).run Try.prog w = .ok (.value (.bool false)) w := fun lb cb => by
    rw [run_callFunc_extern Try.func79 (by kernel_rfl) (by kernel_rfl) (by kernel_rfl) (e := Extern.SlicesOverlaps.overlaps #[33, 33] #[4]) (by kernel_rfl),
      Lib.run_overlaps_apart w 33 4 3 u 1 (fun w => by obtain ⟨i0, hin, hz0, hz1, hz2⟩ := info_parts infoInt; simp [sizeOf, typeInfo, hin, hz1]) ⟨gl, 0, none⟩ ⟨g, (i + 1), none⟩ 1 1 lb cb hne 3 3 1 cur.size (by simp [World.shape?, hl]) (by simp [World.shape?, hrow.2.2.1]) (by rw [hrow.2.2.2.2.2.1]; omega) (frozen_row hl _) (frozen_row hl _)]
    rfl
  have hA : (ks.take i).length = i := by rw [List.length_take]; omega
  have hdl : (intsV (ks.drop i)).length = (n - i) := by rw [intsV_len, List.length_drop, hk1]
  have hsp := hrow.drew.copyOk ((i + 1)) ((n - i)) (by omega)
  have hcp1 : ∀ ty dl dc sl sc, n - i = Nat.min sl dl → (Builtin.copy_ #[33, 33] ty #[.slice (some ⟨g, (i + 1), none⟩) dl dc, .slice (some ⟨g, i, none⟩) sl sc]).run Try.prog w.drew = .ok (goInt (n - i : Nat)) (w.drew.setCells g ((i + 1)) (intsV (ks.drop i))) := fun ty dl dc sl sc hmin =>
    run_copy_in w.drew ty g ((i + 1)) _ dc ⟨g, i, none⟩ _ sc (n - i) _ hmin hdl (hrow.drew.srcOk i (by omega)) (fun j hj => hsp.1 j (by omega)) (fun j hj => hsp.2 j (by omega)) (intsV_one _)
  have hrd := hrow.drew
  have hW1r : ∃ cur1, IRow w0 (w.drew.setCells g ((i + 1)) (intsV (ks.drop i))) g (n + 1) cap (ks.take i ++ ks.getD i 0 :: ks.drop i) cur1 := by
    rw [insI_nth ks i (by omega)] at hrd
    have := writeI_tail (m := n + 1) (C := ks.drop i) hrd hA (by rw [List.length_drop]; omega) hroom
    exact this
  have hlt := (Array.getElem?_eq_some_iff.1 hl).1
  have hl1 : (w.drew.setCells g ((i + 1)) (intsV (ks.drop i))).heap[gl]? = some (.cells #[.int .i64 p] 3 (0, 0)) := (World.heap_setCells_other w.drew g _ _ hlt hne).trans hl
  obtain ⟨W1, hW1⟩ : ∃ W1, W1 = w.drew.setCells g ((i + 1)) (intsV (ks.drop i)) := ⟨_, rfl⟩
  rw [← hW1] at hcp1 hW1r hl1
  obtain ⟨cur1, hr1⟩ := hW1r
  have hc2 := hr1.copyOk (i) 1 (by omega)
  have hcp2 : ∀ ty dl dc, 1 = Nat.min 1 dl → (Builtin.copy_ #[33, 33] ty #[.slice (some ⟨g, i, none⟩) dl dc, .slice (some ⟨gl, 0, none⟩) 1 1]).run Try.prog W1 = .ok (goInt (1 : Nat)) (W1.setCells g (i) [.int .i64 p]) := fun ty dl dc hmin =>
    run_copy_in W1 ty g (i) _ dc ⟨gl, 0, none⟩ _ 1 1 _ hmin rfl (fun j v hj => by rw [addr_plusK, cells_of_row hl1, Nat.zero_add]; simpa using hj) hc2.1 hc2.2 (by intro v hv; simp at hv; subst hv; rfl)
  obtain ⟨cur2, hr2⟩ := writeI_mid (y := p) hr1 hA
  have HFIN := Lib.hid (show IlD w0 (W1.setCells g (i) [.int .i64 p]) (.slice (some ⟨g, 0, none⟩) (n + 1) cap) (insI ks p i) from hr2.ilD)
  have mixed : Try.prog.follows .mixedOrders = true := by kernel_rfl
  have z11 : (i : Int) ≤ (n : Int) + 1 := by omega
  have HGR := Lib.hid (show w.grownBy (W1.setCells g (i) [.int .i64 p]) (some g) from by rw [hW1]; exact grownT (grownT (grown_of_below' (Below.refl w.heap.size w).drew _) (grown_setCells g _ _ _)) (grown_setCells g _ _ _))
  have z1 : ¬ (i : Int) = (n : Int) := by omega
  have z2 : ¬ (cap : Int) < (n : Int) + 1 := by omega
  have z3 : (n : Int) + 1 ≤ (cap : Int) := by omega
  have z4 : (i : Int) ≤ (n : Int) := by omega
  have z5 : (i : Int) + 1 ≤ (n : Int) + 1 := by omega
  have z6 : ¬ cap = i := by omega
  have z7 : ¬ cap = i + 1 := by omega
  have z8 : (0 : Int) ≤ (i : Int) + 1 := by omega
  have z9 : ((i : Int) + 1).toNat = i + 1 := by omega
  have z10 : ((n : Int) + 1).toNat = n + 1 := by omega
  have w1 : IntKind.i64.wrap ((n : Int) + 1) = (n : Int) + 1 := IntWalk.i64_in _ (by omega)
  have w2 : IntKind.i64.wrap ((i : Int) + 1) = (i : Int) + 1 := IntWalk.i64_in _ (by omega)
  clear hr2 hr1 hc2 hl1 hrd hsp hdl hA hrow hl hlt hk1 hW1
  go_enter Try.func72, Try.ntmps72
  go_wp2_with (simp only [hov])
  go_region_law_o (refine step_copy_runI rfl _ _ 33 33 rfl (.slice (some ⟨g, (i + 1), none⟩) (n + 1 - (i + 1)) (cap - (i + 1))) (.slice (some ⟨g, i, none⟩) (n + 1 - i) (cap - i)) (by simp [Act.eval, Act.put]) (by simp [Act.eval, Act.put]) (hcp1 3 (n + 1 - (i + 1)) (cap - (i + 1)) (n + 1 - i) (cap - i) (by simp only [Nat.min_def]; split <;> omega)) ?_)
  have hcp2x := hcp2 3 (n + 1 - i) (cap - i) (by simp only [Nat.min_def]; split <;> omega)
  clear hcp2 hcp1 hov
  go_wp2
  go_ret
  exact ⟨_, rfl, HFIN.out, HGR.out, .inl rfl⟩
set_option maxRecDepth 100000 in
set_option maxHeartbeats 4000000 in
/-- there is no room: a new row -/
theorem iinsertI_grow (g n cap i gl : Nat) (ks : List Int) (p : Int) (cur : Array Value) (w0 w : World) (hrow : IRow w0 w g n cap ks cur) (hl : w.heap[gl]? = some (.cells #[.int .i64 p] 3 (0, 0))) (hi : i < n) (hn : n ≤ 1500000) (hroom : ¬ n + 1 ≤ cap) :
    Calls Try.prog 72 #[.slice (some ⟨g, 0, none⟩) n cap, .int .i64 i, .slice (some ⟨gl, 0, none⟩) 1 1] w fun e w' => ∃ v', e = .returned v' ∧ IlD w0 w' v' (insI ks p i) ∧ w.grownBy w' (some g) ∧ (v'.ownBlock = (some g) ∨ ∀ b, v'.ownBlock = some b → w.heap.size ≤ b) := by
  have u := Try.underlying33
  have ui := Try.underlying3
  obtain ⟨i0, hin, hz0, hz1, hz2⟩ := info_parts infoInt
  have hnc := hrow.2.2.2.1
  obtain rfl : cap = n := by omega
  have hk1 := hrow.1
  have hbw := (Array.getElem?_eq_some_iff.1 hrow.2.2.1).1
  have hlt := (Array.getElem?_eq_some_iff.1 hl).1
  have hA : (ks.take i).length = i := by rw [List.length_take]; omega
  have hold : (Builtin.firstCells i0.size i (.slice (some ⟨g, 0, none⟩) i cap)).run Try.prog w.drew = .ok ((intsV ks).take (i)).toArray w.drew := by
    rw [hz1]
    exact run_firstCells_some (P := Try.prog) w.drew 1 i ⟨g, 0, none⟩ i cap ((intsV ks).take (i)) (by rw [List.length_take, intsV_len, hk1]; omega) (fun j v hj => by
      rw [addr_plusK, Nat.zero_add, cells_of_row hrow.drew.2.2.1]
      rw [List.getElem?_take] at hj
      split at hj
      · rw [hrow.drew.get _ (by omega)]; exact hj
      · cases hj)
  obtain ⟨G, hG⟩ : ∃ G, G = grownCap w (cap + 1) cap 3 := ⟨_, rfl⟩
  have hGn : cap + 1 ≤ G := by rw [hG]; exact grownCap_ge w _ _ _
  have hGm : G ≤ maxLen := by rw [hG]; exact grownCap_le_maxLen w _ _ _ (by unfold maxLen; omega)
  obtain ⟨ROW, hROW⟩ : ∃ ROW : Array Value, ROW = ((intsV ks).take (i)).toArray ++ Builtin.zeroCells #[.int .i64 0] (cap + 1 - i) ++ Builtin.zeroCells #[.int .i64 0] (G - (cap + 1)) := ⟨_, rfl⟩
  have hrz : ∀ ty, (Builtin.append_ #[33, 3] ty #[.slice (some ⟨g, 0, none⟩) i cap, .int .i64 ((cap : Int) + 1 - (i : Int))]).run Try.prog w = .ok (.slice (some ⟨w.heap.size, 0, none⟩) (cap + 1) G) (w.drew.alloc (.cells ROW 3)) := fun ty => by
    have h := Lib.run_append_grow_zeros (P := Try.prog) w 33 3 ty 3 i0 _ .i64 .i64 u ui hin hz0 (some ⟨g, 0, none⟩) i cap ((intsV ks).take (i)) hold (cap + 1 - i) (by omega) (by rw [hz1]; omega) (by omega) (by omega) (by rw [hz2]; omega) (by rw [hz2, show i + (cap + 1 - i) = cap + 1 by omega]; exact growslice_fits (by omega) (by omega))
    rw [show i + (cap + 1 - i) = cap + 1 by omega, ← hG] at h
    rw [show (cap : Int) + 1 - (i : Int) = ((cap + 1 - i : Nat) : Int) by omega, hROW]
    exact h
  have hg1 := grownI_row hrow i G (by omega) hGn hGm
  rw [← hROW] at hg1
  obtain ⟨W1, hW1⟩ : ∃ W1, W1 = w.drew.alloc (.cells ROW 3) := ⟨_, rfl⟩
  obtain ⟨B, hB⟩ : ∃ B, B = w.heap.size := ⟨_, rfl⟩
  have hl1 : W1.heap[gl]? = some (.cells #[.int .i64 p] 3 (0, 0)) := by rw [hW1]; exact (Below.heap_alloc w.drew _ _ hlt).trans hl
  have hs1 : IRow w0 W1 g cap cap ks cur := by
    obtain ⟨r1, r2, r3, r4, r5, r6, r7, r8⟩ := hrow.drew
    exact ⟨r1, r2, by rw [hW1]; exact (Below.heap_alloc w.drew _ _ hbw).trans r3, r4, r5, r6, r7, by rw [hW1]; exact r8.alloc r8.size _⟩
  rw [← hW1] at hrz hg1
  rw [← hB] at hrz hg1
  have hBg : g ≠ B := by omega
  have hBl : gl ≠ B := by omega
  have hc1 := hg1.copyOk (i) 1 (by omega)
  have hcpA : ∀ ty dl dc, 1 = Nat.min 1 dl → (Builtin.copy_ #[33, 33] ty #[.slice (some ⟨B, i, none⟩) dl dc, .slice (some ⟨gl, 0, none⟩) 1 1]).run Try.prog W1 = .ok (goInt (1 : Nat)) (W1.setCells B (i) [.int .i64 p]) := fun ty dl dc hmin =>
    run_copy_in W1 ty B (i) _ dc ⟨gl, 0, none⟩ _ 1 1 _ hmin rfl (fun j v hj => by rw [addr_plusK, cells_of_row hl1, Nat.zero_add]; simpa using hj) hc1.1 hc1.2 (by intro v hv; simp at hv; subst hv; rfl)
  obtain ⟨cur2, hg2⟩ := writeI_mid (y := p) hg1 hA
  have hs2 : (W1.setCells B (i) [.int .i64 p]).heap[g]? = W1.heap[g]? := World.heap_setCells_other W1 B _ _ (Array.getElem?_eq_some_iff.1 hs1.2.2.1).1 hBg
  obtain ⟨W2, hW2⟩ : ∃ W2, W2 = W1.setCells B (i) [.int .i64 p] := ⟨_, rfl⟩
  rw [← hW2] at hcpA hg2 hs2
  have hs3 : IRow w0 W2 g cap cap ks cur := ⟨hs1.1, hs1.2.1, hs2.trans hs1.2.2.1, hs1.2.2.2.1, hs1.2.2.2.2.1, hs1.2.2.2.2.2.1, hs1.2.2.2.2.2.2.1, hg2.2.2.2.2.2.2.2⟩
  have hdl : (intsV (ks.drop i)).length = (cap - i) := by rw [intsV_len, List.length_drop, hk1]
  have hc3 := hg2.drew.copyOk ((i + 1)) ((cap - i)) (by omega)
  have hcpB : ∀ ty dl dc sl sc, cap - i = Nat.min sl dl → (Builtin.copy_ #[33, 33] ty #[.slice (some ⟨B, (i + 1), none⟩) dl dc, .slice (some ⟨g, i, none⟩) sl sc]).run Try.prog W2.drew = .ok (goInt (cap - i : Nat)) (W2.drew.setCells B ((i + 1)) (intsV (ks.drop i))) := fun ty dl dc sl sc hmin =>
    run_copy_in W2.drew ty B ((i + 1)) _ dc ⟨g, i, none⟩ _ sc (cap - i) _ hmin hdl (hs3.drew.srcOk i (by omega)) (fun j hj => hc3.1 j (by omega)) (fun j hj => hc3.2 j (by omega)) (intsV_one _)
  obtain ⟨cur3, hg3⟩ := writeI_tail (m := cap + 1) (C := ks.drop i) hg2.drew hA (by rw [List.length_drop]; omega) hGn
  have HFIN := Lib.hid (show IlD w0 (W2.drew.setCells B ((i + 1)) (intsV (ks.drop i))) (.slice (some ⟨B, 0, none⟩) (cap + 1) G) (insI ks p i) from hg3.ilD)
  have mixed : Try.prog.follows .mixedOrders = true := by kernel_rfl
  have hcm : G ≤ 9223372036854775807 := by unfold maxLen at hGm; omega
  have z11 : (i : Int) ≤ (cap : Int) + 1 := by omega
  have HGR := Lib.hid (show w.grownBy (W2.drew.setCells B ((i + 1)) (intsV (ks.drop i))) (some g) from by
    have h1 : Below w.heap.size w W1 := by rw [hW1]; exact ((Below.refl w.heap.size w).drew).alloc (Nat.le_refl _) _
    have h2 : Below w.heap.size w W2 := by rw [hW2]; exact Lib.below_setCells B (by omega) _ _ h1
    exact grown_of_below' (Lib.below_setCells B (by omega) _ _ h2.drew) _)
  have HBB := Lib.hid (show w.heap.size ≤ B by omega)
  have z1 : ¬ (i : Int) = (cap : Int) := by omega
  have z2 : (cap : Int) < (cap : Int) + 1 := by omega
  have z3 : (cap : Int) + 1 ≤ (G : Int) := by omega
  have z4 : (i : Int) ≤ (cap : Int) := by omega
  have z5 : (i : Int) + 1 ≤ (cap : Int) + 1 := by omega
  have z6 : ¬ cap = i := by omega
  have z7 : ¬ G = i + 1 := by omega
  have z7b : ¬ G = i := by omega
  have z8 : (0 : Int) ≤ (i : Int) + 1 := by omega
  have z9 : ((i : Int) + 1).toNat = i + 1 := by omega
  have w1 : IntKind.i64.wrap ((cap : Int) + 1) = (cap : Int) + 1 := IntWalk.i64_in _ (by omega)
  have w2 : IntKind.i64.wrap ((i : Int) + 1) = (i : Int) + 1 := IntWalk.i64_in _ (by omega)
  have w3 : IntKind.i64.wrap ((cap : Int) + 1 - (i : Int)) = (cap : Int) + 1 - (i : Int) := IntWalk.i64_in _ (by omega)
  clear hg3 hc3 hdl hs3 hW2 hs2 hg2 hc1 hs1 hl1 hW1 hg1 hROW hold hA hlt hbw hrow hl hk1 hG hGm hB hnc hroom
  go_enter Try.func72, Try.ntmps72
  have hcpx := hcpA 3 (cap + 1 - i) (G - i) (by simp only [Nat.min_def]; split <;> omega)
  clear hcpA
  go_wp2_with (at_builtin; refine Lib.wpList_append_run _ rfl _ _ _ _ rfl _ _ rfl rfl _ _ (hrz _) ?_)
  go_region_law_o (refine step_copy_runI rfl _ _ 33 33 rfl (.slice (some ⟨B, (i + 1), none⟩) (cap + 1 - (i + 1)) (G - (i + 1))) (.slice (some ⟨g, i, none⟩) (cap - i) (cap - i)) (by simp [Act.eval, Act.put]) (by simp [Act.eval, Act.put]) (hcpB 3 (cap + 1 - (i + 1)) (G - (i + 1)) (cap - i) (cap - i) (by simp only [Nat.min_def]; split <;> omega)) ?_)
  go_wp2
  go_ret
  exact ⟨_, rfl, HFIN.out, HGR.out, .inr fun b e => by have h : B = b := Option.some.inj e; have := HBB.out; omega⟩
set_option maxRecDepth 100000 in
set_option maxHeartbeats 4000000 in
theorem iinsertI_any (v : Value) (ks : List Int) (i gl : Nat) (p : Int) (w0 w : World) (hV : IlD w0 w v ks) (hl : w.heap[gl]? = some (.cells #[.int .i64 p] 3 (0, 0))) (hne : v.ownBlock ≠ some gl) (hi : i ≤ ks.length) (hs : ks.length ≤ 900000) :
    Calls Try.prog 72 #[v, .int .i64 i, .slice (some ⟨gl, 0, none⟩) 1 1] w fun e w' => ∃ v', e = .returned v' ∧ IlD w0 w' v' (insI ks p i) ∧ w.grownBy w' v.ownBlock ∧ (v'.ownBlock = v.ownBlock ∨ ∀ b, v'.ownBlock = some b → w.heap.size ≤ b) := by
  rcases Nat.lt_or_ge i ks.length with h1 | h1
  · rcases hV.row with ⟨rfl, rfl⟩ | ⟨g, cap, cur, rfl, hrow⟩
    · simp at h1
    · by_cases hroom : ks.length + 1 ≤ cap
      · exact iinsertI_room g _ cap i gl ks p cur w0 w hrow hl (fun e => hne (by rw [e]; rfl)) h1 hroom
      · exact iinsertI_grow g _ cap i gl ks p cur w0 w hrow hl h1 (by omega) hroom
  · obtain rfl : i = ks.length := by omega
    have HV := Lib.hid hV
    have HK := Lib.hid hl
    have HE := Lib.hid (show insI ks p ks.length = ks ++ [p] by simp [insI])
    rw [HE.out]
    rcases hV.row with ⟨rfl, rfl⟩ | ⟨g, cap, cur, rfl, hrow⟩
    · clear hV hl hne h1 hi HE
      simp only [List.length_nil]
      go_enter Try.func72, Try.ntmps72
      go_wp2_with (at_builtin; refine wpList_append_in2 rfl (.tmp 23) (.tmp 24) rfl HV.out.own gl p HK.out rfl rfl (by simp) HV.out.below.size ?_; intro v3 w3 ho3 hg3 hv3; have HV3 := Lib.hid (HV.out.push ho3 hg3); have HG3 := Lib.hid hg3; have HW3 := Lib.hid hv3; clear ho3 hg3 hv3)
      go_ret
      exact ⟨_, rfl, HV3.out, HG3.out, HW3.out.imp_right fun h b e => by have h1 := Option.some.inj (h.symm.trans e); omega⟩
    · have hcap := hrow.2.2.2.1
      have hcm := hrow.2.2.2.2.1
      unfold maxLen at hcm
      have z1 : (ks.length : Int) ≤ (cap : Int) := by omega
      clear hV hl hne h1 hi HE hrow
      go_enter Try.func72, Try.ntmps72
      go_wp2_with (at_builtin; refine wpList_append_in2 rfl (.tmp 23) (.tmp 24) rfl HV.out.own gl p HK.out rfl rfl (by omega) HV.out.below.size ?_; intro v3 w3 ho3 hg3 hv3; have HV3 := Lib.hid (HV.out.push ho3 hg3); have HG3 := Lib.hid hg3; have HW3 := Lib.hid hv3; clear ho3 hg3 hv3)
      all_goals (go_ret; exact ⟨_, rfl, HV3.out, HG3.out, HW3.out.imp_right fun h b e => by have h1 := Option.some.inj (h.symm.trans e); omega⟩)
end Go.Proofs.Ytpfnpinoamjcjaa
namespace Go.Proofs.Ytpfnpinoamjcjaa
open Go.ChangeShapes Go.WideShapes Go.ChangeAt Go.RowKit Go.BigFrame
set_option linter.unusedVariables false
set_option linter.unusedSimpArgs false

theorem cless_any (x y : Int) (w : World) : Calls Try.prog 77 #[.int .i64 x, .int .i64 y] w fun e w' => e = .returned (.bool (decide (x < y))) ∧ w' = w := by
  have HN := Lib.hid inan_any
  go_enter Try.func77, Try.ntmps77
  go_wp2_with fail
  refine (HN.out _ _).mono ?_
  rintro e w1 ⟨rfl, rfl⟩
  go_wp2
  go_ret
  exact ⟨by simp, rfl⟩
theorem snan_any (x : Int) (w : World) : Calls Try.prog 78 #[.int .i64 x] w fun e w' => e = .returned (.bool false) ∧ w' = w := by
  go_enter Try.func78, Try.ntmps78
  go_wp2
  go_ret
  exact ⟨by simp, rfl⟩
theorem spot_in {xs : List Int} {x : Int} {i : Nat} (hr : IRis xs) (hi : i ≤ xs.length) (h1 : i = 0 ∨ xs[i - 1]?.getD 0 < x) (h2 : i = xs.length ∨ x ≤ xs[i]?.getD 0) : (∀ y ∈ xs.take i, y < x) ∧ (∀ y ∈ xs.drop i, x ≤ y) ∧ (x ∈ xs ↔ i < xs.length ∧ xs[i]?.getD 0 = x) := by
  have hp := hr
  unfold IRis at hp
  rw [List.pairwise_iff_getElem] at hp
  have ha : ∀ y ∈ xs.take i, y < x := by
    intro y hy
    obtain ⟨j, hj, rfl⟩ := List.getElem_of_mem hy
    rw [List.length_take] at hj
    have h3 := h1.resolve_left (by omega)
    rw [List.getElem?_eq_getElem (show i - 1 < xs.length by omega), Option.getD_some] at h3
    rw [List.getElem_take]
    rcases (by omega : j = i - 1 ∨ j < i - 1) with h4 | h4
    · subst h4; exact h3
    · have := hp j (i - 1) (by omega) (by omega) h4
      omega
  have hb : ∀ y ∈ xs.drop i, x ≤ y := by
    intro y hy
    obtain ⟨j, hj, rfl⟩ := List.getElem_of_mem hy
    rw [List.length_drop] at hj
    have h3 := h2.resolve_left (by omega)
    rw [List.getElem?_eq_getElem (show i < xs.length by omega), Option.getD_some] at h3
    rw [List.getElem_drop]
    rcases Nat.eq_zero_or_pos j with h4 | h4
    · subst h4; simp only [Nat.add_zero]; omega
    · have := hp i (i + j) (by omega) (by omega) (by omega)
      omega
  refine ⟨ha, hb, ?_, ?_⟩
  · intro hx
    rw [← List.take_append_drop i xs, List.mem_append] at hx
    rcases hx with hx | hx
    · have := ha x hx; omega
    · obtain ⟨j, hj, he⟩ := List.getElem_of_mem hx
      rw [List.length_drop] at hj
      have h3 := h2.resolve_left (by omega)
      rw [List.getElem?_eq_getElem (show i < xs.length by omega), Option.getD_some] at h3 ⊢
      rw [List.getElem_drop] at he
      rcases Nat.eq_zero_or_pos j with h4 | h4
      · subst h4
        exact ⟨by omega, by simpa using he⟩
      · have := hp i (i + j) (by omega) (by omega) (by omega)
        omega
  · rintro ⟨hl, he⟩
    rw [List.getElem?_eq_getElem hl, Option.getD_some] at he
    rw [← he]
    exact List.getElem_mem hl
set_option maxRecDepth 100000 in
set_option maxHeartbeats 4000000 in
theorem ibs_any (v : Value) (xs : List Int) (x : Int) (w : World) (h : inAt w v xs) (hr : IRis xs) (hs : xs.length ≤ 2000000) :
    Calls Try.prog 71 #[v, .int .i64 x] w fun e w' => ∃ i : Nat, e = .returned (.tuple #[.int .i64 i, .bool (decide (x ∈ xs))]) ∧ (i ≤ xs.length ∧ (∀ y ∈ xs.take i, y < x) ∧ ∀ y ∈ xs.drop i, x ≤ y) ∧ Below w.heap.size w w' := by
  obtain ⟨a, cap, rfl, hcap, hcells⟩ := h
  have HL := Lib.hid cless_any
  have HN := Lib.hid snan_any
  go_enter Try.func71, Try.ntmps71
  go_wp2
  go_loopw [7, 8] (fun s7 s8 wr => ∃ lo hi : Nat, s7 = .int .i64 lo ∧ s8 = .int .i64 hi ∧ lo ≤ hi ∧ hi ≤ xs.length ∧ (lo = 0 ∨ xs[lo - 1]?.getD 0 < x) ∧ (hi = xs.length ∨ x ≤ xs[hi]?.getD 0) ∧ Below w.heap.size w wr) (fun s7 s8 _ => (intOf s8).toNat - (intOf s7).toNat)
  case atStart => exact ⟨0, xs.length, rfl, rfl, Nat.zero_le _, Nat.le_refl _, .inl rfl, .inl rfl, Below.refl _ _⟩
  case round =>
    obtain ⟨lo, hi, rfl, rfl, hlh, hin, h1, h2, hb⟩ := hrel
    have H1 := Lib.hid h1
    have H2 := Lib.hid h2
    have HB := Lib.hid hb
    clear h1 h2 hb
    by_cases hlt : lo < hi
    · obtain ⟨g, off, rfl, hg, hcs⟩ := hcells.resolve_left (by omega)
      obtain ⟨m, hm⟩ : ∃ m, m = (lo + hi) / 2 := ⟨_, rfl⟩
      have em : ((lo : Int) + (hi : Int)) / 2 = (m : Int) := by omega
      have hml : m < xs.length := by omega
      have hmlo : lo ≤ m := by omega
      have hmhi : m < hi := by omega
      have zl : (lo : Int) < (hi : Int) := by omega
      have z0 : (0 : Int) ≤ (m : Int) := by omega
      have z1 : (m : Int) < (xs.length : Int) := by omega
      have D1 := (HB.out.cell (p := ⟨g, off + m, none⟩) hg).trans (hcs m hml)
      clear hcs hcells hm
      by_cases hz : xs[m]?.getD 0 < x
      · have HX := Lib.hid (show m + 1 = 0 ∨ xs[m + 1 - 1]?.getD 0 < x from .inr hz)
        generalize xs[m]?.getD 0 = y at *
        go_wp2_with fail
        refine (HL.out _ _ _).mono ?_
        rintro e w2 ⟨rfl, rfl⟩
        rw [decide_eq_true hz]
        clear D1 hz
        go_wp2
        exact ⟨⟨m + 1, hi, by go_num, rfl, by omega, hin, HX.out, H2.out, HB.out⟩, by simp [intOf]; omega⟩
      · have HX := Lib.hid (show m = xs.length ∨ x ≤ xs[m]?.getD 0 from .inr (by omega))
        generalize hy : xs[m]?.getD 0 = y at hz D1
        clear hy
        go_wp2_with fail
        refine (HL.out _ _ _).mono ?_
        rintro e w2 ⟨rfl, rfl⟩
        rw [decide_eq_false (by omega)]
        clear D1 hz
        go_wp2
        exact ⟨⟨lo, m, rfl, rfl, by omega, by omega, H1.out, HX.out, HB.out⟩, by simp [intOf]; omega⟩
    · obtain rfl : hi = lo := by omega
      obtain ⟨s1, s2, s3⟩ := spot_in hr hin H1.out H2.out
      have HSP := Lib.hid (And.intro hin (And.intro s1 s2))
      clear s1 s2 H1 H2
      by_cases hn : hi < xs.length
      · obtain ⟨g, off, rfl, hg, hcs⟩ := hcells.resolve_left (by omega)
        have z0 : (0 : Int) ≤ (hi : Int) := by omega
        have z1 : (hi : Int) < (xs.length : Int) := by omega
        have D1 := (HB.out.cell (p := ⟨g, off + hi, none⟩) hg).trans (hcs hi hn)
        clear hcs hcells
        by_cases hz : xs[hi]?.getD 0 = x
        · have hd : decide (x ∈ xs) = true := decide_eq_true (s3.2 ⟨hn, hz⟩)
          have HD := Lib.hid hd
          rw [hz] at D1
          clear s3 hd hz
          go_wp2
          go_ret2
          exact ⟨hi, by rw [HD.out]; first | rfl | simp [*], HSP.out, HB.out⟩
        · have hd : decide (x ∈ xs) = false := decide_eq_false fun h => hz (s3.1 h).2
          have HD := Lib.hid hd
          clear s3 hd
          generalize xs[hi]?.getD 0 = y at *
          go_wp2_with (go_at_call 78; refine (HN.out _ _).mono ?_; rintro e w2 ⟨rfl, rfl⟩)
          go_ret2
          exact ⟨hi, by rw [HD.out]; first | rfl | simp [*], HSP.out, HB.out⟩
      · have z1 : ¬ (hi : Int) < (xs.length : Int) := by omega
        have hd : decide (x ∈ xs) = false := decide_eq_false fun h => hn (s3.1 h).1
        have HD := Lib.hid hd
        clear s3 hd hcells
        go_wp2
        go_ret2
        exact ⟨hi, by rw [HD.out]; first | rfl | simp [*], HSP.out, HB.out⟩
end Go.Proofs.Ytpfnpinoamjcjaa
namespace Go.Proofs.Ytpfnpinoamjcjaa
open Go.ChangeShapes Go.WideShapes Go.ChangeAt Go.RowKit Go.BigFrame
set_option linter.unusedVariables false
set_option linter.unusedSimpArgs false

theorem ins_rising {xs : List Int} {x : Int} {i : Nat} (hr : IRis xs) (h1 : ∀ y ∈ xs.take i, y < x) (h2 : ∀ y ∈ xs.drop i, x ≤ y) (hn : x ∉ xs) : IRis (insI xs x i) := by
  have e := List.take_append_drop i xs
  have hr2 := hr
  rw [← e] at hr2
  obtain ⟨a1, a2, a3⟩ := iris_append.1 hr2
  unfold insI
  refine iris_append.2 ⟨a1, List.pairwise_cons.2 ⟨fun y hy => ?_, a2⟩, fun y hy z hz => ?_⟩
  · have := h2 y hy
    have hne : x ≠ y := fun e => hn (e ▸ List.mem_of_mem_drop hy)
    omega
  · rcases List.mem_cons.1 hz with rfl | hz
    · exact h1 y hy
    · exact a3 y hy z hz
theorem insI_mem {xs : List Int} {x y : Int} {i : Nat} : y ∈ insI xs x i ↔ y = x ∨ y ∈ xs := by
  unfold insI
  have e : y ∈ xs ↔ y ∈ xs.take i ∨ y ∈ xs.drop i := by rw [← List.mem_append, List.take_append_drop]
  rw [List.mem_append, List.mem_cons, e]
  constructor
  · rintro (h | h | h)
    · exact .inr (.inl h)
    · exact .inl h
    · exact .inr (.inr h)
  · rintro (h | h | h)
    · exact .inr (.inl h)
    · exact .inl h
    · exact .inr (.inr h)
theorem insI_len {xs : List Int} {x : Int} {i : Nat} (h : i ≤ xs.length) : (insI xs x i).length = xs.length + 1 := by unfold insI; simp; omega
/-- what holds of what was found and of what is still to be looked at; those of E are looked at already, though not known to be -/
structure CtP (ks : List K2) (id : Int) (E : Int → Prop) (F H : List Int) : Prop where
  ris : IRis F
  rch : ∀ y ∈ F, y ≠ id ∧ Rch ks id y
  sub : ∀ y ∈ H, y = id ∨ y ∈ F
  all : ∀ x, (x = id ∨ x ∈ F) → x ∈ H ∨ E x ∨ ∀ z ∈ nearM ks x, z = id ∨ z ∈ F
  len : H.length ≤ F.length + 1
theorem CtP.few {ks : List K2} {id : Int} {E : Int → Prop} {F H : List Int} (h : CtP ks id E F H) : F.length ≤ 22 :=
  reach_few (ks := ks) (id := id) (h.ris.imp fun {a b} hab => by omega) fun y hy => (h.rch y hy).2
theorem CtP.start (ks : List K2) (id : Int) : CtP ks id (fun _ => False) [] [id] :=
  ⟨List.Pairwise.nil, by simp, by simp, fun x hx => .inl (by rcases hx with rfl | h; simp; simp at h), by simp⟩
theorem CtP.pop {ks : List K2} {id x : Int} {F H H' : List Int} (h : CtP ks id (fun _ => False) F H) (hl : H'.length + 1 = H.length) (hm : ∀ y, y ∈ H ↔ y = x ∨ y ∈ H') : CtP ks id (fun y => y = x) F H' ∧ (x = id ∨ x ∈ F) := by
  refine ⟨⟨h.ris, h.rch, fun y hy => h.sub y ((hm y).2 (.inr hy)), fun y hy => ?_, by have := h.len; omega⟩, h.sub x ((hm x).2 (.inl rfl))⟩
  rcases h.all y hy with h1 | h1 | h1
  · rcases (hm y).1 h1 with h2 | h2
    · exact .inr (.inl h2)
    · exact .inl h2
  · exact h1.elim
  · exact .inr (.inr h1)
theorem CtP.put {ks : List K2} {id x y : Int} {F H H' : List Int} {i : Nat} (h : CtP ks id (fun y => y = x) F H) (hx : x = id ∨ x ∈ F) (hy : y ∈ nearM ks x) (hn : y ∉ F) (hid : y ≠ id) (hi : i ≤ F.length) (h1 : ∀ z ∈ F.take i, z < y) (h2 : ∀ z ∈ F.drop i, y ≤ z)
    (hl : H'.length = H.length + 1) (hm : ∀ z, z ∈ H' ↔ z = y ∨ z ∈ H) : CtP ks id (fun y => y = x) (insI F y i) H' := by
  refine ⟨ins_rising h.ris h1 h2 hn, fun z hz => ?_, fun z hz => ?_, fun z hz => ?_, by rw [insI_len hi]; have := h.len; omega⟩
  · rcases insI_mem.1 hz with rfl | hz
    · refine ⟨hid, ?_⟩
      rcases hx with rfl | hx
      · exact Rch.one hy
      · exact (h.rch x hx).2.step hy
    · exact h.rch z hz
  · rcases (hm z).1 hz with rfl | hz
    · exact .inr (insI_mem.2 (.inl rfl))
    · exact (h.sub z hz).imp_right fun h => insI_mem.2 (.inr h)
  · by_cases e : z = y
    · exact .inl ((hm z).2 (.inl e))
    · have hz2 : z = id ∨ z ∈ F := hz.imp_right fun h => (insI_mem.1 h).resolve_left e
      rcases h.all z hz2 with h3 | h3 | h3
      · exact .inl ((hm z).2 (.inr h3))
      · exact .inr (.inl h3)
      · exact .inr (.inr fun u hu => (h3 u hu).imp_right fun h => insI_mem.2 (.inr h))
theorem CtP.done {ks : List K2} {id x : Int} {F H : List Int} (h : CtP ks id (fun y => y = x) F H) (hn : ∀ z ∈ nearM ks x, z = id ∨ z ∈ F) : CtP ks id (fun _ => False) F H :=
  ⟨h.ris, h.rch, h.sub, fun y hy => by
    rcases h.all y hy with h1 | h1 | h1
    · exact .inl h1
    · exact .inr (.inr (by rw [h1]; exact hn))
    · exact .inr (.inr h1), h.len⟩
theorem CtP.fin {ks : List K2} {id : Int} {F : List Int} (h : CtP ks id (fun _ => False) F []) : RL ks id F := by
  refine ⟨h.ris, fun y => ⟨fun hy => h.rch y hy, fun hy => ?_⟩⟩
  have hc : y ∈ id :: F := closed_all (ks := ks) (id := id) (by simp) (fun x hx z hz => by
    rcases h.all x (List.mem_cons.1 hx) with h1 | h1 | h1
    · simp at h1
    · exact h1.elim
    · exact List.mem_cons.2 (h1 z hz)) hy.2
  exact (List.mem_cons.1 hc).resolve_left hy.1
/-- the memory of comeTo: what was found, and the heap -/
structure CtM (w wr : World) (B : Nat) (fv vH : Value) (F H : List Int) : Prop where
  found : IlD w wr fv F
  hp : HpS w.heap.size wr B vH H
  ge : w.heap.size ≤ B
  nfB : fv.ownBlock ≠ some B
  nfH : ∀ b, fv.ownBlock = some b → vH.ownBlock ≠ some b
theorem CtM.next {w wr w1 : World} {B : Nat} {fv vH : Value} {F H : List Int} (h : CtM w wr B fv vH F H) (hb : Below wr.heap.size wr w1) : CtM w w1 B fv vH F H := ⟨h.found.next hb, h.hp.next hb, h.ge, h.nfB, h.nfH⟩
theorem CtM.heap {w wr w1 : World} {B : Nat} {fv vH vH' : Value} {F H H' : List Int} (h : CtM w wr B fv vH F H) (hk : KeepX (fun j => j = B ∨ vH.ownBlock = some j) wr w1) (hp : HpS w.heap.size w1 B vH' H') (hn : vH'.ownBlock = vH.ownBlock ∨ ∀ b, vH'.ownBlock = some b → wr.heap.size ≤ b) : CtM w w1 B fv vH' F H' := by
  refine ⟨⟨hk.own h.found.own (fun b e hx => ?_), hk.toBelow h.found.below h.found.below.size (fun k hx => ?_)⟩, hp, h.ge, h.nfB, fun b e e2 => ?_⟩
  · rcases hx with rfl | hx
    · exact h.nfB e
    · exact h.nfH b e hx
  · rcases hx with rfl | hx
    · exact h.ge
    · exact (h.hp.own.lt k hx).1
  · rcases hn with h1 | h1
    · exact h.nfH b e (h1.symm.trans e2)
    · have h2 := h1 b e2
      have h3 := (h.found.own.lt b e).2
      omega
theorem CtM.put {w wr w1 : World} {B : Nat} {fv fv' vH : Value} {F F' H : List Int} (h : CtM w wr B fv vH F H) (hf : IlD w w1 fv' F') (hg : wr.grownBy w1 fv.ownBlock) (hn : fv'.ownBlock = fv.ownBlock ∨ ∀ b, fv'.ownBlock = some b → wr.heap.size ≤ b) : CtM w w1 B fv' vH F' H := by
  have hk : KeepX (fun j => fv.ownBlock = some j) wr w1 := KeepX.grown hg (fun k e => e)
  refine ⟨hf, h.hp.keep hk (fun e => h.nfB e) (fun b e hx => h.nfH b hx e), h.ge, fun e => ?_, fun b e e2 => ?_⟩
  · rcases hn with h1 | h1
    · exact h.nfB (h1.symm.trans e)
    · have h2 := h1 B e
      have h3 := (Array.getElem?_eq_some_iff.1 h.hp.box).1
      omega
  · rcases hn with h1 | h1
    · exact h.nfH b (h1.symm.trans e) e2
    · have h2 := h1 b e
      have h3 := (h.hp.own.lt b e2).2
      omega
/-- the memory of who is near, while found and heap grow -/
structure NrM (lo hi : Nat) (wr : World) (vn : Value) (N : List Int) (B : Nat) (fv vH : Value) : Prop where
  own : wr.ownsRow lo 3 1 vn N.length (intsV N)
  lt : ∀ b, vn.ownBlock = some b → b < hi
  hi : hi ≤ wr.heap.size
  nB : vn.ownBlock ≠ some B
  nF : ∀ b, vn.ownBlock = some b → fv.ownBlock ≠ some b
  nH : ∀ b, vn.ownBlock = some b → vH.ownBlock ≠ some b
theorem NrM.next {lo hi : Nat} {wr w1 : World} {vn : Value} {N : List Int} {B : Nat} {fv vH : Value} (h : NrM lo hi wr vn N B fv vH) (hb : Below wr.heap.size wr w1) : NrM lo hi w1 vn N B fv vH := ⟨own_below h.own hb, h.lt, Nat.le_trans h.hi hb.size, h.nB, h.nF, h.nH⟩
theorem NrM.heap {lo hi : Nat} {wr w1 : World} {vn : Value} {N : List Int} {B : Nat} {fv vH vH' : Value} (h : NrM lo hi wr vn N B fv vH) (hk : KeepX (fun j => j = B ∨ vH.ownBlock = some j) wr w1) (hn : vH'.ownBlock = vH.ownBlock ∨ ∀ b, vH'.ownBlock = some b → wr.heap.size ≤ b) : NrM lo hi w1 vn N B fv vH' := by
  refine ⟨hk.own h.own (fun b e hx => ?_), h.lt, Nat.le_trans h.hi hk.size, h.nB, h.nF, fun b e e2 => ?_⟩
  · rcases hx with rfl | hx
    · exact h.nB e
    · exact h.nH b e hx
  · rcases hn with h1 | h1
    · exact h.nH b e (h1.symm.trans e2)
    · have h2 := h1 b e2
      have h3 := h.lt b e
      have h4 := h.hi
      omega
theorem NrM.put {lo hi : Nat} {wr w1 : World} {vn : Value} {N : List Int} {B : Nat} {fv fv' vH : Value} (h : NrM lo hi wr vn N B fv vH) (hg : wr.grownBy w1 fv.ownBlock) (hn : fv'.ownBlock = fv.ownBlock ∨ ∀ b, fv'.ownBlock = some b → wr.heap.size ≤ b) : NrM lo hi w1 vn N B fv' vH := by
  have hk : KeepX (fun j => fv.ownBlock = some j) wr w1 := KeepX.grown hg (fun k e => e)
  refine ⟨hk.own h.own (fun b e hx => h.nF b e hx), h.lt, Nat.le_trans h.hi hk.size, h.nB, fun b e e2 => ?_, h.nH⟩
  rcases hn with h1 | h1
  · exact h.nF b e (h1.symm.trans e2)
  · have h2 := h1 b e2
    have h3 := h.lt b e
    have h4 := h.hi
    omega
end Go.Proofs.Ytpfnpinoamjcjaa
namespace Go.Proofs.Ytpfnpinoamjcjaa
open Go.ChangeShapes Go.WideShapes Go.ChangeAt Go.RowKit Go.BigFrame
set_option linter.unusedVariables false
set_option linter.unusedSimpArgs false

theorem tassert (x : Int) (w : World) : (Instr.typeAssert (.iface 3 (.int .i64 x)) 20 3 false).run Try.prog w = .ok (.int .i64 x) w := by
  rfl
set_option maxRecDepth 100000 in
set_option maxHeartbeats 8000000 in
theorem icometo_any (bx : Nat) (v : Value) (ks : List K2) (id : Int) (w : World) (h : keysAt w v ks) (hr : w.heap[bx]? = some (.cells #[v] 24 (0, 0))) (hl : lnsB ks = true) (M : List Int) (hM : RL ks id M) :
    Calls Try.prog 57 #[.int .i64 id, .func (.func 67) #[] #[.pointer (some ⟨bx, 0, none⟩)]] w fun e w' => ∃ v', e = .returned v' ∧ IlD w w' v' M := by
  have hlen := ((lns_iff ks).1 hl).1
  have HNR := Lib.hid (fun y wx (hb : Below w.heap.size w wx) => show Calls Try.prog 67 #[.int .i64 y, .pointer (some ⟨bx, 0, none⟩)] wx (fun e w' => ∃ v', e = .returned v' ∧ IlD wx w' v' (nearM ks y)) from by
    have := inear1_any bx v ks y wx (keysAt_below h hb) ((hb.block _ (Array.getElem?_eq_some_iff.1 hr).1).trans hr) (by omega)
    unfold nearM
    rw [if_pos hl]
    exact this)
  have HML := Lib.hid (fun F (hF : RL ks id F) => hF.ext hM)
  have HNL := Lib.hid (fun y => show (nearM ks y).length ≤ 30 from by
    unfold nearM
    rw [if_pos hl]
    exact Nat.le_trans (List.length_filterMap_le _ _) hlen)
  have hA := heap_first w (.cells #[.slice (some ⟨w.heap.size, 0, none⟩) 1 1] 79) (.cells #[.int .i64 id] 3)
  have hB := heap_alloc_new (w.alloc (.cells #[.int .i64 id] 3)) (.cells #[.slice (some ⟨w.heap.size, 0, none⟩) 1 1] 79)
  rw [show (w.alloc (.cells #[.int .i64 id] 3)).heap.size = w.heap.size + 1 by simp] at hB
  have hb0 := ((Below.refl w.heap.size w).alloc (Nat.le_refl _) (.cells #[.int .i64 id] 3)).alloc (by simp) (.cells #[.slice (some ⟨w.heap.size, 0, none⟩) 1 1] 79)
  have HM0 := Lib.hid (show CtM w ((w.alloc (.cells #[.int .i64 id] 3)).alloc (.cells #[.slice (some ⟨w.heap.size, 0, none⟩) 1 1] 79)) (w.heap.size + 1) (.slice none 0 0) (.slice (some ⟨w.heap.size, 0, none⟩) 1 1) [] [id] from
    ⟨⟨World.ownsRow_nil _ _ _ _, hb0⟩, ⟨hB, ⟨rfl, .inr ⟨w.heap.size, 1, #[.int .i64 id], rfl, Nat.le_refl _, hA, Nat.le_refl _, by unfold maxLen; omega, rfl, rfl⟩⟩, fun e => by have h : w.heap.size = w.heap.size + 1 := Option.some.inj e; omega⟩, by omega, (fun e => by cases e), (fun b e => by cases e)⟩)
  have HP0 := Lib.hid (CtP.start ks id)
  clear h hr hl hM hA hB hb0
  generalize hBB : w.heap.size + 1 = B at *
  go_enter Try.func57, Try.ntmps57
  go_wp2
  try rw [hBB]
  generalize (w.alloc (.cells #[.int .i64 id] 3)).alloc (.cells #[.slice (some ⟨w.heap.size, 0, none⟩) 1 1] 79) = W0 at *
  clear hBB
  go_loopg [5] 45 (fun gh fv wr => ∃ (F H : List Int) (vH fv0 : Value), fv0 = fv ∧ 2 * (22 - F.length) + H.length ≤ gh ∧ CtP ks id (fun _ => False) F H ∧ CtM w wr B fv vH F H)
  case atStart => exact ⟨[], [id], _, _, rfl, by simp, HP0.out, HM0.out⟩
  case round =>
    obtain ⟨F, H, vH, fv, rfl, hgh, hP, hM⟩ := hrel
    have HP := Lib.hid hP
    have HM := Lib.hid hM
    have hfew := hP.few
    have hHl := hP.len
    obtain ⟨ha, hc, hsh⟩ := hM.hp.shape
    subst hsh
    have c0 := hM.hp.cell.1
    clear hP hM HP0 HM0
    by_cases hz : H.length = 0
    · obtain rfl : H = [] := List.length_eq_zero_iff.1 hz
      have HE := Lib.hid (HML.out F HP.out.fin)
      obtain ⟨fa, fc, hfs⟩ := HM.out.found.shape
      subst hfs
      go_wp2_with fail
      refine (hlen_any _ _ _ _).mono ?_
      rintro e w1 ⟨rfl, rfl⟩
      go_wp2
      go_ret
      exact ⟨_, rfl, by rw [← HE.out]; exact HM.out.found⟩
    · obtain ⟨m, hm⟩ : ∃ m, H.length = m + 1 := ⟨H.length - 1, by omega⟩
      have z1 : (0 : Int) < (H.length : Int) := by omega
      have HPOP := Lib.hid (hpop_any w.heap.size B m _ H _ HM.out.hp hm (by omega))
      go_wp2_with fail
      refine (hlen_any _ _ _ _).mono ?_
      rintro e w1 ⟨rfl, rfl⟩
      go_wp2_with fail
      refine HPOP.out.mono ?_
      rintro e w2 ⟨x, v2, H2, rfl, ⟨hl2, hm2⟩, hp2, hb2, hk2⟩
      obtain ⟨hP2, hx⟩ := HP.out.pop (x := x) (H' := H2) (by omega) hm2
      have HP2 := Lib.hid hP2
      have HX := Lib.hid hx
      have HM2 := Lib.hid (HM.out.heap hk2 hp2 (.inl hb2))
      have hgh2 := Nat.le_trans (show 2 * (22 - F.length) + H2.length + 1 ≤ 2 * (22 - F.length) + H.length by omega) hgh
      clear hP2 hx hk2 hp2 hb2 hm2 HP HM HPOP c0 hz z1
      have hta := tassert x w2
      go_wp2_with fail
      refine (HNR.out x _ HM2.out.found.below).mono ?_
      rintro e w3 ⟨vn, rfl, hN⟩
      have HN := Lib.hid hN
      have HM3 := Lib.hid (HM2.out.next hN.below)
      have hNl := HNL.out x
      obtain ⟨na, nc, hns⟩ := hN.shape
      have HNM := Lib.hid (show NrM w2.heap.size w3.heap.size w3 vn (nearM ks x) B fv v2 from ⟨hN.own, fun b e => (hN.own.lt b e).2, Nat.le_refl _, fun e => by have h1 := (hN.own.lt B e).1; have h2 := (Array.getElem?_eq_some_iff.1 HM2.out.hp.box).1; omega, fun b e e2 => by have h1 := (hN.own.lt b e).1; have h2 := (HM2.out.found.own.lt b e2).2; omega, fun b e e2 => by have h1 := (hN.own.lt b e).1; have h2 := (HM2.out.hp.own.lt b e2).2; omega⟩)
      generalize hNN : nearM ks x = N at *
      have HEN := Lib.hid hNN
      subst hns
      clear hNN hN HM2 hta HN
      obtain ⟨T, hT⟩ : ∃ T, T = 2 * (22 - F.length) + H2.length := ⟨_, rfl⟩
      have hT1 : 2 * (22 - F.length) + H2.length ≤ T := by omega
      rw [← hT] at hgh2
      clear hT hgh hfew hHl hl2
      go_wp2
      go_loopw [5, 26] (fun fv i wr => ∃ (k : Nat) (F' H' : List Int) (vH' fv0 : Value), fv0 = fv ∧ k ≤ N.length ∧ i = .int .i64 k ∧ (CtP ks id (fun y => y = x) F' H' ∧ (x = id ∨ x ∈ F') ∧ (∀ z ∈ N.take k, z = id ∨ z ∈ F') ∧ 2 * (22 - F'.length) + H'.length ≤ T) ∧ CtM w wr B fv vH' F' H' ∧ NrM w2.heap.size w3.heap.size wr (.slice na N.length nc) N B fv vH') (fun _ i _ => N.length - (intOf i).toNat)
      case atStart => exact ⟨0, F, H2, v2, _, rfl, Nat.zero_le _, rfl, ⟨HP2.out, HX.out, by simp, hT1⟩, HM3.out, HNM.out⟩
      case round =>
        obtain ⟨k, F', H', vH', fv', rfl, hk, rfl, ⟨hP', hx', hN', hT'⟩, hM', hNM'⟩ := hrel
        have HP' := Lib.hid hP'
        have HX' := Lib.hid hx'
        have HN' := Lib.hid hN'
        have HM' := Lib.hid hM'
        have HNM' := Lib.hid hNM'
        have hfew' := hP'.few
        have hHl' := hP'.len
        clear hP' hx' hN' hM' hNM' HP2 HX HM3 HNM hT1
        by_cases hlt : k < N.length
        · obtain ⟨g, gcap, hgs⟩ := ownsRow_shape1 HNM'.out.own (by omega)
          obtain ⟨rfl, rfl⟩ : na = some ⟨g, 0, none⟩ ∧ nc = gcap := by cases hgs; exact ⟨rfl, rfl⟩
          have z0 : (0 : Int) ≤ (k : Int) := by omega
          have z1 : (k : Int) < (N.length : Int) := by omega
          have D1 := own_int HNM'.out.own k hlt
          have HMEM := Lib.hid (show N[k]?.getD 0 ∈ N by simp [hlt])
          have HTK := Lib.hid (show ∀ F'' : List Int, (∀ z ∈ N.take k, z = id ∨ z ∈ F'') → (N[k]?.getD 0 = id ∨ N[k]?.getD 0 ∈ F'') → ∀ z ∈ N.take (k + 1), z = id ∨ z ∈ F'' from fun F'' h1 h2 z hz => by
            have e : N[k]?.toList = [N[k]?.getD 0] := by simp [hlt]
            rw [List.take_add_one, e, List.mem_append, List.mem_singleton] at hz
            rcases hz with hz | rfl
            · exact h1 z hz
            · exact h2)
          generalize N[k]?.getD 0 = y at *
          have HBS := Lib.hid (ibs_any fv' F' y _ HM'.out.found.at HP'.out.ris (by omega))
          obtain ⟨fa, fc, hfs⟩ := HM'.out.found.shape
          subst hfs
          go_wp2_with fail
          refine HBS.out.mono ?_
          rintro e w4 ⟨i, rfl, ⟨hi, hi1, hi2⟩, hb4⟩
          have HI := Lib.hid (And.intro hi (And.intro hi1 hi2))
          have HM4 := Lib.hid (HM'.out.next hb4)
          have HNM4 := Lib.hid (HNM'.out.next hb4)
          clear hi hi1 hi2 hb4 HM' HNM' HBS D1
          by_cases hkn : y ∈ F'
          · rw [decide_eq_true hkn]
            have HK2 := Lib.hid (HTK.out F' HN'.out (.inr hkn))
            clear hkn
            go_wp2
            exact ⟨⟨k + 1, F', H', vH', _, rfl, by omega, by go_num, ⟨HP'.out, HX'.out, HK2.out, hT'⟩, HM4.out, HNM4.out⟩, by simp [intOf]; omega⟩
          · rw [decide_eq_false hkn]
            by_cases hyi : y = id
            · have HK2 := Lib.hid (HTK.out F' HN'.out (.inl hyi))
              subst hyi
              clear hkn
              go_wp2
              exact ⟨⟨k + 1, F', H', vH', _, rfl, by omega, by go_num, ⟨HP'.out, HX'.out, HK2.out, hT'⟩, HM4.out, HNM4.out⟩, by simp [intOf]; omega⟩
            · have HNK := Lib.hid hkn
              have hbn := (Below.refl w4.heap.size w4).alloc (Nat.le_refl _) (.cells #[.int .i64 y] 3)
              have HM5 := Lib.hid (HM4.out.next hbn)
              have HNM5 := Lib.hid (HNM4.out.next hbn)
              have HR5 := Lib.hid (heap_alloc_new w4 (.cells #[.int .i64 y] 3))
              have HNE5 := Lib.hid (show (Value.slice fa F'.length fc).ownBlock ≠ some w4.heap.size from fun e => by have := (HM4.out.found.own.lt _ e).2; omega)
              clear hkn hbn HM4 HNM4
              go_wp2_with fail
              generalize w4.alloc (.cells #[.int .i64 y] 3) = w5 at *
              refine (iinsertI_any _ F' i w4.heap.size y w w5 HM5.out.found HR5.out HNE5.out HI.out.1 (by omega)).mono ?_
              rintro e w6 ⟨f6, rfl, hf6, hg6, hn6⟩
              have HM6 := Lib.hid (HM5.out.put hf6 hg6 hn6)
              have HNM6 := Lib.hid (HNM5.out.put hg6 hn6)
              clear hf6 hg6 hn6 HM5 HNM5 HR5 HNE5
              have HPU := Lib.hid (hpush_any w.heap.size B vH' H' y w6 HM6.out.hp (by omega) HM6.out.found.below.size)
              go_wp2_with fail
              refine HPU.out.mono ?_
              rintro e w7 ⟨rfl, v7, H7, ⟨hl7, hm7⟩, hp7, hn7, hk7⟩
              have HM7 := Lib.hid (HM6.out.heap hk7 hp7 hn7)
              have HNM7 := Lib.hid (HNM6.out.heap hk7 hn7)
              have HP7 := Lib.hid (HP'.out.put (i := i) HX'.out (by rw [HEN.out]; exact HMEM.out) HNK.out hyi HI.out.1 HI.out.2.1 HI.out.2.2 hl7 hm7)
              have hl8 := insI_len (x := y) HI.out.1
              have hfw := HP7.out.few
              have HK2 := Lib.hid (HTK.out (insI F' y i) (fun z hz => (HN'.out z hz).imp_right fun h => insI_mem.2 (.inr h)) (.inr (insI_mem.2 (.inl rfl))))
              have HX7 := Lib.hid (HX'.out.imp_right fun h => insI_mem.2 (.inr h) : x = id ∨ x ∈ insI F' y i)
              have hT7 : 2 * (22 - (insI F' y i).length) + H7.length ≤ T := by omega
              clear hp7 hn7 hk7 hm7 HPU HM6 HNM6
              go_wp2
              exact ⟨⟨k + 1, _, H7, v7, _, rfl, by omega, by go_num, ⟨HP7.out, HX7.out, HK2.out, hT7⟩, HM7.out, HNM7.out⟩, by simp [intOf]; omega⟩
        · obtain rfl : k = N.length := by omega
          have HP9 := Lib.hid (HP'.out.done (by have := HN'.out; rw [List.take_length] at this; rw [HEN.out]; exact this))
          clear HP' HN'
          go_wp2
          go_roundg T
          case measure => omega
          case rel => exact ⟨F', H', vH', _, rfl, hT', HP9.out, HM'.out⟩
set_option maxRecDepth 100000 in
set_option maxHeartbeats 1000000 in
theorem ireach_any (v : Value) (ks : List K2) (id : Int) (w : World) (h : keysAt w v ks) (hs : ks.length ≤ 2000000) (M : List Int) (hM : RL ks id M) :
    Calls Try.prog 28 #[v, .int .i64 id] w fun e w' => ∃ v', e = .returned v' ∧ IlD w w' v' M := by
  have HLK := Lib.hid (ilinksok_any v ks w h hs)
  have HK := Lib.hid (fun wx (hb : Below w.heap.size w wx) => keysAt_below h hb)
  cases hl : lnsB ks with
  | false =>
    have HE := Lib.hid (show M = [] from by
      cases M with
      | nil => rfl
      | cons y r =>
        have h1 := ((hM.2 y).1 (by simp))
        cases h1.2 with
        | refl => exact absurd rfl h1.1
        | step _ hy => have := (mem_near.1 hy).1; rw [hl] at this; cases this)
    rw [hl] at HLK
    obtain ⟨a, cap, rfl, -, -⟩ := h
    clear hl
    go_enter Try.func28, Try.ntmps28
    go_wp2_with fail
    refine HLK.out.mono ?_
    rintro e w1 ⟨rfl, hb1⟩
    have HB1 := Lib.hid hb1
    clear hb1 HLK HK
    go_wp2
    go_ret
    exact ⟨_, rfl, by rw [HE.out]; exact ⟨World.ownsRow_nil _ _ _ _, HB1.out⟩⟩
  | true =>
    rw [hl] at HLK
    have HN := Lib.hid (fun bx wx (hr : wx.heap[bx]? = some (.cells #[v] 24 (0, 0))) (hk : keysAt wx v ks) => icometo_any bx v ks id wx hk hr hl M hM)
    obtain ⟨a, cap, rfl, -, -⟩ := h
    clear hl
    go_enter Try.func28, Try.ntmps28
    go_wp2_with fail
    refine HLK.out.mono ?_
    rintro e w1 ⟨rfl, hb1⟩
    have HB1 := Lib.hid hb1
    clear hb1 HLK
    go_wp2_with fail
    refine (inearby_any _ _ _ _).mono ?_
    rintro e w2 ⟨rfl, rfl⟩
    have hb2 := (Below.refl w1.heap.size w1).alloc (Nat.le_refl _) (.cells #[.slice a ks.length cap] 24)
    have HB2 := Lib.hid (HB1.out.trans (hb2.mono HB1.out.size))
    have HR := Lib.hid (heap_alloc_new w1 (.cells #[.slice a ks.length cap] 24))
    generalize w1.alloc (.cells #[.slice a ks.length cap] 24) = w3 at *
    go_wp2_with fail
    refine (HN.out _ _ HR.out (HK.out _ HB2.out)).mono ?_
    rintro e w4 ⟨v4, rfl, hL4⟩
    have HL4 := Lib.hid (hL4.base HB2.out)
    clear hL4 HN HK HR HB1 hb2
    go_wp2
    go_ret
    exact ⟨_, rfl, HL4.out⟩
end Go.Proofs.Ytpfnpinoamjcjaa
namespace Go.Proofs.Ytpfnpinoamjcjaa
open Go.ChangeShapes Go.WideShapes Go.ChangeAt Go.RowKit
set_option linter.unusedVariables false
set_option linter.unusedSimpArgs false

theorem nodup_sub : ∀ {L R : List Int}, L.Nodup → (∀ x ∈ L, x ∈ R) → L.length ≤ R.length
  | [], R, _, _ => by simp
  | x :: r, R, hn, h => by
    obtain ⟨hx, hr⟩ := List.nodup_cons.1 hn
    have hxR := h x (by simp)
    have h1 := nodup_sub (L := r) (R := R.erase x) hr (fun y hy => by
      have hne : y ≠ x := fun e => hx (e ▸ hy)
      exact (List.mem_erase_of_ne hne).2 (h y (by simp [hy])))
    have h2 := List.length_erase_of_mem hxR
    have h3 : 0 < R.length := List.length_pos_of_mem hxR
    simp only [List.length_cons]
    omega
theorem iris_nodup {L : List Int} (h : IRis L) : L.Nodup := h.imp fun {a b} hab => by omega
theorem RL.other {ks : List K2} {id y : Int} {M M' : List Int} (h : RL ks id M) (hy : y ∈ M) (h' : RL ks y M') : id ∈ M' ∧ M'.length = M.length := by
  obtain ⟨hne, hr⟩ := (h.2 y).1 hy
  have hid : id ∈ M' := (h'.2 id).2 ⟨fun e => hne e.symm, hr.symm⟩
  have hn1 : id ∉ M := fun hm => ((h.2 id).1 hm).1 rfl
  have hn2 : y ∉ M' := fun hm => ((h'.2 y).1 hm).1 rfl
  have a1 : (y :: M').length ≤ (id :: M).length := nodup_sub (List.nodup_cons.2 ⟨hn2, iris_nodup h'.1⟩) fun z hz => by
    rcases List.mem_cons.1 hz with rfl | hz
    · exact List.mem_cons.2 (.inr hy)
    · by_cases e : z = id
      · exact List.mem_cons.2 (.inl e)
      · exact List.mem_cons.2 (.inr ((h.2 z).2 ⟨e, hr.trans ((h'.2 z).1 hz).2⟩))
  have a2 : (id :: M).length ≤ (y :: M').length := nodup_sub (List.nodup_cons.2 ⟨hn1, iris_nodup h.1⟩) fun z hz => by
    rcases List.mem_cons.1 hz with rfl | hz
    · exact List.mem_cons.2 (.inr hid)
    · by_cases e : z = y
      · exact List.mem_cons.2 (.inl e)
      · exact List.mem_cons.2 (.inr ((h'.2 z).2 ⟨e, hr.symm.trans ((h.2 z).1 hz).2⟩))
  simp only [List.length_cons] at a1 a2
  exact ⟨hid, by omega⟩
end Go.Proofs.Ytpfnpinoamjcjaa
namespace Go.Proofs.Ytpfnpinoamjcjaa

theorem arc_len {ks : List K2} {p : Nat → Int} {lo hi t0 : Nat} {L : List Int} (hinj : ∀ s t, lo ≤ s → s ≤ hi → lo ≤ t → t ≤ hi → p s = p t → s = t) (hadj : ∀ t, lo ≤ t → t < hi → p (t + 1) ∈ nearM ks (p t))
    (hcl : ∀ t, lo ≤ t → t ≤ hi → ∀ y ∈ nearM ks (p t), ∃ s, (lo ≤ s ∧ s ≤ hi) ∧ y = p s) (h0 : lo ≤ t0 ∧ t0 ≤ hi) (hL : RL ks (p t0) L) : L.length = hi - lo := by
  have hlo : ∀ d, lo + d ≤ hi → Rch ks (p lo) (p (lo + d)) := by
    intro d
    induction d with
    | zero => intro _; exact .refl
    | succ d ih => intro h; exact (ih (by omega)).step (hadj (lo + d) (by omega) (by omega))
  have hall : ∀ s, lo ≤ s → s ≤ hi → Rch ks (p t0) (p s) := by
    intro s h1 h2
    have a1 := hlo (t0 - lo) (by omega)
    have a2 := hlo (s - lo) (by omega)
    rw [show lo + (t0 - lo) = t0 by omega] at a1
    rw [show lo + (s - lo) = s by omega] at a2
    exact a1.symm.trans a2
  have hback : ∀ y, Rch ks (p t0) y → ∃ s, (lo ≤ s ∧ s ≤ hi) ∧ y = p s := by
    intro y h
    induction h with
    | refl => exact ⟨t0, h0, rfl⟩
    | step _ hy ih =>
      obtain ⟨s, hs, rfl⟩ := ih
      exact hcl s hs.1 hs.2 _ hy
  have hA : ((List.range (hi - lo + 1)).map fun d => p (lo + d)).Nodup := by
    rw [List.Nodup, List.pairwise_map]
    refine List.Pairwise.imp_of_mem ?_ (List.nodup_range (n := hi - lo + 1))
    intro a b ha hb hab e
    have h1 := List.mem_range.1 ha
    have h2 := List.mem_range.1 hb
    have := hinj _ _ (by omega) (by omega) (by omega) (by omega) e
    exact hab (by omega)
  have hn : p t0 ∉ L := fun h => ((hL.2 _).1 h).1 rfl
  have e1 : (p t0 :: L).length ≤ ((List.range (hi - lo + 1)).map fun d => p (lo + d)).length := nodup_sub (List.nodup_cons.2 ⟨hn, iris_nodup hL.1⟩) fun y hy => by
    have hr : Rch ks (p t0) y := by
      rcases List.mem_cons.1 hy with rfl | hy
      · exact .refl
      · exact ((hL.2 y).1 hy).2
    obtain ⟨s, hs, rfl⟩ := hback y hr
    exact List.mem_map.2 ⟨s - lo, List.mem_range.2 (by omega), by rw [show lo + (s - lo) = s by omega]⟩
  have e2 : ((List.range (hi - lo + 1)).map fun d => p (lo + d)).length ≤ (p t0 :: L).length := nodup_sub hA fun y hy => by
    obtain ⟨d, hd, rfl⟩ := List.mem_map.1 hy
    have hd := List.mem_range.1 hd
    by_cases e : p (lo + d) = p t0
    · exact List.mem_cons.2 (.inl e)
    · exact List.mem_cons.2 (.inr ((hL.2 _).2 ⟨e, hall _ (by omega) (by omega)⟩))
  simp only [List.length_cons, List.length_map, List.length_range] at e1 e2
  omega
theorem near_iff {ks : List K2} (h : lnsB ks = true) {x y : Int} : y ∈ nearM ks x ↔ x ≠ y ∧ lnOf x y ∈ ks := by
  rw [mem_near]
  constructor
  · rintro ⟨-, k, hk, h2⟩
    obtain ⟨-, h4, h5⟩ := nrF_sym (((lns_iff ks).1 h).2.1 k hk) h2
    exact ⟨h5, h4 ▸ hk⟩
  · rintro ⟨h1, h2⟩
    refine ⟨h, _, h2, ?_⟩
    unfold lnOf nrF
    split
    · dsimp only
      rw [if_neg (by omega), if_pos rfl]
    · dsimp only
      rw [if_pos rfl]
theorem atL_none {ks : List K2} {a b : Int} (h : lnOf a b ∉ ks) : atL ks a b = -1 := by
  rcases firstP_cases (fun k => k == lnOf a b) ks with ⟨h5, -⟩ | ⟨j, hj, h5, h6⟩
  · exact h5
  · have h7 := beq_iff_eq.1 h6
    exact absurd (h7 ▸ List.getElem_mem hj) h
theorem up_new {ks : List K2} {a b : Int} (h : lnsB ks = true) (hk : lnB (lnOf a b) = true) (hn : lnOf a b ∉ ks) (hl : ks.length < 30) : lnsB (upM ks a b) = true ∧ (upM ks a b).length = ks.length + 1 ∧ ∀ k, k ∈ upM ks a b ↔ k = lnOf a b ∨ k ∈ ks := by
  obtain ⟨h1, h2, h3⟩ := (lns_iff ks).1 h
  have hat := atL_none hn
  unfold upM
  rw [if_pos ⟨h, by omega⟩]
  generalize lnOf a b = l at *
  have hp := List.takeWhile_prefix (fun k => aheadB k l) (l := ks)
  have hle := hp.length_le
  have e1 : ks.take (ks.takeWhile fun k => aheadB k l).length = ks.takeWhile fun k => aheadB k l := (List.prefix_iff_eq_take.1 hp).symm
  have e2 := List.take_append_drop (ks.takeWhile fun k => aheadB k l).length ks
  have hris : Rising (insK ks l (ks.takeWhile fun k => aheadB k l).length) := by
    have hr := h3
    unfold Rising at hr ⊢
    rw [← e2, List.pairwise_append] at hr
    obtain ⟨r1, r2, r3⟩ := hr
    have ha : ∀ x ∈ ks.take (ks.takeWhile fun k => aheadB k l).length, aheadB x l = true := fun x hx => by
      rw [e1] at hx
      exact List.all_eq_true.1 List.all_takeWhile x hx
    have hb : ∀ y ∈ ks.drop (ks.takeWhile fun k => aheadB k l).length, aheadB l y = true := by
      have e3 : ks.drop (ks.takeWhile fun k => aheadB k l).length = ks.dropWhile fun k => aheadB k l := by
        have h4 := List.takeWhile_append_dropWhile (p := fun k => aheadB k l) (l := ks)
        have h5 := e2.trans h4.symm
        rw [e1] at h5
        exact List.append_cancel_left h5
      intro y hy
      cases hd : ks.drop (ks.takeWhile fun k => aheadB k l).length with
      | nil => rw [hd] at hy; simp at hy
      | cons z r =>
        have hz : aheadB z l = false := by
          have := List.head?_dropWhile_not (fun k => aheadB k l) ks
          rw [← e3, hd] at this
          simpa using this
        have hzm : z ∈ ks := by rw [← e2, hd]; simp
        have hzl : aheadB l z = true := by
          cases h6 : aheadB l z with
          | true => rfl
          | false => exact absurd (ahead_total hz h6 ▸ hzm) hn
        rw [hd] at hy r2
        rcases List.mem_cons.1 hy with rfl | hy
        · exact hzl
        · exact ahead_trans hzl ((List.pairwise_cons.1 r2).1 y hy)
    unfold insK
    rw [List.pairwise_append, List.pairwise_cons]
    exact ⟨r1, ⟨hb, r2⟩, fun x hx y hy => by
      rcases List.mem_cons.1 hy with rfl | hy
      · exact ha x hx
      · exact r3 x hx y hy⟩
  have hok : lnsB (insK ks l (ks.takeWhile fun k => aheadB k l).length) = true := (lns_iff _).2 ⟨by rw [ins_len _ _ _ hle]; omega, fun k hk2 => by
    rcases ins_mem.1 hk2 with rfl | hk2
    · exact hk
    · exact h2 k hk2, hris⟩
  rw [if_pos hok]
  exact ⟨hok, ins_len _ _ _ hle, fun k => ins_mem⟩
theorem down_new {ks : List K2} {a b : Int} (h : lnsB ks = true) (hm : lnOf a b ∈ ks) : lnsB (downM ks a b) = true ∧ (downM ks a b).length + 1 = ks.length ∧ ∀ k, k ∈ downM ks a b ↔ k ≠ lnOf a b ∧ k ∈ ks := by
  obtain ⟨h1, h2, h3⟩ := (lns_iff ks).1 h
  rcases firstP_cases (fun k => k == lnOf a b) ks with ⟨-, h6⟩ | ⟨i, hi, h5, h6⟩
  · have := h6 _ hm
    simp at this
  · have hat : atL ks a b = (i : Nat) := h5
    have hki := beq_iff_eq.1 h6
    unfold downM
    rw [if_pos ⟨h, by omega⟩, hat, Int.toNat_natCast]
    have e : ks = ks.take i ++ lnOf a b :: ks.drop (i + 1) := by rw [← hki, ← List.drop_eq_getElem_cons hi, List.take_append_drop]
    have er : ks.eraseIdx i = ks.take i ++ ks.drop (i + 1) := List.eraseIdx_eq_take_drop_succ ..
    have hr := h3
    unfold Rising at hr
    rw [e, List.pairwise_append, List.pairwise_cons] at hr
    obtain ⟨r1, ⟨r2, r3⟩, r4⟩ := hr
    have hmem : ∀ k, k ∈ ks.eraseIdx i ↔ k ≠ lnOf a b ∧ k ∈ ks := by
      intro k
      rw [er, List.mem_append]
      constructor
      · rintro (hk | hk)
        · exact ⟨fun e2 => (by have := r4 k hk (lnOf a b) (by simp); rw [e2, ahead_irrefl] at this; cases this), List.mem_of_mem_take hk⟩
        · exact ⟨fun e2 => (by have := r2 k hk; rw [e2, ahead_irrefl] at this; cases this), List.mem_of_mem_drop hk⟩
      · rintro ⟨hne, hk⟩
        rw [e, List.mem_append, List.mem_cons] at hk
        rcases hk with hk | hk | hk
        · exact .inl hk
        · exact absurd hk hne
        · exact .inr hk
    refine ⟨(lns_iff _).2 ⟨by rw [List.length_eraseIdx, if_pos hi]; omega, fun k hk => h2 k ((hmem k).1 hk).2, ?_⟩, by rw [List.length_eraseIdx, if_pos hi]; omega, hmem⟩
    unfold Rising
    rw [er, List.pairwise_append]
    exact ⟨r1, r3, fun x hx y hy => r4 x hx y (by simp [hy])⟩
/-- the next in a ring of n; the link of one and the next -/
def sucN (n i : Nat) : Nat := if i + 1 < n then i + 1 else 0
def egN (n i : Nat) : K2 := lnOf (i : Int) (sucN n i : Int)
theorem egN_ok {n i : Nat} (hi : i < n) (hn : 4 ≤ n ∧ n ≤ 18) : lnB (egN n i) = true := by
  rw [lnB_iff]
  unfold egN lnOf sucN
  split <;> split <;> omega
theorem egN_inj {n i j : Nat} (hi : i < n) (hj : j < n) (hn : 4 ≤ n) (h : egN n i = egN n j) : i = j := by
  unfold egN lnOf sucN at h
  split at h <;> split at h <;> split at h <;> split at h <;> (rw [Prod.mk.injEq] at h; omega)
/-- links that are those of a ring but those that are cut -/
def GR (n : Nat) (C : Nat → Prop) (ks : List K2) : Prop := lnsB ks = true ∧ ∀ k, k ∈ ks ↔ ∃ i, (i < n ∧ ¬ C i) ∧ k = egN n i
theorem GR.adj {n : Nat} {C : Nat → Prop} {ks : List K2} (h : GR n C ks) (hn : 4 ≤ n) {i : Nat} (hi : i < n) (hc : ¬ C i) : (sucN n i : Int) ∈ nearM ks (i : Int) := by
  refine (near_iff h.1).2 ⟨?_, (h.2 _).2 ⟨i, ⟨hi, hc⟩, rfl⟩⟩
  unfold sucN
  split <;> omega
theorem GR.back {n : Nat} {C : Nat → Prop} {ks : List K2} (h : GR n C ks) (hn : 4 ≤ n) {u : Nat} (hu : u < n) {y : Int} (hy : y ∈ nearM ks (u : Int)) : ∃ i, (i < n ∧ ¬ C i) ∧ ((u = i ∧ y = (sucN n i : Int)) ∨ (u = sucN n i ∧ y = (i : Int))) := by
  obtain ⟨h1, h2⟩ := (near_iff h.1).1 hy
  obtain ⟨i, hi, h3⟩ := (h.2 _).1 h2
  refine ⟨i, hi, ?_⟩
  unfold egN lnOf at h3
  split at h3 <;> split at h3 <;> (rw [Prod.mk.injEq] at h3; omega)
theorem GR.symm {n : Nat} {C : Nat → Prop} {ks : List K2} (h : GR n C ks) (hn : 4 ≤ n) {i : Nat} (hi : i < n) (hc : ¬ C i) : (i : Int) ∈ nearM ks (sucN n i : Int) := (near_sym (h.adj hn hi hc)).1
/-- places from one behind a on, round the ring -/
def qN (n a t : Nat) : Nat := if a + 1 + t < n then a + 1 + t else a + 1 + t - n
theorem qN_lt {n a t : Nat} (ha : a < n) (ht : t < n) : qN n a t < n := by unfold qN; split <;> omega
theorem qN_suc {n a t : Nat} (ha : a < n) (ht : t + 1 < n) : sucN n (qN n a t) = qN n a (t + 1) := by unfold qN sucN; split <;> split <;> split <;> omega
theorem qN_inj {n a s t : Nat} (ha : a < n) (hs : s < n) (ht : t < n) (h : qN n a s = qN n a t) : s = t := by unfold qN at h; split at h <;> split at h <;> omega
theorem qN_all {n a u : Nat} (ha : a < n) (hu : u < n) : ∃ t, t < n ∧ u = qN n a t := by
  by_cases h : a < u
  · exact ⟨u - a - 1, by omega, by unfold qN; split <;> omega⟩
  · exact ⟨n + u - a - 1, by omega, by unfold qN; split <;> omega⟩
theorem qN_last {n a : Nat} (ha : a < n) : qN n a (n - 1) = a := by unfold qN; split <;> omega
theorem sucN_inj {n i j : Nat} (hi : i < n) (hj : j < n) (h : sucN n i = sucN n j) : i = j := by unfold sucN at h; split at h <;> split at h <;> omega
theorem sucN_lt {n i : Nat} (hn : 0 < n) : sucN n i < n := by unfold sucN; split <;> omega
/-- the whole ring, cut at one place at most -/
theorem whole_len {n a t0 : Nat} {C : Nat → Prop} {ks : List K2} {L : List Int} (h : GR n C ks) (hn : 4 ≤ n) (ha : a < n) (hC : ∀ i, C i → i = a) (ht : t0 < n) (hL : RL ks (qN n a t0 : Int) L) : L.length = n - 1 := by
  refine arc_len (p := fun t => (qN n a t : Int)) (lo := 0) (hi := n - 1) (t0 := t0) (fun s t _ h1 _ h2 e => qN_inj ha (by omega) (by omega) (by exact_mod_cast e)) (fun t _ ht2 => ?_) (fun t _ ht2 y hy => ?_) ⟨by omega, by omega⟩ hL
  · have hne : ¬ C (qN n a t) := fun hc => by
      have h1 : qN n a t = qN n a (n - 1) := (hC _ hc).trans (qN_last ha).symm
      have := qN_inj ha (by omega) (by omega) h1
      omega
    have := h.adj hn (qN_lt ha (by omega)) hne
    rwa [qN_suc ha (by omega)] at this
  · obtain ⟨i, hi, hh⟩ := h.back hn (qN_lt ha (by omega)) hy
    rcases hh with ⟨-, rfl⟩ | ⟨-, rfl⟩
    · obtain ⟨s, hs, e⟩ := qN_all ha (sucN_lt (i := i) (by omega))
      exact ⟨s, ⟨by omega, by omega⟩, by show _ = (qN n a s : Int); rw [← e]⟩
    · obtain ⟨s, hs, e⟩ := qN_all ha hi.1
      exact ⟨s, ⟨by omega, by omega⟩, by show _ = (qN n a s : Int); rw [← e]⟩
/-- the two arcs of a ring that is cut twice -/
theorem arcs_len {n a c : Nat} {ks : List K2} {X Y : List Int} (h : GR n (fun i => i = a ∨ i = qN n a c) ks) (hn : 4 ≤ n) (ha : a < n) (hc : c + 1 < n) (hX : RL ks (a : Int) X) (hY : RL ks (qN n a 0 : Int) Y) : X.length + Y.length = n - 2 := by
  have hcut : ∀ t, t < n → (¬ (qN n a t = a ∨ qN n a t = qN n a c) ↔ t < n ∧ t ≠ n - 1 ∧ t ≠ c) := by
    intro t ht
    constructor
    · intro hh
      refine ⟨ht, fun e => hh (.inl (by rw [e]; exact qN_last ha)), fun e => hh (.inr (by rw [e]))⟩
    · rintro ⟨-, h1, h2⟩ (e | e)
      · exact h1 (qN_inj ha ht (by omega) (e.trans (qN_last ha).symm))
      · exact h2 (qN_inj ha ht (by omega) e)
  have hcl : ∀ t, t < n → ∀ y ∈ nearM ks (qN n a t : Int), (t ≠ n - 1 ∧ t ≠ c ∧ y = (qN n a (t + 1) : Int)) ∨ (0 < t ∧ t - 1 ≠ c ∧ y = (qN n a (t - 1) : Int)) := by
    intro t ht y hy
    obtain ⟨i, ⟨hi, hni⟩, hh⟩ := h.back hn (qN_lt ha ht) hy
    rcases hh with ⟨e1, rfl⟩ | ⟨e1, rfl⟩
    · rw [← e1] at hni ⊢
      have := (hcut t ht).1 hni
      exact .inl ⟨this.2.1, this.2.2, by rw [qN_suc ha (by omega)]⟩
    · obtain ⟨s, hs, rfl⟩ := qN_all ha hi
      have h2 := (hcut s hs).1 hni
      rw [qN_suc ha (by omega)] at e1
      have := qN_inj ha ht (by omega) e1
      exact .inr ⟨by omega, by omega, by rw [show t - 1 = s by omega]⟩
  have hadj : ∀ t, t + 1 < n → t ≠ c → (qN n a (t + 1) : Int) ∈ nearM ks (qN n a t : Int) := by
    intro t ht htc
    have := h.adj hn (qN_lt ha (by omega)) ((hcut t (by omega)).2 ⟨by omega, by omega, htc⟩)
    rwa [qN_suc ha ht] at this
  have e1 : Y.length = c - 0 := arc_len (p := fun t => (qN n a t : Int)) (lo := 0) (hi := c) (t0 := 0) (fun s t _ h1 _ h2 e => qN_inj ha (by omega) (by omega) (by exact_mod_cast e)) (fun t _ ht => hadj t (by omega) (by omega)) (fun t _ ht y hy => by
    rcases hcl t (by omega) y hy with ⟨h1, h2, e⟩ | ⟨h1, h2, e⟩
    · exact ⟨t + 1, ⟨by omega, by omega⟩, e⟩
    · exact ⟨t - 1, ⟨by omega, by omega⟩, e⟩) ⟨by omega, by omega⟩ hY
  have hX2 : RL ks (qN n a (n - 1) : Int) X := by rw [qN_last ha]; exact hX
  have e2 : X.length = n - 1 - (c + 1) := arc_len (p := fun t => (qN n a t : Int)) (lo := c + 1) (hi := n - 1) (t0 := n - 1) (fun s t _ h1 _ h2 e => qN_inj ha (by omega) (by omega) (by exact_mod_cast e)) (fun t ht1 ht => hadj t (by omega) (by omega)) (fun t ht1 ht y hy => by
    rcases hcl t (by omega) y hy with ⟨h1, h2, e⟩ | ⟨h1, h2, e⟩
    · exact ⟨t + 1, ⟨by omega, by omega⟩, e⟩
    · exact ⟨t - 1, ⟨by omega, by omega⟩, e⟩) ⟨by omega, by omega⟩ hX2
  omega
/-- who is near one of a ring: two -/
theorem near_two {n a : Nat} {ks : List K2} (h : GR n (fun _ => False) ks) (hn : 4 ≤ n) (ha : a < n) : (nearM ks (a : Int)).length = 2 := by
  have hq := qN_last ha
  have h1 : (qN n a 0 : Int) ∈ nearM ks (a : Int) := by
    have := h.adj hn ha (fun h => h)
    rwa [show sucN n a = qN n a 0 by unfold sucN qN; simp only [Nat.add_zero]; split <;> omega] at this
  have h2 : (qN n a (n - 2) : Int) ∈ nearM ks (a : Int) := by
    have := h.symm hn (qN_lt ha (show n - 2 < n by omega)) (fun h => h)
    rwa [qN_suc ha (by omega), show n - 2 + 1 = n - 1 by omega, hq] at this
  have hne : ¬ (qN n a 0 : Int) = (qN n a (n - 2) : Int) := fun e => by have := qN_inj ha (by omega) (by omega) (show qN n a 0 = qN n a (n - 2) by exact_mod_cast e); omega
  have a1 : ([(qN n a 0 : Int), (qN n a (n - 2) : Int)] : List Int).length ≤ (nearM ks (a : Int)).length := nodup_sub (by simp [hne]) (by intro x hx; simp at hx; rcases hx with rfl | rfl; exact h1; exact h2)
  have a2 : (nearM ks (a : Int)).length ≤ ([(qN n a 0 : Int), (qN n a (n - 2) : Int)] : List Int).length := nodup_sub (iris_nodup (near_rising ks a)) fun y hy => by
    obtain ⟨i, ⟨hi, -⟩, hh⟩ := h.back hn ha hy
    rcases hh with ⟨rfl, rfl⟩ | ⟨e, rfl⟩
    · rw [show sucN n a = qN n a 0 by unfold sucN qN; simp only [Nat.add_zero]; split <;> omega]; simp
    · have : i = qN n a (n - 2) := by
        refine sucN_inj hi (qN_lt ha (by omega)) ?_
        rw [qN_suc ha (by omega), show n - 2 + 1 = n - 1 by omega, hq]
        exact e.symm
      rw [this]; simp
  simp only [List.length_cons, List.length_nil] at a1 a2
  omega
/-- the ring while it is put together -/
def RgM (n k : Nat) (ks : List K2) : Prop := ks.length = k ∧ lnsB ks = true ∧ ∀ e, e ∈ ks ↔ ∃ i, i < k ∧ e = egN n i
theorem RgM.nil (n : Nat) : RgM n 0 [] := ⟨rfl, rfl, fun e => by simp⟩
theorem RgM.next {n k : Nat} {ks : List K2} (h : RgM n k ks) (hn : 4 ≤ n ∧ n ≤ 18) (hk : k < n) : RgM n (k + 1) (upM ks (k : Int) (sucN n k : Int)) := by
  obtain ⟨h1, h2, h3⟩ := h
  obtain ⟨a1, a2, a3⟩ := up_new (ks := ks) (a := (k : Int)) (b := (sucN n k : Int)) h2 (egN_ok hk hn) (fun hm => by
    obtain ⟨i, hi, e⟩ := (h3 _).1 hm
    have := egN_inj (n := n) hk (show i < n by omega) hn.1 e
    omega) (by omega)
  refine ⟨by omega, a1, fun e => ?_⟩
  rw [a3, h3]
  constructor
  · rintro (rfl | ⟨i, hi, rfl⟩)
    · exact ⟨k, by omega, rfl⟩
    · exact ⟨i, by omega, rfl⟩
  · rintro ⟨i, hi, rfl⟩
    by_cases e : i = k
    · exact .inl (by rw [e]; rfl)
    · exact .inr ⟨i, by omega, rfl⟩
theorem RgM.gr {n : Nat} {ks : List K2} (h : RgM n n ks) : GR n (fun _ => False) ks := ⟨h.2.1, fun k => by rw [h.2.2]; exact ⟨fun ⟨i, hi, e⟩ => ⟨i, ⟨hi, fun h => h⟩, e⟩, fun ⟨i, hi, e⟩ => ⟨i, hi.1, e⟩⟩⟩
theorem GR.cut {n j : Nat} {C : Nat → Prop} {ks : List K2} (h : GR n C ks) (hn : 4 ≤ n) (hj : j < n) (hc : ¬ C j) {x y : Int} (he : lnOf x y = egN n j) : GR n (fun i => C i ∨ i = j) (downM ks x y) ∧ (downM ks x y).length + 1 = ks.length := by
  obtain ⟨a1, a2, a3⟩ := down_new (ks := ks) (a := x) (b := y) h.1 (by rw [he]; exact (h.2 _).2 ⟨j, ⟨hj, hc⟩, rfl⟩)
  refine ⟨⟨a1, fun k => ?_⟩, a2⟩
  rw [a3, h.2, he]
  constructor
  · rintro ⟨hne, i, ⟨hi, hci⟩, rfl⟩
    exact ⟨i, ⟨hi, fun hh => hh.elim hci fun e => hne (by rw [e])⟩, rfl⟩
  · rintro ⟨i, ⟨hi, hci⟩, rfl⟩
    exact ⟨fun e => hci (.inr (egN_inj hi hj hn e)), i, ⟨hi, fun h => hci (.inl h)⟩, rfl⟩
end Go.Proofs.Ytpfnpinoamjcjaa
namespace Go.Proofs.Ytpfnpinoamjcjaa
open Go.ChangeShapes Go.WideShapes Go.ChangeAt Go.RowKit Go.BigFrame
set_option linter.unusedVariables false
set_option linter.unusedSimpArgs false

set_option maxRecDepth 100000 in
set_option maxHeartbeats 4000000 in
theorem iinsert_any (v : Value) (ks : List K2) (i gl : Nat) (p q : Int) (w0 w : World) (hV : LlD w0 w v ks) (hl : w.heap[gl]? = some (.cells #[.int .i64 p, .int .i64 q] 49 (0, 0))) (hne : v.ownBlock ≠ some gl) (hi : i ≤ ks.length) (hs : ks.length ≤ 1500000) :
    Calls Try.prog 44 #[v, .int .i64 i, .slice (some ⟨gl, 0, none⟩) 1 1] w fun e w' => ∃ v', e = .returned v' ∧ LlD w0 w' v' (insK ks (p, q) i) := by
  rcases Nat.lt_or_ge i ks.length with h1 | h1
  · rcases hV.row with ⟨rfl, rfl⟩ | ⟨g, cap, cur, rfl, hrow⟩
    · simp at h1
    · by_cases hroom : ks.length + 1 ≤ cap
      · exact iinsert_room g _ cap i gl ks p q cur w0 w hrow hl (fun e => hne (by rw [e]; rfl)) h1 hroom
      · exact iinsert_grow g _ cap i gl ks p q cur w0 w hrow hl h1 hs hroom
  · obtain rfl : i = ks.length := by omega
    have HV := Lib.hid hV
    have HK := Lib.hid (keysAt_row hl)
    have HE := Lib.hid (show insK ks (p, q) ks.length = ks ++ [(p, q)] by simp [insK])
    rw [HE.out]
    rcases hV.row with ⟨rfl, rfl⟩ | ⟨g, cap, cur, rfl, hrow⟩
    · clear hV hl hne h1 hi HE
      simp only [List.length_nil]
      go_enter Try.func44, Try.ntmps44
      go_wp2_with (at_builtin; refine wpList_append_lnD rfl (.tmp 23) (.tmp 24) rfl HV.out _ [(p, q)] HK.out rfl rfl (by simp) ?_; intro v3 w3 hV3 hg3 hv3; have HV3 := Lib.hid hV3; clear hV3 hg3 hv3)
      go_ret
      exact ⟨_, rfl, HV3.out⟩
    · have hcap := hrow.2.2.2.1
      have hcm := hrow.2.2.2.2.1
      unfold maxLen at hcm
      have z1 : (ks.length : Int) ≤ (cap : Int) := by omega
      clear hV hl hne h1 hi HE hrow
      go_enter Try.func44, Try.ntmps44
      go_wp2_with (at_builtin; refine wpList_append_lnD rfl (.tmp 23) (.tmp 24) rfl HV.out _ [(p, q)] HK.out rfl rfl (by simp; omega) ?_; intro v3 w3 hV3 hg3 hv3; have HV3 := Lib.hid hV3; clear hV3 hg3 hv3)
      all_goals (go_ret; exact ⟨_, rfl, HV3.out⟩)
theorem ilinkof_any (a b : Int) (w : World) : Calls Try.prog 41 #[.int .i64 a, .int .i64 b] w fun e w' => e = .returned (kv (lnOf a b)) ∧ Below w.heap.size w w' := by
  have HB := Lib.hid ((Below.refl w.heap.size w).alloc (Nat.le_refl _) (.cells #[.int .i64 (min a b), .int .i64 (max a b)] 49))
  have hl := lnbox_load w (min a b, max a b) _ (Below.refl _ _)
  rw [lnOf_min]
  unfold kv at *
  dsimp only at *
  go_enter Try.func41, Try.ntmps41
  go_wp2
  refine bodyPost_ret (v := .agg #[.int .i64 (min a b), .int .i64 (max a b)]) ?_ rfl ⟨rfl, HB.out⟩
  rw [results_cell (p := 4) (ty := 49) (by kernel_rfl)]
  simp [asAddr, Result.andThen, hl]
set_option maxRecDepth 100000 in
set_option maxHeartbeats 4000000 in
theorem ilinkup_any (v : Value) (ks : List K2) (x y : Int) (w : World) (h : keysAt w v ks) (hs : ks.length ≤ 1500000) :
    Calls Try.prog 14 #[v, .int .i64 x, .int .i64 y] w fun e w' => ∃ v', e = .returned v' ∧ LlD w w' v' (upM ks x y) := by
  have HCP0 := Lib.hid (fun wx (hb : Below w.heap.size w wx) => icopylinks_any v ks wx (keysAt_below h hb) hs)
  have HC2 := HCP0
  have HBS := Lib.hid (fun wx (hb : Below w.heap.size w wx) => ibsf_any v ks (lnOf x y) wx (keysAt_below h hb) (by omega))
  have HUP := Lib.hid (fun i (h : spotK ks (lnOf x y) i) => up_eq (ks := ks) (a := x) (b := y) (i := i) (.inl h))
  have HLO := Lib.hid (fun w => ilinkof_any x y w)
  generalize upM ks x y = M at *
  generalize lnOf x y = l at *
  obtain ⟨p, q⟩ := l
  obtain ⟨a, cap, rfl, -, -⟩ := h
  unfold kv at *
  dsimp only at *
  go_enter Try.func14, Try.ntmps14
  go_wp2_with fail
  refine (HLO.out _).mono ?_
  rintro e w1 ⟨rfl, hb1⟩
  have HB2 := Lib.hid (hb1.alloc hb1.size (.cells #[.int .i64 p, .int .i64 q] 49))
  have HR2 := Lib.hid (heap_alloc_new w1 (.cells #[.int .i64 p, .int .i64 q] 49))
  clear hb1 HLO
  go_wp2_with fail
  generalize w1.alloc (.cells #[.int .i64 p, .int .i64 q] 49) = w2 at *
  generalize w1.heap.size = B7 at *
  refine (HBS.out _ HB2.out).mono ?_
  rintro e W1 ⟨i, f, rfl, hsp, hb3⟩
  have HSP := Lib.hid hsp
  have HUM := Lib.hid (HUP.out i hsp)
  have HW := Lib.hid (HB2.out.trans (hb3.mono HB2.out.size))
  have hr7 := (hb3.block _ (Array.getElem?_eq_some_iff.1 HR2.out).1).trans HR2.out
  have hlt7 := (Array.getElem?_eq_some_iff.1 hr7).1
  have LK : ∀ wx, Below W1.heap.size W1 wx → (loadVar 49 ⟨B7, 0, none⟩).run Try.prog wx = .ok (.agg #[.int .i64 p, .int .i64 q]) wx := fun wx h => link_load (k := (p, q)) (o := 0) ⟨by rw [cell_of_row _ _ _ _ _ _ hr7]; rfl, by rw [cell_of_row _ _ _ _ _ _ hr7]; rfl⟩ hlt7 h
  have HCP := Lib.hid (fun wx (hb : Below W1.heap.size W1 wx) => HCP0.out wx (HW.out.trans (hb.mono HW.out.size)))
  have HLX := Lib.hid (fun vx wx (hx : keysAt wx vx (insK ks (p, q) i)) => ilinksok_any vx _ wx hx (by rw [ins_len _ _ _ hsp.1]; omega))
  have HB := Lib.hid (Below.refl W1.heap.size W1)
  clear hsp hb3 HBS HUP HB2 HR2 hr7 hlt7 HCP0
  go_upto_region 3 with (fail)
  refine wp_region_G (fun wx => Below W1.heap.size W1 wx) (by kernel_rfl) ?_
  replace HB := Lib.hid (HB.out.drew)
  generalize (W1).drew = wD0 at *
  refine wpG_seg [true, false, true, true] [1, 4] 3 (by kernel_rfl) (by intro c a d v w h; cases d <;> exact h) (by kernel_rfl) HB.out ?_
  try simp only [maskRows]
  repeat (first
    | go_big_quiet_skip
    | (go_big_quiet_want
       first
         | (go_big_quiet_op; go_big_quiet_on)
         | (refine q_load 49 _ _ _ rfl rfl LK ?_; simp only [Act.put, List.setIfInBounds_toArray, List.set_cons_zero, List.set_cons_succ]; go_big_quiet_on)
         | (go_big_quiet_op; refine ⟨_, fun _ _ => rfl, ?_⟩; go_big_quiet_on)
         | (go_big_quiet_op; refine ⟨_, fun _ _ _ => rfl, ?_⟩; go_big_quiet_on)
         | (go_big_quiet_op; refine ⟨_, fun _ _ _ _ => rfl, ?_⟩; go_big_quiet_on)))
  refine wpQuiet_nil ?_
  refine List.forall_mem_cons.2 ⟨?_, List.forall_mem_singleton.2 ?_⟩
  · refine segt_run rfl (by rfl) (fun K hK => ?_)
    go_simp
    refine (HCP.out _ HB.out).mono ?_
    rintro e w1_ ⟨vc, rfl, hV⟩
    dsimp only
    have HV := Lib.hid (hV.base HB.out)
    replace HB := Lib.hid HV.out.below
    clear hV
    obtain ⟨ac, cc, rfl⟩ := HV.out.shape
    refine hK _ _ ⟨_, fun _ h => h, HB.out, ?_⟩
    clear hK K
    try simp only [Act.put, List.setIfInBounds_toArray, List.set_cons_zero, List.set_cons_succ]
    refine wpG_seg [] [4] 2 (by kernel_rfl) (by intro c a d v w h; cases d <;> exact h) (by kernel_rfl) HB.out ?_
    try simp only [maskRows]
    refine wpQuiet_nil ?_
    refine List.forall_mem_singleton.2 ?_
    refine segt_run rfl (by rfl) (fun K hK => ?_)
    go_simp
    have HNE := Lib.hid (show (Value.slice ac ks.length cc).ownBlock ≠ some w1_.heap.size from fun e => by have h1 := (HV.out.own.lt _ e).2; omega)
    replace HV := Lib.hid (HV.out.alloc (.cells #[.int .i64 p, .int .i64 q] 49))
    have HR := Lib.hid (heap_alloc_new w1_ (.cells #[.int .i64 p, .int .i64 q] 49))
    replace HB := Lib.hid (HB.out.alloc HB.out.size (.cells #[.int .i64 p, .int .i64 q] 49))
    generalize World.alloc w1_ (.cells #[.int .i64 p, .int .i64 q] 49) = w2_ at *
    generalize w1_.heap.size = B4 at *
    refine hK _ _ ⟨_, fun _ h => h, HB.out, ?_⟩
    clear hK K
    try simp only [Act.put, List.setIfInBounds_toArray, List.set_cons_zero, List.set_cons_succ]
    refine wpG_seg [] [5] 1 (by kernel_rfl) (by intro c a d v w h; cases d <;> exact h) (by kernel_rfl) HB.out ?_
    try simp only [maskRows]
    refine wpQuiet_nil ?_
    refine List.forall_mem_singleton.2 ?_
    refine segt_run rfl (by rfl) (fun K hK => ?_)
    go_simp
    refine (iinsert_any _ ks i B4 p q W1 _ HV.out HR.out HNE.out HSP.out.1 hs).mono ?_
    rintro e w3_ ⟨vn, rfl, hN⟩
    dsimp only
    have HN := Lib.hid hN
    replace HB := Lib.hid HN.out.below
    clear hN HV HR HNE
    refine hK _ _ ⟨_, fun _ h => h, HB.out, ?_⟩
    clear hK K
    try simp only [Act.put, List.setIfInBounds_toArray, List.set_cons_zero, List.set_cons_succ]
    refine wpG_end [false, false, false, false, false, false, true] (by kernel_rfl) (by intro c a d v w h; cases d <;> exact h) (by kernel_rfl) HB.out ?_
    try simp only [maskRows]
    repeat (first
      | go_big_quiet_skip
      | (go_big_quiet_want
         first
           | (go_big_quiet_op; go_big_quiet_on)
           | (refine q_load 49 _ _ _ rfl rfl LK ?_; simp only [Act.put, List.setIfInBounds_toArray, List.set_cons_zero, List.set_cons_succ]; go_big_quiet_on)
           | (go_big_quiet_op; refine ⟨_, fun _ _ => rfl, ?_⟩; go_big_quiet_on)
           | (go_big_quiet_op; refine ⟨_, fun _ _ _ => rfl, ?_⟩; go_big_quiet_on)
           | (go_big_quiet_op; refine ⟨_, fun _ _ _ _ => rfl, ?_⟩; go_big_quiet_on)))
    refine wpQuiet_nil ?_
    have HN9 := Lib.hid (HN.out.base HW.out)
    clear HN HB
    obtain ⟨an, cn, rfl⟩ := HN9.out.shape
    go_wp2_with fail
    refine (HLX.out _ _ HN9.out.at).mono ?_
    rintro e wz ⟨rfl, hbz⟩
    replace HN9 := Lib.hid (HN9.out.next hbz)
    clear hbz HLX
    cases hli : lnsB (insK ks (p, q) i) with
    | true =>
      rw [hli] at HUM
      go_wp2
      go_ret
      exact ⟨_, rfl, by rw [HUM.out]; exact HN9.out⟩
    | false =>
      rw [hli] at HUM
      go_wp2_with fail
      refine (HC2.out _ HN9.out.below).mono ?_
      rintro e wy ⟨vy, rfl, hy⟩
      have HY := Lib.hid (hy.base HN9.out.below)
      clear hy
      go_wp2
      go_ret
      exact ⟨_, rfl, by rw [HUM.out]; exact HY.out⟩
  · refine segt_run rfl (by rfl) (fun K hK => ?_)
    go_simp
    have HR := Lib.hid (heap_alloc_new wD0 (.cells #[.int .i64 p, .int .i64 q] 49))
    replace HB := Lib.hid (HB.out.alloc HB.out.size (.cells #[.int .i64 p, .int .i64 q] 49))
    generalize World.alloc wD0 (.cells #[.int .i64 p, .int .i64 q] 49) = w1_ at *
    generalize wD0.heap.size = B4 at *
    refine hK _ _ ⟨_, fun _ h => h, HB.out, ?_⟩
    clear hK K
    try simp only [Act.put, List.setIfInBounds_toArray, List.set_cons_zero, List.set_cons_succ]
    refine wpG_seg [] [1] 2 (by kernel_rfl) (by intro c a d v w h; cases d <;> exact h) (by kernel_rfl) HB.out ?_
    try simp only [maskRows]
    refine wpQuiet_nil ?_
    refine List.forall_mem_singleton.2 ?_
    refine segt_run rfl (by rfl) (fun K hK => ?_)
    go_simp
    refine (HCP.out _ HB.out).mono ?_
    rintro e w2_ ⟨vc, rfl, hV⟩
    dsimp only
    have HR0 := HR
    have HNE := Lib.hid (show vc.ownBlock ≠ some B4 from fun e => by have h1 := (hV.own.lt _ e).1; have h2 := (Array.getElem?_eq_some_iff.1 HR.out).1; omega)
    replace HR := Lib.hid ((hV.below.block _ (Array.getElem?_eq_some_iff.1 HR.out).1).trans HR.out)
    have HV := Lib.hid (hV.base HB.out)
    replace HB := Lib.hid HV.out.below
    clear hV
    obtain ⟨ac, cc, rfl⟩ := HV.out.shape
    refine hK _ _ ⟨_, fun _ h => h, HB.out, ?_⟩
    clear hK K
    try simp only [Act.put, List.setIfInBounds_toArray, List.set_cons_zero, List.set_cons_succ]
    refine wpG_seg [] [5] 1 (by kernel_rfl) (by intro c a d v w h; cases d <;> exact h) (by kernel_rfl) HB.out ?_
    try simp only [maskRows]
    refine wpQuiet_nil ?_
    refine List.forall_mem_singleton.2 ?_
    refine segt_run rfl (by rfl) (fun K hK => ?_)
    go_simp
    refine (iinsert_any _ ks i B4 p q W1 _ HV.out HR.out HNE.out HSP.out.1 hs).mono ?_
    rintro e w3_ ⟨vn, rfl, hN⟩
    dsimp only
    have HN := Lib.hid hN
    replace HB := Lib.hid HN.out.below
    clear hN HV HR HNE
    refine hK _ _ ⟨_, fun _ h => h, HB.out, ?_⟩
    clear hK K
    try simp only [Act.put, List.setIfInBounds_toArray, List.set_cons_zero, List.set_cons_succ]
    refine wpG_end [false, false, false, false, false, false, true] (by kernel_rfl) (by intro c a d v w h; cases d <;> exact h) (by kernel_rfl) HB.out ?_
    try simp only [maskRows]
    repeat (first
      | go_big_quiet_skip
      | (go_big_quiet_want
         first
           | (go_big_quiet_op; go_big_quiet_on)
           | (refine q_load 49 _ _ _ rfl rfl LK ?_; simp only [Act.put, List.setIfInBounds_toArray, List.set_cons_zero, List.set_cons_succ]; go_big_quiet_on)
           | (go_big_quiet_op; refine ⟨_, fun _ _ => rfl, ?_⟩; go_big_quiet_on)
           | (go_big_quiet_op; refine ⟨_, fun _ _ _ => rfl, ?_⟩; go_big_quiet_on)
           | (go_big_quiet_op; refine ⟨_, fun _ _ _ _ => rfl, ?_⟩; go_big_quiet_on)))
    refine wpQuiet_nil ?_
    have HN9 := Lib.hid (HN.out.base HW.out)
    clear HN HB
    obtain ⟨an, cn, rfl⟩ := HN9.out.shape
    go_wp2_with fail
    refine (HLX.out _ _ HN9.out.at).mono ?_
    rintro e wz ⟨rfl, hbz⟩
    replace HN9 := Lib.hid (HN9.out.next hbz)
    clear hbz HLX
    cases hli : lnsB (insK ks (p, q) i) with
    | true =>
      rw [hli] at HUM
      go_wp2
      go_ret
      exact ⟨_, rfl, by rw [HUM.out]; exact HN9.out⟩
    | false =>
      rw [hli] at HUM
      go_wp2_with fail
      refine (HC2.out _ HN9.out.below).mono ?_
      rintro e wy ⟨vy, rfl, hy⟩
      have HY := Lib.hid (hy.base HN9.out.below)
      clear hy
      go_wp2
      go_ret
      exact ⟨_, rfl, by rw [HUM.out]; exact HY.out⟩
end Go.Proofs.Ytpfnpinoamjcjaa
namespace Go.Proofs.Ytpfnpinoamjcjaa
open Go.ChangeShapes Go.WideShapes Go.ChangeAt Go.RowKit
set_option linter.unusedVariables false

def atV (zs : List Int) (len i : Nat) : Int := if i < len then zs[i]?.getD 0 else ((i : Int) * 7 + len) % 256
theorem at_any (n₀ len cap : Nat) (a : Option Addr) (zs : List Int) (i : Nat) (w : World) (hc : CodeAt n₀ w a len zs) (hi : i ≤ 1000) :
    Calls Try.prog 30 #[.slice a len cap, .int .i64 i] w fun e w' => e = .returned (.int .i64 (atV zs len i)) ∧ w' = w := by
  obtain ⟨h1, h2, h3⟩ := hc
  by_cases hlt : i < len
  · have z0 : (0 : Int) ≤ (i : Int) := by omega
    have z1 : (i : Int) < (len : Int) := by omega
    obtain ⟨b, off, rfl, hb0, hcells⟩ := h3.resolve_left (by omega)
    have cz := hcells i hlt
    have hz := h2 i
    have hv : atV zs len i = zs[i]?.getD 0 := by unfold atV; rw [if_pos hlt]
    rw [hv]
    generalize zs[i]?.getD 0 = y at *
    clear hcells h2 hv
    go_enter Try.func30, Try.ntmps30
    go_wp2
    go_ret
    exact ⟨rfl, rfl⟩
  · have z1 : ¬ (i : Int) < (len : Int) := by omega
    have hv : atV zs len i = ((i : Int) * 7 + len) % 256 := by unfold atV; rw [if_neg hlt]
    rw [hv]
    have e1 : IntKind.i64.wrap ((i : Int) * 7) = (i : Int) * 7 := IntWalk.i64_in _ (by omega)
    have e2 : IntKind.i64.wrap ((i : Int) * 7 + (len : Int)) = (i : Int) * 7 + (len : Int) := IntWalk.i64_in _ (by omega)
    have e3 : ((i : Int) * 7 + (len : Int)).tmod 256 = ((i : Int) * 7 + (len : Int)) % 256 := Int.tmod_eq_emod_of_nonneg (by omega)
    clear h2 h3 hv
    go_enter Try.func30, Try.ntmps30
    go_wp2
    go_ret
    exact ⟨rfl, rfl⟩

end Go.Proofs.Ytpfnpinoamjcjaa
namespace Go.Proofs.Ytpfnpinoamjcjaa
open Go.ChangeShapes Go.WideShapes Go.ChangeAt Go.RowKit
set_option linter.unusedVariables false
set_option linter.unusedSimpArgs false

theorem atV_bdL {n₀ : Nat} {w : World} {a : Option Addr} {len : Nat} {zs : List Int} (h : CodeAt n₀ w a len zs) (i : Nat) : 0 ≤ atV zs len i ∧ atV zs len i ≤ 255 := by
  have h2 := h.2.1 i
  unfold atV
  split
  · exact h2
  · omega
/-- the load of reading number i -/
theorem GR.congr {n : Nat} {C D : Nat → Prop} {ks : List K2} (h : GR n C ks) (e : ∀ i, C i ↔ D i) : GR n D ks := ⟨h.1, fun k => by rw [h.2]; exact ⟨fun ⟨i, hi, hk⟩ => ⟨i, ⟨hi.1, fun h => hi.2 ((e i).2 h)⟩, hk⟩, fun ⟨i, hi, hk⟩ => ⟨i, ⟨hi.1, fun h => hi.2 ((e i).1 h)⟩, hk⟩⟩⟩
theorem LlD.shapeN {w0 wr : World} {v : Value} {ks : List K2} (h : LlD w0 wr v ks) (n : Nat) (hn : ks.length = n) : ∃ a c, v = .slice a n c := by subst hn; exact h.shape
theorem suc_mod {n k : Nat} (hk : k < n) : ((k : Int) + 1).tmod (n : Int) = (sucN n k : Int) := by
  rw [Int.tmod_eq_emod_of_nonneg (by omega)]
  unfold sucN
  split
  · rw [Int.emod_eq_of_lt (by omega) (by omega)]; omega
  · have e : (k : Int) + 1 = (n : Int) := by omega
    rw [e, Int.emod_self]; rfl
theorem q_mod {n a c : Nat} (ha : a < n) (hc : c < n) : ((a : Int) + 1 + (c : Int)).tmod (n : Int) = (qN n a c : Int) := by
  rw [Int.tmod_eq_emod_of_nonneg (by omega)]
  unfold qN
  split
  · rw [Int.emod_eq_of_lt (by omega) (by omega)]; omega
  · rw [show (a : Int) + 1 + (c : Int) = ((a + 1 + c - n : Nat) : Int) + (n : Int) by omega, Int.add_emod_right, Int.emod_eq_of_lt (by omega) (by omega)]
set_option maxRecDepth 100000 in
set_option maxHeartbeats 8000000 in
theorem fnring_walk (a0 : Option Addr) (len0 cap0 : Nat) (z0 : List Int) (w : World) (w0 : IsRow .u8 w a0 len0 cap0 z0) :
    Calls Try.prog 6 #[.slice a0 len0 cap0] w fun e w' => e = .returned (.bool true) ∧ Below w.heap.size w w' := by
  by_cases hbig : len0 ≤ 1048576
  · have hc := codeAt_of w0 hbig
    have B1 := Lib.hid (fun w => big_any a0 len0 cap0 w hbig)
    have HAT := Lib.hid (fun (w' : World) (i : Nat) (hi : i ≤ 1000) (h : Below w.heap.size w w') => (at_any w.heap.size len0 cap0 a0 z0 i w' (hc.below h) hi))
    obtain ⟨b0, b0'⟩ := atV_bdL hc 0
    obtain ⟨b1, b1'⟩ := atV_bdL hc 1
    obtain ⟨b2, b2'⟩ := atV_bdL hc 2
    have HA0 := Lib.hid (fun w' h => show Calls Try.prog 30 #[.slice a0 len0 cap0, .int .i64 0] w' (fun e w2 => e = .returned (.int .i64 (atV z0 len0 0)) ∧ w2 = w') from HAT.out w' 0 (by omega) h)
    have HA1 := Lib.hid (fun w' h => show Calls Try.prog 30 #[.slice a0 len0 cap0, .int .i64 1] w' (fun e w2 => e = .returned (.int .i64 (atV z0 len0 1)) ∧ w2 = w') from HAT.out w' 1 (by omega) h)
    have HA2 := Lib.hid (fun w' h => show Calls Try.prog 30 #[.slice a0 len0 cap0, .int .i64 2] w' (fun e w2 => e = .returned (.int .i64 (atV z0 len0 2)) ∧ w2 = w') from HAT.out w' 2 (by omega) h)
    clear w0 hc HAT
    generalize atV z0 len0 0 = v0 at *
    generalize atV z0 len0 1 = v1 at *
    generalize atV z0 len0 2 = v2 at *
    obtain ⟨m0, hm0⟩ : ∃ m0 : Nat, v0.tmod 15 = (m0 : Int) := ⟨(v0.tmod 15).toNat, by rw [Int.tmod_eq_emod_of_nonneg b0]; omega⟩
    have hm15 : m0 < 15 := by rw [Int.tmod_eq_emod_of_nonneg b0] at hm0; omega
    obtain ⟨n, hn⟩ : ∃ n, n = 4 + m0 := ⟨_, rfl⟩
    have hn4 : 4 ≤ n ∧ n ≤ 18 := by omega
    obtain ⟨a, ha⟩ : ∃ a : Nat, v1.tmod (n : Int) = (a : Int) := ⟨(v1.tmod (n : Int)).toNat, by rw [Int.tmod_eq_emod_of_nonneg b1]; have := Int.emod_nonneg v1 (show (n : Int) ≠ 0 by omega); omega⟩
    have han : a < n := by rw [Int.tmod_eq_emod_of_nonneg b1] at ha; have := Int.emod_lt_of_pos v1 (show (0 : Int) < (n : Int) by omega); omega
    obtain ⟨c, hc⟩ : ∃ c : Nat, v2.tmod ((n - 1 : Nat) : Int) = (c : Int) := ⟨(v2.tmod ((n - 1 : Nat) : Int)).toNat, by rw [Int.tmod_eq_emod_of_nonneg b2]; have := Int.emod_nonneg v2 (show ((n - 1 : Nat) : Int) ≠ 0 by omega); omega⟩
    have hcn : c + 1 < n := by rw [Int.tmod_eq_emod_of_nonneg b2] at hc; have := Int.emod_lt_of_pos v2 (show (0 : Int) < ((n - 1 : Nat) : Int) by omega); omega
    have e0 : IntKind.i64.wrap (m0 : Int) = (m0 : Int) := IntWalk.i64_in _ (by omega)
    have e1 : IntKind.i64.wrap (4 + (m0 : Int)) = (n : Int) := by rw [IntWalk.i64_in _ (by omega)]; omega
    have HN := Lib.hid hn
    clear hn
    have HL0 := Lib.hid (fun wx (hb : Below w.heap.size w wx) => LlD.litAt hb)
    go_enter Try.func6, Try.ntmps6
    go_wp2_with fail
    refine (B1.out _).mono ?_
    rintro e w1 ⟨rfl, rfl⟩
    clear B1
    go_wp2_with fail
    refine (HA0.out _ (Below.refl _ _)).mono ?_
    rintro e w2 ⟨rfl, rfl⟩
    have HL1 := Lib.hid (HL0.out _ (Below.refl _ _))
    clear HL0 HA0
    go_wp2
    go_loopw [4, 5] (fun lv i wr => ∃ (k : Nat) (ks : List K2) (lv0 : Value), lv0 = lv ∧ k ≤ n ∧ i = .int .i64 k ∧ RgM n k ks ∧ LlD w2 wr lv ks) (fun _ i _ => n - (intOf i).toNat)
    case atStart => exact ⟨0, [], _, rfl, by omega, rfl, RgM.nil n, HL1.out⟩
    case round =>
      obtain ⟨k, ks, lv, rfl, hk, rfl, hR, hL⟩ := hrel
      have HR := Lib.hid hR
      have HL := Lib.hid hL
      have hkl := hR.1
      clear hR hL HL1
      by_cases hlt : k < n
      · have z1 : (k : Int) < (n : Int) := by omega
        have y0 : IntKind.i64.wrap ((k : Int) + 1) = (k : Int) + 1 := IntWalk.i64_in _ (by omega)
        have y1 := suc_mod hlt
        have y2 : IntKind.i64.wrap (sucN n k : Int) = (sucN n k : Int) := IntWalk.i64_in _ (by have := sucN_lt (n := n) (i := k) (by omega); omega)
        have y3 : ¬ (n : Int) = 0 := by omega
        have HR2 := Lib.hid (HR.out.next hn4 hlt)
        have HUP := Lib.hid (ilinkup_any lv ks (k : Int) (sucN n k : Int) _ HL.out.at (by omega))
        generalize sucN n k = sk at *
        go_wp2_with fail
        refine HUP.out.mono ?_
        rintro e w3 ⟨v3, rfl, hV3⟩
        have HV3 := Lib.hid (hV3.base HL.out.below)
        clear hV3 HUP y0 y1 y2 y3
        go_wp2
        exact ⟨⟨k + 1, _, _, rfl, by omega, by go_num, HR2.out, HV3.out⟩, by simp [intOf]; omega⟩
      · have hkn : n = k := by omega
        subst hkn
        have hGR := HR.out.gr
        obtain ⟨b, hb⟩ : ∃ b, qN n a c = b := ⟨_, rfl⟩
        obtain ⟨sa, hsa⟩ : ∃ sa, sucN n a = sa := ⟨_, rfl⟩
        obtain ⟨sb, hsb⟩ : ∃ sb, sucN n b = sb := ⟨_, rfl⟩
        have hbn : b < n := by rw [← hb]; exact qN_lt han (by omega)
        have hsan : sa < n := by rw [← hsa]; exact sucN_lt (by omega)
        have hsbn : sb < n := by rw [← hsb]; exact sucN_lt (by omega)
        have hsq : sa = qN n a 0 := by rw [← hsa]; unfold sucN qN; simp only [Nat.add_zero]; split <;> omega
        have hba : ¬ (False ∨ b = a) := fun h => by
          have h1 : qN n a c = qN n a (n - 1) := by rw [hb, qN_last han]; exact h.resolve_left (fun h => h)
          have := qN_inj han (by omega) (by omega) h1
          omega
        obtain ⟨hG1, hl1⟩ := hGR.cut hn4.1 han (fun h => h) (x := (a : Int)) (y := (sa : Int)) (by rw [← hsa]; rfl)
        obtain ⟨hG2, hl2⟩ := hG1.cut hn4.1 hbn hba (x := (sb : Int)) (y := (b : Int)) (by rw [← hsb, lnOf_comm]; rfl)
        generalize hO : downM ks (a : Int) (sa : Int) = O at *
        generalize hT : downM O (sb : Int) (b : Int) = Tw at *
        obtain ⟨X, hX⟩ := reach_exists Tw (a : Int)
        obtain ⟨Y, hY⟩ := reach_exists Tw (sa : Int)
        obtain ⟨R1, hR1⟩ := reach_exists ks (a : Int)
        obtain ⟨R2, hR2⟩ := reach_exists O (a : Int)
        have lXY : X.length + Y.length = n - 2 := arcs_len (c := c) (hG2.congr fun i => by rw [hb]; exact ⟨fun h => h.elim (fun h => .inl (h.resolve_left fun h => h)) .inr, fun h => h.elim (fun h => .inl (.inr h)) .inr⟩) hn4.1 han hcn hX (by rw [← hsq]; exact hY)
        have lR1 : R1.length = n - 1 := whole_len (a := a) (t0 := n - 1) hGR hn4.1 han (fun i h => h.elim) (by omega) (by rw [qN_last han]; exact hR1)
        have lR2 : R2.length = n - 1 := whole_len (a := a) (t0 := n - 1) hG1 hn4.1 han (fun i h => h.resolve_left fun h => h) (by omega) (by rw [qN_last han]; exact hR2)
        have lN := near_two hGR hn4.1 han
        have HLD1 := Lib.hid (fun vx wx (hx : keysAt wx vx ks) => ilinkdown_any vx ks (a : Int) (sa : Int) wx hx (by omega))
        have HLD2 := Lib.hid (fun vx wx (hx : keysAt wx vx O) => ilinkdown_any vx O (sb : Int) (b : Int) wx hx (by omega))
        rw [hO] at HLD1
        rw [hT] at HLD2
        have HRX := Lib.hid (fun vx wx (hx : keysAt wx vx Tw) => ireach_any vx Tw (a : Int) wx hx (by omega) X hX)
        have HRY := Lib.hid (fun vx wx (hx : keysAt wx vx Tw) => ireach_any vx Tw (sa : Int) wx hx (by omega) Y hY)
        have HR1 := Lib.hid (fun vx wx (hx : keysAt wx vx ks) => ireach_any vx ks (a : Int) wx hx (by omega) R1 hR1)
        have HR2 := Lib.hid (fun vx wx (hx : keysAt wx vx O) => ireach_any vx O (a : Int) wx hx (by omega) R2 hR2)
        have HNE := Lib.hid (fun vx wx (hx : keysAt wx vx ks) => inear_any vx ks (a : Int) wx hx (by omega))
        generalize nearM ks (a : Int) = Nr at *
        have p1 := suc_mod han
        rw [hsa] at p1
        have p2 := suc_mod hbn
        rw [hsb] at p2
        have p3 := q_mod han (show c < n by omega)
        rw [hb] at p3
        have q1 : IntKind.i64.wrap (a : Int) = (a : Int) := IntWalk.i64_in _ (by omega)
        have q2 : IntKind.i64.wrap ((a : Int) + 1) = (a : Int) + 1 := IntWalk.i64_in _ (by omega)
        have q3 : IntKind.i64.wrap ((n : Int) - 1) = ((n - 1 : Nat) : Int) := by rw [IntWalk.i64_in _ (by omega)]; omega
        have q4 : IntKind.i64.wrap (c : Int) = (c : Int) := IntWalk.i64_in _ (by omega)
        have q5 : IntKind.i64.wrap ((a : Int) + 1 + (c : Int)) = (a : Int) + 1 + (c : Int) := IntWalk.i64_in _ (by omega)
        have q6 : IntKind.i64.wrap (b : Int) = (b : Int) := IntWalk.i64_in _ (by omega)
        have q7 : IntKind.i64.wrap ((b : Int) + 1) = (b : Int) + 1 := IntWalk.i64_in _ (by omega)
        have q8 : IntKind.i64.wrap (sa : Int) = (sa : Int) := IntWalk.i64_in _ (by omega)
        have q9 : IntKind.i64.wrap (sb : Int) = (sb : Int) := IntWalk.i64_in _ (by omega)
        have q10 : IntKind.i64.wrap ((n : Int) - 2) = ((n - 2 : Nat) : Int) := by rw [IntWalk.i64_in _ (by omega)]; omega
        have q11 : IntKind.i64.wrap ((X.length : Int) + (Y.length : Int)) = ((n - 2 : Nat) : Int) := by rw [IntWalk.i64_in _ (by omega)]; omega
        have y3 : ¬ (n : Int) = 0 := by omega
        have y4 : ¬ ((n - 1 : Nat) : Int) = 0 := by omega
        have hlO : O.length = n - 1 := by omega
        have hlT : Tw.length = n - 2 := by omega
        obtain ⟨la, lc, hls⟩ := HL.out.shapeN n hkl
        subst hls
        clear hGR hb hsa hsb hsq hba hG1 hG2 hl1 hl2 hO hT hX hY hR1 hR2 HR hm0 HN
        go_wp2_with fail
        refine (HA1.out _ HL.out.below).mono ?_
        rintro e w3 ⟨rfl, rfl⟩
        go_wp2_with fail
        refine (HA2.out _ HL.out.below).mono ?_
        rintro e w4 ⟨rfl, rfl⟩
        go_wp2_with fail
        refine (HLD1.out _ _ HL.out.at).mono ?_
        rintro e w5 ⟨v5, rfl, hV5⟩
        have HO5 := Lib.hid (hV5.base HL.out.below)
        have HL5 := Lib.hid (HL.out.next hV5.below)
        clear hV5 HL HA1 HA2 HLD1
        obtain ⟨oa, oc, hos⟩ := HO5.out.shapeN (n - 1) hlO
        subst hos
        go_wp2_with fail
        refine (HLD2.out _ _ HO5.out.at).mono ?_
        rintro e w6 ⟨v6, rfl, hV6⟩
        have HT6 := Lib.hid (hV6.base HO5.out.below)
        have HL6 := Lib.hid (HL5.out.next hV6.below)
        have HO6 := Lib.hid (HO5.out.next hV6.below)
        clear hV6 HL5 HO5 HLD2
        obtain ⟨ta, tc, hts⟩ := HT6.out.shapeN (n - 2) hlT
        subst hts
        go_wp2_with fail
        refine (HRX.out _ _ HT6.out.at).mono ?_
        rintro e w7 ⟨v7, rfl, hV7⟩
        have HT7 := Lib.hid (HT6.out.next hV7.below)
        have HL7 := Lib.hid (HL6.out.next hV7.below)
        have HO7 := Lib.hid (HO6.out.next hV7.below)
        obtain ⟨xa, xc, hxs⟩ := hV7.shape
        subst hxs
        clear hV7 HL6 HO6 HT6 HRX
        go_wp2_with fail
        refine (HRY.out _ _ HT7.out.at).mono ?_
        rintro e w8 ⟨v8, rfl, hV8⟩
        have HL8 := Lib.hid (HL7.out.next hV8.below)
        have HO8 := Lib.hid (HO7.out.next hV8.below)
        obtain ⟨ya, yc, hys⟩ := hV8.shape
        subst hys
        clear hV8 HL7 HO7 HT7 HRY
        go_wp2_with fail
        refine (HNE.out _ _ HL8.out.at).mono ?_
        rintro e w9 ⟨v9, rfl, hV9⟩
        have HL9 := Lib.hid (HL8.out.next hV9.below)
        have HO9 := Lib.hid (HO8.out.next hV9.below)
        obtain ⟨na, nc, hns⟩ := hV9.shape2 2 lN.symm
        subst hns
        clear hV9 HL8 HO8 HNE
        go_wp2_with fail
        refine (HR1.out _ _ HL9.out.at).mono ?_
        rintro e w10 ⟨v10, rfl, hV10⟩
        have HO10 := Lib.hid (HO9.out.next hV10.below)
        obtain ⟨ra, rc, hrs⟩ := hV10.shape2 (n - 1) lR1.symm
        subst hrs
        clear hV10 HL9 HO9 HR1
        go_wp2_with fail
        refine (HR2.out _ _ HO10.out.at).mono ?_
        rintro e w11 ⟨v11, rfl, hV11⟩
        have HF := Lib.hid (HO10.out.next hV11.below).below
        obtain ⟨ra2, rc2, hrs2⟩ := hV11.shape2 (n - 1) lR2.symm
        subst hrs2
        clear hV11 HO10 HR2
        go_wp2
        go_ret
        exact ⟨by simp, HF.out⟩
  · go_enter Try.func6, Try.ntmps6
    go_wp2_with fail
    refine (big_true a0 len0 cap0 w hbig).mono ?_
    rintro e w1 ⟨rfl, rfl⟩
    go_wp2
    go_ret
    exact ⟨rfl, Below.refl _ _⟩
end Go.Proofs.Ytpfnpinoamjcjaa
