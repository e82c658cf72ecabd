/- What the laws lean on (own lemmas and walks of the called functions). -/
import Derived.Test.YtcecodjipeahkaaPc2
set_option linter.unusedVariables false
set_option linter.unusedSimpArgs false
namespace Go.Proofs.Ytcecodjipeahkaa
open Go.ChangeShapes Go.WideShapes Go.ChangeAt Go.RowKit Go.BigFrame Go.Shelf Go.Great
attribute [local go_sem] Oper.semAt_some
set_option linter.unusedVariables false

/-- the bits of some right keys -/
def bitsK (pre : List RK) (p : Nat) : Bool := pre.any fun k => decide (p = placeK k.1)
theorem bitsK_snoc (pre : List RK) (k : RK) : (bitsK (pre ++ [k])) = fun p => bitsK pre p || decide (p = placeK k.1) := by
  funext p
  simp [bitsK]
theorem bitsK_nil : bitsK [] = fun _ => false := rfl
theorem agg_u64 (w : World) : (isAgg 74).run Try.prog w = .ok false w := by simp [isAgg, underlying, Try.underlying74]
theorem size_row : (Try.prog.info? 76).map (·.size) = some 32 := by kernel_rfl
def rowA (f : Nat → Bool) : Array Value := (rowV f).toArray
theorem rowA_size (f : Nat → Bool) : (rowA f).size = 32 := by unfold rowA; rw [List.size_toArray, rowV_len]
theorem rowA_zero : #[.int .u64 0, .int .u64 0, .int .u64 0, .int .u64 0, .int .u64 0, .int .u64 0, .int .u64 0, .int .u64 0, .int .u64 0, .int .u64 0, .int .u64 0, .int .u64 0, .int .u64 0, .int .u64 0, .int .u64 0, .int .u64 0, .int .u64 0, .int .u64 0, .int .u64 0, .int .u64 0, .int .u64 0, .int .u64 0, .int .u64 0, .int .u64 0, .int .u64 0, .int .u64 0, .int .u64 0, .int .u64 0, .int .u64 0, .int .u64 0, .int .u64 0, .int .u64 0] = rowA fun _ => false := by kernel_rfl
theorem rowA_get (f : Nat → Bool) (j : Nat) (hj : j < 32) : (rowA f)[j]? = some (.int .u64 ((rowB f j : Nat) : Int)) := by
  unfold rowA; rw [List.getElem?_toArray]; exact rowV_get f j hj
/-- one number of a row set -/
theorem rowA_or (f : Nat → Bool) (p : Nat) (hp : p / 64 < 32) : (rowA f).setIfInBounds (p / 64) (.int .u64 ((rowB f (p / 64) ||| 2 ^ (p % 64) : Nat) : Int)) = rowA fun q => f q || decide (q = p) := by
  unfold rowA
  rw [List.setIfInBounds_toArray]
  congr 1
  refine List.ext_getElem? fun j => ?_
  rw [List.getElem?_set]
  by_cases hj : j < 32
  · rw [rowV_get (fun q => f q || decide (q = p)) j hj]
    by_cases e : p / 64 = j
    · subst e
      rw [if_pos rfl, if_pos (by rw [rowV_len]; exact hp), rowB_or_same]
    · rw [if_neg e, rowV_get f j hj, rowB_or_other f p j (Ne.symm e)]
  · have h1 : (rowV fun q => f q || decide (q = p))[j]? = none := List.getElem?_eq_none (by rw [rowV_len]; omega)
    have h2 : (rowV f)[j]? = none := List.getElem?_eq_none (by rw [rowV_len]; omega)
    rw [h1, if_neg (by omega), h2]
/-- the load's number set -/
theorem rowA_load (f : Nat → Bool) (x : C2) (hf : ∀ p, p < 1984 → f p = hasX x p) (hx : x.2.size = 4) : (rowA f).setIfInBounds 31 (.int .u64 ((numL x.2 : Nat) : Int)) = rowA (hasX x) := by
  unfold rowA
  rw [List.setIfInBounds_toArray]
  congr 1
  refine List.ext_getElem? fun j => ?_
  rw [List.getElem?_set]
  have hl := numL_lt x.2 hx
  by_cases hj : j < 32
  · rw [rowV_get (hasX x) j hj]
    by_cases e : 31 = j
    · subst e
      rw [if_pos rfl, if_pos (by rw [rowV_len]; omega)]
      have : rowB (hasX x) 31 = numL x.2 := packN_eq _ _ _ (by omega) fun i hi => by
        unfold hasX
        rw [if_neg (by omega), show 64 * 31 + i - 1984 = i by omega]
      rw [this]
    · rw [if_neg e, rowV_get f j hj, rowB_congr j fun i hi => hf _ (by omega)]
  · have h1 : (rowV (hasX x))[j]? = none := List.getElem?_eq_none (by rw [rowV_len]; omega)
    have h2 : (rowV f)[j]? = none := List.getElem?_eq_none (by rw [rowV_len]; omega)
    rw [h1, if_neg (by omega), h2]
/-- right keys, each with its proof -/
theorem rk_list : ∀ ks : List K2, keysOkR ks = true → ∃ rs : List RK, rs.map (·.1) = ks := by
  intro ks h
  have h1 := ((keysR_iff ks).1 h).1
  clear h
  induction ks with
  | nil => exact ⟨[], rfl⟩
  | cons k l ih =>
    obtain ⟨rs, hr⟩ := ih fun x hx => h1 x (List.mem_cons_of_mem _ hx)
    exact ⟨⟨k, h1 k (List.mem_cons_self ..)⟩ :: rs, by rw [List.map_cons, hr]⟩
theorem bitsK_has (rs : List RK) (y : ByteArray) (p : Nat) (hp : p < 1984) : bitsK rs p = hasX (rs.map (·.1), y) p := by
  unfold bitsK hasX
  rw [if_pos hp]
  dsimp only
  rw [Bool.eq_iff_iff, List.any_eq_true, decide_eq_true_eq, List.mem_map]
  constructor
  · rintro ⟨k, hk, e⟩
    have e := of_decide_eq_true e
    exact ⟨k, hk, by rw [e, place_key k.2]⟩
  · rintro ⟨k, hk, e⟩
    exact ⟨k, hk, decide_eq_true (by rw [e, key_place])⟩
theorem getV_load (y : ByteArray) (hy : y.size = 4) : getV y 0 4 = (numL y : Nat) := by
  unfold getV numL
  rw [if_neg (by omega)]
  congr 1
  have : (y.data.toList.drop (0 : Int).toNat).take (4 : Int).toNat = y.data.toList := by
    show (y.data.toList.drop 0).take 4 = _
    rw [List.drop_zero, List.take_of_length_le (by simp [hy])]
  rw [this]
theorem load_u64 {w : World} {p : Addr} {v : Value} (h : w.cell? p = some v) : (loadVar 74 p).run Try.prog w = .ok v w := load_one agg_u64 h
attribute [local irreducible] rowA rowB hasX bitsK numL
set_option maxRecDepth 100000 in
set_option maxHeartbeats 1200000 in
theorem irow_any (vx : Value) (ks : List K2) (y : ByteArray) (w : World) (hx : keysAt w vx ks) (hk : keysOkR ks = true) (hy : y.size = 4) :
    Calls Try.prog 47 #[.agg #[vx, .string y]] w fun e w' => e = .returned (.agg (rowA (hasX (ks, y)))) ∧ Below w.heap.size w w' := by
  refine (callsIn_wide (n := 9)).1 ?_
  have hx0 := keysIn0_of hx
  obtain ⟨rs, hrs⟩ := rk_list ks hk
  subst hrs
  have hfew := keys_few hk
  obtain ⟨ax, cx, rfl, -, -⟩ := hx
  rw [rk_len] at *
  have hb1 := (Below.refl w.heap.size w).alloc (Nat.le_refl _) (.cells #[.slice ax rs.length cx, .string y] 27)
  have hb2 := hb1.alloc hb1.size (.cells (rowA fun _ => false) 76)
  have HB := Lib.hid (hb2.alloc hb2.size (.cells (rowA fun _ => false) 76))
  have RX := Lib.hid ((Below.heap_alloc ((w.alloc (.cells #[.slice ax rs.length cx, .string y] 27)).alloc (.cells (rowA fun _ => false) 76)) (.cells (rowA fun _ => false) 76) w.heap.size (by simp; omega)).trans (heap_first w (.cells (rowA fun _ => false) 76) (.cells #[.slice ax rs.length cx, .string y] 27)))
  have RR := Lib.hid (heap_mid w (.cells #[.slice ax rs.length cx, .string y] 27) (.cells (rowA fun _ => false) 76) (.cells (rowA fun _ => false) 76))
  have rr := heap_alloc_new ((w.alloc (.cells #[.slice ax rs.length cx, .string y] 27)).alloc (.cells (rowA fun _ => false) 76)) (.cells (rowA fun _ => false) 76)
  rw [show ((w.alloc (.cells #[.slice ax rs.length cx, .string y] 27)).alloc (.cells (rowA fun _ => false) 76)).heap.size = w.heap.size + 2 by simp] at rr
  have RL := Lib.hid rr
  have hqz : (((w.alloc (.cells #[.slice ax rs.length cx, .string y] 27)).alloc (.cells (rowA fun _ => false) 76)).alloc (.cells (rowA fun _ => false) 76)).heap.size = w.heap.size + 3 := by simp
  obtain ⟨x0, x1, -, -⟩ := row2_of RX.out
  clear hb1 hb2 rr
  refine callsIn_of_wp_marks Try.func47 rfl trivial ?_ rfl
  simp only [Try.ntmps47, List.size_toArray, List.length_cons, List.length_nil, Nat.reduceAdd, Nat.reduceSub, Array.replicate_succ, Array.replicate_zero, List.push_toArray, List.append_toArray, List.nil_append, List.cons_append]
  gi_wp2
  rw [rowA_zero]
  generalize hW : (((w.alloc (.cells #[.slice ax rs.length cx, .string y] 27)).alloc (.cells (rowA fun _ => false) 76)).alloc (.cells (rowA fun _ => false) 76)) = W5 at *
  clear hW
  refine ⟨trivial, (callsIn_wide.2 (kin_any _ _ _ _)).mono ?_⟩
  rintro e w6 ⟨rfl, rfl⟩
  have bS := Boxed.new W5 25 (.slice ax rs.length cx)
  have hRL := (Below.heap_alloc W5 (.cells #[.slice ax rs.length cx] 25) _ (Array.getElem?_eq_some_iff.1 RL.out).1).trans RL.out
  have hRX := (Below.heap_alloc W5 (.cells #[.slice ax rs.length cx] 25) _ (Array.getElem?_eq_some_iff.1 RX.out).1).trans RX.out
  have hRR := (Below.heap_alloc W5 (.cells #[.slice ax rs.length cx] 25) _ (Array.getElem?_eq_some_iff.1 RR.out).1).trans RR.out
  have hB0 := HB.out.alloc HB.out.size (.cells #[.slice ax rs.length cx] 25)
  have hsz : (W5.alloc (.cells #[.slice ax rs.length cx] 25)).heap.size = w.heap.size + 4 := by simp; omega
  have hnS : W5.heap.size = w.heap.size + 3 := by omega
  rw [hnS] at bS
  clear RX RR RL HB x0 x1
  gi_wp2
  generalize W5.alloc (.cells #[.slice ax rs.length cx] 25) = W0 at *
  refine wpIn_rangeFunc_ownH (n := 9) rfl (by omega) (gf := 100) (lb := #[.pointer (some ⟨w.heap.size + 3, 0, none⟩)]) rfl trivial (enters_of Try.func100 (by kernel_rfl) rfl)
    (kir_stops 8 (w.heap.size + 3) w.heap.size (.slice ax rs.length cx) rs (by omega) (by omega) W0 (by omega) (by omega) bS.cell (hx0.below hB0)) belowK_t (belowK_b (by omega)) (Below.refl _ _) (fun _ => rfl)
    (fun pre W => W.heap[w.heap.size + 2]? = some (.cells (rowA (bitsK pre)) 76 (0, 0)) ∧ W.heap[w.heap.size]? = some (.cells #[.slice ax rs.length cx, .string y] 27 (0, 0)) ∧ W.heap[w.heap.size + 1]? = some (.cells (rowA fun _ => false) 76 (0, 0)) ∧ Below w.heap.size w W)
    (fun _ _ _ => False)
    (OwnFrom.and (Own.from (cells_own (w.heap.size + 2) (fun pre : List RK => rowA (bitsK pre)) 76) _) (OwnFrom.and (Own.from (cells_own w.heap.size (fun _ => #[.slice ax rs.length cx, .string y]) 27) _) (OwnFrom.and (Own.from (cells_own (w.heap.size + 1) (fun _ => rowA fun _ => false) 76) _) (ownFrom_below (Nat.le_refl _) (by omega)))))
    (fun _ _ _ _ _ hs _ _ => hs)
    ⟨by rw [bitsK_nil]; exact hRL, hRX, hRR, hB0⟩
    (fun x a' W => ∃ Bx, w.heap.size + 2 < Bx ∧ KBoxed W Bx x.1 ∧ a' = { tmps := #[.agg #[.slice ax rs.length cx, .string y], .pointer (some ⟨w.heap.size, 0, none⟩), .pointer (some ⟨w.heap.size + 1, 0, none⟩), .pointer (some ⟨w.heap.size + 1 + 1, 0, none⟩), .pointer (some ⟨Bx, 0, none⟩), undef, .pointer (some ⟨w.heap.size, 0, none⟩), .slice ax rs.length cx, .func (.func 100) #[] #[.pointer (some ⟨w.heap.size + 3, 0, none⟩)], kv x.1, undef, undef, undef, undef, undef, undef, undef, undef, undef, undef, undef, undef, undef, undef, undef, undef, undef], defers := [] })
    (fun x a' _ X Y row hs hg hr => by
      obtain ⟨Bx, e1, e2, e4⟩ := hs
      exact ⟨Bx, e1, kboxed_own Bx x.1 () X Y row e2 hg (fun r e => (hr r e).2), e4⟩)
    ?assign ?body ?done ?stop
  case assign =>
    rintro l pre ⟨⟨p, q⟩, hpq⟩ W K ⟨hRL, hTb, hRes, hB⟩ hK
    unfold kv at *
    dsimp only at *
    gi_wp2
    exact hK _ _ ((KeepsOthers.alloc _ _).from _) ((Below.refl _ W).alloc hB.size _) ⟨(Below.heap_alloc _ _ _ (Array.getElem?_eq_some_iff.1 hRL).1).trans hRL, (Below.heap_alloc _ _ _ (Array.getElem?_eq_some_iff.1 hTb).1).trans hTb, (Below.heap_alloc _ _ _ (Array.getElem?_eq_some_iff.1 hRes).1).trans hRes, hB.alloc hB.size _⟩ ⟨W.heap.size, (Array.getElem?_eq_some_iff.1 hRL).1, KBoxed.new W (p, q), rfl⟩
  case body =>
    rintro l pre ⟨⟨p, q⟩, hpq⟩ a' W hl ⟨r, hr⟩ ⟨hRL, hTb, hRes, hB⟩ ⟨Bx, hBx, bX, rfl⟩ hlt
    have hsn := bitsK_snoc pre ⟨(p, q), hpq⟩
    have hplt := place_lt hpq
    have hsW := hB.size
    have IP := Lib.hid (iplace_any (p, q) hpq)
    dsimp only at hsn
    generalize placeK (p, q) = P at *
    generalize bitsK pre = M at *
    have HSN := Lib.hid hsn
    clear hsn
    unfold kv at *
    dsimp only at *
    have cX0 := bX.cell0
    have cX1 := bX.cell1
    dsimp only at cX0 cX1
    gi_wp2
    refine ⟨trivial, (CallsIn.inRound l (callsIn_wide.2 (IP.out _))).mono ?_⟩
    rintro e W1 ⟨rfl, hb1⟩
    have g1 := grownN hb1
    have hRL1 := (hb1.block _ (Array.getElem?_eq_some_iff.1 hRL).1).trans hRL
    have hTb1 := (hb1.block _ (Array.getElem?_eq_some_iff.1 hTb).1).trans hTb
    have hRes1 := (hb1.block _ (Array.getElem?_eq_some_iff.1 hRes).1).trans hRes
    have hs1 := Nat.le_trans hsW hb1.size
    have hk1 : KeepsOthers W W1 := KeepsOthers.of_grownBy g1 (fun j o e => by cases e)
    have hB1 := hB.trans (hb1.mono hsW)
    have HBP1 := Lib.hid (hb1.mono hsW)
    have HK1 := Lib.hid hk1
    have HRL := Lib.hid hRL1
    have HT := Lib.hid hTb1
    have HRE := Lib.hid hRes1
    have HBB := Lib.hid hB1
    have HSZ := Lib.hid hs1
    clear hRL hTb hRes bX hb1 g1 hk1 hB cX0 cX1 IP hRL1 hTb1 hRes1 hB1 hs1
    have z0 : (0 : Int) ≤ ((P / 64 : Nat) : Int) := by omega
    have z1 : ((P / 64 : Nat) : Int) < 32 := by omega
    have hP64 : P / 64 < 32 := by omega
    have LA : ∀ w' : World, w'.heap[w.heap.size + 2]? = some (.cells (rowA M) 76 (0, 0)) → (loadVar 74 ⟨w.heap.size + 2, P / 64, none⟩).run Try.prog w' = .ok (.int .u64 ((rowB M (P / 64) : Nat) : Int)) w' := fun w' h => load_u64 (by rw [cell_of_row _ _ _ _ _ _ h]; exact rowA_get _ _ hP64)
    have HOR := Lib.hid (rowA_or M P hP64)
    have hbl := rowB_lt M (P / 64)
    gi_wp2
    refine wpIn_region_H (fun w' => w'.heap[w.heap.size + 2]? = some (.cells (rowA M) 76 (0, 0))) (by kernel_rfl) (by kernel_rfl) ?_
    have hb := (Below.refl W1.heap.size W1).drew
    have g2 := grownN hb
    replace HRL := Lib.hid ((hb.block _ (Array.getElem?_eq_some_iff.1 HRL.out).1).trans HRL.out)
    replace HT := Lib.hid ((hb.block _ (Array.getElem?_eq_some_iff.1 HT.out).1).trans HT.out)
    replace HRE := Lib.hid ((hb.block _ (Array.getElem?_eq_some_iff.1 HRE.out).1).trans HRE.out)
    replace HBP1 := Lib.hid (HBP1.out.trans (hb.mono HSZ.out))
    replace HBB := Lib.hid (HBB.out.trans (hb.mono HSZ.out))
    replace HK1 := Lib.hid (HK1.out.trans (KeepsOthers.of_grownBy g2 (fun j o e => by cases e)))
    replace HSZ := Lib.hid (Nat.le_trans HSZ.out hb.size)
    clear hb g2
    generalize W1.drew = w2 at *
    refine wpH_seg [true, true, true, true, true, true, true, true, true] [9] 0 (by kernel_rfl) (fun _ _ _ _ _ h => h) (by kernel_rfl) HRL.out ?_
    try simp only [maskRows]
    repeat (first
      | go_big_quiet_skip
      | (go_big_quiet_want
         first
           | (go_big_quiet_op; go_big_quiet_on)
           | (refine q_load 74 _ _ _ rfl rfl LA ?_; simp only [Act.put, List.setIfInBounds_toArray, List.set_cons_zero, List.set_cons_succ]; go_big_quiet_on)
           | (go_big_quiet_op; refine ⟨_, fun _ _ => rfl, ?_⟩; go_big_quiet_on)
           | (go_big_quiet_op; refine ⟨_, fun _ _ _ => rfl, ?_⟩; go_big_quiet_on)))
    refine wpQuiet_nil ?_
    refine List.forall_mem_singleton.2 ?_
    have c0 : w2.cell? ⟨w.heap.size + 2, P / 64, none⟩ = some (.int .u64 ((rowB M (P / 64) : Nat) : Int)) := by rw [cell_of_row _ _ _ _ _ _ HRL.out]; exact rowA_get _ _ hP64
    have f0 : w2.frozen? ⟨w.heap.size + 2, P / 64, none⟩ = false := by simp [World.frozen?, HRL.out]
    have hlt := (Array.getElem?_eq_some_iff.1 HRL.out).1
    refine segh_run rfl (by rfl) (fun K hK => ?_)
    go_simp
    have hor : bits .or .u64 ((rowB M (P / 64) : Nat) : Int) (IntKind.u64.wrap (2 ^ (P % 64))) = ((rowB M (P / 64) ||| 2 ^ (P % 64) : Nat) : Int) := by
      have h2 : (2 : Nat) ^ (P % 64) < 18446744073709551616 := Nat.pow_lt_pow_right (by decide) (show P % 64 < 64 by omega)
      have h3 : (2 : Int) ^ (P % 64) = ((2 ^ (P % 64) : Nat) : Int) := by rw [Int.natCast_pow]; rfl
      rw [h3]
      generalize 2 ^ (P % 64) = t at *
      have h4 : IntKind.u64.wrap (t : Int) = (t : Int) := by rw [IntKind.wrap_u64]; omega
      rw [h4]
      exact u64_or _ _ hbl h2
    have hset := set_cellsD (j := P / 64) (.int .u64 (bits .or .u64 ((rowB M (P / 64) : Nat) : Int) (IntKind.u64.wrap (2 ^ (P % 64))))) HRL.out
    have hset2 : (w2.setCell ⟨w.heap.size + 2, P / 64, none⟩ (.int .u64 (bits .or .u64 ((rowB M (P / 64) : Nat) : Int) (IntKind.u64.wrap (2 ^ (P % 64)))))).heap[w.heap.size + 2]? = some (.cells (rowA (bitsK (pre ++ [⟨(p, q), hpq⟩]))) 76 (0, 0)) := by
      rw [hset, hor, HOR.out, HSN.out]
    have g9 := Lib.grownBy_setCell w2 (w.heap.size + 2) (P / 64) (.int .u64 (bits .or .u64 ((rowB M (P / 64) : Nat) : Int) (IntKind.u64.wrap (2 ^ (P % 64)))))
    have hne9 : ∀ B, B ≠ w.heap.size + 2 → some B ≠ some (w.heap.size + 2) := fun B h e => h (Option.some.inj e)
    have HRL2 := Lib.hid hset2
    have HT2 := Lib.hid ((g9.block _ (Array.getElem?_eq_some_iff.1 HT.out).1 (hne9 _ (by omega))).trans HT.out)
    have HRE2 := Lib.hid ((g9.block _ (Array.getElem?_eq_some_iff.1 HRE.out).1 (hne9 _ (by omega))).trans HRE.out)
    have HBP2 := Lib.hid (HBP1.out.setCell (p := ⟨w.heap.size + 2, P / 64, none⟩) (by show w.heap.size ≤ w.heap.size + 2; omega) (.int .u64 (bits .or .u64 ((rowB M (P / 64) : Nat) : Int) (IntKind.u64.wrap (2 ^ (P % 64))))))
    have HBB2 := Lib.hid (HBB.out.setCell (p := ⟨w.heap.size + 2, P / 64, none⟩) (by show w.heap.size ≤ w.heap.size + 2; omega) (.int .u64 (bits .or .u64 ((rowB M (P / 64) : Nat) : Int) (IntKind.u64.wrap (2 ^ (P % 64))))))
    have HK2 := Lib.hid (HK1.out.trans (KeepsOthers.of_grownBy g9 (fun j o e ho => by cases e; rw [HRL.out] at ho; cases ho; rfl)))
    clear HT HRE HBP1 HBB HK1 HSZ c0 f0 hlt g9 hne9 hset hset2 HRL hor LA
    refine hK _ _ (.inl ⟨⟨lastP_of (by kernel_rfl), by kernel_rfl⟩, ?_⟩)
    clear hK K
    try simp only [Act.put, List.setIfInBounds_toArray, List.set_cons_zero, List.set_cons_succ]
    simp only [OnlyNormal]
    gi_wp2
    exact ⟨HK2.out.from _, HBP2.out, HRL2.out, HT2.out, HRE2.out, HBB2.out⟩
  case done =>
    rintro D ys W hD hys ⟨hRL, hTb, hRes, hB⟩ hK
    subst hys
    have hsW := hB.size
    obtain ⟨x0, x1, -, -⟩ := row2_of hTb
    have hn := getV_load y hy
    have hl := numL_lt y hy
    have IG := Lib.hid (fun w => iget_any y 0 4 w (by omega))
    rw [hn] at IG
    have hwr : IntKind.u64.wrap ((numL y : Nat) : Int) = ((numL y : Nat) : Int) := by rw [IntKind.wrap_u64]; omega
    have hset := set_cellsD (j := 31) (.int .u64 ((numL y : Nat) : Int)) hRL
    rw [rowA_load (bitsK ys) (ys.map (·.1), y) (fun p hp => bitsK_has ys y p hp) hy] at hset
    have c0 : W.cell? ⟨w.heap.size + 2, 31, none⟩ = some (.int .u64 ((rowB (bitsK ys) 31 : Nat) : Int)) := by rw [cell_of_row _ _ _ _ _ _ hRL]; exact rowA_get _ _ (by omega)
    have f0 : W.frozen? ⟨w.heap.size + 2, 31, none⟩ = false := by simp [World.frozen?, hRL]
    have hlt := (Array.getElem?_eq_some_iff.1 hRL).1
    have g9 := Lib.grownBy_setCell W (w.heap.size + 2) 31 (.int .u64 ((numL y : Nat) : Int))
    have hDlt := (Array.getElem?_eq_some_iff.1 hK).1
    have hD2 : w.heap.size + 2 ≠ D := by omega
    have hK2 := (g9.block D hDlt (fun e => by cases e; omega)).trans hK
    have hR2 := (g9.block _ (Array.getElem?_eq_some_iff.1 hRes).1 (fun e => by have := Option.some.inj e; omega)).trans hRes
    have hB2 := hB.setCell (p := ⟨w.heap.size + 2, 31, none⟩) (by show w.heap.size ≤ w.heap.size + 2; omega) (.int .u64 ((numL y : Nat) : Int))
    have HF := Lib.hid (And.intro hset (And.intro hK2 (And.intro hR2 hB2)))
    clear hRL hTb hRes hB hset hK2 hR2 hB2 g9 hK hn
    simp only [Exit.inBlock, Exit.then]
    rename_i hKK
    refine hKK _ _ ?_
    clear hKK
    refine wpIn_wide.2 ?_
    apply wp_seq_k; intro K0 hK0
    have HK0 := Lib.hid hK0; clear hK0
    go_wp2_with fail
    refine (IG.out _).mono ?_
    rintro e W1 ⟨rfl, rfl⟩
    go_wp2_with fail
    refine HK0.out _ _ ?_
    clear HK0 K0
    obtain ⟨hset, hK2, hR2, hB2⟩ := HF.out
    have hW2 : ∃ W2, W2 = W1.setCell ⟨w.heap.size + 2, 31, none⟩ (.int .u64 ((numL y : Nat) : Int)) := ⟨_, rfl⟩
    obtain ⟨W2, hW2⟩ := hW2
    rw [← hW2] at hset hK2 hR2 hB2
    rw [show W1.setCell ⟨w.heap.size + 1 + 1, 31, none⟩ (.int .u64 ((numL y : Nat) : Int)) = W2 from hW2.symm]
    clear hW2
    have LD := run_loadVar_row (P := Try.prog) W2 (w.heap.size + 2) 76 76 (rowA (hasX (ys.map (·.1), y))) (0, 0) _ hset Try.underlying76 rfl (by rw [rowA_size]; exact size_row)
    have hs3 := setRow_heap W2 (w.heap.size + 1) _ (rowA (hasX (ys.map (·.1), y))) 76 (0, 0) hR2
    have hB3 : Below w.heap.size w (W2.setRow (w.heap.size + 1) (rowA (hasX (ys.map (·.1), y)))) := hB2.trans ⟨rfl, rfl, rfl, by rw [setRow_size]; exact Nat.le_refl _, fun k hk => setRow_other _ _ _ _ (by omega)⟩
    have hK3 := (setRow_other W2 (w.heap.size + 1) D (rowA (hasX (ys.map (·.1), y))) (by omega)).trans hK2
    have hone : (rowA (hasX (ys.map (·.1), y))).all (·.oneCell') = true := by unfold rowA; exact all_oneCell_toArray (rowV_one _)
    have hrz := rowA_size (hasX (ys.map (·.1), y))
    have hrz0 := rowA_size (fun _ => false)
    generalize hA2 : rowA (hasX (ys.map (·.1), y)) = A2 at *
    generalize (rowA fun _ => false) = A0 at *
    have HF := Lib.hid (And.intro hK3 (And.intro hs3 hB3))
    clear hK3 hs3 hB3 hK2 hB2
    apply wp_seq_k; intro K0 hK0
    apply wp_region_lit
    refine wpList_load_row rfl 76 (.tmp 3) rfl (w.heap.size + 2) rfl 76 A2 (0, 0) _ hset Try.underlying76 rfl (by rw [hrz]; exact size_row) ?_
    refine wpList_store_rowTo rfl 76 (.tmp 2) (.tmp 26) rfl rfl (w.heap.size + 1) A2 rfl rfl 76 A0 hR2 (by rw [hrz]; exact size_row) (by rw [hrz0, hrz]) hone ?_
    apply wpList_nil
    refine hK0 _ _ ?_
    apply wp_ret
    obtain ⟨hK3, hs3, hB3⟩ := HF.out
    try rw [Exit.noGoto_ret]
    refine ⟨by simp, .inl ⟨_, _, rfl, run_takeDeferred hK3, ?_⟩⟩
    have hR3 := (World.putObj_heap_other (w := W2.setRow (w.heap.size + 1) A2) (r := D) (o := .deferred none) (show w.heap.size + 1 ≠ D by omega)).trans hs3
    have l3 := run_loadVar_row (P := Try.prog) _ (w.heap.size + 1) 76 76 A2 (0, 0) _ hR3 Try.underlying76 rfl (by rw [hrz]; exact size_row)
    refine ⟨.agg A2, ?_, by rw [hA2], hB3.trans (belowK_b (w := w) (Nat.le_refl _) _ D _ _ (by omega) hK3 rfl rfl)⟩
    rw [results_cell (p := 2) (ty := 76) (by kernel_rfl)]
    simp [asAddr, Result.andThen, l3, Act.put]
  case stop =>
    rintro D c pre W _ _ h _
    exact h.elim
end Go.Proofs.Ytcecodjipeahkaa
namespace Go.Proofs.Ytcecodjipeahkaa
open Go.ChangeShapes Go.WideShapes Go.ChangeAt Go.RowKit Go.BigFrame
set_option linter.unusedVariables false

/-- four bytes as an array's value -/
def arr4 (y : ByteArray) : Value := .agg (Lib.byteCells y.data.toList).toArray
theorem four_bytes (y : ByteArray) (h : y.size = 4) : ∃ a b c d : UInt8, y.data.toList = [a, b, c, d] := by
  have hl : y.data.toList.length = 4 := by simpa using h
  match hm : y.data.toList, hl with
  | [a, b, c, d], _ => exact ⟨a, b, c, d, rfl⟩
theorem set_cellsR {w : World} {B j : Nat} {cs : Array Value} {t : TypeId} (u : Value) (h : w.heap[B]? = some (.cells cs t (0, 0))) : (w.setCell ⟨B, j, none⟩ u).heap[B]? = some (.cells (cs.setIfInBounds j u) t (0, 0)) := by
  obtain ⟨hlt, hk⟩ := Array.getElem?_eq_some_iff.1 h
  show (w.heap.modify B _)[B]? = _
  rw [Array.getElem?_eq_getElem (by rw [Array.size_modify]; exact hlt), Array.getElem_modify_self, hk]
  rfl
set_option maxRecDepth 100000 in
theorem iloadbytes_any (y : ByteArray) (w : World) (hy : y.size = 4) : Calls Try.prog 65 #[.string y] w fun e w' => e = .returned (arr4 y) ∧ Below w.heap.size w w' := by
  obtain ⟨a, b, c, d, hd⟩ := four_bytes y hy
  have hsz : (Try.prog.info? 5).map (·.size) = some 1 := by kernel_rfl
  have hW : (((w.alloc (.cells #[.int .u8 0, .int .u8 0, .int .u8 0, .int .u8 0] 95)).alloc (.cells #[.int .u8 0, .int .u8 0, .int .u8 0, .int .u8 0] 95))).heap[w.heap.size + 1]? = some (.cells #[.int .u8 0, .int .u8 0, .int .u8 0, .int .u8 0] 95) := by
    have := heap_alloc_new (w.alloc (.cells #[.int .u8 0, .int .u8 0, .int .u8 0, .int .u8 0] 95)) (.cells #[.int .u8 0, .int .u8 0, .int .u8 0, .int .u8 0] 95)
    simpa using this
  have hB : Below w.heap.size w ((w.alloc (.cells #[.int .u8 0, .int .u8 0, .int .u8 0, .int .u8 0] 95)).alloc (.cells #[.int .u8 0, .int .u8 0, .int .u8 0, .int .u8 0] 95)) := ((Below.refl _ _).alloc (Nat.le_refl _) _).alloc (by simp) _
  have hF : ((w.alloc (.cells #[.int .u8 0, .int .u8 0, .int .u8 0, .int .u8 0] 95)).alloc (.cells #[.int .u8 0, .int .u8 0, .int .u8 0, .int .u8 0] 95)).heap[w.heap.size]? = some (.cells #[.int .u8 0, .int .u8 0, .int .u8 0, .int .u8 0] 95) := heap_first _ _ _
  have hr := fun ty => Lib.run_copy_row_string (P := Try.prog) ((w.alloc (.cells #[.int .u8 0, .int .u8 0, .int .u8 0, .int .u8 0] 95)).alloc (.cells #[.int .u8 0, .int .u8 0, .int .u8 0, .int .u8 0] 95)) 22 9 ty 5 (w.heap.size + 1) 0 4 4 y #[.int .u8 0, .int .u8 0, .int .u8 0, .int .u8 0] 95 Try.underlying22 hsz hW (by omega) (by simp; omega)
  rw [show (List.take 0 (#[Value.int .u8 0, .int .u8 0, .int .u8 0, .int .u8 0] : Array Value).toList ++ Lib.byteCells y.data.toList ++ List.drop (0 + y.size) (#[Value.int .u8 0, .int .u8 0, .int .u8 0, .int .u8 0] : Array Value).toList).toArray = #[.int .u8 a.toNat, .int .u8 b.toNat, .int .u8 c.toNat, .int .u8 d.toNat] by rw [hy, hd]; rfl] at hr
  have hB2 := below_setRow hB (show w.heap.size ≤ w.heap.size + 1 by omega) #[.int .u8 a.toNat, .int .u8 b.toNat, .int .u8 c.toNat, .int .u8 d.toNat]
  have hS := setRow_heap _ (w.heap.size + 1) _ #[.int .u8 a.toNat, .int .u8 b.toNat, .int .u8 c.toNat, .int .u8 d.toNat] 95 (0, 0) hW
  have hF2 : (World.setRow ((w.alloc (.cells #[.int .u8 0, .int .u8 0, .int .u8 0, .int .u8 0] 95)).alloc (.cells #[.int .u8 0, .int .u8 0, .int .u8 0, .int .u8 0] 95)) (w.heap.size + 1) #[.int .u8 a.toNat, .int .u8 b.toNat, .int .u8 c.toNat, .int .u8 d.toNat]).heap[w.heap.size]? = some (.cells #[.int .u8 0, .int .u8 0, .int .u8 0, .int .u8 0] 95) := by
    rw [setRow_other _ _ _ _ (by omega)]; exact hF
  generalize World.setRow ((w.alloc (.cells #[.int .u8 0, .int .u8 0, .int .u8 0, .int .u8 0] 95)).alloc (.cells #[.int .u8 0, .int .u8 0, .int .u8 0, .int .u8 0] 95)) (w.heap.size + 1) #[.int .u8 a.toNat, .int .u8 b.toNat, .int .u8 c.toNat, .int .u8 d.toNat] = W2 at *
  have c0 : W2.cell? ⟨w.heap.size + 1, 0, none⟩ = some (.int .u8 a.toNat) := by rw [cell_of_row _ _ 0 _ _ _ hS]; rfl
  have c1 : W2.cell? ⟨w.heap.size + 1, 1, none⟩ = some (.int .u8 b.toNat) := by rw [cell_of_row _ _ 1 _ _ _ hS]; rfl
  have c2 : W2.cell? ⟨w.heap.size + 1, 2, none⟩ = some (.int .u8 c.toNat) := by rw [cell_of_row _ _ 2 _ _ _ hS]; rfl
  have c3 : W2.cell? ⟨w.heap.size + 1, 3, none⟩ = some (.int .u8 d.toNat) := by rw [cell_of_row _ _ 3 _ _ _ hS]; rfl
  have d0 : W2.cell? ⟨w.heap.size, 0, none⟩ = some (.int .u8 0) := by rw [cell_of_row _ _ 0 _ _ _ hF2]; rfl
  have d1 : W2.cell? ⟨w.heap.size, 1, none⟩ = some (.int .u8 0) := by rw [cell_of_row _ _ 1 _ _ _ hF2]; rfl
  have d2 : W2.cell? ⟨w.heap.size, 2, none⟩ = some (.int .u8 0) := by rw [cell_of_row _ _ 2 _ _ _ hF2]; rfl
  have d3 : W2.cell? ⟨w.heap.size, 3, none⟩ = some (.int .u8 0) := by rw [cell_of_row _ _ 3 _ _ _ hF2]; rfl
  have f0 : W2.frozen? ⟨w.heap.size, 0, none⟩ = false := by simp [World.frozen?, hF2]
  have f1 : W2.frozen? ⟨w.heap.size, 1, none⟩ = false := by simp [World.frozen?, hF2]
  have f2 : W2.frozen? ⟨w.heap.size, 2, none⟩ = false := by simp [World.frozen?, hF2]
  have f3 : W2.frozen? ⟨w.heap.size, 3, none⟩ = false := by simp [World.frozen?, hF2]
  have hfin : ((((W2.setCell ⟨w.heap.size, 0, none⟩ (.int .u8 a.toNat)).setCell ⟨w.heap.size, 1, none⟩ (.int .u8 b.toNat)).setCell ⟨w.heap.size, 2, none⟩ (.int .u8 c.toNat)).setCell ⟨w.heap.size, 3, none⟩ (.int .u8 d.toNat)).heap[w.heap.size]? = some (.cells #[.int .u8 a.toNat, .int .u8 b.toNat, .int .u8 c.toNat, .int .u8 d.toNat] 95) :=
    set_cellsR _ (set_cellsR _ (set_cellsR _ (set_cellsR _ hF2)))
  have hBf := (((hB2.setCell (p := ⟨w.heap.size, 0, none⟩) (Nat.le_refl _) (.int .u8 a.toNat)).setCell (p := ⟨w.heap.size, 1, none⟩) (Nat.le_refl _) (.int .u8 b.toNat)).setCell (p := ⟨w.heap.size, 2, none⟩) (Nat.le_refl _) (.int .u8 c.toNat)).setCell (p := ⟨w.heap.size, 3, none⟩) (Nat.le_refl _) (.int .u8 d.toNat)
  have L2 := run_loadVar_row (P := Try.prog) _ w.heap.size 95 95 #[.int .u8 a.toNat, .int .u8 b.toNat, .int .u8 c.toNat, .int .u8 d.toNat] (0, 0) _ hfin Try.underlying95 rfl (by kernel_rfl)
  have L2 := Lib.hid L2; have HBF := Lib.hid hBf; clear hfin hBf hB2 hB hF hW hF2 hS hsz
  go_enter Try.func65, Try.ntmps65
  go_wp2_with (at_builtin; refine Lib.wpList_copy_run _ rfl (.tmp 4) (.tmp 5) 22 9 rfl _ _ rfl rfl (hr _) ?_)
  refine bodyPost_ret (v := .agg #[.int .u8 a.toNat, .int .u8 b.toNat, .int .u8 c.toNat, .int .u8 d.toNat]) ?_ rfl ⟨by unfold arr4; rw [hd]; rfl, HBF.out⟩
  rw [results_cell (p := 2) (ty := 95) (by kernel_rfl)]
  simp [asAddr, Result.andThen, L2.out]
end Go.Proofs.Ytcecodjipeahkaa
namespace Go.Proofs.Ytcecodjipeahkaa
open Go.ChangeShapes Go.WideShapes Go.ChangeAt Go.RowKit Go.BigFrame
set_option linter.unusedVariables false

theorem arr_sz : ∀ w : World, (sizeOf 5).run Try.prog w = .ok 1 w := by
  obtain ⟨i0, h1, h2⟩ : ∃ i, Try.prog.info? 5 = some i ∧ i.size = 1 := by
    have h : (Try.prog.info? 5).map (·.size) = some 1 := by kernel_rfl
    cases hq : Try.prog.info? 5 with
    | none => rw [hq] at h; simp at h
    | some i => rw [hq] at h; exact ⟨i, rfl, by simpa using h⟩
  intro w
  simp [sizeOf, typeInfo, h1, h2]
theorem arr_eql (x y : ByteArray) (hx : x.size = 4) (hy : y.size = 4) (w : World) : (binOp .eql 95 (arr4 x) (arr4 y)).run Try.prog w = .ok (.bool (x.data.toList == y.data.toList)) w :=
  run_eql_bytes w 95 5 4 Try.underlying95 Try.underlying5 arr_sz _ _ (by simpa using hx) (by simpa using hy)
theorem arr_guard (op : BinOp) (x y : Operand) (a b : ByteArray) (w : World) : (eqGuard op 95 x y (arr4 a) (arr4 b)).run Try.prog w = .ok () w := by
  unfold arr4
  exact run_eqGuard_agg w op 95 x y _ _ (by kernel_rfl)
theorem arr4_lit (y : ByteArray) (h : y.size = 4) : ∃ a b c d : Int, arr4 y = .agg #[.int .u8 a, .int .u8 b, .int .u8 c, .int .u8 d] := by
  obtain ⟨a, b, c, d, hd⟩ := four_bytes y h
  exact ⟨a.toNat, b.toNat, c.toNat, d.toNat, by unfold arr4; rw [hd]; rfl⟩
end Go.Proofs.Ytcecodjipeahkaa
namespace Go.Proofs.Ytcecodjipeahkaa
open Go.ChangeShapes Go.WideShapes Go.ChangeAt Go.RowKit Go.BigFrame
set_option linter.unusedVariables false

def zero4L : List UInt8 := [0, 0, 0, 0]
theorem z4_eq (y : ByteArray) : decide (y = z4) = (y.data.toList == zero4L) := by
  rw [Bool.eq_iff_iff, decide_eq_true_eq, beq_iff_eq]
  constructor
  · rintro rfl; rfl
  · intro h
    have : y = ⟨y.data.toList.toArray⟩ := by simp
    rw [this, h]; rfl
set_option maxRecDepth 100000 in
set_option maxHeartbeats 1000000 in
theorem icodeok_any (v : Value) (ks : List K2) (y : ByteArray) (w : World) (h : keysAt w v ks) (hs : ks.length ≤ 2000000) :
    Calls Try.prog 99 #[.agg #[v, .string y]] w fun e w' => e = .returned (.bool (codeOkB (ks, y))) ∧ Below w.heap.size w w' := by
  have hb := (Below.refl w.heap.size w).alloc (Nat.le_refl _) (.cells #[v, .string y] 27)
  have HB := Lib.hid hb
  have HX := Lib.hid (heap_alloc_new w (.cells #[v, .string y] 27))
  have HK := Lib.hid (ikeysok_any v ks (w.alloc (.cells #[v, .string y] 27)) (keysAt_below h hb) hs)
  obtain ⟨a, cap, rfl, -, -⟩ := h
  unfold codeOkB
  dsimp only
  obtain ⟨x0, x1, -, -⟩ := row2_of HX.out
  clear hb
  go_enter Try.func99, Try.ntmps99
  by_cases h1 : ks.length ≤ 6
  · have i1 : ¬ (6 : Int) < (ks.length : Int) := by omega
    have i2 : (ks.length : Int) ≤ 6 := by omega
    go_wp2_with fail
    generalize w.alloc (.cells #[.slice a ks.length cap, .string y] 27) = W at *
    refine HK.out.mono ?_
    rintro e w1 ⟨rfl, hb1⟩
    have HB1 := Lib.hid (HB.out.trans (hb1.mono HB.out.size))
    clear x0 x1
    obtain ⟨x0, x1⟩ := cd_cells HX.out hb1
    clear hb1 HK HX HB
    cases h2 : keysOkR ks with
    | false =>
      go_wp2
      go_ret
      exact ⟨by simp [h1, h2], HB1.out⟩
    | true =>
      by_cases h3 : y.size = 4
      · have i3 : (y.size : Int) = 4 := by omega
        by_cases h4 : 0 < ks.length
        · have i4 : (0 : Int) < (ks.length : Int) := by omega
          go_wp2
          go_ret
          exact ⟨by simp [h1, h2, h3, h4], HB1.out⟩
        · have i4 : ¬ (0 : Int) < (ks.length : Int) := by omega
          have AE := fun w => arr_eql y z4 h3 rfl w
          have AG := fun op x z w => arr_guard op x z y z4 w
          have HL := Lib.hid (iloadbytes_any y w1 h3)
          obtain ⟨p, q, r, s, hp⟩ := arr4_lit y h3
          rw [hp] at AE AG HL
          rw [show arr4 z4 = .agg #[.int .u8 0, .int .u8 0, .int .u8 0, .int .u8 0] from rfl] at AE AG
          rw [show z4.data.toList = zero4L from rfl, ← z4_eq] at AE
          clear hp
          generalize hbo : decide (y = z4) = bo at *
          go_wp2_with fail
          refine HL.out.mono ?_
          rintro e w2 ⟨rfl, hb2⟩
          have HB2 := Lib.hid (HB1.out.trans (hb2.mono HB1.out.size))
          clear hb2 HL x0 x1 HB1
          go_wp2
          go_ret
          exact ⟨by rw [← hbo]; simp [h1, h2, h3, h4], HB2.out⟩
      · have i3 : ¬ (y.size : Int) = 4 := by omega
        go_wp2
        go_ret
        exact ⟨by simp [h1, h2, h3], HB1.out⟩
  · have i1 : (6 : Int) < (ks.length : Int) := by omega
    have i2 : ¬ (ks.length : Int) ≤ 6 := by omega
    go_wp2
    go_ret
    exact ⟨by simp [h1], HB.out⟩
end Go.Proofs.Ytcecodjipeahkaa
namespace Go.Proofs.Ytcecodjipeahkaa
open Go.ChangeShapes Go.WideShapes Go.ChangeAt Go.RowKit Go.BigFrame
set_option linter.unusedVariables false

/-- rows, as they lie one behind the other -/
def rowsC (R : List W2) : List Value := R.flatMap fun x => rowV (hX x)
theorem rowsC_snoc (R : List W2) (x : W2) : rowsC (R ++ [x]) = rowsC R ++ rowV (hX x) := by simp [rowsC]
theorem rowsC_len : ∀ R : List W2, (rowsC R).length = R.length * 32
  | [] => rfl
  | x :: R => by
    have := rowsC_len R
    simp only [rowsC, List.flatMap_cons, List.length_append, List.length_cons, rowV_len] at *
    omega
theorem rowsC_get : ∀ (R : List W2) (i j : Nat), i < R.length → j < 32 → (rowsC R)[i * 32 + j]? = (rowV (hX (R.getD i zW)))[j]?
  | [], _, _, h, _ => by simp at h
  | x :: R, 0, j, _, hj => by
    simp only [rowsC, List.flatMap_cons, List.getD_cons_zero, Nat.zero_mul, Nat.zero_add]
    rw [List.getElem?_append_left (by rw [rowV_len]; exact hj)]
  | x :: R, i + 1, j, h, hj => by
    have ih := rowsC_get R i j (by simpa using h) hj
    simp only [rowsC, List.flatMap_cons, List.getD_cons_succ] at *
    rw [List.getElem?_append_right (by rw [rowV_len]; omega), rowV_len, show (i + 1) * 32 + j - 32 = i * 32 + j by omega]
    exact ih
def setL : List Value → Nat → List Value → List Value
  | xs, _, [] => xs
  | xs, o, v :: r => setL (xs.set o v) (o + 1) r
theorem setL_cons (x : Value) : ∀ (vs : List Value) (xs : List Value) (o : Nat), setL (x :: xs) (o + 1) vs = x :: setL xs o vs
  | [], _, _ => rfl
  | v :: r, xs, o => by
    show setL ((x :: xs).set (o + 1) v) (o + 1 + 1) r = _
    rw [List.set_cons_succ]
    exact setL_cons x r (xs.set o v) (o + 1)
theorem setL_front : ∀ (a b post : List Value), a.length = b.length → setL (a ++ post) 0 b = b ++ post
  | [], [], _, _ => rfl
  | x :: a, y :: b, post, h => by
    show setL ((x :: (a ++ post)).set 0 y) (0 + 1) b = _
    rw [List.set_cons_zero, setL_cons, setL_front a b post (by simpa using h)]
    rfl
  | [], y :: b, _, h => by simp at h
  | x :: a, [], _, h => by simp at h
theorem setL_mid : ∀ (pre a b post : List Value), a.length = b.length → setL (pre ++ (a ++ post)) pre.length b = pre ++ (b ++ post)
  | [], a, b, post, h => setL_front a b post h
  | x :: pre, a, b, post, h => by
    show setL (x :: (pre ++ (a ++ post))) (pre.length + 1) b = _
    rw [setL_cons, setL_mid pre a b post h]
    rfl
theorem setL_rows : ∀ (R : List W2) (i : Nat) (x : W2), i < R.length → setL (rowsC R) (i * 32) (rowV (hX x)) = rowsC (R.set i x) := by
  intro R i x hi
  have e1 : R = R.take i ++ (R.getD i zW :: R.drop (i + 1)) := by
    rw [List.getD, List.getElem?_eq_getElem hi]
    show R = R.take i ++ (R[i] :: R.drop (i + 1))
    rw [← List.drop_eq_getElem_cons hi, List.take_append_drop]
  have e2 : R.set i x = R.take i ++ (x :: R.drop (i + 1)) := List.set_eq_take_append_cons_drop .. |>.trans (by rw [if_pos hi])
  have hl : (rowsC (R.take i)).length = i * 32 := by rw [rowsC_len, List.length_take, Nat.min_eq_left (by omega)]
  have h1 : rowsC R = rowsC (R.take i) ++ (rowV (hX (R.getD i zW)) ++ rowsC (R.drop (i + 1))) := by
    rw [e1]
    simp only [rowsC, List.flatMap_append, List.flatMap_cons]
    rw [← e1]
  have h2 : rowsC (R.set i x) = rowsC (R.take i) ++ (rowV (hX x) ++ rowsC (R.drop (i + 1))) := by
    rw [e2]
    simp only [rowsC, List.flatMap_append, List.flatMap_cons]
  rw [h1, h2, ← hl]
  exact setL_mid _ _ _ _ (by rw [rowV_len, rowV_len])
theorem own_setCells : ∀ (vs : List Value) (o : Nat) (w : World) {base g cap n : Nat} {e : TypeId} {size : Nat} {xs : List Value}, w.ownsRow base e size (.slice (some ⟨g, 0, none⟩) n cap) n xs →
    (w.setCells g o vs).ownsRow base e size (.slice (some ⟨g, 0, none⟩) n cap) n (setL xs o vs)
  | [], _, _, _, _, _, _, _, _, _, h => h
  | v :: r, o, w, _, _, _, _, _, _, _, h => by
    have h1 := (h.stored o v).1
    exact own_setCells r (o + 1) _ h1
theorem grown_setCells (g : Nat) : ∀ (vs : List Value) (o : Nat) (w : World), w.grownBy (w.setCells g o vs) (some g)
  | [], _, w => World.grownBy.refl _ _
  | v :: r, o, w => grown_trans (Lib.grownBy_setCell w g o v) (grown_setCells g r (o + 1) _)
/-- rows of one's own -/
def rwOwn (W : World) (base : Nat) (v : Value) (R : List W2) : Prop := W.ownsRow base 76 32 v R.length (rowsC R)
theorem rwOwn.range {W : World} {base g cap : Nat} {R : List W2} (h : rwOwn W base (.slice (some ⟨g, 0, none⟩) R.length cap) R) (i : Nat) (hi : i < R.length) : W.rangeAt g (i * 32) (rowV (hX (R.getD i zW))) := by
  intro j v hj
  have hj32 : j < 32 := by have := (List.getElem?_eq_some_iff.1 hj).1; rwa [rowV_len] at this
  rw [World.ownsRow.cellAt h (i * 32 + j) (by omega), rowsC_get R i j hi hj32]
  exact hj
theorem rwOwn.there {W : World} {base g cap : Nat} {R : List W2} (h : rwOwn W base (.slice (some ⟨g, 0, none⟩) R.length cap) R) (i : Nat) (hi : i < R.length) : W.there g (i * 32) 32 := by
  intro j hj
  refine ⟨?_, World.ownsRow.frozenAt h _⟩
  rw [World.ownsRow.cellAt h (i * 32 + j) (by omega), rowsC_get R i j hi hj, rowV_get _ j hj]
  rfl
theorem rwOwn.set {W : World} {base g cap : Nat} {R : List W2} (h : rwOwn W base (.slice (some ⟨g, 0, none⟩) R.length cap) R) (i : Nat) (x : W2) (hi : i < R.length) : rwOwn (W.setCells g (i * 32) (rowV (hX x))) base (.slice (some ⟨g, 0, none⟩) R.length cap) (R.set i x) := by
  have := own_setCells (rowV (hX x)) (i * 32) W h
  rw [setL_rows R i x hi] at this
  unfold rwOwn
  rw [List.length_set]
  exact this
theorem infoRow : (Try.prog.info? 76).map (fun i => (i.zero, i.size, i.bytes)) = some (some (.agg (rowA fun _ => false)), 32, 256) := by
  rw [← rowA_zero]; kernel_rfl
theorem run_append_rw {w : World} {base : Nat} {v : Value} {R : List W2} (hown : rwOwn w base v R) (g : Nat) (x : W2) (hu : w.heap[g]? = some (.cells (rowA (hX x)) 76 (0, 0))) (ty : TypeId) (hn : R.length ≤ 1000) (hbase : base ≤ w.heap.size) :
    ∃ v' w', (Builtin.append_ #[68, 68] ty #[v, .slice (some ⟨g, 0, none⟩) 1 1]).run Try.prog w = .ok v' w' ∧ rwOwn w' base v' (R ++ [x]) ∧ w.grownBy w' v.ownBlock := by
  obtain ⟨i0, hi, hz0, hz1, hz2⟩ := info_parts infoRow
  obtain ⟨v', w', hr, h2, h3, h4, h5⟩ := run_append_own_at (P := Try.prog) w base 68 ty 76 i0 (.agg (rowA fun _ => false)) 32 256 Try.underlying68 hi hz0 hz1 hz2 (by show (rowA fun _ => false).size = 32; exact rowA_size _) (by decide) v R.length (rowsC R) hown ⟨g, 0, none⟩ 1 1 (rowV (hX x)) (by rw [rowV_len])
    (fun j u hj => by
      have hadd : (⟨g, 0, none⟩ : Addr).add j = ⟨g, j, none⟩ := by unfold Addr.add; split <;> simp_all
      rw [hadd, cell_of_row _ _ _ _ _ _ hu]
      unfold rowA
      rw [List.getElem?_toArray]; exact hj) (rowV_one _) (by unfold maxLen; omega) (by omega) hbase
  refine ⟨v', w', hr, ?_, h3⟩
  unfold rwOwn
  rw [List.length_append, rowsC_snoc]
  exact h2
theorem wpList_append_rw {ops : Array Oper} {rest : List Oper} {o : Oper} {a : Act} {w : World} {Q : Exit → Act → World → Prop} (hgd : o.guard = none) (s x : Operand)
    (ho : o.op = .call { callee := .builtin .append, args := #[s, x], argTypes := #[68, 68] })
    {base : Nat} {v : Value} {R : List W2} (hown : rwOwn w base v R) (g : Nat) (u : W2) (hu : w.heap[g]? = some (.cells (rowA (hX u)) 76 (0, 0))) (hs : a.eval s = v) (hx : a.eval x = .slice (some ⟨g, 0, none⟩) 1 1) (hn : R.length ≤ 1000) (hbase : base ≤ w.heap.size)
    (h : ∀ v' w', rwOwn w' base v' (R ++ [u]) → w.grownBy w' v.ownBlock → wpList Try.prog ops Q rest (a.put o.dst v') w') : wpList Try.prog ops Q (o :: rest) a w := by
  refine wpList_plain hgd fun K hK => ?_
  obtain ⟨v', w', hr, h2, h3⟩ := run_append_rw hown g u hu o.type hn hbase
  unfold Oper.wp execOp
  simp only [ho, resolve, invoke, builtin, Sem.run_bind, Sem.run_pure, Result.andThen_ok, List.map_toArray, List.map_cons, List.map_nil, hs, hx, hr]
  exact hK _ _ (h v' w' h2 h3)
theorem fold_row (f : Nat → Bool) : Array.foldl (fun (cs : Array Value) x => cs.setIfInBounds x.snd x.fst) #[Value.int .u64 0, Value.int .u64 0, Value.int .u64 0, Value.int .u64 0, Value.int .u64 0, Value.int .u64 0, Value.int .u64 0, Value.int .u64 0, Value.int .u64 0, Value.int .u64 0, Value.int .u64 0, Value.int .u64 0, Value.int .u64 0, Value.int .u64 0, Value.int .u64 0, Value.int .u64 0, Value.int .u64 0, Value.int .u64 0, Value.int .u64 0, Value.int .u64 0, Value.int .u64 0, Value.int .u64 0, Value.int .u64 0, Value.int .u64 0, Value.int .u64 0, Value.int .u64 0, Value.int .u64 0, Value.int .u64 0, Value.int .u64 0, Value.int .u64 0, Value.int .u64 0, Value.int .u64 0] ((rowA f).zipIdx 0) 0 (rowA f).size = rowA f := by kernel_rfl
end Go.Proofs.Ytcecodjipeahkaa
namespace Go.Proofs.Ytcecodjipeahkaa
open Go.ChangeShapes Go.WideShapes Go.ChangeAt Go.RowKit Go.BigFrame
set_option linter.unusedVariables false

attribute [local irreducible] rowA
set_option maxRecDepth 100000 in
set_option maxHeartbeats 2000000 in
theorem ieq_any (vl : Value) (L : List C2) (w : World) (h : cdAv w none vl L) (hl : L.length ≤ 1900000) (hks : ∀ x ∈ L, x.1.length ≤ 2000000) :
    Calls Try.prog 77 #[vl] w fun e w' => ∃ v, e = .returned v ∧ rwOwn w' w.heap.size v (rowsN L L.length) ∧ Below w.heap.size w w' := by
  have h0 : rwOwn w w.heap.size (.slice none 0 0) [] := World.ownsRow_nil _ _ _ _
  have H0 := Lib.hid h0
  clear h0
  obtain ⟨al, cl, rfl, hcl, hcells⟩ := h
  go_enter Try.func77, Try.ntmps77
  go_wp2_with fail
  go_loopw [3, 8] (fun v i wr => ∃ (k : Nat) (a : Option Addr) (c : Nat), k ≤ L.length ∧ i = .int .i64 k ∧ v = .slice a (rowsN L k).length c ∧ rwOwn wr w.heap.size v (rowsN L k) ∧ Below w.heap.size w wr) (fun _ i _ => L.length - (intOf i).toNat)
  case atStart => exact ⟨0, none, 0, Nat.zero_le _, rfl, rfl, H0.out, Below.refl _ _⟩
  case round =>
    obtain ⟨k, a, c, hk, rfl, rfl, ho, hB⟩ := hrel
    have HO := Lib.hid ho
    have HB := Lib.hid hB
    have hml := (rowsN_le L k).1
    clear ho hB H0
    rename_i wr
    by_cases hlt : k < L.length
    · obtain ⟨gl, off, rfl, hg, hcs⟩ := hcells.resolve_left (by omega)
      have z0 : (0 : Int) ≤ (k : Int) := by omega
      have z1 : (k : Int) < (L.length : Int) := by omega
      obtain ⟨u, c1, c2, c3⟩ := hcs k hlt
      have hxl := hks (L.getD k blankC) (by rw [List.getD, List.getElem?_eq_getElem hlt]; exact List.getElem_mem hlt)
      have hyes := fun hck => rowsN_yes (l := L) (i := k) hck
      have hno := fun hck => rowsN_no (l := L) (i := k) hck
      generalize L.getD k blankC = x at *
      have d1 := (HB.out.cell (p := ⟨gl, off + k * 2, none⟩) hg).trans c1
      have d2 := (HB.out.cell (p := ⟨gl, off + k * 2 + 1, none⟩) hg).trans c2
      have hx0 := keysAt_below c3.to HB.out
      obtain ⟨au, cu, rfl, -, -⟩ := c3
      have hbA := (Below.refl wr.heap.size wr).alloc (Nat.le_refl _) (.cells #[.slice au x.1.length cu, .string x.2] 27)
      have HX := Lib.hid (heap_alloc_new wr (.cells #[.slice au x.1.length cu, .string x.2] 27))
      have HK := Lib.hid (keysAt_below hx0 hbA)
      have HBA := Lib.hid (HB.out.trans (hbA.mono HB.out.size))
      have HOA := Lib.hid (show rwOwn _ _ _ _ from own_below HO.out hbA)
      clear hcells hcs c1 c2 hks hx0 hbA
      by_cases hm : (rowsN L k).length = 20
      · have m1 : ((rowsN L k).length : Int) = 20 := by omega
        have hf := rowsN_full (l := L) (i := k) hm (L.length - k)
        rw [show k + (L.length - k) = L.length by omega] at hf
        have HF := Lib.hid hf
        clear hf hyes hno hm
        go_wp2_with fail
        go_ret
        exact ⟨_, rfl, by rw [HF.out]; exact HOA.out, HBA.out⟩
      · have m1 : ¬ ((rowsN L k).length : Int) = 20 := by omega
        go_wp2_with fail
        generalize wr.alloc (.cells #[.slice au x.1.length cu, .string x.2] 27) = W at *
        obtain ⟨x0, x1, -, -⟩ := row2_of HX.out
        go_wp2_with fail
        refine (icodeok_any _ x.1 x.2 W HK.out hxl).mono ?_
        rintro e w1 ⟨rfl, hb1⟩
        have HX1 := Lib.hid ((hb1.block _ (Array.getElem?_eq_some_iff.1 HX.out).1).trans HX.out)
        have HK1 := Lib.hid (keysAt_below HK.out hb1)
        have HB1 := Lib.hid (HBA.out.trans (hb1.mono HBA.out.size))
        have HO1 := Lib.hid (show rwOwn _ _ _ _ from own_below HOA.out hb1)
        clear hb1 HX HK HBA HOA x0 x1
        cases hck : codeOkB (x.1, x.2) with
        | false =>
          have HN := Lib.hid (hno hck)
          clear hyes hno hck
          go_wp2_with fail
          exact ⟨⟨k + 1, a, c, by omega, by go_num, by rw [HN.out], by rw [HN.out]; exact HO1.out, HB1.out⟩, by simp [intOf]; omega⟩
        | true =>
          have HY := Lib.hid (hyes hck (by omega))
          have hw := ok_w hck
          generalize hxw : (⟨x, hw⟩ : W2) = xw at *
          have hx1 : x = xw.1 := by rw [← hxw]
          subst hx1
          have IR := Lib.hid (fun w' (hb : Below w1.heap.size w1 w') => irow_any (.slice au xw.1.1.length cu) xw.1.1 xw.1.2 w' (keysAt_below HK1.out hb) xw.2.1 xw.2.2)
          obtain ⟨x0, x1, -, -⟩ := row2_of HX1.out
          clear hyes hno hck HK1 hxw hw
          go_wp2_with fail
          refine (IR.out _ (Below.refl _ _)).mono ?_
          rintro e w2 ⟨rfl, hb2⟩
          have HB2 := Lib.hid (HB1.out.trans (hb2.mono HB1.out.size))
          have HO2 := Lib.hid (show rwOwn _ _ _ _ from own_below HO1.out hb2)
          clear hb2 HX1 HB1 HO1 x0 x1 IR
          rw [show hasX (xw.1.1, xw.1.2) = hX xw from rfl]
          have hbA := (Below.refl w2.heap.size w2).alloc (Nat.le_refl _) (.cells (rowA (hX xw)) 76)
          have HA := Lib.hid (heap_alloc_new w2 (.cells (rowA (hX xw)) 76))
          have HB3 := Lib.hid (HB2.out.trans (hbA.mono HB2.out.size))
          have HO3 := Lib.hid (show rwOwn _ _ _ _ from own_below HO2.out hbA)
          have hsz := HB3.out.size
          have hfold := fold_row (hX xw)
          have hrs := rowA_size (hX xw)
          have hfold2 := hfold
          rw [hrs] at hfold2
          clear hbA HB2 HO2
          go_wp2_with (at_builtin; refine wpList_append_rw rfl (.tmp 17) (.tmp 20) rfl HO3.out w2.heap.size xw HA.out rfl rfl (by omega) hsz ?_; intro v5 w5 hown5 hgr5)
          have hB5 := HB3.out.grown hgr5 hsz (fun j e => (HO3.out.lt j e).1)
          rcases ownsRowK_shape hown5 with ⟨-, hz⟩ | ⟨g3, c3, rfl, -⟩
          · simp at hz
          · exact ⟨⟨k + 1, some ⟨g3, 0, none⟩, c3, by omega, by go_num, by rw [HY.out], by rw [HY.out]; exact hown5, hB5⟩, by simp [intOf]; omega⟩
    · obtain rfl : k = L.length := by omega
      clear hcells hks
      go_wp2_with fail
      go_ret
      exact ⟨_, rfl, HO.out, HB.out⟩
end Go.Proofs.Ytcecodjipeahkaa
namespace Go.Proofs.Ytcecodjipeahkaa
open Go.ChangeShapes Go.WideShapes Go.ChangeAt Go.RowKit Go.BigFrame
set_option linter.unusedVariables false

theorem wpStill_load {P : Program} {ops : Array Oper} {w : World} {Q : Act → Prop} {a : Act} {o : Oper} {rest : List Oper} (ty : TypeId) (x : Operand) (p : Addr) (v : Value) (hw : Region.wanted o (yielded ops a.tmps) = true) (ho : o.op = .load ty x)
    (hx : a.eval x = .pointer (some p)) (hl : (loadVar ty p).run P w = .ok v w) (h : wpStill P ops w Q rest (a.put o.dst v)) : wpStill P ops w Q (o :: rest) a := by
  refine wpStill_step fun K hK => ?_
  rw [if_pos hw]
  unfold Oper.still execOp
  simp only [ho, hx, Instr.loadAt, Instr.sureAddr, Sem.run_bind, Sem.run_pure, Result.andThen_ok, hl]
  rw [Oper.stillUpon_value]
  exact hK _ h
def pivC (P : List Nat) : List Value := P.map fun (p : Nat) => Value.int .i64 (p : Int)
theorem pivC_snoc (P : List Nat) (p : Nat) : pivC (P ++ [p]) = pivC P ++ [.int .i64 (p : Int)] := by simp [pivC]
theorem pivC_get (P : List Nat) (i : Nat) (hi : i < P.length) : (pivC P)[i]? = some (.int .i64 ((P.getD i 0 : Nat) : Int)) := by simp [pivC, hi]
theorem infoI : (Try.prog.info? 3).map (fun i => (i.zero, i.size, i.bytes)) = some (some (.int .i64 0), 1, 8) := by kernel_rfl
theorem wpList_append_piv {ops : Array Oper} {rest : List Oper} {o : Oper} {a : Act} {w : World} {Q : Exit → Act → World → Prop} (hgd : o.guard = none) (s x : Operand)
    (ho : o.op = .call { callee := .builtin .append, args := #[s, x], argTypes := #[69, 69] })
    {base : Nat} {v : Value} {P : List Nat} (hown : w.ownsRow base 3 1 v P.length (pivC P)) (g : Nat) (p : Nat) (hu : w.heap[g]? = some (.cells #[.int .i64 (p : Int)] 3 (0, 0))) (hs : a.eval s = v) (hx : a.eval x = .slice (some ⟨g, 0, none⟩) 1 1) (hn : P.length ≤ 100000) (hbase : base ≤ w.heap.size)
    (h : ∀ v' w', w'.ownsRow base 3 1 v' (P ++ [p]).length (pivC (P ++ [p])) → w.grownBy w' v.ownBlock → (v'.ownBlock = v.ownBlock ∨ v'.ownBlock = some w.heap.size) → wpList Try.prog ops Q rest (a.put o.dst v') w') : wpList Try.prog ops Q (o :: rest) a w := by
  refine wpList_plain hgd fun K hK => ?_
  obtain ⟨i0, hi, hz0, hz1, hz2⟩ := info_parts infoI
  obtain ⟨v', w', hr, h2, h3, h4, h5⟩ := run_append_own_at (P := Try.prog) w base 69 o.type 3 i0 (.int .i64 0) 1 8 Try.underlying69 hi hz0 hz1 hz2 rfl (by decide) v P.length (pivC P) hown ⟨g, 0, none⟩ 1 1 [.int .i64 (p : Int)] rfl
    (fun j u hj => by
      have hadd : (⟨g, 0, none⟩ : Addr).add j = ⟨g, j, none⟩ := by unfold Addr.add; split <;> simp_all
      rw [hadd, cell_of_row _ _ _ _ _ _ hu]
      simpa using hj) (fun u hu => by rcases List.mem_singleton.1 hu with rfl; rfl) (by unfold maxLen; omega) (by omega) hbase
  unfold Oper.wp execOp
  simp only [ho, resolve, invoke, builtin, Sem.run_bind, Sem.run_pure, Result.andThen_ok, List.map_toArray, List.map_cons, List.map_nil, hs, hx, hr]
  refine hK _ _ (h v' w' ?_ h3 h5)
  rw [List.length_append, pivC_snoc]
  exact h2
theorem Alike.setCells {w w' : World} (h : Alike w w') (g : Nat) : ∀ (vs : List Value) (o : Nat), Alike (w.setCells g o vs) (w'.setCells g o vs) := by
  intro vs
  induction vs generalizing w w' with
  | nil => intro o; exact h
  | cons v r ih => intro o; exact ih (h.setCell _ _) (o + 1)
/-- rows and pivots of one's own -/
structure RwP (w W : World) (a : Option Addr) (n c : Nat) (R : List W2) (v3 : Value) (P : List Nat) : Prop where
  below : Below w.heap.size w W
  len : R.length = n
  rows : W.ownsRow w.heap.size 76 32 (.slice a n c) n (rowsC R)
  piv : W.ownsRow w.heap.size 3 1 v3 P.length (pivC P)
  ne : v3.ownBlock = none ∨ v3.ownBlock ≠ (Value.slice a n c).ownBlock
theorem RwP.next {w W W' : World} {a : Option Addr} {n c : Nat} {R : List W2} {v3 : Value} {P : List Nat} (h : RwP w W a n c R v3 P) (hb : Below W.heap.size W W') : RwP w W' a n c R v3 P :=
  ⟨h.below.trans (hb.mono h.below.size), h.len, own_below h.rows hb, own_below h.piv hb, h.ne⟩
theorem RwP.alike {w W W' : World} {a : Option Addr} {n c : Nat} {R : List W2} {v3 : Value} {P : List Nat} (h : RwP w W a n c R v3 P) (ha : Alike W W') : RwP w W' a n c R v3 P := h.next ha.below
theorem RwP.own {w W : World} {g n c : Nat} {R : List W2} {v3 : Value} {P : List Nat} (h : RwP w W (some ⟨g, 0, none⟩) n c R v3 P) : rwOwn W w.heap.size (.slice (some ⟨g, 0, none⟩) R.length c) R := by
  have := h.rows
  unfold rwOwn
  rw [h.len]; exact this
theorem RwP.set {w W : World} {g n c : Nat} {R : List W2} {v3 : Value} {P : List Nat} (h : RwP w W (some ⟨g, 0, none⟩) n c R v3 P) (i : Nat) (x : W2) (hi : i < n) : RwP w (W.setCells g (i * 32) (rowV (hX x))) (some ⟨g, 0, none⟩) n c (R.set i x) v3 P := by
  have hl := h.len
  have hg := h.rows.lt g rfl
  have hgr := grown_setCells g (rowV (hX x)) (i * 32) W
  refine ⟨h.below.grown hgr h.below.size (fun j e => by cases e; exact hg.1), by rw [List.length_set, hl], ?_, h.piv.kept hgr (h.ne.imp_right fun hne e => hne e), h.ne⟩
  have := h.own.set i x (by omega)
  unfold rwOwn at this
  rw [List.length_set, hl] at this
  exact this
theorem RwP.swap {w W : World} {g n c : Nat} {R : List W2} {v3 : Value} {P : List Nat} (h : RwP w W (some ⟨g, 0, none⟩) n c R v3 P) (i j : Nat) (hi : i < n) (hj : j < n) :
    RwP w ((W.setCells g (i * 32) (rowV (hX (R.getD j zW)))).setCells g (j * 32) (rowV (hX (R.getD i zW)))) (some ⟨g, 0, none⟩) n c (swapL R i j) v3 P := (h.set i (R.getD j zW) hi).set j (R.getD i zW) hj
theorem RwP.push {w W W' : World} {g n c : Nat} {R : List W2} {v3 v5 : Value} {P : List Nat} {p : Nat} (h : RwP w W (some ⟨g, 0, none⟩) n c R v3 P) (hgr : W.grownBy W' v3.ownBlock) (ho : W'.ownsRow w.heap.size 3 1 v5 (P ++ [p]).length (pivC (P ++ [p])))
    (hv : v5.ownBlock = v3.ownBlock ∨ v5.ownBlock = some W.heap.size) : RwP w W' (some ⟨g, 0, none⟩) n c R v5 (P ++ [p]) := by
  have hg := h.rows.lt g rfl
  have hne : (Value.slice (some ⟨g, 0, none⟩) n c).ownBlock ≠ v3.ownBlock := by
    rcases h.ne with e | e
    · rw [e]; intro e2; cases e2
    · exact fun e2 => e e2.symm
  refine ⟨h.below.grown hgr h.below.size (fun j e => (h.piv.lt j e).1), h.len, h.rows.kept hgr (.inr hne), ho, ?_⟩
  rcases hv with e | e
  · rw [e]; exact h.ne
  · right
    rw [e]
    intro e2
    have e3 : W.heap.size = g := Option.some.inj e2
    omega
theorem rowV_add (x y : W2) : (rowV fun p => hX x p != hX y p) = rowV (hX (grpW.add x y)) := rowV_congr fun p _ => (hX_add x y p).symm
/-- what is told of rows and pivots -/
structure SvE (w W : World) (v v3 : Value) (Lw R : List W2) (P : List Nat) : Prop where
  below : Below w.heap.size w W
  el : Elim Lw R P 2016
  few : P.length ≤ 20
  geR : ∀ b, v.ownBlock = some b → w.heap.size ≤ b
  geP : ∀ b, v3.ownBlock = some b → w.heap.size ≤ b
  rows : ∃ a c, v = .slice a P.length c ∧ P.length ≤ c ∧ (P.length = 0 ∨ ∃ g, a = some ⟨g, 0, none⟩ ∧ g < W.heap.size ∧ ∀ i, i < P.length → W.rangeAt g (i * 32) (rowV (hX (R.getD i zW))))
  piv : ∃ a c, v3 = .slice a P.length c ∧ P.length ≤ c ∧ (P.length = 0 ∨ ∃ g, a = some ⟨g, 0, none⟩ ∧ g < W.heap.size ∧ ∀ i, i < P.length → W.cell? ⟨g, i, none⟩ = some (.int .i64 ((P.getD i 0 : Nat) : Int)))
theorem SvE.next {w W W' : World} {v v3 : Value} {Lw R : List W2} {P : List Nat} (h : SvE w W v v3 Lw R P) (hb : Below W.heap.size W W') : SvE w W' v v3 Lw R P := by
  refine ⟨h.below.trans (hb.mono h.below.size), h.el, h.few, h.geR, h.geP, ?_, ?_⟩
  · obtain ⟨a, c, e1, e2, e3⟩ := h.rows
    refine ⟨a, c, e1, e2, e3.imp_right ?_⟩
    rintro ⟨g, e4, e5, e6⟩
    exact ⟨g, e4, Nat.lt_of_lt_of_le e5 hb.size, fun i hi j v hv => (hb.cell (p := ⟨g, i * 32 + j, none⟩) e5).trans (e6 i hi j v hv)⟩
  · obtain ⟨a, c, e1, e2, e3⟩ := h.piv
    refine ⟨a, c, e1, e2, e3.imp_right ?_⟩
    rintro ⟨g, e4, e5, e6⟩
    exact ⟨g, e4, Nat.lt_of_lt_of_le e5 hb.size, fun i hi => (hb.cell (p := ⟨g, i, none⟩) e5).trans (e6 i hi)⟩
theorem RwP.out {w W : World} {a : Option Addr} {n c : Nat} {R : List W2} {v3 : Value} {P : List Nat} {Lw : List W2} (h : RwP w W a n c R v3 P) (he : Elim Lw R P 2016) (hn : n ≤ 20) : SvE w W (.slice a P.length c) v3 Lw R P := by
  have hl := h.len
  have hPn : P.length ≤ n := by rw [← hl]; exact he.len
  refine ⟨h.below, he, by omega, fun b hb => (h.rows.lt b (by cases a with | none => cases hb | some x => exact hb)).1, fun b hb => (h.piv.lt b hb).1, ?_, ?_⟩
  · rcases h.rows.2 with ⟨e, h0⟩ | ⟨g, cap, cur, e, hb, hg, hnc, _⟩
    · cases e
      exact ⟨none, 0, rfl, by omega, .inl (by omega)⟩
    · cases e
      refine ⟨_, _, rfl, by omega, .inr ⟨g, rfl, (Array.getElem?_eq_some_iff.1 hg).1, fun i hi => h.own.range i (by omega)⟩⟩
  · rcases h.piv.2 with ⟨e, h0⟩ | ⟨g, cap, cur, e, hb, hg, hnc, _⟩
    · exact ⟨none, 0, by rw [e, h0], by omega, .inl h0⟩
    · subst e
      refine ⟨_, _, rfl, hnc, .inr ⟨g, rfl, (Array.getElem?_eq_some_iff.1 hg).1, fun i hi => ?_⟩⟩
      rw [h.piv.cellAt i (by omega)]
      exact pivC_get P i hi
end Go.Proofs.Ytcecodjipeahkaa
namespace Go.Proofs.Ytcecodjipeahkaa
open Go.ChangeShapes Go.WideShapes Go.ChangeAt Go.RowKit Go.BigFrame
set_option linter.unusedVariables false

attribute [local irreducible] rowV rowA
set_option maxRecDepth 100000 in
set_option maxHeartbeats 3000000 in
theorem isolved_any (vl : Value) (L : List C2) (w : World) (h : cdAv w none vl L) (hl : L.length ≤ 1900000) (hks : ∀ x ∈ L, x.1.length ≤ 2000000) :
    Calls Try.prog 44 #[vl] w fun e w' => ∃ v v3 R P, e = .returned (.tuple #[v, v3]) ∧ SvE w w' v v3 (rowsN L L.length) R P := by
  have H := Lib.hid (ieq_any vl L w h hl hks)
  have hn20 := (rowsN_le L L.length).1
  go_enter Try.func44, Try.ntmps44
  go_wp2_with fail
  refine wp_scope_straight ?_
  go_wp2_with fail
  refine H.out.mono ?_
  rintro e w1 ⟨v1, rfl, ho1, hb1⟩
  generalize hRS : rowsN L L.length = RS at *
  obtain ⟨a, n, c, hv1, hn⟩ : ∃ a n c, v1 = .slice a n c ∧ RS.length = n := by
    rcases ownsRowK_shape ho1 with ⟨e1, h0⟩ | ⟨g, cap, e1, -⟩
    · exact ⟨none, 0, 0, e1, h0⟩
    · exact ⟨_, _, _, e1, rfl⟩
  subst hv1
  have ho1' : w1.ownsRow w.heap.size 76 32 (.slice a n c) n (rowsC RS) := by
    have := ho1; unfold rwOwn at this; rw [hn] at this; exact this
  have H1 := Lib.hid (show RwP w w1 a n c RS (.slice none 0 0) [] from ⟨hb1, hn, ho1', World.ownsRow_nil _ _ _ _, .inl rfl⟩)
  have HE := Lib.hid (Elim.start RS)
  have hnn : n ≤ 20 := by omega
  clear ho1 ho1' hb1 H hn hn20
  go_wp2_with fail
  try (refine wp_label ?_)
  try go_wp2_with fail
  go_loopw [3, 10] (fun v i wr => ∃ (p : Nat) (R : List W2) (P : List Nat) (a3 : Option Addr) (c3 : Nat), p ≤ 2016 ∧ i = .int .i64 p ∧ v = .slice a3 P.length c3 ∧ RwP w wr a n c R v P ∧ Elim RS R P p) (fun _ i _ => 2016 - (intOf i).toNat)
  case atStart => exact ⟨0, RS, [], none, 0, Nat.zero_le _, rfl, rfl, H1.out, HE.out⟩
  case round =>
    obtain ⟨p, R, P, a3, c3, hp, rfl, rfl, hR, hE⟩ := hrel
    have HR := Lib.hid hR
    have HE := Lib.hid hE
    clear hR hE H1
    rename_i wr
    have hlen := HR.out.len
    have hPn := HE.out.len
    rw [hlen] at hPn
    clear hlen
    by_cases hlt : p < 2016
    · have z0 : (0 : Int) ≤ (p : Int) := by omega
      have z1 : (p : Int) < 2016 := by omega
      go_wp2_with fail
      obtain ⟨wo, rfl⟩ : ∃ wo : World, wo = wr := ⟨_, rfl⟩
      go_loopw [6] (fun i wx => ∃ (t : Nat), P.length ≤ t ∧ t ≤ n ∧ i = .int .i64 t ∧ wx = wo ∧ ∀ j, P.length ≤ j → j < t → hX (R.getD j zW) p = false) (fun i _ => n - (intOf i).toNat)
      case atStart => exact ⟨P.length, Nat.le_refl _, hPn, rfl, rfl, fun j h1 h2 => by omega⟩
      case round =>
        obtain ⟨t, ht1, ht2, rfl, hwx, hno⟩ := hrel
        have hwx' := hwx.symm
        clear hwx
        subst hwx'
        have HNO := Lib.hid hno
        clear hno
        by_cases htn : t = n
        · have y1 : (t : Int) = (n : Int) := by omega
          have hE2 := Lib.hid (HE.out.no fun j h1 h2 => HNO.out j h1 (by rw [HR.out.len] at h2; omega))
          go_wp2_with fail
          exact ⟨⟨p + 1, R, P, a3, c3, by omega, by go_num, rfl, HR.out, hE2.out⟩, by simp [intOf]; omega⟩
        · have y1 : ¬ (t : Int) = (n : Int) := by omega
          have y0 : (0 : Int) ≤ (t : Int) := by omega
          have y2 : (t : Int) < (n : Int) := by omega
          obtain ⟨g, rfl⟩ : ∃ g, a = some ⟨g, 0, none⟩ := by
            rcases HR.out.rows.2 with ⟨e1, h0⟩ | ⟨g, cap, cur, e1, _⟩
            · omega
            · cases e1; exact ⟨g, rfl⟩
          have hrt := HR.out.own.range t (by rw [HR.out.len]; omega)
          have IH := Lib.hid (ihas_any g (t * 32) (hX (R.getD t zW)) p (by omega) wo hrt)
          clear hrt
          go_wp2_with fail
          refine IH.out.mono ?_
          rintro e w2 ⟨rfl, hw2⟩
          have hw2' := hw2.symm
          clear hw2
          subst hw2'
          clear IH
          cases hx : hX (R.getD t zW) p with
          | false =>
            go_wp2_with fail
            exact ⟨⟨t + 1, by omega, by omega, by go_num, trivial, fun j h1 h2 => by
              rcases (by omega : j < t ∨ j = t) with h3 | rfl
              · exact HNO.out j h1 h3
              · exact hx⟩, by simp [intOf]; omega⟩
          | true =>
            have hd : P.length < n := by omega
            have HSW := Lib.hid (HE.out.swap ht1 (by rw [HR.out.len]; omega))
            have hxd : hX ((swapL R P.length t).getD P.length zW) p = true := by
              have hl := HR.out.len
              rw [swap_get R P.length t P.length (by omega) (by omega) (by omega)]
              by_cases e : P.length = t
              · rw [if_pos e, e]; exact hx
              · rw [if_neg e, if_pos rfl]; exact hx
            have HET := Lib.hid (HSW.out.turn (by rw [swap_len, HR.out.len]; exact hd) hxd)
            have HRD := Lib.hid (HR.out.next (Below.refl wo.heap.size wo).drew)
            have HRS2 := Lib.hid (HRD.out.swap P.length t hd (by omega))
            have hro := HRD.out.own
            have hrl := HRD.out.len
            have LD1 := run_loadVar_mid (P := Try.prog) wo.drew g (t * 32) 76 (rowV (hX (R.getD t zW))) _ (hro.range t (by omega)) Try.underlying76 rfl (by rw [rowV_len]; exact size_row)
            have LD2 := run_loadVar_mid (P := Try.prog) wo.drew g (P.length * 32) 76 (rowV (hX (R.getD P.length zW))) _ (hro.range P.length (by omega)) Try.underlying76 rfl (by rw [rowV_len]; exact size_row)
            have ht1' := hro.there P.length (by omega)
            have ht2' := World.there_setCells (hro.there t (by omega)) g (P.length * 32) (rowV (hX (R.getD t zW)))
            have hs1 := rowV_len (hX (R.getD t zW))
            have hs2 := rowV_len (hX (R.getD P.length zW))
            have ho1 : (rowV (hX (R.getD t zW))).toArray.all (·.oneCell') = true := all_oneCell_toArray (rowV_one _)
            have ho2 : (rowV (hX (R.getD P.length zW))).toArray.all (·.oneCell') = true := all_oneCell_toArray (rowV_one _)
            have y3 : (0 : Int) ≤ (P.length : Int) := by omega
            have y4 : (P.length : Int) < (n : Int) := by omega
            clear hro hrl hx hxd HSW HNO
            generalize rowV (hX (R.getD t zW)) = A1 at *
            generalize rowV (hX (R.getD P.length zW)) = A2 at *
            go_wp2_with fail
            refine wp_region_plan [2, 3] [true, true, false, false, true, true, true, true, true, true, true, true, true] 13 (by kernel_rfl) (by kernel_rfl) (by kernel_rfl) ?_
            simp only [maskRows, movesA, moveOf, List.getElem?_toArray, List.getElem?_cons_zero, List.getElem?_cons_succ, List.drop_succ_cons, List.drop_zero]
            repeat (first
              | (refine wpStill_load 76 _ _ _ rfl rfl rfl LD1 ?_; simp only [Act.put, List.setIfInBounds_toArray, List.set_cons_zero, List.set_cons_succ])
              | (refine wpStill_load 76 _ _ _ rfl rfl rfl LD2 ?_; simp only [Act.put, List.setIfInBounds_toArray, List.set_cons_zero, List.set_cons_succ])
              | still_step)
            refine wpStill_nil ?_
            intro K1 hK1
            refine wpList_store_mid rfl 76 (.tmp 39) (.tmp 34) rfl g (P.length * 32) A1.toArray rfl rfl (by rw [List.size_toArray, hs1]; exact ht1') (by rw [List.size_toArray, hs1]; exact size_row) ho1 ?_
            refine wpList_plain rfl (fun K hK => ?_)
            go_simp
            refine hK _ _ ?_
            clear hK K
            refine wpList_store_mid rfl 76 (.tmp 40) (.tmp 38) rfl g (t * 32) A2.toArray rfl rfl (by rw [List.size_toArray, hs2]; exact ht2') (by rw [List.size_toArray, hs2]; exact size_row) ho2 ?_
            apply wpList_nil
            refine hK1 _ _ ?_
            clear hK1 K1 LD1 LD2 ht1' ht2' ho1 ho2
            simp only [Act.put]
            generalize (wo.drew.setCells g (P.length * 32) A1).setCells g (t * 32) A2 = W5 at *
            rw [show (swapL R P.length t).length = n by rw [swap_len, HR.out.len]] at HET
            clear HR HRD HE hs1 hs2
            generalize swapL R P.length t = R5 at *
            have hR5 := HRS2.out.len
            go_wp2_with fail
            obtain ⟨wq, rfl⟩ : ∃ wq : World, wq = W5 := ⟨_, rfl⟩
            have HT0 := Lib.hid (show RwP w wq (some ⟨g, 0, none⟩) n c (turnL R5 P.length p 0) (.slice a3 P.length c3) P by rw [turn_zero]; exact HRS2.out)
            go_loopw [43] (fun i wx => ∃ (t : Nat) (wy : World), t ≤ n ∧ i = .int .i64 t ∧ wy = wx ∧ RwP w wy (some ⟨g, 0, none⟩) n c (turnL R5 P.length p t) (.slice a3 P.length c3) P) (fun i _ => n - (intOf i).toNat)
            case atStart => exact ⟨0, _, Nat.zero_le _, rfl, rfl, HT0.out⟩
            case round =>
              obtain ⟨i, wy, hi, rfl, hwy, hTT⟩ := hrel
              subst hwy
              have HTT := Lib.hid hTT
              clear hTT HT0 HRS2
              by_cases hin : i < n
              · have q0 : (0 : Int) ≤ (i : Int) := by omega
                have q1 : (i : Int) < (n : Int) := by omega
                have hat := turn_at R5 P.length p i (by omega)
                have hatd := turn_d R5 P.length p i (by omega)
                by_cases hid : i = P.length
                · have e1 : (i : Int) = (P.length : Int) := by omega
                  have hst := Lib.hid (turn_same R5 P.length p i (by omega) (.inl hid))
                  clear hat hatd hid
                  go_wp2_with fail
                  exact ⟨⟨i + 1, _, by omega, by go_num, rfl, by rw [hst.out]; exact HTT.out⟩, by simp [intOf]; omega⟩
                · have e1 : ¬ (i : Int) = (P.length : Int) := by omega
                  have hro := HTT.out.own
                  have hrl := HTT.out.len
                  have hri := hro.range i (by omega)
                  have hrd := hro.range P.length (by omega)
                  have hti := hro.there i (by omega)
                  rw [hat] at hri
                  rw [hatd] at hrd
                  have IH := Lib.hid (ihas_any g (i * 32) (hX (R5.getD i zW)) p (by omega) wy hri)
                  have HRI := Lib.hid (And.intro hri (And.intro hrd hti))
                  clear hro hri hrd hti hat hatd
                  go_wp2_with fail
                  refine IH.out.mono ?_
                  rintro e w2 ⟨rfl, hw2⟩
                  have hw2' := hw2.symm
                  clear hw2
                  subst hw2'
                  clear IH
                  cases hx : hX (R5.getD i zW) p with
                  | false =>
                    have hst := Lib.hid (turn_same R5 P.length p i (by omega) (.inr hx))
                    clear hx
                    go_wp2_with fail
                    exact ⟨⟨i + 1, _, by omega, by go_num, rfl, by rw [hst.out]; exact HTT.out⟩, by simp [intOf]; omega⟩
                  | true =>
                    have hst := Lib.hid (turn_step R5 P.length p i (by omega) hid hx)
                    have HSET := Lib.hid (fun W' (ha : Alike (wy.setCells g (i * 32) (rowV fun q => hX (R5.getD i zW) q != hX (R5.getD P.length zW) q)) W') => (show RwP w W' (some ⟨g, 0, none⟩) n c (turnL R5 P.length p (i + 1)) (.slice a3 P.length c3) P by
                      rw [rowV_add] at ha
                      rw [hst.out]
                      exact (HTT.out.set i _ hin).alike ha))
                    have IT := Lib.hid (fun w' (hb : Alike wy w') => iturn_any g (i * 32) (hX (R5.getD i zW)) g (P.length * 32) (hX (R5.getD P.length zW)) w' (fun j v hj => (hb.cell _).trans (HRI.out.1 j v hj)) (fun j v hj => (hb.cell _).trans (HRI.out.2.1 j v hj)) (fun j hj => ⟨by rw [hb.cell]; exact (HRI.out.2.2 j hj).1, by rw [hb.frozen]; exact (HRI.out.2.2 j hj).2⟩) (by right; omega))
                    have y3 : (0 : Int) ≤ (P.length : Int) := by omega
                    have y4 : (P.length : Int) < (n : Int) := by omega
                    clear hx hst HRI HTT
                    go_wp2_with fail
                    go_region_law (first
                      | (go_simp
                         go_at_call 49
                         refine (IT.out _ (by first | exact Alike.refl _ | exact (Alike.refl _).drew)).mono ?_
                         rintro e w5 ⟨rfl, ha5⟩
                         dsimp only))
                    all_goals
                      have HFF := Lib.hid (HSET.out _ (by first | exact ha5 | exact (Alike.setCells (Alike.refl wy).drew g _ _).trans ha5))
                      clear ha5 IT HSET
                      go_wp2
                      exact ⟨⟨i + 1, _, by omega, by go_num, rfl, HFF.out⟩, by simp [intOf]; omega⟩
              · obtain rfl : n = i := by omega
                have hbA := (Below.refl wy.heap.size wy).alloc (Nat.le_refl _) (.cells #[.int .i64 (p : Int)] 3)
                have HA := Lib.hid (heap_alloc_new wy (.cells #[.int .i64 (p : Int)] 3))
                have HTA := Lib.hid (HTT.out.next hbA)
                have hsz := HTA.out.below.size
                clear hbA HTT hR5
                go_wp2_with (at_builtin; refine wpList_append_piv rfl (.tmp 64) (.tmp 66) rfl HTA.out.piv wy.heap.size p HA.out rfl rfl (by omega) hsz ?_; intro v5 w5 hown5 hgr5 hv5)
                have HP := Lib.hid (HTA.out.push hgr5 hown5 hv5)
                rcases ownsRowK_shape hown5 with ⟨-, hz⟩ | ⟨g3, k3, rfl, -⟩
                · simp at hz
                · exact ⟨⟨p + 1, _, P ++ [p], some ⟨g3, 0, none⟩, k3, by omega, by go_num, rfl, HP.out, HET.out⟩, by simp [intOf]; omega⟩
    · obtain rfl : p = 2016 := by omega
      have HO := Lib.hid (HR.out.out HE.out (by omega))
      have hPc : (P.length : Int) ≤ (c : Int) := by
        have : n ≤ c := by
          rcases HR.out.rows.2 with ⟨e1, h0⟩ | ⟨g, cap, cur, e1, _, _, h3, _⟩
          · omega
          · cases e1; exact h3
        omega
      have hRSx := Lib.hid hRS
      clear hRS HR HE
      go_wp2_with fail
      rw [Exit.noGoto_ret]
      go_ret2
      exact ⟨_, _, R, P, rfl, by rw [hRSx.out]; exact HO.out⟩
end Go.Proofs.Ytcecodjipeahkaa
namespace Go.Proofs.Ytcecodjipeahkaa
open Go.ChangeShapes Go.WideShapes Go.ChangeAt Go.RowKit Go.BigFrame
set_option linter.unusedVariables false

theorem ofKeysN_take (P : List Nat) (k : Nat) (hk : k < P.length) : ofKeysN (P.take (k + 1)) = ofKeysN (P.take k) + if P.getD k 0 < 1984 then 1 else 0 := by
  unfold ofKeysN
  rw [List.take_succ_eq_append_getElem hk, List.filter_append, List.length_append]
  have e : P.getD k 0 = P[k] := by simp [List.getD, hk]
  rw [e]
  congr 1
  by_cases h : P[k] < 1984
  · simp [h]
  · simp [h]
theorem ofKeysN_le (P : List Nat) : ofKeysN P ≤ P.length := List.length_filter_le _ _
theorem ofKeysN_all (P : List Nat) : ofKeysN P = P.length ↔ ∀ p ∈ P, p < 1984 := by
  unfold ofKeysN
  rw [List.length_filter_eq_length_iff]
  constructor
  · intro h p hp; exact of_decide_eq_true (h p hp)
  · intro h p hp; exact decide_eq_true (h p hp)
theorem iofkeys_any (v3 : Value) (P : List Nat) (w : World) (h : ∃ a c, v3 = .slice a P.length c ∧ P.length ≤ c ∧ (P.length = 0 ∨ ∃ g, a = some ⟨g, 0, none⟩ ∧ g < w.heap.size ∧ ∀ i, i < P.length → w.cell? ⟨g, i, none⟩ = some (.int .i64 ((P.getD i 0 : Nat) : Int)))) (hP : P.length ≤ 1000) :
    Calls Try.prog 45 #[v3] w fun e w' => e = .returned (.int .i64 (ofKeysN P : Nat)) ∧ w' = w := by
  obtain ⟨a, c, rfl, hc, hcells⟩ := h
  go_enter Try.func45, Try.ntmps45
  go_wp2_with fail
  go_loopw [3, 8] (fun v i wr => ∃ k : Nat, k ≤ P.length ∧ i = .int .i64 k ∧ v = .int .i64 (ofKeysN (P.take k) : Nat) ∧ w = wr) (fun _ i _ => P.length - (intOf i).toNat)
  case atStart => exact ⟨0, Nat.zero_le _, rfl, rfl, rfl⟩
  case round =>
    obtain ⟨k, hk, rfl, rfl, hw⟩ := hrel
    subst hw
    by_cases hlt : k < P.length
    · obtain ⟨g, rfl, hg, hcs⟩ := hcells.resolve_left (by omega)
      have z0 : (0 : Int) ≤ (k : Int) := by omega
      have z1 : (k : Int) < (P.length : Int) := by omega
      have c1 := hcs k hlt
      have hst := ofKeysN_take P k hlt
      have hle := ofKeysN_le (P.take k)
      rw [List.length_take] at hle
      have hle2 : ofKeysN (P.take k) ≤ 1000 := by omega
      generalize ofKeysN (P.take k) = m at *
      generalize P.getD k 0 = q at *
      have HST := Lib.hid hst
      clear hcells hcs hst hle
      by_cases hq : q < 1984
      · have q1 : (q : Int) < 1984 := by omega
        go_wp2
        exact ⟨⟨k + 1, by omega, by go_num, by rw [HST.out, if_pos hq]; go_num, trivial⟩, by simp [intOf]; omega⟩
      · have q1 : ¬ (q : Int) < 1984 := by omega
        go_wp2
        exact ⟨⟨k + 1, by omega, by go_num, by rw [HST.out, if_neg hq]; go_num, trivial⟩, by simp [intOf]; omega⟩
    · obtain rfl : k = P.length := by omega
      clear hcells
      rw [List.take_length]
      go_wp2
      go_ret
      exact ⟨rfl, rfl⟩
theorem iagree_any (v3 : Value) (P : List Nat) (w : World) (h : ∃ a c, v3 = .slice a P.length c ∧ P.length ≤ c ∧ (P.length = 0 ∨ ∃ g, a = some ⟨g, 0, none⟩ ∧ g < w.heap.size ∧ ∀ i, i < P.length → w.cell? ⟨g, i, none⟩ = some (.int .i64 ((P.getD i 0 : Nat) : Int)))) (hP : P.length ≤ 1000) :
    Calls Try.prog 56 #[v3] w fun e w' => e = .returned (.bool (decide (ofKeysN P = P.length))) ∧ w' = w := by
  have HI := Lib.hid (iofkeys_any v3 P w h hP)
  obtain ⟨a, c, rfl, -, -⟩ := h
  have hle := ofKeysN_le P
  generalize ofKeysN P = m at *
  go_enter Try.func56, Try.ntmps56
  by_cases he : m = P.length
  · have e1 : (m : Int) = (P.length : Int) := by omega
    go_wp2_with fail
    refine HI.out.mono ?_
    rintro e w1 ⟨rfl, rfl⟩
    go_wp2
    go_ret
    exact ⟨by rw [decide_eq_true he]; first | rfl | (show Ending.returned (.bool ((m : Int) == (P.length : Int))) = _; rw [beq_iff_eq.2 e1]), rfl⟩
  · have e1 : ¬ (m : Int) = (P.length : Int) := by omega
    go_wp2_with fail
    refine HI.out.mono ?_
    rintro e w1 ⟨rfl, rfl⟩
    go_wp2
    go_ret
    exact ⟨by rw [decide_eq_false he]; first | rfl | (show Ending.returned (.bool ((m : Int) == (P.length : Int))) = _; rw [beq_eq_false_iff_ne.2 e1]), rfl⟩
theorem irank_any (vl : Value) (L : List C2) (w : World) (h : cdAv w none vl L) (hl : L.length ≤ 1900000) (hks : ∀ x ∈ L, x.1.length ≤ 2000000) :
    Calls Try.prog 12 #[vl] w fun e w' => e = .returned (.int .i64 (rankM L : Nat)) ∧ Below w.heap.size w w' := by
  have H := Lib.hid (isolved_any vl L w h hl hks)
  go_enter Try.func12, Try.ntmps12
  go_wp2_with fail
  refine H.out.mono ?_
  rintro e w1 ⟨v, v3, R, P, rfl, hC⟩
  have hr := hC.el.rank
  have HI := Lib.hid (iofkeys_any v3 P w1 hC.piv (by have := hC.few; omega))
  rw [hr, show (baseG ordW (rowsN L L.length)).1.length = rankM L from rfl] at HI
  have HB := Lib.hid hC.below
  clear hC H hr
  go_wp2_with fail
  refine HI.out.mono ?_
  rintro e w2 ⟨rfl, rfl⟩
  go_wp2
  go_ret
  exact ⟨rfl, HB.out⟩
theorem agree_eq {L : List C2} {R : List W2} {P : List Nat} (h : Elim (rowsN L L.length) R P 2016) : decide (ofKeysN P = P.length) = agB (baseG ordW (rowsN L L.length)).2 := by
  rw [Bool.eq_iff_iff, decide_eq_true_eq, ofKeysN_all, agB_iff]
  exact h.agree
theorem iagreed_any (vl : Value) (L : List C2) (w : World) (h : cdAv w none vl L) (hl : L.length ≤ 1900000) (hks : ∀ x ∈ L, x.1.length ≤ 2000000) :
    Calls Try.prog 18 #[vl] w fun e w' => e = .returned (.bool (agB (baseG ordW (rowsN L L.length)).2)) ∧ Below w.heap.size w w' := by
  have H := Lib.hid (isolved_any vl L w h hl hks)
  go_enter Try.func18, Try.ntmps18
  go_wp2_with fail
  refine H.out.mono ?_
  rintro e w1 ⟨v, v3, R, P, rfl, hC⟩
  have HI := Lib.hid (iagree_any v3 P w1 hC.piv (by have := hC.few; omega))
  rw [agree_eq hC.el] at HI
  have HB := Lib.hid hC.below
  clear hC H
  go_wp2_with fail
  refine HI.out.mono ?_
  rintro e w2 ⟨rfl, rfl⟩
  go_wp2
  go_ret
  exact ⟨rfl, HB.out⟩
end Go.Proofs.Ytcecodjipeahkaa
namespace Go.Proofs.Ytcecodjipeahkaa
open Go.ChangeShapes Go.WideShapes Go.ChangeAt Go.RowKit Go.BigFrame
set_option linter.unusedVariables false

set_option maxRecDepth 100000 in
set_option maxHeartbeats 4000000 in
theorem scombine_any (va : Value) (A : List K2) (ya : ByteArray) (vb : Value) (B : List K2) (yb : ByteArray) (w : World) (ha : keysAt w va A) (hb : keysAt w vb B) (hsA : A.length ≤ 1048576) (hsB : B.length ≤ 1048576) (hya : ya.size ≤ 2000000) (hyb : yb.size ≤ 2000000) :
    Calls Try.prog 21 #[.agg #[va, .string ya], .agg #[vb, .string yb]] w fun e w' => ∃ v', e = .returned (.tuple #[.agg #[v', .string (combM (A, ya) (B, yb)).1.2], .bool (combM (A, ya) (B, yb)).2]) ∧
      w'.ownsRow w.heap.size 44 2 v' (combM (A, ya) (B, yb)).1.1.length (keyCells (combM (A, ya) (B, yb)).1.1) ∧ Below w.heap.size w w' := by
  have HP := Lib.hid (cbc_new w va ya vb yb)
  have CA := Lib.hid (fun w' (h : Below w.heap.size w w') => scodeok_any va A ya w' (keysAt_below ha h) (by omega))
  have CB := Lib.hid (fun w' (h : Below w.heap.size w w') => scodeok_any vb B yb w' (keysAt_below hb h) (by omega))
  have SP := Lib.hid (fun w' (h : Below w.heap.size w w') => sparted_any va vb A B w' (keysAt_below ha h) (keysAt_below hb h) (by omega) (by omega))
  have SX := Lib.hid (fun w' => sxor_any ya yb w' hya hyb)
  have hml := mergeV_ln false A B
  obtain ⟨aa, ca, hva, -, -⟩ := ha
  obtain ⟨ab, cb, hvb, -, -⟩ := hb
  subst hva; subst hvb
  have hA6 := Lib.hid (show codeOkB (A, ya) = true → A.length ≤ 6 from fun h => ((codeOk_iff (A, ya)).1 h).1)
  have hB6 := Lib.hid (show codeOkB (B, yb) = true → B.length ≤ 6 from fun h => ((codeOk_iff (B, yb)).1 h).1)
  have nA := comb_noA (a := (A, ya)) (b := (B, yb))
  have nB := comb_noB (a := (A, ya)) (b := (B, yb))
  have nX := comb_noX (a := (A, ya)) (b := (B, yb))
  have nY := comb_yes (a := (A, ya)) (b := (B, yb))
  have HMX := Lib.hid (show mixC (A, ya) (B, yb) = (mergeV false A B, xorS ya yb) from rfl)
  rw [HMX.out] at nX nY
  have CX := Lib.hid (fun v w (h : keysAt w v (mergeV false A B)) (hl : (mergeV false A B).length ≤ 2000000) => scodeok_any v (mergeV false A B) (xorS ya yb) w h hl)
  have HML := Lib.hid hml
  clear hml HMX
  go_enter Try.func21, Try.ntmps21
  go_wp2_with fail
  generalize ((w.alloc (.cells #[.slice aa A.length ca, .string ya] 27)).alloc (.cells #[.slice ab B.length cb, .string yb] 27)).alloc (.cells #[.slice none 0 0, .string ⟨#[]⟩] 27) = W at *
  generalize mergeV false A B = M at *
  generalize xorS ya yb = Y at *
  have L1 : ∀ w' : World, w'.heap[w.heap.size]? = some (.cells #[.slice aa A.length ca, .string ya] 27) ∧ w'.heap[w.heap.size + 1]? = some (.cells #[.slice ab B.length cb, .string yb] 27) → (loadVar 25 ⟨w.heap.size, 0, none⟩).run Try.prog w' = .ok (.slice aa A.length ca) w' := fun w' h => cd_loadk h.1 (Below.refl _ _)
  have L2 : ∀ w' : World, w'.heap[w.heap.size]? = some (.cells #[.slice aa A.length ca, .string ya] 27) ∧ w'.heap[w.heap.size + 1]? = some (.cells #[.slice ab B.length cb, .string yb] 27) → (loadVar 9 ⟨w.heap.size, 1, none⟩).run Try.prog w' = .ok (.string ya) w' := fun w' h => cd_loads h.1 (Below.refl _ _)
  have L3 : ∀ w' : World, w'.heap[w.heap.size]? = some (.cells #[.slice aa A.length ca, .string ya] 27) ∧ w'.heap[w.heap.size + 1]? = some (.cells #[.slice ab B.length cb, .string yb] 27) → (loadVar 25 ⟨w.heap.size + 1, 0, none⟩).run Try.prog w' = .ok (.slice ab B.length cb) w' := fun w' h => cd_loadk h.2 (Below.refl _ _)
  have L4 : ∀ w' : World, w'.heap[w.heap.size]? = some (.cells #[.slice aa A.length ca, .string ya] 27) ∧ w'.heap[w.heap.size + 1]? = some (.cells #[.slice ab B.length cb, .string yb] 27) → (loadVar 9 ⟨w.heap.size + 1, 1, none⟩).run Try.prog w' = .ok (.string yb) w' := fun w' h => cd_loads h.2 (Below.refl _ _)
  have HRA := Lib.hid HP.out.rowa
  have HRB := Lib.hid HP.out.rowb
  have HRES := Lib.hid HP.out.res
  have HB0 := Lib.hid HP.out.below
  have HSZ := Lib.hid HP.out.size
  clear HP
  refine wp_region_G (fun w' => w'.heap[w.heap.size]? = some (.cells #[.slice aa A.length ca, .string ya] 27) ∧ w'.heap[w.heap.size + 1]? = some (.cells #[.slice ab B.length cb, .string yb] 27)) (by kernel_rfl) ?_
  replace HRA := Lib.hid (show (World.drew _).heap[_]? = _ from HRA.out)
  replace HRB := Lib.hid (show (World.drew _).heap[_]? = _ from HRB.out)
  replace HB0 := Lib.hid (HB0.out.drew)
  replace HRES := Lib.hid (show (World.drew _).heap[_]? = _ from HRES.out)
  replace HSZ := Lib.hid (show _ ≤ (World.drew _).heap.size from HSZ.out)
  generalize (W).drew = wD at *
  refine wpG_seg [true, true, true, true, false, true, true, true, true] [4, 11] 4 (by kernel_rfl) (by intro c a d v w h; cases d <;> exact h) (by kernel_rfl) ⟨HRA.out, HRB.out⟩ ?_
  try simp only [maskRows]
  repeat (first
    | go_big_quiet_skip
    | (go_big_quiet_want
       first
         | (go_big_quiet_op; go_big_quiet_on)
         | (refine q_load 25 _ _ _ rfl rfl L1 ?_; simp only [Act.put, List.setIfInBounds_toArray, List.set_cons_zero, List.set_cons_succ]; go_big_quiet_on)
         | (refine q_load 9 _ _ _ rfl rfl L2 ?_; simp only [Act.put, List.setIfInBounds_toArray, List.set_cons_zero, List.set_cons_succ]; go_big_quiet_on)
         | (refine q_load 25 _ _ _ rfl rfl L3 ?_; simp only [Act.put, List.setIfInBounds_toArray, List.set_cons_zero, List.set_cons_succ]; go_big_quiet_on)
         | (refine q_load 9 _ _ _ rfl rfl L4 ?_; simp only [Act.put, List.setIfInBounds_toArray, List.set_cons_zero, List.set_cons_succ]; go_big_quiet_on)
         | (go_big_quiet_op; refine ⟨_, fun _ _ => rfl, ?_⟩; go_big_quiet_on)
         | (go_big_quiet_op; refine ⟨_, fun _ _ _ => rfl, ?_⟩; go_big_quiet_on)))
  refine wpQuiet_nil ?_
  refine List.forall_mem_cons.2 ⟨?_, List.forall_mem_singleton.2 ?_⟩
  · refine segt_run rfl (by rfl) (fun K hK => ?_)
    go_simp
    refine (SP.out _ HB0.out).mono ?_
    rintro e w3 ⟨v3, rfl, ho3, hb⟩
    dsimp only
    have HSZo := Lib.hid HSZ.out
    have hNE := fun (b6 : Nat) (hl : b6 < wD.heap.size) (e : v3.ownBlock = some b6) => (absurd (ho3.lt b6 e).1 (Nat.not_le.2 hl) : False)
    replace HRA := Lib.hid ((hb.block _ (Array.getElem?_eq_some_iff.1 HRA.out).1).trans HRA.out)
    replace HRB := Lib.hid ((hb.block _ (Array.getElem?_eq_some_iff.1 HRB.out).1).trans HRB.out)
    replace HB0 := Lib.hid (HB0.out.trans (hb.mono HB0.out.size))
    replace HRES := Lib.hid ((hb.block _ (Array.getElem?_eq_some_iff.1 HRES.out).1).trans HRES.out)
    replace HSZ := Lib.hid (Nat.le_trans HSZ.out hb.size)
    clear hNE
    obtain ⟨a3, n3, k3, rfl⟩ := own_shape ho3
    have HO := Lib.hid (own_base ho3 HSZo.out)
    clear ho3 HSZo
    clear hb
    refine hK _ _ ⟨_, fun _ h => h, ⟨HRA.out, HRB.out⟩, ?_⟩
    clear hK K
    try simp only [Act.put, List.setIfInBounds_toArray, List.set_cons_zero, List.set_cons_succ]
    refine wpG_seg [] [9, 11] 3 (by kernel_rfl) (by intro c a d v w h; cases d <;> exact h) (by kernel_rfl) ⟨HRA.out, HRB.out⟩ ?_
    try simp only [maskRows]
    refine wpQuiet_nil ?_
    refine List.forall_mem_cons.2 ⟨?_, List.forall_mem_singleton.2 ?_⟩
    · refine segt_run rfl (by rfl) (fun K hK => ?_)
      go_simp
      refine (SX.out _).mono ?_
      rintro e w4 ⟨rfl, hb⟩
      dsimp only
      replace HRA := Lib.hid ((hb.block _ (Array.getElem?_eq_some_iff.1 HRA.out).1).trans HRA.out)
      replace HRB := Lib.hid ((hb.block _ (Array.getElem?_eq_some_iff.1 HRB.out).1).trans HRB.out)
      replace HB0 := Lib.hid (HB0.out.trans (hb.mono HB0.out.size))
      replace HRES := Lib.hid ((hb.block _ (Array.getElem?_eq_some_iff.1 HRES.out).1).trans HRES.out)
      replace HSZ := Lib.hid (Nat.le_trans HSZ.out hb.size)
      replace HO := Lib.hid (own_below HO.out hb)
      clear hb
      refine hK _ _ ⟨_, fun _ h => h, ⟨HRA.out, HRB.out⟩, ?_⟩
      clear hK K
      try simp only [Act.put, List.setIfInBounds_toArray, List.set_cons_zero, List.set_cons_succ]
      refine wpG_seg [] [10, 11] 2 (by kernel_rfl) (by intro c a d v w h; cases d <;> exact h) (by kernel_rfl) ⟨HRA.out, HRB.out⟩ ?_
      try simp only [maskRows]
      refine wpQuiet_nil ?_
      refine List.forall_mem_cons.2 ⟨?_, List.forall_mem_singleton.2 ?_⟩
      · refine segt_run rfl (by rfl) (fun K hK => ?_)
        go_simp
        refine hK _ _ ⟨_, fun _ h => h, ⟨HRA.out, HRB.out⟩, ?_⟩
        clear hK K
        try simp only [Act.put, List.setIfInBounds_toArray, List.set_cons_zero, List.set_cons_succ]
        refine wpG_seg [] [11] 1 (by kernel_rfl) (by intro c a d v w h; cases d <;> exact h) (by kernel_rfl) ⟨HRA.out, HRB.out⟩ ?_
        try simp only [maskRows]
        refine wpQuiet_nil ?_
        refine List.forall_mem_singleton.2 ?_
        refine segt_run rfl (by rfl) (fun K hK => ?_)
        go_simp
        have HB6 := Lib.hid HSZ.out
        have HNE := Lib.hid (fun (e : (Value.slice a3 n3 k3).ownBlock = some w4.heap.size) => (absurd (HO.out.lt _ e).2 (Nat.lt_irrefl _) : False))
        have HNn := Lib.hid (heap_alloc_new (w4) (.cells #[.slice none 0 0, .string ⟨#[]⟩] 27))
        replace HRA := Lib.hid ((Below.heap_alloc _ (.cells #[.slice none 0 0, .string ⟨#[]⟩] 27) _ (Array.getElem?_eq_some_iff.1 HRA.out).1).trans HRA.out)
        replace HRB := Lib.hid ((Below.heap_alloc _ (.cells #[.slice none 0 0, .string ⟨#[]⟩] 27) _ (Array.getElem?_eq_some_iff.1 HRB.out).1).trans HRB.out)
        replace HB0 := Lib.hid (HB0.out.alloc HB0.out.size (.cells #[.slice none 0 0, .string ⟨#[]⟩] 27))
        replace HRES := Lib.hid ((Below.heap_alloc _ (.cells #[.slice none 0 0, .string ⟨#[]⟩] 27) _ (Array.getElem?_eq_some_iff.1 HRES.out).1).trans HRES.out)
        replace HSZ := Lib.hid (Nat.le_trans HSZ.out (size_le_alloc _ (.cells #[.slice none 0 0, .string ⟨#[]⟩] 27)))
        replace HO := Lib.hid (HO.out.alloc (.cells #[.slice none 0 0, .string ⟨#[]⟩] 27))
        have HN := HNn
        clear HNn
        generalize World.alloc (w4) (.cells #[.slice none 0 0, .string ⟨#[]⟩] 27) = w6 at *
        generalize (w4).heap.size = b6 at *
        refine hK _ _ ⟨_, fun _ h => h, ⟨HRA.out, HRB.out⟩, ?_⟩
        clear hK K
        try simp only [Act.put, List.setIfInBounds_toArray, List.set_cons_zero, List.set_cons_succ]
        refine wpG_seg [] [12] 0 (by kernel_rfl) (by intro c a d v w h; cases d <;> exact h) (by kernel_rfl) ⟨HRA.out, HRB.out⟩ ?_
        try simp only [maskRows]
        refine wpQuiet_nil ?_
        refine List.forall_mem_singleton.2 ?_
        have hb6 := HB6.out
        obtain ⟨c0, c1, f0, f1⟩ := row2_of HN.out
        have hlt := (Array.getElem?_eq_some_iff.1 HN.out).1
        have HN' := Lib.hid (set2 (.slice a3 n3 k3) (.string Y) HN.out)
        have HRA' := Lib.hid (row_set2 HRA.out (by omega : w.heap.size ≠ b6) (.slice a3 n3 k3) (.string Y))
        have HRB' := Lib.hid (row_set2 HRB.out (by omega : w.heap.size + 1 ≠ b6) (.slice a3 n3 k3) (.string Y))
        have HRES' := Lib.hid (row_set2 HRES.out (by omega : w.heap.size + 2 ≠ b6) (.slice a3 n3 k3) (.string Y))
        have HB0' := Lib.hid (below2 HB0.out (by omega : w.heap.size ≤ b6) (.slice a3 n3 k3) (.string Y))
        have HO' := Lib.hid (HO.out.kept (grown2 _ b6 (.slice a3 n3 k3) (.string Y)) (.inr HNE.out))
        have HSZ' := Lib.hid (Nat.le_trans HSZ.out (Nat.le_of_eq (size_set2 _ b6 (.slice a3 n3 k3) (.string Y)).symm))
        clear hb6
        refine segt_run rfl (by rfl) (fun K hK => ?_)
        go_simp
        replace HN := HN'
        replace HRA := HRA'
        replace HRB := HRB'
        replace HRES := HRES'
        replace HB0 := HB0'
        replace HO := HO'
        replace HSZ := HSZ'
        clear HN' HRA' HRB' HRES' HB0' HO' HSZ' c0 c1 f0 f1 hlt
        generalize (World.setCell (World.setCell w6 ⟨b6, 0, none⟩ (.slice a3 n3 k3)) ⟨b6, 1, none⟩ (.string Y)) = wS at *
        refine hK _ _ ⟨_, fun _ h => h, ⟨HRA.out, HRB.out⟩, ?_⟩
        clear hK K
        try simp only [Act.put, List.setIfInBounds_toArray, List.set_cons_zero, List.set_cons_succ]
        refine wpG_end [] (by kernel_rfl) (by intro c a d v w h; cases d <;> exact h) (by kernel_rfl) ⟨HRA.out, HRB.out⟩ ?_
        try simp only [maskRows]
        refine wpQuiet_nil ?_
        obtain ⟨x0, x1, -, -⟩ := row2_of HRA.out
        go_wp2_with fail
        refine (CA.out _ HB0.out).mono ?_
        rintro e wP ⟨rfl, hb⟩
        replace HRA := Lib.hid ((hb.block _ (Array.getElem?_eq_some_iff.1 HRA.out).1).trans HRA.out)
        replace HRB := Lib.hid ((hb.block _ (Array.getElem?_eq_some_iff.1 HRB.out).1).trans HRB.out)
        replace HB0 := Lib.hid (HB0.out.trans (hb.mono HB0.out.size))
        replace HRES := Lib.hid ((hb.block _ (Array.getElem?_eq_some_iff.1 HRES.out).1).trans HRES.out)
        replace HSZ := Lib.hid (Nat.le_trans HSZ.out hb.size)
        replace HO := Lib.hid (own_below HO.out hb)
        replace HN := Lib.hid ((hb.block _ (Array.getElem?_eq_some_iff.1 HN.out).1).trans HN.out)
        clear hb x0 x1 CA
        generalize codeOkB (A, ya) = okA at *
        cases okA with
        | false =>
          have HM := Lib.hid (nA rfl)
          clear nA nB nX nY
          obtain ⟨x0, x1, -, -⟩ := row2_of HN.out
          go_wp2_with fail
          refine (sblank_any _ _ _).mono ?_
          rintro e wB ⟨v2, rfl, ho2, hb⟩
          obtain ⟨a2, n2, k2, rfl⟩ := own_shape ho2
          have ho2 := own_base ho2 HSZ.out
          replace HRA := Lib.hid ((hb.block _ (Array.getElem?_eq_some_iff.1 HRA.out).1).trans HRA.out)
          replace HRB := Lib.hid ((hb.block _ (Array.getElem?_eq_some_iff.1 HRB.out).1).trans HRB.out)
          replace HB0 := Lib.hid (HB0.out.trans (hb.mono HB0.out.size))
          replace HRES := Lib.hid ((hb.block _ (Array.getElem?_eq_some_iff.1 HRES.out).1).trans HRES.out)
          replace HSZ := Lib.hid (Nat.le_trans HSZ.out hb.size)
          replace HO := Lib.hid (own_below HO.out hb)
          replace HN := Lib.hid ((hb.block _ (Array.getElem?_eq_some_iff.1 HN.out).1).trans HN.out)
          obtain ⟨c0, c1, f0, f1⟩ := row2_of HRES.out
          have hlt := (Array.getElem?_eq_some_iff.1 HRES.out).1
          have HF := Lib.hid (And.intro (cd_res HRES.out (.slice a2 n2 k2) z4) (And.intro (own_base (own_set2 ho2 (by omega : w.heap.size + 2 < w.heap.size + 3) (.slice a2 n2 k2) (.string z4)) (by omega : w.heap.size ≤ w.heap.size + 3)) (below2 HB0.out (by omega : w.heap.size ≤ w.heap.size + 2) (.slice a2 n2 k2) (.string z4))))
          clear hb ho2 HRA HRB HRES HO HB0 HN x0 x1
          go_wp2_with fail
          refine bodyPost_ret (v := .tuple #[.agg #[.slice a2 n2 k2, .string z4], .bool false]) ?_ rfl ⟨_, by rw [HM.out]; rfl, by rw [HM.out]; exact HF.out.2.1, HF.out.2.2⟩
          rw [results_cell_slot (p := 4) (u := 5) (ty := 27) (by kernel_rfl)]
          have l2 := HF.out.1
          simp [asAddr, Result.andThen, l2]
        | true =>
          obtain ⟨x0, x1, -, -⟩ := row2_of HRB.out
          go_wp2_with fail
          refine (CB.out _ HB0.out).mono ?_
          rintro e wQ ⟨rfl, hb⟩
          replace HRA := Lib.hid ((hb.block _ (Array.getElem?_eq_some_iff.1 HRA.out).1).trans HRA.out)
          replace HRB := Lib.hid ((hb.block _ (Array.getElem?_eq_some_iff.1 HRB.out).1).trans HRB.out)
          replace HB0 := Lib.hid (HB0.out.trans (hb.mono HB0.out.size))
          replace HRES := Lib.hid ((hb.block _ (Array.getElem?_eq_some_iff.1 HRES.out).1).trans HRES.out)
          replace HSZ := Lib.hid (Nat.le_trans HSZ.out hb.size)
          replace HO := Lib.hid (own_below HO.out hb)
          replace HN := Lib.hid ((hb.block _ (Array.getElem?_eq_some_iff.1 HN.out).1).trans HN.out)
          clear hb x0 x1 CB
          generalize codeOkB (B, yb) = okB at *
          cases okB with
          | false =>
            have HM := Lib.hid (nB rfl)
            clear nA nB nX nY
            obtain ⟨x0, x1, -, -⟩ := row2_of HN.out
            go_wp2_with fail
            refine (sblank_any _ _ _).mono ?_
            rintro e wB ⟨v2, rfl, ho2, hb⟩
            obtain ⟨a2, n2, k2, rfl⟩ := own_shape ho2
            have ho2 := own_base ho2 HSZ.out
            replace HRA := Lib.hid ((hb.block _ (Array.getElem?_eq_some_iff.1 HRA.out).1).trans HRA.out)
            replace HRB := Lib.hid ((hb.block _ (Array.getElem?_eq_some_iff.1 HRB.out).1).trans HRB.out)
            replace HB0 := Lib.hid (HB0.out.trans (hb.mono HB0.out.size))
            replace HRES := Lib.hid ((hb.block _ (Array.getElem?_eq_some_iff.1 HRES.out).1).trans HRES.out)
            replace HSZ := Lib.hid (Nat.le_trans HSZ.out hb.size)
            replace HO := Lib.hid (own_below HO.out hb)
            replace HN := Lib.hid ((hb.block _ (Array.getElem?_eq_some_iff.1 HN.out).1).trans HN.out)
            obtain ⟨c0, c1, f0, f1⟩ := row2_of HRES.out
            have hlt := (Array.getElem?_eq_some_iff.1 HRES.out).1
            have HF := Lib.hid (And.intro (cd_res HRES.out (.slice a2 n2 k2) z4) (And.intro (own_base (own_set2 ho2 (by omega : w.heap.size + 2 < w.heap.size + 3) (.slice a2 n2 k2) (.string z4)) (by omega : w.heap.size ≤ w.heap.size + 3)) (below2 HB0.out (by omega : w.heap.size ≤ w.heap.size + 2) (.slice a2 n2 k2) (.string z4))))
            clear hb ho2 HRA HRB HRES HO HB0 HN x0 x1
            go_wp2_with fail
            refine bodyPost_ret (v := .tuple #[.agg #[.slice a2 n2 k2, .string z4], .bool false]) ?_ rfl ⟨_, by rw [HM.out]; rfl, by rw [HM.out]; exact HF.out.2.1, HF.out.2.2⟩
            rw [results_cell_slot (p := 4) (u := 5) (ty := 27) (by kernel_rfl)]
            have l2 := HF.out.1
            simp [asAddr, Result.andThen, l2]
          | true =>
            obtain ⟨x0, x1, -, -⟩ := row2_of HN.out
            go_wp2_with fail
            refine (CX.out _ _ (keysAt_own HO.out) (by have h1 := hA6.out (by simp); have h2 := hB6.out (by simp); have h3 := HML.out; omega)).mono ?_
            rintro e wX ⟨rfl, hb⟩
            replace HRA := Lib.hid ((hb.block _ (Array.getElem?_eq_some_iff.1 HRA.out).1).trans HRA.out)
            replace HRB := Lib.hid ((hb.block _ (Array.getElem?_eq_some_iff.1 HRB.out).1).trans HRB.out)
            replace HB0 := Lib.hid (HB0.out.trans (hb.mono HB0.out.size))
            replace HRES := Lib.hid ((hb.block _ (Array.getElem?_eq_some_iff.1 HRES.out).1).trans HRES.out)
            replace HSZ := Lib.hid (Nat.le_trans HSZ.out hb.size)
            replace HO := Lib.hid (own_below HO.out hb)
            replace HN := Lib.hid ((hb.block _ (Array.getElem?_eq_some_iff.1 HN.out).1).trans HN.out)
            clear hb x0 x1 CX
            generalize codeOkB (M, Y) = okX at *
            cases okX with
            | false =>
              have HM := Lib.hid (nX rfl)
              clear nA nB nX nY
              obtain ⟨x0, x1, -, -⟩ := row2_of HN.out
              go_wp2_with fail
              refine (sblank_any _ _ _).mono ?_
              rintro e wB ⟨v2, rfl, ho2, hb⟩
              obtain ⟨a2, n2, k2, rfl⟩ := own_shape ho2
              have ho2 := own_base ho2 HSZ.out
              replace HRA := Lib.hid ((hb.block _ (Array.getElem?_eq_some_iff.1 HRA.out).1).trans HRA.out)
              replace HRB := Lib.hid ((hb.block _ (Array.getElem?_eq_some_iff.1 HRB.out).1).trans HRB.out)
              replace HB0 := Lib.hid (HB0.out.trans (hb.mono HB0.out.size))
              replace HRES := Lib.hid ((hb.block _ (Array.getElem?_eq_some_iff.1 HRES.out).1).trans HRES.out)
              replace HSZ := Lib.hid (Nat.le_trans HSZ.out hb.size)
              replace HO := Lib.hid (own_below HO.out hb)
              replace HN := Lib.hid ((hb.block _ (Array.getElem?_eq_some_iff.1 HN.out).1).trans HN.out)
              obtain ⟨c0, c1, f0, f1⟩ := row2_of HRES.out
              have hlt := (Array.getElem?_eq_some_iff.1 HRES.out).1
              have HF := Lib.hid (And.intro (cd_res HRES.out (.slice a2 n2 k2) z4) (And.intro (own_base (own_set2 ho2 (by omega : w.heap.size + 2 < w.heap.size + 3) (.slice a2 n2 k2) (.string z4)) (by omega : w.heap.size ≤ w.heap.size + 3)) (below2 HB0.out (by omega : w.heap.size ≤ w.heap.size + 2) (.slice a2 n2 k2) (.string z4))))
              clear hb ho2 HRA HRB HRES HO HB0 HN x0 x1
              go_wp2_with fail
              refine bodyPost_ret (v := .tuple #[.agg #[.slice a2 n2 k2, .string z4], .bool false]) ?_ rfl ⟨_, by rw [HM.out]; rfl, by rw [HM.out]; exact HF.out.2.1, HF.out.2.2⟩
              rw [results_cell_slot (p := 4) (u := 5) (ty := 27) (by kernel_rfl)]
              have l2 := HF.out.1
              simp [asAddr, Result.andThen, l2]
            | true =>
              have HM := Lib.hid (nY (by simp) (by simp) (by simp))
              clear nA nB nX nY
              obtain ⟨x0, x1, -, -⟩ := row2_of HN.out
              obtain ⟨c0, c1, f0, f1⟩ := row2_of HRES.out
              have hlt := (Array.getElem?_eq_some_iff.1 HRES.out).1
              have HF := Lib.hid (And.intro (cd_res HRES.out (.slice a3 n3 k3) Y) (And.intro (own_base (own_set2 HO.out (by omega : w.heap.size + 2 < w.heap.size + 3) (.slice a3 n3 k3) (.string Y)) (by omega : w.heap.size ≤ w.heap.size + 3)) (below2 HB0.out (by omega : w.heap.size ≤ w.heap.size + 2) (.slice a3 n3 k3) (.string Y))))
              clear HRA HRB HRES HO HB0 HN
              go_wp2_with fail
              refine bodyPost_ret (v := .tuple #[.agg #[.slice a3 n3 k3, .string Y], .bool true]) ?_ rfl ⟨_, by rw [HM.out], by rw [HM.out]; exact HF.out.2.1, HF.out.2.2⟩
              rw [results_cell_slot (p := 4) (u := 5) (ty := 27) (by kernel_rfl)]
              have l2 := HF.out.1
              simp [asAddr, Result.andThen, l2]
      · refine segt_run rfl (by rfl) (fun K hK => ?_)
        go_simp
        have HB6 := Lib.hid HSZ.out
        have HNE := Lib.hid (fun (e : (Value.slice a3 n3 k3).ownBlock = some w4.heap.size) => (absurd (HO.out.lt _ e).2 (Nat.lt_irrefl _) : False))
        have HNn := Lib.hid (heap_alloc_new (w4) (.cells #[.slice none 0 0, .string ⟨#[]⟩] 27))
        replace HRA := Lib.hid ((Below.heap_alloc _ (.cells #[.slice none 0 0, .string ⟨#[]⟩] 27) _ (Array.getElem?_eq_some_iff.1 HRA.out).1).trans HRA.out)
        replace HRB := Lib.hid ((Below.heap_alloc _ (.cells #[.slice none 0 0, .string ⟨#[]⟩] 27) _ (Array.getElem?_eq_some_iff.1 HRB.out).1).trans HRB.out)
        replace HB0 := Lib.hid (HB0.out.alloc HB0.out.size (.cells #[.slice none 0 0, .string ⟨#[]⟩] 27))
        replace HRES := Lib.hid ((Below.heap_alloc _ (.cells #[.slice none 0 0, .string ⟨#[]⟩] 27) _ (Array.getElem?_eq_some_iff.1 HRES.out).1).trans HRES.out)
        replace HSZ := Lib.hid (Nat.le_trans HSZ.out (size_le_alloc _ (.cells #[.slice none 0 0, .string ⟨#[]⟩] 27)))
        replace HO := Lib.hid (HO.out.alloc (.cells #[.slice none 0 0, .string ⟨#[]⟩] 27))
        have HN := HNn
        clear HNn
        generalize World.alloc (w4) (.cells #[.slice none 0 0, .string ⟨#[]⟩] 27) = w5 at *
        generalize (w4).heap.size = b6 at *
        refine hK _ _ ⟨_, fun _ h => h, ⟨HRA.out, HRB.out⟩, ?_⟩
        clear hK K
        try simp only [Act.put, List.setIfInBounds_toArray, List.set_cons_zero, List.set_cons_succ]
        refine wpG_seg [] [10] 1 (by kernel_rfl) (by intro c a d v w h; cases d <;> exact h) (by kernel_rfl) ⟨HRA.out, HRB.out⟩ ?_
        try simp only [maskRows]
        refine wpQuiet_nil ?_
        refine List.forall_mem_singleton.2 ?_
        refine segt_run rfl (by rfl) (fun K hK => ?_)
        go_simp
        refine hK _ _ ⟨_, fun _ h => h, ⟨HRA.out, HRB.out⟩, ?_⟩
        clear hK K
        try simp only [Act.put, List.setIfInBounds_toArray, List.set_cons_zero, List.set_cons_succ]
        refine wpG_seg [] [12] 0 (by kernel_rfl) (by intro c a d v w h; cases d <;> exact h) (by kernel_rfl) ⟨HRA.out, HRB.out⟩ ?_
        try simp only [maskRows]
        refine wpQuiet_nil ?_
        refine List.forall_mem_singleton.2 ?_
        have hb6 := HB6.out
        obtain ⟨c0, c1, f0, f1⟩ := row2_of HN.out
        have hlt := (Array.getElem?_eq_some_iff.1 HN.out).1
        have HN' := Lib.hid (set2 (.slice a3 n3 k3) (.string Y) HN.out)
        have HRA' := Lib.hid (row_set2 HRA.out (by omega : w.heap.size ≠ b6) (.slice a3 n3 k3) (.string Y))
        have HRB' := Lib.hid (row_set2 HRB.out (by omega : w.heap.size + 1 ≠ b6) (.slice a3 n3 k3) (.string Y))
        have HRES' := Lib.hid (row_set2 HRES.out (by omega : w.heap.size + 2 ≠ b6) (.slice a3 n3 k3) (.string Y))
        have HB0' := Lib.hid (below2 HB0.out (by omega : w.heap.size ≤ b6) (.slice a3 n3 k3) (.string Y))
        have HO' := Lib.hid (HO.out.kept (grown2 _ b6 (.slice a3 n3 k3) (.string Y)) (.inr HNE.out))
        have HSZ' := Lib.hid (Nat.le_trans HSZ.out (Nat.le_of_eq (size_set2 _ b6 (.slice a3 n3 k3) (.string Y)).symm))
        clear hb6
        refine segt_run rfl (by rfl) (fun K hK => ?_)
        go_simp
        replace HN := HN'
        replace HRA := HRA'
        replace HRB := HRB'
        replace HRES := HRES'
        replace HB0 := HB0'
        replace HO := HO'
        replace HSZ := HSZ'
        clear HN' HRA' HRB' HRES' HB0' HO' HSZ' c0 c1 f0 f1 hlt
        generalize (World.setCell (World.setCell w5 ⟨b6, 0, none⟩ (.slice a3 n3 k3)) ⟨b6, 1, none⟩ (.string Y)) = wS at *
        refine hK _ _ ⟨_, fun _ h => h, ⟨HRA.out, HRB.out⟩, ?_⟩
        clear hK K
        try simp only [Act.put, List.setIfInBounds_toArray, List.set_cons_zero, List.set_cons_succ]
        refine wpG_end [] (by kernel_rfl) (by intro c a d v w h; cases d <;> exact h) (by kernel_rfl) ⟨HRA.out, HRB.out⟩ ?_
        try simp only [maskRows]
        refine wpQuiet_nil ?_
        obtain ⟨x0, x1, -, -⟩ := row2_of HRA.out
        go_wp2_with fail
        refine (CA.out _ HB0.out).mono ?_
        rintro e wP ⟨rfl, hb⟩
        replace HRA := Lib.hid ((hb.block _ (Array.getElem?_eq_some_iff.1 HRA.out).1).trans HRA.out)
        replace HRB := Lib.hid ((hb.block _ (Array.getElem?_eq_some_iff.1 HRB.out).1).trans HRB.out)
        replace HB0 := Lib.hid (HB0.out.trans (hb.mono HB0.out.size))
        replace HRES := Lib.hid ((hb.block _ (Array.getElem?_eq_some_iff.1 HRES.out).1).trans HRES.out)
        replace HSZ := Lib.hid (Nat.le_trans HSZ.out hb.size)
        replace HO := Lib.hid (own_below HO.out hb)
        replace HN := Lib.hid ((hb.block _ (Array.getElem?_eq_some_iff.1 HN.out).1).trans HN.out)
        clear hb x0 x1 CA
        generalize codeOkB (A, ya) = okA at *
        cases okA with
        | false =>
          have HM := Lib.hid (nA rfl)
          clear nA nB nX nY
          obtain ⟨x0, x1, -, -⟩ := row2_of HN.out
          go_wp2_with fail
          refine (sblank_any _ _ _).mono ?_
          rintro e wB ⟨v2, rfl, ho2, hb⟩
          obtain ⟨a2, n2, k2, rfl⟩ := own_shape ho2
          have ho2 := own_base ho2 HSZ.out
          replace HRA := Lib.hid ((hb.block _ (Array.getElem?_eq_some_iff.1 HRA.out).1).trans HRA.out)
          replace HRB := Lib.hid ((hb.block _ (Array.getElem?_eq_some_iff.1 HRB.out).1).trans HRB.out)
          replace HB0 := Lib.hid (HB0.out.trans (hb.mono HB0.out.size))
          replace HRES := Lib.hid ((hb.block _ (Array.getElem?_eq_some_iff.1 HRES.out).1).trans HRES.out)
          replace HSZ := Lib.hid (Nat.le_trans HSZ.out hb.size)
          replace HO := Lib.hid (own_below HO.out hb)
          replace HN := Lib.hid ((hb.block _ (Array.getElem?_eq_some_iff.1 HN.out).1).trans HN.out)
          obtain ⟨c0, c1, f0, f1⟩ := row2_of HRES.out
          have hlt := (Array.getElem?_eq_some_iff.1 HRES.out).1
          have HF := Lib.hid (And.intro (cd_res HRES.out (.slice a2 n2 k2) z4) (And.intro (own_base (own_set2 ho2 (by omega : w.heap.size + 2 < w.heap.size + 3) (.slice a2 n2 k2) (.string z4)) (by omega : w.heap.size ≤ w.heap.size + 3)) (below2 HB0.out (by omega : w.heap.size ≤ w.heap.size + 2) (.slice a2 n2 k2) (.string z4))))
          clear hb ho2 HRA HRB HRES HO HB0 HN x0 x1
          go_wp2_with fail
          refine bodyPost_ret (v := .tuple #[.agg #[.slice a2 n2 k2, .string z4], .bool false]) ?_ rfl ⟨_, by rw [HM.out]; rfl, by rw [HM.out]; exact HF.out.2.1, HF.out.2.2⟩
          rw [results_cell_slot (p := 4) (u := 5) (ty := 27) (by kernel_rfl)]
          have l2 := HF.out.1
          simp [asAddr, Result.andThen, l2]
        | true =>
          obtain ⟨x0, x1, -, -⟩ := row2_of HRB.out
          go_wp2_with fail
          refine (CB.out _ HB0.out).mono ?_
          rintro e wQ ⟨rfl, hb⟩
          replace HRA := Lib.hid ((hb.block _ (Array.getElem?_eq_some_iff.1 HRA.out).1).trans HRA.out)
          replace HRB := Lib.hid ((hb.block _ (Array.getElem?_eq_some_iff.1 HRB.out).1).trans HRB.out)
          replace HB0 := Lib.hid (HB0.out.trans (hb.mono HB0.out.size))
          replace HRES := Lib.hid ((hb.block _ (Array.getElem?_eq_some_iff.1 HRES.out).1).trans HRES.out)
          replace HSZ := Lib.hid (Nat.le_trans HSZ.out hb.size)
          replace HO := Lib.hid (own_below HO.out hb)
          replace HN := Lib.hid ((hb.block _ (Array.getElem?_eq_some_iff.1 HN.out).1).trans HN.out)
          clear hb x0 x1 CB
          generalize codeOkB (B, yb) = okB at *
          cases okB with
          | false =>
            have HM := Lib.hid (nB rfl)
            clear nA nB nX nY
            obtain ⟨x0, x1, -, -⟩ := row2_of HN.out
            go_wp2_with fail
            refine (sblank_any _ _ _).mono ?_
            rintro e wB ⟨v2, rfl, ho2, hb⟩
            obtain ⟨a2, n2, k2, rfl⟩ := own_shape ho2
            have ho2 := own_base ho2 HSZ.out
            replace HRA := Lib.hid ((hb.block _ (Array.getElem?_eq_some_iff.1 HRA.out).1).trans HRA.out)
            replace HRB := Lib.hid ((hb.block _ (Array.getElem?_eq_some_iff.1 HRB.out).1).trans HRB.out)
            replace HB0 := Lib.hid (HB0.out.trans (hb.mono HB0.out.size))
            replace HRES := Lib.hid ((hb.block _ (Array.getElem?_eq_some_iff.1 HRES.out).1).trans HRES.out)
            replace HSZ := Lib.hid (Nat.le_trans HSZ.out hb.size)
            replace HO := Lib.hid (own_below HO.out hb)
            replace HN := Lib.hid ((hb.block _ (Array.getElem?_eq_some_iff.1 HN.out).1).trans HN.out)
            obtain ⟨c0, c1, f0, f1⟩ := row2_of HRES.out
            have hlt := (Array.getElem?_eq_some_iff.1 HRES.out).1
            have HF := Lib.hid (And.intro (cd_res HRES.out (.slice a2 n2 k2) z4) (And.intro (own_base (own_set2 ho2 (by omega : w.heap.size + 2 < w.heap.size + 3) (.slice a2 n2 k2) (.string z4)) (by omega : w.heap.size ≤ w.heap.size + 3)) (below2 HB0.out (by omega : w.heap.size ≤ w.heap.size + 2) (.slice a2 n2 k2) (.string z4))))
            clear hb ho2 HRA HRB HRES HO HB0 HN x0 x1
            go_wp2_with fail
            refine bodyPost_ret (v := .tuple #[.agg #[.slice a2 n2 k2, .string z4], .bool false]) ?_ rfl ⟨_, by rw [HM.out]; rfl, by rw [HM.out]; exact HF.out.2.1, HF.out.2.2⟩
            rw [results_cell_slot (p := 4) (u := 5) (ty := 27) (by kernel_rfl)]
            have l2 := HF.out.1
            simp [asAddr, Result.andThen, l2]
          | true =>
            obtain ⟨x0, x1, -, -⟩ := row2_of HN.out
            go_wp2_with fail
            refine (CX.out _ _ (keysAt_own HO.out) (by have h1 := hA6.out (by simp); have h2 := hB6.out (by simp); have h3 := HML.out; omega)).mono ?_
            rintro e wX ⟨rfl, hb⟩
            replace HRA := Lib.hid ((hb.block _ (Array.getElem?_eq_some_iff.1 HRA.out).1).trans HRA.out)
            replace HRB := Lib.hid ((hb.block _ (Array.getElem?_eq_some_iff.1 HRB.out).1).trans HRB.out)
            replace HB0 := Lib.hid (HB0.out.trans (hb.mono HB0.out.size))
            replace HRES := Lib.hid ((hb.block _ (Array.getElem?_eq_some_iff.1 HRES.out).1).trans HRES.out)
            replace HSZ := Lib.hid (Nat.le_trans HSZ.out hb.size)
            replace HO := Lib.hid (own_below HO.out hb)
            replace HN := Lib.hid ((hb.block _ (Array.getElem?_eq_some_iff.1 HN.out).1).trans HN.out)
            clear hb x0 x1 CX
            generalize codeOkB (M, Y) = okX at *
            cases okX with
            | false =>
              have HM := Lib.hid (nX rfl)
              clear nA nB nX nY
              obtain ⟨x0, x1, -, -⟩ := row2_of HN.out
              go_wp2_with fail
              refine (sblank_any _ _ _).mono ?_
              rintro e wB ⟨v2, rfl, ho2, hb⟩
              obtain ⟨a2, n2, k2, rfl⟩ := own_shape ho2
              have ho2 := own_base ho2 HSZ.out
              replace HRA := Lib.hid ((hb.block _ (Array.getElem?_eq_some_iff.1 HRA.out).1).trans HRA.out)
              replace HRB := Lib.hid ((hb.block _ (Array.getElem?_eq_some_iff.1 HRB.out).1).trans HRB.out)
              replace HB0 := Lib.hid (HB0.out.trans (hb.mono HB0.out.size))
              replace HRES := Lib.hid ((hb.block _ (Array.getElem?_eq_some_iff.1 HRES.out).1).trans HRES.out)
              replace HSZ := Lib.hid (Nat.le_trans HSZ.out hb.size)
              replace HO := Lib.hid (own_below HO.out hb)
              replace HN := Lib.hid ((hb.block _ (Array.getElem?_eq_some_iff.1 HN.out).1).trans HN.out)
              obtain ⟨c0, c1, f0, f1⟩ := row2_of HRES.out
              have hlt := (Array.getElem?_eq_some_iff.1 HRES.out).1
              have HF := Lib.hid (And.intro (cd_res HRES.out (.slice a2 n2 k2) z4) (And.intro (own_base (own_set2 ho2 (by omega : w.heap.size + 2 < w.heap.size + 3) (.slice a2 n2 k2) (.string z4)) (by omega : w.heap.size ≤ w.heap.size + 3)) (below2 HB0.out (by omega : w.heap.size ≤ w.heap.size + 2) (.slice a2 n2 k2) (.string z4))))
              clear hb ho2 HRA HRB HRES HO HB0 HN x0 x1
              go_wp2_with fail
              refine bodyPost_ret (v := .tuple #[.agg #[.slice a2 n2 k2, .string z4], .bool false]) ?_ rfl ⟨_, by rw [HM.out]; rfl, by rw [HM.out]; exact HF.out.2.1, HF.out.2.2⟩
              rw [results_cell_slot (p := 4) (u := 5) (ty := 27) (by kernel_rfl)]
              have l2 := HF.out.1
              simp [asAddr, Result.andThen, l2]
            | true =>
              have HM := Lib.hid (nY (by simp) (by simp) (by simp))
              clear nA nB nX nY
              obtain ⟨x0, x1, -, -⟩ := row2_of HN.out
              obtain ⟨c0, c1, f0, f1⟩ := row2_of HRES.out
              have hlt := (Array.getElem?_eq_some_iff.1 HRES.out).1
              have HF := Lib.hid (And.intro (cd_res HRES.out (.slice a3 n3 k3) Y) (And.intro (own_base (own_set2 HO.out (by omega : w.heap.size + 2 < w.heap.size + 3) (.slice a3 n3 k3) (.string Y)) (by omega : w.heap.size ≤ w.heap.size + 3)) (below2 HB0.out (by omega : w.heap.size ≤ w.heap.size + 2) (.slice a3 n3 k3) (.string Y))))
              clear HRA HRB HRES HO HB0 HN
              go_wp2_with fail
              refine bodyPost_ret (v := .tuple #[.agg #[.slice a3 n3 k3, .string Y], .bool true]) ?_ rfl ⟨_, by rw [HM.out], by rw [HM.out]; exact HF.out.2.1, HF.out.2.2⟩
              rw [results_cell_slot (p := 4) (u := 5) (ty := 27) (by kernel_rfl)]
              have l2 := HF.out.1
              simp [asAddr, Result.andThen, l2]
    · refine segt_run rfl (by rfl) (fun K hK => ?_)
      go_simp
      have HB6 := Lib.hid HSZ.out
      have HNE := Lib.hid (fun (e : (Value.slice a3 n3 k3).ownBlock = some w3.heap.size) => (absurd (HO.out.lt _ e).2 (Nat.lt_irrefl _) : False))
      have HNn := Lib.hid (heap_alloc_new (w3) (.cells #[.slice none 0 0, .string ⟨#[]⟩] 27))
      replace HRA := Lib.hid ((Below.heap_alloc _ (.cells #[.slice none 0 0, .string ⟨#[]⟩] 27) _ (Array.getElem?_eq_some_iff.1 HRA.out).1).trans HRA.out)
      replace HRB := Lib.hid ((Below.heap_alloc _ (.cells #[.slice none 0 0, .string ⟨#[]⟩] 27) _ (Array.getElem?_eq_some_iff.1 HRB.out).1).trans HRB.out)
      replace HB0 := Lib.hid (HB0.out.alloc HB0.out.size (.cells #[.slice none 0 0, .string ⟨#[]⟩] 27))
      replace HRES := Lib.hid ((Below.heap_alloc _ (.cells #[.slice none 0 0, .string ⟨#[]⟩] 27) _ (Array.getElem?_eq_some_iff.1 HRES.out).1).trans HRES.out)
      replace HSZ := Lib.hid (Nat.le_trans HSZ.out (size_le_alloc _ (.cells #[.slice none 0 0, .string ⟨#[]⟩] 27)))
      replace HO := Lib.hid (HO.out.alloc (.cells #[.slice none 0 0, .string ⟨#[]⟩] 27))
      have HN := HNn
      clear HNn
      generalize World.alloc (w3) (.cells #[.slice none 0 0, .string ⟨#[]⟩] 27) = w4 at *
      generalize (w3).heap.size = b6 at *
      refine hK _ _ ⟨_, fun _ h => h, ⟨HRA.out, HRB.out⟩, ?_⟩
      clear hK K
      try simp only [Act.put, List.setIfInBounds_toArray, List.set_cons_zero, List.set_cons_succ]
      refine wpG_seg [] [9] 2 (by kernel_rfl) (by intro c a d v w h; cases d <;> exact h) (by kernel_rfl) ⟨HRA.out, HRB.out⟩ ?_
      try simp only [maskRows]
      refine wpQuiet_nil ?_
      refine List.forall_mem_singleton.2 ?_
      refine segt_run rfl (by rfl) (fun K hK => ?_)
      go_simp
      refine (SX.out _).mono ?_
      rintro e w5 ⟨rfl, hb⟩
      dsimp only
      replace HRA := Lib.hid ((hb.block _ (Array.getElem?_eq_some_iff.1 HRA.out).1).trans HRA.out)
      replace HRB := Lib.hid ((hb.block _ (Array.getElem?_eq_some_iff.1 HRB.out).1).trans HRB.out)
      replace HB0 := Lib.hid (HB0.out.trans (hb.mono HB0.out.size))
      replace HRES := Lib.hid ((hb.block _ (Array.getElem?_eq_some_iff.1 HRES.out).1).trans HRES.out)
      replace HSZ := Lib.hid (Nat.le_trans HSZ.out hb.size)
      replace HO := Lib.hid (own_below HO.out hb)
      replace HN := Lib.hid ((hb.block _ (Array.getElem?_eq_some_iff.1 HN.out).1).trans HN.out)
      replace HB6 := Lib.hid (HB6.out)
      replace HNE := Lib.hid (HNE.out)
      clear hb
      refine hK _ _ ⟨_, fun _ h => h, ⟨HRA.out, HRB.out⟩, ?_⟩
      clear hK K
      try simp only [Act.put, List.setIfInBounds_toArray, List.set_cons_zero, List.set_cons_succ]
      refine wpG_seg [] [10] 1 (by kernel_rfl) (by intro c a d v w h; cases d <;> exact h) (by kernel_rfl) ⟨HRA.out, HRB.out⟩ ?_
      try simp only [maskRows]
      refine wpQuiet_nil ?_
      refine List.forall_mem_singleton.2 ?_
      refine segt_run rfl (by rfl) (fun K hK => ?_)
      go_simp
      refine hK _ _ ⟨_, fun _ h => h, ⟨HRA.out, HRB.out⟩, ?_⟩
      clear hK K
      try simp only [Act.put, List.setIfInBounds_toArray, List.set_cons_zero, List.set_cons_succ]
      refine wpG_seg [] [12] 0 (by kernel_rfl) (by intro c a d v w h; cases d <;> exact h) (by kernel_rfl) ⟨HRA.out, HRB.out⟩ ?_
      try simp only [maskRows]
      refine wpQuiet_nil ?_
      refine List.forall_mem_singleton.2 ?_
      have hb6 := HB6.out
      obtain ⟨c0, c1, f0, f1⟩ := row2_of HN.out
      have hlt := (Array.getElem?_eq_some_iff.1 HN.out).1
      have HN' := Lib.hid (set2 (.slice a3 n3 k3) (.string Y) HN.out)
      have HRA' := Lib.hid (row_set2 HRA.out (by omega : w.heap.size ≠ b6) (.slice a3 n3 k3) (.string Y))
      have HRB' := Lib.hid (row_set2 HRB.out (by omega : w.heap.size + 1 ≠ b6) (.slice a3 n3 k3) (.string Y))
      have HRES' := Lib.hid (row_set2 HRES.out (by omega : w.heap.size + 2 ≠ b6) (.slice a3 n3 k3) (.string Y))
      have HB0' := Lib.hid (below2 HB0.out (by omega : w.heap.size ≤ b6) (.slice a3 n3 k3) (.string Y))
      have HO' := Lib.hid (HO.out.kept (grown2 _ b6 (.slice a3 n3 k3) (.string Y)) (.inr HNE.out))
      have HSZ' := Lib.hid (Nat.le_trans HSZ.out (Nat.le_of_eq (size_set2 _ b6 (.slice a3 n3 k3) (.string Y)).symm))
      clear hb6
      refine segt_run rfl (by rfl) (fun K hK => ?_)
      go_simp
      replace HN := HN'
      replace HRA := HRA'
      replace HRB := HRB'
      replace HRES := HRES'
      replace HB0 := HB0'
      replace HO := HO'
      replace HSZ := HSZ'
      clear HN' HRA' HRB' HRES' HB0' HO' HSZ' c0 c1 f0 f1 hlt
      generalize (World.setCell (World.setCell w5 ⟨b6, 0, none⟩ (.slice a3 n3 k3)) ⟨b6, 1, none⟩ (.string Y)) = wS at *
      refine hK _ _ ⟨_, fun _ h => h, ⟨HRA.out, HRB.out⟩, ?_⟩
      clear hK K
      try simp only [Act.put, List.setIfInBounds_toArray, List.set_cons_zero, List.set_cons_succ]
      refine wpG_end [] (by kernel_rfl) (by intro c a d v w h; cases d <;> exact h) (by kernel_rfl) ⟨HRA.out, HRB.out⟩ ?_
      try simp only [maskRows]
      refine wpQuiet_nil ?_
      obtain ⟨x0, x1, -, -⟩ := row2_of HRA.out
      go_wp2_with fail
      refine (CA.out _ HB0.out).mono ?_
      rintro e wP ⟨rfl, hb⟩
      replace HRA := Lib.hid ((hb.block _ (Array.getElem?_eq_some_iff.1 HRA.out).1).trans HRA.out)
      replace HRB := Lib.hid ((hb.block _ (Array.getElem?_eq_some_iff.1 HRB.out).1).trans HRB.out)
      replace HB0 := Lib.hid (HB0.out.trans (hb.mono HB0.out.size))
      replace HRES := Lib.hid ((hb.block _ (Array.getElem?_eq_some_iff.1 HRES.out).1).trans HRES.out)
      replace HSZ := Lib.hid (Nat.le_trans HSZ.out hb.size)
      replace HO := Lib.hid (own_below HO.out hb)
      replace HN := Lib.hid ((hb.block _ (Array.getElem?_eq_some_iff.1 HN.out).1).trans HN.out)
      clear hb x0 x1 CA
      generalize codeOkB (A, ya) = okA at *
      cases okA with
      | false =>
        have HM := Lib.hid (nA rfl)
        clear nA nB nX nY
        obtain ⟨x0, x1, -, -⟩ := row2_of HN.out
        go_wp2_with fail
        refine (sblank_any _ _ _).mono ?_
        rintro e wB ⟨v2, rfl, ho2, hb⟩
        obtain ⟨a2, n2, k2, rfl⟩ := own_shape ho2
        have ho2 := own_base ho2 HSZ.out
        replace HRA := Lib.hid ((hb.block _ (Array.getElem?_eq_some_iff.1 HRA.out).1).trans HRA.out)
        replace HRB := Lib.hid ((hb.block _ (Array.getElem?_eq_some_iff.1 HRB.out).1).trans HRB.out)
        replace HB0 := Lib.hid (HB0.out.trans (hb.mono HB0.out.size))
        replace HRES := Lib.hid ((hb.block _ (Array.getElem?_eq_some_iff.1 HRES.out).1).trans HRES.out)
        replace HSZ := Lib.hid (Nat.le_trans HSZ.out hb.size)
        replace HO := Lib.hid (own_below HO.out hb)
        replace HN := Lib.hid ((hb.block _ (Array.getElem?_eq_some_iff.1 HN.out).1).trans HN.out)
        obtain ⟨c0, c1, f0, f1⟩ := row2_of HRES.out
        have hlt := (Array.getElem?_eq_some_iff.1 HRES.out).1
        have HF := Lib.hid (And.intro (cd_res HRES.out (.slice a2 n2 k2) z4) (And.intro (own_base (own_set2 ho2 (by omega : w.heap.size + 2 < w.heap.size + 3) (.slice a2 n2 k2) (.string z4)) (by omega : w.heap.size ≤ w.heap.size + 3)) (below2 HB0.out (by omega : w.heap.size ≤ w.heap.size + 2) (.slice a2 n2 k2) (.string z4))))
        clear hb ho2 HRA HRB HRES HO HB0 HN x0 x1
        go_wp2_with fail
        refine bodyPost_ret (v := .tuple #[.agg #[.slice a2 n2 k2, .string z4], .bool false]) ?_ rfl ⟨_, by rw [HM.out]; rfl, by rw [HM.out]; exact HF.out.2.1, HF.out.2.2⟩
        rw [results_cell_slot (p := 4) (u := 5) (ty := 27) (by kernel_rfl)]
        have l2 := HF.out.1
        simp [asAddr, Result.andThen, l2]
      | true =>
        obtain ⟨x0, x1, -, -⟩ := row2_of HRB.out
        go_wp2_with fail
        refine (CB.out _ HB0.out).mono ?_
        rintro e wQ ⟨rfl, hb⟩
        replace HRA := Lib.hid ((hb.block _ (Array.getElem?_eq_some_iff.1 HRA.out).1).trans HRA.out)
        replace HRB := Lib.hid ((hb.block _ (Array.getElem?_eq_some_iff.1 HRB.out).1).trans HRB.out)
        replace HB0 := Lib.hid (HB0.out.trans (hb.mono HB0.out.size))
        replace HRES := Lib.hid ((hb.block _ (Array.getElem?_eq_some_iff.1 HRES.out).1).trans HRES.out)
        replace HSZ := Lib.hid (Nat.le_trans HSZ.out hb.size)
        replace HO := Lib.hid (own_below HO.out hb)
        replace HN := Lib.hid ((hb.block _ (Array.getElem?_eq_some_iff.1 HN.out).1).trans HN.out)
        clear hb x0 x1 CB
        generalize codeOkB (B, yb) = okB at *
        cases okB with
        | false =>
          have HM := Lib.hid (nB rfl)
          clear nA nB nX nY
          obtain ⟨x0, x1, -, -⟩ := row2_of HN.out
          go_wp2_with fail
          refine (sblank_any _ _ _).mono ?_
          rintro e wB ⟨v2, rfl, ho2, hb⟩
          obtain ⟨a2, n2, k2, rfl⟩ := own_shape ho2
          have ho2 := own_base ho2 HSZ.out
          replace HRA := Lib.hid ((hb.block _ (Array.getElem?_eq_some_iff.1 HRA.out).1).trans HRA.out)
          replace HRB := Lib.hid ((hb.block _ (Array.getElem?_eq_some_iff.1 HRB.out).1).trans HRB.out)
          replace HB0 := Lib.hid (HB0.out.trans (hb.mono HB0.out.size))
          replace HRES := Lib.hid ((hb.block _ (Array.getElem?_eq_some_iff.1 HRES.out).1).trans HRES.out)
          replace HSZ := Lib.hid (Nat.le_trans HSZ.out hb.size)
          replace HO := Lib.hid (own_below HO.out hb)
          replace HN := Lib.hid ((hb.block _ (Array.getElem?_eq_some_iff.1 HN.out).1).trans HN.out)
          obtain ⟨c0, c1, f0, f1⟩ := row2_of HRES.out
          have hlt := (Array.getElem?_eq_some_iff.1 HRES.out).1
          have HF := Lib.hid (And.intro (cd_res HRES.out (.slice a2 n2 k2) z4) (And.intro (own_base (own_set2 ho2 (by omega : w.heap.size + 2 < w.heap.size + 3) (.slice a2 n2 k2) (.string z4)) (by omega : w.heap.size ≤ w.heap.size + 3)) (below2 HB0.out (by omega : w.heap.size ≤ w.heap.size + 2) (.slice a2 n2 k2) (.string z4))))
          clear hb ho2 HRA HRB HRES HO HB0 HN x0 x1
          go_wp2_with fail
          refine bodyPost_ret (v := .tuple #[.agg #[.slice a2 n2 k2, .string z4], .bool false]) ?_ rfl ⟨_, by rw [HM.out]; rfl, by rw [HM.out]; exact HF.out.2.1, HF.out.2.2⟩
          rw [results_cell_slot (p := 4) (u := 5) (ty := 27) (by kernel_rfl)]
          have l2 := HF.out.1
          simp [asAddr, Result.andThen, l2]
        | true =>
          obtain ⟨x0, x1, -, -⟩ := row2_of HN.out
          go_wp2_with fail
          refine (CX.out _ _ (keysAt_own HO.out) (by have h1 := hA6.out (by simp); have h2 := hB6.out (by simp); have h3 := HML.out; omega)).mono ?_
          rintro e wX ⟨rfl, hb⟩
          replace HRA := Lib.hid ((hb.block _ (Array.getElem?_eq_some_iff.1 HRA.out).1).trans HRA.out)
          replace HRB := Lib.hid ((hb.block _ (Array.getElem?_eq_some_iff.1 HRB.out).1).trans HRB.out)
          replace HB0 := Lib.hid (HB0.out.trans (hb.mono HB0.out.size))
          replace HRES := Lib.hid ((hb.block _ (Array.getElem?_eq_some_iff.1 HRES.out).1).trans HRES.out)
          replace HSZ := Lib.hid (Nat.le_trans HSZ.out hb.size)
          replace HO := Lib.hid (own_below HO.out hb)
          replace HN := Lib.hid ((hb.block _ (Array.getElem?_eq_some_iff.1 HN.out).1).trans HN.out)
          clear hb x0 x1 CX
          generalize codeOkB (M, Y) = okX at *
          cases okX with
          | false =>
            have HM := Lib.hid (nX rfl)
            clear nA nB nX nY
            obtain ⟨x0, x1, -, -⟩ := row2_of HN.out
            go_wp2_with fail
            refine (sblank_any _ _ _).mono ?_
            rintro e wB ⟨v2, rfl, ho2, hb⟩
            obtain ⟨a2, n2, k2, rfl⟩ := own_shape ho2
            have ho2 := own_base ho2 HSZ.out
            replace HRA := Lib.hid ((hb.block _ (Array.getElem?_eq_some_iff.1 HRA.out).1).trans HRA.out)
            replace HRB := Lib.hid ((hb.block _ (Array.getElem?_eq_some_iff.1 HRB.out).1).trans HRB.out)
            replace HB0 := Lib.hid (HB0.out.trans (hb.mono HB0.out.size))
            replace HRES := Lib.hid ((hb.block _ (Array.getElem?_eq_some_iff.1 HRES.out).1).trans HRES.out)
            replace HSZ := Lib.hid (Nat.le_trans HSZ.out hb.size)
            replace HO := Lib.hid (own_below HO.out hb)
            replace HN := Lib.hid ((hb.block _ (Array.getElem?_eq_some_iff.1 HN.out).1).trans HN.out)
            obtain ⟨c0, c1, f0, f1⟩ := row2_of HRES.out
            have hlt := (Array.getElem?_eq_some_iff.1 HRES.out).1
            have HF := Lib.hid (And.intro (cd_res HRES.out (.slice a2 n2 k2) z4) (And.intro (own_base (own_set2 ho2 (by omega : w.heap.size + 2 < w.heap.size + 3) (.slice a2 n2 k2) (.string z4)) (by omega : w.heap.size ≤ w.heap.size + 3)) (below2 HB0.out (by omega : w.heap.size ≤ w.heap.size + 2) (.slice a2 n2 k2) (.string z4))))
            clear hb ho2 HRA HRB HRES HO HB0 HN x0 x1
            go_wp2_with fail
            refine bodyPost_ret (v := .tuple #[.agg #[.slice a2 n2 k2, .string z4], .bool false]) ?_ rfl ⟨_, by rw [HM.out]; rfl, by rw [HM.out]; exact HF.out.2.1, HF.out.2.2⟩
            rw [results_cell_slot (p := 4) (u := 5) (ty := 27) (by kernel_rfl)]
            have l2 := HF.out.1
            simp [asAddr, Result.andThen, l2]
          | true =>
            have HM := Lib.hid (nY (by simp) (by simp) (by simp))
            clear nA nB nX nY
            obtain ⟨x0, x1, -, -⟩ := row2_of HN.out
            obtain ⟨c0, c1, f0, f1⟩ := row2_of HRES.out
            have hlt := (Array.getElem?_eq_some_iff.1 HRES.out).1
            have HF := Lib.hid (And.intro (cd_res HRES.out (.slice a3 n3 k3) Y) (And.intro (own_base (own_set2 HO.out (by omega : w.heap.size + 2 < w.heap.size + 3) (.slice a3 n3 k3) (.string Y)) (by omega : w.heap.size ≤ w.heap.size + 3)) (below2 HB0.out (by omega : w.heap.size ≤ w.heap.size + 2) (.slice a3 n3 k3) (.string Y))))
            clear HRA HRB HRES HO HB0 HN
            go_wp2_with fail
            refine bodyPost_ret (v := .tuple #[.agg #[.slice a3 n3 k3, .string Y], .bool true]) ?_ rfl ⟨_, by rw [HM.out], by rw [HM.out]; exact HF.out.2.1, HF.out.2.2⟩
            rw [results_cell_slot (p := 4) (u := 5) (ty := 27) (by kernel_rfl)]
            have l2 := HF.out.1
            simp [asAddr, Result.andThen, l2]
  · refine segt_run rfl (by rfl) (fun K hK => ?_)
    go_simp
    have HB6 := Lib.hid HSZ.out
    have HNn := Lib.hid (heap_alloc_new (wD) (.cells #[.slice none 0 0, .string ⟨#[]⟩] 27))
    replace HRA := Lib.hid ((Below.heap_alloc _ (.cells #[.slice none 0 0, .string ⟨#[]⟩] 27) _ (Array.getElem?_eq_some_iff.1 HRA.out).1).trans HRA.out)
    replace HRB := Lib.hid ((Below.heap_alloc _ (.cells #[.slice none 0 0, .string ⟨#[]⟩] 27) _ (Array.getElem?_eq_some_iff.1 HRB.out).1).trans HRB.out)
    replace HB0 := Lib.hid (HB0.out.alloc HB0.out.size (.cells #[.slice none 0 0, .string ⟨#[]⟩] 27))
    replace HRES := Lib.hid ((Below.heap_alloc _ (.cells #[.slice none 0 0, .string ⟨#[]⟩] 27) _ (Array.getElem?_eq_some_iff.1 HRES.out).1).trans HRES.out)
    replace HSZ := Lib.hid (Nat.le_trans HSZ.out (size_le_alloc _ (.cells #[.slice none 0 0, .string ⟨#[]⟩] 27)))
    have HN := HNn
    clear HNn
    generalize World.alloc (wD) (.cells #[.slice none 0 0, .string ⟨#[]⟩] 27) = w3 at *
    generalize (wD).heap.size = b6 at *
    refine hK _ _ ⟨_, fun _ h => h, ⟨HRA.out, HRB.out⟩, ?_⟩
    clear hK K
    try simp only [Act.put, List.setIfInBounds_toArray, List.set_cons_zero, List.set_cons_succ]
    refine wpG_seg [] [4] 3 (by kernel_rfl) (by intro c a d v w h; cases d <;> exact h) (by kernel_rfl) ⟨HRA.out, HRB.out⟩ ?_
    try simp only [maskRows]
    refine wpQuiet_nil ?_
    refine List.forall_mem_singleton.2 ?_
    refine segt_run rfl (by rfl) (fun K hK => ?_)
    go_simp
    refine (SP.out _ HB0.out).mono ?_
    rintro e w4 ⟨v3, rfl, ho3, hb⟩
    dsimp only
    have HSZo := Lib.hid HSZ.out
    have HBL := Lib.hid (Array.getElem?_eq_some_iff.1 HN.out).1
    have hNE := fun (b6 : Nat) (hl : b6 < w3.heap.size) (e : v3.ownBlock = some b6) => (absurd (ho3.lt b6 e).1 (Nat.not_le.2 hl) : False)
    replace HRA := Lib.hid ((hb.block _ (Array.getElem?_eq_some_iff.1 HRA.out).1).trans HRA.out)
    replace HRB := Lib.hid ((hb.block _ (Array.getElem?_eq_some_iff.1 HRB.out).1).trans HRB.out)
    replace HB0 := Lib.hid (HB0.out.trans (hb.mono HB0.out.size))
    replace HRES := Lib.hid ((hb.block _ (Array.getElem?_eq_some_iff.1 HRES.out).1).trans HRES.out)
    replace HSZ := Lib.hid (Nat.le_trans HSZ.out hb.size)
    replace HN := Lib.hid ((hb.block _ (Array.getElem?_eq_some_iff.1 HN.out).1).trans HN.out)
    replace HB6 := Lib.hid (HB6.out)
    have HNE := Lib.hid (hNE b6 HBL.out)
    clear hNE
    obtain ⟨a3, n3, k3, rfl⟩ := own_shape ho3
    have HO := Lib.hid (own_base ho3 HSZo.out)
    clear ho3 HSZo
    clear hb
    clear HBL
    refine hK _ _ ⟨_, fun _ h => h, ⟨HRA.out, HRB.out⟩, ?_⟩
    clear hK K
    try simp only [Act.put, List.setIfInBounds_toArray, List.set_cons_zero, List.set_cons_succ]
    refine wpG_seg [] [9] 2 (by kernel_rfl) (by intro c a d v w h; cases d <;> exact h) (by kernel_rfl) ⟨HRA.out, HRB.out⟩ ?_
    try simp only [maskRows]
    refine wpQuiet_nil ?_
    refine List.forall_mem_singleton.2 ?_
    refine segt_run rfl (by rfl) (fun K hK => ?_)
    go_simp
    refine (SX.out _).mono ?_
    rintro e w5 ⟨rfl, hb⟩
    dsimp only
    replace HRA := Lib.hid ((hb.block _ (Array.getElem?_eq_some_iff.1 HRA.out).1).trans HRA.out)
    replace HRB := Lib.hid ((hb.block _ (Array.getElem?_eq_some_iff.1 HRB.out).1).trans HRB.out)
    replace HB0 := Lib.hid (HB0.out.trans (hb.mono HB0.out.size))
    replace HRES := Lib.hid ((hb.block _ (Array.getElem?_eq_some_iff.1 HRES.out).1).trans HRES.out)
    replace HSZ := Lib.hid (Nat.le_trans HSZ.out hb.size)
    replace HN := Lib.hid ((hb.block _ (Array.getElem?_eq_some_iff.1 HN.out).1).trans HN.out)
    replace HB6 := Lib.hid (HB6.out)
    replace HO := Lib.hid (own_below HO.out hb)
    replace HNE := Lib.hid (HNE.out)
    clear hb
    refine hK _ _ ⟨_, fun _ h => h, ⟨HRA.out, HRB.out⟩, ?_⟩
    clear hK K
    try simp only [Act.put, List.setIfInBounds_toArray, List.set_cons_zero, List.set_cons_succ]
    refine wpG_seg [] [10] 1 (by kernel_rfl) (by intro c a d v w h; cases d <;> exact h) (by kernel_rfl) ⟨HRA.out, HRB.out⟩ ?_
    try simp only [maskRows]
    refine wpQuiet_nil ?_
    refine List.forall_mem_singleton.2 ?_
    refine segt_run rfl (by rfl) (fun K hK => ?_)
    go_simp
    refine hK _ _ ⟨_, fun _ h => h, ⟨HRA.out, HRB.out⟩, ?_⟩
    clear hK K
    try simp only [Act.put, List.setIfInBounds_toArray, List.set_cons_zero, List.set_cons_succ]
    refine wpG_seg [] [12] 0 (by kernel_rfl) (by intro c a d v w h; cases d <;> exact h) (by kernel_rfl) ⟨HRA.out, HRB.out⟩ ?_
    try simp only [maskRows]
    refine wpQuiet_nil ?_
    refine List.forall_mem_singleton.2 ?_
    have hb6 := HB6.out
    obtain ⟨c0, c1, f0, f1⟩ := row2_of HN.out
    have hlt := (Array.getElem?_eq_some_iff.1 HN.out).1
    have HN' := Lib.hid (set2 (.slice a3 n3 k3) (.string Y) HN.out)
    have HRA' := Lib.hid (row_set2 HRA.out (by omega : w.heap.size ≠ b6) (.slice a3 n3 k3) (.string Y))
    have HRB' := Lib.hid (row_set2 HRB.out (by omega : w.heap.size + 1 ≠ b6) (.slice a3 n3 k3) (.string Y))
    have HRES' := Lib.hid (row_set2 HRES.out (by omega : w.heap.size + 2 ≠ b6) (.slice a3 n3 k3) (.string Y))
    have HB0' := Lib.hid (below2 HB0.out (by omega : w.heap.size ≤ b6) (.slice a3 n3 k3) (.string Y))
    have HO' := Lib.hid (HO.out.kept (grown2 _ b6 (.slice a3 n3 k3) (.string Y)) (.inr HNE.out))
    have HSZ' := Lib.hid (Nat.le_trans HSZ.out (Nat.le_of_eq (size_set2 _ b6 (.slice a3 n3 k3) (.string Y)).symm))
    clear hb6
    refine segt_run rfl (by rfl) (fun K hK => ?_)
    go_simp
    replace HN := HN'
    replace HRA := HRA'
    replace HRB := HRB'
    replace HRES := HRES'
    replace HB0 := HB0'
    replace HO := HO'
    replace HSZ := HSZ'
    clear HN' HRA' HRB' HRES' HB0' HO' HSZ' c0 c1 f0 f1 hlt
    generalize (World.setCell (World.setCell w5 ⟨b6, 0, none⟩ (.slice a3 n3 k3)) ⟨b6, 1, none⟩ (.string Y)) = wS at *
    refine hK _ _ ⟨_, fun _ h => h, ⟨HRA.out, HRB.out⟩, ?_⟩
    clear hK K
    try simp only [Act.put, List.setIfInBounds_toArray, List.set_cons_zero, List.set_cons_succ]
    refine wpG_end [] (by kernel_rfl) (by intro c a d v w h; cases d <;> exact h) (by kernel_rfl) ⟨HRA.out, HRB.out⟩ ?_
    try simp only [maskRows]
    refine wpQuiet_nil ?_
    obtain ⟨x0, x1, -, -⟩ := row2_of HRA.out
    go_wp2_with fail
    refine (CA.out _ HB0.out).mono ?_
    rintro e wP ⟨rfl, hb⟩
    replace HRA := Lib.hid ((hb.block _ (Array.getElem?_eq_some_iff.1 HRA.out).1).trans HRA.out)
    replace HRB := Lib.hid ((hb.block _ (Array.getElem?_eq_some_iff.1 HRB.out).1).trans HRB.out)
    replace HB0 := Lib.hid (HB0.out.trans (hb.mono HB0.out.size))
    replace HRES := Lib.hid ((hb.block _ (Array.getElem?_eq_some_iff.1 HRES.out).1).trans HRES.out)
    replace HSZ := Lib.hid (Nat.le_trans HSZ.out hb.size)
    replace HO := Lib.hid (own_below HO.out hb)
    replace HN := Lib.hid ((hb.block _ (Array.getElem?_eq_some_iff.1 HN.out).1).trans HN.out)
    clear hb x0 x1 CA
    generalize codeOkB (A, ya) = okA at *
    cases okA with
    | false =>
      have HM := Lib.hid (nA rfl)
      clear nA nB nX nY
      obtain ⟨x0, x1, -, -⟩ := row2_of HN.out
      go_wp2_with fail
      refine (sblank_any _ _ _).mono ?_
      rintro e wB ⟨v2, rfl, ho2, hb⟩
      obtain ⟨a2, n2, k2, rfl⟩ := own_shape ho2
      have ho2 := own_base ho2 HSZ.out
      replace HRA := Lib.hid ((hb.block _ (Array.getElem?_eq_some_iff.1 HRA.out).1).trans HRA.out)
      replace HRB := Lib.hid ((hb.block _ (Array.getElem?_eq_some_iff.1 HRB.out).1).trans HRB.out)
      replace HB0 := Lib.hid (HB0.out.trans (hb.mono HB0.out.size))
      replace HRES := Lib.hid ((hb.block _ (Array.getElem?_eq_some_iff.1 HRES.out).1).trans HRES.out)
      replace HSZ := Lib.hid (Nat.le_trans HSZ.out hb.size)
      replace HO := Lib.hid (own_below HO.out hb)
      replace HN := Lib.hid ((hb.block _ (Array.getElem?_eq_some_iff.1 HN.out).1).trans HN.out)
      obtain ⟨c0, c1, f0, f1⟩ := row2_of HRES.out
      have hlt := (Array.getElem?_eq_some_iff.1 HRES.out).1
      have HF := Lib.hid (And.intro (cd_res HRES.out (.slice a2 n2 k2) z4) (And.intro (own_base (own_set2 ho2 (by omega : w.heap.size + 2 < w.heap.size + 3) (.slice a2 n2 k2) (.string z4)) (by omega : w.heap.size ≤ w.heap.size + 3)) (below2 HB0.out (by omega : w.heap.size ≤ w.heap.size + 2) (.slice a2 n2 k2) (.string z4))))
      clear hb ho2 HRA HRB HRES HO HB0 HN x0 x1
      go_wp2_with fail
      refine bodyPost_ret (v := .tuple #[.agg #[.slice a2 n2 k2, .string z4], .bool false]) ?_ rfl ⟨_, by rw [HM.out]; rfl, by rw [HM.out]; exact HF.out.2.1, HF.out.2.2⟩
      rw [results_cell_slot (p := 4) (u := 5) (ty := 27) (by kernel_rfl)]
      have l2 := HF.out.1
      simp [asAddr, Result.andThen, l2]
    | true =>
      obtain ⟨x0, x1, -, -⟩ := row2_of HRB.out
      go_wp2_with fail
      refine (CB.out _ HB0.out).mono ?_
      rintro e wQ ⟨rfl, hb⟩
      replace HRA := Lib.hid ((hb.block _ (Array.getElem?_eq_some_iff.1 HRA.out).1).trans HRA.out)
      replace HRB := Lib.hid ((hb.block _ (Array.getElem?_eq_some_iff.1 HRB.out).1).trans HRB.out)
      replace HB0 := Lib.hid (HB0.out.trans (hb.mono HB0.out.size))
      replace HRES := Lib.hid ((hb.block _ (Array.getElem?_eq_some_iff.1 HRES.out).1).trans HRES.out)
      replace HSZ := Lib.hid (Nat.le_trans HSZ.out hb.size)
      replace HO := Lib.hid (own_below HO.out hb)
      replace HN := Lib.hid ((hb.block _ (Array.getElem?_eq_some_iff.1 HN.out).1).trans HN.out)
      clear hb x0 x1 CB
      generalize codeOkB (B, yb) = okB at *
      cases okB with
      | false =>
        have HM := Lib.hid (nB rfl)
        clear nA nB nX nY
        obtain ⟨x0, x1, -, -⟩ := row2_of HN.out
        go_wp2_with fail
        refine (sblank_any _ _ _).mono ?_
        rintro e wB ⟨v2, rfl, ho2, hb⟩
        obtain ⟨a2, n2, k2, rfl⟩ := own_shape ho2
        have ho2 := own_base ho2 HSZ.out
        replace HRA := Lib.hid ((hb.block _ (Array.getElem?_eq_some_iff.1 HRA.out).1).trans HRA.out)
        replace HRB := Lib.hid ((hb.block _ (Array.getElem?_eq_some_iff.1 HRB.out).1).trans HRB.out)
        replace HB0 := Lib.hid (HB0.out.trans (hb.mono HB0.out.size))
        replace HRES := Lib.hid ((hb.block _ (Array.getElem?_eq_some_iff.1 HRES.out).1).trans HRES.out)
        replace HSZ := Lib.hid (Nat.le_trans HSZ.out hb.size)
        replace HO := Lib.hid (own_below HO.out hb)
        replace HN := Lib.hid ((hb.block _ (Array.getElem?_eq_some_iff.1 HN.out).1).trans HN.out)
        obtain ⟨c0, c1, f0, f1⟩ := row2_of HRES.out
        have hlt := (Array.getElem?_eq_some_iff.1 HRES.out).1
        have HF := Lib.hid (And.intro (cd_res HRES.out (.slice a2 n2 k2) z4) (And.intro (own_base (own_set2 ho2 (by omega : w.heap.size + 2 < w.heap.size + 3) (.slice a2 n2 k2) (.string z4)) (by omega : w.heap.size ≤ w.heap.size + 3)) (below2 HB0.out (by omega : w.heap.size ≤ w.heap.size + 2) (.slice a2 n2 k2) (.string z4))))
        clear hb ho2 HRA HRB HRES HO HB0 HN x0 x1
        go_wp2_with fail
        refine bodyPost_ret (v := .tuple #[.agg #[.slice a2 n2 k2, .string z4], .bool false]) ?_ rfl ⟨_, by rw [HM.out]; rfl, by rw [HM.out]; exact HF.out.2.1, HF.out.2.2⟩
        rw [results_cell_slot (p := 4) (u := 5) (ty := 27) (by kernel_rfl)]
        have l2 := HF.out.1
        simp [asAddr, Result.andThen, l2]
      | true =>
        obtain ⟨x0, x1, -, -⟩ := row2_of HN.out
        go_wp2_with fail
        refine (CX.out _ _ (keysAt_own HO.out) (by have h1 := hA6.out (by simp); have h2 := hB6.out (by simp); have h3 := HML.out; omega)).mono ?_
        rintro e wX ⟨rfl, hb⟩
        replace HRA := Lib.hid ((hb.block _ (Array.getElem?_eq_some_iff.1 HRA.out).1).trans HRA.out)
        replace HRB := Lib.hid ((hb.block _ (Array.getElem?_eq_some_iff.1 HRB.out).1).trans HRB.out)
        replace HB0 := Lib.hid (HB0.out.trans (hb.mono HB0.out.size))
        replace HRES := Lib.hid ((hb.block _ (Array.getElem?_eq_some_iff.1 HRES.out).1).trans HRES.out)
        replace HSZ := Lib.hid (Nat.le_trans HSZ.out hb.size)
        replace HO := Lib.hid (own_below HO.out hb)
        replace HN := Lib.hid ((hb.block _ (Array.getElem?_eq_some_iff.1 HN.out).1).trans HN.out)
        clear hb x0 x1 CX
        generalize codeOkB (M, Y) = okX at *
        cases okX with
        | false =>
          have HM := Lib.hid (nX rfl)
          clear nA nB nX nY
          obtain ⟨x0, x1, -, -⟩ := row2_of HN.out
          go_wp2_with fail
          refine (sblank_any _ _ _).mono ?_
          rintro e wB ⟨v2, rfl, ho2, hb⟩
          obtain ⟨a2, n2, k2, rfl⟩ := own_shape ho2
          have ho2 := own_base ho2 HSZ.out
          replace HRA := Lib.hid ((hb.block _ (Array.getElem?_eq_some_iff.1 HRA.out).1).trans HRA.out)
          replace HRB := Lib.hid ((hb.block _ (Array.getElem?_eq_some_iff.1 HRB.out).1).trans HRB.out)
          replace HB0 := Lib.hid (HB0.out.trans (hb.mono HB0.out.size))
          replace HRES := Lib.hid ((hb.block _ (Array.getElem?_eq_some_iff.1 HRES.out).1).trans HRES.out)
          replace HSZ := Lib.hid (Nat.le_trans HSZ.out hb.size)
          replace HO := Lib.hid (own_below HO.out hb)
          replace HN := Lib.hid ((hb.block _ (Array.getElem?_eq_some_iff.1 HN.out).1).trans HN.out)
          obtain ⟨c0, c1, f0, f1⟩ := row2_of HRES.out
          have hlt := (Array.getElem?_eq_some_iff.1 HRES.out).1
          have HF := Lib.hid (And.intro (cd_res HRES.out (.slice a2 n2 k2) z4) (And.intro (own_base (own_set2 ho2 (by omega : w.heap.size + 2 < w.heap.size + 3) (.slice a2 n2 k2) (.string z4)) (by omega : w.heap.size ≤ w.heap.size + 3)) (below2 HB0.out (by omega : w.heap.size ≤ w.heap.size + 2) (.slice a2 n2 k2) (.string z4))))
          clear hb ho2 HRA HRB HRES HO HB0 HN x0 x1
          go_wp2_with fail
          refine bodyPost_ret (v := .tuple #[.agg #[.slice a2 n2 k2, .string z4], .bool false]) ?_ rfl ⟨_, by rw [HM.out]; rfl, by rw [HM.out]; exact HF.out.2.1, HF.out.2.2⟩
          rw [results_cell_slot (p := 4) (u := 5) (ty := 27) (by kernel_rfl)]
          have l2 := HF.out.1
          simp [asAddr, Result.andThen, l2]
        | true =>
          have HM := Lib.hid (nY (by simp) (by simp) (by simp))
          clear nA nB nX nY
          obtain ⟨x0, x1, -, -⟩ := row2_of HN.out
          obtain ⟨c0, c1, f0, f1⟩ := row2_of HRES.out
          have hlt := (Array.getElem?_eq_some_iff.1 HRES.out).1
          have HF := Lib.hid (And.intro (cd_res HRES.out (.slice a3 n3 k3) Y) (And.intro (own_base (own_set2 HO.out (by omega : w.heap.size + 2 < w.heap.size + 3) (.slice a3 n3 k3) (.string Y)) (by omega : w.heap.size ≤ w.heap.size + 3)) (below2 HB0.out (by omega : w.heap.size ≤ w.heap.size + 2) (.slice a3 n3 k3) (.string Y))))
          clear HRA HRB HRES HO HB0 HN
          go_wp2_with fail
          refine bodyPost_ret (v := .tuple #[.agg #[.slice a3 n3 k3, .string Y], .bool true]) ?_ rfl ⟨_, by rw [HM.out], by rw [HM.out]; exact HF.out.2.1, HF.out.2.2⟩
          rw [results_cell_slot (p := 4) (u := 5) (ty := 27) (by kernel_rfl)]
          have l2 := HF.out.1
          simp [asAddr, Result.andThen, l2]
end Go.Proofs.Ytcecodjipeahkaa
namespace Go.Proofs.Ytcecodjipeahkaa
open Go.ChangeShapes Go.WideShapes Go.ChangeAt Go.RowKit Go.BigFrame
set_option linter.unusedVariables false

theorem cdAv.at {w : World} {b : Option Nat} {v : Value} {L : List C2} (h : cdAv w b v L) (i : Nat) (hi : i < L.length) :
    ∃ gl off cv u, v = .slice (some ⟨gl, off, none⟩) L.length cv ∧ gl < w.heap.size ∧ w.cell? ⟨gl, off + i * 2, none⟩ = some u ∧ w.cell? ⟨gl, off + i * 2 + 1, none⟩ = some (.string (L.getD i blankC).2) ∧ keysAv w b u (L.getD i blankC).1 := by
  obtain ⟨a, cap, rfl, hcap, hc⟩ := h
  obtain ⟨g, off, rfl, hg, hcs⟩ := hc.resolve_left (by omega)
  obtain ⟨u, c1, c2, c3⟩ := hcs i hi
  exact ⟨g, off, cap, u, rfl, hg, c1, c2, c3⟩
theorem own_lit {w : World} {a : Option Addr} {n c : Nat} (z : C2) (hu : keysAt w (.slice a n c) z.1) : cdOwn (w.alloc (.cells #[.slice a n c, .string z.2] 27)) w.heap.size (.slice (some ⟨w.heap.size, 0, none⟩) 1 1) [.slice a n c] [z] :=
  ⟨rfl, World.ownsRow_lit (base := w.heap.size) (e := 27) (size := 2) w #[.slice a n c, .string z.2] 1 (Nat.le_refl _) (by unfold maxLen; omega) rfl, fun i hi => by
    obtain rfl : i = 0 := by simpa using hi
    exact (keysAv_of (b := some w.heap.size) hu (fun j hj e => by cases e; omega)).below ((Below.refl _ _).alloc (Nat.le_refl _) _)⟩
theorem own_lit0 (w : World) : cdOwn (w.alloc (.cells #[] 27)) w.heap.size (.slice (some ⟨w.heap.size, 0, none⟩) 0 0) [] [] :=
  ⟨rfl, World.ownsRow_made (base := w.heap.size) (e := 27) (size := 2) w #[] 0 (Nat.le_refl _) (by unfold maxLen; omega) rfl, fun i hi => by simp at hi⟩
theorem av_lit {w : World} {v : Value} {L : List C2} (h : cdAv w none v L) (o : Obj) : cdAv (w.alloc o) (some w.heap.size) v L := cdAv_below (h.avoid fun j hj e => by cases e; omega) ((Below.refl _ _).alloc (Nat.le_refl _) o)
theorem segt_skip {P : Program} {md : Region.Mode} {Q : Exit → Act → World → Prop} {S : World → Prop} {l : List Oper} {fuel : Nat} {listed : Array Bool} {i : Nat} {o : Oper} {a : Act} {w : World} (ho : l.toArray[i]? = some o) (hw : Region.wanted o (yielded l.toArray a.tmps) = false) (hS : S w)
    (h : wpG P md l.toArray Q fuel S listed (a.put o.dst undef) w) :
    wpOp P l.toArray Q i (fun a'' w'' => ∃ S' : World → Prop, (∀ x, S' x → S x) ∧ S' w'' ∧ wpG P md l.toArray Q fuel S' listed a'' w'') a w := by
  unfold wpOp
  simp only [ho, hw, Bool.false_eq_true, if_false]
  exact ⟨S, fun _ h => h, hS, h⟩
theorem wanted_step {ops : Array Oper} {o : Oper} {a : Act} {w : World} {K : Act → World → Prop} {Q : Exit → Act → World → Prop} {E : Prop} (hw : Region.wanted o (yielded ops a.tmps) = true) (h : Oper.wp Try.prog o a w K Q) : if Region.wanted o (yielded ops a.tmps) = true then Oper.wp Try.prog o a w K Q else E := by
  rw [if_pos hw]; exact h
theorem one_cells (w : World) (u : Value) (z : C2) : ∀ j q, (cdCells [u] [z])[j]? = some q → (w.alloc (.cells #[u, .string z.2] 27)).cell? ⟨w.heap.size, j, none⟩ = some q := fun j q hj => by
  rw [lit_cell]; simpa [cdCells] using hj
theorem row_cells {w : World} {b : Nat} {u : Value} {z : C2} (h : w.heap[b]? = some (.cells #[u, .string z.2] 27 (0, 0))) : ∀ j q, (cdCells [u] [z])[j]? = some q → w.cell? ⟨b, j, none⟩ = some q := fun j q hj => by
  rw [cell_of_row _ _ _ _ _ _ h]; simpa [cdCells] using hj
theorem combM_len (a b : C2) : (combM a b).1.1.length ≤ 6 := by
  unfold combM
  split
  · rename_i h; exact ((codeOk_iff _).1 h.2.2).1
  · show ([] : List K2).length ≤ 6; simp
set_option maxRecDepth 100000 in
set_option maxHeartbeats 20000000 in
theorem fnagreed_walk (a0 : Option Addr) (len0 cap0 : Nat) (z0 : List Int) (w : World) (w0 : IsRow .u8 w a0 len0 cap0 z0) :
    Calls Try.prog 4 #[.slice a0 len0 cap0] w fun e w' => e = .returned (.bool true) ∧ Below w.heap.size w w' := by
  by_cases hbig : len0 ≤ 1048576
  · have HC := Lib.hid (codeAt_of w0 hbig)
    clear w0
    go_enter Try.func4, Try.ntmps4
    go_wp2_with fail
    refine (big_any _ _ _ _ hbig).mono ?_
    rintro e w1 ⟨rfl, rfl⟩
    go_wp2_with fail
    refine (drawagreed_any w1.heap.size len0 cap0 a0 z0 w1 HC.out (Nat.le_refl _)).mono ?_
    rintro e w2 ⟨v, us, L, rfl, hl, hL⟩
    have HB2 := Lib.hid hL.below
    have HA2 := Lib.hid (cdAv_any hL.own.to)
    have HBD := Lib.hid hL.bd
    have hk2 : ∀ x ∈ L, x.1.length ≤ 2000000 := fun x hx => by have := (hL.bd x hx).1; omega
    have HK := Lib.hid hk2
    obtain ⟨av, cv, rfl, -, -⟩ := hL.own.to
    clear hL hk2 HC
    go_wp2_with fail
    refine (iagreed_any _ L w2 HA2.out (by omega) HK.out).mono ?_
    rintro e w3 ⟨rfl, hb3⟩
    rw [show agB (baseG ordW (rowsN L L.length)).2 = agD L from rfl]
    go_upto_region 5 with (fail)
    rename_i K5 hK5 K6 hK6
    have HK5 := Lib.hid hK5
    clear hK5
    go_wp2_with fail
    refine (sagreed_any _ L w3 (cdAv_below HA2.out hb3) (by omega) HK.out).mono ?_
    rintro e w4 ⟨rfl, hb4⟩
    rw [show agB (baseG ordW (rowsN L L.length)).2 = agD L from rfl]
    have HB4 := Lib.hid (hb3.trans (hb4.mono hb3.size))
    clear hb3 hb4
    generalize hok : agD L = ok at *
    have HOK := Lib.hid hok
    clear hok
    by_cases h1 : 1 < L.length
    · have i1 : (1 : Int) < (L.length : Int) := by omega
      have i0 : (0 : Int) < (L.length : Int) := by omega
      have i20 : (L.length : Int) < 20 := by omega
      have n0 : 0 < L.length := by omega
      obtain ⟨gl, off, cv', u0, hv, hgl, c0, c1, hk0⟩ := HA2.out.at 0 (by omega)
      obtain ⟨gl', off', cv'', u1, hv', -, d0, d1, hk1⟩ := HA2.out.at 1 h1
      cases hv
      cases hv'
      simp only [Nat.zero_mul, Nat.add_zero, Nat.one_mul] at c0 c1 d0 d1
      have HX0 := Lib.hid (HBD.out (L.getD 0 blankC) (by rw [List.getD, List.getElem?_eq_getElem (by omega : 0 < L.length)]; exact List.getElem_mem (by omega : 0 < L.length)))
      have HX1 := Lib.hid (HBD.out (L.getD 1 blankC) (by rw [List.getD, List.getElem?_eq_getElem h1]; exact List.getElem_mem h1))
      have HAG := Lib.hid (agD_against L (by omega) (by omega))
      have HCO := Lib.hid (agD_comb L (by omega) h1)
      rw [HOK.out] at HCO
      generalize L.getD 0 blankC = x at *
      generalize L.getD 1 blankC = y at *
      have HK0 := Lib.hid hk0.to
      have HK1 := Lib.hid hk1.to
      obtain ⟨au0, cu0, rfl, -, -⟩ := hk0
      obtain ⟨au1, cu1, rfl, -, -⟩ := hk1
      have C2 := Lib.hid (And.intro (And.intro c0 c1) (And.intro d0 d1))
      have e0 := (HB4.out.cell (p := ⟨gl, off, none⟩) hgl).trans c0
      have e1 := (HB4.out.cell (p := ⟨gl, off + 1, none⟩) hgl).trans c1
      have hg4 := Nat.lt_of_lt_of_le hgl HB4.out.size
      clear c0 c1 d0 d1
      have hbo : (ok != ok) = false := by cases ok <;> rfl
      go_wp2_with fail
      refine HK5.out _ _ ?_
      clear HK5
      apply wp_seq_k; intro K0 hK0
      go_cut [] (fun wx => Below w2.heap.size w2 wx)
      case first =>
        clear hK0
        go_wp2_with fail
        refine (scodeok_any _ x.1 x.2 w4 (keysAt_below HK0.out HB4.out) (by have := HX0.out.1; omega)).mono ?_
        rintro e w5 ⟨rfl, hb5⟩
        have HB5 := Lib.hid (HB4.out.trans (hb5.mono HB4.out.size))
        have e0' := (hb5.cell (p := ⟨gl, off, none⟩) hg4).trans e0
        have e1' := (hb5.cell (p := ⟨gl, off + 1, none⟩) hg4).trans e1
        have hg5 := Nat.lt_of_lt_of_le hgl HB5.out.size
        clear e0 e1 hg4 hb5 HB4
        cases hck : codeOkB (x.1, x.2) with
        | false =>
          clear hck
          go_wp2_with fail
          go_meet
          exact HB5.out
        | true =>
          by_cases hx0 : 0 < x.1.length
          · have j0 : (0 : Int) < (x.1.length : Int) := by omega
            have HF := Lib.hid (HAG.out hck hx0)
            clear hck HAG
            go_upto_region 8 with (fail)
            go_cut [5] (fun p wx => ∃ b5 : Nat, p = .pointer (some ⟨b5, 0, none⟩) ∧ wx.heap[b5]? = some (.cells #[.slice au0 x.1.length cu0, .string (xorS x.2 ⟨#[97, 98, 99, 100]⟩)] 27 (0, 0)) ∧ Below w2.heap.size w2 wx)
            case first =>
              go_region_law (first
                | (go_simp
                   go_at_call 20
                   refine (sxor_any x.2 ⟨#[97, 98, 99, 100]⟩ _ (by have := HX0.out.2; omega) (by show 4 ≤ 2000000; omega)).mono ?_
                   rintro e w6 ⟨rfl, hb6'⟩
                   dsimp only
                   first
                     | (have hb6 : Below w5.heap.size w5 w6 := (by first | exact hb6' | exact (Below.refl w5.heap.size w5).drew.trans hb6')
                        have HB6 := Lib.hid (HB5.out.trans (hb6.mono HB5.out.size))
                        have e0 := (hb6.cell (p := ⟨gl, off, none⟩) hg5).trans e0'
                        have e1 := (hb6.cell (p := ⟨gl, off + 1, none⟩) hg5).trans e1'
                        have hg6 := Nat.lt_of_lt_of_le hgl HB6.out.size
                        clear hb6 hb6')
                     | (have hbz := ((Below.refl w5.heap.size w5).alloc (Nat.le_refl _) (.cells #[.slice none 0 0, .string ⟨#[]⟩] 27)).drew
                        have hb6 : Below w5.heap.size w5 w6 := hbz.trans (hb6'.mono hbz.size)
                        have hx6 : w6.heap[w5.heap.size]? = some (.cells #[.slice none 0 0, .string ⟨#[]⟩] 27 (0, 0)) := (hb6'.block _ (by show w5.heap.size < (w5.alloc (.cells #[.slice none 0 0, .string ⟨#[]⟩] 27)).heap.size; simp)).trans (heap_alloc_new w5 (.cells #[.slice none 0 0, .string ⟨#[]⟩] 27))
                        have HX6 := Lib.hid hx6
                        have HB6 := Lib.hid (HB5.out.trans (hb6.mono HB5.out.size))
                        have e0 := (hb6.cell (p := ⟨gl, off, none⟩) hg5).trans e0'
                        have e1 := (hb6.cell (p := ⟨gl, off + 1, none⟩) hg5).trans e1'
                        have hg6 := Nat.lt_of_lt_of_le hgl HB6.out.size
                        obtain ⟨r0, r1, rf0, rf1⟩ := row2_of hx6
                        have hl6 := (Array.getElem?_eq_some_iff.1 hx6).1
                        clear hb6 hb6' hbz hx6)))
              all_goals
                go_wp2_with fail
                go_meet
                first
                  | exact ⟨w6.heap.size, rfl, heap_alloc_new w6 _, HB6.out.alloc HB6.out.size _⟩
                  | exact ⟨w5.heap.size, rfl, set2 _ _ HX6.out, HB6.out.grown (grown2 w6 w5.heap.size _ _) HB6.out.size (fun j e => by cases e; exact HB5.out.size)⟩
            case rest =>
              obtain ⟨b5, rfl, hx5, hbc⟩ := hcut
              have HX7 := Lib.hid hx5
              have HB7 := Lib.hid hbc
              clear hx5 hbc HB5 e0' e1' hg5
              generalize hld : xorS x.2 ⟨#[97, 98, 99, 100]⟩ = ld at *
              have HU7 := Lib.hid (keysAt_below HK0.out HB7.out)
              have HO8 := Lib.hid (own_lit (z := (x.1, ld)) HU7.out)
              have HA8 := Lib.hid (av_lit (cdAv_below HA2.out HB7.out) (.cells #[.slice au0 x.1.length cu0, .string ld] 27))
              have hb8 := (Below.refl wc.heap.size wc).alloc (Nat.le_refl _) (.cells #[.slice au0 x.1.length cu0, .string ld] 27)
              have HB8 := Lib.hid (HB7.out.trans (hb8.mono HB7.out.size))
              have HS8 := Lib.hid (show wc.heap.size ≤ (wc.alloc (.cells #[.slice au0 x.1.length cu0, .string ld] 27)).heap.size from by simp)
              obtain ⟨y0, y1, -, -⟩ := row2_of HX7.out
              have hl7 := (Array.getElem?_eq_some_iff.1 HX7.out).1
              clear hb8 hld
              go_wp2_with (at_builtin; refine wpList_append_cd rfl (.tmp 46) (.tmp 47) rfl HO8.out (.slice (some ⟨gl, off, none⟩) L.length cv) L HA8.out rfl rfl (by show 1 + L.length ≤ 2000000; omega) HS8.out ?_; intro v9 w9 us9 hown9 hlen9 hgr9 hv9)
              refine (iagreed_any _ ([(x.1, ld)] ++ L) w9 (cdAv_any hown9.to) (by show (L.length + 1) ≤ 1900000; omega) (fun q hq => by
                rcases List.mem_cons.1 hq with rfl | hq
                · show x.1.length ≤ 2000000; have := HX0.out.1; omega
                · exact HK.out q hq)).mono ?_
              rintro e w10 ⟨rfl, hb10⟩
              rw [show agB (baseG ordW (rowsN ([(x.1, ld)] ++ L) ([(x.1, ld)] ++ L).length)).2 = agD ((x.1, ld) :: L) from rfl, HF.out]
              have hb9 := HB8.out.grown hgr9 HB8.out.size (fun b e => by cases e; exact HB7.out.size)
              have HB10 := Lib.hid (hb9.trans (hb10.mono hb9.size))
              clear hown9 hlen9 hgr9 hv9 hb9 hb10
              go_wp2_with fail
              go_meet
              exact HB10.out
          · have j0 : ¬ (0 : Int) < (x.1.length : Int) := by omega
            clear hck
            go_wp2_with fail
            go_meet
            exact HB5.out
      case rest =>
        clear e0 e1 hg4 HAG
        refine hK0 _ _ ?_
        clear hK0
        apply wp_seq_k; intro K1 hK1
        have HCUT := Lib.hid hcut
        have f0 := (hcut.cell (p := ⟨gl, off, none⟩) hgl).trans C2.out.1.1
        have f1 := (hcut.cell (p := ⟨gl, off + 1, none⟩) hgl).trans C2.out.1.2
        have f2 := (hcut.cell (p := ⟨gl, off + 2, none⟩) hgl).trans C2.out.2.1
        have f3 := (hcut.cell (p := ⟨gl, off + 2 + 1, none⟩) hgl).trans C2.out.2.2
        have hgc := Nat.lt_of_lt_of_le hgl hcut.size
        clear hcut
        go_cut [] (fun wx => Below w2.heap.size w2 wx)
        case first =>
          clear hK1
          go_upto_region 12 with (fail)
          go_cut [6, 7] (fun p q wx => ∃ (b6 : Nat) (a : Option Addr) (n c : Nat), p = .pointer (some ⟨b6, 0, none⟩) ∧ q = .bool (combM x y).2 ∧ wx.heap[b6]? = some (.cells #[.slice a n c, .string (combM x y).1.2] 27 (0, 0)) ∧ keysAt wx (.slice a n c) (combM x y).1.1 ∧ Below w2.heap.size w2 wx)
          case first =>
            go_region_law (first
              | (go_simp
                 go_at_call 21
                 refine (scombine_any (.slice au0 x.1.length cu0) x.1 x.2 (.slice au1 y.1.length cu1) y.1 y.2 _ (keysAt_below HK0.out (by first | exact HCUT.out | exact HCUT.out.drew | exact (HCUT.out.alloc HCUT.out.size _).drew | exact HCUT.out.alloc HCUT.out.size _)) (keysAt_below HK1.out (by first | exact HCUT.out | exact HCUT.out.drew | exact (HCUT.out.alloc HCUT.out.size _).drew | exact HCUT.out.alloc HCUT.out.size _)) (by have := HX0.out.1; omega) (by have := HX1.out.1; omega) (by have := HX0.out.2; omega) (by have := HX1.out.2; omega)).mono ?_
                 rintro e w6 ⟨v6, rfl, ho6, hb6'⟩
                 dsimp only
                 obtain ⟨a6, n6, k6, rfl⟩ := own_shape ho6
                 first
                   | (have hb6 : Below wc.heap.size wc w6 := (by first | exact hb6' | exact (Below.refl wc.heap.size wc).drew.trans hb6')
                      have HB6 := Lib.hid (HCUT.out.trans (hb6.mono HCUT.out.size))
                      have HU6 := Lib.hid (keysAt_own ho6)
                      clear hb6 hb6' ho6)
                   | (have hbz := ((Below.refl wc.heap.size wc).alloc (Nat.le_refl _) (.cells #[.slice none 0 0, .string ⟨#[]⟩] 27)).drew
                      have hb6 : Below wc.heap.size wc w6 := hbz.trans (hb6'.mono hbz.size)
                      have hx6 : w6.heap[wc.heap.size]? = some (.cells #[.slice none 0 0, .string ⟨#[]⟩] 27 (0, 0)) := (hb6'.block _ (by show wc.heap.size < (wc.alloc (.cells #[.slice none 0 0, .string ⟨#[]⟩] 27)).heap.size; simp)).trans (heap_alloc_new wc (.cells #[.slice none 0 0, .string ⟨#[]⟩] 27))
                      have HX6 := Lib.hid hx6
                      have HB6 := Lib.hid (HCUT.out.trans (hb6.mono HCUT.out.size))
                      have HNE := Lib.hid (show (Value.slice a6 n6 k6).ownBlock ≠ some wc.heap.size from fun e => by have h9 : (wc.alloc (.cells #[.slice none 0 0, .string ⟨#[]⟩] 27)).heap.size ≤ wc.heap.size := (ho6.lt _ e).1; simp at h9; omega)
                      have HO6 := Lib.hid ho6
                      obtain ⟨r0, r1, rf0, rf1⟩ := row2_of hx6
                      have hl6 := (Array.getElem?_eq_some_iff.1 hx6).1
                      clear hb6 hb6' hbz hx6 ho6)))
            all_goals
              go_wp2_with fail
              go_meet
              first
                | exact ⟨_, a6, n6, k6, rfl, rfl, heap_alloc_new w6 _, keysAt_below HU6.out ((Below.refl _ _).alloc (Nat.le_refl _) _), HB6.out.alloc HB6.out.size _⟩
                | exact ⟨wc.heap.size, a6, n6, k6, rfl, rfl, set2 _ _ HX6.out, keysAt_own (HO6.out.kept (grown2 w6 wc.heap.size _ _) (.inr HNE.out)), HB6.out.grown (grown2 w6 wc.heap.size _ _) HB6.out.size (fun j e => by cases e; exact HCUT.out.size)⟩
          case rest =>
            obtain ⟨b6, a6, n6, k6, rfl, rfl, hx6, hu6, hbc⟩ := hcut
            have HX6 := Lib.hid hx6
            have HU6 := Lib.hid hu6
            have HB6 := Lib.hid hbc
            have hzl := combM_len x y
            clear hx6 hu6 hbc
            cases hg : (combM x y).2 with
            | false =>
              clear HCO
              go_upto_region 13 with (fail)
              have LX : ∀ w' : World, w'.heap[b6]? = some (.cells #[.slice a6 n6 k6, .string (combM x y).1.2] 27) → (loadVar 27 ⟨b6, 0, none⟩).run Try.prog w' = .ok (.agg #[.slice a6 n6 k6, .string (combM x y).1.2]) w' := fun w' h => cd_load h (Below.refl _ _)
              refine wp_region_G (fun w' => w'.heap[b6]? = some (.cells #[.slice a6 n6 k6, .string (combM x y).1.2] 27 (0, 0))) (by kernel_rfl) ?_
              have HX := Lib.hid (show (World.drew wc).heap[b6]? = some (.cells #[.slice a6 n6 k6, .string (combM x y).1.2] 27 (0, 0)) from HX6.out)
              have HB := Lib.hid (show Below w2.heap.size w2 (World.drew wc) from HB6.out.drew)
              generalize World.drew wc = wD at *
              clear HX6 HB6 HU6
              refine wpG_seg [true, true, true] [3] 13 (by kernel_rfl) (by intro c a d v w h; cases d <;> exact h) (by kernel_rfl) HX.out ?_
              try simp only [maskRows]
              repeat (first
                | go_big_quiet_skip
                | (go_big_quiet_want
                   first
                     | (go_big_quiet_op; go_big_quiet_on)
                     | (refine q_load 27 _ _ _ rfl rfl LX ?_; simp only [Act.put, List.setIfInBounds_toArray, List.set_cons_zero, List.set_cons_succ]; go_big_quiet_on)
                     | (go_big_quiet_op; refine ⟨_, fun _ _ => rfl, ?_⟩; go_big_quiet_on)
                     | (go_big_quiet_op; refine ⟨_, fun _ _ _ => rfl, ?_⟩; go_big_quiet_on)))
              refine wpQuiet_nil ?_
              refine List.forall_mem_singleton.2 ?_
              refine segt_skip (by simp only [List.getElem?_toArray, List.getElem?_cons_succ, List.getElem?_cons_zero]; rfl) (by rfl) HX.out ?_
              try simp only [Act.put, List.setIfInBounds_toArray, List.set_cons_zero, List.set_cons_succ]
              refine wpG_seg [false, false, false, false, true, true, true, false, true, false, true, false, false, false, true] [7, 11] 6 (by kernel_rfl) (by intro c a d v w h; cases d <;> exact h) (by kernel_rfl) HX.out ?_
              try simp only [maskRows]
              repeat (first
                | go_big_quiet_skip
                | (go_big_quiet_want
                   first
                     | (go_big_quiet_op; go_big_quiet_on)
                     | (refine q_load 27 _ _ _ rfl rfl LX ?_; simp only [Act.put, List.setIfInBounds_toArray, List.set_cons_zero, List.set_cons_succ]; go_big_quiet_on)
                     | (go_big_quiet_op; refine ⟨_, fun _ _ => rfl, ?_⟩; go_big_quiet_on)
                     | (go_big_quiet_op; refine ⟨_, fun _ _ _ => rfl, ?_⟩; go_big_quiet_on)))
              refine wpQuiet_nil ?_
              refine List.forall_mem_cons.2 ⟨?_, List.forall_mem_singleton.2 ?_⟩
              · refine segt_skip (by simp only [List.getElem?_toArray, List.getElem?_cons_succ, List.getElem?_cons_zero]; rfl) (by rfl) HX.out ?_
                try simp only [Act.put, List.setIfInBounds_toArray, List.set_cons_zero, List.set_cons_succ]
                refine wpG_seg [] [9, 11] 5 (by kernel_rfl) (by intro c a d v w h; cases d <;> exact h) (by kernel_rfl) HX.out ?_
                try simp only [maskRows]
                refine wpQuiet_nil ?_
                refine List.forall_mem_cons.2 ⟨?_, List.forall_mem_singleton.2 ?_⟩
                · refine segt_skip (by simp only [List.getElem?_toArray, List.getElem?_cons_succ, List.getElem?_cons_zero]; rfl) (by rfl) HX.out ?_
                  try simp only [Act.put, List.setIfInBounds_toArray, List.set_cons_zero, List.set_cons_succ]
                  refine wpG_seg [] [11] 4 (by kernel_rfl) (by intro c a d v w h; cases d <;> exact h) (by kernel_rfl) HX.out ?_
                  try simp only [maskRows]
                  refine wpQuiet_nil ?_
                  refine List.forall_mem_singleton.2 ?_
                  refine segt_skip (by simp only [List.getElem?_toArray, List.getElem?_cons_succ, List.getElem?_cons_zero]; rfl) (by rfl) HX.out ?_
                  try simp only [Act.put, List.setIfInBounds_toArray, List.set_cons_zero, List.set_cons_succ]
                  refine wpG_seg [] [12] 3 (by kernel_rfl) (by intro c a d v w h; cases d <;> exact h) (by kernel_rfl) HX.out ?_
                  try simp only [maskRows]
                  refine wpQuiet_nil ?_
                  refine List.forall_mem_singleton.2 ?_
                  refine segt_skip (by simp only [List.getElem?_toArray, List.getElem?_cons_succ, List.getElem?_cons_zero]; rfl) (by rfl) HX.out ?_
                  try simp only [Act.put, List.setIfInBounds_toArray, List.set_cons_zero, List.set_cons_succ]
                  refine wpG_seg [] [13] 2 (by kernel_rfl) (by intro c a d v w h; cases d <;> exact h) (by kernel_rfl) HX.out ?_
                  try simp only [maskRows]
                  refine wpQuiet_nil ?_
                  refine List.forall_mem_singleton.2 ?_
                  refine segt_skip (by simp only [List.getElem?_toArray, List.getElem?_cons_succ, List.getElem?_cons_zero]; rfl) (by rfl) HX.out ?_
                  try simp only [Act.put, List.setIfInBounds_toArray, List.set_cons_zero, List.set_cons_succ]
                  refine wpG_end [false, false, false, false, false, false, false, false, false, false, false, false, false, false, false, true, true] (by kernel_rfl) (by intro c a d v w h; cases d <;> exact h) (by kernel_rfl) HX.out ?_
                  try simp only [maskRows]
                  repeat (first
                    | go_big_quiet_skip
                    | (go_big_quiet_want
                       first
                         | (go_big_quiet_op; go_big_quiet_on)
                         | (refine q_load 27 _ _ _ rfl rfl LX ?_; simp only [Act.put, List.setIfInBounds_toArray, List.set_cons_zero, List.set_cons_succ]; go_big_quiet_on)
                         | (go_big_quiet_op; refine ⟨_, fun _ _ => rfl, ?_⟩; go_big_quiet_on)
                         | (go_big_quiet_op; refine ⟨_, fun _ _ _ => rfl, ?_⟩; go_big_quiet_on)))
                  refine wpQuiet_nil ?_
                  go_wp2_with fail
                  go_meet
                  exact HB.out
                · refine segt_skip (by simp only [List.getElem?_toArray, List.getElem?_cons_succ, List.getElem?_cons_zero]; rfl) (by rfl) HX.out ?_
                  try simp only [Act.put, List.setIfInBounds_toArray, List.set_cons_zero, List.set_cons_succ]
                  refine wpG_seg [] [9] 4 (by kernel_rfl) (by intro c a d v w h; cases d <;> exact h) (by kernel_rfl) HX.out ?_
                  try simp only [maskRows]
                  refine wpQuiet_nil ?_
                  refine List.forall_mem_singleton.2 ?_
                  refine segt_skip (by simp only [List.getElem?_toArray, List.getElem?_cons_succ, List.getElem?_cons_zero]; rfl) (by rfl) HX.out ?_
                  try simp only [Act.put, List.setIfInBounds_toArray, List.set_cons_zero, List.set_cons_succ]
                  refine wpG_seg [] [12] 3 (by kernel_rfl) (by intro c a d v w h; cases d <;> exact h) (by kernel_rfl) HX.out ?_
                  try simp only [maskRows]
                  refine wpQuiet_nil ?_
                  refine List.forall_mem_singleton.2 ?_
                  refine segt_skip (by simp only [List.getElem?_toArray, List.getElem?_cons_succ, List.getElem?_cons_zero]; rfl) (by rfl) HX.out ?_
                  try simp only [Act.put, List.setIfInBounds_toArray, List.set_cons_zero, List.set_cons_succ]
                  refine wpG_seg [] [13] 2 (by kernel_rfl) (by intro c a d v w h; cases d <;> exact h) (by kernel_rfl) HX.out ?_
                  try simp only [maskRows]
                  refine wpQuiet_nil ?_
                  refine List.forall_mem_singleton.2 ?_
                  refine segt_skip (by simp only [List.getElem?_toArray, List.getElem?_cons_succ, List.getElem?_cons_zero]; rfl) (by rfl) HX.out ?_
                  try simp only [Act.put, List.setIfInBounds_toArray, List.set_cons_zero, List.set_cons_succ]
                  refine wpG_end [false, false, false, false, false, false, false, false, false, false, false, false, false, false, false, true, true] (by kernel_rfl) (by intro c a d v w h; cases d <;> exact h) (by kernel_rfl) HX.out ?_
                  try simp only [maskRows]
                  repeat (first
                    | go_big_quiet_skip
                    | (go_big_quiet_want
                       first
                         | (go_big_quiet_op; go_big_quiet_on)
                         | (refine q_load 27 _ _ _ rfl rfl LX ?_; simp only [Act.put, List.setIfInBounds_toArray, List.set_cons_zero, List.set_cons_succ]; go_big_quiet_on)
                         | (go_big_quiet_op; refine ⟨_, fun _ _ => rfl, ?_⟩; go_big_quiet_on)
                         | (go_big_quiet_op; refine ⟨_, fun _ _ _ => rfl, ?_⟩; go_big_quiet_on)))
                  refine wpQuiet_nil ?_
                  go_wp2_with fail
                  go_meet
                  exact HB.out
              · refine segt_skip (by simp only [List.getElem?_toArray, List.getElem?_cons_succ, List.getElem?_cons_zero]; rfl) (by rfl) HX.out ?_
                try simp only [Act.put, List.setIfInBounds_toArray, List.set_cons_zero, List.set_cons_succ]
                refine wpG_seg [] [7] 5 (by kernel_rfl) (by intro c a d v w h; cases d <;> exact h) (by kernel_rfl) HX.out ?_
                try simp only [maskRows]
                refine wpQuiet_nil ?_
                refine List.forall_mem_singleton.2 ?_
                refine segt_skip (by simp only [List.getElem?_toArray, List.getElem?_cons_succ, List.getElem?_cons_zero]; rfl) (by rfl) HX.out ?_
                try simp only [Act.put, List.setIfInBounds_toArray, List.set_cons_zero, List.set_cons_succ]
                refine wpG_seg [] [9] 4 (by kernel_rfl) (by intro c a d v w h; cases d <;> exact h) (by kernel_rfl) HX.out ?_
                try simp only [maskRows]
                refine wpQuiet_nil ?_
                refine List.forall_mem_singleton.2 ?_
                refine segt_skip (by simp only [List.getElem?_toArray, List.getElem?_cons_succ, List.getElem?_cons_zero]; rfl) (by rfl) HX.out ?_
                try simp only [Act.put, List.setIfInBounds_toArray, List.set_cons_zero, List.set_cons_succ]
                refine wpG_seg [] [12] 3 (by kernel_rfl) (by intro c a d v w h; cases d <;> exact h) (by kernel_rfl) HX.out ?_
                try simp only [maskRows]
                refine wpQuiet_nil ?_
                refine List.forall_mem_singleton.2 ?_
                refine segt_skip (by simp only [List.getElem?_toArray, List.getElem?_cons_succ, List.getElem?_cons_zero]; rfl) (by rfl) HX.out ?_
                try simp only [Act.put, List.setIfInBounds_toArray, List.set_cons_zero, List.set_cons_succ]
                refine wpG_seg [] [13] 2 (by kernel_rfl) (by intro c a d v w h; cases d <;> exact h) (by kernel_rfl) HX.out ?_
                try simp only [maskRows]
                refine wpQuiet_nil ?_
                refine List.forall_mem_singleton.2 ?_
                refine segt_skip (by simp only [List.getElem?_toArray, List.getElem?_cons_succ, List.getElem?_cons_zero]; rfl) (by rfl) HX.out ?_
                try simp only [Act.put, List.setIfInBounds_toArray, List.set_cons_zero, List.set_cons_succ]
                refine wpG_end [false, false, false, false, false, false, false, false, false, false, false, false, false, false, false, true, true] (by kernel_rfl) (by intro c a d v w h; cases d <;> exact h) (by kernel_rfl) HX.out ?_
                try simp only [maskRows]
                repeat (first
                  | go_big_quiet_skip
                  | (go_big_quiet_want
                     first
                       | (go_big_quiet_op; go_big_quiet_on)
                       | (refine q_load 27 _ _ _ rfl rfl LX ?_; simp only [Act.put, List.setIfInBounds_toArray, List.set_cons_zero, List.set_cons_succ]; go_big_quiet_on)
                       | (go_big_quiet_op; refine ⟨_, fun _ _ => rfl, ?_⟩; go_big_quiet_on)
                       | (go_big_quiet_op; refine ⟨_, fun _ _ _ => rfl, ?_⟩; go_big_quiet_on)))
                refine wpQuiet_nil ?_
                go_wp2_with fail
                go_meet
                exact HB.out
            | true =>
              have HCM := Lib.hid (HCO.out hg)
              clear HCO hg
              generalize (combM x y).1 = z at *
              go_upto_region 13 with (fail)
              have LX : ∀ w' : World, w'.heap[b6]? = some (.cells #[.slice a6 n6 k6, .string z.2] 27) → (loadVar 27 ⟨b6, 0, none⟩).run Try.prog w' = .ok (.agg #[.slice a6 n6 k6, .string z.2]) w' := fun w' h => cd_load h (Below.refl _ _)
              refine wp_region_G (fun w' => w'.heap[b6]? = some (.cells #[.slice a6 n6 k6, .string z.2] 27 (0, 0))) (by kernel_rfl) ?_
              have HX := Lib.hid (show (World.drew wc).heap[b6]? = some (.cells #[.slice a6 n6 k6, .string z.2] 27 (0, 0)) from HX6.out)
              have HB := Lib.hid (show Below w2.heap.size w2 (World.drew wc) from HB6.out.drew)
              have HV := Lib.hid (show keysAt (World.drew wc) (.slice a6 n6 k6) z.1 from keysAt_below HU6.out (Below.refl _ _).drew)
              generalize World.drew wc = wD at *
              clear HX6 HB6 HU6
              have HVD := HV
              have HXD := HX
              have HBD0 := HB
              have HDD := Lib.hid (Below.refl wD.heap.size wD)
              refine wpG_seg [true, true, true] [3] 13 (by kernel_rfl) (by intro c a d v w h; cases d <;> exact h) (by kernel_rfl) HX.out ?_
              try simp only [maskRows]
              repeat (first
                | go_big_quiet_skip
                | (go_big_quiet_want
                   first
                     | (go_big_quiet_op; go_big_quiet_on)
                     | (refine q_load 27 _ _ _ rfl rfl LX ?_; simp only [Act.put, List.setIfInBounds_toArray, List.set_cons_zero, List.set_cons_succ]; go_big_quiet_on)
                     | (go_big_quiet_op; refine ⟨_, fun _ _ => rfl, ?_⟩; go_big_quiet_on)
                     | (go_big_quiet_op; refine ⟨_, fun _ _ _ => rfl, ?_⟩; go_big_quiet_on)))
              refine wpQuiet_nil ?_
              refine List.forall_mem_singleton.2 ?_
              refine segt_run rfl (by rfl) (fun K hK => ?_)
              go_simp
              refine hK _ _ ⟨_, fun _ h => h, HX.out, ?_⟩
              clear hK K
              try simp only [Act.put, List.setIfInBounds_toArray, List.set_cons_zero, List.set_cons_succ]
              refine wpG_seg [false, false, false, false, true, true, true, false, true, false, true, false, false, false, true] [7, 11] 6 (by kernel_rfl) (by intro c a d v w h; cases d <;> exact h) (by kernel_rfl) HX.out ?_
              try simp only [maskRows]
              repeat (first
                | go_big_quiet_skip
                | (go_big_quiet_want
                   first
                     | (go_big_quiet_op; go_big_quiet_on)
                     | (refine q_load 27 _ _ _ rfl rfl LX ?_; simp only [Act.put, List.setIfInBounds_toArray, List.set_cons_zero, List.set_cons_succ]; go_big_quiet_on)
                     | (go_big_quiet_op; refine ⟨_, fun _ _ => rfl, ?_⟩; go_big_quiet_on)
                     | (go_big_quiet_op; refine ⟨_, fun _ _ _ => rfl, ?_⟩; go_big_quiet_on)))
              refine wpQuiet_nil ?_
              refine List.forall_mem_cons.2 ⟨?_, List.forall_mem_singleton.2 ?_⟩
              · refine segt_run rfl (by rfl) (fun K hK => ?_)
                go_simp
                have ho := own_lit0 wD
                have ha := av_lit (cdAv_below HA2.out HB.out) (.cells #[] 27)
                have hbl := (Below.refl wD.heap.size wD).alloc (Nat.le_refl _) (.cells #[] 27)
                have hlt0 : wD.heap.size < (wD.alloc (.cells #[] 27)).heap.size := by simp
                have HLT := Lib.hid hlt0
                clear hlt0
                have HO := Lib.hid ho
                have HA := Lib.hid ha
                have HGP := Lib.hid (show wD.heap.size ≤ wD.heap.size from HDD.out.size)
                replace HDD := Lib.hid (HDD.out.trans (hbl.mono HDD.out.size))
                replace HX := Lib.hid ((hbl.block _ (Array.getElem?_eq_some_iff.1 HX.out).1).trans HX.out)
                replace HB := Lib.hid (HB.out.trans (hbl.mono HB.out.size))
                replace HV := Lib.hid (keysAt_below HV.out hbl)
                clear ho ha hbl
                generalize wD.alloc (.cells #[] 27) = w31 at *
                generalize hB0 : wD.heap.size = b0 at HO HA HLT  ⊢
                have HGE := Lib.hid (show wD.heap.size ≤ b0 from by rw [← hB0]; exact HGP.out)
                clear hB0 HGP
                refine hK _ _ ⟨_, fun _ h => h, HX.out, ?_⟩
                clear hK K
                try simp only [Act.put, List.setIfInBounds_toArray, List.set_cons_zero, List.set_cons_succ]
                refine wpG_seg [] [9, 11] 5 (by kernel_rfl) (by intro c a d v w h; cases d <;> exact h) (by kernel_rfl) HX.out ?_
                try simp only [maskRows]
                refine wpQuiet_nil ?_
                refine List.forall_mem_cons.2 ⟨?_, List.forall_mem_singleton.2 ?_⟩
                · refine segt_run rfl (by rfl) (fun K hK => ?_)
                  refine wp_append_cd (.tmp 70) (.tmp 71) rfl HO.out (.slice (some ⟨gl, off, none⟩) L.length cv) L HA.out rfl rfl (by show 0 + L.length ≤ 2000000; omega) (Nat.le_of_lt HLT.out) ?_
                  intro v9 w32 us9 hown9 hlen9 hgr9 hv9
                  have hgd : Below wD.heap.size wD w32 := HDD.out.grown hgr9 HDD.out.size (fun b e => by cases e; exact HGE.out)
                  have HW := Lib.hid ((keysAv_of (b := v9.ownBlock) HVD.out (fun j hj e => by have h9 := (hown9.own.lt j e.symm).1; have h8 := HGE.out; omega)).below hgd)
                  replace HV := Lib.hid (keysAt_below HVD.out hgd)
                  replace HDD := Lib.hid hgd
                  replace HB := Lib.hid (HBD0.out.trans (hgd.mono HBD0.out.size))
                  replace HX := Lib.hid ((hgd.block _ (Array.getElem?_eq_some_iff.1 HXD.out).1).trans HXD.out)
                  replace HO := Lib.hid hown9
                  replace HLT := Lib.hid (Nat.lt_of_lt_of_le HLT.out hgr9.size)
                  clear hgd hown9 hlen9 hgr9 hv9 HA
                  refine hK _ _ ⟨_, fun _ h => h, HX.out, ?_⟩
                  clear hK K
                  try simp only [Act.put, List.setIfInBounds_toArray, List.set_cons_zero, List.set_cons_succ]
                  refine wpG_seg [] [11] 4 (by kernel_rfl) (by intro c a d v w h; cases d <;> exact h) (by kernel_rfl) HX.out ?_
                  try simp only [maskRows]
                  refine wpQuiet_nil ?_
                  refine List.forall_mem_singleton.2 ?_
                  refine segt_run rfl (by rfl) (fun K hK => ?_)
                  go_simp
                  have hbl := (Below.refl w32.heap.size w32).alloc (Nat.le_refl _) (.cells #[.slice a6 n6 k6, .string z.2] 27)
                  replace HO := Lib.hid (HO.out.below hbl)
                  replace HW := Lib.hid (HW.out.below hbl)
                  replace HLT := Lib.hid (Nat.lt_of_lt_of_le HLT.out hbl.size)
                  have HY := Lib.hid (heap_alloc_new w32 (.cells #[.slice a6 n6 k6, .string z.2] 27))
                  replace HDD := Lib.hid (HDD.out.trans (hbl.mono HDD.out.size))
                  replace HX := Lib.hid ((hbl.block _ (Array.getElem?_eq_some_iff.1 HX.out).1).trans HX.out)
                  replace HB := Lib.hid (HB.out.trans (hbl.mono HB.out.size))
                  replace HV := Lib.hid (keysAt_below HV.out hbl)
                  clear hbl
                  generalize w32.alloc (.cells #[.slice a6 n6 k6, .string z.2] 27) = w33 at *
                  generalize hB2 : w32.heap.size = b2 at HY  ⊢
                  clear hB2
                  refine hK _ _ ⟨_, fun _ h => h, HX.out, ?_⟩
                  clear hK K
                  try simp only [Act.put, List.setIfInBounds_toArray, List.set_cons_zero, List.set_cons_succ]
                  refine wpG_seg [] [12] 3 (by kernel_rfl) (by intro c a d v w h; cases d <;> exact h) (by kernel_rfl) HX.out ?_
                  try simp only [maskRows]
                  refine wpQuiet_nil ?_
                  refine List.forall_mem_singleton.2 ?_
                  refine segt_run rfl (by rfl) (fun K hK => ?_)
                  refine wp_append_cdN (.tmp 72) (.tmp 74) rfl HO.out b2 [.slice a6 n6 k6] [z] rfl (row_cells HY.out) (fun q hq => by rcases List.mem_singleton.1 hq with rfl; exact ⟨_, _, _, rfl⟩) (fun i hi => by (have h00 : i = 0 := by simpa using hi); subst h00; exact HW.out) rfl rfl (by rw [List.nil_append]; show L.length + 1 ≤ 1000000; omega) (Nat.succ_pos _) (Nat.le_of_lt HLT.out) ?_
                  intro v12 w34 hown12 hgr12 hv12
                  have hgd : Below wD.heap.size wD w34 := HDD.out.grown hgr12 HDD.out.size (fun b e => Nat.le_trans HGE.out (HO.out.own.lt b e).1)
                  replace HDD := Lib.hid hgd
                  replace HB := Lib.hid (HBD0.out.trans (hgd.mono HBD0.out.size))
                  replace HX := Lib.hid ((hgd.block _ (Array.getElem?_eq_some_iff.1 HXD.out).1).trans HXD.out)
                  have HL12 := Lib.hid (show cdAv w34 none v12 (L ++ [z]) from cdAv_any hown12.to)
                  clear hgd hown12 hgr12 hv12 HO HW HY HV
                  refine hK _ _ ⟨_, fun _ h => h, HX.out, ?_⟩
                  clear hK K
                  try simp only [Act.put, List.setIfInBounds_toArray, List.set_cons_zero, List.set_cons_succ]
                  refine wpG_seg [] [13] 2 (by kernel_rfl) (by intro c a d v w h; cases d <;> exact h) (by kernel_rfl) HX.out ?_
                  try simp only [maskRows]
                  refine wpQuiet_nil ?_
                  refine List.forall_mem_singleton.2 ?_
                  refine segt_run rfl (by rfl) (fun K hK => ?_)
                  go_simp
                  refine (iagreed_any v12 (L ++ [z]) w34 (by first | exact HL12.out) (by rw [List.length_append]; show L.length + 1 ≤ 1900000; omega) (fun q hq => by
                    rcases List.mem_append.1 hq with hq | hq
                    · exact HK.out q hq
                    · rcases List.mem_singleton.1 hq with rfl
                      omega)).mono ?_
                  rintro e w35 ⟨rfl, hb13⟩
                  dsimp only
                  rw [show agB (baseG ordW (rowsN (L ++ [z]) (L ++ [z]).length)).2 = agD (L ++ [z]) from rfl, HCM.out]
                  replace HX := Lib.hid ((hb13.block _ (Array.getElem?_eq_some_iff.1 HX.out).1).trans HX.out)
                  replace HB := Lib.hid (HB.out.trans (hb13.mono HB.out.size))
                  clear hb13 HL12
                  refine hK _ _ ⟨_, fun _ h => h, HX.out, ?_⟩
                  clear hK K
                  try simp only [Act.put, List.setIfInBounds_toArray, List.set_cons_zero, List.set_cons_succ]
                  refine wpG_end [false, false, false, false, false, false, false, false, false, false, false, false, false, false, false, true, true] (by kernel_rfl) (by intro c a d v w h; cases d <;> exact h) (by kernel_rfl) HX.out ?_
                  try simp only [maskRows]
                  repeat (first
                    | go_big_quiet_skip
                    | (go_big_quiet_want
                       first
                         | (go_big_quiet_op; go_big_quiet_on)
                         | (refine q_load 27 _ _ _ rfl rfl LX ?_; simp only [Act.put, List.setIfInBounds_toArray, List.set_cons_zero, List.set_cons_succ]; go_big_quiet_on)
                         | (go_big_quiet_op; refine ⟨_, fun _ _ => rfl, ?_⟩; go_big_quiet_on)
                         | (go_big_quiet_op; refine ⟨_, fun _ _ _ => rfl, ?_⟩; go_big_quiet_on)))
                  refine wpQuiet_nil ?_
                  go_wp2_with fail
                  go_meet
                  exact HB.out
                · refine segt_run rfl (by rfl) (fun K hK => ?_)
                  go_simp
                  have hbl := (Below.refl w31.heap.size w31).alloc (Nat.le_refl _) (.cells #[.slice a6 n6 k6, .string z.2] 27)
                  have HNE := Lib.hid (Nat.ne_of_gt HLT.out)
                  replace HO := Lib.hid (HO.out.below hbl)
                  replace HA := Lib.hid (cdAv_below HA.out hbl)
                  replace HLT := Lib.hid (Nat.lt_of_lt_of_le HLT.out hbl.size)
                  have HY := Lib.hid (heap_alloc_new w31 (.cells #[.slice a6 n6 k6, .string z.2] 27))
                  replace HDD := Lib.hid (HDD.out.trans (hbl.mono HDD.out.size))
                  replace HX := Lib.hid ((hbl.block _ (Array.getElem?_eq_some_iff.1 HX.out).1).trans HX.out)
                  replace HB := Lib.hid (HB.out.trans (hbl.mono HB.out.size))
                  replace HV := Lib.hid (keysAt_below HV.out hbl)
                  clear hbl
                  generalize w31.alloc (.cells #[.slice a6 n6 k6, .string z.2] 27) = w32 at *
                  generalize hB2 : w31.heap.size = b2 at HY HNE ⊢
                  clear hB2
                  refine hK _ _ ⟨_, fun _ h => h, HX.out, ?_⟩
                  clear hK K
                  try simp only [Act.put, List.setIfInBounds_toArray, List.set_cons_zero, List.set_cons_succ]
                  refine wpG_seg [] [9] 4 (by kernel_rfl) (by intro c a d v w h; cases d <;> exact h) (by kernel_rfl) HX.out ?_
                  try simp only [maskRows]
                  refine wpQuiet_nil ?_
                  refine List.forall_mem_singleton.2 ?_
                  refine segt_run rfl (by rfl) (fun K hK => ?_)
                  refine wp_append_cd (.tmp 70) (.tmp 71) rfl HO.out (.slice (some ⟨gl, off, none⟩) L.length cv) L HA.out rfl rfl (by show 0 + L.length ≤ 2000000; omega) (Nat.le_of_lt HLT.out) ?_
                  intro v9 w33 us9 hown9 hlen9 hgr9 hv9
                  have hgd : Below wD.heap.size wD w33 := HDD.out.grown hgr9 HDD.out.size (fun b e => by cases e; exact HGE.out)
                  have HW := Lib.hid ((keysAv_of (b := v9.ownBlock) HVD.out (fun j hj e => by have h9 := (hown9.own.lt j e.symm).1; have h8 := HGE.out; omega)).below hgd)
                  replace HV := Lib.hid (keysAt_below HVD.out hgd)
                  replace HDD := Lib.hid hgd
                  replace HB := Lib.hid (HBD0.out.trans (hgd.mono HBD0.out.size))
                  replace HX := Lib.hid ((hgd.block _ (Array.getElem?_eq_some_iff.1 HXD.out).1).trans HXD.out)
                  replace HY := Lib.hid ((hgr9.block _ (Array.getElem?_eq_some_iff.1 HY.out).1 (fun e => HNE.out (Option.some.inj e))).trans HY.out)
                  replace HO := Lib.hid hown9
                  replace HLT := Lib.hid (Nat.lt_of_lt_of_le HLT.out hgr9.size)
                  clear hgd hown9 hlen9 hgr9 hv9 HA
                  refine hK _ _ ⟨_, fun _ h => h, HX.out, ?_⟩
                  clear hK K
                  try simp only [Act.put, List.setIfInBounds_toArray, List.set_cons_zero, List.set_cons_succ]
                  refine wpG_seg [] [12] 3 (by kernel_rfl) (by intro c a d v w h; cases d <;> exact h) (by kernel_rfl) HX.out ?_
                  try simp only [maskRows]
                  refine wpQuiet_nil ?_
                  refine List.forall_mem_singleton.2 ?_
                  refine segt_run rfl (by rfl) (fun K hK => ?_)
                  refine wp_append_cdN (.tmp 72) (.tmp 74) rfl HO.out b2 [.slice a6 n6 k6] [z] rfl (row_cells HY.out) (fun q hq => by rcases List.mem_singleton.1 hq with rfl; exact ⟨_, _, _, rfl⟩) (fun i hi => by (have h00 : i = 0 := by simpa using hi); subst h00; exact HW.out) rfl rfl (by rw [List.nil_append]; show L.length + 1 ≤ 1000000; omega) (Nat.succ_pos _) (Nat.le_of_lt HLT.out) ?_
                  intro v12 w34 hown12 hgr12 hv12
                  have hgd : Below wD.heap.size wD w34 := HDD.out.grown hgr12 HDD.out.size (fun b e => Nat.le_trans HGE.out (HO.out.own.lt b e).1)
                  replace HDD := Lib.hid hgd
                  replace HB := Lib.hid (HBD0.out.trans (hgd.mono HBD0.out.size))
                  replace HX := Lib.hid ((hgd.block _ (Array.getElem?_eq_some_iff.1 HXD.out).1).trans HXD.out)
                  have HL12 := Lib.hid (show cdAv w34 none v12 (L ++ [z]) from cdAv_any hown12.to)
                  clear hgd hown12 hgr12 hv12 HO HW HY HV
                  refine hK _ _ ⟨_, fun _ h => h, HX.out, ?_⟩
                  clear hK K
                  try simp only [Act.put, List.setIfInBounds_toArray, List.set_cons_zero, List.set_cons_succ]
                  refine wpG_seg [] [13] 2 (by kernel_rfl) (by intro c a d v w h; cases d <;> exact h) (by kernel_rfl) HX.out ?_
                  try simp only [maskRows]
                  refine wpQuiet_nil ?_
                  refine List.forall_mem_singleton.2 ?_
                  refine segt_run rfl (by rfl) (fun K hK => ?_)
                  go_simp
                  refine (iagreed_any v12 (L ++ [z]) w34 (by first | exact HL12.out) (by rw [List.length_append]; show L.length + 1 ≤ 1900000; omega) (fun q hq => by
                    rcases List.mem_append.1 hq with hq | hq
                    · exact HK.out q hq
                    · rcases List.mem_singleton.1 hq with rfl
                      omega)).mono ?_
                  rintro e w35 ⟨rfl, hb13⟩
                  dsimp only
                  rw [show agB (baseG ordW (rowsN (L ++ [z]) (L ++ [z]).length)).2 = agD (L ++ [z]) from rfl, HCM.out]
                  replace HX := Lib.hid ((hb13.block _ (Array.getElem?_eq_some_iff.1 HX.out).1).trans HX.out)
                  replace HB := Lib.hid (HB.out.trans (hb13.mono HB.out.size))
                  clear hb13 HL12
                  refine hK _ _ ⟨_, fun _ h => h, HX.out, ?_⟩
                  clear hK K
                  try simp only [Act.put, List.setIfInBounds_toArray, List.set_cons_zero, List.set_cons_succ]
                  refine wpG_end [false, false, false, false, false, false, false, false, false, false, false, false, false, false, false, true, true] (by kernel_rfl) (by intro c a d v w h; cases d <;> exact h) (by kernel_rfl) HX.out ?_
                  try simp only [maskRows]
                  repeat (first
                    | go_big_quiet_skip
                    | (go_big_quiet_want
                       first
                         | (go_big_quiet_op; go_big_quiet_on)
                         | (refine q_load 27 _ _ _ rfl rfl LX ?_; simp only [Act.put, List.setIfInBounds_toArray, List.set_cons_zero, List.set_cons_succ]; go_big_quiet_on)
                         | (go_big_quiet_op; refine ⟨_, fun _ _ => rfl, ?_⟩; go_big_quiet_on)
                         | (go_big_quiet_op; refine ⟨_, fun _ _ _ => rfl, ?_⟩; go_big_quiet_on)))
                  refine wpQuiet_nil ?_
                  go_wp2_with fail
                  go_meet
                  exact HB.out
              · refine segt_run rfl (by rfl) (fun K hK => ?_)
                go_simp
                have hbl := (Below.refl wD.heap.size wD).alloc (Nat.le_refl _) (.cells #[.slice a6 n6 k6, .string z.2] 27)
                have HY := Lib.hid (heap_alloc_new wD (.cells #[.slice a6 n6 k6, .string z.2] 27))
                replace HDD := Lib.hid (HDD.out.trans (hbl.mono HDD.out.size))
                replace HX := Lib.hid ((hbl.block _ (Array.getElem?_eq_some_iff.1 HX.out).1).trans HX.out)
                replace HB := Lib.hid (HB.out.trans (hbl.mono HB.out.size))
                replace HV := Lib.hid (keysAt_below HV.out hbl)
                clear hbl
                generalize wD.alloc (.cells #[.slice a6 n6 k6, .string z.2] 27) = w31 at *
                generalize hB2 : wD.heap.size = b2 at HY  ⊢
                clear hB2
                refine hK _ _ ⟨_, fun _ h => h, HX.out, ?_⟩
                clear hK K
                try simp only [Act.put, List.setIfInBounds_toArray, List.set_cons_zero, List.set_cons_succ]
                refine wpG_seg [] [7] 5 (by kernel_rfl) (by intro c a d v w h; cases d <;> exact h) (by kernel_rfl) HX.out ?_
                try simp only [maskRows]
                refine wpQuiet_nil ?_
                refine List.forall_mem_singleton.2 ?_
                refine segt_run rfl (by rfl) (fun K hK => ?_)
                go_simp
                have ho := own_lit0 w31
                have ha := av_lit (cdAv_below HA2.out HB.out) (.cells #[] 27)
                have hbl := (Below.refl w31.heap.size w31).alloc (Nat.le_refl _) (.cells #[] 27)
                have hlt0 : w31.heap.size < (w31.alloc (.cells #[] 27)).heap.size := by simp
                have HLT := Lib.hid hlt0
                clear hlt0
                have HO := Lib.hid ho
                have HA := Lib.hid ha
                have HGP := Lib.hid (show wD.heap.size ≤ w31.heap.size from HDD.out.size)
                replace HDD := Lib.hid (HDD.out.trans (hbl.mono HDD.out.size))
                replace HX := Lib.hid ((hbl.block _ (Array.getElem?_eq_some_iff.1 HX.out).1).trans HX.out)
                replace HB := Lib.hid (HB.out.trans (hbl.mono HB.out.size))
                replace HV := Lib.hid (keysAt_below HV.out hbl)
                have HNE := Lib.hid (Nat.ne_of_lt (Array.getElem?_eq_some_iff.1 HY.out).1)
                replace HY := Lib.hid ((hbl.block _ (Array.getElem?_eq_some_iff.1 HY.out).1).trans HY.out)
                clear ho ha hbl
                generalize w31.alloc (.cells #[] 27) = w32 at *
                generalize hB0 : w31.heap.size = b0 at HO HA HLT HNE ⊢
                have HGE := Lib.hid (show wD.heap.size ≤ b0 from by rw [← hB0]; exact HGP.out)
                clear hB0 HGP
                refine hK _ _ ⟨_, fun _ h => h, HX.out, ?_⟩
                clear hK K
                try simp only [Act.put, List.setIfInBounds_toArray, List.set_cons_zero, List.set_cons_succ]
                refine wpG_seg [] [9] 4 (by kernel_rfl) (by intro c a d v w h; cases d <;> exact h) (by kernel_rfl) HX.out ?_
                try simp only [maskRows]
                refine wpQuiet_nil ?_
                refine List.forall_mem_singleton.2 ?_
                refine segt_run rfl (by rfl) (fun K hK => ?_)
                refine wp_append_cd (.tmp 70) (.tmp 71) rfl HO.out (.slice (some ⟨gl, off, none⟩) L.length cv) L HA.out rfl rfl (by show 0 + L.length ≤ 2000000; omega) (Nat.le_of_lt HLT.out) ?_
                intro v9 w33 us9 hown9 hlen9 hgr9 hv9
                have hgd : Below wD.heap.size wD w33 := HDD.out.grown hgr9 HDD.out.size (fun b e => by cases e; exact HGE.out)
                have HW := Lib.hid ((keysAv_of (b := v9.ownBlock) HVD.out (fun j hj e => by have h9 := (hown9.own.lt j e.symm).1; have h8 := HGE.out; omega)).below hgd)
                replace HV := Lib.hid (keysAt_below HVD.out hgd)
                replace HDD := Lib.hid hgd
                replace HB := Lib.hid (HBD0.out.trans (hgd.mono HBD0.out.size))
                replace HX := Lib.hid ((hgd.block _ (Array.getElem?_eq_some_iff.1 HXD.out).1).trans HXD.out)
                replace HY := Lib.hid ((hgr9.block _ (Array.getElem?_eq_some_iff.1 HY.out).1 (fun e => HNE.out (Option.some.inj e))).trans HY.out)
                replace HO := Lib.hid hown9
                replace HLT := Lib.hid (Nat.lt_of_lt_of_le HLT.out hgr9.size)
                clear hgd hown9 hlen9 hgr9 hv9 HA
                refine hK _ _ ⟨_, fun _ h => h, HX.out, ?_⟩
                clear hK K
                try simp only [Act.put, List.setIfInBounds_toArray, List.set_cons_zero, List.set_cons_succ]
                refine wpG_seg [] [12] 3 (by kernel_rfl) (by intro c a d v w h; cases d <;> exact h) (by kernel_rfl) HX.out ?_
                try simp only [maskRows]
                refine wpQuiet_nil ?_
                refine List.forall_mem_singleton.2 ?_
                refine segt_run rfl (by rfl) (fun K hK => ?_)
                refine wp_append_cdN (.tmp 72) (.tmp 74) rfl HO.out b2 [.slice a6 n6 k6] [z] rfl (row_cells HY.out) (fun q hq => by rcases List.mem_singleton.1 hq with rfl; exact ⟨_, _, _, rfl⟩) (fun i hi => by (have h00 : i = 0 := by simpa using hi); subst h00; exact HW.out) rfl rfl (by rw [List.nil_append]; show L.length + 1 ≤ 1000000; omega) (Nat.succ_pos _) (Nat.le_of_lt HLT.out) ?_
                intro v12 w34 hown12 hgr12 hv12
                have hgd : Below wD.heap.size wD w34 := HDD.out.grown hgr12 HDD.out.size (fun b e => Nat.le_trans HGE.out (HO.out.own.lt b e).1)
                replace HDD := Lib.hid hgd
                replace HB := Lib.hid (HBD0.out.trans (hgd.mono HBD0.out.size))
                replace HX := Lib.hid ((hgd.block _ (Array.getElem?_eq_some_iff.1 HXD.out).1).trans HXD.out)
                have HL12 := Lib.hid (show cdAv w34 none v12 (L ++ [z]) from cdAv_any hown12.to)
                clear hgd hown12 hgr12 hv12 HO HW HY HV
                refine hK _ _ ⟨_, fun _ h => h, HX.out, ?_⟩
                clear hK K
                try simp only [Act.put, List.setIfInBounds_toArray, List.set_cons_zero, List.set_cons_succ]
                refine wpG_seg [] [13] 2 (by kernel_rfl) (by intro c a d v w h; cases d <;> exact h) (by kernel_rfl) HX.out ?_
                try simp only [maskRows]
                refine wpQuiet_nil ?_
                refine List.forall_mem_singleton.2 ?_
                refine segt_run rfl (by rfl) (fun K hK => ?_)
                go_simp
                refine (iagreed_any v12 (L ++ [z]) w34 (by first | exact HL12.out) (by rw [List.length_append]; show L.length + 1 ≤ 1900000; omega) (fun q hq => by
                  rcases List.mem_append.1 hq with hq | hq
                  · exact HK.out q hq
                  · rcases List.mem_singleton.1 hq with rfl
                    omega)).mono ?_
                rintro e w35 ⟨rfl, hb13⟩
                dsimp only
                rw [show agB (baseG ordW (rowsN (L ++ [z]) (L ++ [z]).length)).2 = agD (L ++ [z]) from rfl, HCM.out]
                replace HX := Lib.hid ((hb13.block _ (Array.getElem?_eq_some_iff.1 HX.out).1).trans HX.out)
                replace HB := Lib.hid (HB.out.trans (hb13.mono HB.out.size))
                clear hb13 HL12
                refine hK _ _ ⟨_, fun _ h => h, HX.out, ?_⟩
                clear hK K
                try simp only [Act.put, List.setIfInBounds_toArray, List.set_cons_zero, List.set_cons_succ]
                refine wpG_end [false, false, false, false, false, false, false, false, false, false, false, false, false, false, false, true, true] (by kernel_rfl) (by intro c a d v w h; cases d <;> exact h) (by kernel_rfl) HX.out ?_
                try simp only [maskRows]
                repeat (first
                  | go_big_quiet_skip
                  | (go_big_quiet_want
                     first
                       | (go_big_quiet_op; go_big_quiet_on)
                       | (refine q_load 27 _ _ _ rfl rfl LX ?_; simp only [Act.put, List.setIfInBounds_toArray, List.set_cons_zero, List.set_cons_succ]; go_big_quiet_on)
                       | (go_big_quiet_op; refine ⟨_, fun _ _ => rfl, ?_⟩; go_big_quiet_on)
                       | (go_big_quiet_op; refine ⟨_, fun _ _ _ => rfl, ?_⟩; go_big_quiet_on)))
                refine wpQuiet_nil ?_
                go_wp2_with fail
                go_meet
                exact HB.out
        case rest =>
          refine hK1 _ _ ?_
          clear hK1
          have hba := (Below.refl wc.heap.size wc).alloc (Nat.le_refl _) (.cells #[] 27)
          have HN0 := Lib.hid (cdAv_any (own_lit0 wc).to)
          have HBN := Lib.hid (hcut.trans (hba.mono hcut.size))
          clear hba
          go_wp2_with fail
          refine (iagreed_any _ [] _ HN0.out (by simp) (by simp)).mono ?_
          rintro e w20 ⟨rfl, hb20⟩
          rw [show agB (baseG ordW (rowsN [] [].length)).2 = true from rfl]
          have HB20 := Lib.hid (HBN.out.trans (hb20.mono HBN.out.size))
          clear hb20 HBN HN0
          cases ok with
          | false =>
            go_wp2
            go_ret
            exact ⟨rfl, HB2.out.trans (HB20.out.mono HB2.out.size)⟩
          | true =>
            have hrk : (rankM L : Int) ≤ (L.length : Int) := by have := (rankM_le L).1; omega
            go_wp2_with fail
            refine (irank_any _ L w20 (cdAv_below HA2.out HB20.out) (by omega) HK.out).mono ?_
            rintro e w21 ⟨rfl, hb21⟩
            have HB21 := Lib.hid (HB20.out.trans (hb21.mono HB20.out.size))
            clear hb21
            go_wp2
            go_ret
            exact ⟨rfl, HB2.out.trans (HB21.out.mono HB2.out.size)⟩
    · have i1 : ¬ (1 : Int) < (L.length : Int) := by omega
      have hbo : (ok != ok) = false := by cases ok <;> rfl
      go_wp2_with fail
      refine HK5.out _ _ ?_
      clear HK5
      apply wp_seq_k; intro K0 hK0
      apply wp_seq_k; intro K1 hK1
      go_wp2_with fail
      have hba := (Below.refl w4.heap.size w4).alloc (Nat.le_refl _) (.cells #[] 27)
      have HN0 := Lib.hid (cdAv_any (own_lit0 w4).to)
      have HBN := Lib.hid (HB4.out.trans (hba.mono HB4.out.size))
      clear hba
      refine (iagreed_any _ [] _ HN0.out (by simp) (by simp)).mono ?_
      rintro e w20 ⟨rfl, hb20⟩
      rw [show agB (baseG ordW (rowsN [] [].length)).2 = true from rfl]
      have HB20 := Lib.hid (HBN.out.trans (hb20.mono HBN.out.size))
      clear hb20 HBN HN0
      cases ok with
      | false =>
        go_wp2
        go_ret
        exact ⟨rfl, HB2.out.trans (HB20.out.mono HB2.out.size)⟩
      | true =>
        have hrk : (rankM L : Int) ≤ (L.length : Int) := by have := (rankM_le L).1; omega
        go_wp2_with fail
        refine (irank_any _ L w20 (cdAv_below HA2.out HB20.out) (by omega) HK.out).mono ?_
        rintro e w21 ⟨rfl, hb21⟩
        have HB21 := Lib.hid (HB20.out.trans (hb21.mono HB20.out.size))
        clear hb21
        go_wp2
        go_ret
        exact ⟨rfl, HB2.out.trans (HB21.out.mono HB2.out.size)⟩
  · go_enter Try.func4, Try.ntmps4
    go_wp2_with fail
    refine (big_true _ _ _ _ hbig).mono ?_
    rintro e w1 ⟨rfl, rfl⟩
    go_wp2
    go_ret
    exact ⟨rfl, Below.refl _ _⟩
end Go.Proofs.Ytcecodjipeahkaa
