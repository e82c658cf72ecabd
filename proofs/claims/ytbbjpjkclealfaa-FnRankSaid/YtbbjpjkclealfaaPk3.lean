/- What the laws lean on (own lemmas and walks of the called functions). -/
import Derived.Test.YtbbjpjkclealfaaPk2
set_option linter.unusedVariables false
set_option linter.unusedSimpArgs false
namespace Go.Proofs.Ytbbjpjkclealfaa
open Go.ChangeShapes Go.WideShapes Go.ChangeAt Go.RowKit Go.BigFrame Go.Shelf Go.Great
attribute [local go_sem] Oper.semAt_some
set_option linter.unusedVariables false

/-- the bits of some right keys -/
def bitsK (pre : List RK) (p : Nat) : Bool := pre.any fun k => decide (p = placeK k.1)
theorem bitsK_snoc (pre : List RK) (k : RK) : (bitsK (pre ++ [k])) = fun p => bitsK pre p || decide (p = placeK k.1) := by
  funext p
  simp [bitsK]
theorem bitsK_nil : bitsK [] = fun _ => false := rfl
theorem agg_u64 (w : World) : (isAgg 77).run Try.prog w = .ok false w := by simp [isAgg, underlying, Try.underlying77]
theorem size_row : (Try.prog.info? 79).map (·.size) = some 32 := by kernel_rfl
def rowA (f : Nat → Bool) : Array Value := (rowV f).toArray
theorem rowA_size (f : Nat → Bool) : (rowA f).size = 32 := by unfold rowA; rw [List.size_toArray, rowV_len]
theorem rowA_zero : #[.int .u64 0, .int .u64 0, .int .u64 0, .int .u64 0, .int .u64 0, .int .u64 0, .int .u64 0, .int .u64 0, .int .u64 0, .int .u64 0, .int .u64 0, .int .u64 0, .int .u64 0, .int .u64 0, .int .u64 0, .int .u64 0, .int .u64 0, .int .u64 0, .int .u64 0, .int .u64 0, .int .u64 0, .int .u64 0, .int .u64 0, .int .u64 0, .int .u64 0, .int .u64 0, .int .u64 0, .int .u64 0, .int .u64 0, .int .u64 0, .int .u64 0, .int .u64 0] = rowA fun _ => false := by kernel_rfl
theorem rowA_get (f : Nat → Bool) (j : Nat) (hj : j < 32) : (rowA f)[j]? = some (.int .u64 ((rowB f j : Nat) : Int)) := by
  unfold rowA; rw [List.getElem?_toArray]; exact rowV_get f j hj
/-- one number of a row set -/
theorem rowA_or (f : Nat → Bool) (p : Nat) (hp : p / 64 < 32) : (rowA f).setIfInBounds (p / 64) (.int .u64 ((rowB f (p / 64) ||| 2 ^ (p % 64) : Nat) : Int)) = rowA fun q => f q || decide (q = p) := by
  unfold rowA
  rw [List.setIfInBounds_toArray]
  congr 1
  refine List.ext_getElem? fun j => ?_
  rw [List.getElem?_set]
  by_cases hj : j < 32
  · rw [rowV_get (fun q => f q || decide (q = p)) j hj]
    by_cases e : p / 64 = j
    · subst e
      rw [if_pos rfl, if_pos (by rw [rowV_len]; exact hp), rowB_or_same]
    · rw [if_neg e, rowV_get f j hj, rowB_or_other f p j (Ne.symm e)]
  · have h1 : (rowV fun q => f q || decide (q = p))[j]? = none := List.getElem?_eq_none (by rw [rowV_len]; omega)
    have h2 : (rowV f)[j]? = none := List.getElem?_eq_none (by rw [rowV_len]; omega)
    rw [h1, if_neg (by omega), h2]
/-- the load's number set -/
theorem rowA_load (f : Nat → Bool) (x : C2) (hf : ∀ p, p < 1984 → f p = hasX x p) (hx : x.2.size = 4) : (rowA f).setIfInBounds 31 (.int .u64 ((numL x.2 : Nat) : Int)) = rowA (hasX x) := by
  unfold rowA
  rw [List.setIfInBounds_toArray]
  congr 1
  refine List.ext_getElem? fun j => ?_
  rw [List.getElem?_set]
  have hl := numL_lt x.2 hx
  by_cases hj : j < 32
  · rw [rowV_get (hasX x) j hj]
    by_cases e : 31 = j
    · subst e
      rw [if_pos rfl, if_pos (by rw [rowV_len]; omega)]
      have : rowB (hasX x) 31 = numL x.2 := packN_eq _ _ _ (by omega) fun i hi => by
        unfold hasX
        rw [if_neg (by omega), show 64 * 31 + i - 1984 = i by omega]
      rw [this]
    · rw [if_neg e, rowV_get f j hj, rowB_congr j fun i hi => hf _ (by omega)]
  · have h1 : (rowV (hasX x))[j]? = none := List.getElem?_eq_none (by rw [rowV_len]; omega)
    have h2 : (rowV f)[j]? = none := List.getElem?_eq_none (by rw [rowV_len]; omega)
    rw [h1, if_neg (by omega), h2]
/-- right keys, each with its proof -/
theorem rk_list : ∀ ks : List K2, keysOkR ks = true → ∃ rs : List RK, rs.map (·.1) = ks := by
  intro ks h
  have h1 := ((keysR_iff ks).1 h).1
  clear h
  induction ks with
  | nil => exact ⟨[], rfl⟩
  | cons k l ih =>
    obtain ⟨rs, hr⟩ := ih fun x hx => h1 x (List.mem_cons_of_mem _ hx)
    exact ⟨⟨k, h1 k (List.mem_cons_self ..)⟩ :: rs, by rw [List.map_cons, hr]⟩
theorem bitsK_has (rs : List RK) (y : ByteArray) (p : Nat) (hp : p < 1984) : bitsK rs p = hasX (rs.map (·.1), y) p := by
  unfold bitsK hasX
  rw [if_pos hp]
  dsimp only
  rw [Bool.eq_iff_iff, List.any_eq_true, decide_eq_true_eq, List.mem_map]
  constructor
  · rintro ⟨k, hk, e⟩
    have e := of_decide_eq_true e
    exact ⟨k, hk, by rw [e, place_key k.2]⟩
  · rintro ⟨k, hk, e⟩
    exact ⟨k, hk, decide_eq_true (by rw [e, key_place])⟩
theorem getV_load (y : ByteArray) (hy : y.size = 4) : getV y 0 4 = (numL y : Nat) := by
  unfold getV numL
  rw [if_neg (by omega)]
  congr 1
  have : (y.data.toList.drop (0 : Int).toNat).take (4 : Int).toNat = y.data.toList := by
    show (y.data.toList.drop 0).take 4 = _
    rw [List.drop_zero, List.take_of_length_le (by simp [hy])]
  rw [this]
theorem load_u64 {w : World} {p : Addr} {v : Value} (h : w.cell? p = some v) : (loadVar 77 p).run Try.prog w = .ok v w := load_one agg_u64 h
attribute [local irreducible] rowA rowB hasX bitsK numL
set_option maxRecDepth 100000 in
set_option maxHeartbeats 1200000 in
theorem irow_any (vx : Value) (ks : List K2) (y : ByteArray) (w : World) (hx : keysAt w vx ks) (hk : keysOkR ks = true) (hy : y.size = 4) :
    Calls Try.prog 48 #[.agg #[vx, .string y]] w fun e w' => e = .returned (.agg (rowA (hasX (ks, y)))) ∧ Below w.heap.size w w' := by
  refine (callsIn_wide (n := 9)).1 ?_
  have hx0 := keysIn0_of hx
  obtain ⟨rs, hrs⟩ := rk_list ks hk
  subst hrs
  have hfew := keys_few hk
  obtain ⟨ax, cx, rfl, -, -⟩ := hx
  rw [rk_len] at *
  have hb1 := (Below.refl w.heap.size w).alloc (Nat.le_refl _) (.cells #[.slice ax rs.length cx, .string y] 27)
  have hb2 := hb1.alloc hb1.size (.cells (rowA fun _ => false) 79)
  have HB := Lib.hid (hb2.alloc hb2.size (.cells (rowA fun _ => false) 79))
  have RX := Lib.hid ((Below.heap_alloc ((w.alloc (.cells #[.slice ax rs.length cx, .string y] 27)).alloc (.cells (rowA fun _ => false) 79)) (.cells (rowA fun _ => false) 79) w.heap.size (by simp; omega)).trans (heap_first w (.cells (rowA fun _ => false) 79) (.cells #[.slice ax rs.length cx, .string y] 27)))
  have RR := Lib.hid (heap_mid w (.cells #[.slice ax rs.length cx, .string y] 27) (.cells (rowA fun _ => false) 79) (.cells (rowA fun _ => false) 79))
  have rr := heap_alloc_new ((w.alloc (.cells #[.slice ax rs.length cx, .string y] 27)).alloc (.cells (rowA fun _ => false) 79)) (.cells (rowA fun _ => false) 79)
  rw [show ((w.alloc (.cells #[.slice ax rs.length cx, .string y] 27)).alloc (.cells (rowA fun _ => false) 79)).heap.size = w.heap.size + 2 by simp] at rr
  have RL := Lib.hid rr
  have hqz : (((w.alloc (.cells #[.slice ax rs.length cx, .string y] 27)).alloc (.cells (rowA fun _ => false) 79)).alloc (.cells (rowA fun _ => false) 79)).heap.size = w.heap.size + 3 := by simp
  obtain ⟨x0, x1, -, -⟩ := row2_of RX.out
  clear hb1 hb2 rr
  refine callsIn_of_wp_marks Try.func48 rfl trivial ?_ rfl
  simp only [Try.ntmps48, List.size_toArray, List.length_cons, List.length_nil, Nat.reduceAdd, Nat.reduceSub, Array.replicate_succ, Array.replicate_zero, List.push_toArray, List.append_toArray, List.nil_append, List.cons_append]
  gi_wp2
  rw [rowA_zero]
  generalize hW : (((w.alloc (.cells #[.slice ax rs.length cx, .string y] 27)).alloc (.cells (rowA fun _ => false) 79)).alloc (.cells (rowA fun _ => false) 79)) = W5 at *
  clear hW
  refine ⟨trivial, (callsIn_wide.2 (kin_any _ _ _ _)).mono ?_⟩
  rintro e w6 ⟨rfl, rfl⟩
  have bS := Boxed.new W5 25 (.slice ax rs.length cx)
  have hRL := (Below.heap_alloc W5 (.cells #[.slice ax rs.length cx] 25) _ (Array.getElem?_eq_some_iff.1 RL.out).1).trans RL.out
  have hRX := (Below.heap_alloc W5 (.cells #[.slice ax rs.length cx] 25) _ (Array.getElem?_eq_some_iff.1 RX.out).1).trans RX.out
  have hRR := (Below.heap_alloc W5 (.cells #[.slice ax rs.length cx] 25) _ (Array.getElem?_eq_some_iff.1 RR.out).1).trans RR.out
  have hB0 := HB.out.alloc HB.out.size (.cells #[.slice ax rs.length cx] 25)
  have hsz : (W5.alloc (.cells #[.slice ax rs.length cx] 25)).heap.size = w.heap.size + 4 := by simp; omega
  have hnS : W5.heap.size = w.heap.size + 3 := by omega
  rw [hnS] at bS
  clear RX RR RL HB x0 x1
  gi_wp2
  generalize W5.alloc (.cells #[.slice ax rs.length cx] 25) = W0 at *
  refine wpIn_rangeFunc_ownH (n := 9) rfl (by omega) (gf := 111) (lb := #[.pointer (some ⟨w.heap.size + 3, 0, none⟩)]) rfl trivial (enters_of Try.func111 (by kernel_rfl) rfl)
    (kir_stops 8 (w.heap.size + 3) w.heap.size (.slice ax rs.length cx) rs (by omega) (by omega) W0 (by omega) (by omega) bS.cell (hx0.below hB0)) belowK_t (belowK_b (by omega)) (Below.refl _ _) (fun _ => rfl)
    (fun pre W => W.heap[w.heap.size + 2]? = some (.cells (rowA (bitsK pre)) 79 (0, 0)) ∧ W.heap[w.heap.size]? = some (.cells #[.slice ax rs.length cx, .string y] 27 (0, 0)) ∧ W.heap[w.heap.size + 1]? = some (.cells (rowA fun _ => false) 79 (0, 0)) ∧ Below w.heap.size w W)
    (fun _ _ _ => False)
    (OwnFrom.and (Own.from (cells_own (w.heap.size + 2) (fun pre : List RK => rowA (bitsK pre)) 79) _) (OwnFrom.and (Own.from (cells_own w.heap.size (fun _ => #[.slice ax rs.length cx, .string y]) 27) _) (OwnFrom.and (Own.from (cells_own (w.heap.size + 1) (fun _ => rowA fun _ => false) 79) _) (ownFrom_below (Nat.le_refl _) (by omega)))))
    (fun _ _ _ _ _ hs _ _ => hs)
    ⟨by rw [bitsK_nil]; exact hRL, hRX, hRR, hB0⟩
    (fun x a' W => ∃ Bx, w.heap.size + 2 < Bx ∧ KBoxed W Bx x.1 ∧ a' = { tmps := #[.agg #[.slice ax rs.length cx, .string y], .pointer (some ⟨w.heap.size, 0, none⟩), .pointer (some ⟨w.heap.size + 1, 0, none⟩), .pointer (some ⟨w.heap.size + 1 + 1, 0, none⟩), .pointer (some ⟨Bx, 0, none⟩), undef, .pointer (some ⟨w.heap.size, 0, none⟩), .slice ax rs.length cx, .func (.func 111) #[] #[.pointer (some ⟨w.heap.size + 3, 0, none⟩)], kv x.1, undef, undef, undef, undef, undef, undef, undef, undef, undef, undef, undef, undef, undef, undef, undef, undef, undef], defers := [] })
    (fun x a' _ X Y row hs hg hr => by
      obtain ⟨Bx, e1, e2, e4⟩ := hs
      exact ⟨Bx, e1, kboxed_own Bx x.1 () X Y row e2 hg (fun r e => (hr r e).2), e4⟩)
    ?assign ?body ?done ?stop
  case assign =>
    rintro l pre ⟨⟨p, q⟩, hpq⟩ W K ⟨hRL, hTb, hRes, hB⟩ hK
    unfold kv at *
    dsimp only at *
    gi_wp2
    exact hK _ _ ((KeepsOthers.alloc _ _).from _) ((Below.refl _ W).alloc hB.size _) ⟨(Below.heap_alloc _ _ _ (Array.getElem?_eq_some_iff.1 hRL).1).trans hRL, (Below.heap_alloc _ _ _ (Array.getElem?_eq_some_iff.1 hTb).1).trans hTb, (Below.heap_alloc _ _ _ (Array.getElem?_eq_some_iff.1 hRes).1).trans hRes, hB.alloc hB.size _⟩ ⟨W.heap.size, (Array.getElem?_eq_some_iff.1 hRL).1, KBoxed.new W (p, q), rfl⟩
  case body =>
    rintro l pre ⟨⟨p, q⟩, hpq⟩ a' W hl ⟨r, hr⟩ ⟨hRL, hTb, hRes, hB⟩ ⟨Bx, hBx, bX, rfl⟩ hlt
    have hsn := bitsK_snoc pre ⟨(p, q), hpq⟩
    have hplt := place_lt hpq
    have hsW := hB.size
    have IP := Lib.hid (iplace_any (p, q) hpq)
    dsimp only at hsn
    generalize placeK (p, q) = P at *
    generalize bitsK pre = M at *
    have HSN := Lib.hid hsn
    clear hsn
    unfold kv at *
    dsimp only at *
    have cX0 := bX.cell0
    have cX1 := bX.cell1
    dsimp only at cX0 cX1
    gi_wp2
    refine ⟨trivial, (CallsIn.inRound l (callsIn_wide.2 (IP.out _))).mono ?_⟩
    rintro e W1 ⟨rfl, hb1⟩
    have g1 := grownN hb1
    have hRL1 := (hb1.block _ (Array.getElem?_eq_some_iff.1 hRL).1).trans hRL
    have hTb1 := (hb1.block _ (Array.getElem?_eq_some_iff.1 hTb).1).trans hTb
    have hRes1 := (hb1.block _ (Array.getElem?_eq_some_iff.1 hRes).1).trans hRes
    have hs1 := Nat.le_trans hsW hb1.size
    have hk1 : KeepsOthers W W1 := KeepsOthers.of_grownBy g1 (fun j o e => by cases e)
    have hB1 := hB.trans (hb1.mono hsW)
    have HBP1 := Lib.hid (hb1.mono hsW)
    have HK1 := Lib.hid hk1
    have HRL := Lib.hid hRL1
    have HT := Lib.hid hTb1
    have HRE := Lib.hid hRes1
    have HBB := Lib.hid hB1
    have HSZ := Lib.hid hs1
    clear hRL hTb hRes bX hb1 g1 hk1 hB cX0 cX1 IP hRL1 hTb1 hRes1 hB1 hs1
    have z0 : (0 : Int) ≤ ((P / 64 : Nat) : Int) := by omega
    have z1 : ((P / 64 : Nat) : Int) < 32 := by omega
    have hP64 : P / 64 < 32 := by omega
    have LA : ∀ w' : World, w'.heap[w.heap.size + 2]? = some (.cells (rowA M) 79 (0, 0)) → (loadVar 77 ⟨w.heap.size + 2, P / 64, none⟩).run Try.prog w' = .ok (.int .u64 ((rowB M (P / 64) : Nat) : Int)) w' := fun w' h => load_u64 (by rw [cell_of_row _ _ _ _ _ _ h]; exact rowA_get _ _ hP64)
    have HOR := Lib.hid (rowA_or M P hP64)
    have hbl := rowB_lt M (P / 64)
    gi_wp2
    refine wpIn_region_H (fun w' => w'.heap[w.heap.size + 2]? = some (.cells (rowA M) 79 (0, 0))) (by kernel_rfl) (by kernel_rfl) ?_
    have hb := (Below.refl W1.heap.size W1).drew
    have g2 := grownN hb
    replace HRL := Lib.hid ((hb.block _ (Array.getElem?_eq_some_iff.1 HRL.out).1).trans HRL.out)
    replace HT := Lib.hid ((hb.block _ (Array.getElem?_eq_some_iff.1 HT.out).1).trans HT.out)
    replace HRE := Lib.hid ((hb.block _ (Array.getElem?_eq_some_iff.1 HRE.out).1).trans HRE.out)
    replace HBP1 := Lib.hid (HBP1.out.trans (hb.mono HSZ.out))
    replace HBB := Lib.hid (HBB.out.trans (hb.mono HSZ.out))
    replace HK1 := Lib.hid (HK1.out.trans (KeepsOthers.of_grownBy g2 (fun j o e => by cases e)))
    replace HSZ := Lib.hid (Nat.le_trans HSZ.out hb.size)
    clear hb g2
    generalize W1.drew = w2 at *
    refine wpH_seg [true, true, true, true, true, true, true, true, true] [9] 0 (by kernel_rfl) (fun _ _ _ _ _ h => h) (by kernel_rfl) HRL.out ?_
    try simp only [maskRows]
    repeat (first
      | go_big_quiet_skip
      | (go_big_quiet_want
         first
           | (go_big_quiet_op; go_big_quiet_on)
           | (refine q_load 77 _ _ _ rfl rfl LA ?_; simp only [Act.put, List.setIfInBounds_toArray, List.set_cons_zero, List.set_cons_succ]; go_big_quiet_on)
           | (go_big_quiet_op; refine ⟨_, fun _ _ => rfl, ?_⟩; go_big_quiet_on)
           | (go_big_quiet_op; refine ⟨_, fun _ _ _ => rfl, ?_⟩; go_big_quiet_on)))
    refine wpQuiet_nil ?_
    refine List.forall_mem_singleton.2 ?_
    have c0 : w2.cell? ⟨w.heap.size + 2, P / 64, none⟩ = some (.int .u64 ((rowB M (P / 64) : Nat) : Int)) := by rw [cell_of_row _ _ _ _ _ _ HRL.out]; exact rowA_get _ _ hP64
    have f0 : w2.frozen? ⟨w.heap.size + 2, P / 64, none⟩ = false := by simp [World.frozen?, HRL.out]
    have hlt := (Array.getElem?_eq_some_iff.1 HRL.out).1
    refine segh_run rfl (by rfl) (fun K hK => ?_)
    go_simp
    have hor : bits .or .u64 ((rowB M (P / 64) : Nat) : Int) (IntKind.u64.wrap (2 ^ (P % 64))) = ((rowB M (P / 64) ||| 2 ^ (P % 64) : Nat) : Int) := by
      have h2 : (2 : Nat) ^ (P % 64) < 18446744073709551616 := Nat.pow_lt_pow_right (by decide) (show P % 64 < 64 by omega)
      have h3 : (2 : Int) ^ (P % 64) = ((2 ^ (P % 64) : Nat) : Int) := by rw [Int.natCast_pow]; rfl
      rw [h3]
      generalize 2 ^ (P % 64) = t at *
      have h4 : IntKind.u64.wrap (t : Int) = (t : Int) := by rw [IntKind.wrap_u64]; omega
      rw [h4]
      exact u64_or _ _ hbl h2
    have hset := set_cellsD (j := P / 64) (.int .u64 (bits .or .u64 ((rowB M (P / 64) : Nat) : Int) (IntKind.u64.wrap (2 ^ (P % 64))))) HRL.out
    have hset2 : (w2.setCell ⟨w.heap.size + 2, P / 64, none⟩ (.int .u64 (bits .or .u64 ((rowB M (P / 64) : Nat) : Int) (IntKind.u64.wrap (2 ^ (P % 64)))))).heap[w.heap.size + 2]? = some (.cells (rowA (bitsK (pre ++ [⟨(p, q), hpq⟩]))) 79 (0, 0)) := by
      rw [hset, hor, HOR.out, HSN.out]
    have g9 := Lib.grownBy_setCell w2 (w.heap.size + 2) (P / 64) (.int .u64 (bits .or .u64 ((rowB M (P / 64) : Nat) : Int) (IntKind.u64.wrap (2 ^ (P % 64)))))
    have hne9 : ∀ B, B ≠ w.heap.size + 2 → some B ≠ some (w.heap.size + 2) := fun B h e => h (Option.some.inj e)
    have HRL2 := Lib.hid hset2
    have HT2 := Lib.hid ((g9.block _ (Array.getElem?_eq_some_iff.1 HT.out).1 (hne9 _ (by omega))).trans HT.out)
    have HRE2 := Lib.hid ((g9.block _ (Array.getElem?_eq_some_iff.1 HRE.out).1 (hne9 _ (by omega))).trans HRE.out)
    have HBP2 := Lib.hid (HBP1.out.setCell (p := ⟨w.heap.size + 2, P / 64, none⟩) (by show w.heap.size ≤ w.heap.size + 2; omega) (.int .u64 (bits .or .u64 ((rowB M (P / 64) : Nat) : Int) (IntKind.u64.wrap (2 ^ (P % 64))))))
    have HBB2 := Lib.hid (HBB.out.setCell (p := ⟨w.heap.size + 2, P / 64, none⟩) (by show w.heap.size ≤ w.heap.size + 2; omega) (.int .u64 (bits .or .u64 ((rowB M (P / 64) : Nat) : Int) (IntKind.u64.wrap (2 ^ (P % 64))))))
    have HK2 := Lib.hid (HK1.out.trans (KeepsOthers.of_grownBy g9 (fun j o e ho => by cases e; rw [HRL.out] at ho; cases ho; rfl)))
    clear HT HRE HBP1 HBB HK1 HSZ c0 f0 hlt g9 hne9 hset hset2 HRL hor LA
    refine hK _ _ (.inl ⟨⟨lastP_of (by kernel_rfl), by kernel_rfl⟩, ?_⟩)
    clear hK K
    try simp only [Act.put, List.setIfInBounds_toArray, List.set_cons_zero, List.set_cons_succ]
    simp only [OnlyNormal]
    gi_wp2
    exact ⟨HK2.out.from _, HBP2.out, HRL2.out, HT2.out, HRE2.out, HBB2.out⟩
  case done =>
    rintro D ys W hD hys ⟨hRL, hTb, hRes, hB⟩ hK
    subst hys
    have hsW := hB.size
    obtain ⟨x0, x1, -, -⟩ := row2_of hTb
    have hn := getV_load y hy
    have hl := numL_lt y hy
    have IG := Lib.hid (fun w => iget_any y 0 4 w (by omega))
    rw [hn] at IG
    have hwr : IntKind.u64.wrap ((numL y : Nat) : Int) = ((numL y : Nat) : Int) := by rw [IntKind.wrap_u64]; omega
    have hset := set_cellsD (j := 31) (.int .u64 ((numL y : Nat) : Int)) hRL
    rw [rowA_load (bitsK ys) (ys.map (·.1), y) (fun p hp => bitsK_has ys y p hp) hy] at hset
    have c0 : W.cell? ⟨w.heap.size + 2, 31, none⟩ = some (.int .u64 ((rowB (bitsK ys) 31 : Nat) : Int)) := by rw [cell_of_row _ _ _ _ _ _ hRL]; exact rowA_get _ _ (by omega)
    have f0 : W.frozen? ⟨w.heap.size + 2, 31, none⟩ = false := by simp [World.frozen?, hRL]
    have hlt := (Array.getElem?_eq_some_iff.1 hRL).1
    have g9 := Lib.grownBy_setCell W (w.heap.size + 2) 31 (.int .u64 ((numL y : Nat) : Int))
    have hDlt := (Array.getElem?_eq_some_iff.1 hK).1
    have hD2 : w.heap.size + 2 ≠ D := by omega
    have hK2 := (g9.block D hDlt (fun e => by cases e; omega)).trans hK
    have hR2 := (g9.block _ (Array.getElem?_eq_some_iff.1 hRes).1 (fun e => by have := Option.some.inj e; omega)).trans hRes
    have hB2 := hB.setCell (p := ⟨w.heap.size + 2, 31, none⟩) (by show w.heap.size ≤ w.heap.size + 2; omega) (.int .u64 ((numL y : Nat) : Int))
    have HF := Lib.hid (And.intro hset (And.intro hK2 (And.intro hR2 hB2)))
    clear hRL hTb hRes hB hset hK2 hR2 hB2 g9 hK hn
    simp only [Exit.inBlock, Exit.then]
    rename_i hKK
    refine hKK _ _ ?_
    clear hKK
    refine wpIn_wide.2 ?_
    apply wp_seq_k; intro K0 hK0
    have HK0 := Lib.hid hK0; clear hK0
    go_wp2_with fail
    refine (IG.out _).mono ?_
    rintro e W1 ⟨rfl, rfl⟩
    go_wp2_with fail
    refine HK0.out _ _ ?_
    clear HK0 K0
    obtain ⟨hset, hK2, hR2, hB2⟩ := HF.out
    have hW2 : ∃ W2, W2 = W1.setCell ⟨w.heap.size + 2, 31, none⟩ (.int .u64 ((numL y : Nat) : Int)) := ⟨_, rfl⟩
    obtain ⟨W2, hW2⟩ := hW2
    rw [← hW2] at hset hK2 hR2 hB2
    rw [show W1.setCell ⟨w.heap.size + 1 + 1, 31, none⟩ (.int .u64 ((numL y : Nat) : Int)) = W2 from hW2.symm]
    clear hW2
    have LD := run_loadVar_row (P := Try.prog) W2 (w.heap.size + 2) 79 79 (rowA (hasX (ys.map (·.1), y))) (0, 0) _ hset Try.underlying79 rfl (by rw [rowA_size]; exact size_row)
    have hs3 := setRow_heap W2 (w.heap.size + 1) _ (rowA (hasX (ys.map (·.1), y))) 79 (0, 0) hR2
    have hB3 : Below w.heap.size w (W2.setRow (w.heap.size + 1) (rowA (hasX (ys.map (·.1), y)))) := hB2.trans ⟨rfl, rfl, rfl, by rw [setRow_size]; exact Nat.le_refl _, fun k hk => setRow_other _ _ _ _ (by omega)⟩
    have hK3 := (setRow_other W2 (w.heap.size + 1) D (rowA (hasX (ys.map (·.1), y))) (by omega)).trans hK2
    have hone : (rowA (hasX (ys.map (·.1), y))).all (·.oneCell') = true := by unfold rowA; exact all_oneCell_toArray (rowV_one _)
    have hrz := rowA_size (hasX (ys.map (·.1), y))
    have hrz0 := rowA_size (fun _ => false)
    generalize hA2 : rowA (hasX (ys.map (·.1), y)) = A2 at *
    generalize (rowA fun _ => false) = A0 at *
    have HF := Lib.hid (And.intro hK3 (And.intro hs3 hB3))
    clear hK3 hs3 hB3 hK2 hB2
    apply wp_seq_k; intro K0 hK0
    apply wp_region_lit
    refine wpList_load_row rfl 79 (.tmp 3) rfl (w.heap.size + 2) rfl 79 A2 (0, 0) _ hset Try.underlying79 rfl (by rw [hrz]; exact size_row) ?_
    refine wpList_store_rowTo rfl 79 (.tmp 2) (.tmp 26) rfl rfl (w.heap.size + 1) A2 rfl rfl 79 A0 hR2 (by rw [hrz]; exact size_row) (by rw [hrz0, hrz]) hone ?_
    apply wpList_nil
    refine hK0 _ _ ?_
    apply wp_ret
    obtain ⟨hK3, hs3, hB3⟩ := HF.out
    try rw [Exit.noGoto_ret]
    refine ⟨by simp, .inl ⟨_, _, rfl, run_takeDeferred hK3, ?_⟩⟩
    have hR3 := (World.putObj_heap_other (w := W2.setRow (w.heap.size + 1) A2) (r := D) (o := .deferred none) (show w.heap.size + 1 ≠ D by omega)).trans hs3
    have l3 := run_loadVar_row (P := Try.prog) _ (w.heap.size + 1) 79 79 A2 (0, 0) _ hR3 Try.underlying79 rfl (by rw [hrz]; exact size_row)
    refine ⟨.agg A2, ?_, by rw [hA2], hB3.trans (belowK_b (w := w) (Nat.le_refl _) _ D _ _ (by omega) hK3 rfl rfl)⟩
    rw [results_cell (p := 2) (ty := 79) (by kernel_rfl)]
    simp [asAddr, Result.andThen, l3, Act.put]
  case stop =>
    rintro D c pre W _ _ h _
    exact h.elim
end Go.Proofs.Ytbbjpjkclealfaa
namespace Go.Proofs.Ytbbjpjkclealfaa
open Go.ChangeShapes Go.WideShapes Go.ChangeAt Go.RowKit Go.BigFrame
set_option linter.unusedVariables false

/-- four bytes as an array's value -/
def arr4 (y : ByteArray) : Value := .agg (Lib.byteCells y.data.toList).toArray
theorem four_bytes (y : ByteArray) (h : y.size = 4) : ∃ a b c d : UInt8, y.data.toList = [a, b, c, d] := by
  have hl : y.data.toList.length = 4 := by simpa using h
  match hm : y.data.toList, hl with
  | [a, b, c, d], _ => exact ⟨a, b, c, d, rfl⟩
theorem set_cellsR {w : World} {B j : Nat} {cs : Array Value} {t : TypeId} (u : Value) (h : w.heap[B]? = some (.cells cs t (0, 0))) : (w.setCell ⟨B, j, none⟩ u).heap[B]? = some (.cells (cs.setIfInBounds j u) t (0, 0)) := by
  obtain ⟨hlt, hk⟩ := Array.getElem?_eq_some_iff.1 h
  show (w.heap.modify B _)[B]? = _
  rw [Array.getElem?_eq_getElem (by rw [Array.size_modify]; exact hlt), Array.getElem_modify_self, hk]
  rfl
set_option maxRecDepth 100000 in
theorem iloadbytes_any (y : ByteArray) (w : World) (hy : y.size = 4) : Calls Try.prog 63 #[.string y] w fun e w' => e = .returned (arr4 y) ∧ Below w.heap.size w w' := by
  obtain ⟨a, b, c, d, hd⟩ := four_bytes y hy
  have hsz : (Try.prog.info? 5).map (·.size) = some 1 := by kernel_rfl
  have hW : (((w.alloc (.cells #[.int .u8 0, .int .u8 0, .int .u8 0, .int .u8 0] 97)).alloc (.cells #[.int .u8 0, .int .u8 0, .int .u8 0, .int .u8 0] 97))).heap[w.heap.size + 1]? = some (.cells #[.int .u8 0, .int .u8 0, .int .u8 0, .int .u8 0] 97) := by
    have := heap_alloc_new (w.alloc (.cells #[.int .u8 0, .int .u8 0, .int .u8 0, .int .u8 0] 97)) (.cells #[.int .u8 0, .int .u8 0, .int .u8 0, .int .u8 0] 97)
    simpa using this
  have hB : Below w.heap.size w ((w.alloc (.cells #[.int .u8 0, .int .u8 0, .int .u8 0, .int .u8 0] 97)).alloc (.cells #[.int .u8 0, .int .u8 0, .int .u8 0, .int .u8 0] 97)) := ((Below.refl _ _).alloc (Nat.le_refl _) _).alloc (by simp) _
  have hF : ((w.alloc (.cells #[.int .u8 0, .int .u8 0, .int .u8 0, .int .u8 0] 97)).alloc (.cells #[.int .u8 0, .int .u8 0, .int .u8 0, .int .u8 0] 97)).heap[w.heap.size]? = some (.cells #[.int .u8 0, .int .u8 0, .int .u8 0, .int .u8 0] 97) := heap_first _ _ _
  have hr := fun ty => Lib.run_copy_row_string (P := Try.prog) ((w.alloc (.cells #[.int .u8 0, .int .u8 0, .int .u8 0, .int .u8 0] 97)).alloc (.cells #[.int .u8 0, .int .u8 0, .int .u8 0, .int .u8 0] 97)) 22 9 ty 5 (w.heap.size + 1) 0 4 4 y #[.int .u8 0, .int .u8 0, .int .u8 0, .int .u8 0] 97 Try.underlying22 hsz hW (by omega) (by simp; omega)
  rw [show (List.take 0 (#[Value.int .u8 0, .int .u8 0, .int .u8 0, .int .u8 0] : Array Value).toList ++ Lib.byteCells y.data.toList ++ List.drop (0 + y.size) (#[Value.int .u8 0, .int .u8 0, .int .u8 0, .int .u8 0] : Array Value).toList).toArray = #[.int .u8 a.toNat, .int .u8 b.toNat, .int .u8 c.toNat, .int .u8 d.toNat] by rw [hy, hd]; rfl] at hr
  have hB2 := below_setRow hB (show w.heap.size ≤ w.heap.size + 1 by omega) #[.int .u8 a.toNat, .int .u8 b.toNat, .int .u8 c.toNat, .int .u8 d.toNat]
  have hS := setRow_heap _ (w.heap.size + 1) _ #[.int .u8 a.toNat, .int .u8 b.toNat, .int .u8 c.toNat, .int .u8 d.toNat] 97 (0, 0) hW
  have hF2 : (World.setRow ((w.alloc (.cells #[.int .u8 0, .int .u8 0, .int .u8 0, .int .u8 0] 97)).alloc (.cells #[.int .u8 0, .int .u8 0, .int .u8 0, .int .u8 0] 97)) (w.heap.size + 1) #[.int .u8 a.toNat, .int .u8 b.toNat, .int .u8 c.toNat, .int .u8 d.toNat]).heap[w.heap.size]? = some (.cells #[.int .u8 0, .int .u8 0, .int .u8 0, .int .u8 0] 97) := by
    rw [setRow_other _ _ _ _ (by omega)]; exact hF
  generalize World.setRow ((w.alloc (.cells #[.int .u8 0, .int .u8 0, .int .u8 0, .int .u8 0] 97)).alloc (.cells #[.int .u8 0, .int .u8 0, .int .u8 0, .int .u8 0] 97)) (w.heap.size + 1) #[.int .u8 a.toNat, .int .u8 b.toNat, .int .u8 c.toNat, .int .u8 d.toNat] = W2 at *
  have c0 : W2.cell? ⟨w.heap.size + 1, 0, none⟩ = some (.int .u8 a.toNat) := by rw [cell_of_row _ _ 0 _ _ _ hS]; rfl
  have c1 : W2.cell? ⟨w.heap.size + 1, 1, none⟩ = some (.int .u8 b.toNat) := by rw [cell_of_row _ _ 1 _ _ _ hS]; rfl
  have c2 : W2.cell? ⟨w.heap.size + 1, 2, none⟩ = some (.int .u8 c.toNat) := by rw [cell_of_row _ _ 2 _ _ _ hS]; rfl
  have c3 : W2.cell? ⟨w.heap.size + 1, 3, none⟩ = some (.int .u8 d.toNat) := by rw [cell_of_row _ _ 3 _ _ _ hS]; rfl
  have d0 : W2.cell? ⟨w.heap.size, 0, none⟩ = some (.int .u8 0) := by rw [cell_of_row _ _ 0 _ _ _ hF2]; rfl
  have d1 : W2.cell? ⟨w.heap.size, 1, none⟩ = some (.int .u8 0) := by rw [cell_of_row _ _ 1 _ _ _ hF2]; rfl
  have d2 : W2.cell? ⟨w.heap.size, 2, none⟩ = some (.int .u8 0) := by rw [cell_of_row _ _ 2 _ _ _ hF2]; rfl
  have d3 : W2.cell? ⟨w.heap.size, 3, none⟩ = some (.int .u8 0) := by rw [cell_of_row _ _ 3 _ _ _ hF2]; rfl
  have f0 : W2.frozen? ⟨w.heap.size, 0, none⟩ = false := by simp [World.frozen?, hF2]
  have f1 : W2.frozen? ⟨w.heap.size, 1, none⟩ = false := by simp [World.frozen?, hF2]
  have f2 : W2.frozen? ⟨w.heap.size, 2, none⟩ = false := by simp [World.frozen?, hF2]
  have f3 : W2.frozen? ⟨w.heap.size, 3, none⟩ = false := by simp [World.frozen?, hF2]
  have hfin : ((((W2.setCell ⟨w.heap.size, 0, none⟩ (.int .u8 a.toNat)).setCell ⟨w.heap.size, 1, none⟩ (.int .u8 b.toNat)).setCell ⟨w.heap.size, 2, none⟩ (.int .u8 c.toNat)).setCell ⟨w.heap.size, 3, none⟩ (.int .u8 d.toNat)).heap[w.heap.size]? = some (.cells #[.int .u8 a.toNat, .int .u8 b.toNat, .int .u8 c.toNat, .int .u8 d.toNat] 97) :=
    set_cellsR _ (set_cellsR _ (set_cellsR _ (set_cellsR _ hF2)))
  have hBf := (((hB2.setCell (p := ⟨w.heap.size, 0, none⟩) (Nat.le_refl _) (.int .u8 a.toNat)).setCell (p := ⟨w.heap.size, 1, none⟩) (Nat.le_refl _) (.int .u8 b.toNat)).setCell (p := ⟨w.heap.size, 2, none⟩) (Nat.le_refl _) (.int .u8 c.toNat)).setCell (p := ⟨w.heap.size, 3, none⟩) (Nat.le_refl _) (.int .u8 d.toNat)
  have L2 := run_loadVar_row (P := Try.prog) _ w.heap.size 97 97 #[.int .u8 a.toNat, .int .u8 b.toNat, .int .u8 c.toNat, .int .u8 d.toNat] (0, 0) _ hfin Try.underlying97 rfl (by kernel_rfl)
  have L2 := Lib.hid L2; have HBF := Lib.hid hBf; clear hfin hBf hB2 hB hF hW hF2 hS hsz
  go_enter Try.func63, Try.ntmps63
  go_wp2_with (at_builtin; refine Lib.wpList_copy_run _ rfl (.tmp 4) (.tmp 5) 22 9 rfl _ _ rfl rfl (hr _) ?_)
  refine bodyPost_ret (v := .agg #[.int .u8 a.toNat, .int .u8 b.toNat, .int .u8 c.toNat, .int .u8 d.toNat]) ?_ rfl ⟨by unfold arr4; rw [hd]; rfl, HBF.out⟩
  rw [results_cell (p := 2) (ty := 97) (by kernel_rfl)]
  simp [asAddr, Result.andThen, L2.out]
end Go.Proofs.Ytbbjpjkclealfaa
namespace Go.Proofs.Ytbbjpjkclealfaa
open Go.ChangeShapes Go.WideShapes Go.ChangeAt Go.RowKit Go.BigFrame
set_option linter.unusedVariables false

theorem arr_sz : ∀ w : World, (sizeOf 5).run Try.prog w = .ok 1 w := by
  obtain ⟨i0, h1, h2⟩ : ∃ i, Try.prog.info? 5 = some i ∧ i.size = 1 := by
    have h : (Try.prog.info? 5).map (·.size) = some 1 := by kernel_rfl
    cases hq : Try.prog.info? 5 with
    | none => rw [hq] at h; simp at h
    | some i => rw [hq] at h; exact ⟨i, rfl, by simpa using h⟩
  intro w
  simp [sizeOf, typeInfo, h1, h2]
theorem arr_eql (x y : ByteArray) (hx : x.size = 4) (hy : y.size = 4) (w : World) : (binOp .eql 97 (arr4 x) (arr4 y)).run Try.prog w = .ok (.bool (x.data.toList == y.data.toList)) w :=
  run_eql_bytes w 97 5 4 Try.underlying97 Try.underlying5 arr_sz _ _ (by simpa using hx) (by simpa using hy)
theorem arr_guard (op : BinOp) (x y : Operand) (a b : ByteArray) (w : World) : (eqGuard op 97 x y (arr4 a) (arr4 b)).run Try.prog w = .ok () w := by
  unfold arr4
  exact run_eqGuard_agg w op 97 x y _ _ (by kernel_rfl)
theorem arr4_lit (y : ByteArray) (h : y.size = 4) : ∃ a b c d : Int, arr4 y = .agg #[.int .u8 a, .int .u8 b, .int .u8 c, .int .u8 d] := by
  obtain ⟨a, b, c, d, hd⟩ := four_bytes y h
  exact ⟨a.toNat, b.toNat, c.toNat, d.toNat, by unfold arr4; rw [hd]; rfl⟩
end Go.Proofs.Ytbbjpjkclealfaa
namespace Go.Proofs.Ytbbjpjkclealfaa
open Go.ChangeShapes Go.WideShapes Go.ChangeAt Go.RowKit Go.BigFrame
set_option linter.unusedVariables false

def zero4L : List UInt8 := [0, 0, 0, 0]
theorem z4_eq (y : ByteArray) : decide (y = z4) = (y.data.toList == zero4L) := by
  rw [Bool.eq_iff_iff, decide_eq_true_eq, beq_iff_eq]
  constructor
  · rintro rfl; rfl
  · intro h
    have : y = ⟨y.data.toList.toArray⟩ := by simp
    rw [this, h]; rfl
set_option maxRecDepth 100000 in
set_option maxHeartbeats 1000000 in
theorem icodeok_any (v : Value) (ks : List K2) (y : ByteArray) (w : World) (h : keysAt w v ks) (hs : ks.length ≤ 2000000) :
    Calls Try.prog 110 #[.agg #[v, .string y]] w fun e w' => e = .returned (.bool (codeOkB (ks, y))) ∧ Below w.heap.size w w' := by
  have hb := (Below.refl w.heap.size w).alloc (Nat.le_refl _) (.cells #[v, .string y] 27)
  have HB := Lib.hid hb
  have HX := Lib.hid (heap_alloc_new w (.cells #[v, .string y] 27))
  have HK := Lib.hid (ikeysok_any v ks (w.alloc (.cells #[v, .string y] 27)) (keysAt_below h hb) hs)
  obtain ⟨a, cap, rfl, -, -⟩ := h
  unfold codeOkB
  dsimp only
  obtain ⟨x0, x1, -, -⟩ := row2_of HX.out
  clear hb
  go_enter Try.func110, Try.ntmps110
  by_cases h1 : ks.length ≤ 6
  · have i1 : ¬ (6 : Int) < (ks.length : Int) := by omega
    have i2 : (ks.length : Int) ≤ 6 := by omega
    go_wp2_with fail
    generalize w.alloc (.cells #[.slice a ks.length cap, .string y] 27) = W at *
    refine HK.out.mono ?_
    rintro e w1 ⟨rfl, hb1⟩
    have HB1 := Lib.hid (HB.out.trans (hb1.mono HB.out.size))
    clear x0 x1
    obtain ⟨x0, x1⟩ := cd_cells HX.out hb1
    clear hb1 HK HX HB
    cases h2 : keysOkR ks with
    | false =>
      go_wp2
      go_ret
      exact ⟨by simp [h1, h2], HB1.out⟩
    | true =>
      by_cases h3 : y.size = 4
      · have i3 : (y.size : Int) = 4 := by omega
        by_cases h4 : 0 < ks.length
        · have i4 : (0 : Int) < (ks.length : Int) := by omega
          go_wp2
          go_ret
          exact ⟨by simp [h1, h2, h3, h4], HB1.out⟩
        · have i4 : ¬ (0 : Int) < (ks.length : Int) := by omega
          have AE := fun w => arr_eql y z4 h3 rfl w
          have AG := fun op x z w => arr_guard op x z y z4 w
          have HL := Lib.hid (iloadbytes_any y w1 h3)
          obtain ⟨p, q, r, s, hp⟩ := arr4_lit y h3
          rw [hp] at AE AG HL
          rw [show arr4 z4 = .agg #[.int .u8 0, .int .u8 0, .int .u8 0, .int .u8 0] from rfl] at AE AG
          rw [show z4.data.toList = zero4L from rfl, ← z4_eq] at AE
          clear hp
          generalize hbo : decide (y = z4) = bo at *
          go_wp2_with fail
          refine HL.out.mono ?_
          rintro e w2 ⟨rfl, hb2⟩
          have HB2 := Lib.hid (HB1.out.trans (hb2.mono HB1.out.size))
          clear hb2 HL x0 x1 HB1
          go_wp2
          go_ret
          exact ⟨by rw [← hbo]; simp [h1, h2, h3, h4], HB2.out⟩
      · have i3 : ¬ (y.size : Int) = 4 := by omega
        go_wp2
        go_ret
        exact ⟨by simp [h1, h2, h3], HB1.out⟩
  · have i1 : (6 : Int) < (ks.length : Int) := by omega
    have i2 : ¬ (ks.length : Int) ≤ 6 := by omega
    go_wp2
    go_ret
    exact ⟨by simp [h1], HB.out⟩
end Go.Proofs.Ytbbjpjkclealfaa
namespace Go.Proofs.Ytbbjpjkclealfaa
open Go.ChangeShapes Go.WideShapes Go.ChangeAt Go.RowKit Go.BigFrame
set_option linter.unusedVariables false

/-- rows, as they lie one behind the other -/
def rowsC (R : List W2) : List Value := R.flatMap fun x => rowV (hX x)
theorem rowsC_snoc (R : List W2) (x : W2) : rowsC (R ++ [x]) = rowsC R ++ rowV (hX x) := by simp [rowsC]
theorem rowsC_len : ∀ R : List W2, (rowsC R).length = R.length * 32
  | [] => rfl
  | x :: R => by
    have := rowsC_len R
    simp only [rowsC, List.flatMap_cons, List.length_append, List.length_cons, rowV_len] at *
    omega
theorem rowsC_get : ∀ (R : List W2) (i j : Nat), i < R.length → j < 32 → (rowsC R)[i * 32 + j]? = (rowV (hX (R.getD i zW)))[j]?
  | [], _, _, h, _ => by simp at h
  | x :: R, 0, j, _, hj => by
    simp only [rowsC, List.flatMap_cons, List.getD_cons_zero, Nat.zero_mul, Nat.zero_add]
    rw [List.getElem?_append_left (by rw [rowV_len]; exact hj)]
  | x :: R, i + 1, j, h, hj => by
    have ih := rowsC_get R i j (by simpa using h) hj
    simp only [rowsC, List.flatMap_cons, List.getD_cons_succ] at *
    rw [List.getElem?_append_right (by rw [rowV_len]; omega), rowV_len, show (i + 1) * 32 + j - 32 = i * 32 + j by omega]
    exact ih
def setL : List Value → Nat → List Value → List Value
  | xs, _, [] => xs
  | xs, o, v :: r => setL (xs.set o v) (o + 1) r
theorem setL_cons (x : Value) : ∀ (vs : List Value) (xs : List Value) (o : Nat), setL (x :: xs) (o + 1) vs = x :: setL xs o vs
  | [], _, _ => rfl
  | v :: r, xs, o => by
    show setL ((x :: xs).set (o + 1) v) (o + 1 + 1) r = _
    rw [List.set_cons_succ]
    exact setL_cons x r (xs.set o v) (o + 1)
theorem setL_front : ∀ (a b post : List Value), a.length = b.length → setL (a ++ post) 0 b = b ++ post
  | [], [], _, _ => rfl
  | x :: a, y :: b, post, h => by
    show setL ((x :: (a ++ post)).set 0 y) (0 + 1) b = _
    rw [List.set_cons_zero, setL_cons, setL_front a b post (by simpa using h)]
    rfl
  | [], y :: b, _, h => by simp at h
  | x :: a, [], _, h => by simp at h
theorem setL_mid : ∀ (pre a b post : List Value), a.length = b.length → setL (pre ++ (a ++ post)) pre.length b = pre ++ (b ++ post)
  | [], a, b, post, h => setL_front a b post h
  | x :: pre, a, b, post, h => by
    show setL (x :: (pre ++ (a ++ post))) (pre.length + 1) b = _
    rw [setL_cons, setL_mid pre a b post h]
    rfl
theorem setL_rows : ∀ (R : List W2) (i : Nat) (x : W2), i < R.length → setL (rowsC R) (i * 32) (rowV (hX x)) = rowsC (R.set i x) := by
  intro R i x hi
  have e1 : R = R.take i ++ (R.getD i zW :: R.drop (i + 1)) := by
    rw [List.getD, List.getElem?_eq_getElem hi]
    show R = R.take i ++ (R[i] :: R.drop (i + 1))
    rw [← List.drop_eq_getElem_cons hi, List.take_append_drop]
  have e2 : R.set i x = R.take i ++ (x :: R.drop (i + 1)) := List.set_eq_take_append_cons_drop .. |>.trans (by rw [if_pos hi])
  have hl : (rowsC (R.take i)).length = i * 32 := by rw [rowsC_len, List.length_take, Nat.min_eq_left (by omega)]
  have h1 : rowsC R = rowsC (R.take i) ++ (rowV (hX (R.getD i zW)) ++ rowsC (R.drop (i + 1))) := by
    rw [e1]
    simp only [rowsC, List.flatMap_append, List.flatMap_cons]
    rw [← e1]
  have h2 : rowsC (R.set i x) = rowsC (R.take i) ++ (rowV (hX x) ++ rowsC (R.drop (i + 1))) := by
    rw [e2]
    simp only [rowsC, List.flatMap_append, List.flatMap_cons]
  rw [h1, h2, ← hl]
  exact setL_mid _ _ _ _ (by rw [rowV_len, rowV_len])
theorem own_setCells : ∀ (vs : List Value) (o : Nat) (w : World) {base g cap n : Nat} {e : TypeId} {size : Nat} {xs : List Value}, w.ownsRow base e size (.slice (some ⟨g, 0, none⟩) n cap) n xs →
    (w.setCells g o vs).ownsRow base e size (.slice (some ⟨g, 0, none⟩) n cap) n (setL xs o vs)
  | [], _, _, _, _, _, _, _, _, _, h => h
  | v :: r, o, w, _, _, _, _, _, _, _, h => by
    have h1 := (h.stored o v).1
    exact own_setCells r (o + 1) _ h1
theorem grown_setCells (g : Nat) : ∀ (vs : List Value) (o : Nat) (w : World), w.grownBy (w.setCells g o vs) (some g)
  | [], _, w => World.grownBy.refl _ _
  | v :: r, o, w => grown_trans (Lib.grownBy_setCell w g o v) (grown_setCells g r (o + 1) _)
/-- rows of one's own -/
def rwOwn (W : World) (base : Nat) (v : Value) (R : List W2) : Prop := W.ownsRow base 79 32 v R.length (rowsC R)
theorem rwOwn.range {W : World} {base g cap : Nat} {R : List W2} (h : rwOwn W base (.slice (some ⟨g, 0, none⟩) R.length cap) R) (i : Nat) (hi : i < R.length) : W.rangeAt g (i * 32) (rowV (hX (R.getD i zW))) := by
  intro j v hj
  have hj32 : j < 32 := by have := (List.getElem?_eq_some_iff.1 hj).1; rwa [rowV_len] at this
  rw [World.ownsRow.cellAt h (i * 32 + j) (by omega), rowsC_get R i j hi hj32]
  exact hj
theorem rwOwn.there {W : World} {base g cap : Nat} {R : List W2} (h : rwOwn W base (.slice (some ⟨g, 0, none⟩) R.length cap) R) (i : Nat) (hi : i < R.length) : W.there g (i * 32) 32 := by
  intro j hj
  refine ⟨?_, World.ownsRow.frozenAt h _⟩
  rw [World.ownsRow.cellAt h (i * 32 + j) (by omega), rowsC_get R i j hi hj, rowV_get _ j hj]
  rfl
theorem rwOwn.set {W : World} {base g cap : Nat} {R : List W2} (h : rwOwn W base (.slice (some ⟨g, 0, none⟩) R.length cap) R) (i : Nat) (x : W2) (hi : i < R.length) : rwOwn (W.setCells g (i * 32) (rowV (hX x))) base (.slice (some ⟨g, 0, none⟩) R.length cap) (R.set i x) := by
  have := own_setCells (rowV (hX x)) (i * 32) W h
  rw [setL_rows R i x hi] at this
  unfold rwOwn
  rw [List.length_set]
  exact this
theorem infoRow : (Try.prog.info? 79).map (fun i => (i.zero, i.size, i.bytes)) = some (some (.agg (rowA fun _ => false)), 32, 256) := by
  rw [← rowA_zero]; kernel_rfl
theorem run_append_rw {w : World} {base : Nat} {v : Value} {R : List W2} (hown : rwOwn w base v R) (g : Nat) (x : W2) (hu : w.heap[g]? = some (.cells (rowA (hX x)) 79 (0, 0))) (ty : TypeId) (hn : R.length ≤ 1000) (hbase : base ≤ w.heap.size) :
    ∃ v' w', (Builtin.append_ #[71, 71] ty #[v, .slice (some ⟨g, 0, none⟩) 1 1]).run Try.prog w = .ok v' w' ∧ rwOwn w' base v' (R ++ [x]) ∧ w.grownBy w' v.ownBlock := by
  obtain ⟨i0, hi, hz0, hz1, hz2⟩ := info_parts infoRow
  obtain ⟨v', w', hr, h2, h3, h4, h5⟩ := run_append_own_at (P := Try.prog) w base 71 ty 79 i0 (.agg (rowA fun _ => false)) 32 256 Try.underlying71 hi hz0 hz1 hz2 (by show (rowA fun _ => false).size = 32; exact rowA_size _) (by decide) v R.length (rowsC R) hown ⟨g, 0, none⟩ 1 1 (rowV (hX x)) (by rw [rowV_len])
    (fun j u hj => by
      have hadd : (⟨g, 0, none⟩ : Addr).add j = ⟨g, j, none⟩ := by unfold Addr.add; split <;> simp_all
      rw [hadd, cell_of_row _ _ _ _ _ _ hu]
      unfold rowA
      rw [List.getElem?_toArray]; exact hj) (rowV_one _) (by unfold maxLen; omega) (by omega) hbase
  refine ⟨v', w', hr, ?_, h3⟩
  unfold rwOwn
  rw [List.length_append, rowsC_snoc]
  exact h2
theorem wpList_append_rw {ops : Array Oper} {rest : List Oper} {o : Oper} {a : Act} {w : World} {Q : Exit → Act → World → Prop} (hgd : o.guard = none) (s x : Operand)
    (ho : o.op = .call { callee := .builtin .append, args := #[s, x], argTypes := #[71, 71] })
    {base : Nat} {v : Value} {R : List W2} (hown : rwOwn w base v R) (g : Nat) (u : W2) (hu : w.heap[g]? = some (.cells (rowA (hX u)) 79 (0, 0))) (hs : a.eval s = v) (hx : a.eval x = .slice (some ⟨g, 0, none⟩) 1 1) (hn : R.length ≤ 1000) (hbase : base ≤ w.heap.size)
    (h : ∀ v' w', rwOwn w' base v' (R ++ [u]) → w.grownBy w' v.ownBlock → wpList Try.prog ops Q rest (a.put o.dst v') w') : wpList Try.prog ops Q (o :: rest) a w := by
  refine wpList_plain hgd fun K hK => ?_
  obtain ⟨v', w', hr, h2, h3⟩ := run_append_rw hown g u hu o.type hn hbase
  unfold Oper.wp execOp
  simp only [ho, resolve, invoke, builtin, Sem.run_bind, Sem.run_pure, Result.andThen_ok, List.map_toArray, List.map_cons, List.map_nil, hs, hx, hr]
  exact hK _ _ (h v' w' h2 h3)
theorem fold_row (f : Nat → Bool) : Array.foldl (fun (cs : Array Value) x => cs.setIfInBounds x.snd x.fst) #[Value.int .u64 0, Value.int .u64 0, Value.int .u64 0, Value.int .u64 0, Value.int .u64 0, Value.int .u64 0, Value.int .u64 0, Value.int .u64 0, Value.int .u64 0, Value.int .u64 0, Value.int .u64 0, Value.int .u64 0, Value.int .u64 0, Value.int .u64 0, Value.int .u64 0, Value.int .u64 0, Value.int .u64 0, Value.int .u64 0, Value.int .u64 0, Value.int .u64 0, Value.int .u64 0, Value.int .u64 0, Value.int .u64 0, Value.int .u64 0, Value.int .u64 0, Value.int .u64 0, Value.int .u64 0, Value.int .u64 0, Value.int .u64 0, Value.int .u64 0, Value.int .u64 0, Value.int .u64 0] ((rowA f).zipIdx 0) 0 (rowA f).size = rowA f := by kernel_rfl
end Go.Proofs.Ytbbjpjkclealfaa
namespace Go.Proofs.Ytbbjpjkclealfaa
open Go.ChangeShapes Go.WideShapes Go.ChangeAt Go.RowKit Go.BigFrame
set_option linter.unusedVariables false

attribute [local irreducible] rowA
set_option maxRecDepth 100000 in
set_option maxHeartbeats 2000000 in
theorem ieq_any (vl : Value) (L : List C2) (w : World) (h : cdAv w none vl L) (hl : L.length ≤ 1900000) (hks : ∀ x ∈ L, x.1.length ≤ 2000000) :
    Calls Try.prog 88 #[vl] w fun e w' => ∃ v, e = .returned v ∧ rwOwn w' w.heap.size v (rowsN L L.length) ∧ Below w.heap.size w w' := by
  have h0 : rwOwn w w.heap.size (.slice none 0 0) [] := World.ownsRow_nil _ _ _ _
  have H0 := Lib.hid h0
  clear h0
  obtain ⟨al, cl, rfl, hcl, hcells⟩ := h
  go_enter Try.func88, Try.ntmps88
  go_wp2_with fail
  go_loopw [3, 8] (fun v i wr => ∃ (k : Nat) (a : Option Addr) (c : Nat), k ≤ L.length ∧ i = .int .i64 k ∧ v = .slice a (rowsN L k).length c ∧ rwOwn wr w.heap.size v (rowsN L k) ∧ Below w.heap.size w wr) (fun _ i _ => L.length - (intOf i).toNat)
  case atStart => exact ⟨0, none, 0, Nat.zero_le _, rfl, rfl, H0.out, Below.refl _ _⟩
  case round =>
    obtain ⟨k, a, c, hk, rfl, rfl, ho, hB⟩ := hrel
    have HO := Lib.hid ho
    have HB := Lib.hid hB
    have hml := (rowsN_le L k).1
    clear ho hB H0
    rename_i wr
    by_cases hlt : k < L.length
    · obtain ⟨gl, off, rfl, hg, hcs⟩ := hcells.resolve_left (by omega)
      have z0 : (0 : Int) ≤ (k : Int) := by omega
      have z1 : (k : Int) < (L.length : Int) := by omega
      obtain ⟨u, c1, c2, c3⟩ := hcs k hlt
      have hxl := hks (L.getD k blankC) (by rw [List.getD, List.getElem?_eq_getElem hlt]; exact List.getElem_mem hlt)
      have hyes := fun hck => rowsN_yes (l := L) (i := k) hck
      have hno := fun hck => rowsN_no (l := L) (i := k) hck
      generalize L.getD k blankC = x at *
      have d1 := (HB.out.cell (p := ⟨gl, off + k * 2, none⟩) hg).trans c1
      have d2 := (HB.out.cell (p := ⟨gl, off + k * 2 + 1, none⟩) hg).trans c2
      have hx0 := keysAt_below c3.to HB.out
      obtain ⟨au, cu, rfl, -, -⟩ := c3
      have hbA := (Below.refl wr.heap.size wr).alloc (Nat.le_refl _) (.cells #[.slice au x.1.length cu, .string x.2] 27)
      have HX := Lib.hid (heap_alloc_new wr (.cells #[.slice au x.1.length cu, .string x.2] 27))
      have HK := Lib.hid (keysAt_below hx0 hbA)
      have HBA := Lib.hid (HB.out.trans (hbA.mono HB.out.size))
      have HOA := Lib.hid (show rwOwn _ _ _ _ from own_below HO.out hbA)
      clear hcells hcs c1 c2 hks hx0 hbA
      by_cases hm : (rowsN L k).length = 20
      · have m1 : ((rowsN L k).length : Int) = 20 := by omega
        have hf := rowsN_full (l := L) (i := k) hm (L.length - k)
        rw [show k + (L.length - k) = L.length by omega] at hf
        have HF := Lib.hid hf
        clear hf hyes hno hm
        go_wp2_with fail
        go_ret
        exact ⟨_, rfl, by rw [HF.out]; exact HOA.out, HBA.out⟩
      · have m1 : ¬ ((rowsN L k).length : Int) = 20 := by omega
        go_wp2_with fail
        generalize wr.alloc (.cells #[.slice au x.1.length cu, .string x.2] 27) = W at *
        obtain ⟨x0, x1, -, -⟩ := row2_of HX.out
        go_wp2_with fail
        refine (icodeok_any _ x.1 x.2 W HK.out hxl).mono ?_
        rintro e w1 ⟨rfl, hb1⟩
        have HX1 := Lib.hid ((hb1.block _ (Array.getElem?_eq_some_iff.1 HX.out).1).trans HX.out)
        have HK1 := Lib.hid (keysAt_below HK.out hb1)
        have HB1 := Lib.hid (HBA.out.trans (hb1.mono HBA.out.size))
        have HO1 := Lib.hid (show rwOwn _ _ _ _ from own_below HOA.out hb1)
        clear hb1 HX HK HBA HOA x0 x1
        cases hck : codeOkB (x.1, x.2) with
        | false =>
          have HN := Lib.hid (hno hck)
          clear hyes hno hck
          go_wp2_with fail
          exact ⟨⟨k + 1, a, c, by omega, by go_num, by rw [HN.out], by rw [HN.out]; exact HO1.out, HB1.out⟩, by simp [intOf]; omega⟩
        | true =>
          have HY := Lib.hid (hyes hck (by omega))
          have hw := ok_w hck
          generalize hxw : (⟨x, hw⟩ : W2) = xw at *
          have hx1 : x = xw.1 := by rw [← hxw]
          subst hx1
          have IR := Lib.hid (fun w' (hb : Below w1.heap.size w1 w') => irow_any (.slice au xw.1.1.length cu) xw.1.1 xw.1.2 w' (keysAt_below HK1.out hb) xw.2.1 xw.2.2)
          obtain ⟨x0, x1, -, -⟩ := row2_of HX1.out
          clear hyes hno hck HK1 hxw hw
          go_wp2_with fail
          refine (IR.out _ (Below.refl _ _)).mono ?_
          rintro e w2 ⟨rfl, hb2⟩
          have HB2 := Lib.hid (HB1.out.trans (hb2.mono HB1.out.size))
          have HO2 := Lib.hid (show rwOwn _ _ _ _ from own_below HO1.out hb2)
          clear hb2 HX1 HB1 HO1 x0 x1 IR
          rw [show hasX (xw.1.1, xw.1.2) = hX xw from rfl]
          have hbA := (Below.refl w2.heap.size w2).alloc (Nat.le_refl _) (.cells (rowA (hX xw)) 79)
          have HA := Lib.hid (heap_alloc_new w2 (.cells (rowA (hX xw)) 79))
          have HB3 := Lib.hid (HB2.out.trans (hbA.mono HB2.out.size))
          have HO3 := Lib.hid (show rwOwn _ _ _ _ from own_below HO2.out hbA)
          have hsz := HB3.out.size
          have hfold := fold_row (hX xw)
          have hrs := rowA_size (hX xw)
          have hfold2 := hfold
          rw [hrs] at hfold2
          clear hbA HB2 HO2
          go_wp2_with (at_builtin; refine wpList_append_rw rfl (.tmp 17) (.tmp 20) rfl HO3.out w2.heap.size xw HA.out rfl rfl (by omega) hsz ?_; intro v5 w5 hown5 hgr5)
          have hB5 := HB3.out.grown hgr5 hsz (fun j e => (HO3.out.lt j e).1)
          rcases ownsRowK_shape hown5 with ⟨-, hz⟩ | ⟨g3, c3, rfl, -⟩
          · simp at hz
          · exact ⟨⟨k + 1, some ⟨g3, 0, none⟩, c3, by omega, by go_num, by rw [HY.out], by rw [HY.out]; exact hown5, hB5⟩, by simp [intOf]; omega⟩
    · obtain rfl : k = L.length := by omega
      clear hcells hks
      go_wp2_with fail
      go_ret
      exact ⟨_, rfl, HO.out, HB.out⟩
end Go.Proofs.Ytbbjpjkclealfaa
namespace Go.Proofs.Ytbbjpjkclealfaa
open Go.ChangeShapes Go.WideShapes Go.ChangeAt Go.RowKit Go.BigFrame
set_option linter.unusedVariables false

theorem wpStill_load {P : Program} {ops : Array Oper} {w : World} {Q : Act → Prop} {a : Act} {o : Oper} {rest : List Oper} (ty : TypeId) (x : Operand) (p : Addr) (v : Value) (hw : Region.wanted o (yielded ops a.tmps) = true) (ho : o.op = .load ty x)
    (hx : a.eval x = .pointer (some p)) (hl : (loadVar ty p).run P w = .ok v w) (h : wpStill P ops w Q rest (a.put o.dst v)) : wpStill P ops w Q (o :: rest) a := by
  refine wpStill_step fun K hK => ?_
  rw [if_pos hw]
  unfold Oper.still execOp
  simp only [ho, hx, Instr.loadAt, Instr.sureAddr, Sem.run_bind, Sem.run_pure, Result.andThen_ok, hl]
  rw [Oper.stillUpon_value]
  exact hK _ h
def pivC (P : List Nat) : List Value := P.map fun (p : Nat) => Value.int .i64 (p : Int)
theorem pivC_snoc (P : List Nat) (p : Nat) : pivC (P ++ [p]) = pivC P ++ [.int .i64 (p : Int)] := by simp [pivC]
theorem pivC_get (P : List Nat) (i : Nat) (hi : i < P.length) : (pivC P)[i]? = some (.int .i64 ((P.getD i 0 : Nat) : Int)) := by simp [pivC, hi]
theorem infoI : (Try.prog.info? 3).map (fun i => (i.zero, i.size, i.bytes)) = some (some (.int .i64 0), 1, 8) := by kernel_rfl
theorem wpList_append_piv {ops : Array Oper} {rest : List Oper} {o : Oper} {a : Act} {w : World} {Q : Exit → Act → World → Prop} (hgd : o.guard = none) (s x : Operand)
    (ho : o.op = .call { callee := .builtin .append, args := #[s, x], argTypes := #[72, 72] })
    {base : Nat} {v : Value} {P : List Nat} (hown : w.ownsRow base 3 1 v P.length (pivC P)) (g : Nat) (p : Nat) (hu : w.heap[g]? = some (.cells #[.int .i64 (p : Int)] 3 (0, 0))) (hs : a.eval s = v) (hx : a.eval x = .slice (some ⟨g, 0, none⟩) 1 1) (hn : P.length ≤ 100000) (hbase : base ≤ w.heap.size)
    (h : ∀ v' w', w'.ownsRow base 3 1 v' (P ++ [p]).length (pivC (P ++ [p])) → w.grownBy w' v.ownBlock → (v'.ownBlock = v.ownBlock ∨ v'.ownBlock = some w.heap.size) → wpList Try.prog ops Q rest (a.put o.dst v') w') : wpList Try.prog ops Q (o :: rest) a w := by
  refine wpList_plain hgd fun K hK => ?_
  obtain ⟨i0, hi, hz0, hz1, hz2⟩ := info_parts infoI
  obtain ⟨v', w', hr, h2, h3, h4, h5⟩ := run_append_own_at (P := Try.prog) w base 72 o.type 3 i0 (.int .i64 0) 1 8 Try.underlying72 hi hz0 hz1 hz2 rfl (by decide) v P.length (pivC P) hown ⟨g, 0, none⟩ 1 1 [.int .i64 (p : Int)] rfl
    (fun j u hj => by
      have hadd : (⟨g, 0, none⟩ : Addr).add j = ⟨g, j, none⟩ := by unfold Addr.add; split <;> simp_all
      rw [hadd, cell_of_row _ _ _ _ _ _ hu]
      simpa using hj) (fun u hu => by rcases List.mem_singleton.1 hu with rfl; rfl) (by unfold maxLen; omega) (by omega) hbase
  unfold Oper.wp execOp
  simp only [ho, resolve, invoke, builtin, Sem.run_bind, Sem.run_pure, Result.andThen_ok, List.map_toArray, List.map_cons, List.map_nil, hs, hx, hr]
  refine hK _ _ (h v' w' ?_ h3 h5)
  rw [List.length_append, pivC_snoc]
  exact h2
theorem Alike.setCells {w w' : World} (h : Alike w w') (g : Nat) : ∀ (vs : List Value) (o : Nat), Alike (w.setCells g o vs) (w'.setCells g o vs) := by
  intro vs
  induction vs generalizing w w' with
  | nil => intro o; exact h
  | cons v r ih => intro o; exact ih (h.setCell _ _) (o + 1)
/-- rows and pivots of one's own -/
structure RwP (w W : World) (a : Option Addr) (n c : Nat) (R : List W2) (v3 : Value) (P : List Nat) : Prop where
  below : Below w.heap.size w W
  len : R.length = n
  rows : W.ownsRow w.heap.size 79 32 (.slice a n c) n (rowsC R)
  piv : W.ownsRow w.heap.size 3 1 v3 P.length (pivC P)
  ne : v3.ownBlock = none ∨ v3.ownBlock ≠ (Value.slice a n c).ownBlock
theorem RwP.next {w W W' : World} {a : Option Addr} {n c : Nat} {R : List W2} {v3 : Value} {P : List Nat} (h : RwP w W a n c R v3 P) (hb : Below W.heap.size W W') : RwP w W' a n c R v3 P :=
  ⟨h.below.trans (hb.mono h.below.size), h.len, own_below h.rows hb, own_below h.piv hb, h.ne⟩
theorem RwP.alike {w W W' : World} {a : Option Addr} {n c : Nat} {R : List W2} {v3 : Value} {P : List Nat} (h : RwP w W a n c R v3 P) (ha : Alike W W') : RwP w W' a n c R v3 P := h.next ha.below
theorem RwP.own {w W : World} {g n c : Nat} {R : List W2} {v3 : Value} {P : List Nat} (h : RwP w W (some ⟨g, 0, none⟩) n c R v3 P) : rwOwn W w.heap.size (.slice (some ⟨g, 0, none⟩) R.length c) R := by
  have := h.rows
  unfold rwOwn
  rw [h.len]; exact this
theorem RwP.set {w W : World} {g n c : Nat} {R : List W2} {v3 : Value} {P : List Nat} (h : RwP w W (some ⟨g, 0, none⟩) n c R v3 P) (i : Nat) (x : W2) (hi : i < n) : RwP w (W.setCells g (i * 32) (rowV (hX x))) (some ⟨g, 0, none⟩) n c (R.set i x) v3 P := by
  have hl := h.len
  have hg := h.rows.lt g rfl
  have hgr := grown_setCells g (rowV (hX x)) (i * 32) W
  refine ⟨h.below.grown hgr h.below.size (fun j e => by cases e; exact hg.1), by rw [List.length_set, hl], ?_, h.piv.kept hgr (h.ne.imp_right fun hne e => hne e), h.ne⟩
  have := h.own.set i x (by omega)
  unfold rwOwn at this
  rw [List.length_set, hl] at this
  exact this
theorem RwP.swap {w W : World} {g n c : Nat} {R : List W2} {v3 : Value} {P : List Nat} (h : RwP w W (some ⟨g, 0, none⟩) n c R v3 P) (i j : Nat) (hi : i < n) (hj : j < n) :
    RwP w ((W.setCells g (i * 32) (rowV (hX (R.getD j zW)))).setCells g (j * 32) (rowV (hX (R.getD i zW)))) (some ⟨g, 0, none⟩) n c (swapL R i j) v3 P := (h.set i (R.getD j zW) hi).set j (R.getD i zW) hj
theorem RwP.push {w W W' : World} {g n c : Nat} {R : List W2} {v3 v5 : Value} {P : List Nat} {p : Nat} (h : RwP w W (some ⟨g, 0, none⟩) n c R v3 P) (hgr : W.grownBy W' v3.ownBlock) (ho : W'.ownsRow w.heap.size 3 1 v5 (P ++ [p]).length (pivC (P ++ [p])))
    (hv : v5.ownBlock = v3.ownBlock ∨ v5.ownBlock = some W.heap.size) : RwP w W' (some ⟨g, 0, none⟩) n c R v5 (P ++ [p]) := by
  have hg := h.rows.lt g rfl
  have hne : (Value.slice (some ⟨g, 0, none⟩) n c).ownBlock ≠ v3.ownBlock := by
    rcases h.ne with e | e
    · rw [e]; intro e2; cases e2
    · exact fun e2 => e e2.symm
  refine ⟨h.below.grown hgr h.below.size (fun j e => (h.piv.lt j e).1), h.len, h.rows.kept hgr (.inr hne), ho, ?_⟩
  rcases hv with e | e
  · rw [e]; exact h.ne
  · right
    rw [e]
    intro e2
    have e3 : W.heap.size = g := Option.some.inj e2
    omega
theorem rowV_add (x y : W2) : (rowV fun p => hX x p != hX y p) = rowV (hX (grpW.add x y)) := rowV_congr fun p _ => (hX_add x y p).symm
/-- what is told of rows and pivots -/
structure SvE (w W : World) (v v3 : Value) (Lw R : List W2) (P : List Nat) : Prop where
  below : Below w.heap.size w W
  el : Elim Lw R P 2016
  few : P.length ≤ 20
  geR : ∀ b, v.ownBlock = some b → w.heap.size ≤ b
  geP : ∀ b, v3.ownBlock = some b → w.heap.size ≤ b
  rows : ∃ a c, v = .slice a P.length c ∧ P.length ≤ c ∧ (P.length = 0 ∨ ∃ g, a = some ⟨g, 0, none⟩ ∧ g < W.heap.size ∧ ∀ i, i < P.length → W.rangeAt g (i * 32) (rowV (hX (R.getD i zW))))
  piv : ∃ a c, v3 = .slice a P.length c ∧ P.length ≤ c ∧ (P.length = 0 ∨ ∃ g, a = some ⟨g, 0, none⟩ ∧ g < W.heap.size ∧ ∀ i, i < P.length → W.cell? ⟨g, i, none⟩ = some (.int .i64 ((P.getD i 0 : Nat) : Int)))
theorem SvE.next {w W W' : World} {v v3 : Value} {Lw R : List W2} {P : List Nat} (h : SvE w W v v3 Lw R P) (hb : Below W.heap.size W W') : SvE w W' v v3 Lw R P := by
  refine ⟨h.below.trans (hb.mono h.below.size), h.el, h.few, h.geR, h.geP, ?_, ?_⟩
  · obtain ⟨a, c, e1, e2, e3⟩ := h.rows
    refine ⟨a, c, e1, e2, e3.imp_right ?_⟩
    rintro ⟨g, e4, e5, e6⟩
    exact ⟨g, e4, Nat.lt_of_lt_of_le e5 hb.size, fun i hi j v hv => (hb.cell (p := ⟨g, i * 32 + j, none⟩) e5).trans (e6 i hi j v hv)⟩
  · obtain ⟨a, c, e1, e2, e3⟩ := h.piv
    refine ⟨a, c, e1, e2, e3.imp_right ?_⟩
    rintro ⟨g, e4, e5, e6⟩
    exact ⟨g, e4, Nat.lt_of_lt_of_le e5 hb.size, fun i hi => (hb.cell (p := ⟨g, i, none⟩) e5).trans (e6 i hi)⟩
theorem RwP.out {w W : World} {a : Option Addr} {n c : Nat} {R : List W2} {v3 : Value} {P : List Nat} {Lw : List W2} (h : RwP w W a n c R v3 P) (he : Elim Lw R P 2016) (hn : n ≤ 20) : SvE w W (.slice a P.length c) v3 Lw R P := by
  have hl := h.len
  have hPn : P.length ≤ n := by rw [← hl]; exact he.len
  refine ⟨h.below, he, by omega, fun b hb => (h.rows.lt b (by cases a with | none => cases hb | some x => exact hb)).1, fun b hb => (h.piv.lt b hb).1, ?_, ?_⟩
  · rcases h.rows.2 with ⟨e, h0⟩ | ⟨g, cap, cur, e, hb, hg, hnc, _⟩
    · cases e
      exact ⟨none, 0, rfl, by omega, .inl (by omega)⟩
    · cases e
      refine ⟨_, _, rfl, by omega, .inr ⟨g, rfl, (Array.getElem?_eq_some_iff.1 hg).1, fun i hi => h.own.range i (by omega)⟩⟩
  · rcases h.piv.2 with ⟨e, h0⟩ | ⟨g, cap, cur, e, hb, hg, hnc, _⟩
    · exact ⟨none, 0, by rw [e, h0], by omega, .inl h0⟩
    · subst e
      refine ⟨_, _, rfl, hnc, .inr ⟨g, rfl, (Array.getElem?_eq_some_iff.1 hg).1, fun i hi => ?_⟩⟩
      rw [h.piv.cellAt i (by omega)]
      exact pivC_get P i hi
end Go.Proofs.Ytbbjpjkclealfaa
namespace Go.Proofs.Ytbbjpjkclealfaa
open Go.ChangeShapes Go.WideShapes Go.ChangeAt Go.RowKit Go.BigFrame
set_option linter.unusedVariables false

attribute [local irreducible] rowV rowA
set_option maxRecDepth 100000 in
set_option maxHeartbeats 3000000 in
theorem isolved_any (vl : Value) (L : List C2) (w : World) (h : cdAv w none vl L) (hl : L.length ≤ 1900000) (hks : ∀ x ∈ L, x.1.length ≤ 2000000) :
    Calls Try.prog 45 #[vl] w fun e w' => ∃ v v3 R P, e = .returned (.tuple #[v, v3]) ∧ SvE w w' v v3 (rowsN L L.length) R P := by
  have H := Lib.hid (ieq_any vl L w h hl hks)
  have hn20 := (rowsN_le L L.length).1
  go_enter Try.func45, Try.ntmps45
  go_wp2_with fail
  refine wp_scope_straight ?_
  go_wp2_with fail
  refine H.out.mono ?_
  rintro e w1 ⟨v1, rfl, ho1, hb1⟩
  generalize hRS : rowsN L L.length = RS at *
  obtain ⟨a, n, c, hv1, hn⟩ : ∃ a n c, v1 = .slice a n c ∧ RS.length = n := by
    rcases ownsRowK_shape ho1 with ⟨e1, h0⟩ | ⟨g, cap, e1, -⟩
    · exact ⟨none, 0, 0, e1, h0⟩
    · exact ⟨_, _, _, e1, rfl⟩
  subst hv1
  have ho1' : w1.ownsRow w.heap.size 79 32 (.slice a n c) n (rowsC RS) := by
    have := ho1; unfold rwOwn at this; rw [hn] at this; exact this
  have H1 := Lib.hid (show RwP w w1 a n c RS (.slice none 0 0) [] from ⟨hb1, hn, ho1', World.ownsRow_nil _ _ _ _, .inl rfl⟩)
  have HE := Lib.hid (Elim.start RS)
  have hnn : n ≤ 20 := by omega
  clear ho1 ho1' hb1 H hn hn20
  go_wp2_with fail
  try (refine wp_label ?_)
  try go_wp2_with fail
  go_loopw [3, 10] (fun v i wr => ∃ (p : Nat) (R : List W2) (P : List Nat) (a3 : Option Addr) (c3 : Nat), p ≤ 2016 ∧ i = .int .i64 p ∧ v = .slice a3 P.length c3 ∧ RwP w wr a n c R v P ∧ Elim RS R P p) (fun _ i _ => 2016 - (intOf i).toNat)
  case atStart => exact ⟨0, RS, [], none, 0, Nat.zero_le _, rfl, rfl, H1.out, HE.out⟩
  case round =>
    obtain ⟨p, R, P, a3, c3, hp, rfl, rfl, hR, hE⟩ := hrel
    have HR := Lib.hid hR
    have HE := Lib.hid hE
    clear hR hE H1
    rename_i wr
    have hlen := HR.out.len
    have hPn := HE.out.len
    rw [hlen] at hPn
    clear hlen
    by_cases hlt : p < 2016
    · have z0 : (0 : Int) ≤ (p : Int) := by omega
      have z1 : (p : Int) < 2016 := by omega
      go_wp2_with fail
      obtain ⟨wo, rfl⟩ : ∃ wo : World, wo = wr := ⟨_, rfl⟩
      go_loopw [6] (fun i wx => ∃ (t : Nat), P.length ≤ t ∧ t ≤ n ∧ i = .int .i64 t ∧ wx = wo ∧ ∀ j, P.length ≤ j → j < t → hX (R.getD j zW) p = false) (fun i _ => n - (intOf i).toNat)
      case atStart => exact ⟨P.length, Nat.le_refl _, hPn, rfl, rfl, fun j h1 h2 => by omega⟩
      case round =>
        obtain ⟨t, ht1, ht2, rfl, hwx, hno⟩ := hrel
        have hwx' := hwx.symm
        clear hwx
        subst hwx'
        have HNO := Lib.hid hno
        clear hno
        by_cases htn : t = n
        · have y1 : (t : Int) = (n : Int) := by omega
          have hE2 := Lib.hid (HE.out.no fun j h1 h2 => HNO.out j h1 (by rw [HR.out.len] at h2; omega))
          go_wp2_with fail
          exact ⟨⟨p + 1, R, P, a3, c3, by omega, by go_num, rfl, HR.out, hE2.out⟩, by simp [intOf]; omega⟩
        · have y1 : ¬ (t : Int) = (n : Int) := by omega
          have y0 : (0 : Int) ≤ (t : Int) := by omega
          have y2 : (t : Int) < (n : Int) := by omega
          obtain ⟨g, rfl⟩ : ∃ g, a = some ⟨g, 0, none⟩ := by
            rcases HR.out.rows.2 with ⟨e1, h0⟩ | ⟨g, cap, cur, e1, _⟩
            · omega
            · cases e1; exact ⟨g, rfl⟩
          have hrt := HR.out.own.range t (by rw [HR.out.len]; omega)
          have IH := Lib.hid (ihas_any g (t * 32) (hX (R.getD t zW)) p (by omega) wo hrt)
          clear hrt
          go_wp2_with fail
          refine IH.out.mono ?_
          rintro e w2 ⟨rfl, hw2⟩
          have hw2' := hw2.symm
          clear hw2
          subst hw2'
          clear IH
          cases hx : hX (R.getD t zW) p with
          | false =>
            go_wp2_with fail
            exact ⟨⟨t + 1, by omega, by omega, by go_num, trivial, fun j h1 h2 => by
              rcases (by omega : j < t ∨ j = t) with h3 | rfl
              · exact HNO.out j h1 h3
              · exact hx⟩, by simp [intOf]; omega⟩
          | true =>
            have hd : P.length < n := by omega
            have HSW := Lib.hid (HE.out.swap ht1 (by rw [HR.out.len]; omega))
            have hxd : hX ((swapL R P.length t).getD P.length zW) p = true := by
              have hl := HR.out.len
              rw [swap_get R P.length t P.length (by omega) (by omega) (by omega)]
              by_cases e : P.length = t
              · rw [if_pos e, e]; exact hx
              · rw [if_neg e, if_pos rfl]; exact hx
            have HET := Lib.hid (HSW.out.turn (by rw [swap_len, HR.out.len]; exact hd) hxd)
            have HRD := Lib.hid (HR.out.next (Below.refl wo.heap.size wo).drew)
            have HRS2 := Lib.hid (HRD.out.swap P.length t hd (by omega))
            have hro := HRD.out.own
            have hrl := HRD.out.len
            have LD1 := run_loadVar_mid (P := Try.prog) wo.drew g (t * 32) 79 (rowV (hX (R.getD t zW))) _ (hro.range t (by omega)) Try.underlying79 rfl (by rw [rowV_len]; exact size_row)
            have LD2 := run_loadVar_mid (P := Try.prog) wo.drew g (P.length * 32) 79 (rowV (hX (R.getD P.length zW))) _ (hro.range P.length (by omega)) Try.underlying79 rfl (by rw [rowV_len]; exact size_row)
            have ht1' := hro.there P.length (by omega)
            have ht2' := World.there_setCells (hro.there t (by omega)) g (P.length * 32) (rowV (hX (R.getD t zW)))
            have hs1 := rowV_len (hX (R.getD t zW))
            have hs2 := rowV_len (hX (R.getD P.length zW))
            have ho1 : (rowV (hX (R.getD t zW))).toArray.all (·.oneCell') = true := all_oneCell_toArray (rowV_one _)
            have ho2 : (rowV (hX (R.getD P.length zW))).toArray.all (·.oneCell') = true := all_oneCell_toArray (rowV_one _)
            have y3 : (0 : Int) ≤ (P.length : Int) := by omega
            have y4 : (P.length : Int) < (n : Int) := by omega
            clear hro hrl hx hxd HSW HNO
            generalize rowV (hX (R.getD t zW)) = A1 at *
            generalize rowV (hX (R.getD P.length zW)) = A2 at *
            go_wp2_with fail
            refine wp_region_plan [2, 3] [true, true, false, false, true, true, true, true, true, true, true, true, true] 13 (by kernel_rfl) (by kernel_rfl) (by kernel_rfl) ?_
            simp only [maskRows, movesA, moveOf, List.getElem?_toArray, List.getElem?_cons_zero, List.getElem?_cons_succ, List.drop_succ_cons, List.drop_zero]
            repeat (first
              | (refine wpStill_load 79 _ _ _ rfl rfl rfl LD1 ?_; simp only [Act.put, List.setIfInBounds_toArray, List.set_cons_zero, List.set_cons_succ])
              | (refine wpStill_load 79 _ _ _ rfl rfl rfl LD2 ?_; simp only [Act.put, List.setIfInBounds_toArray, List.set_cons_zero, List.set_cons_succ])
              | still_step)
            refine wpStill_nil ?_
            intro K1 hK1
            refine wpList_store_mid rfl 79 (.tmp 39) (.tmp 34) rfl g (P.length * 32) A1.toArray rfl rfl (by rw [List.size_toArray, hs1]; exact ht1') (by rw [List.size_toArray, hs1]; exact size_row) ho1 ?_
            refine wpList_plain rfl (fun K hK => ?_)
            go_simp
            refine hK _ _ ?_
            clear hK K
            refine wpList_store_mid rfl 79 (.tmp 40) (.tmp 38) rfl g (t * 32) A2.toArray rfl rfl (by rw [List.size_toArray, hs2]; exact ht2') (by rw [List.size_toArray, hs2]; exact size_row) ho2 ?_
            apply wpList_nil
            refine hK1 _ _ ?_
            clear hK1 K1 LD1 LD2 ht1' ht2' ho1 ho2
            simp only [Act.put]
            generalize (wo.drew.setCells g (P.length * 32) A1).setCells g (t * 32) A2 = W5 at *
            rw [show (swapL R P.length t).length = n by rw [swap_len, HR.out.len]] at HET
            clear HR HRD HE hs1 hs2
            generalize swapL R P.length t = R5 at *
            have hR5 := HRS2.out.len
            go_wp2_with fail
            obtain ⟨wq, rfl⟩ : ∃ wq : World, wq = W5 := ⟨_, rfl⟩
            have HT0 := Lib.hid (show RwP w wq (some ⟨g, 0, none⟩) n c (turnL R5 P.length p 0) (.slice a3 P.length c3) P by rw [turn_zero]; exact HRS2.out)
            go_loopw [43] (fun i wx => ∃ (t : Nat) (wy : World), t ≤ n ∧ i = .int .i64 t ∧ wy = wx ∧ RwP w wy (some ⟨g, 0, none⟩) n c (turnL R5 P.length p t) (.slice a3 P.length c3) P) (fun i _ => n - (intOf i).toNat)
            case atStart => exact ⟨0, _, Nat.zero_le _, rfl, rfl, HT0.out⟩
            case round =>
              obtain ⟨i, wy, hi, rfl, hwy, hTT⟩ := hrel
              subst hwy
              have HTT := Lib.hid hTT
              clear hTT HT0 HRS2
              by_cases hin : i < n
              · have q0 : (0 : Int) ≤ (i : Int) := by omega
                have q1 : (i : Int) < (n : Int) := by omega
                have hat := turn_at R5 P.length p i (by omega)
                have hatd := turn_d R5 P.length p i (by omega)
                by_cases hid : i = P.length
                · have e1 : (i : Int) = (P.length : Int) := by omega
                  have hst := Lib.hid (turn_same R5 P.length p i (by omega) (.inl hid))
                  clear hat hatd hid
                  go_wp2_with fail
                  exact ⟨⟨i + 1, _, by omega, by go_num, rfl, by rw [hst.out]; exact HTT.out⟩, by simp [intOf]; omega⟩
                · have e1 : ¬ (i : Int) = (P.length : Int) := by omega
                  have hro := HTT.out.own
                  have hrl := HTT.out.len
                  have hri := hro.range i (by omega)
                  have hrd := hro.range P.length (by omega)
                  have hti := hro.there i (by omega)
                  rw [hat] at hri
                  rw [hatd] at hrd
                  have IH := Lib.hid (ihas_any g (i * 32) (hX (R5.getD i zW)) p (by omega) wy hri)
                  have HRI := Lib.hid (And.intro hri (And.intro hrd hti))
                  clear hro hri hrd hti hat hatd
                  go_wp2_with fail
                  refine IH.out.mono ?_
                  rintro e w2 ⟨rfl, hw2⟩
                  have hw2' := hw2.symm
                  clear hw2
                  subst hw2'
                  clear IH
                  cases hx : hX (R5.getD i zW) p with
                  | false =>
                    have hst := Lib.hid (turn_same R5 P.length p i (by omega) (.inr hx))
                    clear hx
                    go_wp2_with fail
                    exact ⟨⟨i + 1, _, by omega, by go_num, rfl, by rw [hst.out]; exact HTT.out⟩, by simp [intOf]; omega⟩
                  | true =>
                    have hst := Lib.hid (turn_step R5 P.length p i (by omega) hid hx)
                    have HSET := Lib.hid (fun W' (ha : Alike (wy.setCells g (i * 32) (rowV fun q => hX (R5.getD i zW) q != hX (R5.getD P.length zW) q)) W') => (show RwP w W' (some ⟨g, 0, none⟩) n c (turnL R5 P.length p (i + 1)) (.slice a3 P.length c3) P by
                      rw [rowV_add] at ha
                      rw [hst.out]
                      exact (HTT.out.set i _ hin).alike ha))
                    have IT := Lib.hid (fun w' (hb : Alike wy w') => iturn_any g (i * 32) (hX (R5.getD i zW)) g (P.length * 32) (hX (R5.getD P.length zW)) w' (fun j v hj => (hb.cell _).trans (HRI.out.1 j v hj)) (fun j v hj => (hb.cell _).trans (HRI.out.2.1 j v hj)) (fun j hj => ⟨by rw [hb.cell]; exact (HRI.out.2.2 j hj).1, by rw [hb.frozen]; exact (HRI.out.2.2 j hj).2⟩) (by right; omega))
                    have y3 : (0 : Int) ≤ (P.length : Int) := by omega
                    have y4 : (P.length : Int) < (n : Int) := by omega
                    clear hx hst HRI HTT
                    go_wp2_with fail
                    go_region_law (first
                      | (go_simp
                         go_at_call 50
                         refine (IT.out _ (by first | exact Alike.refl _ | exact (Alike.refl _).drew)).mono ?_
                         rintro e w5 ⟨rfl, ha5⟩
                         dsimp only))
                    all_goals
                      have HFF := Lib.hid (HSET.out _ (by first | exact ha5 | exact (Alike.setCells (Alike.refl wy).drew g _ _).trans ha5))
                      clear ha5 IT HSET
                      go_wp2
                      exact ⟨⟨i + 1, _, by omega, by go_num, rfl, HFF.out⟩, by simp [intOf]; omega⟩
              · obtain rfl : n = i := by omega
                have hbA := (Below.refl wy.heap.size wy).alloc (Nat.le_refl _) (.cells #[.int .i64 (p : Int)] 3)
                have HA := Lib.hid (heap_alloc_new wy (.cells #[.int .i64 (p : Int)] 3))
                have HTA := Lib.hid (HTT.out.next hbA)
                have hsz := HTA.out.below.size
                clear hbA HTT hR5
                go_wp2_with (at_builtin; refine wpList_append_piv rfl (.tmp 64) (.tmp 66) rfl HTA.out.piv wy.heap.size p HA.out rfl rfl (by omega) hsz ?_; intro v5 w5 hown5 hgr5 hv5)
                have HP := Lib.hid (HTA.out.push hgr5 hown5 hv5)
                rcases ownsRowK_shape hown5 with ⟨-, hz⟩ | ⟨g3, k3, rfl, -⟩
                · simp at hz
                · exact ⟨⟨p + 1, _, P ++ [p], some ⟨g3, 0, none⟩, k3, by omega, by go_num, rfl, HP.out, HET.out⟩, by simp [intOf]; omega⟩
    · obtain rfl : p = 2016 := by omega
      have HO := Lib.hid (HR.out.out HE.out (by omega))
      have hPc : (P.length : Int) ≤ (c : Int) := by
        have : n ≤ c := by
          rcases HR.out.rows.2 with ⟨e1, h0⟩ | ⟨g, cap, cur, e1, _, _, h3, _⟩
          · omega
          · cases e1; exact h3
        omega
      have hRSx := Lib.hid hRS
      clear hRS HR HE
      go_wp2_with fail
      rw [Exit.noGoto_ret]
      go_ret2
      exact ⟨_, _, R, P, rfl, by rw [hRSx.out]; exact HO.out⟩
end Go.Proofs.Ytbbjpjkclealfaa
namespace Go.Proofs.Ytbbjpjkclealfaa
open Go.ChangeShapes Go.WideShapes Go.ChangeAt Go.RowKit Go.BigFrame
set_option linter.unusedVariables false

theorem ofKeysN_take (P : List Nat) (k : Nat) (hk : k < P.length) : ofKeysN (P.take (k + 1)) = ofKeysN (P.take k) + if P.getD k 0 < 1984 then 1 else 0 := by
  unfold ofKeysN
  rw [List.take_succ_eq_append_getElem hk, List.filter_append, List.length_append]
  have e : P.getD k 0 = P[k] := by simp [List.getD, hk]
  rw [e]
  congr 1
  by_cases h : P[k] < 1984
  · simp [h]
  · simp [h]
theorem ofKeysN_le (P : List Nat) : ofKeysN P ≤ P.length := List.length_filter_le _ _
theorem iofkeys_any (v3 : Value) (P : List Nat) (w : World) (h : ∃ a c, v3 = .slice a P.length c ∧ P.length ≤ c ∧ (P.length = 0 ∨ ∃ g, a = some ⟨g, 0, none⟩ ∧ g < w.heap.size ∧ ∀ i, i < P.length → w.cell? ⟨g, i, none⟩ = some (.int .i64 ((P.getD i 0 : Nat) : Int)))) (hP : P.length ≤ 1000) :
    Calls Try.prog 46 #[v3] w fun e w' => e = .returned (.int .i64 (ofKeysN P : Nat)) ∧ w' = w := by
  obtain ⟨a, c, rfl, hc, hcells⟩ := h
  go_enter Try.func46, Try.ntmps46
  go_wp2_with fail
  go_loopw [3, 8] (fun v i wr => ∃ k : Nat, k ≤ P.length ∧ i = .int .i64 k ∧ v = .int .i64 (ofKeysN (P.take k) : Nat) ∧ w = wr) (fun _ i _ => P.length - (intOf i).toNat)
  case atStart => exact ⟨0, Nat.zero_le _, rfl, rfl, rfl⟩
  case round =>
    obtain ⟨k, hk, rfl, rfl, hw⟩ := hrel
    subst hw
    by_cases hlt : k < P.length
    · obtain ⟨g, rfl, hg, hcs⟩ := hcells.resolve_left (by omega)
      have z0 : (0 : Int) ≤ (k : Int) := by omega
      have z1 : (k : Int) < (P.length : Int) := by omega
      have c1 := hcs k hlt
      have hst := ofKeysN_take P k hlt
      have hle := ofKeysN_le (P.take k)
      rw [List.length_take] at hle
      have hle2 : ofKeysN (P.take k) ≤ 1000 := by omega
      generalize ofKeysN (P.take k) = m at *
      generalize P.getD k 0 = q at *
      have HST := Lib.hid hst
      clear hcells hcs hst hle
      by_cases hq : q < 1984
      · have q1 : (q : Int) < 1984 := by omega
        go_wp2
        exact ⟨⟨k + 1, by omega, by go_num, by rw [HST.out, if_pos hq]; go_num, trivial⟩, by simp [intOf]; omega⟩
      · have q1 : ¬ (q : Int) < 1984 := by omega
        go_wp2
        exact ⟨⟨k + 1, by omega, by go_num, by rw [HST.out, if_neg hq]; go_num, trivial⟩, by simp [intOf]; omega⟩
    · obtain rfl : k = P.length := by omega
      clear hcells
      rw [List.take_length]
      go_wp2
      go_ret
      exact ⟨rfl, rfl⟩
theorem irank_any (vl : Value) (L : List C2) (w : World) (h : cdAv w none vl L) (hl : L.length ≤ 1900000) (hks : ∀ x ∈ L, x.1.length ≤ 2000000) :
    Calls Try.prog 9 #[vl] w fun e w' => e = .returned (.int .i64 (rankM L : Nat)) ∧ Below w.heap.size w w' := by
  have H := Lib.hid (isolved_any vl L w h hl hks)
  go_enter Try.func9, Try.ntmps9
  go_wp2_with fail
  refine H.out.mono ?_
  rintro e w1 ⟨v, v3, R, P, rfl, hC⟩
  have hr := hC.el.rank
  have HI := Lib.hid (iofkeys_any v3 P w1 hC.piv (by have := hC.few; omega))
  rw [hr, show (baseG ordW (rowsN L L.length)).1.length = rankM L from rfl] at HI
  have HB := Lib.hid hC.below
  clear hC H hr
  go_wp2_with fail
  refine HI.out.mono ?_
  rintro e w2 ⟨rfl, rfl⟩
  go_wp2
  go_ret
  exact ⟨rfl, HB.out⟩
end Go.Proofs.Ytbbjpjkclealfaa
namespace Go.Proofs.Ytbbjpjkclealfaa
open Go.ChangeShapes Go.WideShapes Go.ChangeAt Go.RowKit Go.BigFrame
set_option linter.unusedVariables false

theorem cdAv.at {w : World} {b : Option Nat} {v : Value} {L : List C2} (h : cdAv w b v L) (i : Nat) (hi : i < L.length) :
    ∃ gl off cv u, v = .slice (some ⟨gl, off, none⟩) L.length cv ∧ gl < w.heap.size ∧ w.cell? ⟨gl, off + i * 2, none⟩ = some u ∧ w.cell? ⟨gl, off + i * 2 + 1, none⟩ = some (.string (L.getD i blankC).2) ∧ keysAv w b u (L.getD i blankC).1 := by
  obtain ⟨a, cap, rfl, hcap, hc⟩ := h
  obtain ⟨g, off, rfl, hg, hcs⟩ := hc.resolve_left (by omega)
  obtain ⟨u, c1, c2, c3⟩ := hcs i hi
  exact ⟨g, off, cap, u, rfl, hg, c1, c2, c3⟩
theorem own_lit0 (w : World) : cdOwn (w.alloc (.cells #[] 27)) w.heap.size (.slice (some ⟨w.heap.size, 0, none⟩) 0 0) [] [] :=
  ⟨rfl, World.ownsRow_made (base := w.heap.size) (e := 27) (size := 2) w #[] 0 (Nat.le_refl _) (by unfold maxLen; omega) rfl, fun i hi => by simp at hi⟩
theorem av_lit {w : World} {v : Value} {L : List C2} (h : cdAv w none v L) (o : Obj) : cdAv (w.alloc o) (some w.heap.size) v L := cdAv_below (h.avoid fun j hj e => by cases e; omega) ((Below.refl _ _).alloc (Nat.le_refl _) o)
theorem row_cells {w : World} {b : Nat} {u : Value} {z : C2} (h : w.heap[b]? = some (.cells #[u, .string z.2] 27 (0, 0))) : ∀ j q, (cdCells [u] [z])[j]? = some q → w.cell? ⟨b, j, none⟩ = some q := fun j q hj => by
  rw [cell_of_row _ _ _ _ _ _ h]; simpa [cdCells] using hj
end Go.Proofs.Ytbbjpjkclealfaa
namespace Go.Proofs.Ytbbjpjkclealfaa
open Go.ChangeShapes Go.WideShapes Go.ChangeAt Go.RowKit Go.BigFrame
set_option linter.unusedVariables false

set_option maxRecDepth 100000 in
set_option maxHeartbeats 4000000 in
theorem saddw_any (va : Value) (A : List K2) (ya : ByteArray) (vb : Value) (B : List K2) (yb : ByteArray) (w : World) (ha : keysAt w va A) (hb : keysAt w vb B) (hAl : A.length ≤ 1000000) (hBl : B.length ≤ 1000000) (hya : ya.size ≤ 1000000) (hyb : yb.size ≤ 1000000) :
    Calls Try.prog 42 #[.agg #[va, .string ya], .agg #[vb, .string yb]] w fun e w' => ∃ v', e = .returned (.agg #[v', .string (xorS ya yb)]) ∧
      w'.ownsRow w.heap.size 41 2 v' (mergeV false A B).length (keyCells (mergeV false A B)) ∧ Below w.heap.size w w' := by
  have HP := Lib.hid (cbc_new w va ya vb yb)
  have SP := Lib.hid (fun w' (h : Below w.heap.size w w') => sparted_any va vb A B w' (keysAt_below ha h) (keysAt_below hb h) (by omega) (by omega))
  have SX := Lib.hid (fun w' => sxor_any ya yb w' (by omega) (by omega))
  obtain ⟨aa, ca, hva, -, -⟩ := ha
  obtain ⟨ab, cb, hvb, -, -⟩ := hb
  subst hva; subst hvb
  clear hAl hBl hya hyb
  go_enter Try.func42, Try.ntmps42
  go_wp2_with fail
  generalize ((w.alloc (.cells #[.slice aa A.length ca, .string ya] 27)).alloc (.cells #[.slice ab B.length cb, .string yb] 27)).alloc (.cells #[.slice none 0 0, .string ⟨#[]⟩] 27) = W at *
  have L1 : ∀ w' : World, w'.heap[w.heap.size]? = some (.cells #[.slice aa A.length ca, .string ya] 27) ∧ w'.heap[w.heap.size + 1]? = some (.cells #[.slice ab B.length cb, .string yb] 27) → (loadVar 25 ⟨w.heap.size, 0, none⟩).run Try.prog w' = .ok (.slice aa A.length ca) w' := fun w' h => cd_loadk h.1 (Below.refl _ _)
  have L2 : ∀ w' : World, w'.heap[w.heap.size]? = some (.cells #[.slice aa A.length ca, .string ya] 27) ∧ w'.heap[w.heap.size + 1]? = some (.cells #[.slice ab B.length cb, .string yb] 27) → (loadVar 9 ⟨w.heap.size, 1, none⟩).run Try.prog w' = .ok (.string ya) w' := fun w' h => cd_loads h.1 (Below.refl _ _)
  have L3 : ∀ w' : World, w'.heap[w.heap.size]? = some (.cells #[.slice aa A.length ca, .string ya] 27) ∧ w'.heap[w.heap.size + 1]? = some (.cells #[.slice ab B.length cb, .string yb] 27) → (loadVar 25 ⟨w.heap.size + 1, 0, none⟩).run Try.prog w' = .ok (.slice ab B.length cb) w' := fun w' h => cd_loadk h.2 (Below.refl _ _)
  have L4 : ∀ w' : World, w'.heap[w.heap.size]? = some (.cells #[.slice aa A.length ca, .string ya] 27) ∧ w'.heap[w.heap.size + 1]? = some (.cells #[.slice ab B.length cb, .string yb] 27) → (loadVar 9 ⟨w.heap.size + 1, 1, none⟩).run Try.prog w' = .ok (.string yb) w' := fun w' h => cd_loads h.2 (Below.refl _ _)
  have HRA := Lib.hid HP.out.rowa
  have HRB := Lib.hid HP.out.rowb
  have HRES := Lib.hid HP.out.res
  have HB0 := Lib.hid HP.out.below
  have HSZ := Lib.hid HP.out.size
  clear HP
  refine wp_region_G (fun w' => w'.heap[w.heap.size]? = some (.cells #[.slice aa A.length ca, .string ya] 27) ∧ w'.heap[w.heap.size + 1]? = some (.cells #[.slice ab B.length cb, .string yb] 27)) (by kernel_rfl) ?_
  replace HRA := Lib.hid (show (World.drew _).heap[_]? = _ from HRA.out)
  replace HRB := Lib.hid (show (World.drew _).heap[_]? = _ from HRB.out)
  replace HB0 := Lib.hid (HB0.out.drew)
  replace HRES := Lib.hid (show (World.drew _).heap[_]? = _ from HRES.out)
  replace HSZ := Lib.hid (show _ ≤ (World.drew _).heap.size from HSZ.out)
  generalize (W).drew = wD at *
  refine wpG_seg [true, true, true, true, false, true, true, true, true] [4] 3 (by kernel_rfl) (by intro c a d v w h; cases d <;> exact h) (by kernel_rfl) ⟨HRA.out, HRB.out⟩ ?_
  try simp only [maskRows]
  repeat (first
    | go_big_quiet_skip
    | (go_big_quiet_want
       first
         | (go_big_quiet_op; go_big_quiet_on)
         | (refine q_load 25 _ _ _ rfl rfl L1 ?_; simp only [Act.put, List.setIfInBounds_toArray, List.set_cons_zero, List.set_cons_succ]; go_big_quiet_on)
         | (refine q_load 9 _ _ _ rfl rfl L2 ?_; simp only [Act.put, List.setIfInBounds_toArray, List.set_cons_zero, List.set_cons_succ]; go_big_quiet_on)
         | (refine q_load 25 _ _ _ rfl rfl L3 ?_; simp only [Act.put, List.setIfInBounds_toArray, List.set_cons_zero, List.set_cons_succ]; go_big_quiet_on)
         | (refine q_load 9 _ _ _ rfl rfl L4 ?_; simp only [Act.put, List.setIfInBounds_toArray, List.set_cons_zero, List.set_cons_succ]; go_big_quiet_on)
         | (go_big_quiet_op; refine ⟨_, fun _ _ => rfl, ?_⟩; go_big_quiet_on)
         | (go_big_quiet_op; refine ⟨_, fun _ _ _ => rfl, ?_⟩; go_big_quiet_on)))
  refine wpQuiet_nil ?_
  refine List.forall_mem_singleton.2 ?_
  refine segt_run rfl (by rfl) (fun K hK => ?_)
  go_simp
  refine (SP.out _ HB0.out).mono ?_
  rintro e w3 ⟨v3, rfl, ho3, hb⟩
  dsimp only
  have HSZo := Lib.hid HSZ.out
  have hNE := fun (b6 : Nat) (hl : b6 < wD.heap.size) (e : v3.ownBlock = some b6) => (absurd (ho3.lt b6 e).1 (Nat.not_le.2 hl) : False)
  replace HRA := Lib.hid ((hb.block _ (Array.getElem?_eq_some_iff.1 HRA.out).1).trans HRA.out)
  replace HRB := Lib.hid ((hb.block _ (Array.getElem?_eq_some_iff.1 HRB.out).1).trans HRB.out)
  replace HB0 := Lib.hid (HB0.out.trans (hb.mono HB0.out.size))
  replace HRES := Lib.hid ((hb.block _ (Array.getElem?_eq_some_iff.1 HRES.out).1).trans HRES.out)
  replace HSZ := Lib.hid (Nat.le_trans HSZ.out hb.size)
  clear hNE
  obtain ⟨a3, n3, k3, rfl⟩ := own_shape ho3
  have HO := Lib.hid (own_base ho3 HSZo.out)
  clear ho3 HSZo
  clear hb
  refine hK _ _ ⟨_, fun _ h => h, ⟨HRA.out, HRB.out⟩, ?_⟩
  clear hK K
  try simp only [Act.put, List.setIfInBounds_toArray, List.set_cons_zero, List.set_cons_succ]
  refine wpG_seg [] [9] 2 (by kernel_rfl) (by intro c a d v w h; cases d <;> exact h) (by kernel_rfl) ⟨HRA.out, HRB.out⟩ ?_
  try simp only [maskRows]
  refine wpQuiet_nil ?_
  refine List.forall_mem_singleton.2 ?_
  refine segt_run rfl (by rfl) (fun K hK => ?_)
  go_simp
  refine (SX.out _).mono ?_
  rintro e w4 ⟨rfl, hb⟩
  dsimp only
  replace HRA := Lib.hid ((hb.block _ (Array.getElem?_eq_some_iff.1 HRA.out).1).trans HRA.out)
  replace HRB := Lib.hid ((hb.block _ (Array.getElem?_eq_some_iff.1 HRB.out).1).trans HRB.out)
  replace HB0 := Lib.hid (HB0.out.trans (hb.mono HB0.out.size))
  replace HRES := Lib.hid ((hb.block _ (Array.getElem?_eq_some_iff.1 HRES.out).1).trans HRES.out)
  replace HSZ := Lib.hid (Nat.le_trans HSZ.out hb.size)
  replace HO := Lib.hid (own_below HO.out hb)
  clear hb
  refine hK _ _ ⟨_, fun _ h => h, ⟨HRA.out, HRB.out⟩, ?_⟩
  clear hK K
  try simp only [Act.put, List.setIfInBounds_toArray, List.set_cons_zero, List.set_cons_succ]
  refine wpG_seg [] [10] 1 (by kernel_rfl) (by intro c a d v w h; cases d <;> exact h) (by kernel_rfl) ⟨HRA.out, HRB.out⟩ ?_
  try simp only [maskRows]
  refine wpQuiet_nil ?_
  refine List.forall_mem_singleton.2 ?_
  refine segt_run rfl (by rfl) (fun K hK => ?_)
  go_simp
  refine hK _ _ ⟨_, fun _ h => h, ⟨HRA.out, HRB.out⟩, ?_⟩
  clear hK K
  try simp only [Act.put, List.setIfInBounds_toArray, List.set_cons_zero, List.set_cons_succ]
  refine wpG_seg [] [11] 0 (by kernel_rfl) (by intro c a d v w h; cases d <;> exact h) (by kernel_rfl) ⟨HRA.out, HRB.out⟩ ?_
  try simp only [maskRows]
  refine wpQuiet_nil ?_
  refine List.forall_mem_singleton.2 ?_
  obtain ⟨c0, c1, f0, f1⟩ := row2_of HRES.out
  have hlt := (Array.getElem?_eq_some_iff.1 HRES.out).1
  have HF := Lib.hid (And.intro (cd_res HRES.out (.slice a3 n3 k3) (xorS ya yb)) (And.intro (own_base (own_set2 HO.out (by omega : w.heap.size + 2 < w.heap.size + 3) (.slice a3 n3 k3) (.string (xorS ya yb))) (by omega : w.heap.size ≤ w.heap.size + 3)) (below2 HB0.out (by omega : w.heap.size ≤ w.heap.size + 2) (.slice a3 n3 k3) (.string (xorS ya yb)))))
  have HRA' := Lib.hid (row_set2 HRA.out (by omega : w.heap.size ≠ w.heap.size + 2) (.slice a3 n3 k3) (.string (xorS ya yb)))
  have HRB' := Lib.hid (row_set2 HRB.out (by omega : w.heap.size + 1 ≠ w.heap.size + 2) (.slice a3 n3 k3) (.string (xorS ya yb)))
  clear HRES HO HB0 HSZ
  refine segt_run rfl (by rfl) (fun K hK => ?_)
  go_simp
  replace HRA := HRA'
  replace HRB := HRB'
  clear HRA' HRB' c0 c1 f0 f1 hlt
  refine hK _ _ ⟨_, fun _ h => h, ⟨HRA.out, HRB.out⟩, ?_⟩
  clear hK K
  try simp only [Act.put, List.setIfInBounds_toArray, List.set_cons_zero, List.set_cons_succ]
  refine wpG_end [] (by kernel_rfl) (by intro c a d v w h; cases d <;> exact h) (by kernel_rfl) ⟨HRA.out, HRB.out⟩ ?_
  try simp only [maskRows]
  refine wpQuiet_nil ?_
  clear HRA HRB
  go_wp2_with fail
  refine bodyPost_ret (v := .agg #[.slice a3 n3 k3, .string (xorS ya yb)]) ?_ rfl ⟨_, rfl, HF.out.2.1, HF.out.2.2⟩
  rw [results_cell (p := 4) (ty := 27) (by kernel_rfl)]
  have l2 := HF.out.1
  simp [asAddr, Result.andThen, l2]
end Go.Proofs.Ytbbjpjkclealfaa
namespace Go.Proofs.Ytbbjpjkclealfaa
open Go.ChangeShapes Go.WideShapes Go.ChangeAt Go.RowKit Go.BigFrame
set_option linter.unusedVariables false

theorem truthV_le (k : K2) : (truthV k).size ≤ 4 := by
  unfold truthV putV
  split
  · show 0 ≤ 4; omega
  · show (beL _ (4 : Int).toNat).toArray.size ≤ 4
    have h := beL_len (1000003 * k.1 + 77777 * k.2 + 12345).toNat (4 : Int).toNat
    have e : (beL (1000003 * k.1 + 77777 * k.2 + 12345).toNat (4 : Int).toNat).toArray.size = 4 := by rw [List.size_toArray, h]; rfl
    omega
theorem xorS_le4 (a b : ByteArray) (h : a.size ≤ 4) : (xorS a b).size ≤ 4 := by
  by_cases hs : a.size = b.size
  · rw [xorS_size a b hs]; exact h
  · unfold xorS; rw [if_neg hs]; show 0 ≤ 4; omega
set_option maxRecDepth 100000 in
set_option maxHeartbeats 1000000 in
theorem truthw_any (k : K2) (w : World) (h1 : -1000 ≤ k.1 ∧ k.1 ≤ 1000) (h2 : -1000 ≤ k.2 ∧ k.2 ≤ 1000) : Calls Try.prog 85 #[kv k] w fun e w' => e = .returned (.string (truthV k)) ∧ Below w.heap.size w w' := by
  obtain ⟨n, s⟩ := k
  unfold kv truthV
  dsimp only at *
  have hb : Below w.heap.size w (w.alloc (.cells #[.int .i64 n, .int .i64 s] 41)) := (Below.refl _ _).alloc (Nat.le_refl _) _
  have e1 : wrap64 (1000003 * n) = 1000003 * n := IntWalk.wrap64_in _ (by omega)
  have e2 : wrap64 (77777 * s) = 77777 * s := IntWalk.wrap64_in _ (by omega)
  have e3 : wrap64 (1000003 * n + 77777 * s) = 1000003 * n + 77777 * s := IntWalk.wrap64_in _ (by omega)
  have e4 : wrap64 (1000003 * n + 77777 * s + 12345) = 1000003 * n + 77777 * s + 12345 := IntWalk.wrap64_in _ (by omega)
  have HP := Lib.hid (fun w => sput_any (1000003 * n + 77777 * s + 12345) 4 w (by omega))
  go_enter Try.func85, Try.ntmps85
  go_wp2_with fail
  refine (HP.out _).mono ?_
  rintro e w1 ⟨rfl, hb1⟩
  have hB := hb.trans (hb1.mono hb.size)
  clear HP hb hb1
  go_wp2
  go_ret
  exact ⟨rfl, hB⟩
set_option maxRecDepth 100000 in
set_option maxHeartbeats 2000000 in
theorem l05ofw_any (v : Value) (ks : List K2) (w : World) (h : keysAt w v ks) (hs : ks.length ≤ 1000000) (hk4 : ∀ k ∈ ks, (-1000 ≤ k.1 ∧ k.1 ≤ 1000) ∧ (-1000 ≤ k.2 ∧ k.2 ≤ 1000)) :
    Calls Try.prog 43 #[v] w fun e w' => ∃ v' y, e = .returned (.agg #[v', .string y]) ∧ y.size ≤ 4 ∧ w'.ownsRow w.heap.size 41 2 v' ks.length (keyCells ks) ∧ Below w.heap.size w w' := by
  have hb1 := (Below.refl w.heap.size w).alloc (Nat.le_refl _) (.cells #[.slice none 0 0, .string ⟨#[]⟩] 27)
  have hr1 := heap_alloc_new w (.cells #[.slice none 0 0, .string ⟨#[]⟩] 27)
  have hb2 := hb1.alloc hb1.size (.cells #[] 41)
  have hr2 := (Below.heap_alloc (w.alloc (.cells #[.slice none 0 0, .string ⟨#[]⟩] 27)) (.cells #[] 41) _ (Array.getElem?_eq_some_iff.1 hr1).1).trans hr1
  have e1 : (w.alloc (.cells #[.slice none 0 0, .string ⟨#[]⟩] 27)).heap.size = w.heap.size + 1 := by simp
  have ho2 := World.ownsRow_made (base := w.heap.size + 1) (e := 41) (size := 2) (w.alloc (.cells #[.slice none 0 0, .string ⟨#[]⟩] 27)) #[] 0 (by simp) (by unfold maxLen; omega) rfl
  rw [e1] at ho2
  have HB2 := Lib.hid hb2; have HR2 := Lib.hid hr2; have HO2 := Lib.hid ho2
  have HK2 := Lib.hid (keysAt_below h hb2)
  have hz2 : w.heap.size + 2 = ((w.alloc (.cells #[.slice none 0 0, .string ⟨#[]⟩] 27)).alloc (.cells #[] 41)).heap.size := by simp
  have HZ2 := Lib.hid hz2
  obtain ⟨a, cap, rfl, hcap, hcells⟩ := h
  clear hb1 hr1 hb2 hr2 e1 ho2 hz2
  go_enter Try.func43, Try.ntmps43
  go_wp2_with (at_builtin; refine wpList_append_key rfl (.tmp 5) (.tmp 6) rfl HO2.out _ ks HK2.out rfl rfl (by omega) (by have := HZ2.out; omega) ?_; intro v3 w3 hown3 hgr3 hw3)
  obtain ⟨a3, n3, k3, rfl⟩ := own_shape hown3
  have hob : ∀ g, (Value.slice (some ⟨w.heap.size + 1, 0, none⟩) 0 0).ownBlock = some g → w.heap.size + 1 = g := fun g e => Option.some.inj e
  have hB3 := HB2.out.grown hgr3 HB2.out.size (fun g e => by have := hob g e; omega)
  have hR3 := (hgr3.block _ (Array.getElem?_eq_some_iff.1 HR2.out).1 (fun e => by first | (have := hob _ e; omega) | (have := hob _ e.symm; omega))).trans HR2.out
  clear hob
  simp only [Nat.zero_add, List.nil_append] at hown3
  have hE : OfC w (w3.alloc (.cells #[.slice a3 n3 k3, .string z4] 27)) w.heap.size w3.heap.size ks z4 (.slice a3 n3 k3) :=
    ⟨hB3.alloc hB3.size _, heap_alloc_new w3 _, (own_base hown3 (by omega)).alloc _, fun e => Nat.lt_irrefl _ (hown3.lt _ e).2, fun e => by have := (hown3.lt _ e).1; omega, (Below.heap_alloc w3 _ _ (Array.getElem?_eq_some_iff.1 hR3).1).trans hR3, Nat.le_refl _, (Array.getElem?_eq_some_iff.1 hR3).1⟩
  have HE := Lib.hid hE
  clear hown3 hgr3 hw3 hB3 hR3 hE HB2 HR2 HO2 HK2 HZ2
  go_wp2_with fail
  refine (szero_any _).mono ?_
  rintro e w4 ⟨rfl, rfl⟩
  have hl5 := HE.out.lt
  go_wp2_with fail
  generalize w4.alloc (.cells #[.slice a3 n3 k3, .string z4] 27) = W4 at *
  generalize w4.heap.size = b5 at *
  go_loopw [4] (fun i wr => ∃ (k : Nat) (X : ByteArray), k ≤ ks.length ∧ i = .int .i64 k ∧ X.size ≤ 4 ∧ OfC w wr w.heap.size b5 ks X (.slice a3 n3 k3)) (fun i _ => ks.length - (intOf i).toNat)
  case atStart => exact ⟨0, z4, Nat.zero_le _, rfl, by decide, HE.out⟩
  case round =>
    obtain ⟨k, X, hk, rfl, hX, hO⟩ := hrel
    have HO := Lib.hid hO
    clear hO HE hl5
    by_cases hlt : k < ks.length
    · obtain ⟨g, off, rfl, hg, hcs⟩ := hcells.resolve_left (by omega)
      have z0 : (0 : Int) ≤ (k : Int) := by omega
      have z1 : (k : Int) < (ks.length : Int) := by omega
      have c1 := hcs k hlt
      have hkb := hk4 (ks.getD k (0, 0)) (by rw [List.getD, List.getElem?_eq_getElem hlt]; exact List.getElem_mem hlt)
      clear hcells hcs hk4
      generalize ks.getD k (0, 0) = kx at *
      have hz := truthV_le kx
      have TR := Lib.hid (fun w' => truthw_any kx w' hkb.1 hkb.2)
      generalize truthV kx = tz at *
      obtain ⟨p, q⟩ := kx
      unfold kv at TR
      dsimp only at TR c1 hkb
      rename_i wr
      have hB := HO.out.below
      have k0 : wr.cell? ⟨g, off + k * 2, none⟩ = some (.int .i64 p) := (hB.cell (p := ⟨g, off + k * 2, none⟩) hg).trans c1.1
      have k1 : wr.cell? ⟨g, off + k * 2 + 1, none⟩ = some (.int .i64 q) := (hB.cell (p := ⟨g, off + k * 2 + 1, none⟩) hg).trans c1.2
      obtain ⟨b0, b1, bf0, bf1⟩ := row2_of HO.out.box
      have hl5 := (Array.getElem?_eq_some_iff.1 HO.out.box).1
      have SX := Lib.hid (fun w' => sxor_any X tz w' (by omega) (by omega))
      have hY : (xorS X tz).size ≤ 4 := xorS_le4 X tz hX
      generalize xorS X tz = Y at *
      clear hB c1 hg hkb hz hX
      go_wp2_with fail
      go_region_law (first
        | (go_simp
           go_at_call 85
           refine (TR.out _).mono ?_
           rintro e w5 ⟨rfl, hb5⟩
           dsimp only
           have HO5 := Lib.hid (OfC.next (OfC.next HO.out (by first | exact Below.refl _ _ | exact (Below.refl _ _).drew)) hb5)
           have hr5 := row2_of HO5.out.box
           obtain ⟨d0, d1, df0, df1⟩ := hr5
           have hl6 := (Array.getElem?_eq_some_iff.1 HO5.out.box).1
           clear hb5 k0 k1 b0 b1 bf0 bf1 TR HO hl5)
        | (go_simp
           go_at_call 84
           refine (SX.out _).mono ?_
           rintro e w6 ⟨rfl, hb6⟩
           dsimp only
           have HO6 := Lib.hid (OfC.next (OfC.next HO5.out (by first | exact Below.refl _ _ | exact (Below.refl _ _).drew)) hb6)
           have hr6 := row2_of HO6.out.box
           obtain ⟨e0, e1, ef0, ef1⟩ := hr6
           have hl7 := (Array.getElem?_eq_some_iff.1 HO6.out.box).1
           clear hb6 d0 d1 df0 df1 SX HO5 hl6))
      all_goals
        have HO7 := Lib.hid (HO6.out.sets Y)
        clear HO6 e0 e1 ef0 ef1 hl7
        go_wp2
        exact ⟨⟨k + 1, Y, by omega, by go_num, hY, HO7.out⟩, by simp [intOf]; omega⟩
    · obtain rfl : k = ks.length := by omega
      clear hcells hk4
      have HF := Lib.hid HO.out.fin
      have hF := HF.out
      obtain ⟨c0, c1, d0, d1, g0, g1, -, -⟩ := hF
      have hl5 := (Array.getElem?_eq_some_iff.1 HO.out.box).1
      have hlr := (Array.getElem?_eq_some_iff.1 HO.out.res).1
      go_wp2_with fail
      refine bodyPost_ret (v := .agg #[.slice a3 n3 k3, .string X]) ?_ rfl ⟨_, _, rfl, hX, HF.out.fin.1, HF.out.fin.2⟩
      rw [results_cell (p := 2) (ty := 27) (by kernel_rfl)]
      have l2 := HF.out.load
      simp [asAddr, Result.andThen, l2]
end Go.Proofs.Ytbbjpjkclealfaa
namespace Go.Proofs.Ytbbjpjkclealfaa
open Go.ChangeShapes Go.WideShapes Go.ChangeAt Go.RowKit Go.BigFrame
set_option linter.unusedVariables false
set_option linter.unusedSimpArgs false

theorem cdOwn.put {w3 w5 w6 : World} {base b3 : Nat} {v : Value} {us : List Value} {L : List C2} (ho : cdOwn w3 base v us L) (hkv : ∀ i, i < L.length → keysAv w3 (some b3) (us.getD i undef) (L.getD i blankC).1) (hb : Below w3.heap.size w3 w5)
    (hg : w5.grownBy w6 (some b3)) (hv : v.ownBlock ≠ some b3) : cdOwn w6 base v us L := (ho.below hb).other hg hv fun i hi => (hkv i hi).below hb
/-- a list as a law has it, and a word beside it -/
structure LxO (w w' : World) (v : Value) (us : List Value) (L : List C2) (vx : Value) (x : C2) : Prop where
  ls : LsO w w' v us L
  xs : keysAt w' vx x.1
  xl : x.1.length ≤ 14
  xy : x.2.size ≤ 5
set_option maxRecDepth 100000 in
set_option maxHeartbeats 2000000 in
theorem drawspanned_any (n₀ len cap : Nat) (a : Option Addr) (zs : List Int) (w : World) (hc : CodeAt n₀ w a len zs) (hw : n₀ ≤ w.heap.size) :
    Calls Try.prog 8 #[.slice a len cap] w fun e w' => ∃ (v : Value) (us : List Value) (L : List C2) (vx : Value) (x : C2), e = .returned (.tuple #[v, .agg #[vx, .string x.2]]) ∧ L.length ≤ 11 ∧ LxO w w' v us L vx x := by
  have HB0 := Lib.hid ((Below.refl w.heap.size w).alloc (Nat.le_refl _) (.cells #[.slice none 0 0, .string ⟨#[]⟩] 27))
  have HX0 := Lib.hid (heap_alloc_new w (.cells #[.slice none 0 0, .string ⟨#[]⟩] 27))
  have hc1 := hc.below ((Below.refl n₀ w).alloc hw (.cells #[.slice none 0 0, .string ⟨#[]⟩] 27))
  have hz0 : (w.alloc (.cells #[.slice none 0 0, .string ⟨#[]⟩] 27)).heap.size = w.heap.size + 1 := by simp
  go_enter Try.func8, Try.ntmps8
  go_wp2_with fail
  generalize w.alloc (.cells #[.slice none 0 0, .string ⟨#[]⟩] 27) = W at *
  refine (new_any n₀ len cap a zs _ hc1 (by omega)).mono ?_
  rintro e w1 ⟨g, rfl, hg, hst, hbn, hgrn⟩
  have hgw : w.heap.size < g := by omega
  have hg1 := hst.lt
  have HB1 := Lib.hid (HB0.out.grown hgrn HB0.out.size (by simp))
  have HX1 := Lib.hid ((hgrn.block _ (Array.getElem?_eq_some_iff.1 HX0.out).1 (by simp)).trans HX0.out)
  have hz1 : w.heap.size + 1 ≤ w1.heap.size := by have := hgrn.size; omega
  clear hbn hgrn hg HX0 HB0 hc1 hz0
  go_wp2_with fail
  refine (l07list_any n₀ g len cap a zs _ w1 hst).mono ?_
  rintro e w2 ⟨v, us, L, c2, rfl, hl, hL⟩
  have HL := Lib.hid hL
  obtain ⟨av, cv, rfl, -, -⟩ := hL.own.to
  clear hL hst
  by_cases h1 : 1 < L.length
  · have i1 : (1 : Int) < (L.length : Int) := by omega
    go_wp2_with fail
    refine (once_any n₀ g len cap a zs c2 2 w2 HL.out.drew.st (by omega)).mono ?_
    rintro e w3 ⟨rfl, hd3⟩
    have HL3 := Lib.hid (HL.out.next hg1 hd3)
    generalize (belowF zs len c2 2).2 = c3 at *
    generalize ((belowF zs len c2 2).1 == 0) = q at *
    clear HL hd3
    cases q with
    | false =>
      go_wp2_with fail
      refine (l05odd_any n₀ g len cap a zs c3 w3 HL3.out.drew.st).mono ?_
      rintro e w4 ⟨vx, kx, yx, c4, rfl, hkx, hkb, hyx, hox, hd4⟩
      have hL4 := HL3.out.next hg1 hd4
      have hz4 : w.heap.size + 1 ≤ w4.heap.size := by have := hL4.drew.grown.size; omega
      have hwz : w.heap.size < w3.heap.size := by have := HL3.out.drew.grown.size; omega
      have HB4 := Lib.hid (HB1.out.grown hL4.drew.grown HB1.out.size (fun j e => by cases e; omega))
      have hx4 := (hL4.drew.grown.block _ (Array.getElem?_eq_some_iff.1 HX1.out).1 (fun e => by cases e; omega)).trans HX1.out
      obtain ⟨ax, nx, cx, rfl⟩ := own_shape hox
      have HX4 := Lib.hid (set2 (.slice ax nx cx) (.string yx) hx4)
      have HO4 := Lib.hid (hL4.own.other (grown2 w4 w.heap.size (.slice ax nx cx) (.string yx)) (fun e => by have := (hL4.own.own.lt _ e).1; omega) (hL4.kav w.heap.size (by omega)))
      have HU4 := Lib.hid (keysAt_own (hox.kept (grown2 w4 w.heap.size (.slice ax nx cx) (.string yx)) (.inr fun e => by have := (hox.lt _ e).1; omega)))
      have HBB := Lib.hid (below2 HB4.out (Nat.le_refl w.heap.size) (.slice ax nx cx) (.string yx))
      have HBD := Lib.hid hL4.bd
      obtain ⟨s0, s1, sf0, sf1⟩ := row2_of hx4
      have hlt4 := (Array.getElem?_eq_some_iff.1 hx4).1
      clear hox hd4 hL4 HL3 HX1 HB4 hx4
      go_wp2_with fail
      have l1 := cd_load HX4.out (Below.refl _ _)
      have HLD := Lib.hid l1
      clear l1
      refine bodyPost_ret (v := .tuple #[.slice av L.length cv, .agg #[.slice ax nx cx, .string yx]]) ?_ rfl ⟨_, us, L, _, (kx, yx), rfl, hl, ⟨HO4.out.base (by omega), HBD.out, HBB.out⟩, HU4.out, by show kx.length ≤ 14; omega, hyx⟩
      rw [results_tmp_cell (p := 3) (u := 2) (ty := 27) (by kernel_rfl)]
      have l1 := HLD.out
      simp [asAddr, Result.andThen, l1]
    | true =>
      have hL3 := HL3.out
      have HO3 := Lib.hid hL3.own
      have HKV := Lib.hid (hL3.kav w.heap.size (by omega))
      have HB3 := Lib.hid (HB1.out.grown hL3.drew.grown HB1.out.size (fun j e => by cases e; omega))
      have HX3 := Lib.hid ((hL3.drew.grown.block _ (Array.getElem?_eq_some_iff.1 HX1.out).1 (fun e => by cases e; omega)).trans HX1.out)
      have HBD := Lib.hid hL3.bd
      have hz3 : w.heap.size + 1 ≤ w3.heap.size := by have := hL3.drew.grown.size; omega
      have hne : (Value.slice av L.length cv).ownBlock ≠ some w.heap.size := fun e => by have := (hL3.own.own.lt _ e).1; omega
      have HNE := Lib.hid hne
      obtain ⟨gl, off, cv', u0, hv, hgl, c0, c1, hk0⟩ := hL3.own.to.at 0 (by omega)
      obtain ⟨gl', off', cv'', u1, hv', -, d0, d1, hk1⟩ := hL3.own.to.at 1 h1
      cases hv
      cases hv'
      simp only [Nat.zero_mul, Nat.add_zero, Nat.one_mul] at c0 c1 d0 d1
      have hm0 : L.getD 0 blankC ∈ L := by rw [List.getD, List.getElem?_eq_getElem (by omega : 0 < L.length)]; exact List.getElem_mem (by omega : 0 < L.length)
      have hm1 : L.getD 1 blankC ∈ L := by rw [List.getD, List.getElem?_eq_getElem h1]; exact List.getElem_mem h1
      have hb0 := hL3.bd _ hm0
      have hb1 := hL3.bd _ hm1
      have hq0 := hL3.kb _ hm0
      have hq1 := hL3.kb _ hm1
      generalize L.getD 0 blankC = x0 at *
      generalize L.getD 1 blankC = x1 at *
      obtain ⟨au0, cu0, rfl, -, -⟩ := id hk0
      obtain ⟨au1, cu1, rfl, -, -⟩ := id hk1
      have O0 := Lib.hid (fun wx (hb : Below w3.heap.size w3 wx) => l05ofw_any _ x0.1 wx (keysAt_below hk0.to hb) (by omega) (fun k hk => by have := hq0 k hk; unfold kBd at this; omega))
      have O1 := Lib.hid (fun wx (hb : Below w3.heap.size w3 wx) => l05ofw_any _ x1.1 wx (keysAt_below hk1.to hb) (by omega) (fun k hk => by have := hq1 k hk; unfold kBd at this; omega))
      have i0 : (0 : Int) < (L.length : Int) := by omega
      have n0 : 0 < L.length := by omega
      have hgl2 : gl ≠ w.heap.size := by have := (hL3.own.own.lt gl rfl).1; omega
      obtain ⟨O, hO⟩ : ∃ O, w3.heap[gl]? = some O := ⟨w3.heap[gl], Array.getElem?_eq_getElem hgl⟩
      have HG := Lib.hid hO
      have L0 : ∀ w' : World, w'.heap[gl]? = some O → (loadVar 25 ⟨gl, off, none⟩).run Try.prog w' = .ok (.slice au0 x0.1.length cu0) w' := fun w' h => load_one agg_keys ((World.cell?_of_block (w := w3) (a := ⟨gl, off, none⟩) (h.trans hO.symm)).trans c0)
      have L1 : ∀ w' : World, w'.heap[gl]? = some O → (loadVar 25 ⟨gl, off + 2, none⟩).run Try.prog w' = .ok (.slice au1 x1.1.length cu1) w' := fun w' h => load_one agg_keys ((World.cell?_of_block (w := w3) (a := ⟨gl, off + 2, none⟩) (h.trans hO.symm)).trans d0)
      have HML := Lib.hid (mergeV_len false x0.1 x1.1)
      have HP := Lib.hid (And.intro hb0.1 hb1.1)
      clear hL3 HL3 hO hm0 hm1 hq0 hq1 hk0 hk1 c0 c1 d0 d1 HX1 hne hb0 hb1
      have HB := Lib.hid (Below.refl w3.heap.size w3)
      go_upto_region 4 with (fail)
      refine wp_region_G (fun w' => w'.heap[gl]? = some O) (by kernel_rfl) ?_
      replace HB := Lib.hid (HB.out.drew)
      replace HX3 := Lib.hid (show (World.drew _).heap[_]? = _ from HX3.out)
      replace HG := Lib.hid (show (World.drew _).heap[_]? = _ from HG.out)
      generalize (w3).drew = wD at *
      refine wpG_seg [true, true, true, true, true, false, true, true, true, true] [5] 4 (by kernel_rfl) (by intro c a d v w h; cases d <;> exact h) (by kernel_rfl) HG.out ?_
      try simp only [maskRows]
      repeat (first
        | go_big_quiet_skip
        | (go_big_quiet_want
           first
             | (go_big_quiet_op; go_big_quiet_on)
             | (refine q_load 25 _ _ _ rfl rfl L0 ?_; simp only [Act.put, List.setIfInBounds_toArray, List.set_cons_zero, List.set_cons_succ]; go_big_quiet_on)
             | (refine q_load 25 _ _ _ rfl rfl L1 ?_; simp only [Act.put, List.setIfInBounds_toArray, List.set_cons_zero, List.set_cons_succ]; go_big_quiet_on)
             | (go_big_quiet_op; refine ⟨_, fun _ _ => rfl, ?_⟩; go_big_quiet_on)
             | (go_big_quiet_op; refine ⟨_, fun _ _ _ => rfl, ?_⟩; go_big_quiet_on)))
      refine wpQuiet_nil ?_
      refine List.forall_mem_singleton.2 ?_
      refine segt_run rfl (by rfl) (fun K hK => ?_)
      go_simp
      refine (O0.out _ HB.out).mono ?_
      rintro e w3 ⟨vA, yA, rfl, hyA, hoA, hb⟩
      dsimp only
      have HS0 := Lib.hid HB.out.size
      replace HB := Lib.hid (HB.out.trans (hb.mono HB.out.size))
      replace HX3 := Lib.hid ((hb.block _ (Array.getElem?_eq_some_iff.1 HX3.out).1).trans HX3.out)
      replace HG := Lib.hid ((hb.block _ (Array.getElem?_eq_some_iff.1 HG.out).1).trans HG.out)
      obtain ⟨aA, nA, kA, rfl⟩ := own_shape hoA
      have HUA := Lib.hid (keysAt_own hoA)
      clear hoA
      clear hb
      refine hK _ _ ⟨_, fun _ h => h, HG.out, ?_⟩
      clear hK K
      try simp only [Act.put, List.setIfInBounds_toArray, List.set_cons_zero, List.set_cons_succ]
      refine wpG_seg [] [10] 3 (by kernel_rfl) (by intro c a d v w h; cases d <;> exact h) (by kernel_rfl) HG.out ?_
      try simp only [maskRows]
      refine wpQuiet_nil ?_
      refine List.forall_mem_singleton.2 ?_
      refine segt_run rfl (by rfl) (fun K hK => ?_)
      go_simp
      refine (O1.out _ HB.out).mono ?_
      rintro e w4 ⟨vB, yB, rfl, hyB, hoB, hb⟩
      dsimp only
      replace HB := Lib.hid (HB.out.trans (hb.mono HB.out.size))
      replace HX3 := Lib.hid ((hb.block _ (Array.getElem?_eq_some_iff.1 HX3.out).1).trans HX3.out)
      replace HG := Lib.hid ((hb.block _ (Array.getElem?_eq_some_iff.1 HG.out).1).trans HG.out)
      obtain ⟨aB, nB, kB, rfl⟩ := own_shape hoB
      replace HUA := Lib.hid (keysAt_below HUA.out hb)
      have HUB := Lib.hid (keysAt_own hoB)
      clear hoB
      clear hb
      refine hK _ _ ⟨_, fun _ h => h, HG.out, ?_⟩
      clear hK K
      try simp only [Act.put, List.setIfInBounds_toArray, List.set_cons_zero, List.set_cons_succ]
      refine wpG_seg [] [11] 2 (by kernel_rfl) (by intro c a d v w h; cases d <;> exact h) (by kernel_rfl) HG.out ?_
      try simp only [maskRows]
      refine wpQuiet_nil ?_
      refine List.forall_mem_singleton.2 ?_
      refine segt_run rfl (by rfl) (fun K hK => ?_)
      go_simp
      refine (saddw_any _ x0.1 yA _ x1.1 yB _ HUA.out HUB.out (by have := HP.out; omega) (by have := HP.out; omega) (by omega) (by omega)).mono ?_
      rintro e w5 ⟨vS, rfl, hoS, hb⟩
      dsimp only
      have HSB := Lib.hid (fun j e => Nat.le_trans (Nat.le_trans hz3 HB.out.size) (hoS.lt j e).1)
      replace HB := Lib.hid (HB.out.trans (hb.mono HB.out.size))
      replace HX3 := Lib.hid ((hb.block _ (Array.getElem?_eq_some_iff.1 HX3.out).1).trans HX3.out)
      replace HG := Lib.hid ((hb.block _ (Array.getElem?_eq_some_iff.1 HG.out).1).trans HG.out)
      obtain ⟨aS, nS, kS, rfl⟩ := own_shape hoS
      have HSO := Lib.hid hoS
      have HYS := Lib.hid (show (xorS yA yB).size ≤ 5 from by have := xorS_le4 yA yB hyA; omega)
      generalize xorS yA yB = yS at *
      clear hoS HUA HUB
      clear hb
      refine hK _ _ ⟨_, fun _ h => h, HG.out, ?_⟩
      clear hK K
      try simp only [Act.put, List.setIfInBounds_toArray, List.set_cons_zero, List.set_cons_succ]
      refine wpG_seg [false, false, false, false, false, false, false, false, false, false, false, false, true] [13] 0 (by kernel_rfl) (by intro c a d v w h; cases d <;> exact h) (by kernel_rfl) HG.out ?_
      try simp only [maskRows]
      repeat (first
        | go_big_quiet_skip
        | (go_big_quiet_want
           first
             | (go_big_quiet_op; go_big_quiet_on)
             | (refine q_load 25 _ _ _ rfl rfl L0 ?_; simp only [Act.put, List.setIfInBounds_toArray, List.set_cons_zero, List.set_cons_succ]; go_big_quiet_on)
             | (refine q_load 25 _ _ _ rfl rfl L1 ?_; simp only [Act.put, List.setIfInBounds_toArray, List.set_cons_zero, List.set_cons_succ]; go_big_quiet_on)
             | (go_big_quiet_op; refine ⟨_, fun _ _ => rfl, ?_⟩; go_big_quiet_on)
             | (go_big_quiet_op; refine ⟨_, fun _ _ _ => rfl, ?_⟩; go_big_quiet_on)))
      refine wpQuiet_nil ?_
      refine List.forall_mem_singleton.2 ?_
      obtain ⟨s0, s1, sf0, sf1⟩ := row2_of HX3.out
      have hlt3 := (Array.getElem?_eq_some_iff.1 HX3.out).1
      refine segt_run rfl (by rfl) (fun K hK => ?_)
      go_simp
      have HO6 := Lib.hid (HO3.out.put HKV.out HB.out (grown2 w5 w.heap.size (.slice aS nS kS) (.string yS)) HNE.out)
      have HX6 := Lib.hid (set2 (.slice aS nS kS) (.string yS) HX3.out)
      have HB6 := Lib.hid (below2 (HB3.out.trans (HB.out.mono HB3.out.size)) (Nat.le_refl w.heap.size) (.slice aS nS kS) (.string yS))
      have HU6 := Lib.hid (keysAt_own (HSO.out.kept (grown2 w5 w.heap.size (.slice aS nS kS) (.string yS)) (.inr fun e => by have := HSB.out _ e; omega)))
      replace HG := Lib.hid (((grown2 w5 w.heap.size (.slice aS nS kS) (.string yS)).block gl (Array.getElem?_eq_some_iff.1 HG.out).1 (fun e => hgl2 (Option.some.inj e))).trans HG.out)
      clear s0 s1 sf0 sf1 hlt3 HX3 HO3 HKV HSO HSB
      generalize (World.setCell (World.setCell w5 ⟨w.heap.size, 0, none⟩ (.slice aS nS kS)) ⟨w.heap.size, 1, none⟩ (.string yS)) = w99 at *
      refine hK _ _ ⟨_, fun _ h => h, HG.out, ?_⟩
      clear hK K
      try simp only [Act.put, List.setIfInBounds_toArray, List.set_cons_zero, List.set_cons_succ]
      refine wpG_end [] (by kernel_rfl) (by intro c a d v w h; cases d <;> exact h) (by kernel_rfl) HG.out ?_
      try simp only [maskRows]
      refine wpQuiet_nil ?_
      have l1 := cd_load HX6.out (Below.refl _ _)
      have HLD := Lib.hid l1
      clear l1
      go_wp2_with fail
      refine bodyPost_ret (v := .tuple #[.slice (some ⟨gl, off, none⟩) L.length cv, .agg #[.slice aS nS kS, .string yS]]) ?_ rfl ⟨_, us, L, _, (mergeV false x0.1 x1.1, yS), rfl, hl, ⟨HO6.out.base (by omega), HBD.out, HB6.out⟩, HU6.out, by have := HML.out; have := HP.out; show (mergeV false x0.1 x1.1).length ≤ 14; omega, HYS.out⟩
      rw [results_tmp_cell (p := 3) (u := 2) (ty := 27) (by kernel_rfl)]
      have l1 := HLD.out
      simp [asAddr, Result.andThen, l1]
  · have i1 : ¬ (1 : Int) < (L.length : Int) := by omega
    go_wp2_with fail
    refine (l05odd_any n₀ g len cap a zs c2 w2 HL.out.drew.st).mono ?_
    rintro e w4 ⟨vx, kx, yx, c4, rfl, hkx, hkb, hyx, hox, hd4⟩
    have hL4 := HL.out.next hg1 hd4
    have hz4 : w.heap.size + 1 ≤ w4.heap.size := by have := hL4.drew.grown.size; omega
    have hwz : w.heap.size < w2.heap.size := by have := HL.out.drew.grown.size; omega
    have HB4 := Lib.hid (HB1.out.grown hL4.drew.grown HB1.out.size (fun j e => by cases e; omega))
    have hx4 := (hL4.drew.grown.block _ (Array.getElem?_eq_some_iff.1 HX1.out).1 (fun e => by cases e; omega)).trans HX1.out
    obtain ⟨ax, nx, cx, rfl⟩ := own_shape hox
    have HX4 := Lib.hid (set2 (.slice ax nx cx) (.string yx) hx4)
    have HO4 := Lib.hid (hL4.own.other (grown2 w4 w.heap.size (.slice ax nx cx) (.string yx)) (fun e => by have := (hL4.own.own.lt _ e).1; omega) (hL4.kav w.heap.size (by omega)))
    have HU4 := Lib.hid (keysAt_own (hox.kept (grown2 w4 w.heap.size (.slice ax nx cx) (.string yx)) (.inr fun e => by have := (hox.lt _ e).1; omega)))
    have HBB := Lib.hid (below2 HB4.out (Nat.le_refl w.heap.size) (.slice ax nx cx) (.string yx))
    have HBD := Lib.hid hL4.bd
    obtain ⟨s0, s1, sf0, sf1⟩ := row2_of hx4
    have hlt4 := (Array.getElem?_eq_some_iff.1 hx4).1
    clear hox hd4 hL4 HL HX1 HB4 hx4
    go_wp2_with fail
    have l1 := cd_load HX4.out (Below.refl _ _)
    have HLD := Lib.hid l1
    clear l1
    refine bodyPost_ret (v := .tuple #[.slice av L.length cv, .agg #[.slice ax nx cx, .string yx]]) ?_ rfl ⟨_, us, L, _, (kx, yx), rfl, hl, ⟨HO4.out.base (by omega), HBD.out, HBB.out⟩, HU4.out, by show kx.length ≤ 14; omega, hyx⟩
    rw [results_tmp_cell (p := 3) (u := 2) (ty := 27) (by kernel_rfl)]
    have l1 := HLD.out
    simp [asAddr, Result.andThen, l1]
end Go.Proofs.Ytbbjpjkclealfaa
namespace Go.Proofs.Ytbbjpjkclealfaa
open Go.ChangeShapes Go.WideShapes Go.ChangeAt Go.RowKit Go.BigFrame
set_option linter.unusedVariables false

theorem all_range_int : ∀ (xs ys : List Int), xs.length = ys.length → ((List.range xs.length).all fun i => xs.getD i 0 == ys.getD i 0) = (xs == ys)
  | [], [], _ => rfl
  | x :: xs, y :: ys, h => by
    have ih := all_range_int xs ys (by simpa using h)
    rw [List.length_cons, List.range_succ_eq_map, List.all_cons, List.all_map]
    simp only [List.getD_cons_zero, Function.comp_def, List.getD_cons_succ, ih]
    simp [List.cons_beq_cons]
  | [], _ :: _, h => by simp at h
  | _ :: _, [], h => by simp at h
section
variable {P : Program} (w : World)
theorem run_equalIn_u64 (d : Nat) (t e : TypeId) (n : Nat) (ht : P.underlying t = some (.array n e)) (he : P.underlying e = some (.int .u64)) (hsz : ∀ w, (sizeOf e).run P w = .ok 1 w)
    (xs ys : List Int) (hx : xs.length = n) (hy : ys.length = n) :
    (Op.equalIn (d + 2) t (.agg (xs.map (Value.int .u64)).toArray) (.agg (ys.map (Value.int .u64)).toArray)).run P w = .ok (xs == ys) w := by
  rw [← all_range_int xs ys (hx.trans hy.symm), hx, List.range_eq_range', Op.equalIn]
  simp only [Sem.run_bind, run_underlying ht, Result.andThen_ok, hsz, Std.Legacy.Range.forIn_eq_forIn_range', Std.Legacy.Range.size, Nat.sub_zero, Nat.add_sub_cancel, Nat.div_one]
  have hl : ∀ i ∈ List.range' 0 n 1, i < n := fun i hi => by simpa using (List.mem_range'_1.1 hi).2
  generalize List.range' 0 n 1 = l at hl ⊢
  induction l with
  | nil => simp
  | cons i l ih =>
    have hi : i < n := hl i (by simp)
    have px : (part e (xs.map (Value.int .u64)).toArray (i * 1)).run P w = .ok (Value.int .u64 (xs.getD i 0)) w := by
      simp [part, isAgg, run_underlying he, List.getD, List.getElem?_eq_getElem (show i < xs.length by omega)]
    have py : (part e (ys.map (Value.int .u64)).toArray (i * 1)).run P w = .ok (Value.int .u64 (ys.getD i 0)) w := by
      simp [part, isAgg, run_underlying he, List.getD, List.getElem?_eq_getElem (show i < ys.length by omega)]
    have pe : (Op.equalIn (d + 1) e (Value.int .u64 (xs.getD i 0)) (Value.int .u64 (ys.getD i 0))).run P w = .ok (xs.getD i 0 == ys.getD i 0) w := by
      rw [run_equalIn_int w d e .u64 .u64 _ _ he]
    simp only [List.forIn_cons, Sem.run_bind, px, py, pe, Result.andThen_ok, List.all_cons]
    cases hb : (xs.getD i 0 == ys.getD i 0)
    · simp
    · simp only [Bool.not_true, Bool.false_eq_true, if_false, Sem.run_pure, Result.andThen_ok, Bool.true_and]
      exact ih fun j hj => hl j (by simp [hj])
theorem run_eql_u64 (t e : TypeId) (n : Nat) (ht : P.underlying t = some (.array n e)) (he : P.underlying e = some (.int .u64)) (hsz : ∀ w, (sizeOf e).run P w = .ok 1 w)
    (xs ys : List Int) (hx : xs.length = n) (hy : ys.length = n) :
    (binOp .eql t (.agg (xs.map (Value.int .u64)).toArray) (.agg (ys.map (Value.int .u64)).toArray)).run P w = .ok (.bool (xs == ys)) w := by
  rw [run_eql_struct, run_equalIn_u64 w 9998 t e n ht he hsz xs ys hx hy]
  rfl
end
theorem u64_sz : ∀ w : World, (sizeOf 77).run Try.prog w = .ok 1 w := by
  obtain ⟨i0, h1, h2⟩ : ∃ i, Try.prog.info? 77 = some i ∧ i.size = 1 := by
    have h : (Try.prog.info? 77).map (·.size) = some 1 := by kernel_rfl
    cases hq : Try.prog.info? 77 with
    | none => rw [hq] at h; simp at h
    | some i => rw [hq] at h; exact ⟨i, rfl, by simpa using h⟩
  intro w
  simp [sizeOf, typeInfo, h1, h2]
def rowI (f : Nat → Bool) : List Int := (List.range 32).map fun j => ((rowB f j : Nat) : Int)
theorem rowI_map (f : Nat → Bool) : (rowI f).map (Value.int .u64) = rowV f := by simp [rowI, rowV]
theorem hX_ext {x y : W2} (h : ∀ p, p < 2048 → hX x p = hX y p) : x = y := by
  have h0 := hX_none (grpW.add x y) fun p hp => by rw [hX_add, h p (by omega)]; simp
  have h2 := grpW.back x y
  rw [h0, grpW.zr] at h2
  exact h2
theorem rowI_eq (x y : W2) : (rowI (hX x) == rowI (hX y)) = decide (x = y) := by
  rw [Bool.eq_iff_iff, beq_iff_eq, decide_eq_true_eq]
  constructor
  · intro h
    refine hX_ext fun p hp => rowV_inj ?_ p hp
    rw [← rowI_map, h, rowI_map]
  · rintro rfl; rfl
theorem row_eql (x y : W2) (w : World) : (binOp .eql 79 (.agg (rowA (hX x))) (.agg (rowA (hX y)))).run Try.prog w = .ok (.bool (decide (x = y))) w := by
  have := run_eql_u64 (P := Try.prog) w 79 77 32 Try.underlying79 Try.underlying77 u64_sz (rowI (hX x)) (rowI (hX y)) (by simp [rowI]) (by simp [rowI])
  rw [rowI_map, rowI_map, rowI_eq] at this
  exact this
theorem zeros_row : #[.int .u64 0, .int .u64 0, .int .u64 0, .int .u64 0, .int .u64 0, .int .u64 0, .int .u64 0, .int .u64 0, .int .u64 0, .int .u64 0, .int .u64 0, .int .u64 0, .int .u64 0, .int .u64 0, .int .u64 0, .int .u64 0, .int .u64 0, .int .u64 0, .int .u64 0, .int .u64 0, .int .u64 0, .int .u64 0, .int .u64 0, .int .u64 0, .int .u64 0, .int .u64 0, .int .u64 0, .int .u64 0, .int .u64 0, .int .u64 0, .int .u64 0, .int .u64 0] = rowA (hX zW) := by
  rw [show hX zW = fun _ => false from funext hX_zero]
  exact rowA_zero
theorem row_eql_zero (x : W2) (w : World) : (binOp .eql 79 (.agg (rowA (hX x))) (.agg #[.int .u64 0, .int .u64 0, .int .u64 0, .int .u64 0, .int .u64 0, .int .u64 0, .int .u64 0, .int .u64 0, .int .u64 0, .int .u64 0, .int .u64 0, .int .u64 0, .int .u64 0, .int .u64 0, .int .u64 0, .int .u64 0, .int .u64 0, .int .u64 0, .int .u64 0, .int .u64 0, .int .u64 0, .int .u64 0, .int .u64 0, .int .u64 0, .int .u64 0, .int .u64 0, .int .u64 0, .int .u64 0, .int .u64 0, .int .u64 0, .int .u64 0, .int .u64 0])).run Try.prog w = .ok (.bool (decide (x = zW))) w := by
  rw [zeros_row]; exact row_eql x zW w
theorem row_guard (op : BinOp) (x y : Operand) (a b : Array Value) (w : World) : (eqGuard op 79 x y (.agg a) (.agg b)).run Try.prog w = .ok () w :=
  run_eqGuard_agg w op 79 x y _ _ (by kernel_rfl)
end Go.Proofs.Ytbbjpjkclealfaa
namespace Go.Proofs.Ytbbjpjkclealfaa
open Go.ChangeShapes Go.WideShapes Go.ChangeAt Go.RowKit Go.BigFrame
set_option linter.unusedVariables false

open Classical in
/-- a sum of some of the list's rows is just x -/
noncomputable def spanB (L : List C2) (x : C2) : Bool := decide (∃ h : wOk x, Span grpW (· ∈ rowsN L L.length) ⟨x, h⟩)
theorem spanB_no {L : List C2} {x : C2} (h : ¬ (keysOkR x.1 = true ∧ x.2.size = 4)) : spanB L x = false := by
  unfold spanB
  simp only [decide_eq_false_iff_not]
  exact fun ⟨g, _⟩ => h g
theorem spanB_yes {L : List C2} {x : C2} (h : wOk x) : spanB L x = true ↔ Span grpW (· ∈ rowsN L L.length) ⟨x, h⟩ := by
  unfold spanB
  simp only [decide_eq_true_eq]
  exact ⟨fun ⟨g, e⟩ => e, fun e => ⟨h, e⟩⟩
theorem lessX_same (R : List W2) (P : List Nat) (x : W2) (i : Nat) (h : hX (lessX R P x i) (P.getD i 0) = false) : lessX R P x (i + 1) = lessX R P x i := by
  show (if _ then _ else _) = _
  rw [h]; rfl
theorem lessX_turn (R : List W2) (P : List Nat) (x : W2) (i : Nat) (h : hX (lessX R P x i) (P.getD i 0) = true) : lessX R P x (i + 1) = grpW.add (lessX R P x i) (R.getD i zW) := by
  show (if _ then _ else _) = _
  rw [h]; rfl
/-- the row that is left, in its block -/
structure SpI (w W : World) (bl : Nat) (v v3 : Value) (Lw R : List W2) (P : List Nat) (y : W2) : Prop where
  sv : SvE w W v v3 Lw R P
  left : W.heap[bl]? = some (.cells (rowA (hX y)) 79 (0, 0))
  ge : w.heap.size ≤ bl
  apart : v.ownBlock ≠ some bl
  apart3 : v3.ownBlock ≠ some bl
theorem rowA_range {W : World} {bl : Nat} {f : Nat → Bool} (h : W.heap[bl]? = some (.cells (rowA f) 79 (0, 0))) : W.rangeAt bl 0 (rowV f) := by
  intro j v hj
  rw [Nat.zero_add, cell_of_row _ _ _ _ _ _ h]
  unfold rowA
  rw [List.getElem?_toArray]; exact hj
theorem rowA_there {W : World} {bl : Nat} {f : Nat → Bool} (h : W.heap[bl]? = some (.cells (rowA f) 79 (0, 0))) : W.there bl 0 32 := by
  intro j hj
  refine ⟨?_, by simp [World.frozen?, h]⟩
  rw [Nat.zero_add, cell_of_row _ _ _ _ _ _ h, rowA_get _ _ hj]; rfl
theorem setCells_heap : ∀ (vs : List Value) (o : Nat) (w : World) (g : Nat) (cs : Array Value) (t : TypeId), w.heap[g]? = some (.cells cs t (0, 0)) → (w.setCells g o vs).heap[g]? = some (.cells (setL cs.toList o vs).toArray t (0, 0))
  | [], o, w, g, cs, t, h => by simpa [World.setCells, setL] using h
  | v :: r, o, w, g, cs, t, h => by
    have h1 := set_cellsD (j := o) v h
    have := setCells_heap r (o + 1) _ g _ t h1
    simpa [World.setCells, setL] using this
theorem rowA_turn {W : World} {bl : Nat} {x y : W2} (h : W.heap[bl]? = some (.cells (rowA (hX x)) 79 (0, 0))) : (W.setCells bl 0 (rowV fun p => hX x p != hX y p)).heap[bl]? = some (.cells (rowA (hX (grpW.add x y))) 79 (0, 0)) := by
  rw [setCells_heap _ _ _ _ _ _ h, rowV_add]
  have e : setL (rowA (hX x)).toList 0 (rowV (hX (grpW.add x y))) = rowV (hX (grpW.add x y)) := by
    have := setL_front (rowV (hX x)) (rowV (hX (grpW.add x y))) [] (by rw [rowV_len, rowV_len])
    rw [List.append_nil, List.append_nil] at this
    unfold rowA
    rw [List.toList_toArray]; exact this
  rw [e]; rfl
theorem SpI.next {w W W' : World} {bl : Nat} {v v3 : Value} {Lw R : List W2} {P : List Nat} {y : W2} (h : SpI w W bl v v3 Lw R P y) (hb : Below W.heap.size W W') : SpI w W' bl v v3 Lw R P y :=
  ⟨h.sv.next hb, (hb.block _ (Array.getElem?_eq_some_iff.1 h.left).1).trans h.left, h.ge, h.apart, h.apart3⟩
theorem SvE.other {w0 w W W' : World} {bl : Nat} {v v3 : Value} {Lw R : List W2} {P : List Nat} (h : SvE w W v v3 Lw R P) (hg : W.grownBy W' (some bl))
    (ap : v.ownBlock ≠ some bl) (ap3 : v3.ownBlock ≠ some bl) (hb : Below w0.heap.size w0 W') (g1 : ∀ b, v.ownBlock = some b → w0.heap.size ≤ b) (g2 : ∀ b, v3.ownBlock = some b → w0.heap.size ≤ b) : SvE w0 W' v v3 Lw R P := by
  refine ⟨hb, h.el, h.few, g1, g2, ?_, ?_⟩
  · obtain ⟨a, c, e1, e2, e3⟩ := h.rows
    refine ⟨a, c, e1, e2, e3.imp_right ?_⟩
    rintro ⟨g, e4, e5, e6⟩
    subst e1; subst e4
    exact ⟨g, rfl, Nat.lt_of_lt_of_le e5 hg.size, fun i hi j v hv => hg.cell (e6 i hi j v hv) (fun e => ap e)⟩
  · obtain ⟨a, c, e1, e2, e3⟩ := h.piv
    refine ⟨a, c, e1, e2, e3.imp_right ?_⟩
    rintro ⟨g, e4, e5, e6⟩
    subst e1; subst e4
    exact ⟨g, rfl, Nat.lt_of_lt_of_le e5 hg.size, fun i hi => hg.cell (e6 i hi) (fun e => ap3 e)⟩
theorem SpI.turn {w W W' : World} {bl : Nat} {v v3 : Value} {Lw R : List W2} {P : List Nat} {x y : W2} (h : SpI w W bl v v3 Lw R P x) (ha : Alike (W.setCells bl 0 (rowV fun p => hX x p != hX y p)) W') : SpI w W' bl v v3 Lw R P (grpW.add x y) := by
  have hg := grown_setCells bl (rowV fun p => hX x p != hX y p) 0 W
  refine ⟨(h.sv.other hg h.apart h.apart3 (h.sv.below.grown hg h.sv.below.size (fun j e => by cases e; exact h.ge)) h.sv.geR h.sv.geP).next ha.below, ?_, h.ge, h.apart, h.apart3⟩
  rw [ha.heap]
  exact rowA_turn h.left
attribute [local irreducible] rowA rowV
set_option maxRecDepth 100000 in
set_option maxHeartbeats 2000000 in
theorem ispanned_any (vl : Value) (L : List C2) (vx : Value) (x : C2) (w : World) (h : cdAv w none vl L) (hl : L.length ≤ 1900000) (hks : ∀ x ∈ L, x.1.length ≤ 2000000) (hx : keysAt w vx x.1) (hxl : x.1.length ≤ 2000000) :
    Calls Try.prog 10 #[vl, .agg #[vx, .string x.2]] w fun e w' => e = .returned (.bool (spanB L x)) ∧ Below w.heap.size w w' := by
  have hb1 := (Below.refl w.heap.size w).alloc (Nat.le_refl _) (.cells #[vx, .string x.2] 27)
  have HR := Lib.hid (heap_alloc_new w (.cells #[vx, .string x.2] 27))
  have HB := Lib.hid hb1
  have HL := Lib.hid (cdAv_below h hb1)
  have HX := Lib.hid (keysAt_below hx hb1)
  have HK := Lib.hid (ikeysok_any vx x.1 (w.alloc (.cells #[vx, .string x.2] 27)) (keysAt_below hx hb1) hxl)
  obtain ⟨ax, cx, rfl, -, -⟩ := hx
  obtain ⟨x0, x1, -, -⟩ := row2_of HR.out
  clear hb1
  go_enter Try.func10, Try.ntmps10
  go_wp2_with fail
  generalize w.alloc (.cells #[.slice ax x.1.length cx, .string x.2] 27) = W at *
  refine HK.out.mono ?_
  rintro e w1 ⟨rfl, hb1⟩
  have HR1 := Lib.hid ((hb1.block _ (Array.getElem?_eq_some_iff.1 HR.out).1).trans HR.out)
  have HB1 := Lib.hid (HB.out.trans (hb1.mono HB.out.size))
  have HL1 := Lib.hid (cdAv_below HL.out hb1)
  have HX1 := Lib.hid (keysAt_below HX.out hb1)
  clear hb1 HR HB HL HX HK x0 x1
  obtain ⟨x0, x1, -, -⟩ := row2_of HR1.out
  cases h1 : keysOkR x.1 with
  | false =>
    have HN := Lib.hid (spanB_no (L := L) (x := x) fun g => by rw [h1] at g; cases g.1)
    clear h1
    go_wp2
    go_ret
    exact ⟨by rw [HN.out]; rfl, HB1.out⟩
  | true =>
    by_cases h4 : x.2.size = 4
    · have i4 : (x.2.size : Int) = 4 := by omega
      obtain ⟨xw, hxw⟩ : ∃ xw : W2, xw.1 = x := ⟨⟨x, h1, h4⟩, rfl⟩
      subst hxw
      have IR := Lib.hid (irow_any (.slice ax xw.1.1.length cx) xw.1.1 xw.1.2 w1 HX1.out xw.2.1 xw.2.2)
      rw [show hasX (xw.1.1, xw.1.2) = hX xw from rfl] at IR
      clear h1 h4
      go_wp2_with fail
      refine IR.out.mono ?_
      rintro e w2 ⟨rfl, hb2⟩
      have HB2 := Lib.hid (HB1.out.trans (hb2.mono HB1.out.size))
      have HL2 := Lib.hid (cdAv_below HL1.out hb2)
      have hrs := rowA_size (hX xw)
      have hone : (rowA (hX xw)).all (·.oneCell') = true := by unfold rowA; exact all_oneCell_toArray (rowV_one _)
      have HZ0 := Lib.hid (heap_alloc_new w2 (.cells #[.int .u64 0, .int .u64 0, .int .u64 0, .int .u64 0, .int .u64 0, .int .u64 0, .int .u64 0, .int .u64 0, .int .u64 0, .int .u64 0, .int .u64 0, .int .u64 0, .int .u64 0, .int .u64 0, .int .u64 0, .int .u64 0, .int .u64 0, .int .u64 0, .int .u64 0, .int .u64 0, .int .u64 0, .int .u64 0, .int .u64 0, .int .u64 0, .int .u64 0, .int .u64 0, .int .u64 0, .int .u64 0, .int .u64 0, .int .u64 0, .int .u64 0, .int .u64 0] 79))
      have hsr := World.setRow_alloc_new w2 #[.int .u64 0, .int .u64 0, .int .u64 0, .int .u64 0, .int .u64 0, .int .u64 0, .int .u64 0, .int .u64 0, .int .u64 0, .int .u64 0, .int .u64 0, .int .u64 0, .int .u64 0, .int .u64 0, .int .u64 0, .int .u64 0, .int .u64 0, .int .u64 0, .int .u64 0, .int .u64 0, .int .u64 0, .int .u64 0, .int .u64 0, .int .u64 0, .int .u64 0, .int .u64 0, .int .u64 0, .int .u64 0, .int .u64 0, .int .u64 0, .int .u64 0, .int .u64 0] (rowA (hX xw)) 79
      clear hb2 HB1 HL1 HX1 IR HR1 x0 x1
      go_wp2_with (refine wpList_store_rowTo rfl 79 (.tmp 5) (.tmp 21) rfl rfl w2.heap.size (rowA (hX xw)) rfl rfl 79 #[.int .u64 0, .int .u64 0, .int .u64 0, .int .u64 0, .int .u64 0, .int .u64 0, .int .u64 0, .int .u64 0, .int .u64 0, .int .u64 0, .int .u64 0, .int .u64 0, .int .u64 0, .int .u64 0, .int .u64 0, .int .u64 0, .int .u64 0, .int .u64 0, .int .u64 0, .int .u64 0, .int .u64 0, .int .u64 0, .int .u64 0, .int .u64 0, .int .u64 0, .int .u64 0, .int .u64 0, .int .u64 0, .int .u64 0, .int .u64 0, .int .u64 0, .int .u64 0] HZ0.out (by rw [hrs]; exact size_row) (by rw [hrs]; rfl) hone ?_)
      have hbA := (Below.refl w2.heap.size w2).alloc (Nat.le_refl _) (.cells (rowA (hX xw)) 79)
      have HA := Lib.hid (heap_alloc_new w2 (.cells (rowA (hX xw)) 79))
      have HB3 := Lib.hid (HB2.out.trans (hbA.mono HB2.out.size))
      have HL3 := Lib.hid (cdAv_below HL2.out hbA)
      have hsz3 : w2.heap.size < (w2.alloc (.cells (rowA (hX xw)) 79)).heap.size := by simp
      have hge : w.heap.size ≤ w2.heap.size := HB2.out.size
      clear hbA hsr HZ0 hone hrs HB2 HL2
      generalize w2.alloc (.cells (rowA (hX xw)) 79) = w3 at *
      generalize w2.heap.size = bl at *
      refine (isolved_any vl L w3 HL3.out hl hks).mono ?_
      rintro e w4 ⟨v, v3, R, P, rfl, hS⟩
      have hI : SpI w w4 bl v v3 (rowsN L L.length) R P (lessX R P xw 0) :=
        ⟨(hS.other (bl := bl) (World.grownBy.refl _ _) (fun e => by have := hS.geR _ e; omega) (fun e => by have := hS.geP _ e; omega) (HB3.out.trans (hS.below.mono HB3.out.size)) (fun b e => by have := hS.geR b e; omega) (fun b e => by have := hS.geP b e; omega)),
          (hS.below.block _ hsz3).trans HA.out, hge, (fun e => by have := hS.geR _ e; omega), (fun e => by have := hS.geP _ e; omega)⟩
      have HI := Lib.hid hI
      obtain ⟨a, c, rfl, hc, -⟩ := hS.rows
      obtain ⟨a3, c3, rfl, hc3, -⟩ := hS.piv
      have hfew : P.length ≤ 20 := hS.few
      clear hS hI HB3 HL3 HA hsz3
      go_wp2_with fail
      go_loopw [29] (fun i wx => ∃ (k : Nat) (wy : World), k ≤ P.length ∧ i = .int .i64 k ∧ wy = wx ∧ SpI w wy bl (.slice a P.length c) (.slice a3 P.length c3) (rowsN L L.length) R P (lessX R P xw k)) (fun i _ => P.length - (intOf i).toNat)
      case atStart => exact ⟨0, _, Nat.zero_le _, rfl, rfl, HI.out⟩
      case round =>
        obtain ⟨k, wy, hk, rfl, hwy, hJ⟩ := hrel
        subst hwy
        have HJ := Lib.hid hJ
        clear hJ HI
        by_cases hlt : k < P.length
        · have z0 : (0 : Int) ≤ (k : Int) := by omega
          have z1 : (k : Int) < (P.length : Int) := by omega
          obtain ⟨a', c', e1, -, hr⟩ := HJ.out.sv.rows
          cases e1
          obtain ⟨gr, rfl, hgr, hrr⟩ := hr.resolve_left (by omega)
          obtain ⟨a', c', e1, -, hp⟩ := HJ.out.sv.piv
          cases e1
          obtain ⟨gp, rfl, hgp, hpp⟩ := hp.resolve_left (by omega)
          have hc1 := hpp k hlt
          have hplt : P.getD k 0 < 2016 := HJ.out.sv.el.lt _ (by rw [List.getD, List.getElem?_eq_getElem hlt]; exact List.getElem_mem hlt)
          have hrk := hrr k hlt
          have hs0 := lessX_same R P xw k
          have hs1 := lessX_turn R P xw k
          have HS0 := Lib.hid hs0; have HS1 := Lib.hid hs1
          have hne : gr ≠ bl := fun e => HJ.out.apart (by rw [← e]; rfl)
          clear hs0 hs1 hr hp hrr hpp
          generalize P.getD k 0 = q at *
          have IH := Lib.hid (ihas_any bl 0 (hX (lessX R P xw k)) q (by omega) wy (rowA_range HJ.out.left))
          have IT := Lib.hid (iturn_any bl 0 (hX (lessX R P xw k)) gr (k * 32) (hX (R.getD k zW)) wy (rowA_range HJ.out.left) hrk (rowA_there HJ.out.left) (.inl hne))
          clear hrk
          go_wp2_with fail
          refine IH.out.mono ?_
          rintro e w5 ⟨rfl, hw5⟩
          have hw5' := hw5.symm
          clear hw5
          subst hw5'
          clear IH
          cases hb : hX (lessX R P xw k) q with
          | false =>
            have HE := Lib.hid (HS0.out hb)
            clear HS0 HS1 hb IT
            go_wp2_with fail
            exact ⟨⟨k + 1, _, by omega, by go_num, rfl, by rw [HE.out]; exact HJ.out⟩, by simp [intOf]; omega⟩
          | true =>
            have HE := Lib.hid (HS1.out hb)
            clear HS0 HS1 hb
            go_wp2_with fail
            refine IT.out.mono ?_
            rintro e w6 ⟨rfl, ha6⟩
            have HJ6 := Lib.hid (HJ.out.turn ha6)
            clear ha6 HJ IT
            go_wp2_with fail
            exact ⟨⟨k + 1, _, by omega, by go_num, rfl, by rw [HE.out]; exact HJ6.out⟩, by simp [intOf]; omega⟩
        · obtain rfl : k = P.length := by omega
          have hsp : spanB L xw.1 = decide (lessX R P xw P.length = zW) := by
            rw [Bool.eq_iff_iff, spanB_yes xw.2, decide_eq_true_eq]
            exact HJ.out.sv.el.spanned xw
          have HSP := Lib.hid hsp
          have hrs := rowA_size (hX (lessX R P xw P.length))
          have LD := run_loadVar_row (P := Try.prog) wy bl 79 79 (rowA (hX (lessX R P xw P.length))) (0, 0) _ HJ.out.left Try.underlying79 rfl (by rw [hrs]; exact size_row)
          have AE := row_eql_zero (lessX R P xw P.length)
          have HBZ := Lib.hid HJ.out.sv.below
          clear hsp hks hc hc3
          have HLEFT := Lib.hid HJ.out.left
          have AG := fun op x z b w => row_guard op x z (rowA (hX (lessX R P xw P.length))) b w
          clear HJ LD
          generalize lessX R P xw P.length = y at *
          generalize decide (y = zW) = q at *
          generalize rowA (hX y) = A at *
          go_wp2_with (refine wpList_load_row rfl 79 (.tmp 5) rfl bl rfl 79 A (0, 0) _ HLEFT.out Try.underlying79 rfl (by rw [hrs]; exact size_row) ?_)
          go_ret
          exact ⟨by rw [HSP.out]; rfl, HBZ.out⟩
    · have i4 : ¬ (x.2.size : Int) = 4 := by omega
      have HN := Lib.hid (spanB_no (L := L) (x := x) fun g => h4 g.2)
      clear h4 h1
      go_wp2
      go_ret
      exact ⟨by rw [HN.out]; rfl, HB1.out⟩
end Go.Proofs.Ytbbjpjkclealfaa
namespace Go.Proofs.Ytbbjpjkclealfaa
open Go.ChangeShapes Go.WideShapes Go.ChangeAt Go.RowKit
set_option linter.unusedVariables false

theorem CodeAt.drew {n₀ : Nat} {w : World} {a : Option Addr} {len : Nat} {zs : List Int} (h : CodeAt n₀ w a len zs) (k : Nat) : CodeAt n₀ (w.drewN k) a len zs := h
theorem DrawSt.drew {n₀ g : Nat} {a : Option Addr} {len cap : Nat} {zs : List Int} {i : Nat} {h : Int} {w : World} (hs : DrawSt n₀ w g a len cap zs i h) (k : Nat) : DrawSt n₀ (w.drewN k) g a len cap zs i h :=
  ⟨hs.code.drew k, hs.cur, hs.hg, hs.hi⟩
theorem Drew.drew {n₀ g : Nat} {a : Option Addr} {len cap : Nat} {zs : List Int} {c : Cu} {w w1 : World} (h : Drew n₀ g a len cap zs c w w1) (k : Nat) : Drew n₀ g a len cap zs c w (w1.drewN k) :=
  ⟨h.st.drew k, h.below.trans ⟨rfl, rfl, rfl, Nat.le_refl _, fun _ _ => rfl⟩, grownT h.grown ⟨rfl, rfl, rfl, Nat.le_refl _, fun _ _ _ => rfl⟩⟩
end Go.Proofs.Ytbbjpjkclealfaa
namespace Go.Proofs.Ytbbjpjkclealfaa
open Go.ChangeShapes Go.WideShapes Go.ChangeAt Go.RowKit Go.BigFrame
set_option linter.unusedVariables false

abbrev zL4 : L4 := grpL.zero
def strsL (Z : List L4) : List Value := Z.map fun z => Value.string z.1
theorem strsL_get (Z : List L4) (i : Nat) (hi : i < Z.length) : (strsL Z)[i]? = some (.string (Z.getD i zL4).1) := by simp [strsL, hi]
theorem strsL_set (Z : List L4) (i : Nat) (z : L4) : (strsL Z).set i (.string z.1) = strsL (Z.set i z) := by simp [strsL, List.map_set]
theorem strsL_ld (Z : List W2) : (Z.map (·.1.2)).map Value.string = strsL (Z.map ldW) := by simp [strsL, ldW]
structure LdO (w W : World) (a : Option Addr) (n c : Nat) (Z : List L4) : Prop where
  below : Below w.heap.size w W
  len : Z.length = n
  own : W.ownsRow w.heap.size 9 1 (.slice a n c) n (strsL Z)
theorem LdO.next {w W W' : World} {a : Option Addr} {n c : Nat} {Z : List L4} (h : LdO w W a n c Z) (hb : Below W.heap.size W W') : LdO w W' a n c Z := ⟨h.below.trans (hb.mono h.below.size), h.len, own_below h.own hb⟩
theorem LdO.set {w W : World} {g n c : Nat} {Z : List L4} (h : LdO w W (some ⟨g, 0, none⟩) n c Z) (i : Nat) (z : L4) : LdO w (W.setCell ⟨g, i, none⟩ (.string z.1)) (some ⟨g, 0, none⟩) n c (Z.set i z) := by
  have st := h.own.stored i (.string z.1)
  rw [strsL_set] at st
  exact ⟨h.below.setCell (p := ⟨g, i, none⟩) (h.own.lt g rfl).1 _, by rw [List.length_set, h.len], st.1⟩
theorem LdO.at {w W : World} {g n c : Nat} {Z : List L4} (h : LdO w W (some ⟨g, 0, none⟩) n c Z) (i : Nat) (hi : i < n) : W.cell? ⟨g, i, none⟩ = some (.string (Z.getD i zL4).1) ∧ W.frozen? ⟨g, i, none⟩ = false ∧ g < W.heap.size := by
  refine ⟨?_, h.own.frozenAt i, (h.own.lt g rfl).2⟩
  rw [h.own.cellAt i (by omega)]
  exact strsL_get Z i (by rw [h.len]; exact hi)
def stL (Z : List L4) (y : L4) (b : Nat) : List L4 × L4 := (List.range b).foldl (elimS bitsPla) (Z, y)
theorem stL_succ (Z : List L4) (y : L4) (b : Nat) : stL Z y (b + 1) = elimS bitsPla (stL Z y b) b := by
  unfold stL
  rw [List.range_succ, List.foldl_append]; rfl
/-- the first load with a one -/
def firstI (Z : List L4) (b : Nat) : Nat → Int
  | 0 => -1
  | k + 1 => if firstI Z b k < 0 ∧ bitL (Z.getD k zL4).1 b = true then (k : Int) else firstI Z b k
theorem firstI_cases (Z : List L4) (b : Nat) : ∀ k, (firstI Z b k = -1 ∧ ∀ j, j < k → bitL (Z.getD j zL4).1 b = false) ∨ ∃ i, i < k ∧ firstI Z b k = (i : Int) ∧ bitL (Z.getD i zL4).1 b = true ∧ ∀ j, j < i → bitL (Z.getD j zL4).1 b = false
  | 0 => .inl ⟨rfl, fun j hj => by omega⟩
  | k + 1 => by
    rcases firstI_cases Z b k with ⟨h1, h2⟩ | ⟨i, h1, h2, h3, h4⟩
    · cases hb : bitL (Z.getD k zL4).1 b with
      | true =>
        right
        refine ⟨k, by omega, ?_, hb, h2⟩
        show (if _ then _ else _) = _
        rw [if_pos ⟨by omega, hb⟩]
      | false =>
        left
        refine ⟨?_, fun j hj => ?_⟩
        · show (if _ then _ else _) = _
          rw [if_neg (by rw [hb]; simp)]; exact h1
        · rcases (by omega : j < k ∨ j = k) with h | rfl
          · exact h2 j h
          · exact hb
    · right
      refine ⟨i, by omega, ?_, h3, h4⟩
      show (if _ then _ else _) = _
      rw [if_neg (by omega)]; exact h2
theorem elim_none (Z : List L4) (v : L4) (b : Nat) (h : ∀ j, j < Z.length → bitL (Z.getD j zL4).1 b = false) : elimS bitsPla (Z, v) b = (Z, v) := by
  have hf : (Z, v).1.find? (fun z => bitsPla.has z b) = none := by
    refine List.find?_eq_none.2 fun z hz => ?_
    obtain ⟨j, hj, rfl⟩ := List.mem_iff_getElem.1 hz
    have := h j hj
    rw [List.getD, List.getElem?_eq_getElem hj] at this
    have e : bitsPla.has Z[j] b = false := this
    rw [e]; simp
  unfold elimS
  rw [hf]
theorem elim_some (Z : List L4) (v : L4) (b i : Nat) (hi : i < Z.length) (h1 : bitL (Z.getD i zL4).1 b = true) (h : ∀ j, j < i → bitL (Z.getD j zL4).1 b = false) :
    elimS bitsPla (Z, v) b = (Z.map (elimF bitsPla (Z.getD i zL4) b), elimF bitsPla (Z.getD i zL4) b v) := by
  have e : Z.getD i zL4 = Z[i] := by simp [List.getD, hi]
  have hf : (Z, v).1.find? (fun z => bitsPla.has z b) = some (Z.getD i zL4) := by
    rw [e]
    refine List.find?_eq_some_iff_getElem.2 ⟨?_, i, hi, rfl, fun j hj => ?_⟩
    · rw [e] at h1; exact h1
    · have := h j hj
      have e2 : Z.getD j zL4 = Z[j] := by simp [List.getD, show j < Z.length by omega]
      rw [e2] at this
      have e3 : bitsPla.has Z[j] b = false := this
      rw [e3]; rfl
  unfold elimS
  rw [hf]
/-- the loads, the first k of which have had one taken in -/
def mapL (one : L4) (b : Nat) (Z : List L4) (k : Nat) : List L4 := (Z.take k).map (elimF bitsPla one b) ++ Z.drop k
theorem mapL_len (one : L4) (b : Nat) (Z : List L4) (k : Nat) : (mapL one b Z k).length = Z.length := by
  unfold mapL
  rw [List.length_append, List.length_map, List.length_take, List.length_drop]; omega
theorem mapL_get (one : L4) (b : Nat) (Z : List L4) (k : Nat) (hk : k < Z.length) : (mapL one b Z k).getD k zL4 = Z.getD k zL4 := by
  unfold mapL
  simp only [List.getD]
  rw [List.getElem?_append_right (by rw [List.length_map, List.length_take]; omega), List.length_map, List.length_take, Nat.min_eq_left (by omega), Nat.sub_self, List.getElem?_drop, Nat.add_zero]
theorem mapL_succ (one : L4) (b : Nat) (Z : List L4) (k : Nat) (hk : k < Z.length) : mapL one b Z (k + 1) = (mapL one b Z k).set k (elimF bitsPla one b (Z.getD k zL4)) := by
  unfold mapL
  have e : (Z.take k).length = k := by rw [List.length_take]; omega
  have e2 : (List.map (elimF bitsPla one b) (Z.take k)).length = k := by rw [List.length_map, e]
  rw [List.take_succ_eq_append_getElem hk, List.map_append, List.drop_eq_getElem_cons hk, List.set_append_right _ _ (by omega), e2, Nat.sub_self, List.set_cons_zero, List.append_assoc]
  simp [List.getD, hk]
theorem mapL_same (one : L4) (b : Nat) (Z : List L4) (k : Nat) (hk : k < Z.length) (h : bitL (Z.getD k zL4).1 b = false) : mapL one b Z (k + 1) = mapL one b Z k := by
  rw [mapL_succ one b Z k hk]
  have e : elimF bitsPla one b (Z.getD k zL4) = Z.getD k zL4 := by
    unfold elimF
    have : bitsPla.has (Z.getD k zL4) b = false := h
    rw [this]; rfl
  rw [e, ← mapL_get one b Z k hk]
  have hl := mapL_len one b Z k
  generalize mapL one b Z k = M at *
  simp [List.getD, show k < M.length by omega]
theorem mapL_all (one : L4) (b : Nat) (Z : List L4) : mapL one b Z Z.length = Z.map (elimF bitsPla one b) := by
  unfold mapL
  rw [List.take_length, List.drop_length, List.append_nil]
theorem elimF_yes (one : L4) (b : Nat) (z : L4) (h : bitL z.1 b = true) : elimF bitsPla one b z = grpL.add z one := by
  unfold elimF
  have : bitsPla.has z b = true := h
  rw [if_pos this]
theorem elimF_no (one : L4) (b : Nat) (z : L4) (h : bitL z.1 b = false) : elimF bitsPla one b z = z := by
  unfold elimF
  have : bitsPla.has z b = false := h
  rw [this]; rfl
end Go.Proofs.Ytbbjpjkclealfaa
namespace Go.Proofs.Ytbbjpjkclealfaa
open Go.ChangeShapes Go.WideShapes Go.ChangeAt Go.RowKit Go.BigFrame
set_option linter.unusedVariables false

theorem span_more {L : List C2} (x : W2) (h : (lessG ordW.toPla (baseG ordW (rowsN L L.length)).1 x).1.1 ≠ []) : spanB L x.1 = false := by
  cases hs : spanB L x.1 with
  | false => rfl
  | true =>
    have h1 := (spanned_iff ordW _ x).1 ((spanB_yes x.2).1 hs)
    have hI := base_inv ordW (rowsN L L.length)
    exact absurd ((bareW _).1 (bare_of ordW fun k => span_bare ordW hI.bare h1 k)) h
theorem span_agr {L : List C2} (x : W2) (ha : agB (baseG ordW (rowsN L L.length)).2 = true) (h : (lessG ordW.toPla (baseG ordW (rowsN L L.length)).1 x).1.1 = []) : spanB L x.1 = decide ((lessG ordW.toPla (baseG ordW (rowsN L L.length)).1 x).1.2 = z4) := by
  rw [Bool.eq_iff_iff, spanB_yes x.2, decide_eq_true_eq, ← zeroW _ h]
  exact spanned_agreed ordW _ x ((agB_iff _).1 ha)
theorem span_lds {L : List C2} (x : W2) (h : (lessG ordW.toPla (baseG ordW (rowsN L L.length)).1 x).1.1 = []) : spanB L x.1 = decide (loadsEnd (rowsN L L.length) (ldW (lessG ordW.toPla (baseG ordW (rowsN L L.length)).1 x)) = grpL.zero) := by
  rw [Bool.eq_iff_iff, spanB_yes x.2, decide_eq_true_eq, spanned_iff ordW, span_load (base_inv ordW (rowsN L L.length)).bare h]
  exact loads_iff _ _
/-- the contract of l07Load -/
def SLoads : Prop := ∀ (vl : Value) (L : List C2) (y0 : ByteArray) (hy0 : y0.size = 4) (w : World), cdAv w none vl L → L.length ≤ 1900000 → (∀ x ∈ L, x.1.length ≤ 2000000) →
    Calls Try.prog 55 #[vl, .string y0] w fun e w' => e = .returned (.bool (decide (loadsEnd (rowsN L L.length) ⟨y0, hy0⟩ = grpL.zero))) ∧ Below w.heap.size w w'
set_option maxRecDepth 100000 in
set_option maxHeartbeats 2000000 in
theorem sspanned_any (SLO : SLoads) (vl : Value) (L : List C2) (vx : Value) (x : C2) (w : World) (h : cdAv w none vl L) (hl : L.length ≤ 1900000) (hks : ∀ x ∈ L, x.1.length ≤ 2000000) (hx : keysAt w vx x.1) (hxl : x.1.length ≤ 2000000) :
    Calls Try.prog 12 #[vl, .agg #[vx, .string x.2]] w fun e w' => e = .returned (.bool (spanB L x)) ∧ Below w.heap.size w w' := by
  have hb1 := (Below.refl w.heap.size w).alloc (Nat.le_refl _) (.cells #[vx, .string x.2] 27)
  have HR := Lib.hid (heap_alloc_new w (.cells #[vx, .string x.2] 27))
  have HB := Lib.hid hb1
  have HL := Lib.hid (cdAv_below h hb1)
  have HX := Lib.hid (keysAt_below hx hb1)
  obtain ⟨ax, cx, rfl, -, -⟩ := hx
  clear hb1
  go_enter Try.func12, Try.ntmps12
  go_wp2_with fail
  generalize w.alloc (.cells #[.slice ax x.1.length cx, .string x.2] 27) = W at *
  refine (sbase_any vl L W HL.out hl hks).mono ?_
  rintro e w1 ⟨g, c, us, rfl, hC⟩
  have hb1 := hC.below
  have HR1 := Lib.hid ((hb1.block _ (Array.getElem?_eq_some_iff.1 HR.out).1).trans HR.out)
  have HB1 := Lib.hid (HB.out.trans (hb1.mono HB.out.size))
  have HL1 := Lib.hid (cdAv_below HL.out hb1)
  have HX1 := Lib.hid (keysAt_below HX.out hb1)
  have HC := Lib.hid hC.to
  clear hb1 HR HB HL HX hC
  obtain ⟨x0, x1, -, -⟩ := row2_of HR1.out
  go_wp2_with fail
  refine (skeysok_any _ x.1 w1 HX1.out hxl).mono ?_
  rintro e w2 ⟨rfl, hb2⟩
  have HR2 := Lib.hid ((hb2.block _ (Array.getElem?_eq_some_iff.1 HR1.out).1).trans HR1.out)
  have HB2 := Lib.hid (HB1.out.trans (hb2.mono HB1.out.size))
  have HL2 := Lib.hid (cdAv_below HL1.out hb2)
  have HX2 := Lib.hid (keysAt_below HX1.out hb2)
  have HC2 := Lib.hid (cdAv_below HC.out hb2)
  clear hb2 HR1 HB1 HL1 HX1 HC x0 x1
  obtain ⟨x0, x1, -, -⟩ := row2_of HR2.out
  cases h1 : keysOkR x.1 with
  | false =>
    have HN := Lib.hid (spanB_no (L := L) (x := x) fun g => by rw [h1] at g; cases g.1)
    clear h1
    go_wp2
    go_ret
    exact ⟨by rw [HN.out]; rfl, HB2.out⟩
  | true =>
    by_cases h4 : x.2.size = 4
    · have i4 : (x.2.size : Int) = 4 := by omega
      obtain ⟨xw, hxw⟩ : ∃ xw : W2, xw.1 = x := ⟨⟨x, h1, h4⟩, rfl⟩
      subst hxw
      have hbl := base_len L L.length
      have SL := Lib.hid (sless_any (.slice (some ⟨g, 0, none⟩) (baseG ordW (rowsN L L.length)).1.length c) (baseG ordW (rowsN L L.length)).1 (.slice ax xw.1.1.length cx) xw (some g) w2 HC2.out (base_ne _) (by omega) HX2.out)
      have HM := Lib.hid (span_more (L := L) xw)
      have HA := Lib.hid (span_agr (L := L) xw)
      have HLD := Lib.hid (span_lds (L := L) xw)
      generalize hX : lessG ordW.toPla (baseG ordW (rowsN L L.length)).1 xw = X at *
      clear h1 h4 hX
      generalize hag : agB (baseG ordW (rowsN L L.length)).2 = ag at *
      clear hag
      generalize (baseG ordW (rowsN L L.length)).1 = B at *
      go_wp2_with fail
      refine SL.out.mono ?_
      rintro e w3 ⟨v3, rfl, hk3, -, hb3⟩
      have HB3 := Lib.hid (HB2.out.trans (hb3.mono HB2.out.size))
      have HL3 := Lib.hid (cdAv_below HL2.out hb3)
      obtain ⟨a3, c3, rfl, -, -⟩ := hk3
      have hbx := heap_alloc_new w3 (.cells #[.slice a3 X.1.1.length c3, .string X.1.2] 27)
      have hbA := (Below.refl w3.heap.size w3).alloc (Nat.le_refl _) (.cells #[.slice a3 X.1.1.length c3, .string X.1.2] 27)
      have HBX := Lib.hid hbx
      have HB4 := Lib.hid (HB3.out.trans (hbA.mono HB3.out.size))
      have HL4 := Lib.hid (cdAv_below HL3.out hbA)
      clear hb3 hbx hbA SL HB3 HL3 HX2 HC2 HR2 HB2 HL2 x0 x1
      by_cases h0 : X.1.1.length = 0
      · have i0 : (X.1.1.length : Int) = 0 := by omega
        have hx0 : X.1.1 = [] := List.length_eq_zero_iff.1 h0
        cases ag with
        | true =>
          have hsp := HA.out rfl hx0
          rw [← strEq] at hsp
          have HSP := Lib.hid hsp
          clear hsp HM HA HLD hx0 h0
          go_wp2_with fail
          generalize w3.alloc (.cells #[.slice a3 X.1.1.length c3, .string X.1.2] 27) = w4 at *
          generalize w3.heap.size = b8 at *
          have L1 : ∀ w', Below w4.heap.size w4 w' → (loadVar 9 ⟨b8, 1, none⟩).run Try.prog w' = .ok (.string X.1.2) w' := fun w' hw => cd_loads HBX.out hw
          refine wp_region_below w4 (by kernel_rfl) (by kernel_rfl) (Below.refl _ _) ?_
          repeat (first
            | go_big_quiet_skip
            | (go_big_quiet_want
               first
                 | (go_big_quiet_op; go_big_quiet_on)
                 | (refine q_load 9 _ _ _ rfl rfl L1 ?_; simp only [Act.put, List.setIfInBounds_toArray, List.set_cons_zero, List.set_cons_succ]; go_big_quiet_on)
                 | (go_big_quiet_op; refine ⟨_, fun _ _ => rfl, ?_⟩; go_big_quiet_on)
                 | (go_big_quiet_op; apply Exists.intro; refine ⟨fun w' hw' => ?_, ?_⟩
                    · first
                      | (with_reducible refine (szero_below w').mono ?_
                         rintro e w2 ⟨rfl, hb2⟩
                         exact ⟨rfl, hw'.trans (hb2.mono hw'.size)⟩)
                    go_big_quiet_on)))
          refine wpQuiet_nil ?_
          intro w5 hb5
          have HB5 := Lib.hid (HB4.out.trans (hb5.mono HB4.out.size))
          clear L1 hb5 HB4
          go_wp2
          go_ret
          exact ⟨by rw [HSP.out]; rfl, HB5.out⟩
        | false =>
          have HSP := Lib.hid (HLD.out hx0)
          have hy4 := X.2.2
          obtain ⟨x0, x1, -, -⟩ := row2_of HBX.out
          clear HM HA HLD hx0 h0
          go_wp2_with fail
          refine (SLO vl L X.1.2 hy4 _ HL4.out hl hks).mono ?_
          rintro e w5 ⟨rfl, hb5⟩
          have HB5 := Lib.hid (HB4.out.trans (hb5.mono HB4.out.size))
          clear hb5 HB4 HL4 HBX x0 x1
          go_wp2
          go_ret
          exact ⟨by rw [HSP.out]; rfl, HB5.out⟩
      · have i0 : ¬ (X.1.1.length : Int) = 0 := by omega
        have i1 : (0 : Int) < (X.1.1.length : Int) := by omega
        have HSP := Lib.hid (HM.out fun e => h0 (by rw [e]; rfl))
        clear HM HA HLD h0
        go_wp2
        go_ret
        exact ⟨by rw [HSP.out]; rfl, HB4.out⟩
    · have i4 : ¬ (x.2.size : Int) = 4 := by omega
      have HN := Lib.hid (spanB_no (L := L) (x := x) fun g => h4 g.2)
      clear h4 h1
      go_wp2
      go_ret
      exact ⟨by rw [HN.out]; rfl, HB2.out⟩
end Go.Proofs.Ytbbjpjkclealfaa
namespace Go.Proofs.Ytbbjpjkclealfaa
open Go.ChangeShapes Go.WideShapes Go.ChangeAt Go.RowKit Go.BigFrame
set_option linter.unusedVariables false

set_option maxRecDepth 100000 in
set_option maxHeartbeats 20000000 in
theorem sload_any (vl : Value) (L : List C2) (y0 : ByteArray) (hy0 : y0.size = 4) (w : World) (h : cdAv w none vl L) (hl : L.length ≤ 1900000) (hks : ∀ x ∈ L, x.1.length ≤ 2000000) :
    Calls Try.prog 55 #[vl, .string y0] w fun e w' => e = .returned (.bool (decide (loadsEnd (rowsN L L.length) ⟨y0, hy0⟩ = grpL.zero))) ∧ Below w.heap.size w w' := by
  have hba := (Below.refl w.heap.size w).alloc (Nat.le_refl _) (.cells #[] 27)
  have hB1 : BsC w (w.alloc (.cells #[] 27)) w.heap.size 0 [] [] := by
    refine ⟨(Below.refl _ _).alloc (Nat.le_refl _) _, rfl, ?_, fun i hi => by simp at hi⟩
    exact World.ownsRow_made (base := w.heap.size) (e := 27) (size := 2) w #[] 0 (Nat.le_refl _) (by unfold maxLen; omega) rfl
  have hsz1 : (w.alloc (.cells #[] 27)).heap.size = w.heap.size + 1 := by simp
  have hz2 := World.ownsRow_made (base := w.heap.size) (e := 9) (size := 1) (w.alloc (.cells #[] 27)) #[] 0 (by simp) (by unfold maxLen; omega) rfl
  rw [hsz1] at hz2
  have hB0 : BsZ w ((w.alloc (.cells #[] 27)).alloc (.cells #[] 9)) w.heap.size 0 [] [] (.slice (some ⟨w.heap.size + 1, 0, none⟩) 0 0) [] :=
    ⟨hB1.next ((Below.refl _ _).alloc (Nat.le_refl _) _), hz2, (fun e => by have e2 : w.heap.size + 1 = w.heap.size := Option.some.inj e; omega), fun i hi => by simp at hi⟩
  have HB0 := Lib.hid hB0
  clear hB0 hB1 hz2 hba hsz1
  obtain ⟨al, cl, rfl, hcl, hcells⟩ := h
  go_enter Try.func55, Try.ntmps55
  go_wp2_with fail
  generalize (w.alloc (.cells #[] 27)).alloc (.cells #[] 9) = W0 at *
  go_loopw [5, 6, 7, 8] (fun v z m i wr => ∃ (k g c : Nat) (us : List Value) (vz : Value), k ≤ L.length ∧ v = .slice (some ⟨g, 0, none⟩) (baseG ordW (rowsN L k)).1.length c ∧ m = .int .i64 ((rowsN L k).length : Nat) ∧ i = .int .i64 k ∧ vz = z ∧ BsZ w wr g c us (baseG ordW (rowsN L k)).1 vz ((baseG ordW (rowsN L k)).2.map (·.1.2)))
    (fun _ _ _ i _ => L.length - (intOf i).toNat)
  case atStart => exact ⟨0, w.heap.size, 0, [], _, Nat.zero_le _, rfl, rfl, rfl, rfl, HB0.out⟩
  case round =>
    clear HB0
    obtain ⟨k, g, c, us, vz, hk, rfl, rfl, rfl, hvz, hC⟩ := hrel
    subst hvz
    rename_i wr
    have hzl := base_z_len L k
    have HC := Lib.hid hC
    have hbl := base_len L k
    have hml := (rowsN_le L k).1
    clear hC
    by_cases hx : k < L.length ∧ (rowsN L k).length < 20
    · obtain ⟨hlt, hm⟩ := hx
      obtain ⟨gl, off, rfl, hg, hcs⟩ := hcells.resolve_left (by omega)
      have z0 : (0 : Int) ≤ (k : Int) := by omega
      have z1 : (k : Int) < (L.length : Int) := by omega
      have m1 : ((rowsN L k).length : Int) < 20 := by omega
      obtain ⟨u, c1, c2, c3⟩ := hcs k hlt
      have hxl := hks (L.getD k blankC) (by rw [List.getD, List.getElem?_eq_getElem hlt]; exact List.getElem_mem hlt)
      have hyes := fun hck => rowsN_yes (l := L) (i := k) hck hm
      have hno := fun hck => rowsN_no (l := L) (i := k) hck
      generalize L.getD k blankC = x at *
      have hB := HC.out.bs.below
      have SC := Lib.hid (fun w' (hw : Below wr.heap.size wr w') => scodeok_any u x.1 x.2 w' (keysAt_below (keysAt_below c3.to hB) hw) hxl)
      have d1 := (hB.cell (p := ⟨gl, off + k * 2, none⟩) hg).trans c1
      have d2 := (hB.cell (p := ⟨gl, off + k * 2 + 1, none⟩) hg).trans c2
      have HX := Lib.hid (keysAt_below c3.to hB)
      have HXA := Lib.hid (keysAv.also (keysAv_of (b := some g) c3.to (fun j hj e => by cases e; have := HC.out.bs.blk; omega)) HX.out)
      have HXZ := Lib.hid (keysAv.also (keysAv_of (b := vz.ownBlock) c3.to (fun j hj e => by have := (HC.out.zown.lt j e.symm).1; omega)) HX.out)
      have HD := Lib.hid (And.intro (And.intro d1 d2) (Nat.lt_of_lt_of_le hg hB.size))
      obtain ⟨au, cu, hu, -, -⟩ := c3
      subst hu
      clear hcells hcs c1 c2 hB hks hxl
      go_wp2_with fail
      refine (SC.out _ (Below.refl _ _)).mono ?_
      rintro e w1 ⟨rfl, hb1⟩
      have HC1 := Lib.hid (HC.out.next hb1)
      have HX1 := Lib.hid (keysAt_below HX.out hb1)
      have HXA1 := Lib.hid (HXA.out.below hb1)
      have HXZ1 := Lib.hid (HXZ.out.below hb1)
      have d1' := (hb1.cell (p := ⟨gl, off + k * 2, none⟩) HD.out.2).trans d1
      have d2' := (hb1.cell (p := ⟨gl, off + k * 2 + 1, none⟩) HD.out.2).trans d2
      clear hb1 d1 d2 HD HC HX HXA HXZ SC
      cases hck : codeOkB (x.1, x.2) with
      | false =>
        have HN := Lib.hid (hno hck)
        clear hyes hno hck HX1 HXA1 HXZ1
        go_wp2_with fail
        exact ⟨⟨k + 1, g, c, us, _, by omega, by rw [HN.out], by rw [HN.out], by go_num, rfl, by rw [HN.out]; exact HC1.out⟩, by simp [intOf]; omega⟩
      | true =>
        have HY := Lib.hid (hyes hck)
        have hw := ok_w hck
        generalize hxw : (⟨x, hw⟩ : W2) = xw at *
        have hx1 : x = xw.1 := by rw [← hxw]
        subst hx1
        have SL := Lib.hid (sless_any (.slice (some ⟨g, 0, none⟩) (baseG ordW (rowsN L k)).1.length c) (baseG ordW (rowsN L k)).1 (.slice au xw.1.1.length cu) xw (some g) w1 HC1.out.bs.to (base_ne _) (by omega) HX1.out)
        have hBE := @base_bare (rowsN L k) xw
        have hBM := @base_more (rowsN L k) xw
        clear hyes hno hck hxw hw HX1
        generalize rowsN L k = R at *
        generalize hX : lessG ordW.toPla (baseG ordW R).1 xw = X at *
        have HBE := Lib.hid hBE; have HBM := Lib.hid hBM
        clear hBE hBM
        generalize (baseG ordW R).1 = B at *
        generalize (baseG ordW R).2 = Z at *
        have hr1 : IntKind.i64.wrap ((R.length : Int) + 1) = ((R.length + 1 : Nat) : Int) := by rw [IntWalk.i64_in _ (by omega)]; omega
        go_wp2_with fail
        refine SL.out.mono ?_
        rintro e w2 ⟨v2, rfl, hk2, ha2, hb2⟩
        have HZ2 := Lib.hid (show keysAv w2 vz.ownBlock v2 X.1.1 from by
          cases hvo : vz.ownBlock with
          | none => exact keysAv_of hk2 (fun j _ e => by cases e)
          | some b => exact ha2 b (HC1.out.zown.lt b hvo).2 (by rw [← hvo]; exact HXZ1.out))
        have HA2 := Lib.hid (ha2 g HC1.out.bs.blk.2 HXA1.out)
        have HC2 := Lib.hid (HC1.out.next hb2)
        obtain ⟨a2, c2, rfl, -, -⟩ := hk2
        clear ha2 hb2 SL HXA1 HXZ1 HC1 d1' d2'
        by_cases h0 : X.1.1.length = 0
        · have i0 : (X.1.1.length : Int) = 0 := by omega
          have hx0 : X.1.1 = [] := List.length_eq_zero_iff.1 h0
          have HE := Lib.hid (HBE.out hx0)
          clear HBE HBM hx0 h0
          have hbA := (Below.refl w2.heap.size w2).alloc (Nat.le_refl _) (.cells #[.slice a2 X.1.1.length c2, .string X.1.2] 27)
          have hbx := heap_alloc_new w2 (.cells #[.slice a2 X.1.1.length c2, .string X.1.2] 27)
          have HC3 := Lib.hid (HC2.out.next hbA)
          obtain ⟨x0, x1, -, -⟩ := row2_of hbx
          have HBX := Lib.hid hbx
          have hbS := (Below.refl (w2.alloc (.cells #[.slice a2 X.1.1.length c2, .string X.1.2] 27)).heap.size (w2.alloc (.cells #[.slice a2 X.1.1.length c2, .string X.1.2] 27))).alloc (Nat.le_refl _) (.cells #[.string X.1.2] 9)
          have HC4 := Lib.hid (HC3.out.next hbS)
          have hu := heap_alloc_new (w2.alloc (.cells #[.slice a2 X.1.1.length c2, .string X.1.2] 27)) (.cells #[.string X.1.2] 9)
          rw [show (w2.alloc (.cells #[.slice a2 X.1.1.length c2, .string X.1.2] 27)).heap.size = w2.heap.size + 1 by simp] at hu
          have HU := Lib.hid hu
          clear hu
          have hsz4 := HC4.out.bs.below.size
          have hl8 := (Array.getElem?_eq_some_iff.1 HBX.out).1
          clear hbA hbx HC2 HA2 HZ2 hbS HC3
          go_wp2_with (at_builtin; refine wpList_append_str rfl (.tmp 46) (.tmp 49) rfl HC4.out.zown (w2.heap.size + 1) X.1.2 HU.out rfl rfl (by rw [List.length_map]; omega) hsz4 ?_; intro v5 w5 ho5 hg5 hv5)
          have HN := Lib.hid (HC4.out.load hg5 ho5 hv5)
          clear ho5 hg5 hv5 HC4 HU
          exact ⟨⟨k + 1, g, c, us, _, by omega, by rw [HY.out, HE.out], by rw [HY.out, List.length_append]; go_num, by go_num, rfl, by rw [HY.out, HE.out, List.map_append]; exact HN.out⟩, by simp [intOf]; omega⟩
        · have i0 : ¬ (X.1.1.length : Int) = 0 := by omega
          have HE := Lib.hid (HBM.out fun e => h0 (List.length_eq_zero_iff.2 e))
          clear HBE HBM
          go_wp2_with fail
          have HBOX := Lib.hid (heap_alloc_new w2 (.cells #[.slice a2 X.1.1.length c2, .string X.1.2] 27))
          have HC3 := Lib.hid (HC2.out.next ((Below.refl w2.heap.size w2).alloc (Nat.le_refl _) (.cells #[.slice a2 X.1.1.length c2, .string X.1.2] 27)))
          have HA3 := Lib.hid (HA2.out.below ((Below.refl w2.heap.size w2).alloc (Nat.le_refl _) (.cells #[.slice a2 X.1.1.length c2, .string X.1.2] 27)))
          have HGB := Lib.hid HC2.out.bs.blk.2
          have HZ3 := Lib.hid (HZ2.out.below ((Below.refl w2.heap.size w2).alloc (Nat.le_refl _) (.cells #[.slice a2 X.1.1.length c2, .string X.1.2] 27)))
          clear HA2 HC2 HZ2
          generalize w2.alloc (.cells #[.slice a2 X.1.1.length c2, .string X.1.2] 27) = w3 at *
          generalize w2.heap.size = b8 at *
          have hI : InZ w w3 g c us (insN X B 0) B.length b8 (.slice a2 X.1.1.length c2) X.1 vz (Z.map (·.1.2)) := ⟨HC3.out, rfl, HBOX.out, HA3.out, HZ3.out, HGB.out⟩
          have HI := Lib.hid hI
          clear hI HC3 HBOX HA3 HGB HZ3
          have hbq : ((X.1.1.length : Int) == 0) = false := by rw [beq_eq_false_iff_ne]; exact i0
          simp only [hbq]
          go_loopw [10] (fun i wr => ∃ (j : Nat) (us : List Value), j ≤ B.length ∧ i = .int .i64 j ∧ InZ w wr g c us (insN X B j) B.length b8 (.slice a2 X.1.1.length c2) X.1 vz (Z.map (·.1.2))) (fun i _ => B.length - (intOf i).toNat)
          case atStart => exact ⟨0, us, Nat.zero_le _, rfl, HI.out⟩
          case round =>
            obtain ⟨j, us, hj, rfl, hJ⟩ := hrel
            have HJ := Lib.hid hJ
            clear hJ HI
            rename_i wr
            by_cases hjl : j < B.length
            · have y0 : (0 : Int) ≤ (j : Int) := by omega
              have y1 : (j : Int) < (B.length : Int) := by omega
              have hat := HJ.out.bz.bs.at j (by rw [insN_len]; exact hjl)
              rw [insN_get X B j hjl] at hat
              have hset := insN_set_map X B j hjl
              have hsame := insN_get X B j hjl
              generalize hBj : B.getD j grpW.zero = Bj at *
              generalize us.getD j undef = u at *
              obtain ⟨k0, k1, kf0, kf1, kk⟩ := hat
              obtain ⟨ax', cx', hax, -, hxk⟩ := HJ.out.key
              cases hax
              obtain ⟨gx, ox, rfl, hgx, -, hxc⟩ := hxk.resolve_left h0
              have hk0 := hxc 0 (by omega)
              simp only [Nat.zero_mul, Nat.add_zero] at hk0
              have x0 : (0 : Int) < (X.1.1.length : Int) := by omega
              have hpiv : X.1.1.getD 0 (0, 0) = ordW.piv X := by
                show X.1.1.getD 0 (0, 0) = X.1.1.headD (0, 0)
                cases hB : X.1.1 with
                | nil => rw [hB] at h0; exact absurd rfl h0
                | cons a l => rfl
              rw [hpiv] at hk0
              have L1 : ∀ w', Below wr.heap.size wr w' → (loadVar 25 ⟨b8, 0, none⟩).run Try.prog w' = .ok (.slice (some ⟨gx, ox, none⟩) X.1.1.length c2) w' := fun w' hw => cd_loadk HJ.out.box hw
              have L2 : ∀ w', Below wr.heap.size wr w' → (loadVar 25 ⟨g, j * 2, none⟩).run Try.prog w' = .ok u w' := fun w' hw => load_one agg_keys ((hw.cell (p := ⟨g, j * 2, none⟩) HJ.out.bz.bs.blk.2).trans k0)
              have L3 : ∀ w', Below wr.heap.size wr w' → (loadVar 41 ⟨gx, ox, none⟩).run Try.prog w' = .ok (kv (ordW.piv X)) w' := fun w' hw => key_load hk0 hgx hw
              have HK := Lib.hid (fun w' (hw : Below wr.heap.size wr w') => shaskey_any u Bj.1.1 (ordW.piv X) w' (keysAt_below kk.to hw) (by have := keys_few Bj.2.1; omega))
              have hhk : hasKeyB Bj.1.1 (ordW.piv X) = ordW.has Bj (ordW.piv X) := hasKey_mem _ _
              rw [hhk] at HK
              have HKK := Lib.hid kk
              have hS : insS ordW.toPla X Bj = if ordW.has Bj (ordW.piv X) = true then grpW.add Bj X else Bj := rfl
              have HS := Lib.hid hS
              have HSET := Lib.hid hset
              have HSAME := Lib.hid hsame
              have HBJ := Lib.hid hBj
              clear hS hhk hk0 hxc hxk hpiv kk hset hsame hBj
              generalize ordW.piv X = kp at *
              obtain ⟨kp1, kp2⟩ := kp
              unfold kv at L3 HK
              dsimp only at L3 HK
              generalize hhas : ordW.has Bj (kp1, kp2) = hs at *
              go_wp2_with fail
              refine wp_region_below wr (by kernel_rfl) (by kernel_rfl) (Below.refl _ _) ?_
              repeat (first
                | go_big_quiet_skip
                | (go_big_quiet_want
                   first
                     | (go_big_quiet_op; go_big_quiet_on)
                     | (refine q_load 25 _ _ _ rfl rfl L1 ?_; simp only [Act.put, List.setIfInBounds_toArray, List.set_cons_zero, List.set_cons_succ]; go_big_quiet_on)
                     | (refine q_load 25 _ _ _ rfl rfl L2 ?_; simp only [Act.put, List.setIfInBounds_toArray, List.set_cons_zero, List.set_cons_succ]; go_big_quiet_on)
                     | (refine q_load 41 _ _ _ rfl rfl L3 ?_; simp only [Act.put, List.setIfInBounds_toArray, List.set_cons_zero, List.set_cons_succ]; go_big_quiet_on)
                     | (go_big_quiet_op; refine ⟨_, fun _ _ => rfl, ?_⟩; go_big_quiet_on)
                     | (go_big_quiet_op; apply Exists.intro; refine ⟨fun w' hw' => ?_, ?_⟩
                        · first
                          | (with_reducible refine (HK.out w' hw').mono ?_
                             rintro e w2 ⟨rfl, hb2⟩
                             exact ⟨rfl, hw'.trans (hb2.mono hw'.size)⟩)
                        go_big_quiet_on)))
              refine wpQuiet_nil ?_
              intro w4 hb4
              have HJ4 := Lib.hid (HJ.out.next hb4)
              have HKK4 := Lib.hid (HKK.out.below hb4)
              have k0' := (hb4.cell (p := ⟨g, j * 2, none⟩) HJ.out.bz.bs.blk.2).trans k0
              have k1' := (hb4.cell (p := ⟨g, j * 2 + 1, none⟩) HJ.out.bz.bs.blk.2).trans k1
              clear hb4 HJ HKK L1 L2 L3 HK k0 k1 kf0 kf1
              cases hs with
              | false =>
                go_wp2_with fail
                exact ⟨⟨j + 1, us, by omega, by go_num, HJ4.out.same (by rw [HBJ.out]; exact HSET.out) (by rw [HBJ.out]; exact HSAME.out) (by rw [HBJ.out, HS.out]; rfl) hjl⟩, by simp [intOf]; omega⟩
              | true =>
                have SA := Lib.hid (fun w' (hw : Below w4.heap.size w4 w') => sadd_any u Bj.1.1 Bj.1.2 (.slice (some ⟨gx, ox, none⟩) X.1.1.length c2) X.1.1 X.1.2 w' (keysAt_below HKK4.out.to hw) (keysAt_below HJ4.out.key.to hw) Bj.2 X.2)
                obtain ⟨b0, b1, bf0, bf1⟩ := row2_of HJ4.out.box
                have hl5 := (Array.getElem?_eq_some_iff.1 HJ4.out.box).1
                obtain ⟨au, cu, rfl, -, -⟩ := HKK4.out
                clear HKK4
                go_wp2_with fail
                go_region_law (first
                  | (go_simp
                     go_at_call 42
                     refine (SA.out _ (by first | exact Below.refl _ _ | exact (Below.refl _ _).drew)).mono ?_
                     rintro e w5 ⟨v5, rfl, ho5, hb5⟩
                     dsimp only
                     obtain ⟨a5, n5, k5, rfl⟩ := own_shape ho5
                     have HJ5 := Lib.hid (InZ.next (InZ.next HJ4.out (by first | exact Below.refl _ _ | exact (Below.refl _ _).drew)) hb5)
                     have HW := Lib.hid (keysAv_own ho5 (show g < _ by have := HJ4.out.bz.bs.blk.2; first | exact this | (show g < w4.heap.size; omega)))
                     have HWZ := Lib.hid (keysAv_ownO (o := vz.ownBlock) ho5 (fun b e => by have := (HJ4.out.bz.zown.lt b e).2; first | exact this | (show b < w4.heap.size; omega)))
                     obtain ⟨k0, k1, kf0, kf1, -⟩ := HJ5.out.bz.bs.at j (by rw [insN_len]; exact hjl)
                     have hg5 := HJ5.out.bz.bs.blk.2
                     clear hb5 ho5 b0 b1 bf0 bf1 k0' k1' SA HJ4 hl5))
                all_goals
                  have HJ7 := Lib.hid (HJ5.out.set (B' := insN X B (j + 1)) j (.slice a5 n5 k5) (addC (Bj.1.1, Bj.1.2) (X.1.1, X.1.2)) HW.out HWZ.out (by rw [insN_len, insN_len]) (by rw [HSET.out, HS.out]; rfl))
                  clear HJ5 HW HWZ
                  go_wp2
                  exact ⟨⟨j + 1, us.set j (.slice a5 n5 k5), by omega, by go_num, HJ7.out⟩, by simp [intOf]; omega⟩
            · obtain rfl : j = B.length := by omega
              have e1 := heap_alloc_new wr (.cells #[.slice a2 X.1.1.length c2, .string X.1.2] 27)
              have hbA := (Below.refl wr.heap.size wr).alloc (Nat.le_refl _) (.cells #[.slice a2 X.1.1.length c2, .string X.1.2] 27)
              have HJA := Lib.hid (HJ.out.next hbA)
              have HE1 := Lib.hid e1
              obtain ⟨b0, b1, bf0, bf1⟩ := row2_of HJ.out.box
              have hl5 := (Array.getElem?_eq_some_iff.1 HJ.out.box).1
              have HLN := Lib.hid (insN_len X B B.length)
              clear e1 hbA HJ
              have HOW := Lib.hid HJA.out.bz.bs.own
              rw [HLN.out] at HOW
              have hbz := HJA.out.bz.bs.below.size
              go_wp2_with (at_builtin; refine wpList_append_cd1 rfl (.tmp 76) (.tmp 78) rfl HOW.out wr.heap.size (.slice a2 X.1.1.length c2) X.1 HE1.out ⟨_, _, _, rfl⟩ HJA.out.key rfl rfl (by rw [List.length_map, HLN.out]; omega) hbz ?_; intro v5 w5 hown5 hgr5 hv5)
              have hmap5 : (insN X B B.length).map (·.1) ++ [X.1] = (insG ordW.toPla B X).map (·.1) := by rw [← insN_all, List.map_append]; rfl
              have hB5 := HJA.out.bz.bs.below.grown hgr5 HJA.out.bz.bs.below.size (fun j e => by cases e; exact HJA.out.bz.bs.blk.1)
              have hulen : us.length = B.length := by have := HJA.out.bz.bs.own.len; rw [List.length_map, HLN.out] at this; exact this
              rcases ownsRowK_shape hown5.own with ⟨-, hz⟩ | ⟨g3, c3, rfl, -⟩
              · rw [hmap5, List.length_map] at hz
                simp [insG] at hz
              · have hbs5 : BsC w w5 g3 c3 (us ++ [.slice a2 X.1.1.length c2]) (insG ordW.toPla B X) := by
                  have h5 := hown5
                  rw [hmap5, List.length_map] at h5
                  exact ⟨hB5, h5⟩
                have HP5 := Lib.hid (HJA.out.bz.push hgr5 hbs5 rfl hmap5.symm (fun i _ hi => by rw [hi, HLN.out, ← hulen]; simp [List.getD]) HJA.out.zx hv5)
                rw [hmap5, List.length_map] at *
                exact ⟨⟨k + 1, g3, c3, us ++ [.slice a2 X.1.1.length c2], _, by omega, by rw [HY.out, HE.out], by rw [HY.out, List.length_append]; go_num, by go_num, rfl, by rw [HY.out, HE.out]; exact HP5.out⟩, by simp [intOf]; omega⟩
    · have hf : rowsN L L.length = rowsN L k := by
        by_cases hlt : k < L.length
        · have hm : (rowsN L k).length = 20 := by omega
          have := rowsN_full (l := L) (i := k) hm (L.length - k)
          rwa [show k + (L.length - k) = L.length by omega] at this
        · obtain rfl : k = L.length := by omega
          rfl
      apply wp_seq_k; intro K0 hK0
      apply wp_seq_k; intro K1 hK1
      go_cut [25] (fun c wx => c = .bool false ∧ wr = wx)
      case first =>
        by_cases hlt : k < L.length
        · have m1 : ¬ ((rowsN L k).length : Int) < 20 := by omega
          have z1 : (k : Int) < (L.length : Int) := by omega
          clear hf hcells hks HC hx hK0 hK1
          go_wp2_with fail
          go_meet
          exact ⟨rfl, rfl⟩
        · have z1 : ¬ (k : Int) < (L.length : Int) := by omega
          clear hf hcells hks HC hx hK0 hK1
          go_wp2_with fail
          go_meet
          exact ⟨rfl, rfl⟩
      case rest =>
        obtain ⟨rfl, hwx⟩ := hcut
        subst hwx
        refine hK1 _ _ ?_
        clear hK1 hK0
        rw [← hf] at HC
        clear hf hcells hks hx hbl hml
        have hzs := HC.out.zown
        rw [strsL_ld] at hzs
        have hzle := base_z_len L L.length
        obtain ⟨az, nz, cz, hvz, hnz⟩ : ∃ a n c, vz = .slice a n c ∧ ((baseG ordW (rowsN L L.length)).2.map ldW).length = n := by
          rcases ownsRowK_shape hzs with ⟨e1, h0⟩ | ⟨gq, cap, e1, -⟩
          · exact ⟨none, 0, 0, e1, by rw [List.length_map] at h0 ⊢; exact h0⟩
          · exact ⟨_, _, _, e1, by rw [List.length_map, List.length_map]⟩
        subst hvz
        have hL0 : LdO w wr az nz cz (stL ((baseG ordW (rowsN L L.length)).2.map ldW) ⟨y0, hy0⟩ 0).1 := by
          refine ⟨HC.out.bs.below, hnz, ?_⟩
          rw [← hnz]
          show wr.ownsRow _ _ _ _ _ (strsL ((baseG ordW (rowsN L L.length)).2.map ldW))
          rw [List.length_map] at hzs ⊢
          rw [hnz.symm, List.length_map] at hzs
          exact hzs
        have HL0 := Lib.hid hL0
        have hEnd : loadsEnd (rowsN L L.length) ⟨y0, hy0⟩ = (stL ((baseG ordW (rowsN L L.length)).2.map ldW) ⟨y0, hy0⟩ 32).2 := rfl
        have hnz20 : nz ≤ 20 := by rw [← hnz, List.length_map]; exact hzle
        have HEND := Lib.hid hEnd
        clear hzs hzle hL0 hEnd HC
        generalize (baseG ordW (rowsN L L.length)).2.map ldW = Z0 at *
        go_wp2_with fail
        go_loopw [1, 11] (fun v i wx => ∃ (b : Nat) (wy : World), b ≤ 32 ∧ i = .int .i64 b ∧ v = .string (stL Z0 ⟨y0, hy0⟩ b).2.1 ∧ wy = wx ∧ LdO w wy az nz cz (stL Z0 ⟨y0, hy0⟩ b).1) (fun _ i _ => 32 - (intOf i).toNat)
        case atStart => exact ⟨0, _, Nat.zero_le _, rfl, rfl, rfl, HL0.out⟩
        case round =>
          obtain ⟨b, wy, hb, rfl, rfl, hwy, hLd⟩ := hrel
          subst hwy
          have HL := Lib.hid hLd
          clear hLd HL0
          by_cases hb32 : b < 32
          · have z0 : (0 : Int) ≤ (b : Int) := by omega
            have z1 : (b : Int) < 32 := by omega
            have hsu := stL_succ Z0 ⟨y0, hy0⟩ b
            have hv4 := (stL Z0 ⟨y0, hy0⟩ b).2.2
            have heta : stL Z0 ⟨y0, hy0⟩ b = ((stL Z0 ⟨y0, hy0⟩ b).1, (stL Z0 ⟨y0, hy0⟩ b).2) := rfl
            rw [heta] at hsu
            have HSU := Lib.hid hsu
            clear hsu heta
            generalize (stL Z0 ⟨y0, hy0⟩ b).1 = Z at *
            generalize (stL Z0 ⟨y0, hy0⟩ b).2 = yv at *
            have hZl := HL.out.len
            go_wp2_with fail
            go_loopw [12, 13] (fun at' i wx => ∃ (k : Nat) (wz : World), k ≤ nz ∧ i = .int .i64 k ∧ at' = .int .i64 (firstI Z b k) ∧ wy = wx) (fun _ i _ => nz - (intOf i).toNat)
            case atStart => exact ⟨0, wy, Nat.zero_le _, rfl, rfl, rfl⟩
            case round =>
              obtain ⟨k, -, hk, rfl, rfl, hwz⟩ := hrel
              subst hwz
              by_cases hkn : k < nz
              · have y0' : (0 : Int) ≤ (k : Int) := by omega
                have y1 : (k : Int) < (nz : Int) := by omega
                obtain ⟨g, rfl⟩ : ∃ g, az = some ⟨g, 0, none⟩ := by
                  rcases HL.out.own.2 with ⟨e1, h0⟩ | ⟨g, cap, cur, e1, _⟩
                  · omega
                  · cases e1; exact ⟨g, rfl⟩
                obtain ⟨c0, -, -⟩ := HL.out.at k hkn
                have hs4 := (Z.getD k zL4).2
                have SB := Lib.hid (sbit_any (Z.getD k zL4).1 b hs4 hb32 wy)
                have hst : firstI Z b (k + 1) = if firstI Z b k < 0 ∧ bitL (Z.getD k zL4).1 b = true then (k : Int) else firstI Z b k := rfl
                have HST := Lib.hid hst
                clear hst
                generalize firstI Z b k = f at *
                generalize Z.getD k zL4 = zk at *
                generalize hbit : bitL zk.1 b = q at *
                cases q with
                | false =>
                  have hn : firstI Z b (k + 1) = f := by rw [HST.out, if_neg (by simp)]
                  have HN := Lib.hid hn
                  clear hn HST
                  go_wp2_with fail
                  refine SB.out.mono ?_
                  rintro e w2 ⟨rfl, hw2⟩
                  have hw2' := hw2.symm
                  clear hw2
                  subst hw2'
                  clear SB
                  go_wp2_with fail
                  exact ⟨⟨k + 1, wy, by omega, by go_num, by rw [HN.out], by first | trivial | rfl⟩, by simp [intOf]; omega⟩
                | true =>
                  by_cases hf : f < 0
                  · have hn : firstI Z b (k + 1) = (k : Int) := by rw [HST.out, if_pos ⟨hf, rfl⟩]
                    have HN := Lib.hid hn
                    clear hn HST
                    go_wp2_with fail
                    refine SB.out.mono ?_
                    rintro e w2 ⟨rfl, hw2⟩
                    have hw2' := hw2.symm
                    clear hw2
                    subst hw2'
                    clear SB
                    go_wp2_with fail
                    exact ⟨⟨k + 1, wy, by omega, by go_num, by rw [HN.out], by first | trivial | rfl⟩, by simp [intOf]; omega⟩
                  · have hn : firstI Z b (k + 1) = f := by rw [HST.out, if_neg (fun h => hf h.1)]
                    have hdf : decide (f < 0) = false := decide_eq_false hf
                    have HN := Lib.hid hn
                    clear hn HST
                    go_wp2_with fail
                    refine SB.out.mono ?_
                    rintro e w2 ⟨rfl, hw2⟩
                    have hw2' := hw2.symm
                    clear hw2
                    subst hw2'
                    clear SB
                    go_wp2_with fail
                    exact ⟨⟨k + 1, wy, by omega, by go_num, by rw [HN.out], by first | trivial | rfl⟩, by simp [intOf]; omega⟩
              · obtain rfl : k = nz := by omega
                rcases firstI_cases Z b k with ⟨hf, hall⟩ | ⟨i, hik, hf, hbi, hall⟩
                · have hn : stL Z0 ⟨y0, hy0⟩ (b + 1) = (Z, yv) := by rw [HSU.out]; exact elim_none Z yv b fun j hj => hall j (by omega)
                  have HN := Lib.hid hn
                  clear hn hall HSU
                  rw [hf]
                  clear hf
                  go_wp2_with fail
                  exact ⟨⟨b + 1, wy, by omega, by go_num, by rw [HN.out], rfl, by rw [HN.out]; exact HL.out⟩, by simp [intOf]; omega⟩
                · have hn : stL Z0 ⟨y0, hy0⟩ (b + 1) = (mapL (Z.getD i zL4) b Z k, elimF bitsPla (Z.getD i zL4) b yv) := by
                    rw [HSU.out, elim_some Z yv b i (by omega) hbi hall, ← hZl, mapL_all]
                  have HN := Lib.hid hn
                  obtain ⟨g, rfl⟩ : ∃ g, az = some ⟨g, 0, none⟩ := by
                    rcases HL.out.own.2 with ⟨e1, h0⟩ | ⟨g, cap, cur, e1, _⟩
                    · omega
                    · cases e1; exact ⟨g, rfl⟩
                  obtain ⟨c0, -, -⟩ := HL.out.at i hik
                  have x0 : (0 : Int) ≤ (i : Int) := by omega
                  have x1 : (i : Int) < (k : Int) := by omega
                  have x2 : ¬ (i : Int) < 0 := by omega
                  rw [hf]
                  clear hn hall HSU hf hbi
                  generalize Z.getD i zL4 = one at *
                  have HM0 := Lib.hid (show LdO w wy (some ⟨g, 0, none⟩) k cz (mapL one b Z 0) from HL.out)
                  go_wp2_with fail
                  go_loopw [15] (fun j wx => ∃ (m : Nat) (wz : World), m ≤ k ∧ j = .int .i64 m ∧ wz = wx ∧ LdO w wz (some ⟨g, 0, none⟩) k cz (mapL one b Z m)) (fun j _ => k - (intOf j).toNat)
                  case atStart => exact ⟨0, _, Nat.zero_le _, rfl, rfl, HM0.out⟩
                  case round =>
                    obtain ⟨m, wz, hm, rfl, hwz, hLm⟩ := hrel
                    subst hwz
                    have HM := Lib.hid hLm
                    clear hLm HM0 HL c0
                    by_cases hmk : m < k
                    · have y0' : (0 : Int) ≤ (m : Int) := by omega
                      have y1 : (m : Int) < (k : Int) := by omega
                      obtain ⟨c0, f0, hg0⟩ := HM.out.at m hmk
                      rw [mapL_get one b Z m (by omega)] at c0
                      have hs4 := (Z.getD m zL4).2
                      have SB := Lib.hid (sbit_any (Z.getD m zL4).1 b hs4 hb32 wz)
                      have hsa := mapL_same one b Z m (by omega)
                      have hsu := mapL_succ one b Z m (by omega)
                      have hey := elimF_yes one b (Z.getD m zL4)
                      generalize hzm : Z.getD m zL4 = zm at *
                      generalize hbit : bitL zm.1 b = q at *
                      cases q with
                      | false =>
                        have HS := Lib.hid (hsa rfl)
                        clear hsa hsu hey hzm
                        go_wp2_with fail
                        refine SB.out.mono ?_
                        rintro e w2 ⟨rfl, hw2⟩
                        have hw2' := hw2.symm
                        clear hw2
                        subst hw2'
                        clear SB
                        go_wp2_with fail
                        exact ⟨⟨m + 1, wz, by omega, by go_num, rfl, by rw [HS.out]; exact HM.out⟩, by simp [intOf]; omega⟩
                      | true =>
                        rw [hey rfl] at hsu
                        have HS := Lib.hid hsu
                        have SX := Lib.hid (fun w' => sxor_any zm.1 one.1 w' (by omega) (by have := one.2; omega))
                        clear hsa hsu hey hzm
                        go_wp2_with fail
                        refine SB.out.mono ?_
                        rintro e w2 ⟨rfl, hw2⟩
                        have hw2' := hw2.symm
                        clear hw2
                        subst hw2'
                        clear SB
                        go_wp2_with fail
                        refine (SX.out _).mono ?_
                        rintro e w3 ⟨rfl, hb3⟩
                        have HM3 := Lib.hid (HM.out.next hb3)
                        obtain ⟨c1, f1, hg1⟩ := HM3.out.at m hmk
                        have HM4 := Lib.hid (HM3.out.set m (grpL.add zm one))
                        clear hb3 HM HM3 SX c0 f0 hg0
                        go_wp2_with fail
                        exact ⟨⟨m + 1, _, by omega, by go_num, rfl, by rw [HS.out]; exact HM4.out⟩, by simp [intOf]; omega⟩
                    · obtain rfl : m = k := by omega
                      have SB := Lib.hid (sbit_any yv.1 b hv4 hb32 wz)
                      have hey := elimF_yes one b yv
                      have hen := elimF_no one b yv
                      generalize hbit : bitL yv.1 b = q at *
                      cases q with
                      | false =>
                        rw [hen rfl] at HN
                        clear hey hen
                        go_wp2_with fail
                        refine SB.out.mono ?_
                        rintro e w2 ⟨rfl, hw2⟩
                        have hw2' := hw2.symm
                        clear hw2
                        subst hw2'
                        clear SB
                        go_wp2_with fail
                        exact ⟨⟨b + 1, wz, by omega, by go_num, by rw [HN.out], rfl, by rw [HN.out]; exact HM.out⟩, by simp [intOf]; omega⟩
                      | true =>
                        rw [hey rfl] at HN
                        have SX := Lib.hid (fun w' => sxor_any yv.1 one.1 w' (by omega) (by have := one.2; omega))
                        clear hey hen
                        go_wp2_with fail
                        refine SB.out.mono ?_
                        rintro e w2 ⟨rfl, hw2⟩
                        have hw2' := hw2.symm
                        clear hw2
                        subst hw2'
                        clear SB
                        go_wp2_with fail
                        refine (SX.out _).mono ?_
                        rintro e w3 ⟨rfl, hb3⟩
                        have HM3 := Lib.hid (HM.out.next hb3)
                        clear hb3 HM SX
                        go_wp2_with fail
                        exact ⟨⟨b + 1, _, by omega, by go_num, by rw [HN.out]; rfl, rfl, by rw [HN.out]; exact HM3.out⟩, by simp [intOf]; omega⟩
          · obtain rfl : b = 32 := by omega
            have HB := Lib.hid HL.out.below
            have hse : decide ((stL Z0 ⟨y0, hy0⟩ 32).2 = grpL.zero) = ((stL Z0 ⟨y0, hy0⟩ 32).2.1.toList == z4.toList) := by
              rw [strEq, decide_eq_decide]
              exact ⟨fun h => congrArg (·.1) h, fun h => Subtype.ext h⟩
            have HSE := Lib.hid hse
            clear hse HL
            generalize (stL Z0 ⟨y0, hy0⟩ 32).2 = yv at *
            go_wp2_with fail
            refine (szero_any _).mono ?_
            rintro e w2 ⟨rfl, hw2⟩
            have hw2' := hw2.symm
            clear hw2
            subst hw2'
            go_wp2_with fail
            go_ret
            exact ⟨by rw [HEND.out, HSE.out]; rfl, HB.out⟩
end Go.Proofs.Ytbbjpjkclealfaa
namespace Go.Proofs.Ytbbjpjkclealfaa
open Go.ChangeShapes Go.WideShapes Go.ChangeAt Go.RowKit Go.BigFrame
theorem sload_all : SLoads := fun vl L y0 hy0 w h hl hks => sload_any vl L y0 hy0 w h hl hks
end Go.Proofs.Ytbbjpjkclealfaa
namespace Go.Proofs.Ytbbjpjkclealfaa
open Go.ChangeShapes Go.WideShapes Go.ChangeAt Go.RowKit Go.BigFrame
set_option linter.unusedVariables false
set_option linter.unusedSimpArgs false

theorem rank_yes (L : List C2) (x : C2) (hl : L.length < 20) (h : spanB L x = true) : rankM (L ++ [x]) = rankM L := rankM_span L x hl fun hw => (spanB_yes hw).1 h
theorem span_has (L : List C2) (i : Nat) (hi : i < L.length) (hl : L.length < 20) (hc : codeOkB (L.getD i blankC) = true) : spanB L (L.getD i blankC) = true :=
  (spanB_yes (ok_w hc)).2 (.of (getD_row L i hi hl hc))
set_option maxRecDepth 100000 in
set_option maxHeartbeats 2000000 in
theorem fnrank_walk (a0 : Option Addr) (len0 cap0 : Nat) (z0 : List Int) (w : World) (w0 : IsRow .u8 w a0 len0 cap0 z0) :
    Calls Try.prog 3 #[.slice a0 len0 cap0] w fun e w' => e = .returned (.bool true) ∧ Below w.heap.size w w' := by
  by_cases hbig : len0 ≤ 1048576
  · have HC := Lib.hid (codeAt_of w0 hbig)
    clear w0
    go_enter Try.func3, Try.ntmps3
    go_wp2_with fail
    refine (big_any _ _ _ _ hbig).mono ?_
    rintro e w1 ⟨rfl, rfl⟩
    go_wp2_with fail
    refine (drawspanned_any w1.heap.size len0 cap0 a0 z0 w1 HC.out (Nat.le_refl _)).mono ?_
    rintro e w2 ⟨v, us, L, vx, x, rfl, hl, hL⟩
    obtain ⟨kx, yx⟩ := x
    have HB2 := Lib.hid hL.ls.below
    have HA2 := Lib.hid (cdAv_any hL.ls.own.to)
    have hk2 : ∀ x ∈ L, x.1.length ≤ 2000000 := fun x hx => by have := (hL.ls.bd x hx).1; omega
    have HK := Lib.hid hk2
    have HXK := Lib.hid hL.xs
    have hxl : kx.length ≤ 14 := hL.xl
    obtain ⟨av, cv, rfl, -, -⟩ := hL.ls.own.to
    obtain ⟨ax, cx, hvx, -, -⟩ := hL.xs
    dsimp only at hvx HXK
    subst hvx
    clear hL hk2 HC
    have hba := (Below.refl w2.heap.size w2).alloc (Nat.le_refl _) (.cells #[.slice ax kx.length cx, .string yx] 27)
    have HB3 := Lib.hid hba
    have HX3 := Lib.hid (heap_alloc_new w2 (.cells #[.slice ax kx.length cx, .string yx] 27))
    clear hba
    have hmore := rankM_more L (kx, yx) (by omega)
    have hle := (rankM_le (L ++ [(kx, yx)])).1
    rw [List.length_append, List.length_singleton] at hle
    have hrl := (rankM_le L).2
    have hyes := rank_yes L (kx, yx) (by omega)
    have HYES := Lib.hid hyes
    have HMORE := Lib.hid hmore
    clear hyes hmore
    go_wp2_with fail
    generalize w2.alloc (.cells #[.slice ax kx.length cx, .string yx] 27) = W3 at *
    refine (irank_any _ L W3 (cdAv_below HA2.out HB3.out) (by omega) HK.out).mono ?_
    rintro e w4 ⟨rfl, hb4⟩
    have HB4 := Lib.hid (HB3.out.trans (hb4.mono HB3.out.size))
    have HX4 := Lib.hid ((hb4.block _ (Array.getElem?_eq_some_iff.1 HX3.out).1).trans HX3.out)
    clear hb4 HB3 HX3
    obtain ⟨x0, x1, -, -⟩ := row2_of HX4.out
    have hl5 := (Array.getElem?_eq_some_iff.1 HX4.out).1
    go_wp2_with fail
    refine (ispanned_any _ L _ (kx, yx) w4 (cdAv_below HA2.out HB4.out) (by omega) HK.out (keysAt_below HXK.out HB4.out) (by show kx.length ≤ 2000000; omega)).mono ?_
    rintro e w5 ⟨rfl, hb5⟩
    have HB5 := Lib.hid (HB4.out.trans (hb5.mono HB4.out.size))
    have HX5 := Lib.hid ((hb5.block _ (Array.getElem?_eq_some_iff.1 HX4.out).1).trans HX4.out)
    clear hb5 HB4 HX4 x0 x1 hl5
    go_wp2_with fail
    refine (srank_any _ L w5 (cdAv_below HA2.out HB5.out) (by omega) HK.out).mono ?_
    rintro e w6 ⟨rfl, hb6⟩
    have HB6 := Lib.hid (HB5.out.trans (hb6.mono HB5.out.size))
    have HX6 := Lib.hid ((hb6.block _ (Array.getElem?_eq_some_iff.1 HX5.out).1).trans HX5.out)
    clear hb6 HB5 HX5
    obtain ⟨x0, x1, -, -⟩ := row2_of HX6.out
    have hl5 := (Array.getElem?_eq_some_iff.1 HX6.out).1
    go_wp2_with fail
    refine (sspanned_any sload_all _ L _ (kx, yx) w6 (cdAv_below HA2.out HB6.out) (by omega) HK.out (keysAt_below HXK.out HB6.out) (by show kx.length ≤ 2000000; omega)).mono ?_
    rintro e w7 ⟨rfl, hb7⟩
    have HB7 := Lib.hid (HB6.out.trans (hb7.mono HB6.out.size))
    have HX7 := Lib.hid ((hb7.block _ (Array.getElem?_eq_some_iff.1 HX6.out).1).trans HX6.out)
    clear hb7 HB6 HX6 x0 x1 hl5
    generalize hsp : spanB L (kx, yx) = sp at *
    clear hsp
    have hbo : (sp != sp) = false := by cases sp <;> rfl
    go_upto_region 8 with (fail)
    go_cut [7] (fun p wx => cdAv wx none p (L ++ [(kx, yx)]) ∧ Below w2.heap.size w2 wx)
    case first =>
      have LX : ∀ w' : World, w'.heap[w2.heap.size]? = some (.cells #[.slice ax kx.length cx, .string yx] 27) → (loadVar 27 ⟨w2.heap.size, 0, none⟩).run Try.prog w' = .ok (.agg #[.slice ax kx.length cx, .string yx]) w' := fun w' h => cd_load h (Below.refl _ _)
      refine wp_region_G (fun w' => w'.heap[w2.heap.size]? = some (.cells #[.slice ax kx.length cx, .string yx] 27 (0, 0))) (by kernel_rfl) ?_
      have HX := Lib.hid (show (World.drew w7).heap[w2.heap.size]? = some (.cells #[.slice ax kx.length cx, .string yx] 27 (0, 0)) from HX7.out)
      have HB := Lib.hid (show Below w2.heap.size w2 (World.drew w7) from HB7.out.drew)
      have HV := Lib.hid (show keysAt (World.drew w7) (.slice ax kx.length cx) kx from keysAt_below HXK.out HB.out)
      generalize World.drew w7 = wD at *
      have HVD := HV
      have HXD := HX
      have HBD0 := HB
      have HDD := Lib.hid (Below.refl wD.heap.size wD)
      refine wpG_seg [false, true, false, true] [0, 4] 4 (by kernel_rfl) (by intro c a d v w h; cases d <;> exact h) (by kernel_rfl) HX.out ?_
      try simp only [maskRows]
      repeat (first
        | go_big_quiet_skip
        | (go_big_quiet_want
           first
             | (go_big_quiet_op; go_big_quiet_on)
             | (refine q_load 27 _ _ _ rfl rfl LX ?_; simp only [Act.put, List.setIfInBounds_toArray, List.set_cons_zero, List.set_cons_succ]; go_big_quiet_on)
             | (go_big_quiet_op; refine ⟨_, fun _ _ => rfl, ?_⟩; go_big_quiet_on)
             | (go_big_quiet_op; refine ⟨_, fun _ _ _ => rfl, ?_⟩; go_big_quiet_on)))
      refine wpQuiet_nil ?_
      refine List.forall_mem_cons.2 ⟨?_, List.forall_mem_singleton.2 ?_⟩
      · refine segt_run rfl (by rfl) (fun K hK => ?_)
        go_simp
        have ho := own_lit0 wD
        have ha := av_lit (cdAv_below HA2.out HB.out) (.cells #[] 27)
        have hbl := (Below.refl wD.heap.size wD).alloc (Nat.le_refl _) (.cells #[] 27)
        have hlt0 : wD.heap.size < (wD.alloc (.cells #[] 27)).heap.size := by simp
        have HLT := Lib.hid hlt0
        clear hlt0
        have HO := Lib.hid ho
        have HA := Lib.hid ha
        have HGP := Lib.hid (show wD.heap.size ≤ wD.heap.size from HDD.out.size)
        replace HDD := Lib.hid (HDD.out.trans (hbl.mono HDD.out.size))
        replace HX := Lib.hid ((hbl.block _ (Array.getElem?_eq_some_iff.1 HX.out).1).trans HX.out)
        replace HB := Lib.hid (HB.out.trans (hbl.mono HB.out.size))
        replace HV := Lib.hid (keysAt_below HV.out hbl)
        clear ho ha hbl
        generalize wD.alloc (.cells #[] 27) = w30 at *
        generalize hB0 : wD.heap.size = b0 at HO HA HLT  ⊢
        have HGE := Lib.hid (show wD.heap.size ≤ b0 from by rw [← hB0]; exact HGP.out)
        clear hB0 HGP
        refine hK _ _ ⟨_, fun _ h => h, HX.out, ?_⟩
        clear hK K
        try simp only [Act.put, List.setIfInBounds_toArray, List.set_cons_zero, List.set_cons_succ]
        refine wpG_seg [] [2, 4] 3 (by kernel_rfl) (by intro c a d v w h; cases d <;> exact h) (by kernel_rfl) HX.out ?_
        try simp only [maskRows]
        refine wpQuiet_nil ?_
        refine List.forall_mem_cons.2 ⟨?_, List.forall_mem_singleton.2 ?_⟩
        · refine segt_run rfl (by rfl) (fun K hK => ?_)
          refine wp_append_cd (.tmp 33) (.tmp 34) rfl HO.out (.slice av L.length cv) L HA.out rfl rfl (by show 0 + L.length ≤ 2000000; omega) (Nat.le_of_lt HLT.out) ?_
          intro v9 w31 us9 hown9 hlen9 hgr9 hv9
          have hgd : Below wD.heap.size wD w31 := HDD.out.grown hgr9 HDD.out.size (fun b e => by cases e; exact HGE.out)
          have HW := Lib.hid ((keysAv_of (b := v9.ownBlock) HVD.out (fun j hj e => by have h9 := (hown9.own.lt j e.symm).1; have h8 := HGE.out; omega)).below hgd)
          replace HV := Lib.hid (keysAt_below HVD.out hgd)
          replace HDD := Lib.hid hgd
          replace HB := Lib.hid (HBD0.out.trans (hgd.mono HBD0.out.size))
          replace HX := Lib.hid ((hgd.block _ (Array.getElem?_eq_some_iff.1 HXD.out).1).trans HXD.out)
          replace HO := Lib.hid hown9
          replace HLT := Lib.hid (Nat.lt_of_lt_of_le HLT.out hgr9.size)
          clear hgd hown9 hlen9 hgr9 hv9 HA
          refine hK _ _ ⟨_, fun _ h => h, HX.out, ?_⟩
          clear hK K
          simp only [Act.put, List.getElem_toArray, List.getElem_cons_succ, List.getElem_cons_zero, List.setIfInBounds_toArray, List.set_cons_zero, List.set_cons_succ]
          refine wpG_seg [] [4] 2 (by kernel_rfl) (by intro c a d v w h; cases d <;> exact h) (by kernel_rfl) HX.out ?_
          try simp only [maskRows]
          refine wpQuiet_nil ?_
          refine List.forall_mem_singleton.2 ?_
          refine segt_run rfl (by rfl) (fun K hK => ?_)
          go_simp
          have hbl := (Below.refl w31.heap.size w31).alloc (Nat.le_refl _) (.cells #[.slice ax kx.length cx, .string yx] 27)
          replace HO := Lib.hid (HO.out.below hbl)
          replace HW := Lib.hid (HW.out.below hbl)
          replace HLT := Lib.hid (Nat.lt_of_lt_of_le HLT.out hbl.size)
          have HY := Lib.hid (heap_alloc_new w31 (.cells #[.slice ax kx.length cx, .string yx] 27))
          replace HDD := Lib.hid (HDD.out.trans (hbl.mono HDD.out.size))
          replace HX := Lib.hid ((hbl.block _ (Array.getElem?_eq_some_iff.1 HX.out).1).trans HX.out)
          replace HB := Lib.hid (HB.out.trans (hbl.mono HB.out.size))
          replace HV := Lib.hid (keysAt_below HV.out hbl)
          clear hbl
          generalize w31.alloc (.cells #[.slice ax kx.length cx, .string yx] 27) = w32 at *
          generalize hB2 : w31.heap.size = b2 at HY  ⊢
          clear hB2
          refine hK _ _ ⟨_, fun _ h => h, HX.out, ?_⟩
          clear hK K
          try simp only [Act.put, List.setIfInBounds_toArray, List.set_cons_zero, List.set_cons_succ]
          refine wpG_seg [] [5] 1 (by kernel_rfl) (by intro c a d v w h; cases d <;> exact h) (by kernel_rfl) HX.out ?_
          try simp only [maskRows]
          refine wpQuiet_nil ?_
          refine List.forall_mem_singleton.2 ?_
          refine segt_run rfl (by rfl) (fun K hK => ?_)
          refine wp_append_cdN (.tmp 35) (.tmp 37) rfl HO.out b2 [.slice ax kx.length cx] [(kx, yx)] rfl (row_cells (z := (kx, yx)) HY.out) (fun q hq => by rcases List.mem_singleton.1 hq with rfl; exact ⟨_, _, _, rfl⟩) (fun i hi => by (have h00 : i = 0 := by simpa using hi); subst h00; exact HW.out) rfl rfl (by rw [List.nil_append]; show L.length + 1 ≤ 1000000; omega) (Nat.succ_pos _) (Nat.le_of_lt HLT.out) ?_
          intro v12 w33 hown12 hgr12 hv12
          have hgd : Below wD.heap.size wD w33 := HDD.out.grown hgr12 HDD.out.size (fun b e => Nat.le_trans HGE.out (HO.out.own.lt b e).1)
          replace HDD := Lib.hid hgd
          replace HB := Lib.hid (HBD0.out.trans (hgd.mono HBD0.out.size))
          replace HX := Lib.hid ((hgd.block _ (Array.getElem?_eq_some_iff.1 HXD.out).1).trans HXD.out)
          have HL12 := Lib.hid (show cdAv w33 none v12 (L ++ [(kx, yx)]) from cdAv_any hown12.to)
          clear hgd hown12 hgr12 hv12 HO HW HY HV
          refine hK _ _ ⟨_, fun _ h => h, HX.out, ?_⟩
          clear hK K
          simp only [Act.put, List.getElem_toArray, List.getElem_cons_succ, List.getElem_cons_zero, List.setIfInBounds_toArray, List.set_cons_zero, List.set_cons_succ]
          refine wpG_end [false, false, false, false, false, false, true] (by kernel_rfl) (by intro c a d v w h; cases d <;> exact h) (by kernel_rfl) HX.out ?_
          try simp only [maskRows]
          repeat (first
            | go_big_quiet_skip
            | (go_big_quiet_want
               first
                 | (go_big_quiet_op; go_big_quiet_on)
                 | (refine q_load 27 _ _ _ rfl rfl LX ?_; simp only [Act.put, List.setIfInBounds_toArray, List.set_cons_zero, List.set_cons_succ]; go_big_quiet_on)
                 | (go_big_quiet_op; refine ⟨_, fun _ _ => rfl, ?_⟩; go_big_quiet_on)
                 | (go_big_quiet_op; refine ⟨_, fun _ _ _ => rfl, ?_⟩; go_big_quiet_on)))
          refine wpQuiet_nil ?_
          go_wp2_with fail
          go_meet
          exact ⟨HL12.out, HB.out⟩
        · refine segt_run rfl (by rfl) (fun K hK => ?_)
          go_simp
          have hbl := (Below.refl w30.heap.size w30).alloc (Nat.le_refl _) (.cells #[.slice ax kx.length cx, .string yx] 27)
          have HNE := Lib.hid (Nat.ne_of_gt HLT.out)
          replace HO := Lib.hid (HO.out.below hbl)
          replace HA := Lib.hid (cdAv_below HA.out hbl)
          replace HLT := Lib.hid (Nat.lt_of_lt_of_le HLT.out hbl.size)
          have HY := Lib.hid (heap_alloc_new w30 (.cells #[.slice ax kx.length cx, .string yx] 27))
          replace HDD := Lib.hid (HDD.out.trans (hbl.mono HDD.out.size))
          replace HX := Lib.hid ((hbl.block _ (Array.getElem?_eq_some_iff.1 HX.out).1).trans HX.out)
          replace HB := Lib.hid (HB.out.trans (hbl.mono HB.out.size))
          replace HV := Lib.hid (keysAt_below HV.out hbl)
          clear hbl
          generalize w30.alloc (.cells #[.slice ax kx.length cx, .string yx] 27) = w31 at *
          generalize hB2 : w30.heap.size = b2 at HY HNE ⊢
          clear hB2
          refine hK _ _ ⟨_, fun _ h => h, HX.out, ?_⟩
          clear hK K
          try simp only [Act.put, List.setIfInBounds_toArray, List.set_cons_zero, List.set_cons_succ]
          refine wpG_seg [] [2] 2 (by kernel_rfl) (by intro c a d v w h; cases d <;> exact h) (by kernel_rfl) HX.out ?_
          try simp only [maskRows]
          refine wpQuiet_nil ?_
          refine List.forall_mem_singleton.2 ?_
          refine segt_run rfl (by rfl) (fun K hK => ?_)
          refine wp_append_cd (.tmp 33) (.tmp 34) rfl HO.out (.slice av L.length cv) L HA.out rfl rfl (by show 0 + L.length ≤ 2000000; omega) (Nat.le_of_lt HLT.out) ?_
          intro v9 w32 us9 hown9 hlen9 hgr9 hv9
          have hgd : Below wD.heap.size wD w32 := HDD.out.grown hgr9 HDD.out.size (fun b e => by cases e; exact HGE.out)
          have HW := Lib.hid ((keysAv_of (b := v9.ownBlock) HVD.out (fun j hj e => by have h9 := (hown9.own.lt j e.symm).1; have h8 := HGE.out; omega)).below hgd)
          replace HV := Lib.hid (keysAt_below HVD.out hgd)
          replace HDD := Lib.hid hgd
          replace HB := Lib.hid (HBD0.out.trans (hgd.mono HBD0.out.size))
          replace HX := Lib.hid ((hgd.block _ (Array.getElem?_eq_some_iff.1 HXD.out).1).trans HXD.out)
          replace HY := Lib.hid ((hgr9.block _ (Array.getElem?_eq_some_iff.1 HY.out).1 (fun e => HNE.out (Option.some.inj e))).trans HY.out)
          replace HO := Lib.hid hown9
          replace HLT := Lib.hid (Nat.lt_of_lt_of_le HLT.out hgr9.size)
          clear hgd hown9 hlen9 hgr9 hv9 HA
          refine hK _ _ ⟨_, fun _ h => h, HX.out, ?_⟩
          clear hK K
          simp only [Act.put, List.getElem_toArray, List.getElem_cons_succ, List.getElem_cons_zero, List.setIfInBounds_toArray, List.set_cons_zero, List.set_cons_succ]
          refine wpG_seg [] [5] 1 (by kernel_rfl) (by intro c a d v w h; cases d <;> exact h) (by kernel_rfl) HX.out ?_
          try simp only [maskRows]
          refine wpQuiet_nil ?_
          refine List.forall_mem_singleton.2 ?_
          refine segt_run rfl (by rfl) (fun K hK => ?_)
          refine wp_append_cdN (.tmp 35) (.tmp 37) rfl HO.out b2 [.slice ax kx.length cx] [(kx, yx)] rfl (row_cells (z := (kx, yx)) HY.out) (fun q hq => by rcases List.mem_singleton.1 hq with rfl; exact ⟨_, _, _, rfl⟩) (fun i hi => by (have h00 : i = 0 := by simpa using hi); subst h00; exact HW.out) rfl rfl (by rw [List.nil_append]; show L.length + 1 ≤ 1000000; omega) (Nat.succ_pos _) (Nat.le_of_lt HLT.out) ?_
          intro v12 w33 hown12 hgr12 hv12
          have hgd : Below wD.heap.size wD w33 := HDD.out.grown hgr12 HDD.out.size (fun b e => Nat.le_trans HGE.out (HO.out.own.lt b e).1)
          replace HDD := Lib.hid hgd
          replace HB := Lib.hid (HBD0.out.trans (hgd.mono HBD0.out.size))
          replace HX := Lib.hid ((hgd.block _ (Array.getElem?_eq_some_iff.1 HXD.out).1).trans HXD.out)
          have HL12 := Lib.hid (show cdAv w33 none v12 (L ++ [(kx, yx)]) from cdAv_any hown12.to)
          clear hgd hown12 hgr12 hv12 HO HW HY HV
          refine hK _ _ ⟨_, fun _ h => h, HX.out, ?_⟩
          clear hK K
          simp only [Act.put, List.getElem_toArray, List.getElem_cons_succ, List.getElem_cons_zero, List.setIfInBounds_toArray, List.set_cons_zero, List.set_cons_succ]
          refine wpG_end [false, false, false, false, false, false, true] (by kernel_rfl) (by intro c a d v w h; cases d <;> exact h) (by kernel_rfl) HX.out ?_
          try simp only [maskRows]
          repeat (first
            | go_big_quiet_skip
            | (go_big_quiet_want
               first
                 | (go_big_quiet_op; go_big_quiet_on)
                 | (refine q_load 27 _ _ _ rfl rfl LX ?_; simp only [Act.put, List.setIfInBounds_toArray, List.set_cons_zero, List.set_cons_succ]; go_big_quiet_on)
                 | (go_big_quiet_op; refine ⟨_, fun _ _ => rfl, ?_⟩; go_big_quiet_on)
                 | (go_big_quiet_op; refine ⟨_, fun _ _ _ => rfl, ?_⟩; go_big_quiet_on)))
          refine wpQuiet_nil ?_
          go_wp2_with fail
          go_meet
          exact ⟨HL12.out, HB.out⟩
      · refine segt_run rfl (by rfl) (fun K hK => ?_)
        go_simp
        have hbl := (Below.refl wD.heap.size wD).alloc (Nat.le_refl _) (.cells #[.slice ax kx.length cx, .string yx] 27)
        have HY := Lib.hid (heap_alloc_new wD (.cells #[.slice ax kx.length cx, .string yx] 27))
        replace HDD := Lib.hid (HDD.out.trans (hbl.mono HDD.out.size))
        replace HX := Lib.hid ((hbl.block _ (Array.getElem?_eq_some_iff.1 HX.out).1).trans HX.out)
        replace HB := Lib.hid (HB.out.trans (hbl.mono HB.out.size))
        replace HV := Lib.hid (keysAt_below HV.out hbl)
        clear hbl
        generalize wD.alloc (.cells #[.slice ax kx.length cx, .string yx] 27) = w30 at *
        generalize hB2 : wD.heap.size = b2 at HY  ⊢
        clear hB2
        refine hK _ _ ⟨_, fun _ h => h, HX.out, ?_⟩
        clear hK K
        try simp only [Act.put, List.setIfInBounds_toArray, List.set_cons_zero, List.set_cons_succ]
        refine wpG_seg [] [0] 3 (by kernel_rfl) (by intro c a d v w h; cases d <;> exact h) (by kernel_rfl) HX.out ?_
        try simp only [maskRows]
        refine wpQuiet_nil ?_
        refine List.forall_mem_singleton.2 ?_
        refine segt_run rfl (by rfl) (fun K hK => ?_)
        go_simp
        have ho := own_lit0 w30
        have ha := av_lit (cdAv_below HA2.out HB.out) (.cells #[] 27)
        have hbl := (Below.refl w30.heap.size w30).alloc (Nat.le_refl _) (.cells #[] 27)
        have hlt0 : w30.heap.size < (w30.alloc (.cells #[] 27)).heap.size := by simp
        have HLT := Lib.hid hlt0
        clear hlt0
        have HO := Lib.hid ho
        have HA := Lib.hid ha
        have HGP := Lib.hid (show wD.heap.size ≤ w30.heap.size from HDD.out.size)
        replace HDD := Lib.hid (HDD.out.trans (hbl.mono HDD.out.size))
        replace HX := Lib.hid ((hbl.block _ (Array.getElem?_eq_some_iff.1 HX.out).1).trans HX.out)
        replace HB := Lib.hid (HB.out.trans (hbl.mono HB.out.size))
        replace HV := Lib.hid (keysAt_below HV.out hbl)
        have HNE := Lib.hid (Nat.ne_of_lt (Array.getElem?_eq_some_iff.1 HY.out).1)
        replace HY := Lib.hid ((hbl.block _ (Array.getElem?_eq_some_iff.1 HY.out).1).trans HY.out)
        clear ho ha hbl
        generalize w30.alloc (.cells #[] 27) = w31 at *
        generalize hB0 : w30.heap.size = b0 at HO HA HLT HNE ⊢
        have HGE := Lib.hid (show wD.heap.size ≤ b0 from by rw [← hB0]; exact HGP.out)
        clear hB0 HGP
        refine hK _ _ ⟨_, fun _ h => h, HX.out, ?_⟩
        clear hK K
        try simp only [Act.put, List.setIfInBounds_toArray, List.set_cons_zero, List.set_cons_succ]
        refine wpG_seg [] [2] 2 (by kernel_rfl) (by intro c a d v w h; cases d <;> exact h) (by kernel_rfl) HX.out ?_
        try simp only [maskRows]
        refine wpQuiet_nil ?_
        refine List.forall_mem_singleton.2 ?_
        refine segt_run rfl (by rfl) (fun K hK => ?_)
        refine wp_append_cd (.tmp 33) (.tmp 34) rfl HO.out (.slice av L.length cv) L HA.out rfl rfl (by show 0 + L.length ≤ 2000000; omega) (Nat.le_of_lt HLT.out) ?_
        intro v9 w32 us9 hown9 hlen9 hgr9 hv9
        have hgd : Below wD.heap.size wD w32 := HDD.out.grown hgr9 HDD.out.size (fun b e => by cases e; exact HGE.out)
        have HW := Lib.hid ((keysAv_of (b := v9.ownBlock) HVD.out (fun j hj e => by have h9 := (hown9.own.lt j e.symm).1; have h8 := HGE.out; omega)).below hgd)
        replace HV := Lib.hid (keysAt_below HVD.out hgd)
        replace HDD := Lib.hid hgd
        replace HB := Lib.hid (HBD0.out.trans (hgd.mono HBD0.out.size))
        replace HX := Lib.hid ((hgd.block _ (Array.getElem?_eq_some_iff.1 HXD.out).1).trans HXD.out)
        replace HY := Lib.hid ((hgr9.block _ (Array.getElem?_eq_some_iff.1 HY.out).1 (fun e => HNE.out (Option.some.inj e))).trans HY.out)
        replace HO := Lib.hid hown9
        replace HLT := Lib.hid (Nat.lt_of_lt_of_le HLT.out hgr9.size)
        clear hgd hown9 hlen9 hgr9 hv9 HA
        refine hK _ _ ⟨_, fun _ h => h, HX.out, ?_⟩
        clear hK K
        simp only [Act.put, List.getElem_toArray, List.getElem_cons_succ, List.getElem_cons_zero, List.setIfInBounds_toArray, List.set_cons_zero, List.set_cons_succ]
        refine wpG_seg [] [5] 1 (by kernel_rfl) (by intro c a d v w h; cases d <;> exact h) (by kernel_rfl) HX.out ?_
        try simp only [maskRows]
        refine wpQuiet_nil ?_
        refine List.forall_mem_singleton.2 ?_
        refine segt_run rfl (by rfl) (fun K hK => ?_)
        refine wp_append_cdN (.tmp 35) (.tmp 37) rfl HO.out b2 [.slice ax kx.length cx] [(kx, yx)] rfl (row_cells (z := (kx, yx)) HY.out) (fun q hq => by rcases List.mem_singleton.1 hq with rfl; exact ⟨_, _, _, rfl⟩) (fun i hi => by (have h00 : i = 0 := by simpa using hi); subst h00; exact HW.out) rfl rfl (by rw [List.nil_append]; show L.length + 1 ≤ 1000000; omega) (Nat.succ_pos _) (Nat.le_of_lt HLT.out) ?_
        intro v12 w33 hown12 hgr12 hv12
        have hgd : Below wD.heap.size wD w33 := HDD.out.grown hgr12 HDD.out.size (fun b e => Nat.le_trans HGE.out (HO.out.own.lt b e).1)
        replace HDD := Lib.hid hgd
        replace HB := Lib.hid (HBD0.out.trans (hgd.mono HBD0.out.size))
        replace HX := Lib.hid ((hgd.block _ (Array.getElem?_eq_some_iff.1 HXD.out).1).trans HXD.out)
        have HL12 := Lib.hid (show cdAv w33 none v12 (L ++ [(kx, yx)]) from cdAv_any hown12.to)
        clear hgd hown12 hgr12 hv12 HO HW HY HV
        refine hK _ _ ⟨_, fun _ h => h, HX.out, ?_⟩
        clear hK K
        simp only [Act.put, List.getElem_toArray, List.getElem_cons_succ, List.getElem_cons_zero, List.setIfInBounds_toArray, List.set_cons_zero, List.set_cons_succ]
        refine wpG_end [false, false, false, false, false, false, true] (by kernel_rfl) (by intro c a d v w h; cases d <;> exact h) (by kernel_rfl) HX.out ?_
        try simp only [maskRows]
        repeat (first
          | go_big_quiet_skip
          | (go_big_quiet_want
             first
               | (go_big_quiet_op; go_big_quiet_on)
               | (refine q_load 27 _ _ _ rfl rfl LX ?_; simp only [Act.put, List.setIfInBounds_toArray, List.set_cons_zero, List.set_cons_succ]; go_big_quiet_on)
               | (go_big_quiet_op; refine ⟨_, fun _ _ => rfl, ?_⟩; go_big_quiet_on)
               | (go_big_quiet_op; refine ⟨_, fun _ _ _ => rfl, ?_⟩; go_big_quiet_on)))
        refine wpQuiet_nil ?_
        go_wp2_with fail
        go_meet
        exact ⟨HL12.out, HB.out⟩
    case rest =>
      obtain ⟨hM, hbc⟩ := hcut
      have HBC := Lib.hid hbc
      obtain ⟨am, cm, hp, -, -⟩ := id hM
      rw [show (L ++ [(kx, yx)]).length = L.length + 1 by simp] at hp
      subst hp
      have HM := Lib.hid hM
      clear hM
      clear hbc HX7 HB7 hbo
      go_wp2_with fail
      refine (irank_any _ (L ++ [(kx, yx)]) _ HM.out (by simp; omega) (fun q hq => by
        rcases List.mem_append.1 hq with hq | hq
        · exact HK.out q hq
        · rcases List.mem_singleton.1 hq with rfl
          show kx.length ≤ 2000000; omega)).mono ?_
      rintro e w9 ⟨rfl, hb9⟩
      have HB9 := Lib.hid (HBC.out.trans (hb9.mono HBC.out.size))
      clear hb9 HBC HM
      generalize rankM (L ++ [(kx, yx)]) = rm at *
      generalize hrr : rankM L = rl at *
      clear hrr
      have hmo := HMORE.out
      have j1 : ¬ (rm : Int) < (rl : Int) := by omega
      have j2 : ¬ (rl : Int) + 1 < (rm : Int) := by omega
      have j3 : ¬ (L.length : Int) + 1 < (rm : Int) := by omega
      have q1 : decide (rm < rl) = false := decide_eq_false (by omega)
      have q2 : decide ((rl : Int) + 1 < (rm : Int)) = false := decide_eq_false j2
      have q3 : decide ((L.length : Int) + 1 < (rm : Int)) = false := decide_eq_false j3
      clear hmo
      go_wp2_with fail
      try simp only [q1, q2, q3, Bool.or_false, Bool.false_or, Bool.or_self]
      clear q1 q2 q3
      go_loopw [9] (fun i wr => ∃ (k : Nat) (wz : World), k ≤ L.length ∧ i = .int .i64 k ∧ wz = wr ∧ Below w2.heap.size w2 wz) (fun i _ => L.length - (intOf i).toNat)
      case atStart => exact ⟨0, _, Nat.zero_le _, rfl, rfl, HB9.out⟩
      case round =>
        obtain ⟨k, wz, hk, rfl, hwz, hbz⟩ := hrel
        subst hwz
        have HBZ := Lib.hid hbz
        clear hbz HB9
        by_cases hlt : k < L.length
        · have z0 : (0 : Int) ≤ (k : Int) := by omega
          have z1 : (k : Int) < (L.length : Int) := by omega
          have z2 : (k : Int) < 20 := by omega
          obtain ⟨gl, off, cv', u0, hv, hgl, c0, c1, hk0⟩ := (cdAv_below HA2.out HBZ.out).at k hlt
          cases hv
          have hsx := span_has L k hlt (by omega)
          have HSX := Lib.hid hsx
          have hxm : L.getD k blankC ∈ L := by rw [List.getD, List.getElem?_eq_getElem hlt]; exact List.getElem_mem hlt
          have hxl2 := HK.out _ hxm
          clear hsx hxm
          generalize L.getD k blankC = xk at *
          obtain ⟨kk, yk⟩ := xk
          dsimp only at *
          have HKK := Lib.hid hk0.to
          obtain ⟨au, cu, rfl, -, -⟩ := hk0
          go_wp2_with fail
          refine (scodeok_any _ kk yk _ HKK.out hxl2).mono ?_
          rintro e wa ⟨rfl, hba⟩
          have HBA := Lib.hid (HBZ.out.trans (hba.mono HBZ.out.size))
          have HKA := Lib.hid (keysAt_below HKK.out hba)
          have d0 := (hba.cell (p := ⟨gl, off + k * 2, none⟩) hgl).trans c0
          have d1 := (hba.cell (p := ⟨gl, off + k * 2 + 1, none⟩) hgl).trans c1
          have hgl2 := Nat.lt_of_lt_of_le hgl hba.size
          clear hba c0 c1 hgl HKK
          cases hco : codeOkB (kk, yk) with
          | false =>
            clear hco
            go_wp2_with fail
            exact ⟨⟨k + 1, _, by omega, by go_num, rfl, HBA.out⟩, by simp [intOf]; omega⟩
          | true =>
            have hyy := HSX.out hco
            clear hco
            have IP := Lib.hid (ispanned_any _ L _ (kk, yk) wa (cdAv_below HA2.out HBA.out) (by omega) HK.out HKA.out hxl2)
            rw [hyy] at IP
            clear hyy HSX
            go_wp2_with fail
            refine IP.out.mono ?_
            rintro e wb ⟨rfl, hbb⟩
            have HBB := Lib.hid (HBA.out.trans (hbb.mono HBA.out.size))
            clear hbb HBA IP d0 d1
            go_wp2_with fail
            exact ⟨⟨k + 1, _, by omega, by go_num, rfl, HBB.out⟩, by simp [intOf]; omega⟩
        · obtain rfl : k = L.length := by omega
          cases sp with
          | false =>
            go_wp2
            go_ret
            exact ⟨rfl, HB2.out.trans (HBZ.out.mono HB2.out.size)⟩
          | true =>
            have he : (rm : Int) = (rl : Int) := by have := HYES.out rfl; omega
            go_wp2
            go_ret
            exact ⟨rfl, HB2.out.trans (HBZ.out.mono HB2.out.size)⟩
  · go_enter Try.func3, Try.ntmps3
    go_wp2_with fail
    refine (big_true _ _ _ _ hbig).mono ?_
    rintro e w1 ⟨rfl, rfl⟩
    go_wp2
    go_ret
    exact ⟨rfl, Below.refl _ _⟩
end Go.Proofs.Ytbbjpjkclealfaa
