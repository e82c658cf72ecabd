/- The program's chapter 3, walked: two lists gone through, one inside the other. -/
import Derived.Test.YtbhdgkaeackbkaaKeyV
namespace Go.Proofs.Ytbhdgkaeackbkaa
open Go.RowKit Go.Shelf
attribute [local go_sem] Oper.semAt_some
set_option linter.unusedVariables false

theorem grownN {A B : World} (h : Below A.heap.size A B) : A.grownBy B none := grown_of_below' h none
set_option maxRecDepth 100000 in
set_option maxHeartbeats 4000000 in
theorem itogether_any (aa : Option Addr) (ca : Nat) (ab : Option Addr) (cb : Nat) (A B : List K2) (sh : Bool) (w : World) (ha : keysAt w (.slice aa A.length ca) A) (hb : keysAt w (.slice ab B.length cb) B) (hsA : A.length ≤ 2000000) (hsB : B.length ≤ 2000000) :
    Calls Try.prog 43 #[.slice aa A.length ca, .slice ab B.length cb, .bool sh] w fun e w' => ∃ v, e = .returned v ∧ w'.ownsRow w.heap.size 25 2 v (mergeL sh A B).length (keyCells (mergeL sh A B)) ∧ Below w.heap.size w w' := by
  refine (callsIn_wide (n := 9)).1 ?_
  obtain ⟨i0, hi, hz0, hz1, hz2⟩ := info_parts infoK
  have ha0 := keysIn0_of ha
  have hb0 := keysIn0_of hb
  clear ha hb
  refine callsIn_of_wp_marks Try.func43 rfl trivial ?_ rfl
  simp only [Try.ntmps43, List.size_toArray, List.length_cons, List.length_nil, Nat.reduceAdd, Nat.reduceSub, Array.replicate_succ, Array.replicate_zero, List.push_toArray, List.append_toArray, List.nil_append, List.cons_append]
  gi_wp2
  refine wpIn_wide.2 (wp_scope_straight ((wpIn_wide (n := 9)).1 ?_))
  gi_wp2
  refine wpIn_label ?_
  gi_wp2
  refine ⟨trivial, (callsIn_wide.2 (kin_any _ _ _ _)).mono ?_⟩
  rintro e w' ⟨rfl, rfl⟩
  gi_wp2
  have bS := Boxed.new w 4 (.bool sh)
  have bL := Boxed.new (w.alloc (.cells #[.bool sh] 4)) 29 (.slice none 0 0)
  have bR := Boxed.new ((w.alloc (.cells #[.bool sh] 4)).alloc (.cells #[.slice none 0 0] 29)) 29 (.slice ab B.length cb)
  have bA := Boxed.new (((w.alloc (.cells #[.bool sh] 4)).alloc (.cells #[.slice none 0 0] 29)).alloc (.cells #[.slice ab B.length cb] 29)) 29 (.slice aa A.length ca)
  have hB0 : Below w.heap.size w ((((w.alloc (.cells #[.bool sh] 4)).alloc (.cells #[.slice none 0 0] 29)).alloc (.cells #[.slice ab B.length cb] 29)).alloc (.cells #[.slice aa A.length ca] 29)) :=
    ((((Below.refl _ w).alloc (Nat.le_refl _) _).alloc (by simp) _).alloc (by simp; omega) _).alloc (by simp; omega) _
  have bS := ((bS.alloc (.cells #[.slice none 0 0] 29)).alloc (.cells #[.slice ab B.length cb] 29)).alloc (.cells #[.slice aa A.length ca] 29)
  have bL := (bL.alloc (.cells #[.slice ab B.length cb] 29)).alloc (.cells #[.slice aa A.length ca] 29)
  have bR := bR.alloc (.cells #[.slice aa A.length ca] 29)
  have hsz : ((((w.alloc (.cells #[.bool sh] 4)).alloc (.cells #[.slice none 0 0] 29)).alloc (.cells #[.slice ab B.length cb] 29)).alloc (.cells #[.slice aa A.length ca] 29)).heap.size = w.heap.size + 4 := by simp
  simp only [World.size_alloc] at bL bR bA
  obtain ⟨W0, hW0⟩ : ∃ W0, (((w.alloc (.cells #[.bool sh] 4)).alloc (.cells #[.slice none 0 0] 29)).alloc (.cells #[.slice ab B.length cb] 29)).alloc (.cells #[.slice aa A.length ca] 29) = W0 := ⟨_, rfl⟩
  rw [hW0] at bS bL bR bA hB0 hsz ⊢
  clear hW0
  refine wpIn_rangeFunc_ownH (n := 9) rfl (by omega) (gf := 52) (lb := #[.pointer (some ⟨w.heap.size + 1 + 1 + 1, 0, none⟩)]) rfl trivial (enters_of Try.func52 (by kernel_rfl) rfl)
    (kin_stops 8 (w.heap.size + 1 + 1 + 1) w.heap.size (.slice aa A.length ca) A (by omega) (by omega) W0 (by omega) (by omega) bA.cell (ha0.below hB0)) belowK_t (belowK_b (by omega)) (Below.refl _ _) (fun _ => rfl)
    (fun pre W => (∃ v, Boxed W (w.heap.size + 1) 29 v ∧ W.ownsRow w.heap.size 25 2 v (tFold sh B pre).1.length (keyCells (tFold sh B pre).1) ∧ True) ∧ (∃ v, Boxed W (w.heap.size + 1 + 1) 29 v ∧ keysIn0 w.heap.size w v (tFold sh B pre).2) ∧ Boxed W w.heap.size 4 (.bool sh) ∧ Below w.heap.size w W)
    (fun _ _ _ => False)
    (OwnFrom.and (Own.from (holdsRow_own w.heap.size (w.heap.size + 1) 29 25 2 (fun pre : List K2 => (tFold sh B pre).1.length) (fun pre => keyCells (tFold sh B pre).1) (fun pre v => True)) _) (OwnFrom.and (Own.from (boxG_own (w.heap.size + 1 + 1) 29 (fun (pre : List K2) v => keysIn0 w.heap.size w v (tFold sh B pre).2)) _) (OwnFrom.and (Own.from (boxed_own _ _ (fun _ => .bool sh)) _) (ownFrom_below (Nat.le_refl _) (by omega)))))
    (fun _ _ _ _ _ hs _ _ => hs)
    ⟨⟨_, bL, World.ownsRow_nil _ _ _ _, trivial⟩, ⟨_, bR, hb0⟩, bS, hB0⟩
    (fun x a' W => ∃ Bx, w.heap.size + 1 + 1 < Bx ∧ KBoxed W Bx x ∧ (∃ v, Boxed W (w.heap.size + 1) 29 v ∧ v.ownBlock ≠ some Bx) ∧ a' = { tmps := #[.slice aa A.length ca, .slice ab B.length cb, .bool sh, undef, undef, .pointer (some ⟨w.heap.size, 0, none⟩), .slice none 0 0, .pointer (some ⟨w.heap.size + 1, 0, none⟩), .pointer (some ⟨w.heap.size + 1 + 1, 0, none⟩), .pointer (some ⟨Bx, 0, none⟩), undef, .slice ab B.length cb, .slice aa A.length ca, .func (.func 52) #[] #[.pointer (some ⟨w.heap.size + 1 + 1 + 1, 0, none⟩)], kv x, undef, undef, undef, undef, undef, undef, undef, undef, undef, undef, undef, undef, undef, undef, undef, undef, undef, undef, undef, undef, undef, undef, undef, undef, undef, undef, undef, undef, undef, undef, undef], defers := [] })
    (fun x a' _ X Y row hs hg hr => by
      obtain ⟨Bx, e1, e2, e3, e4⟩ := hs
      exact ⟨Bx, e1, kboxed_own Bx x () X Y row e2 hg (fun r e => (hr r e).2), boxG_own (w.heap.size + 1) 29 (fun (_ : Unit) v => v.ownBlock ≠ some Bx) () X Y row e3 hg (fun r e => (hr r e).2), e4⟩)
    ?assign ?body ?done ?stop
  case assign =>
    rintro l pre ⟨p, q⟩ W K ⟨⟨v, hv, hrow, -⟩, ⟨vr, hvr, hvrk⟩, hS, hB⟩ hK
    unfold kv at *
    dsimp only at *
    gi_wp2
    exact hK _ _ ((KeepsOthers.alloc _ _).from _) ((Below.refl _ W).alloc hB.size _) ⟨⟨_, hv.alloc _, (hrow.alloc _), trivial⟩, ⟨_, hvr.alloc _, hvrk⟩, hS.alloc _, hB.alloc hB.size _⟩ ⟨W.heap.size, hvr.lt, KBoxed.new W (p, q), ⟨_, hv.alloc _, fun e => by have := (hrow.lt _ e).2; omega⟩, rfl⟩
  case body =>
    rintro l pre ⟨p, q⟩ a' W hl ⟨r, hr⟩ ⟨⟨v, hv, hrow, -⟩, ⟨vr, hvr, hvrk⟩, hS, hB⟩ ⟨Bx, hBx, bX, ⟨v2, hv2, hne⟩, rfl⟩ hlt
    obtain rfl := boxed_uniq hv hv2
    clear hv2
    have hlen := tFold_len sh B pre
    have hsn := tFold_snoc sh B pre (p, q)
    generalize tFold sh B pre = s at *
    obtain ⟨L, R⟩ := s
    dsimp only at hrow hvrk hlen
    have hwd := hvrk
    obtain ⟨ar, cr, rfl, hcr, hcells⟩ := hvrk
    clear hcells
    have cR := hvr.cell
    have HSN := Lib.hid hsn; clear hsn
    gi_wp2
    refine ⟨trivial, (CallsIn.inRound l (callsIn_wide.2 (kin_any _ _ _ _))).mono ?_⟩
    rintro e w' ⟨rfl, rfl⟩
    gi_wp2
    have bN := Boxed.new W 29 (.slice ar R.length cr)
    have hsW := hB.size
    have hr' : (W.alloc (.cells #[.slice ar R.length cr] 29)).heap[l]? = some (.loop r) := (Below.heap_alloc W _ l (Array.getElem?_eq_some_iff.1 hr).1).trans hr
    refine wpIn_rangeFunc_ownN (n := 7) (l₀ := l) (r₀ := r) rfl hr' (by omega) (gf := 52) (lb := #[.pointer (some ⟨W.heap.size, 0, none⟩)]) rfl trivial (enters_of Try.func52 (by kernel_rfl) rfl)
      ((kin_stops 6 W.heap.size w.heap.size (.slice ar R.length cr) R (by omega) (by omega) _ (by simp) (by simp; omega) bN.cell (hwd.below (hB.alloc hsW _))).inRound l) belowK_t (belowK_b (by simp; omega)) (Below.refl _ _) (fun _ => rfl)
      (fun pre' W' => (∀ z ∈ pre', isBefore (p, q) z = true) ∧ (∃ v, Boxed W' (w.heap.size + 1) 29 v ∧ W'.ownsRow w.heap.size 25 2 v (L ++ pre').length (keyCells (L ++ pre')) ∧ v.ownBlock ≠ some Bx) ∧ (∃ v, Boxed W' (w.heap.size + 1 + 1) 29 v ∧ keysIn0 w.heap.size w v (R.drop pre'.length)) ∧ Boxed W' w.heap.size 4 (.bool sh) ∧ KBoxed W' Bx (p, q) ∧ Below w.heap.size W W' ∧ KeepsFrom W0.heap.size W W')
      (fun c pre' W' => (c = .exit 1 ∧ pre' ≠ [] ∧ (∀ z ∈ pre'.dropLast, isBefore (p, q) z = true) ∧ isBefore (p, q) (pre'.getLastD (0, 0)) = false) ∧ (∃ v, Boxed W' (w.heap.size + 1) 29 v ∧ W'.ownsRow w.heap.size 25 2 v (inOut sh L R (p, q) pre').1.length (keyCells (inOut sh L R (p, q) pre').1) ∧ True) ∧ (∃ v, Boxed W' (w.heap.size + 1 + 1) 29 v ∧ keysIn0 w.heap.size w v (inOut sh L R (p, q) pre').2) ∧ Boxed W' w.heap.size 4 (.bool sh) ∧ Below w.heap.size W W' ∧ KeepsFrom W0.heap.size W W')
      (OwnFrom.and (ownFrom_pure _ (fun pre' : List K2 => ∀ z ∈ pre', isBefore (p, q) z = true)) (OwnFrom.and (Own.from (holdsRow_own w.heap.size (w.heap.size + 1) 29 25 2 (fun pre' : List K2 => (L ++ pre').length) (fun pre' => keyCells (L ++ pre')) (fun pre' v => v.ownBlock ≠ some Bx)) _) (OwnFrom.and (Own.from (boxG_own (w.heap.size + 1 + 1) 29 (fun (pre' : List K2) v => keysIn0 w.heap.size w v (R.drop pre'.length))) _) (OwnFrom.and (Own.from (boxed_own _ _ (fun _ => .bool sh)) _) (OwnFrom.and (Own.from (kboxed_own Bx (p, q)) _) (OwnFrom.and (ownFrom_below hsW (by simp; omega)) (ownFrom_keepsFrom (by simp))))))))
      (fun c => OwnFrom.and (ownFrom_pure _ (fun pre' : List K2 => c = .exit 1 ∧ pre' ≠ [] ∧ (∀ z ∈ pre'.dropLast, isBefore (p, q) z = true) ∧ isBefore (p, q) (pre'.getLastD (0, 0)) = false)) (OwnFrom.and (Own.from (holdsRow_own w.heap.size (w.heap.size + 1) 29 25 2 (fun pre' : List K2 => (inOut sh L R (p, q) pre').1.length) (fun pre' => keyCells (inOut sh L R (p, q) pre').1) (fun pre' v => True)) _) (OwnFrom.and (Own.from (boxG_own (w.heap.size + 1 + 1) 29 (fun (pre' : List K2) v => keysIn0 w.heap.size w v (inOut sh L R (p, q) pre').2)) _) (OwnFrom.and (Own.from (boxed_own _ _ (fun _ => .bool sh)) _) (OwnFrom.and (ownFrom_below hsW (by simp; omega)) (ownFrom_keepsFrom (by simp)))))))
      ⟨by simp, ⟨v, hv.alloc _, by simpa using hrow.alloc _, hne⟩, ⟨_, hvr.alloc _, hwd⟩, hS.alloc _, bX.alloc _, (Below.refl _ W).alloc hsW _, (KeepsOthers.alloc _ _).from _⟩
      (fun y a'' W' => ∃ By, w.heap.size + 1 + 1 < By ∧ By ≠ Bx ∧ KBoxed W' By y ∧ (∃ v, Boxed W' (w.heap.size + 1) 29 v ∧ v.ownBlock ≠ some By) ∧ a'' = { tmps := #[.slice aa A.length ca, .slice ab B.length cb, .bool sh, undef, undef, .pointer (some ⟨w.heap.size, 0, none⟩), .slice none 0 0, .pointer (some ⟨w.heap.size + 1, 0, none⟩), .pointer (some ⟨w.heap.size + 1 + 1, 0, none⟩), .pointer (some ⟨Bx, 0, none⟩), .pointer (some ⟨By, 0, none⟩), .slice ab B.length cb, .slice aa A.length ca, .func (.func 52) #[] #[.pointer (some ⟨w.heap.size + 1 + 1 + 1, 0, none⟩)], kv (p, q), .slice ar R.length cr, .func (.func 52) #[] #[.pointer (some ⟨W.heap.size, 0, none⟩)], kv y, undef, undef, undef, undef, undef, undef, undef, undef, undef, undef, undef, undef, undef, undef, undef, undef, undef, undef, undef, undef, undef, undef, undef, undef, undef, undef, undef, undef], defers := [] })
      (fun y a'' _ X Y row hs hg hr => by
        obtain ⟨By, e1, e0, e2, e3, e4⟩ := hs
        exact ⟨By, e1, e0, kboxed_own By y () X Y row e2 hg (fun r e => (hr r e).2), boxG_own (w.heap.size + 1) 29 (fun (_ : Unit) v => v.ownBlock ≠ some By) () X Y row e3 hg (fun r e => (hr r e).2), e4⟩)
      ?assign2 ?body2 ?done2 ?stop2
    case assign2 =>
      rintro l2 pre' ⟨y1, y2⟩ W' K ⟨hq, ⟨v, hv, hrow, hne⟩, ⟨vr, hvr, hvrk⟩, hS, bX, hBW, hKF⟩ hK
      have hs' := Nat.le_trans hsW hBW.size
      unfold kv at *
      dsimp only at *
      gi_wp2
      exact hK _ _ ((KeepsOthers.alloc _ _).from _) ((Below.refl _ W').alloc hs' _) ⟨hq, ⟨v, hv.alloc _, hrow.alloc _, hne⟩, ⟨vr, hvr.alloc _, hvrk⟩, hS.alloc _, bX.alloc _, hBW.alloc hs' _, hKF.trans ((KeepsOthers.alloc _ _).from _)⟩ ⟨W'.heap.size, hvr.lt, Nat.ne_of_gt bX.lt, KBoxed.new W' (y1, y2), ⟨v, hv.alloc _, fun e => by have := (hrow.lt _ e).2; omega⟩, rfl⟩
    case body2 =>
      rintro l2 pre' ⟨y1, y2⟩ a'' W' _ _ ⟨hq, ⟨v', hv', hrow', hne'⟩, ⟨vr, hvr', hvrk'⟩, hS', bX', hBW, hKF⟩ ⟨By, hBy, hBxy, bY, ⟨v3, hv3, hne3⟩, rfl⟩ hlt'
      obtain rfl := boxed_uniq hv' hv3
      clear hv3
      have hs' := Nat.le_trans hsW hBW.size
      have cX0 := bX'.cell0
      have cX1 := bX'.cell1
      have cY0 := bY.cell0
      have cY1 := bY.cell1
      dsimp only at cX0 cX1 cY0 cY1
      have hRl : pre'.length < R.length := hlt'
      have hll := Lib.hid (show (L ++ pre').length = L.length + pre'.length from List.length_append)
      have hM := Lib.hid (Eq.refl (L ++ pre'))
      revert hM hll hrow'
      generalize hMM : L ++ pre' = M
      intro hrow' hll _
      have hM := Lib.hid hMM; clear hMM
      have HA := Lib.hid (iahead_any (p, q) (y1, y2) W')
      cases hah : aheadB (p, q) (y1, y2) with
      | true =>
        rw [hah] at HA
        have HIO := Lib.hid (show inOut sh L R (p, q) (pre' ++ [(y1, y2)]) = (M ++ [(p, q)], R.drop pre'.length) by rw [inOut_at, if_pos hah, hM.out])
        have HPU := Lib.hid (show (pre' ++ [(y1, y2)] ≠ [] ∧ (∀ z ∈ (pre' ++ [(y1, y2)]).dropLast, isBefore (p, q) z = true) ∧ isBefore (p, q) ((pre' ++ [(y1, y2)]).getLastD (0, 0)) = false) from
          ⟨by simp, by rw [List.dropLast_concat]; exact hq, by rw [show (pre' ++ [(y1, y2)]).getLastD (0, 0) = (y1, y2) by simp [List.getLastD_eq_getLast?]]; exact isBefore_false_ahead hah⟩)
        clear hah
        have HA2 := HA.out
        unfold kv at HA2
        dsimp only at HA2
        have HA := Lib.hid HA2; clear HA2
        gi_wp2
        refine ⟨trivial, (CallsIn.inRound l2 (CallsIn.inRound l (callsIn_wide.2 HA.out))).mono ?_⟩
        rintro e W1 ⟨rfl, hb1⟩
        have g1 := grownN hb1
        have hv1 := hv'.kept g1 (by simp)
        have hvr1 := hvr'.kept g1 (by simp)
        have hS1 := hS'.kept g1 (by simp)
        have bX1 := bX'.kept g1 (by simp)
        have hrow1 := own_below hrow' hb1
        have hs1 := Nat.le_trans hs' hb1.size
        have hk1 : KeepsOthers W' W1 := KeepsOthers.of_grownBy g1 (fun j o e => by cases e)
        have hBW1 := hBW.trans (hb1.mono hs')
        have HBP1 := Lib.hid (hb1.mono hs')
        have HKF1 := Lib.hid (hKF.trans (hk1.from _))
        have HK1 := Lib.hid hk1
        have cL1 := hv1.cell
        have cX0 := bX1.cell0
        have cX1 := bX1.cell1
        dsimp only at cX0 cX1
        clear hv' hvr' hS' bX' hrow' hb1 g1 HA cY0 cY1 bY hk1 hKF hBW
        gi_wp2_with (gi_at_builtin; refine wpListIn_append_own_at _ rfl (.tmp 21) (.tmp 23) 29 rfl w.heap.size 25 i0 (.agg #[.int .i64 0, .int .i64 0]) 2 16 Try.underlying29 hi hz0 hz1 hz2 rfl (by decide) _ _ _ rfl (hrow1.alloc _) ⟨W1.heap.size, 0, none⟩ 1 1 [.int .i64 p, .int .i64 q] rfl rfl (cell_two_new _ _ _ _) (by intro u hu; simp at hu; rcases hu with rfl | rfl <;> rfl) (by have := hll.out; unfold maxLen; omega) (by have := hll.out; omega) (by rw [World.size_alloc]; omega) ?_; intro v5 w5 hown5 hgrow5 _ hat5; obtain ⟨g5, cap5, rfl⟩ := ownsRow_succ hown5; obtain ⟨hvx, hvy, hrz, hkz, hbz⟩ := hv1.appended (by decide) hrow1 hs1 (by omega) hown5 hgrow5; have hc5 := hvx.cell; have hf5 := hvx.frozen)
        exact ⟨(HK1.out.trans hkz).from _, ⟨rfl, HPU.out⟩, ⟨_, hvy, by rw [HIO.out]; dsimp only; rw [keyCells_snoc]; simpa using hrz, trivial⟩, ⟨_, boxed_app hvr1 (by decide) hrow1 hgrow5 (by omega) _, by rw [HIO.out]; exact hvrk'⟩, boxed_app hS1 (by decide) hrow1 hgrow5 (by omega) _, hBW1.trans hbz, HKF1.out.trans (hkz.from _)⟩
      | false =>
        rw [hah] at HA
        obtain ⟨y0, r', hR'⟩ : ∃ y0 r', R.drop pre'.length = y0 :: r' := ⟨_, _, drop_at R pre'.length hRl⟩
        have hR1 : R.drop (pre'.length + 1) = r' := by rw [← List.drop_drop, hR']; rfl
        rw [hR'] at hvrk'
        have hk0 := hvrk'
        obtain ⟨a6, c6, rfl, hc6, hcs⟩ := hvrk'
        obtain ⟨g6, o6, rfl, -, -, -⟩ := hcs.resolve_left (by simp)
        simp only [List.length_cons] at *
        clear hcs
        have hr'l : r'.length ≤ R.length := by rw [← hR1]; simp
        obtain ⟨o7, ho7, hsl⟩ := slice_tail_run g6 o6 r'.length c6 hc6 (by omega)
        have hk7 := Lib.hid (keysIn0_tail2 hk0 hc6 ho7)
        have HR1 := Lib.hid hR1; clear hR1 hR' hk0 ho7
        have HA2 := HA.out
        unfold kv at HA2
        dsimp only at HA2
        have HA := Lib.hid HA2; clear HA2
        gi_wp2
        refine ⟨trivial, (CallsIn.inRound l2 (CallsIn.inRound l (callsIn_wide.2 HA.out))).mono ?_⟩
        rintro e W1 ⟨rfl, hb1⟩
        have g1 := grownN hb1
        have hv1 := hv'.kept g1 (by simp)
        have bY1 := bY.kept g1 (by simp)
        have hvr1 := hvr'.kept g1 (by simp)
        have hS1 := hS'.kept g1 (by simp)
        have bX1 := bX'.kept g1 (by simp)
        have hrow1 := own_below hrow' hb1
        have hs1 := Nat.le_trans hs' hb1.size
        have hk1 : KeepsOthers W' W1 := KeepsOthers.of_grownBy g1 (fun j o e => by cases e)
        have hBW1 := hBW.trans (hb1.mono hs')
        have HBP1 := Lib.hid (hb1.mono hs')
        have HKF1 := Lib.hid (hKF.trans (hk1.from _))
        have HK1 := Lib.hid hk1
        have cL1 := hv1.cell
        have cX0 := bX1.cell0
        have cX1 := bX1.cell1
        have cY0 := bY1.cell0
        have cY1 := bY1.cell1
        dsimp only at cX0 cX1 cY0 cY1
        clear hv' hvr' hS' bX' hrow' hb1 bY g1 HA hk1 hKF hBW
        have cR1 := hvr1.cell
        have fR1 := hvr1.frozen
        have hv2 := hv1.other (B' := w.heap.size + 1 + 1) (by omega) (.slice (some ⟨g6, o7, none⟩) r'.length (c6 - 1))
        have hvr2 := hvr1.set (.slice (some ⟨g6, o7, none⟩) r'.length (c6 - 1))
        have hS2 := hS1.other (B' := w.heap.size + 1 + 1) (by omega) (.slice (some ⟨g6, o7, none⟩) r'.length (c6 - 1))
        have bX2 := bX1.other (B' := w.heap.size + 1 + 1) (by omega) (.slice (some ⟨g6, o7, none⟩) r'.length (c6 - 1))
        have bY2 := bY1.other (B' := w.heap.size + 1 + 1) (by omega) (.slice (some ⟨g6, o7, none⟩) r'.length (c6 - 1))
        have hrow2 := hrow1.kept (grownBy_setCell' W1 (w.heap.size + 1 + 1) (.slice (some ⟨g6, o7, none⟩) r'.length (c6 - 1))) (.inr (hvr1.not_row (by decide) hrow1).symm)
        have hb2 := (Below.refl w.heap.size W1).setCell (p := ⟨w.heap.size + 1 + 1, 0, none⟩) (by simp only []; omega) (.slice (some ⟨g6, o7, none⟩) r'.length (c6 - 1))
        have hk2 := KeepsOthers.setCell W1 ⟨w.heap.size + 1 + 1, 0, none⟩ (.slice (some ⟨g6, o7, none⟩) r'.length (c6 - 1))
        have HB2 := Lib.hid (hBW1.trans hb2)
        have HBP2 := Lib.hid (HBP1.out.trans hb2)
        have HK2 := Lib.hid (HK1.out.trans hk2)
        have HKF2 := Lib.hid (HKF1.out.trans (hk2.from _))
        have HS2 := Lib.hid (Nat.le_trans hs1 hb2.size)
        clear hb2 hk2 hBW1 HK1 HKF1
        obtain ⟨W2, hW2⟩ : ∃ W2, W1.setCell ⟨w.heap.size + 1 + 1, 0, none⟩ (.slice (some ⟨g6, o7, none⟩) r'.length (c6 - 1)) = W2 := ⟨_, rfl⟩
        rw [hW2] at hv2 hvr2 hS2 bX2 bY2 hrow2 HB2 HBP2 HK2 HKF2 HS2
        have hs2 := HS2.out
        have cL2 := hv2.cell
        have cS2 := hS2.cell
        have cX20 := bX2.cell0
        have cX21 := bX2.cell1
        have cY20 := bY2.cell0
        have cY21 := bY2.cell1
        dsimp only at cX20 cX21 cY20 cY21
        clear hv1 hvr1 hS1 bX1 bY1 hrow1
        cases heq : ((p, q) == (y1, y2)) with
        | true =>
          have e0 := eq_of_beq heq
          obtain ⟨e1, e2⟩ : p = y1 ∧ q = y2 := ⟨congrArg Prod.fst e0, congrArg Prod.snd e0⟩
          subst e1; subst e2
          have HIO := Lib.hid (show inOut sh L R (p, q) (pre' ++ [(p, q)]) = (M ++ (if sh then [(p, q)] else []), r') by rw [inOut_at, if_neg (by rw [hah]; exact Bool.false_ne_true), hM.out, HR1.out])
          have HPU := Lib.hid (show (pre' ++ [(p, q)] ≠ [] ∧ (∀ z ∈ (pre' ++ [(p, q)]).dropLast, isBefore (p, q) z = true) ∧ isBefore (p, q) ((pre' ++ [(p, q)]).getLastD (0, 0)) = false) from
            ⟨by simp, by rw [List.dropLast_concat]; exact hq, by rw [show (pre' ++ [(p, q)]).getLastD (0, 0) = (p, q) by simp [List.getLastD_eq_getLast?]]; exact isBefore_false_eq _⟩)
          clear hah heq e0
          cases sh with
          | true =>
            gi_wp2_with (gi_at_builtin; refine wpListIn_append_own_at _ rfl (.tmp 31) (.tmp 33) 29 rfl w.heap.size 25 i0 (.agg #[.int .i64 0, .int .i64 0]) 2 16 Try.underlying29 hi hz0 hz1 hz2 rfl (by decide) _ _ _ rfl (hrow2.alloc _) ⟨W2.heap.size, 0, none⟩ 1 1 [.int .i64 p, .int .i64 q] rfl rfl (cell_two_new _ _ _ _) (by intro u hu; simp at hu; rcases hu with rfl | rfl <;> rfl) (by have := hll.out; unfold maxLen; omega) (by have := hll.out; omega) (by rw [World.size_alloc]; omega) ?_; intro v5 w5 hown5 hgrow5 _ hat5; obtain ⟨g5, cap5, rfl⟩ := ownsRow_succ hown5; obtain ⟨hvx, hvy, hrz, hkz, hbz⟩ := hv2.appended (by decide) hrow2 hs2 (by omega) hown5 hgrow5; have hc5 := hvx.cell; have hf5 := hvx.frozen)
            have HI2 : inOut true L R (p, q) (pre' ++ [(p, q)]) = (M ++ [(p, q)], r') := HIO.out
            exact ⟨(HK2.out.trans hkz).from _, ⟨rfl, HPU.out⟩, ⟨_, hvy, by rw [HI2]; dsimp only; rw [keyCells_snoc]; simpa using hrz, trivial⟩, ⟨_, boxed_app hvr2 (by decide) hrow2 hgrow5 (by omega) _, by rw [HIO.out]; exact hk7.out⟩, boxed_app hS2 (by decide) hrow2 hgrow5 (by omega) _, HB2.out.trans hbz, HKF2.out.trans (hkz.from _)⟩
          | false =>
            have HI2 : inOut false L R (p, q) (pre' ++ [(p, q)]) = (M, r') := HIO.out.trans (by rw [if_neg (by decide), List.append_nil])
            have HI2 := Lib.hid HI2
            gi_wp2
            exact ⟨HK2.out.from _, ⟨rfl, HPU.out⟩, ⟨_, hv2, by rw [HI2.out]; exact hrow2, trivial⟩, ⟨_, hvr2, by rw [HIO.out]; exact hk7.out⟩, hS2, HB2.out, HKF2.out⟩
        | false =>
          have HQ := Lib.hid (show ∀ z ∈ pre' ++ [(y1, y2)], isBefore (p, q) z = true from fun z hz => by
            rcases List.mem_append.1 hz with h | h
            · exact hq z h
            · rw [List.mem_singleton.1 h]; exact isBefore_true hah heq)
          have hne2 : ¬ (p = y1 ∧ q = y2) := fun h => by rw [h.1, h.2] at heq; simp at heq
          have HMM := Lib.hid (show L ++ (pre' ++ [(y1, y2)]) = M ++ [(y1, y2)] by rw [← hM.out, List.append_assoc])
          have HDR := Lib.hid (show R.drop (pre' ++ [(y1, y2)]).length = r' by rw [List.length_append]; exact HR1.out)
          have HE := Lib.hid heq
          have hel : ∀ w', (binOp .eql 25 (.agg #[.int .i64 p, .int .i64 q]) (.agg #[.int .i64 y1, .int .i64 y2])).run Try.prog w' = .ok (.bool false) w' := fun w' => by have := key_eql (p, q) (y1, y2) w'; rw [heq] at this; exact this
          clear hah heq hne2
          gi_wp2_with (gi_at_builtin; refine wpListIn_append_own_at _ rfl (.tmp 35) (.tmp 37) 29 rfl w.heap.size 25 i0 (.agg #[.int .i64 0, .int .i64 0]) 2 16 Try.underlying29 hi hz0 hz1 hz2 rfl (by decide) _ _ _ rfl (hrow2.alloc _) ⟨W2.heap.size, 0, none⟩ 1 1 [.int .i64 y1, .int .i64 y2] rfl rfl (cell_two_new _ _ _ _) (by intro u hu; simp at hu; rcases hu with rfl | rfl <;> rfl) (by have := hll.out; unfold maxLen; omega) (by have := hll.out; omega) (by rw [World.size_alloc]; omega) ?_; intro v5 w5 hown5 hgrow5 _ hat5; obtain ⟨g5, cap5, rfl⟩ := ownsRow_succ hown5; obtain ⟨hvx, hvy, hrz, hkz, hbz⟩ := hv2.appended (by decide) hrow2 hs2 (by omega) hown5 hgrow5; have hc5 := hvx.cell; have hf5 := hvx.frozen)
          have hnew : (Value.slice (some ⟨g5, 0, none⟩) (M.length + 1) cap5).ownBlock ≠ some Bx := fun e => by
            rcases hat5 with h | h
            · exact hne' (h.symm.trans e)
            · have hbx := bX2.lt
              have := Option.some.inj (h.symm.trans e)
              rw [World.size_alloc] at this
              omega
          exact ⟨(HK2.out.trans hkz).from _, HBP2.out.trans hbz, HQ.out, ⟨_, hvy, by rw [HMM.out, keyCells_snoc]; simpa using hrz, hnew⟩, ⟨_, boxed_app hvr2 (by decide) hrow2 hgrow5 (by omega) _, by rw [HDR.out]; exact hk7.out⟩, boxed_app hS2 (by decide) hrow2 hgrow5 (by omega) _, kboxed_app bX2 hne' hgrow5 (by omega) _, HB2.out.trans hbz, HKF2.out.trans (hkz.from _)⟩
    case done2 =>
      rintro ys' W' rfl ⟨hq, ⟨v', hv', hrow', hne'⟩, ⟨vr, hvr', hvrk'⟩, hS', bX', hBW, hKF⟩
      have hts := Lib.hid (tStep_end (both := sh) (L := L) hq)
      have hs' := Nat.le_trans hsW hBW.size
      have hll := Lib.hid (show (L ++ ys').length = L.length + ys'.length from List.length_append)
      revert hll hrow' hts
      generalize hMM : L ++ ys' = M
      intro hrow' hts hll
      have hM := Lib.hid hMM; clear hMM
      have cL1 := hv'.cell
      have cX0 := bX'.cell0
      have cX1 := bX'.cell1
      dsimp only at cX0 cX1
      have hBW1 := Lib.hid hBW; have hKF1 := Lib.hid hKF
      clear hBW hKF
      gi_wp2_with (gi_at_builtin; refine wpListIn_append_own_at _ rfl (.tmp 39) (.tmp 41) 29 rfl w.heap.size 25 i0 (.agg #[.int .i64 0, .int .i64 0]) 2 16 Try.underlying29 hi hz0 hz1 hz2 rfl (by decide) _ _ _ rfl (hrow'.alloc _) ⟨W'.heap.size, 0, none⟩ 1 1 [.int .i64 p, .int .i64 q] rfl rfl (cell_two_new _ _ _ _) (by intro u hu; simp at hu; rcases hu with rfl | rfl <;> rfl) (by have := hll.out; unfold maxLen; omega) (by have := hll.out; omega) (by rw [World.size_alloc]; omega) ?_; intro v5 w5 hown5 hgrow5 _ hat5; obtain ⟨g5, cap5, rfl⟩ := ownsRow_succ hown5; obtain ⟨hvx, hvy, hrz, hkz, hbz⟩ := hv'.appended (by decide) hrow' hs' (by omega) hown5 hgrow5; have hc5 := hvx.cell; have hf5 := hvx.frozen)
      exact ⟨hKF1.out.trans (hkz.from _), hBW1.out.trans hbz, ⟨_, hvy, by rw [HSN.out, hts.out]; dsimp only; rw [keyCells_snoc]; simpa using hrz, trivial⟩, ⟨_, boxed_app hvr' (by decide) hrow' hgrow5 (by omega) _, by rw [HSN.out, hts.out]; have h := hvrk'; rw [List.drop_length] at h; exact h⟩, boxed_app hS' (by decide) hrow' hgrow5 (by omega) _, hB.trans (hBW1.out.trans hbz)⟩
    case stop2 =>
      rintro c pre' W' hpre ⟨⟨rfl, hne1, hq1, hq2⟩, ⟨v', hv', hrow', -⟩, ⟨vr, hvr', hvrk'⟩, hS', hBW, hKF⟩
      rw [inOut_step hpre hne1 hq1 hq2] at hrow' hvrk'
      have hBW1 := Lib.hid hBW; have hKF1 := Lib.hid hKF
      clear hBW hKF
      gi_wp2
      exact ⟨hKF1.out, hBW1.out, ⟨v', hv', by rw [HSN.out]; exact hrow', trivial⟩, ⟨vr, hvr', by rw [HSN.out]; exact hvrk'⟩, hS', hB.trans hBW1.out⟩
  case done =>
    rintro D ys W hD hys ⟨⟨v, hv, hrow, -⟩, ⟨vr, hvr, hvrk⟩, hS, hB⟩ hK
    subst hys
    have hmg := tFold_merge sh ys B
    have hlen := tFold_len sh B ys
    generalize tFold sh B ys = s at *
    obtain ⟨L, R⟩ := s
    dsimp only at *
    have HMG := Lib.hid hmg; clear hmg
    obtain ⟨ar, cr, rfl, hcr, hcells⟩ := hvrk
    have cL := hv.cell
    have cR := hvr.cell
    have hsW := hB.size
    by_cases hR : R.length = 0
    · obtain rfl : R = [] := List.length_eq_zero_iff.1 hR
      have han := append_none hrow ar cr 29
      dsimp only [List.length_nil] at *
      gi_wp2_with (gi_at_builtin; refine wpListIn_append_none W rfl (.tmp 43) (.tmp 44) 29 rfl v (.slice ar 0 cr) rfl rfl han ?_)
      try rw [Exit.noGoto_ret]
      refine ⟨by simp, .inl ⟨_, _, rfl, run_takeDeferred hK, ?_⟩⟩
      refine ⟨_, results_tmp rfl _ _ _, v, rfl, ?_, hB.trans (belowK_b (w := w) (Nat.le_refl _) W D _ _ (by omega) hK rfl rfl)⟩
      have hfin := ownsRow_putObj hrow (.deferred none) hK rfl
      rw [← HMG.out, List.append_nil]
      exact hfin
    · obtain ⟨g, off, rfl, hg0, hg, hcs⟩ := hcells.resolve_left hR
      have hcs2 := keyCells_at hcs
      have hcw : ∀ j u, (keyCells R)[j]? = some u → W.cell? ((⟨g, off, none⟩ : Addr).add j) = some u := fun j u hu => (hB.cell (p := (⟨g, off, none⟩ : Addr).add j) (by rw [addr_add]; exact hg0)).trans (hcs2 j u hu)
      gi_wp2_with (gi_at_builtin; refine wpListIn_append_own_at _ rfl (.tmp 43) (.tmp 44) 29 rfl w.heap.size 25 i0 (.agg #[.int .i64 0, .int .i64 0]) 2 16 Try.underlying29 hi hz0 hz1 hz2 rfl (by decide) v _ _ rfl hrow ⟨g, off, none⟩ R.length cr (keyCells R) rfl (keyCells_len R) hcw (keyCells_one R) (by unfold maxLen; omega) (by omega) hsW ?_; intro v5 w5 hown5 hgrow5 _ hat5)
      have hb5 : Below w.heap.size W w5 := (Below.refl w.heap.size W).grown hgrow5 hsW (fun k e => (hrow.lt k e).1)
      have hK5 : w5.heap[D]? = some (.deferred (some [])) := (KeepsOthers.of_grownBy hgrow5 (fun j o e hj => by
        rcases hrow.2 with ⟨rfl, _⟩ | ⟨g9, cap9, cur9, rfl, _, hgb, _⟩
        · simp [Value.ownBlock] at e
        · obtain rfl : g9 = j := by simpa [Value.ownBlock] using e
          rw [hgb] at hj; cases hj; rfl)).same D _ hK rfl
      rw [Exit.noGoto_ret]
      refine ⟨by simp, .inl ⟨_, _, rfl, run_takeDeferred hK5, ?_⟩⟩
      refine ⟨_, results_tmp rfl _ _ _, v5, rfl, ?_, (hB.trans hb5).trans (belowK_b (w := w) (Nat.le_refl _) w5 D _ _ (by omega) hK5 rfl rfl)⟩
      have hfin := ownsRow_putObj hown5 (.deferred none) hK5 rfl
      rw [← HMG.out, keyCells_app, List.length_append]
      exact hfin
  case stop =>
    rintro D c pre W _ _ h _
    exact h.elim
end Go.Proofs.Ytbhdgkaeackbkaa
