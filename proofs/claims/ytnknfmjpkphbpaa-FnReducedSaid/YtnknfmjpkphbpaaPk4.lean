/- Texts of this seat, one behind the other (part 4): what the laws of chapter 5 lean on. -/
import Derived.Test.YtnknfmjpkphbpaaPk3
import Derived.Deep.DeepCutAuto

set_option linter.unusedVariables false
set_option linter.unusedSimpArgs false

/- The program's chapter 3, walked: two lists gone through, one inside the other. -/
namespace Go.Proofs.Ytnknfmjpkphbpaa
open Go.RowKit Go.Shelf
attribute [local go_sem] Oper.semAt_some
set_option linter.unusedVariables false

theorem grownN {A B : World} (h : Below A.heap.size A B) : A.grownBy B none := grown_of_below' h none
set_option maxRecDepth 100000 in
set_option maxHeartbeats 4000000 in
theorem itogether_any (aa : Option Addr) (ca : Nat) (ab : Option Addr) (cb : Nat) (A B : List K2) (sh : Bool) (w : World) (ha : keysAt w (.slice aa A.length ca) A) (hb : keysAt w (.slice ab B.length cb) B) (hsA : A.length ≤ 2000000) (hsB : B.length ≤ 2000000) :
    Calls Try.prog 82 #[.slice aa A.length ca, .slice ab B.length cb, .bool sh] w fun e w' => ∃ v, e = .returned v ∧ w'.ownsRow w.heap.size 41 2 v (mergeL sh A B).length (keyCells (mergeL sh A B)) ∧ Below w.heap.size w w' := by
  refine (callsIn_wide (n := 9)).1 ?_
  obtain ⟨i0, hi, hz0, hz1, hz2⟩ := info_parts infoK
  have ha0 := keysIn0_of ha
  have hb0 := keysIn0_of hb
  clear ha hb
  refine callsIn_of_wp_marks Try.func82 rfl trivial ?_ rfl
  simp only [Try.ntmps82, List.size_toArray, List.length_cons, List.length_nil, Nat.reduceAdd, Nat.reduceSub, Array.replicate_succ, Array.replicate_zero, List.push_toArray, List.append_toArray, List.nil_append, List.cons_append]
  gi_wp2
  refine wpIn_wide.2 (wp_scope_straight ((wpIn_wide (n := 9)).1 ?_))
  gi_wp2
  refine wpIn_label ?_
  gi_wp2
  refine ⟨trivial, (callsIn_wide.2 (kin_any _ _ _ _)).mono ?_⟩
  rintro e w' ⟨rfl, rfl⟩
  gi_wp2
  have bS := Boxed.new w 4 (.bool sh)
  have bL := Boxed.new (w.alloc (.cells #[.bool sh] 4)) 24 (.slice none 0 0)
  have bR := Boxed.new ((w.alloc (.cells #[.bool sh] 4)).alloc (.cells #[.slice none 0 0] 24)) 24 (.slice ab B.length cb)
  have bA := Boxed.new (((w.alloc (.cells #[.bool sh] 4)).alloc (.cells #[.slice none 0 0] 24)).alloc (.cells #[.slice ab B.length cb] 24)) 24 (.slice aa A.length ca)
  have hB0 : Below w.heap.size w ((((w.alloc (.cells #[.bool sh] 4)).alloc (.cells #[.slice none 0 0] 24)).alloc (.cells #[.slice ab B.length cb] 24)).alloc (.cells #[.slice aa A.length ca] 24)) :=
    ((((Below.refl _ w).alloc (Nat.le_refl _) _).alloc (by simp) _).alloc (by simp; omega) _).alloc (by simp; omega) _
  have bS := ((bS.alloc (.cells #[.slice none 0 0] 24)).alloc (.cells #[.slice ab B.length cb] 24)).alloc (.cells #[.slice aa A.length ca] 24)
  have bL := (bL.alloc (.cells #[.slice ab B.length cb] 24)).alloc (.cells #[.slice aa A.length ca] 24)
  have bR := bR.alloc (.cells #[.slice aa A.length ca] 24)
  have hsz : ((((w.alloc (.cells #[.bool sh] 4)).alloc (.cells #[.slice none 0 0] 24)).alloc (.cells #[.slice ab B.length cb] 24)).alloc (.cells #[.slice aa A.length ca] 24)).heap.size = w.heap.size + 4 := by simp
  simp only [World.size_alloc] at bL bR bA
  obtain ⟨W0, hW0⟩ : ∃ W0, (((w.alloc (.cells #[.bool sh] 4)).alloc (.cells #[.slice none 0 0] 24)).alloc (.cells #[.slice ab B.length cb] 24)).alloc (.cells #[.slice aa A.length ca] 24) = W0 := ⟨_, rfl⟩
  rw [hW0] at bS bL bR bA hB0 hsz ⊢
  clear hW0
  refine wpIn_rangeFunc_ownH (n := 9) rfl (by omega) (gf := 89) (lb := #[.pointer (some ⟨w.heap.size + 1 + 1 + 1, 0, none⟩)]) rfl trivial (enters_of Try.func89 (by kernel_rfl) rfl)
    (kin_stops 8 (w.heap.size + 1 + 1 + 1) w.heap.size (.slice aa A.length ca) A (by omega) (by omega) W0 (by omega) (by omega) bA.cell (ha0.below hB0)) belowK_t (belowK_b (by omega)) (Below.refl _ _) (fun _ => rfl)
    (fun pre W => (∃ v, Boxed W (w.heap.size + 1) 24 v ∧ W.ownsRow w.heap.size 41 2 v (tFold sh B pre).1.length (keyCells (tFold sh B pre).1) ∧ True) ∧ (∃ v, Boxed W (w.heap.size + 1 + 1) 24 v ∧ keysIn0 w.heap.size w v (tFold sh B pre).2) ∧ Boxed W w.heap.size 4 (.bool sh) ∧ Below w.heap.size w W)
    (fun _ _ _ => False)
    (OwnFrom.and (Own.from (holdsRow_own w.heap.size (w.heap.size + 1) 24 41 2 (fun pre : List K2 => (tFold sh B pre).1.length) (fun pre => keyCells (tFold sh B pre).1) (fun pre v => True)) _) (OwnFrom.and (Own.from (boxG_own (w.heap.size + 1 + 1) 24 (fun (pre : List K2) v => keysIn0 w.heap.size w v (tFold sh B pre).2)) _) (OwnFrom.and (Own.from (boxed_own _ _ (fun _ => .bool sh)) _) (ownFrom_below (Nat.le_refl _) (by omega)))))
    (fun _ _ _ _ _ hs _ _ => hs)
    ⟨⟨_, bL, World.ownsRow_nil _ _ _ _, trivial⟩, ⟨_, bR, hb0⟩, bS, hB0⟩
    (fun x a' W => ∃ Bx, w.heap.size + 1 + 1 < Bx ∧ KBoxed W Bx x ∧ (∃ v, Boxed W (w.heap.size + 1) 24 v ∧ v.ownBlock ≠ some Bx) ∧ a' = { tmps := #[.slice aa A.length ca, .slice ab B.length cb, .bool sh, undef, undef, .pointer (some ⟨w.heap.size, 0, none⟩), .slice none 0 0, .pointer (some ⟨w.heap.size + 1, 0, none⟩), .pointer (some ⟨w.heap.size + 1 + 1, 0, none⟩), .pointer (some ⟨Bx, 0, none⟩), undef, .slice ab B.length cb, .slice aa A.length ca, .func (.func 89) #[] #[.pointer (some ⟨w.heap.size + 1 + 1 + 1, 0, none⟩)], kv x, undef, undef, undef, undef, undef, undef, undef, undef, undef, undef, undef, undef, undef, undef, undef, undef, undef, undef, undef, undef, undef, undef, undef, undef, undef, undef, undef, undef, undef, undef, undef], defers := [] })
    (fun x a' _ X Y row hs hg hr => by
      obtain ⟨Bx, e1, e2, e3, e4⟩ := hs
      exact ⟨Bx, e1, kboxed_own Bx x () X Y row e2 hg (fun r e => (hr r e).2), boxG_own (w.heap.size + 1) 24 (fun (_ : Unit) v => v.ownBlock ≠ some Bx) () X Y row e3 hg (fun r e => (hr r e).2), e4⟩)
    ?assign ?body ?done ?stop
  case assign =>
    rintro l pre ⟨p, q⟩ W K ⟨⟨v, hv, hrow, -⟩, ⟨vr, hvr, hvrk⟩, hS, hB⟩ hK
    unfold kv at *
    dsimp only at *
    gi_wp2
    exact hK _ _ ((KeepsOthers.alloc _ _).from _) ((Below.refl _ W).alloc hB.size _) ⟨⟨_, hv.alloc _, (hrow.alloc _), trivial⟩, ⟨_, hvr.alloc _, hvrk⟩, hS.alloc _, hB.alloc hB.size _⟩ ⟨W.heap.size, hvr.lt, KBoxed.new W (p, q), ⟨_, hv.alloc _, fun e => by have := (hrow.lt _ e).2; omega⟩, rfl⟩
  case body =>
    rintro l pre ⟨p, q⟩ a' W hl ⟨r, hr⟩ ⟨⟨v, hv, hrow, -⟩, ⟨vr, hvr, hvrk⟩, hS, hB⟩ ⟨Bx, hBx, bX, ⟨v2, hv2, hne⟩, rfl⟩ hlt
    obtain rfl := boxed_uniq hv hv2
    clear hv2
    have hlen := tFold_len sh B pre
    have hsn := tFold_snoc sh B pre (p, q)
    generalize tFold sh B pre = s at *
    obtain ⟨L, R⟩ := s
    dsimp only at hrow hvrk hlen
    have hwd := hvrk
    obtain ⟨ar, cr, rfl, hcr, hcells⟩ := hvrk
    clear hcells
    have cR := hvr.cell
    have HSN := Lib.hid hsn; clear hsn
    gi_wp2
    refine ⟨trivial, (CallsIn.inRound l (callsIn_wide.2 (kin_any _ _ _ _))).mono ?_⟩
    rintro e w' ⟨rfl, rfl⟩
    gi_wp2
    have bN := Boxed.new W 24 (.slice ar R.length cr)
    have hsW := hB.size
    have hr' : (W.alloc (.cells #[.slice ar R.length cr] 24)).heap[l]? = some (.loop r) := (Below.heap_alloc W _ l (Array.getElem?_eq_some_iff.1 hr).1).trans hr
    refine wpIn_rangeFunc_ownN (n := 7) (l₀ := l) (r₀ := r) rfl hr' (by omega) (gf := 89) (lb := #[.pointer (some ⟨W.heap.size, 0, none⟩)]) rfl trivial (enters_of Try.func89 (by kernel_rfl) rfl)
      ((kin_stops 6 W.heap.size w.heap.size (.slice ar R.length cr) R (by omega) (by omega) _ (by simp) (by simp; omega) bN.cell (hwd.below (hB.alloc hsW _))).inRound l) belowK_t (belowK_b (by simp; omega)) (Below.refl _ _) (fun _ => rfl)
      (fun pre' W' => (∀ z ∈ pre', isBefore (p, q) z = true) ∧ (∃ v, Boxed W' (w.heap.size + 1) 24 v ∧ W'.ownsRow w.heap.size 41 2 v (L ++ pre').length (keyCells (L ++ pre')) ∧ v.ownBlock ≠ some Bx) ∧ (∃ v, Boxed W' (w.heap.size + 1 + 1) 24 v ∧ keysIn0 w.heap.size w v (R.drop pre'.length)) ∧ Boxed W' w.heap.size 4 (.bool sh) ∧ KBoxed W' Bx (p, q) ∧ Below w.heap.size W W' ∧ KeepsFrom W0.heap.size W W')
      (fun c pre' W' => (c = .exit 1 ∧ pre' ≠ [] ∧ (∀ z ∈ pre'.dropLast, isBefore (p, q) z = true) ∧ isBefore (p, q) (pre'.getLastD (0, 0)) = false) ∧ (∃ v, Boxed W' (w.heap.size + 1) 24 v ∧ W'.ownsRow w.heap.size 41 2 v (inOut sh L R (p, q) pre').1.length (keyCells (inOut sh L R (p, q) pre').1) ∧ True) ∧ (∃ v, Boxed W' (w.heap.size + 1 + 1) 24 v ∧ keysIn0 w.heap.size w v (inOut sh L R (p, q) pre').2) ∧ Boxed W' w.heap.size 4 (.bool sh) ∧ Below w.heap.size W W' ∧ KeepsFrom W0.heap.size W W')
      (OwnFrom.and (ownFrom_pure _ (fun pre' : List K2 => ∀ z ∈ pre', isBefore (p, q) z = true)) (OwnFrom.and (Own.from (holdsRow_own w.heap.size (w.heap.size + 1) 24 41 2 (fun pre' : List K2 => (L ++ pre').length) (fun pre' => keyCells (L ++ pre')) (fun pre' v => v.ownBlock ≠ some Bx)) _) (OwnFrom.and (Own.from (boxG_own (w.heap.size + 1 + 1) 24 (fun (pre' : List K2) v => keysIn0 w.heap.size w v (R.drop pre'.length))) _) (OwnFrom.and (Own.from (boxed_own _ _ (fun _ => .bool sh)) _) (OwnFrom.and (Own.from (kboxed_own Bx (p, q)) _) (OwnFrom.and (ownFrom_below hsW (by simp; omega)) (ownFrom_keepsFrom (by simp))))))))
      (fun c => OwnFrom.and (ownFrom_pure _ (fun pre' : List K2 => c = .exit 1 ∧ pre' ≠ [] ∧ (∀ z ∈ pre'.dropLast, isBefore (p, q) z = true) ∧ isBefore (p, q) (pre'.getLastD (0, 0)) = false)) (OwnFrom.and (Own.from (holdsRow_own w.heap.size (w.heap.size + 1) 24 41 2 (fun pre' : List K2 => (inOut sh L R (p, q) pre').1.length) (fun pre' => keyCells (inOut sh L R (p, q) pre').1) (fun pre' v => True)) _) (OwnFrom.and (Own.from (boxG_own (w.heap.size + 1 + 1) 24 (fun (pre' : List K2) v => keysIn0 w.heap.size w v (inOut sh L R (p, q) pre').2)) _) (OwnFrom.and (Own.from (boxed_own _ _ (fun _ => .bool sh)) _) (OwnFrom.and (ownFrom_below hsW (by simp; omega)) (ownFrom_keepsFrom (by simp)))))))
      ⟨by simp, ⟨v, hv.alloc _, by simpa using hrow.alloc _, hne⟩, ⟨_, hvr.alloc _, hwd⟩, hS.alloc _, bX.alloc _, (Below.refl _ W).alloc hsW _, (KeepsOthers.alloc _ _).from _⟩
      (fun y a'' W' => ∃ By, w.heap.size + 1 + 1 < By ∧ By ≠ Bx ∧ KBoxed W' By y ∧ (∃ v, Boxed W' (w.heap.size + 1) 24 v ∧ v.ownBlock ≠ some By) ∧ a'' = { tmps := #[.slice aa A.length ca, .slice ab B.length cb, .bool sh, undef, undef, .pointer (some ⟨w.heap.size, 0, none⟩), .slice none 0 0, .pointer (some ⟨w.heap.size + 1, 0, none⟩), .pointer (some ⟨w.heap.size + 1 + 1, 0, none⟩), .pointer (some ⟨Bx, 0, none⟩), .pointer (some ⟨By, 0, none⟩), .slice ab B.length cb, .slice aa A.length ca, .func (.func 89) #[] #[.pointer (some ⟨w.heap.size + 1 + 1 + 1, 0, none⟩)], kv (p, q), .slice ar R.length cr, .func (.func 89) #[] #[.pointer (some ⟨W.heap.size, 0, none⟩)], kv y, undef, undef, undef, undef, undef, undef, undef, undef, undef, undef, undef, undef, undef, undef, undef, undef, undef, undef, undef, undef, undef, undef, undef, undef, undef, undef, undef, undef], defers := [] })
      (fun y a'' _ X Y row hs hg hr => by
        obtain ⟨By, e1, e0, e2, e3, e4⟩ := hs
        exact ⟨By, e1, e0, kboxed_own By y () X Y row e2 hg (fun r e => (hr r e).2), boxG_own (w.heap.size + 1) 24 (fun (_ : Unit) v => v.ownBlock ≠ some By) () X Y row e3 hg (fun r e => (hr r e).2), e4⟩)
      ?assign2 ?body2 ?done2 ?stop2
    case assign2 =>
      rintro l2 pre' ⟨y1, y2⟩ W' K ⟨hq, ⟨v, hv, hrow, hne⟩, ⟨vr, hvr, hvrk⟩, hS, bX, hBW, hKF⟩ hK
      have hs' := Nat.le_trans hsW hBW.size
      unfold kv at *
      dsimp only at *
      gi_wp2
      exact hK _ _ ((KeepsOthers.alloc _ _).from _) ((Below.refl _ W').alloc hs' _) ⟨hq, ⟨v, hv.alloc _, hrow.alloc _, hne⟩, ⟨vr, hvr.alloc _, hvrk⟩, hS.alloc _, bX.alloc _, hBW.alloc hs' _, hKF.trans ((KeepsOthers.alloc _ _).from _)⟩ ⟨W'.heap.size, hvr.lt, Nat.ne_of_gt bX.lt, KBoxed.new W' (y1, y2), ⟨v, hv.alloc _, fun e => by have := (hrow.lt _ e).2; omega⟩, rfl⟩
    case body2 =>
      rintro l2 pre' ⟨y1, y2⟩ a'' W' _ _ ⟨hq, ⟨v', hv', hrow', hne'⟩, ⟨vr, hvr', hvrk'⟩, hS', bX', hBW, hKF⟩ ⟨By, hBy, hBxy, bY, ⟨v3, hv3, hne3⟩, rfl⟩ hlt'
      obtain rfl := boxed_uniq hv' hv3
      clear hv3
      have hs' := Nat.le_trans hsW hBW.size
      have cX0 := bX'.cell0
      have cX1 := bX'.cell1
      have cY0 := bY.cell0
      have cY1 := bY.cell1
      dsimp only at cX0 cX1 cY0 cY1
      have hRl : pre'.length < R.length := hlt'
      have hll := Lib.hid (show (L ++ pre').length = L.length + pre'.length from List.length_append)
      have hM := Lib.hid (Eq.refl (L ++ pre'))
      revert hM hll hrow'
      generalize hMM : L ++ pre' = M
      intro hrow' hll _
      have hM := Lib.hid hMM; clear hMM
      have HA := Lib.hid (iahead_any (p, q) (y1, y2) W')
      cases hah : aheadB (p, q) (y1, y2) with
      | true =>
        rw [hah] at HA
        have HIO := Lib.hid (show inOut sh L R (p, q) (pre' ++ [(y1, y2)]) = (M ++ [(p, q)], R.drop pre'.length) by rw [inOut_at, if_pos hah, hM.out])
        have HPU := Lib.hid (show (pre' ++ [(y1, y2)] ≠ [] ∧ (∀ z ∈ (pre' ++ [(y1, y2)]).dropLast, isBefore (p, q) z = true) ∧ isBefore (p, q) ((pre' ++ [(y1, y2)]).getLastD (0, 0)) = false) from
          ⟨by simp, by rw [List.dropLast_concat]; exact hq, by rw [show (pre' ++ [(y1, y2)]).getLastD (0, 0) = (y1, y2) by simp [List.getLastD_eq_getLast?]]; exact isBefore_false_ahead hah⟩)
        clear hah
        have HA2 := HA.out
        unfold kv at HA2
        dsimp only at HA2
        have HA := Lib.hid HA2; clear HA2
        gi_wp2
        refine ⟨trivial, (CallsIn.inRound l2 (CallsIn.inRound l (callsIn_wide.2 HA.out))).mono ?_⟩
        rintro e W1 ⟨rfl, hb1⟩
        have g1 := grownN hb1
        have hv1 := hv'.kept g1 (by simp)
        have hvr1 := hvr'.kept g1 (by simp)
        have hS1 := hS'.kept g1 (by simp)
        have bX1 := bX'.kept g1 (by simp)
        have hrow1 := own_below hrow' hb1
        have hs1 := Nat.le_trans hs' hb1.size
        have hk1 : KeepsOthers W' W1 := KeepsOthers.of_grownBy g1 (fun j o e => by cases e)
        have hBW1 := hBW.trans (hb1.mono hs')
        have HBP1 := Lib.hid (hb1.mono hs')
        have HKF1 := Lib.hid (hKF.trans (hk1.from _))
        have HK1 := Lib.hid hk1
        have cL1 := hv1.cell
        have cX0 := bX1.cell0
        have cX1 := bX1.cell1
        dsimp only at cX0 cX1
        clear hv' hvr' hS' bX' hrow' hb1 g1 HA cY0 cY1 bY hk1 hKF hBW
        gi_wp2_with (gi_at_builtin; refine wpListIn_append_own_at _ rfl (.tmp 21) (.tmp 23) 24 rfl w.heap.size 41 i0 (.agg #[.int .i64 0, .int .i64 0]) 2 16 Try.underlying24 hi hz0 hz1 hz2 rfl (by decide) _ _ _ rfl (hrow1.alloc _) ⟨W1.heap.size, 0, none⟩ 1 1 [.int .i64 p, .int .i64 q] rfl rfl (cell_two_new _ _ _ _) (by intro u hu; simp at hu; rcases hu with rfl | rfl <;> rfl) (by have := hll.out; unfold maxLen; omega) (by have := hll.out; omega) (by rw [World.size_alloc]; omega) ?_; intro v5 w5 hown5 hgrow5 _ hat5; obtain ⟨g5, cap5, rfl⟩ := ownsRow_succ hown5; obtain ⟨hvx, hvy, hrz, hkz, hbz⟩ := hv1.appended (by decide) hrow1 hs1 (by omega) hown5 hgrow5; have hc5 := hvx.cell; have hf5 := hvx.frozen)
        exact ⟨(HK1.out.trans hkz).from _, ⟨rfl, HPU.out⟩, ⟨_, hvy, by rw [HIO.out]; dsimp only; rw [keyCells_snoc]; simpa using hrz, trivial⟩, ⟨_, boxed_app hvr1 (by decide) hrow1 hgrow5 (by omega) _, by rw [HIO.out]; exact hvrk'⟩, boxed_app hS1 (by decide) hrow1 hgrow5 (by omega) _, hBW1.trans hbz, HKF1.out.trans (hkz.from _)⟩
      | false =>
        rw [hah] at HA
        obtain ⟨y0, r', hR'⟩ : ∃ y0 r', R.drop pre'.length = y0 :: r' := ⟨_, _, drop_at R pre'.length hRl⟩
        have hR1 : R.drop (pre'.length + 1) = r' := by rw [← List.drop_drop, hR']; rfl
        rw [hR'] at hvrk'
        have hk0 := hvrk'
        obtain ⟨a6, c6, rfl, hc6, hcs⟩ := hvrk'
        obtain ⟨g6, o6, rfl, -, -, -⟩ := hcs.resolve_left (by simp)
        simp only [List.length_cons] at *
        clear hcs
        have hr'l : r'.length ≤ R.length := by rw [← hR1]; simp
        obtain ⟨o7, ho7, hsl⟩ := slice_tail_run g6 o6 r'.length c6 hc6 (by omega)
        have hk7 := Lib.hid (keysIn0_tail2 hk0 hc6 ho7)
        have HR1 := Lib.hid hR1; clear hR1 hR' hk0 ho7
        have HA2 := HA.out
        unfold kv at HA2
        dsimp only at HA2
        have HA := Lib.hid HA2; clear HA2
        gi_wp2
        refine ⟨trivial, (CallsIn.inRound l2 (CallsIn.inRound l (callsIn_wide.2 HA.out))).mono ?_⟩
        rintro e W1 ⟨rfl, hb1⟩
        have g1 := grownN hb1
        have hv1 := hv'.kept g1 (by simp)
        have bY1 := bY.kept g1 (by simp)
        have hvr1 := hvr'.kept g1 (by simp)
        have hS1 := hS'.kept g1 (by simp)
        have bX1 := bX'.kept g1 (by simp)
        have hrow1 := own_below hrow' hb1
        have hs1 := Nat.le_trans hs' hb1.size
        have hk1 : KeepsOthers W' W1 := KeepsOthers.of_grownBy g1 (fun j o e => by cases e)
        have hBW1 := hBW.trans (hb1.mono hs')
        have HBP1 := Lib.hid (hb1.mono hs')
        have HKF1 := Lib.hid (hKF.trans (hk1.from _))
        have HK1 := Lib.hid hk1
        have cL1 := hv1.cell
        have cX0 := bX1.cell0
        have cX1 := bX1.cell1
        have cY0 := bY1.cell0
        have cY1 := bY1.cell1
        dsimp only at cX0 cX1 cY0 cY1
        clear hv' hvr' hS' bX' hrow' hb1 bY g1 HA hk1 hKF hBW
        have cR1 := hvr1.cell
        have fR1 := hvr1.frozen
        have hv2 := hv1.other (B' := w.heap.size + 1 + 1) (by omega) (.slice (some ⟨g6, o7, none⟩) r'.length (c6 - 1))
        have hvr2 := hvr1.set (.slice (some ⟨g6, o7, none⟩) r'.length (c6 - 1))
        have hS2 := hS1.other (B' := w.heap.size + 1 + 1) (by omega) (.slice (some ⟨g6, o7, none⟩) r'.length (c6 - 1))
        have bX2 := bX1.other (B' := w.heap.size + 1 + 1) (by omega) (.slice (some ⟨g6, o7, none⟩) r'.length (c6 - 1))
        have bY2 := bY1.other (B' := w.heap.size + 1 + 1) (by omega) (.slice (some ⟨g6, o7, none⟩) r'.length (c6 - 1))
        have hrow2 := hrow1.kept (grownBy_setCell' W1 (w.heap.size + 1 + 1) (.slice (some ⟨g6, o7, none⟩) r'.length (c6 - 1))) (.inr (hvr1.not_row (by decide) hrow1).symm)
        have hb2 := (Below.refl w.heap.size W1).setCell (p := ⟨w.heap.size + 1 + 1, 0, none⟩) (by simp only []; omega) (.slice (some ⟨g6, o7, none⟩) r'.length (c6 - 1))
        have hk2 := KeepsOthers.setCell W1 ⟨w.heap.size + 1 + 1, 0, none⟩ (.slice (some ⟨g6, o7, none⟩) r'.length (c6 - 1))
        have HB2 := Lib.hid (hBW1.trans hb2)
        have HBP2 := Lib.hid (HBP1.out.trans hb2)
        have HK2 := Lib.hid (HK1.out.trans hk2)
        have HKF2 := Lib.hid (HKF1.out.trans (hk2.from _))
        have HS2 := Lib.hid (Nat.le_trans hs1 hb2.size)
        clear hb2 hk2 hBW1 HK1 HKF1
        obtain ⟨W2, hW2⟩ : ∃ W2, W1.setCell ⟨w.heap.size + 1 + 1, 0, none⟩ (.slice (some ⟨g6, o7, none⟩) r'.length (c6 - 1)) = W2 := ⟨_, rfl⟩
        rw [hW2] at hv2 hvr2 hS2 bX2 bY2 hrow2 HB2 HBP2 HK2 HKF2 HS2
        have hs2 := HS2.out
        have cL2 := hv2.cell
        have cS2 := hS2.cell
        have cX20 := bX2.cell0
        have cX21 := bX2.cell1
        have cY20 := bY2.cell0
        have cY21 := bY2.cell1
        dsimp only at cX20 cX21 cY20 cY21
        clear hv1 hvr1 hS1 bX1 bY1 hrow1
        cases heq : ((p, q) == (y1, y2)) with
        | true =>
          have e0 := eq_of_beq heq
          obtain ⟨e1, e2⟩ : p = y1 ∧ q = y2 := ⟨congrArg Prod.fst e0, congrArg Prod.snd e0⟩
          subst e1; subst e2
          have HIO := Lib.hid (show inOut sh L R (p, q) (pre' ++ [(p, q)]) = (M ++ (if sh then [(p, q)] else []), r') by rw [inOut_at, if_neg (by rw [hah]; exact Bool.false_ne_true), hM.out, HR1.out])
          have HPU := Lib.hid (show (pre' ++ [(p, q)] ≠ [] ∧ (∀ z ∈ (pre' ++ [(p, q)]).dropLast, isBefore (p, q) z = true) ∧ isBefore (p, q) ((pre' ++ [(p, q)]).getLastD (0, 0)) = false) from
            ⟨by simp, by rw [List.dropLast_concat]; exact hq, by rw [show (pre' ++ [(p, q)]).getLastD (0, 0) = (p, q) by simp [List.getLastD_eq_getLast?]]; exact isBefore_false_eq _⟩)
          clear hah heq e0
          cases sh with
          | true =>
            gi_wp2_with (gi_at_builtin; refine wpListIn_append_own_at _ rfl (.tmp 31) (.tmp 33) 24 rfl w.heap.size 41 i0 (.agg #[.int .i64 0, .int .i64 0]) 2 16 Try.underlying24 hi hz0 hz1 hz2 rfl (by decide) _ _ _ rfl (hrow2.alloc _) ⟨W2.heap.size, 0, none⟩ 1 1 [.int .i64 p, .int .i64 q] rfl rfl (cell_two_new _ _ _ _) (by intro u hu; simp at hu; rcases hu with rfl | rfl <;> rfl) (by have := hll.out; unfold maxLen; omega) (by have := hll.out; omega) (by rw [World.size_alloc]; omega) ?_; intro v5 w5 hown5 hgrow5 _ hat5; obtain ⟨g5, cap5, rfl⟩ := ownsRow_succ hown5; obtain ⟨hvx, hvy, hrz, hkz, hbz⟩ := hv2.appended (by decide) hrow2 hs2 (by omega) hown5 hgrow5; have hc5 := hvx.cell; have hf5 := hvx.frozen)
            have HI2 : inOut true L R (p, q) (pre' ++ [(p, q)]) = (M ++ [(p, q)], r') := HIO.out
            exact ⟨(HK2.out.trans hkz).from _, ⟨rfl, HPU.out⟩, ⟨_, hvy, by rw [HI2]; dsimp only; rw [keyCells_snoc]; simpa using hrz, trivial⟩, ⟨_, boxed_app hvr2 (by decide) hrow2 hgrow5 (by omega) _, by rw [HIO.out]; exact hk7.out⟩, boxed_app hS2 (by decide) hrow2 hgrow5 (by omega) _, HB2.out.trans hbz, HKF2.out.trans (hkz.from _)⟩
          | false =>
            have HI2 : inOut false L R (p, q) (pre' ++ [(p, q)]) = (M, r') := HIO.out.trans (by rw [if_neg (by decide), List.append_nil])
            have HI2 := Lib.hid HI2
            gi_wp2
            exact ⟨HK2.out.from _, ⟨rfl, HPU.out⟩, ⟨_, hv2, by rw [HI2.out]; exact hrow2, trivial⟩, ⟨_, hvr2, by rw [HIO.out]; exact hk7.out⟩, hS2, HB2.out, HKF2.out⟩
        | false =>
          have HQ := Lib.hid (show ∀ z ∈ pre' ++ [(y1, y2)], isBefore (p, q) z = true from fun z hz => by
            rcases List.mem_append.1 hz with h | h
            · exact hq z h
            · rw [List.mem_singleton.1 h]; exact isBefore_true hah heq)
          have hne2 : ¬ (p = y1 ∧ q = y2) := fun h => by rw [h.1, h.2] at heq; simp at heq
          have HMM := Lib.hid (show L ++ (pre' ++ [(y1, y2)]) = M ++ [(y1, y2)] by rw [← hM.out, List.append_assoc])
          have HDR := Lib.hid (show R.drop (pre' ++ [(y1, y2)]).length = r' by rw [List.length_append]; exact HR1.out)
          have HE := Lib.hid heq
          have hel : ∀ w', (binOp .eql 41 (.agg #[.int .i64 p, .int .i64 q]) (.agg #[.int .i64 y1, .int .i64 y2])).run Try.prog w' = .ok (.bool false) w' := fun w' => by have := key_eql (p, q) (y1, y2) w'; rw [heq] at this; exact this
          clear hah heq hne2
          gi_wp2_with (gi_at_builtin; refine wpListIn_append_own_at _ rfl (.tmp 35) (.tmp 37) 24 rfl w.heap.size 41 i0 (.agg #[.int .i64 0, .int .i64 0]) 2 16 Try.underlying24 hi hz0 hz1 hz2 rfl (by decide) _ _ _ rfl (hrow2.alloc _) ⟨W2.heap.size, 0, none⟩ 1 1 [.int .i64 y1, .int .i64 y2] rfl rfl (cell_two_new _ _ _ _) (by intro u hu; simp at hu; rcases hu with rfl | rfl <;> rfl) (by have := hll.out; unfold maxLen; omega) (by have := hll.out; omega) (by rw [World.size_alloc]; omega) ?_; intro v5 w5 hown5 hgrow5 _ hat5; obtain ⟨g5, cap5, rfl⟩ := ownsRow_succ hown5; obtain ⟨hvx, hvy, hrz, hkz, hbz⟩ := hv2.appended (by decide) hrow2 hs2 (by omega) hown5 hgrow5; have hc5 := hvx.cell; have hf5 := hvx.frozen)
          have hnew : (Value.slice (some ⟨g5, 0, none⟩) (M.length + 1) cap5).ownBlock ≠ some Bx := fun e => by
            rcases hat5 with h | h
            · exact hne' (h.symm.trans e)
            · have hbx := bX2.lt
              have := Option.some.inj (h.symm.trans e)
              rw [World.size_alloc] at this
              omega
          exact ⟨(HK2.out.trans hkz).from _, HBP2.out.trans hbz, HQ.out, ⟨_, hvy, by rw [HMM.out, keyCells_snoc]; simpa using hrz, hnew⟩, ⟨_, boxed_app hvr2 (by decide) hrow2 hgrow5 (by omega) _, by rw [HDR.out]; exact hk7.out⟩, boxed_app hS2 (by decide) hrow2 hgrow5 (by omega) _, kboxed_app bX2 hne' hgrow5 (by omega) _, HB2.out.trans hbz, HKF2.out.trans (hkz.from _)⟩
    case done2 =>
      rintro ys' W' rfl ⟨hq, ⟨v', hv', hrow', hne'⟩, ⟨vr, hvr', hvrk'⟩, hS', bX', hBW, hKF⟩
      have hts := Lib.hid (tStep_end (both := sh) (L := L) hq)
      have hs' := Nat.le_trans hsW hBW.size
      have hll := Lib.hid (show (L ++ ys').length = L.length + ys'.length from List.length_append)
      revert hll hrow' hts
      generalize hMM : L ++ ys' = M
      intro hrow' hts hll
      have hM := Lib.hid hMM; clear hMM
      have cL1 := hv'.cell
      have cX0 := bX'.cell0
      have cX1 := bX'.cell1
      dsimp only at cX0 cX1
      have hBW1 := Lib.hid hBW; have hKF1 := Lib.hid hKF
      clear hBW hKF
      gi_wp2_with (gi_at_builtin; refine wpListIn_append_own_at _ rfl (.tmp 39) (.tmp 41) 24 rfl w.heap.size 41 i0 (.agg #[.int .i64 0, .int .i64 0]) 2 16 Try.underlying24 hi hz0 hz1 hz2 rfl (by decide) _ _ _ rfl (hrow'.alloc _) ⟨W'.heap.size, 0, none⟩ 1 1 [.int .i64 p, .int .i64 q] rfl rfl (cell_two_new _ _ _ _) (by intro u hu; simp at hu; rcases hu with rfl | rfl <;> rfl) (by have := hll.out; unfold maxLen; omega) (by have := hll.out; omega) (by rw [World.size_alloc]; omega) ?_; intro v5 w5 hown5 hgrow5 _ hat5; obtain ⟨g5, cap5, rfl⟩ := ownsRow_succ hown5; obtain ⟨hvx, hvy, hrz, hkz, hbz⟩ := hv'.appended (by decide) hrow' hs' (by omega) hown5 hgrow5; have hc5 := hvx.cell; have hf5 := hvx.frozen)
      exact ⟨hKF1.out.trans (hkz.from _), hBW1.out.trans hbz, ⟨_, hvy, by rw [HSN.out, hts.out]; dsimp only; rw [keyCells_snoc]; simpa using hrz, trivial⟩, ⟨_, boxed_app hvr' (by decide) hrow' hgrow5 (by omega) _, by rw [HSN.out, hts.out]; have h := hvrk'; rw [List.drop_length] at h; exact h⟩, boxed_app hS' (by decide) hrow' hgrow5 (by omega) _, hB.trans (hBW1.out.trans hbz)⟩
    case stop2 =>
      rintro c pre' W' hpre ⟨⟨rfl, hne1, hq1, hq2⟩, ⟨v', hv', hrow', -⟩, ⟨vr, hvr', hvrk'⟩, hS', hBW, hKF⟩
      rw [inOut_step hpre hne1 hq1 hq2] at hrow' hvrk'
      have hBW1 := Lib.hid hBW; have hKF1 := Lib.hid hKF
      clear hBW hKF
      gi_wp2
      exact ⟨hKF1.out, hBW1.out, ⟨v', hv', by rw [HSN.out]; exact hrow', trivial⟩, ⟨vr, hvr', by rw [HSN.out]; exact hvrk'⟩, hS', hB.trans hBW1.out⟩
  case done =>
    rintro D ys W hD hys ⟨⟨v, hv, hrow, -⟩, ⟨vr, hvr, hvrk⟩, hS, hB⟩ hK
    subst hys
    have hmg := tFold_merge sh ys B
    have hlen := tFold_len sh B ys
    generalize tFold sh B ys = s at *
    obtain ⟨L, R⟩ := s
    dsimp only at *
    have HMG := Lib.hid hmg; clear hmg
    obtain ⟨ar, cr, rfl, hcr, hcells⟩ := hvrk
    have cL := hv.cell
    have cR := hvr.cell
    have hsW := hB.size
    by_cases hR : R.length = 0
    · obtain rfl : R = [] := List.length_eq_zero_iff.1 hR
      have han := append_none hrow ar cr 24
      dsimp only [List.length_nil] at *
      gi_wp2_with (gi_at_builtin; refine wpListIn_append_none W rfl (.tmp 43) (.tmp 44) 24 rfl v (.slice ar 0 cr) rfl rfl han ?_)
      try rw [Exit.noGoto_ret]
      refine ⟨by simp, .inl ⟨_, _, rfl, run_takeDeferred hK, ?_⟩⟩
      refine ⟨_, results_tmp rfl _ _ _, v, rfl, ?_, hB.trans (belowK_b (w := w) (Nat.le_refl _) W D _ _ (by omega) hK rfl rfl)⟩
      have hfin := ownsRow_putObj hrow (.deferred none) hK rfl
      rw [← HMG.out, List.append_nil]
      exact hfin
    · obtain ⟨g, off, rfl, hg0, hg, hcs⟩ := hcells.resolve_left hR
      have hcs2 := keyCells_at hcs
      have hcw : ∀ j u, (keyCells R)[j]? = some u → W.cell? ((⟨g, off, none⟩ : Addr).add j) = some u := fun j u hu => (hB.cell (p := (⟨g, off, none⟩ : Addr).add j) (by rw [addr_add]; exact hg0)).trans (hcs2 j u hu)
      gi_wp2_with (gi_at_builtin; refine wpListIn_append_own_at _ rfl (.tmp 43) (.tmp 44) 24 rfl w.heap.size 41 i0 (.agg #[.int .i64 0, .int .i64 0]) 2 16 Try.underlying24 hi hz0 hz1 hz2 rfl (by decide) v _ _ rfl hrow ⟨g, off, none⟩ R.length cr (keyCells R) rfl (keyCells_len R) hcw (keyCells_one R) (by unfold maxLen; omega) (by omega) hsW ?_; intro v5 w5 hown5 hgrow5 _ hat5)
      have hb5 : Below w.heap.size W w5 := (Below.refl w.heap.size W).grown hgrow5 hsW (fun k e => (hrow.lt k e).1)
      have hK5 : w5.heap[D]? = some (.deferred (some [])) := (KeepsOthers.of_grownBy hgrow5 (fun j o e hj => by
        rcases hrow.2 with ⟨rfl, _⟩ | ⟨g9, cap9, cur9, rfl, _, hgb, _⟩
        · simp [Value.ownBlock] at e
        · obtain rfl : g9 = j := by simpa [Value.ownBlock] using e
          rw [hgb] at hj; cases hj; rfl)).same D _ hK rfl
      rw [Exit.noGoto_ret]
      refine ⟨by simp, .inl ⟨_, _, rfl, run_takeDeferred hK5, ?_⟩⟩
      refine ⟨_, results_tmp rfl _ _ _, v5, rfl, ?_, (hB.trans hb5).trans (belowK_b (w := w) (Nat.le_refl _) w5 D _ _ (by omega) hK5 rfl rfl)⟩
      have hfin := ownsRow_putObj hown5 (.deferred none) hK5 rfl
      rw [← HMG.out, keyCells_app, List.length_append]
      exact hfin
  case stop =>
    rintro D c pre W _ _ h _
    exact h.elim
end Go.Proofs.Ytnknfmjpkphbpaa
/- The program's Parted, walked. -/
namespace Go.Proofs.Ytnknfmjpkphbpaa
open Go.ChangeShapes Go.WideShapes Go.ChangeAt Go.RowKit
set_option linter.unusedVariables false

theorem iparted_any : IParted := by
  intro va vb A B w ha hb hsA hsB
  have hsa : ∃ a cap, va = .slice a A.length cap := by obtain ⟨a, cap, h, _⟩ := ha; exact ⟨a, cap, h⟩
  have hsb : ∃ a cap, vb = .slice a B.length cap := by obtain ⟨a, cap, h, _⟩ := hb; exact ⟨a, cap, h⟩
  obtain ⟨aa, ca, rfl⟩ := hsa
  obtain ⟨ab, cb, rfl⟩ := hsb
  have HA := Lib.hid (ikeysok_any _ A w ha hsA)
  have HB := Lib.hid (fun w' (h : Below w.heap.size w w') => ikeysok_any _ B w' (keysAt_below hb h) hsB)
  have HT := Lib.hid (fun w' (h : Below w.heap.size w w') => itogether_any aa ca ab cb A B false w' (keysAt_below ha h) (keysAt_below hb h) hsA hsB)
  clear ha hb
  have hmv : mergeV false A B = if keysOkR A && keysOkR B then mergeL false A B else [] := rfl
  cases hoA : keysOkR A with
  | false =>
    rw [hoA] at HA hmv
    have HM := Lib.hid (show mergeV false A B = [] from hmv.trans rfl); clear hmv hoA
    go_enter Try.func46, Try.ntmps46
    go_wp2_with fail
    refine HA.out.mono ?_
    rintro e w1 ⟨rfl, hb1⟩
    go_wp2
    go_ret
    exact ⟨_, rfl, by rw [HM.out]; exact World.ownsRow_nil _ _ _ _, hb1⟩
  | true =>
    cases hoB : keysOkR B with
    | false =>
      rw [hoA] at HA
      rw [hoA, hoB] at hmv
      have HM := Lib.hid (show mergeV false A B = [] from hmv.trans rfl); clear hmv
      go_enter Try.func46, Try.ntmps46
      go_wp2_with fail
      refine HA.out.mono ?_
      rintro e w1 ⟨rfl, hb1⟩
      go_wp2_with fail
      refine (HB.out _ hb1).mono ?_
      rintro e w2 ⟨rfl, hb2⟩
      have hb3 := hb1.trans (hb2.mono hb1.size)
      rw [hoB]
      clear hb1 hb2 hoA hoB
      go_wp2
      go_ret
      exact ⟨_, rfl, by rw [HM.out]; exact World.ownsRow_nil _ _ _ _, hb3⟩
    | true =>
      rw [hoA] at HA
      rw [hoA, hoB] at hmv
      have HM := Lib.hid (show mergeV false A B = mergeL false A B from hmv.trans rfl); clear hmv
      go_enter Try.func46, Try.ntmps46
      go_wp2_with fail
      refine HA.out.mono ?_
      rintro e w1 ⟨rfl, hb1⟩
      go_wp2_with fail
      refine (HB.out _ hb1).mono ?_
      rintro e w2 ⟨rfl, hb2⟩
      have hb3 := hb1.trans (hb2.mono hb1.size)
      rw [hoB]
      clear hb1 hb2 hoA hoB
      go_wp2_with fail
      refine (HT.out _ hb3).mono ?_
      rintro e w4 ⟨v, rfl, ho, hb4⟩
      have hb5 := hb3.trans (hb4.mono hb3.size)
      have ho2 := own_base ho hb3.size
      clear hb3 hb4 ho HT
      go_wp2
      go_ret
      exact ⟨_, rfl, by rw [HM.out]; exact ho2, hb5⟩
end Go.Proofs.Ytnknfmjpkphbpaa
/- Two words put together: the exact law, walked. -/
namespace Go.Proofs.Ytnknfmjpkphbpaa
open Go.ChangeShapes Go.WideShapes Go.ChangeAt Go.RowKit Go.BigFrame
set_option linter.unusedVariables false

theorem comb_len (a b : C2) : (combM a b).1.1.length ≤ 6 := by
  unfold combM
  split
  · rename_i h
    exact ((codeOk_iff _).1 h.2.2).1
  · simp [blankC]
/-- what a region that puts a word into a new block leaves behind -/
structure NewC (w W : World) (b : Nat) (v : Value) (M : List K2) (Y : ByteArray) : Prop where
  lo : w.heap.size ≤ b
  row : W.heap[b]? = some (.cells #[v, .string Y] 26)
  own : W.ownsRow w.heap.size 41 2 v M.length (keyCells M)
  ne : v.ownBlock ≠ some b
set_option maxRecDepth 100000 in
set_option maxHeartbeats 4000000 in
theorem excombine_walk (v : Value) (ks : List K2) (y : ByteArray) (v2 : Value) (ks2 : List K2) (y2 : ByteArray) (w : World) (h : keysAt w v ks) (hn : ks.length ≤ maxLen) (hy : y.size ≤ maxLen) (h2 : keysAt w v2 ks2) (hn2 : ks2.length ≤ maxLen) (hy2 : y2.size ≤ maxLen) :
    Calls Try.prog 9 #[.agg #[v, .string y], .agg #[v2, .string y2]] w fun e w' => e = .returned (.bool true) ∧ Below w.heap.size w w' := by
  unfold maxLen at hn hy hn2 hy2
  have HB := Lib.hid (((Below.refl w.heap.size w).alloc (Nat.le_refl _) (.cells #[v, .string y] 50)).alloc (by simp) (.cells #[v2, .string y2] 50))
  have RA := Lib.hid (heap_first w (.cells #[v2, .string y2] 50) (.cells #[v, .string y] 50))
  have rb := heap_alloc_new (w.alloc (.cells #[v, .string y] 50)) (.cells #[v2, .string y2] 50)
  rw [show (w.alloc (.cells #[v, .string y] 50)).heap.size = w.heap.size + 1 by simp] at rb
  have RB := Lib.hid rb
  clear rb
  have TC := Lib.hid (fun w' (hb : Below w.heap.size w w') (hl : ks.length ≤ 1048576) => tocode_any v ks y w' (keysAt_below h hb) (by omega))
  have TD := Lib.hid (fun w' (hb : Below w.heap.size w w') (hl : ks2.length ≤ 1048576) => tocode_any v2 ks2 y2 w' (keysAt_below h2 hb) (by omega))
  have SC := Lib.hid (fun w' va vb (ha : keysAt w' va ks) (hb : keysAt w' vb ks2) (hl : ks.length ≤ 1048576) (hl2 : ks2.length ≤ 1048576) (hz : y.size ≤ 2000000) (hz2 : y2.size ≤ 2000000) => scombine_any va ks y vb ks2 y2 w' ha hb hl hl2 hz hz2)
  have IC := Lib.hid (fun w' va vb (ha : keysAt w' va ks) (hb : keysAt w' vb ks2) (hl : ks.length ≤ 1048576) (hl2 : ks2.length ≤ 1048576) => icombine_any iparted_any va ks y vb ks2 y2 w' ha hb hl hl2)
  have hM := comb_len (ks, y) (ks2, y2)
  generalize (combM (ks, y) (ks2, y2)).2 = C at *
  generalize (combM (ks, y) (ks2, y2)).1.2 = Y at *
  generalize (combM (ks, y) (ks2, y2)).1.1 = M at *
  obtain ⟨a, cap, rfl, -, -⟩ := h
  obtain ⟨a2, cap2, rfl, -, -⟩ := h2
  have SZ := Lib.hid (fun w' => szcode_any (.slice a ks.length cap) ks y 1048576 w' ⟨a, cap, rfl⟩ (by omega) hn hy)
  have SZ2 := Lib.hid (fun w' x (hx : 0 ≤ x ∧ x ≤ 1000000000) => szcode_any (.slice a2 ks2.length cap2) ks2 y2 x w' ⟨a2, cap2, rfl⟩ hx hn2 hy2)
  go_enter Try.func9, Try.ntmps9
  obtain ⟨Ac0, Ac1, -, -⟩ := row2_of RA.out
  go_wp2_with fail
  generalize (w.alloc (.cells #[.slice a ks.length cap, .string y] 50)).alloc (.cells #[.slice a2 ks2.length cap2, .string y2] 50) = W at *
  refine (SZ.out _).mono ?_
  rintro e w1 ⟨rfl, hb⟩
  replace HB := Lib.hid (HB.out.trans (hb.mono HB.out.size))
  replace RA := Lib.hid ((hb.block _ (Array.getElem?_eq_some_iff.1 RA.out).1).trans RA.out)
  replace RB := Lib.hid ((hb.block _ (Array.getElem?_eq_some_iff.1 RB.out).1).trans RB.out)
  clear hb SZ Ac0 Ac1
  rcases szC_cases 1048576 ks.length y.size (by omega) with hneg | ⟨hneg, h0, h1, hl0, hy0⟩
  · generalize szC 1048576 ks.length y.size = x at *
    go_wp2
    go_ret
    exact ⟨rfl, HB.out⟩
  generalize szC 1048576 ks.length y.size = x at *
  obtain ⟨Bc0, Bc1, -, -⟩ := row2_of RB.out
  go_wp2_with fail
  refine (SZ2.out _ x (by omega)).mono ?_
  rintro e w2 ⟨rfl, hb⟩
  replace HB := Lib.hid (HB.out.trans (hb.mono HB.out.size))
  replace RA := Lib.hid ((hb.block _ (Array.getElem?_eq_some_iff.1 RA.out).1).trans RA.out)
  replace RB := Lib.hid ((hb.block _ (Array.getElem?_eq_some_iff.1 RB.out).1).trans RB.out)
  clear hb SZ2 Bc0 Bc1
  rcases szC_cases x ks2.length y2.size (by omega) with hneg2 | ⟨hneg2, h02, h12, hl02, hy02⟩
  · generalize szC x ks2.length y2.size = x2 at *
    go_wp2
    go_ret
    exact ⟨rfl, HB.out⟩
  generalize szC x ks2.length y2.size = x2 at *
  have hl : ks.length ≤ 1048576 := by omega
  have hl2 : ks2.length ≤ 1048576 := by omega
  go_wp2_with fail
  go_cut [6, 7] (fun x6 x7 wx => ∃ (bW : Nat) (vs : Value), x6 = .pointer (some ⟨bW, 0, none⟩) ∧ x7 = .bool C ∧ NewC w wx bW vs M Y ∧ Below w.heap.size w wx ∧ wx.heap[w.heap.size]? = some (.cells #[.slice a ks.length cap, .string y] 50) ∧ wx.heap[w.heap.size + 1]? = some (.cells #[.slice a2 ks2.length cap2, .string y2] 50))
  case first =>
    have LA : ∀ w' : World, w'.heap[w.heap.size]? = some (.cells #[.slice a ks.length cap, .string y] 50) ∧ w'.heap[w.heap.size + 1]? = some (.cells #[.slice a2 ks2.length cap2, .string y2] 50) → (loadVar 50 ⟨w.heap.size, 0, none⟩).run Try.prog w' = .ok (.agg #[.slice a ks.length cap, .string y]) w' := fun w' h => lcd_load h.1
    have LB : ∀ w' : World, w'.heap[w.heap.size]? = some (.cells #[.slice a ks.length cap, .string y] 50) ∧ w'.heap[w.heap.size + 1]? = some (.cells #[.slice a2 ks2.length cap2, .string y2] 50) → (loadVar 50 ⟨w.heap.size + 1, 0, none⟩).run Try.prog w' = .ok (.agg #[.slice a2 ks2.length cap2, .string y2]) w' := fun w' h => lcd_load h.2
    refine wp_region_G (fun w' => w'.heap[w.heap.size]? = some (.cells #[.slice a ks.length cap, .string y] 50) ∧ w'.heap[w.heap.size + 1]? = some (.cells #[.slice a2 ks2.length cap2, .string y2] 50)) (by kernel_rfl) ?_
    replace HB := Lib.hid (HB.out.drew)
    replace RA := Lib.hid (show (World.drew _).heap[_]? = _ from RA.out)
    replace RB := Lib.hid (show (World.drew _).heap[_]? = _ from RB.out)
    generalize (w2).drew = wD0 at *
    refine wpG_seg [true, false, true] [1, 8] 8 (by kernel_rfl) (by intro c a d v w h; cases d <;> exact h) (by kernel_rfl) ⟨RA.out, RB.out⟩ ?_
    try simp only [maskRows]
    repeat (first
      | go_big_quiet_skip
      | (go_big_quiet_want
         first
           | (go_big_quiet_op; go_big_quiet_on)
           | (refine q_load 50 _ _ _ rfl rfl LA ?_; simp only [Act.put, List.setIfInBounds_toArray, List.set_cons_zero, List.set_cons_succ]; go_big_quiet_on)
           | (refine q_load 50 _ _ _ rfl rfl LB ?_; simp only [Act.put, List.setIfInBounds_toArray, List.set_cons_zero, List.set_cons_succ]; go_big_quiet_on)
           | (go_big_quiet_op; refine ⟨_, fun _ _ => rfl, ?_⟩; go_big_quiet_on)
           | (go_big_quiet_op; refine ⟨_, fun _ _ _ => rfl, ?_⟩; go_big_quiet_on)))
    refine wpQuiet_nil ?_
    refine List.forall_mem_cons.2 ⟨?_, List.forall_mem_singleton.2 ?_⟩
    · refine segt_run rfl (by rfl) (fun K hK => ?_)
      go_simp
      refine (TC.out _ HB.out hl).mono ?_
      rintro e w1_ ⟨vta, rfl, ho, hb⟩
      dsimp only
      obtain ⟨sata, snta, skta, rfl⟩ := own_shape ho
      have NEtaA := Lib.hid (own_ne_row (b := w.heap.size) ho (Array.getElem?_eq_some_iff.1 RA.out).1)
      have NEtaB := Lib.hid (own_ne_row (b := w.heap.size + 1) ho (Array.getElem?_eq_some_iff.1 RB.out).1)
      have Ota := Lib.hid (own_base ho HB.out.size)
      clear ho
      replace HB := Lib.hid (HB.out.trans (hb.mono HB.out.size))
      replace RA := Lib.hid ((hb.block _ (Array.getElem?_eq_some_iff.1 RA.out).1).trans RA.out)
      replace RB := Lib.hid ((hb.block _ (Array.getElem?_eq_some_iff.1 RB.out).1).trans RB.out)
      replace NEtaA := Lib.hid (NEtaA.out)
      replace NEtaB := Lib.hid (NEtaB.out)
      clear hb
      refine hK _ _ ⟨_, fun _ h => h, ⟨RA.out, RB.out⟩, ?_⟩
      clear hK K
      try simp only [Act.put, List.setIfInBounds_toArray, List.set_cons_zero, List.set_cons_succ]
      refine wpG_seg [] [3, 8] 7 (by kernel_rfl) (by intro c a d v w h; cases d <;> exact h) (by kernel_rfl) ⟨RA.out, RB.out⟩ ?_
      try simp only [maskRows]
      refine wpQuiet_nil ?_
      refine List.forall_mem_cons.2 ⟨?_, List.forall_mem_singleton.2 ?_⟩
      · refine segt_run rfl (by rfl) (fun K hK => ?_)
        go_simp
        refine (TD.out _ HB.out hl2).mono ?_
        rintro e w2_ ⟨vtb, rfl, ho, hb⟩
        dsimp only
        obtain ⟨satb, sntb, sktb, rfl⟩ := own_shape ho
        have NEtbA := Lib.hid (own_ne_row (b := w.heap.size) ho (Array.getElem?_eq_some_iff.1 RA.out).1)
        have NEtbB := Lib.hid (own_ne_row (b := w.heap.size + 1) ho (Array.getElem?_eq_some_iff.1 RB.out).1)
        have Otb := Lib.hid (own_base ho HB.out.size)
        clear ho
        replace HB := Lib.hid (HB.out.trans (hb.mono HB.out.size))
        replace RA := Lib.hid ((hb.block _ (Array.getElem?_eq_some_iff.1 RA.out).1).trans RA.out)
        replace RB := Lib.hid ((hb.block _ (Array.getElem?_eq_some_iff.1 RB.out).1).trans RB.out)
        replace NEtaA := Lib.hid (NEtaA.out)
        replace NEtaB := Lib.hid (NEtaB.out)
        replace Ota := Lib.hid (own_below Ota.out hb)
        replace NEtbA := Lib.hid (NEtbA.out)
        replace NEtbB := Lib.hid (NEtbB.out)
        clear hb
        refine hK _ _ ⟨_, fun _ h => h, ⟨RA.out, RB.out⟩, ?_⟩
        clear hK K
        try simp only [Act.put, List.setIfInBounds_toArray, List.set_cons_zero, List.set_cons_succ]
        refine wpG_seg [] [4, 8] 6 (by kernel_rfl) (by intro c a d v w h; cases d <;> exact h) (by kernel_rfl) ⟨RA.out, RB.out⟩ ?_
        try simp only [maskRows]
        refine wpQuiet_nil ?_
        refine List.forall_mem_cons.2 ⟨?_, List.forall_mem_singleton.2 ?_⟩
        · refine segt_run rfl (by rfl) (fun K hK => ?_)
          go_simp
          refine (SC.out _ _ _ (keysAt_own Ota.out) (keysAt_own Otb.out) hl hl2 (by omega) (by omega)).mono ?_
          rintro e w3_ ⟨vs, rfl, ho, hb⟩
          dsimp only
          obtain ⟨sas, sns, sks, rfl⟩ := own_shape ho
          have NEsA := Lib.hid (own_ne_row (b := w.heap.size) ho (Array.getElem?_eq_some_iff.1 RA.out).1)
          have NEsB := Lib.hid (own_ne_row (b := w.heap.size + 1) ho (Array.getElem?_eq_some_iff.1 RB.out).1)
          have Os := Lib.hid (own_base ho HB.out.size)
          clear ho
          replace HB := Lib.hid (HB.out.trans (hb.mono HB.out.size))
          replace RA := Lib.hid ((hb.block _ (Array.getElem?_eq_some_iff.1 RA.out).1).trans RA.out)
          replace RB := Lib.hid ((hb.block _ (Array.getElem?_eq_some_iff.1 RB.out).1).trans RB.out)
          replace NEtaA := Lib.hid (NEtaA.out)
          replace NEtaB := Lib.hid (NEtaB.out)
          replace Ota := Lib.hid (own_below Ota.out hb)
          replace NEtbA := Lib.hid (NEtbA.out)
          replace NEtbB := Lib.hid (NEtbB.out)
          replace Otb := Lib.hid (own_below Otb.out hb)
          replace NEsA := Lib.hid (NEsA.out)
          replace NEsB := Lib.hid (NEsB.out)
          clear hb
          refine hK _ _ ⟨_, fun _ h => h, ⟨RA.out, RB.out⟩, ?_⟩
          clear hK K
          try simp only [Act.put, List.setIfInBounds_toArray, List.set_cons_zero, List.set_cons_succ]
          refine wpG_seg [false, false, false, false, false, true, true, true] [8] 2 (by kernel_rfl) (by intro c a d v w h; cases d <;> exact h) (by kernel_rfl) ⟨RA.out, RB.out⟩ ?_
          try simp only [maskRows]
          repeat (first
            | go_big_quiet_skip
            | (go_big_quiet_want
               first
                 | (go_big_quiet_op; go_big_quiet_on)
                 | (refine q_load 50 _ _ _ rfl rfl LA ?_; simp only [Act.put, List.setIfInBounds_toArray, List.set_cons_zero, List.set_cons_succ]; go_big_quiet_on)
                 | (refine q_load 50 _ _ _ rfl rfl LB ?_; simp only [Act.put, List.setIfInBounds_toArray, List.set_cons_zero, List.set_cons_succ]; go_big_quiet_on)
                 | (go_big_quiet_op; refine ⟨_, fun _ _ => rfl, ?_⟩; go_big_quiet_on)
                 | (go_big_quiet_op; refine ⟨_, fun _ _ _ => rfl, ?_⟩; go_big_quiet_on)))
          refine wpQuiet_nil ?_
          refine List.forall_mem_singleton.2 ?_
          refine segt_run rfl (by rfl) (fun K hK => ?_)
          go_simp
          have HLW := Lib.hid HB.out.size
          have HNAW := Lib.hid (Array.getElem?_eq_some_iff.1 RA.out).1
          have HNBW := Lib.hid (Array.getElem?_eq_some_iff.1 RB.out).1
          have NEtaW := Lib.hid (own_ne_new Ota.out)
          have NEtbW := Lib.hid (own_ne_new Otb.out)
          have NEsW := Lib.hid (own_ne_new Os.out)
          replace HB := Lib.hid (HB.out.alloc HB.out.size (.cells #[.slice none 0 0, .string ⟨#[]⟩] 26))
          replace RA := Lib.hid ((Below.heap_alloc _ (.cells #[.slice none 0 0, .string ⟨#[]⟩] 26) _ (Array.getElem?_eq_some_iff.1 RA.out).1).trans RA.out)
          replace RB := Lib.hid ((Below.heap_alloc _ (.cells #[.slice none 0 0, .string ⟨#[]⟩] 26) _ (Array.getElem?_eq_some_iff.1 RB.out).1).trans RB.out)
          replace NEtaA := Lib.hid (NEtaA.out)
          replace NEtaB := Lib.hid (NEtaB.out)
          replace Ota := Lib.hid (Ota.out.alloc (.cells #[.slice none 0 0, .string ⟨#[]⟩] 26))
          replace NEtbA := Lib.hid (NEtbA.out)
          replace NEtbB := Lib.hid (NEtbB.out)
          replace Otb := Lib.hid (Otb.out.alloc (.cells #[.slice none 0 0, .string ⟨#[]⟩] 26))
          replace NEsA := Lib.hid (NEsA.out)
          replace NEsB := Lib.hid (NEsB.out)
          replace Os := Lib.hid (Os.out.alloc (.cells #[.slice none 0 0, .string ⟨#[]⟩] 26))
          replace NEtaW := Lib.hid (NEtaW.out)
          replace NEtbW := Lib.hid (NEtbW.out)
          replace NEsW := Lib.hid (NEsW.out)
          have RW := Lib.hid (heap_alloc_new (w3_) (.cells #[.slice none 0 0, .string ⟨#[]⟩] 26))
          generalize World.alloc (w3_) (.cells #[.slice none 0 0, .string ⟨#[]⟩] 26) = w4_ at *
          generalize (w3_).heap.size = bW at *
          refine hK _ _ ⟨_, fun _ h => h, ⟨RA.out, RB.out⟩, ?_⟩
          clear hK K
          try simp only [Act.put, List.setIfInBounds_toArray, List.set_cons_zero, List.set_cons_succ]
          refine wpG_seg [] [9] 1 (by kernel_rfl) (by intro c a d v w h; cases d <;> exact h) (by kernel_rfl) ⟨RA.out, RB.out⟩ ?_
          try simp only [maskRows]
          refine wpQuiet_nil ?_
          refine List.forall_mem_singleton.2 ?_
          obtain ⟨c0, c1, f0, f1⟩ := row2_of RW.out
          have hlt := (Array.getElem?_eq_some_iff.1 RW.out).1
          have RW' := Lib.hid (set2 (.slice sas sns sks) (.string Y) RW.out)
          have RA' := Lib.hid (row_set2 RA.out (Nat.ne_of_lt HNAW.out) (.slice sas sns sks) (.string Y))
          have RB' := Lib.hid (row_set2 RB.out (Nat.ne_of_lt HNBW.out) (.slice sas sns sks) (.string Y))
          have Ota' := Lib.hid (Ota.out.kept (grown2 _ bW (.slice sas sns sks) (.string Y)) (.inr NEtaW.out))
          have Otb' := Lib.hid (Otb.out.kept (grown2 _ bW (.slice sas sns sks) (.string Y)) (.inr NEtbW.out))
          have Os' := Lib.hid (Os.out.kept (grown2 _ bW (.slice sas sns sks) (.string Y)) (.inr NEsW.out))
          have HB' := Lib.hid (below2 HB.out HLW.out (.slice sas sns sks) (.string Y))
          refine segt_run rfl (by rfl) (fun K hK => ?_)
          go_simp
          replace RA := RA'
          replace RB := RB'
          replace RW := RW'
          replace Ota := Ota'
          replace Otb := Otb'
          replace Os := Os'
          replace HB := HB'
          clear RA' RB' RW' Ota' Otb' Os' HB' c0 c1 f0 f1 hlt
          generalize (World.setCell (World.setCell w4_ ⟨bW, 0, none⟩ (.slice sas sns sks)) ⟨bW, 1, none⟩ (.string Y)) = w5_ at *
          refine hK _ _ ⟨_, fun _ h => h, ⟨RA.out, RB.out⟩, ?_⟩
          clear hK K
          try simp only [Act.put, List.setIfInBounds_toArray, List.set_cons_zero, List.set_cons_succ]
          refine wpG_end [false, false, false, false, false, false, false, false, false, false, true] (by kernel_rfl) (by intro c a d v w h; cases d <;> exact h) (by kernel_rfl) ⟨RA.out, RB.out⟩ ?_
          try simp only [maskRows]
          repeat (first
            | go_big_quiet_skip
            | (go_big_quiet_want
               first
                 | (go_big_quiet_op; go_big_quiet_on)
                 | (refine q_load 50 _ _ _ rfl rfl LA ?_; simp only [Act.put, List.setIfInBounds_toArray, List.set_cons_zero, List.set_cons_succ]; go_big_quiet_on)
                 | (refine q_load 50 _ _ _ rfl rfl LB ?_; simp only [Act.put, List.setIfInBounds_toArray, List.set_cons_zero, List.set_cons_succ]; go_big_quiet_on)
                 | (go_big_quiet_op; refine ⟨_, fun _ _ => rfl, ?_⟩; go_big_quiet_on)
                 | (go_big_quiet_op; refine ⟨_, fun _ _ _ => rfl, ?_⟩; go_big_quiet_on)))
          refine wpQuiet_nil ?_
          go_wp2_with fail
          go_meet
          exact ⟨_, _, rfl, rfl, ⟨HLW.out, RW.out, Os.out, NEsW.out⟩, HB.out, RA.out, RB.out⟩
        · refine segt_run rfl (by rfl) (fun K hK => ?_)
          go_simp
          have HLW := Lib.hid HB.out.size
          have HNAW := Lib.hid (Array.getElem?_eq_some_iff.1 RA.out).1
          have HNBW := Lib.hid (Array.getElem?_eq_some_iff.1 RB.out).1
          have NEtaW := Lib.hid (own_ne_new Ota.out)
          have NEtbW := Lib.hid (own_ne_new Otb.out)
          replace HB := Lib.hid (HB.out.alloc HB.out.size (.cells #[.slice none 0 0, .string ⟨#[]⟩] 26))
          replace RA := Lib.hid ((Below.heap_alloc _ (.cells #[.slice none 0 0, .string ⟨#[]⟩] 26) _ (Array.getElem?_eq_some_iff.1 RA.out).1).trans RA.out)
          replace RB := Lib.hid ((Below.heap_alloc _ (.cells #[.slice none 0 0, .string ⟨#[]⟩] 26) _ (Array.getElem?_eq_some_iff.1 RB.out).1).trans RB.out)
          replace NEtaA := Lib.hid (NEtaA.out)
          replace NEtaB := Lib.hid (NEtaB.out)
          replace Ota := Lib.hid (Ota.out.alloc (.cells #[.slice none 0 0, .string ⟨#[]⟩] 26))
          replace NEtbA := Lib.hid (NEtbA.out)
          replace NEtbB := Lib.hid (NEtbB.out)
          replace Otb := Lib.hid (Otb.out.alloc (.cells #[.slice none 0 0, .string ⟨#[]⟩] 26))
          replace NEtaW := Lib.hid (NEtaW.out)
          replace NEtbW := Lib.hid (NEtbW.out)
          have RW := Lib.hid (heap_alloc_new (w2_) (.cells #[.slice none 0 0, .string ⟨#[]⟩] 26))
          generalize World.alloc (w2_) (.cells #[.slice none 0 0, .string ⟨#[]⟩] 26) = w3_ at *
          generalize (w2_).heap.size = bW at *
          refine hK _ _ ⟨_, fun _ h => h, ⟨RA.out, RB.out⟩, ?_⟩
          clear hK K
          try simp only [Act.put, List.setIfInBounds_toArray, List.set_cons_zero, List.set_cons_succ]
          refine wpG_seg [] [4] 5 (by kernel_rfl) (by intro c a d v w h; cases d <;> exact h) (by kernel_rfl) ⟨RA.out, RB.out⟩ ?_
          try simp only [maskRows]
          refine wpQuiet_nil ?_
          refine List.forall_mem_singleton.2 ?_
          refine segt_run rfl (by rfl) (fun K hK => ?_)
          go_simp
          refine (SC.out _ _ _ (keysAt_own Ota.out) (keysAt_own Otb.out) hl hl2 (by omega) (by omega)).mono ?_
          rintro e w4_ ⟨vs, rfl, ho, hb⟩
          dsimp only
          obtain ⟨sas, sns, sks, rfl⟩ := own_shape ho
          have NEsA := Lib.hid (own_ne_row (b := w.heap.size) ho (Array.getElem?_eq_some_iff.1 RA.out).1)
          have NEsB := Lib.hid (own_ne_row (b := w.heap.size + 1) ho (Array.getElem?_eq_some_iff.1 RB.out).1)
          have NEsW := Lib.hid (own_ne_row (b := bW) ho (Array.getElem?_eq_some_iff.1 RW.out).1)
          have Os := Lib.hid (own_base ho HB.out.size)
          clear ho
          replace HB := Lib.hid (HB.out.trans (hb.mono HB.out.size))
          replace RA := Lib.hid ((hb.block _ (Array.getElem?_eq_some_iff.1 RA.out).1).trans RA.out)
          replace RB := Lib.hid ((hb.block _ (Array.getElem?_eq_some_iff.1 RB.out).1).trans RB.out)
          replace NEtaA := Lib.hid (NEtaA.out)
          replace NEtaB := Lib.hid (NEtaB.out)
          replace Ota := Lib.hid (own_below Ota.out hb)
          replace NEtbA := Lib.hid (NEtbA.out)
          replace NEtbB := Lib.hid (NEtbB.out)
          replace Otb := Lib.hid (own_below Otb.out hb)
          replace NEtaW := Lib.hid (NEtaW.out)
          replace NEtbW := Lib.hid (NEtbW.out)
          replace RW := Lib.hid ((hb.block _ (Array.getElem?_eq_some_iff.1 RW.out).1).trans RW.out)
          replace NEsA := Lib.hid (NEsA.out)
          replace NEsB := Lib.hid (NEsB.out)
          replace NEsW := Lib.hid (NEsW.out)
          clear hb
          refine hK _ _ ⟨_, fun _ h => h, ⟨RA.out, RB.out⟩, ?_⟩
          clear hK K
          try simp only [Act.put, List.setIfInBounds_toArray, List.set_cons_zero, List.set_cons_succ]
          refine wpG_seg [false, false, false, false, false, true, true, true] [9] 1 (by kernel_rfl) (by intro c a d v w h; cases d <;> exact h) (by kernel_rfl) ⟨RA.out, RB.out⟩ ?_
          try simp only [maskRows]
          repeat (first
            | go_big_quiet_skip
            | (go_big_quiet_want
               first
                 | (go_big_quiet_op; go_big_quiet_on)
                 | (refine q_load 50 _ _ _ rfl rfl LA ?_; simp only [Act.put, List.setIfInBounds_toArray, List.set_cons_zero, List.set_cons_succ]; go_big_quiet_on)
                 | (refine q_load 50 _ _ _ rfl rfl LB ?_; simp only [Act.put, List.setIfInBounds_toArray, List.set_cons_zero, List.set_cons_succ]; go_big_quiet_on)
                 | (go_big_quiet_op; refine ⟨_, fun _ _ => rfl, ?_⟩; go_big_quiet_on)
                 | (go_big_quiet_op; refine ⟨_, fun _ _ _ => rfl, ?_⟩; go_big_quiet_on)))
          refine wpQuiet_nil ?_
          refine List.forall_mem_singleton.2 ?_
          obtain ⟨c0, c1, f0, f1⟩ := row2_of RW.out
          have hlt := (Array.getElem?_eq_some_iff.1 RW.out).1
          have RW' := Lib.hid (set2 (.slice sas sns sks) (.string Y) RW.out)
          have RA' := Lib.hid (row_set2 RA.out (Nat.ne_of_lt HNAW.out) (.slice sas sns sks) (.string Y))
          have RB' := Lib.hid (row_set2 RB.out (Nat.ne_of_lt HNBW.out) (.slice sas sns sks) (.string Y))
          have Ota' := Lib.hid (Ota.out.kept (grown2 _ bW (.slice sas sns sks) (.string Y)) (.inr NEtaW.out))
          have Otb' := Lib.hid (Otb.out.kept (grown2 _ bW (.slice sas sns sks) (.string Y)) (.inr NEtbW.out))
          have Os' := Lib.hid (Os.out.kept (grown2 _ bW (.slice sas sns sks) (.string Y)) (.inr NEsW.out))
          have HB' := Lib.hid (below2 HB.out HLW.out (.slice sas sns sks) (.string Y))
          refine segt_run rfl (by rfl) (fun K hK => ?_)
          go_simp
          replace RA := RA'
          replace RB := RB'
          replace RW := RW'
          replace Ota := Ota'
          replace Otb := Otb'
          replace Os := Os'
          replace HB := HB'
          clear RA' RB' RW' Ota' Otb' Os' HB' c0 c1 f0 f1 hlt
          generalize (World.setCell (World.setCell w4_ ⟨bW, 0, none⟩ (.slice sas sns sks)) ⟨bW, 1, none⟩ (.string Y)) = w5_ at *
          refine hK _ _ ⟨_, fun _ h => h, ⟨RA.out, RB.out⟩, ?_⟩
          clear hK K
          try simp only [Act.put, List.setIfInBounds_toArray, List.set_cons_zero, List.set_cons_succ]
          refine wpG_end [false, false, false, false, false, false, false, false, false, false, true] (by kernel_rfl) (by intro c a d v w h; cases d <;> exact h) (by kernel_rfl) ⟨RA.out, RB.out⟩ ?_
          try simp only [maskRows]
          repeat (first
            | go_big_quiet_skip
            | (go_big_quiet_want
               first
                 | (go_big_quiet_op; go_big_quiet_on)
                 | (refine q_load 50 _ _ _ rfl rfl LA ?_; simp only [Act.put, List.setIfInBounds_toArray, List.set_cons_zero, List.set_cons_succ]; go_big_quiet_on)
                 | (refine q_load 50 _ _ _ rfl rfl LB ?_; simp only [Act.put, List.setIfInBounds_toArray, List.set_cons_zero, List.set_cons_succ]; go_big_quiet_on)
                 | (go_big_quiet_op; refine ⟨_, fun _ _ => rfl, ?_⟩; go_big_quiet_on)
                 | (go_big_quiet_op; refine ⟨_, fun _ _ _ => rfl, ?_⟩; go_big_quiet_on)))
          refine wpQuiet_nil ?_
          go_wp2_with fail
          go_meet
          exact ⟨_, _, rfl, rfl, ⟨HLW.out, RW.out, Os.out, NEsW.out⟩, HB.out, RA.out, RB.out⟩
      · refine segt_run rfl (by rfl) (fun K hK => ?_)
        go_simp
        have HLW := Lib.hid HB.out.size
        have HNAW := Lib.hid (Array.getElem?_eq_some_iff.1 RA.out).1
        have HNBW := Lib.hid (Array.getElem?_eq_some_iff.1 RB.out).1
        have NEtaW := Lib.hid (own_ne_new Ota.out)
        replace HB := Lib.hid (HB.out.alloc HB.out.size (.cells #[.slice none 0 0, .string ⟨#[]⟩] 26))
        replace RA := Lib.hid ((Below.heap_alloc _ (.cells #[.slice none 0 0, .string ⟨#[]⟩] 26) _ (Array.getElem?_eq_some_iff.1 RA.out).1).trans RA.out)
        replace RB := Lib.hid ((Below.heap_alloc _ (.cells #[.slice none 0 0, .string ⟨#[]⟩] 26) _ (Array.getElem?_eq_some_iff.1 RB.out).1).trans RB.out)
        replace NEtaA := Lib.hid (NEtaA.out)
        replace NEtaB := Lib.hid (NEtaB.out)
        replace Ota := Lib.hid (Ota.out.alloc (.cells #[.slice none 0 0, .string ⟨#[]⟩] 26))
        replace NEtaW := Lib.hid (NEtaW.out)
        have RW := Lib.hid (heap_alloc_new (w1_) (.cells #[.slice none 0 0, .string ⟨#[]⟩] 26))
        generalize World.alloc (w1_) (.cells #[.slice none 0 0, .string ⟨#[]⟩] 26) = w2_ at *
        generalize (w1_).heap.size = bW at *
        refine hK _ _ ⟨_, fun _ h => h, ⟨RA.out, RB.out⟩, ?_⟩
        clear hK K
        try simp only [Act.put, List.setIfInBounds_toArray, List.set_cons_zero, List.set_cons_succ]
        refine wpG_seg [] [3] 6 (by kernel_rfl) (by intro c a d v w h; cases d <;> exact h) (by kernel_rfl) ⟨RA.out, RB.out⟩ ?_
        try simp only [maskRows]
        refine wpQuiet_nil ?_
        refine List.forall_mem_singleton.2 ?_
        refine segt_run rfl (by rfl) (fun K hK => ?_)
        go_simp
        refine (TD.out _ HB.out hl2).mono ?_
        rintro e w3_ ⟨vtb, rfl, ho, hb⟩
        dsimp only
        obtain ⟨satb, sntb, sktb, rfl⟩ := own_shape ho
        have NEtbA := Lib.hid (own_ne_row (b := w.heap.size) ho (Array.getElem?_eq_some_iff.1 RA.out).1)
        have NEtbB := Lib.hid (own_ne_row (b := w.heap.size + 1) ho (Array.getElem?_eq_some_iff.1 RB.out).1)
        have NEtbW := Lib.hid (own_ne_row (b := bW) ho (Array.getElem?_eq_some_iff.1 RW.out).1)
        have Otb := Lib.hid (own_base ho HB.out.size)
        clear ho
        replace HB := Lib.hid (HB.out.trans (hb.mono HB.out.size))
        replace RA := Lib.hid ((hb.block _ (Array.getElem?_eq_some_iff.1 RA.out).1).trans RA.out)
        replace RB := Lib.hid ((hb.block _ (Array.getElem?_eq_some_iff.1 RB.out).1).trans RB.out)
        replace NEtaA := Lib.hid (NEtaA.out)
        replace NEtaB := Lib.hid (NEtaB.out)
        replace Ota := Lib.hid (own_below Ota.out hb)
        replace NEtaW := Lib.hid (NEtaW.out)
        replace RW := Lib.hid ((hb.block _ (Array.getElem?_eq_some_iff.1 RW.out).1).trans RW.out)
        replace NEtbA := Lib.hid (NEtbA.out)
        replace NEtbB := Lib.hid (NEtbB.out)
        replace NEtbW := Lib.hid (NEtbW.out)
        clear hb
        refine hK _ _ ⟨_, fun _ h => h, ⟨RA.out, RB.out⟩, ?_⟩
        clear hK K
        try simp only [Act.put, List.setIfInBounds_toArray, List.set_cons_zero, List.set_cons_succ]
        refine wpG_seg [] [4] 5 (by kernel_rfl) (by intro c a d v w h; cases d <;> exact h) (by kernel_rfl) ⟨RA.out, RB.out⟩ ?_
        try simp only [maskRows]
        refine wpQuiet_nil ?_
        refine List.forall_mem_singleton.2 ?_
        refine segt_run rfl (by rfl) (fun K hK => ?_)
        go_simp
        refine (SC.out _ _ _ (keysAt_own Ota.out) (keysAt_own Otb.out) hl hl2 (by omega) (by omega)).mono ?_
        rintro e w4_ ⟨vs, rfl, ho, hb⟩
        dsimp only
        obtain ⟨sas, sns, sks, rfl⟩ := own_shape ho
        have NEsA := Lib.hid (own_ne_row (b := w.heap.size) ho (Array.getElem?_eq_some_iff.1 RA.out).1)
        have NEsB := Lib.hid (own_ne_row (b := w.heap.size + 1) ho (Array.getElem?_eq_some_iff.1 RB.out).1)
        have NEsW := Lib.hid (own_ne_row (b := bW) ho (Array.getElem?_eq_some_iff.1 RW.out).1)
        have Os := Lib.hid (own_base ho HB.out.size)
        clear ho
        replace HB := Lib.hid (HB.out.trans (hb.mono HB.out.size))
        replace RA := Lib.hid ((hb.block _ (Array.getElem?_eq_some_iff.1 RA.out).1).trans RA.out)
        replace RB := Lib.hid ((hb.block _ (Array.getElem?_eq_some_iff.1 RB.out).1).trans RB.out)
        replace NEtaA := Lib.hid (NEtaA.out)
        replace NEtaB := Lib.hid (NEtaB.out)
        replace Ota := Lib.hid (own_below Ota.out hb)
        replace NEtaW := Lib.hid (NEtaW.out)
        replace RW := Lib.hid ((hb.block _ (Array.getElem?_eq_some_iff.1 RW.out).1).trans RW.out)
        replace NEtbA := Lib.hid (NEtbA.out)
        replace NEtbB := Lib.hid (NEtbB.out)
        replace NEtbW := Lib.hid (NEtbW.out)
        replace Otb := Lib.hid (own_below Otb.out hb)
        replace NEsA := Lib.hid (NEsA.out)
        replace NEsB := Lib.hid (NEsB.out)
        replace NEsW := Lib.hid (NEsW.out)
        clear hb
        refine hK _ _ ⟨_, fun _ h => h, ⟨RA.out, RB.out⟩, ?_⟩
        clear hK K
        try simp only [Act.put, List.setIfInBounds_toArray, List.set_cons_zero, List.set_cons_succ]
        refine wpG_seg [false, false, false, false, false, true, true, true] [9] 1 (by kernel_rfl) (by intro c a d v w h; cases d <;> exact h) (by kernel_rfl) ⟨RA.out, RB.out⟩ ?_
        try simp only [maskRows]
        repeat (first
          | go_big_quiet_skip
          | (go_big_quiet_want
             first
               | (go_big_quiet_op; go_big_quiet_on)
               | (refine q_load 50 _ _ _ rfl rfl LA ?_; simp only [Act.put, List.setIfInBounds_toArray, List.set_cons_zero, List.set_cons_succ]; go_big_quiet_on)
               | (refine q_load 50 _ _ _ rfl rfl LB ?_; simp only [Act.put, List.setIfInBounds_toArray, List.set_cons_zero, List.set_cons_succ]; go_big_quiet_on)
               | (go_big_quiet_op; refine ⟨_, fun _ _ => rfl, ?_⟩; go_big_quiet_on)
               | (go_big_quiet_op; refine ⟨_, fun _ _ _ => rfl, ?_⟩; go_big_quiet_on)))
        refine wpQuiet_nil ?_
        refine List.forall_mem_singleton.2 ?_
        obtain ⟨c0, c1, f0, f1⟩ := row2_of RW.out
        have hlt := (Array.getElem?_eq_some_iff.1 RW.out).1
        have RW' := Lib.hid (set2 (.slice sas sns sks) (.string Y) RW.out)
        have RA' := Lib.hid (row_set2 RA.out (Nat.ne_of_lt HNAW.out) (.slice sas sns sks) (.string Y))
        have RB' := Lib.hid (row_set2 RB.out (Nat.ne_of_lt HNBW.out) (.slice sas sns sks) (.string Y))
        have Ota' := Lib.hid (Ota.out.kept (grown2 _ bW (.slice sas sns sks) (.string Y)) (.inr NEtaW.out))
        have Otb' := Lib.hid (Otb.out.kept (grown2 _ bW (.slice sas sns sks) (.string Y)) (.inr NEtbW.out))
        have Os' := Lib.hid (Os.out.kept (grown2 _ bW (.slice sas sns sks) (.string Y)) (.inr NEsW.out))
        have HB' := Lib.hid (below2 HB.out HLW.out (.slice sas sns sks) (.string Y))
        refine segt_run rfl (by rfl) (fun K hK => ?_)
        go_simp
        replace RA := RA'
        replace RB := RB'
        replace RW := RW'
        replace Ota := Ota'
        replace Otb := Otb'
        replace Os := Os'
        replace HB := HB'
        clear RA' RB' RW' Ota' Otb' Os' HB' c0 c1 f0 f1 hlt
        generalize (World.setCell (World.setCell w4_ ⟨bW, 0, none⟩ (.slice sas sns sks)) ⟨bW, 1, none⟩ (.string Y)) = w5_ at *
        refine hK _ _ ⟨_, fun _ h => h, ⟨RA.out, RB.out⟩, ?_⟩
        clear hK K
        try simp only [Act.put, List.setIfInBounds_toArray, List.set_cons_zero, List.set_cons_succ]
        refine wpG_end [false, false, false, false, false, false, false, false, false, false, true] (by kernel_rfl) (by intro c a d v w h; cases d <;> exact h) (by kernel_rfl) ⟨RA.out, RB.out⟩ ?_
        try simp only [maskRows]
        repeat (first
          | go_big_quiet_skip
          | (go_big_quiet_want
             first
               | (go_big_quiet_op; go_big_quiet_on)
               | (refine q_load 50 _ _ _ rfl rfl LA ?_; simp only [Act.put, List.setIfInBounds_toArray, List.set_cons_zero, List.set_cons_succ]; go_big_quiet_on)
               | (refine q_load 50 _ _ _ rfl rfl LB ?_; simp only [Act.put, List.setIfInBounds_toArray, List.set_cons_zero, List.set_cons_succ]; go_big_quiet_on)
               | (go_big_quiet_op; refine ⟨_, fun _ _ => rfl, ?_⟩; go_big_quiet_on)
               | (go_big_quiet_op; refine ⟨_, fun _ _ _ => rfl, ?_⟩; go_big_quiet_on)))
        refine wpQuiet_nil ?_
        go_wp2_with fail
        go_meet
        exact ⟨_, _, rfl, rfl, ⟨HLW.out, RW.out, Os.out, NEsW.out⟩, HB.out, RA.out, RB.out⟩
    · refine segt_run rfl (by rfl) (fun K hK => ?_)
      go_simp
      have HLW := Lib.hid HB.out.size
      have HNAW := Lib.hid (Array.getElem?_eq_some_iff.1 RA.out).1
      have HNBW := Lib.hid (Array.getElem?_eq_some_iff.1 RB.out).1
      replace HB := Lib.hid (HB.out.alloc HB.out.size (.cells #[.slice none 0 0, .string ⟨#[]⟩] 26))
      replace RA := Lib.hid ((Below.heap_alloc _ (.cells #[.slice none 0 0, .string ⟨#[]⟩] 26) _ (Array.getElem?_eq_some_iff.1 RA.out).1).trans RA.out)
      replace RB := Lib.hid ((Below.heap_alloc _ (.cells #[.slice none 0 0, .string ⟨#[]⟩] 26) _ (Array.getElem?_eq_some_iff.1 RB.out).1).trans RB.out)
      have RW := Lib.hid (heap_alloc_new (wD0) (.cells #[.slice none 0 0, .string ⟨#[]⟩] 26))
      generalize World.alloc (wD0) (.cells #[.slice none 0 0, .string ⟨#[]⟩] 26) = w1_ at *
      generalize (wD0).heap.size = bW at *
      refine hK _ _ ⟨_, fun _ h => h, ⟨RA.out, RB.out⟩, ?_⟩
      clear hK K
      try simp only [Act.put, List.setIfInBounds_toArray, List.set_cons_zero, List.set_cons_succ]
      refine wpG_seg [] [1] 7 (by kernel_rfl) (by intro c a d v w h; cases d <;> exact h) (by kernel_rfl) ⟨RA.out, RB.out⟩ ?_
      try simp only [maskRows]
      refine wpQuiet_nil ?_
      refine List.forall_mem_singleton.2 ?_
      refine segt_run rfl (by rfl) (fun K hK => ?_)
      go_simp
      refine (TC.out _ HB.out hl).mono ?_
      rintro e w2_ ⟨vta, rfl, ho, hb⟩
      dsimp only
      obtain ⟨sata, snta, skta, rfl⟩ := own_shape ho
      have NEtaA := Lib.hid (own_ne_row (b := w.heap.size) ho (Array.getElem?_eq_some_iff.1 RA.out).1)
      have NEtaB := Lib.hid (own_ne_row (b := w.heap.size + 1) ho (Array.getElem?_eq_some_iff.1 RB.out).1)
      have NEtaW := Lib.hid (own_ne_row (b := bW) ho (Array.getElem?_eq_some_iff.1 RW.out).1)
      have Ota := Lib.hid (own_base ho HB.out.size)
      clear ho
      replace HB := Lib.hid (HB.out.trans (hb.mono HB.out.size))
      replace RA := Lib.hid ((hb.block _ (Array.getElem?_eq_some_iff.1 RA.out).1).trans RA.out)
      replace RB := Lib.hid ((hb.block _ (Array.getElem?_eq_some_iff.1 RB.out).1).trans RB.out)
      replace RW := Lib.hid ((hb.block _ (Array.getElem?_eq_some_iff.1 RW.out).1).trans RW.out)
      replace NEtaA := Lib.hid (NEtaA.out)
      replace NEtaB := Lib.hid (NEtaB.out)
      replace NEtaW := Lib.hid (NEtaW.out)
      clear hb
      refine hK _ _ ⟨_, fun _ h => h, ⟨RA.out, RB.out⟩, ?_⟩
      clear hK K
      try simp only [Act.put, List.setIfInBounds_toArray, List.set_cons_zero, List.set_cons_succ]
      refine wpG_seg [] [3] 6 (by kernel_rfl) (by intro c a d v w h; cases d <;> exact h) (by kernel_rfl) ⟨RA.out, RB.out⟩ ?_
      try simp only [maskRows]
      refine wpQuiet_nil ?_
      refine List.forall_mem_singleton.2 ?_
      refine segt_run rfl (by rfl) (fun K hK => ?_)
      go_simp
      refine (TD.out _ HB.out hl2).mono ?_
      rintro e w3_ ⟨vtb, rfl, ho, hb⟩
      dsimp only
      obtain ⟨satb, sntb, sktb, rfl⟩ := own_shape ho
      have NEtbA := Lib.hid (own_ne_row (b := w.heap.size) ho (Array.getElem?_eq_some_iff.1 RA.out).1)
      have NEtbB := Lib.hid (own_ne_row (b := w.heap.size + 1) ho (Array.getElem?_eq_some_iff.1 RB.out).1)
      have NEtbW := Lib.hid (own_ne_row (b := bW) ho (Array.getElem?_eq_some_iff.1 RW.out).1)
      have Otb := Lib.hid (own_base ho HB.out.size)
      clear ho
      replace HB := Lib.hid (HB.out.trans (hb.mono HB.out.size))
      replace RA := Lib.hid ((hb.block _ (Array.getElem?_eq_some_iff.1 RA.out).1).trans RA.out)
      replace RB := Lib.hid ((hb.block _ (Array.getElem?_eq_some_iff.1 RB.out).1).trans RB.out)
      replace RW := Lib.hid ((hb.block _ (Array.getElem?_eq_some_iff.1 RW.out).1).trans RW.out)
      replace NEtaA := Lib.hid (NEtaA.out)
      replace NEtaB := Lib.hid (NEtaB.out)
      replace NEtaW := Lib.hid (NEtaW.out)
      replace Ota := Lib.hid (own_below Ota.out hb)
      replace NEtbA := Lib.hid (NEtbA.out)
      replace NEtbB := Lib.hid (NEtbB.out)
      replace NEtbW := Lib.hid (NEtbW.out)
      clear hb
      refine hK _ _ ⟨_, fun _ h => h, ⟨RA.out, RB.out⟩, ?_⟩
      clear hK K
      try simp only [Act.put, List.setIfInBounds_toArray, List.set_cons_zero, List.set_cons_succ]
      refine wpG_seg [] [4] 5 (by kernel_rfl) (by intro c a d v w h; cases d <;> exact h) (by kernel_rfl) ⟨RA.out, RB.out⟩ ?_
      try simp only [maskRows]
      refine wpQuiet_nil ?_
      refine List.forall_mem_singleton.2 ?_
      refine segt_run rfl (by rfl) (fun K hK => ?_)
      go_simp
      refine (SC.out _ _ _ (keysAt_own Ota.out) (keysAt_own Otb.out) hl hl2 (by omega) (by omega)).mono ?_
      rintro e w4_ ⟨vs, rfl, ho, hb⟩
      dsimp only
      obtain ⟨sas, sns, sks, rfl⟩ := own_shape ho
      have NEsA := Lib.hid (own_ne_row (b := w.heap.size) ho (Array.getElem?_eq_some_iff.1 RA.out).1)
      have NEsB := Lib.hid (own_ne_row (b := w.heap.size + 1) ho (Array.getElem?_eq_some_iff.1 RB.out).1)
      have NEsW := Lib.hid (own_ne_row (b := bW) ho (Array.getElem?_eq_some_iff.1 RW.out).1)
      have Os := Lib.hid (own_base ho HB.out.size)
      clear ho
      replace HB := Lib.hid (HB.out.trans (hb.mono HB.out.size))
      replace RA := Lib.hid ((hb.block _ (Array.getElem?_eq_some_iff.1 RA.out).1).trans RA.out)
      replace RB := Lib.hid ((hb.block _ (Array.getElem?_eq_some_iff.1 RB.out).1).trans RB.out)
      replace RW := Lib.hid ((hb.block _ (Array.getElem?_eq_some_iff.1 RW.out).1).trans RW.out)
      replace NEtaA := Lib.hid (NEtaA.out)
      replace NEtaB := Lib.hid (NEtaB.out)
      replace NEtaW := Lib.hid (NEtaW.out)
      replace Ota := Lib.hid (own_below Ota.out hb)
      replace NEtbA := Lib.hid (NEtbA.out)
      replace NEtbB := Lib.hid (NEtbB.out)
      replace NEtbW := Lib.hid (NEtbW.out)
      replace Otb := Lib.hid (own_below Otb.out hb)
      replace NEsA := Lib.hid (NEsA.out)
      replace NEsB := Lib.hid (NEsB.out)
      replace NEsW := Lib.hid (NEsW.out)
      clear hb
      refine hK _ _ ⟨_, fun _ h => h, ⟨RA.out, RB.out⟩, ?_⟩
      clear hK K
      try simp only [Act.put, List.setIfInBounds_toArray, List.set_cons_zero, List.set_cons_succ]
      refine wpG_seg [false, false, false, false, false, true, true, true] [9] 1 (by kernel_rfl) (by intro c a d v w h; cases d <;> exact h) (by kernel_rfl) ⟨RA.out, RB.out⟩ ?_
      try simp only [maskRows]
      repeat (first
        | go_big_quiet_skip
        | (go_big_quiet_want
           first
             | (go_big_quiet_op; go_big_quiet_on)
             | (refine q_load 50 _ _ _ rfl rfl LA ?_; simp only [Act.put, List.setIfInBounds_toArray, List.set_cons_zero, List.set_cons_succ]; go_big_quiet_on)
             | (refine q_load 50 _ _ _ rfl rfl LB ?_; simp only [Act.put, List.setIfInBounds_toArray, List.set_cons_zero, List.set_cons_succ]; go_big_quiet_on)
             | (go_big_quiet_op; refine ⟨_, fun _ _ => rfl, ?_⟩; go_big_quiet_on)
             | (go_big_quiet_op; refine ⟨_, fun _ _ _ => rfl, ?_⟩; go_big_quiet_on)))
      refine wpQuiet_nil ?_
      refine List.forall_mem_singleton.2 ?_
      obtain ⟨c0, c1, f0, f1⟩ := row2_of RW.out
      have hlt := (Array.getElem?_eq_some_iff.1 RW.out).1
      have RW' := Lib.hid (set2 (.slice sas sns sks) (.string Y) RW.out)
      have RA' := Lib.hid (row_set2 RA.out (Nat.ne_of_lt HNAW.out) (.slice sas sns sks) (.string Y))
      have RB' := Lib.hid (row_set2 RB.out (Nat.ne_of_lt HNBW.out) (.slice sas sns sks) (.string Y))
      have Ota' := Lib.hid (Ota.out.kept (grown2 _ bW (.slice sas sns sks) (.string Y)) (.inr NEtaW.out))
      have Otb' := Lib.hid (Otb.out.kept (grown2 _ bW (.slice sas sns sks) (.string Y)) (.inr NEtbW.out))
      have Os' := Lib.hid (Os.out.kept (grown2 _ bW (.slice sas sns sks) (.string Y)) (.inr NEsW.out))
      have HB' := Lib.hid (below2 HB.out HLW.out (.slice sas sns sks) (.string Y))
      refine segt_run rfl (by rfl) (fun K hK => ?_)
      go_simp
      replace RA := RA'
      replace RB := RB'
      replace RW := RW'
      replace Ota := Ota'
      replace Otb := Otb'
      replace Os := Os'
      replace HB := HB'
      clear RA' RB' RW' Ota' Otb' Os' HB' c0 c1 f0 f1 hlt
      generalize (World.setCell (World.setCell w4_ ⟨bW, 0, none⟩ (.slice sas sns sks)) ⟨bW, 1, none⟩ (.string Y)) = w5_ at *
      refine hK _ _ ⟨_, fun _ h => h, ⟨RA.out, RB.out⟩, ?_⟩
      clear hK K
      try simp only [Act.put, List.setIfInBounds_toArray, List.set_cons_zero, List.set_cons_succ]
      refine wpG_end [false, false, false, false, false, false, false, false, false, false, true] (by kernel_rfl) (by intro c a d v w h; cases d <;> exact h) (by kernel_rfl) ⟨RA.out, RB.out⟩ ?_
      try simp only [maskRows]
      repeat (first
        | go_big_quiet_skip
        | (go_big_quiet_want
           first
             | (go_big_quiet_op; go_big_quiet_on)
             | (refine q_load 50 _ _ _ rfl rfl LA ?_; simp only [Act.put, List.setIfInBounds_toArray, List.set_cons_zero, List.set_cons_succ]; go_big_quiet_on)
             | (refine q_load 50 _ _ _ rfl rfl LB ?_; simp only [Act.put, List.setIfInBounds_toArray, List.set_cons_zero, List.set_cons_succ]; go_big_quiet_on)
             | (go_big_quiet_op; refine ⟨_, fun _ _ => rfl, ?_⟩; go_big_quiet_on)
             | (go_big_quiet_op; refine ⟨_, fun _ _ _ => rfl, ?_⟩; go_big_quiet_on)))
      refine wpQuiet_nil ?_
      go_wp2_with fail
      go_meet
      exact ⟨_, _, rfl, rfl, ⟨HLW.out, RW.out, Os.out, NEsW.out⟩, HB.out, RA.out, RB.out⟩
  case rest =>
    clear HB RA RB
    obtain ⟨bW, vs, rfl, rfl, hN, hB0, hrA, hrB⟩ := hcut
    have HB := Lib.hid hB0
    have RA := Lib.hid hrA
    have RB := Lib.hid hrB
    have RW := Lib.hid hN.row
    have hoo := hN.own
    obtain ⟨sas, sns, sks, rfl⟩ := own_shape hoo
    have Os := Lib.hid hoo
    have NEsW := Lib.hid hN.ne
    clear hoo hN hB0 hrA hrB
    obtain ⟨Ac0, Ac1, -, -⟩ := row2_of RA.out
    go_wp2_with fail
    refine (TC.out _ HB.out hl).mono ?_
    rintro e w1_ ⟨vx, rfl, ho, hb⟩
    obtain ⟨sax, snx, skx, rfl⟩ := own_shape ho
    have NExA := Lib.hid (own_ne_row (b := w.heap.size) ho (Array.getElem?_eq_some_iff.1 RA.out).1)
    have NExB := Lib.hid (own_ne_row (b := w.heap.size + 1) ho (Array.getElem?_eq_some_iff.1 RB.out).1)
    have NExW := Lib.hid (own_ne_row (b := bW) ho (Array.getElem?_eq_some_iff.1 RW.out).1)
    have NEsx := Lib.hid (own_ne Os.out ho)
    have NExs := Lib.hid (own_ne' Os.out ho)
    have Ox := Lib.hid (own_base ho HB.out.size)
    clear ho
    replace HB := Lib.hid (HB.out.trans (hb.mono HB.out.size))
    replace RA := Lib.hid ((hb.block _ (Array.getElem?_eq_some_iff.1 RA.out).1).trans RA.out)
    replace RB := Lib.hid ((hb.block _ (Array.getElem?_eq_some_iff.1 RB.out).1).trans RB.out)
    replace RW := Lib.hid ((hb.block _ (Array.getElem?_eq_some_iff.1 RW.out).1).trans RW.out)
    replace Os := Lib.hid (own_below Os.out hb)
    replace NEsW := Lib.hid (NEsW.out)
    replace NExA := Lib.hid (NExA.out)
    replace NExB := Lib.hid (NExB.out)
    replace NExW := Lib.hid (NExW.out)
    replace NEsx := Lib.hid (NEsx.out)
    replace NExs := Lib.hid (NExs.out)
    clear hb
    clear Ac0 Ac1
    have NEsX := Lib.hid (own_ne_new Os.out)
    have NExX := Lib.hid (own_ne_new Ox.out)
    replace HB := Lib.hid (HB.out.alloc HB.out.size (.cells #[.slice sax snx skx, .string y] 26))
    replace RA := Lib.hid ((Below.heap_alloc _ (.cells #[.slice sax snx skx, .string y] 26) _ (Array.getElem?_eq_some_iff.1 RA.out).1).trans RA.out)
    replace RB := Lib.hid ((Below.heap_alloc _ (.cells #[.slice sax snx skx, .string y] 26) _ (Array.getElem?_eq_some_iff.1 RB.out).1).trans RB.out)
    replace RW := Lib.hid ((Below.heap_alloc _ (.cells #[.slice sax snx skx, .string y] 26) _ (Array.getElem?_eq_some_iff.1 RW.out).1).trans RW.out)
    replace Os := Lib.hid (Os.out.alloc (.cells #[.slice sax snx skx, .string y] 26))
    replace NEsW := Lib.hid (NEsW.out)
    replace NExA := Lib.hid (NExA.out)
    replace NExB := Lib.hid (NExB.out)
    replace NExW := Lib.hid (NExW.out)
    replace NEsx := Lib.hid (NEsx.out)
    replace NExs := Lib.hid (NExs.out)
    replace Ox := Lib.hid (Ox.out.alloc (.cells #[.slice sax snx skx, .string y] 26))
    replace NEsX := Lib.hid (NEsX.out)
    replace NExX := Lib.hid (NExX.out)
    have RX := Lib.hid (heap_alloc_new (w1_) (.cells #[.slice sax snx skx, .string y] 26))
    obtain ⟨Bc0, Bc1, -, -⟩ := row2_of RB.out
    go_wp2_with fail
    generalize World.alloc (w1_) (.cells #[.slice sax snx skx, .string y] 26) = w2_ at *
    generalize (w1_).heap.size = bX at *
    refine (TD.out _ HB.out hl2).mono ?_
    rintro e w3_ ⟨vz, rfl, ho, hb⟩
    obtain ⟨saz, snz, skz, rfl⟩ := own_shape ho
    have NEzA := Lib.hid (own_ne_row (b := w.heap.size) ho (Array.getElem?_eq_some_iff.1 RA.out).1)
    have NEzB := Lib.hid (own_ne_row (b := w.heap.size + 1) ho (Array.getElem?_eq_some_iff.1 RB.out).1)
    have NEzW := Lib.hid (own_ne_row (b := bW) ho (Array.getElem?_eq_some_iff.1 RW.out).1)
    have NEzX := Lib.hid (own_ne_row (b := bX) ho (Array.getElem?_eq_some_iff.1 RX.out).1)
    have NEsz := Lib.hid (own_ne Os.out ho)
    have NEzs := Lib.hid (own_ne' Os.out ho)
    have NExz := Lib.hid (own_ne Ox.out ho)
    have NEzx := Lib.hid (own_ne' Ox.out ho)
    have Oz := Lib.hid (own_base ho HB.out.size)
    clear ho
    replace HB := Lib.hid (HB.out.trans (hb.mono HB.out.size))
    replace RA := Lib.hid ((hb.block _ (Array.getElem?_eq_some_iff.1 RA.out).1).trans RA.out)
    replace RB := Lib.hid ((hb.block _ (Array.getElem?_eq_some_iff.1 RB.out).1).trans RB.out)
    replace RW := Lib.hid ((hb.block _ (Array.getElem?_eq_some_iff.1 RW.out).1).trans RW.out)
    replace Os := Lib.hid (own_below Os.out hb)
    replace NEsW := Lib.hid (NEsW.out)
    replace NExA := Lib.hid (NExA.out)
    replace NExB := Lib.hid (NExB.out)
    replace NExW := Lib.hid (NExW.out)
    replace NEsx := Lib.hid (NEsx.out)
    replace NExs := Lib.hid (NExs.out)
    replace Ox := Lib.hid (own_below Ox.out hb)
    replace NEsX := Lib.hid (NEsX.out)
    replace NExX := Lib.hid (NExX.out)
    replace RX := Lib.hid ((hb.block _ (Array.getElem?_eq_some_iff.1 RX.out).1).trans RX.out)
    replace NEzA := Lib.hid (NEzA.out)
    replace NEzB := Lib.hid (NEzB.out)
    replace NEzW := Lib.hid (NEzW.out)
    replace NEzX := Lib.hid (NEzX.out)
    replace NEsz := Lib.hid (NEsz.out)
    replace NEzs := Lib.hid (NEzs.out)
    replace NExz := Lib.hid (NExz.out)
    replace NEzx := Lib.hid (NEzx.out)
    clear hb
    clear Bc0 Bc1
    have NEsZ := Lib.hid (own_ne_new Os.out)
    have NExZ := Lib.hid (own_ne_new Ox.out)
    have NEzZ := Lib.hid (own_ne_new Oz.out)
    replace HB := Lib.hid (HB.out.alloc HB.out.size (.cells #[.slice saz snz skz, .string y2] 26))
    replace RA := Lib.hid ((Below.heap_alloc _ (.cells #[.slice saz snz skz, .string y2] 26) _ (Array.getElem?_eq_some_iff.1 RA.out).1).trans RA.out)
    replace RB := Lib.hid ((Below.heap_alloc _ (.cells #[.slice saz snz skz, .string y2] 26) _ (Array.getElem?_eq_some_iff.1 RB.out).1).trans RB.out)
    replace RW := Lib.hid ((Below.heap_alloc _ (.cells #[.slice saz snz skz, .string y2] 26) _ (Array.getElem?_eq_some_iff.1 RW.out).1).trans RW.out)
    replace Os := Lib.hid (Os.out.alloc (.cells #[.slice saz snz skz, .string y2] 26))
    replace NEsW := Lib.hid (NEsW.out)
    replace NExA := Lib.hid (NExA.out)
    replace NExB := Lib.hid (NExB.out)
    replace NExW := Lib.hid (NExW.out)
    replace NEsx := Lib.hid (NEsx.out)
    replace NExs := Lib.hid (NExs.out)
    replace Ox := Lib.hid (Ox.out.alloc (.cells #[.slice saz snz skz, .string y2] 26))
    replace NEsX := Lib.hid (NEsX.out)
    replace NExX := Lib.hid (NExX.out)
    replace RX := Lib.hid ((Below.heap_alloc _ (.cells #[.slice saz snz skz, .string y2] 26) _ (Array.getElem?_eq_some_iff.1 RX.out).1).trans RX.out)
    replace NEzA := Lib.hid (NEzA.out)
    replace NEzB := Lib.hid (NEzB.out)
    replace NEzW := Lib.hid (NEzW.out)
    replace NEzX := Lib.hid (NEzX.out)
    replace NEsz := Lib.hid (NEsz.out)
    replace NEzs := Lib.hid (NEzs.out)
    replace NExz := Lib.hid (NExz.out)
    replace NEzx := Lib.hid (NEzx.out)
    replace Oz := Lib.hid (Oz.out.alloc (.cells #[.slice saz snz skz, .string y2] 26))
    replace NEsZ := Lib.hid (NEsZ.out)
    replace NExZ := Lib.hid (NExZ.out)
    replace NEzZ := Lib.hid (NEzZ.out)
    have RZ := Lib.hid (heap_alloc_new (w3_) (.cells #[.slice saz snz skz, .string y2] 26))
    obtain ⟨Xc0, Xc1, -, -⟩ := row2_of RX.out
    obtain ⟨Zc0, Zc1, -, -⟩ := row2_of RZ.out
    go_wp2_with fail
    generalize World.alloc (w3_) (.cells #[.slice saz snz skz, .string y2] 26) = w4_ at *
    generalize (w3_).heap.size = bZ at *
    refine (IC.out _ _ _ (keysAt_own Ox.out) (keysAt_own Oz.out) hl hl2).mono ?_
    rintro e w5_ ⟨vg, rfl, ho, hb⟩
    obtain ⟨sag, sng, skg, rfl⟩ := own_shape ho
    have NEgA := Lib.hid (own_ne_row (b := w.heap.size) ho (Array.getElem?_eq_some_iff.1 RA.out).1)
    have NEgB := Lib.hid (own_ne_row (b := w.heap.size + 1) ho (Array.getElem?_eq_some_iff.1 RB.out).1)
    have NEgW := Lib.hid (own_ne_row (b := bW) ho (Array.getElem?_eq_some_iff.1 RW.out).1)
    have NEgX := Lib.hid (own_ne_row (b := bX) ho (Array.getElem?_eq_some_iff.1 RX.out).1)
    have NEgZ := Lib.hid (own_ne_row (b := bZ) ho (Array.getElem?_eq_some_iff.1 RZ.out).1)
    have NEsg := Lib.hid (own_ne Os.out ho)
    have NEgs := Lib.hid (own_ne' Os.out ho)
    have NExg := Lib.hid (own_ne Ox.out ho)
    have NEgx := Lib.hid (own_ne' Ox.out ho)
    have NEzg := Lib.hid (own_ne Oz.out ho)
    have NEgz := Lib.hid (own_ne' Oz.out ho)
    have Og := Lib.hid (own_base ho HB.out.size)
    clear ho
    replace HB := Lib.hid (HB.out.trans (hb.mono HB.out.size))
    replace RA := Lib.hid ((hb.block _ (Array.getElem?_eq_some_iff.1 RA.out).1).trans RA.out)
    replace RB := Lib.hid ((hb.block _ (Array.getElem?_eq_some_iff.1 RB.out).1).trans RB.out)
    replace RW := Lib.hid ((hb.block _ (Array.getElem?_eq_some_iff.1 RW.out).1).trans RW.out)
    replace Os := Lib.hid (own_below Os.out hb)
    replace NEsW := Lib.hid (NEsW.out)
    replace NExA := Lib.hid (NExA.out)
    replace NExB := Lib.hid (NExB.out)
    replace NExW := Lib.hid (NExW.out)
    replace NEsx := Lib.hid (NEsx.out)
    replace NExs := Lib.hid (NExs.out)
    replace Ox := Lib.hid (own_below Ox.out hb)
    replace NEsX := Lib.hid (NEsX.out)
    replace NExX := Lib.hid (NExX.out)
    replace RX := Lib.hid ((hb.block _ (Array.getElem?_eq_some_iff.1 RX.out).1).trans RX.out)
    replace NEzA := Lib.hid (NEzA.out)
    replace NEzB := Lib.hid (NEzB.out)
    replace NEzW := Lib.hid (NEzW.out)
    replace NEzX := Lib.hid (NEzX.out)
    replace NEsz := Lib.hid (NEsz.out)
    replace NEzs := Lib.hid (NEzs.out)
    replace NExz := Lib.hid (NExz.out)
    replace NEzx := Lib.hid (NEzx.out)
    replace Oz := Lib.hid (own_below Oz.out hb)
    replace NEsZ := Lib.hid (NEsZ.out)
    replace NExZ := Lib.hid (NExZ.out)
    replace NEzZ := Lib.hid (NEzZ.out)
    replace RZ := Lib.hid ((hb.block _ (Array.getElem?_eq_some_iff.1 RZ.out).1).trans RZ.out)
    replace NEgA := Lib.hid (NEgA.out)
    replace NEgB := Lib.hid (NEgB.out)
    replace NEgW := Lib.hid (NEgW.out)
    replace NEgX := Lib.hid (NEgX.out)
    replace NEgZ := Lib.hid (NEgZ.out)
    replace NEsg := Lib.hid (NEsg.out)
    replace NEgs := Lib.hid (NEgs.out)
    replace NExg := Lib.hid (NExg.out)
    replace NEgx := Lib.hid (NEgx.out)
    replace NEzg := Lib.hid (NEzg.out)
    replace NEgz := Lib.hid (NEgz.out)
    clear hb
    clear Xc0 Xc1 Zc0 Zc1
    have NEsG := Lib.hid (own_ne_new Os.out)
    have NExG := Lib.hid (own_ne_new Ox.out)
    have NEzG := Lib.hid (own_ne_new Oz.out)
    have NEgG := Lib.hid (own_ne_new Og.out)
    replace HB := Lib.hid (HB.out.alloc HB.out.size (.cells #[.slice sag sng skg, .string Y] 26))
    replace RA := Lib.hid ((Below.heap_alloc _ (.cells #[.slice sag sng skg, .string Y] 26) _ (Array.getElem?_eq_some_iff.1 RA.out).1).trans RA.out)
    replace RB := Lib.hid ((Below.heap_alloc _ (.cells #[.slice sag sng skg, .string Y] 26) _ (Array.getElem?_eq_some_iff.1 RB.out).1).trans RB.out)
    replace RW := Lib.hid ((Below.heap_alloc _ (.cells #[.slice sag sng skg, .string Y] 26) _ (Array.getElem?_eq_some_iff.1 RW.out).1).trans RW.out)
    replace Os := Lib.hid (Os.out.alloc (.cells #[.slice sag sng skg, .string Y] 26))
    replace NEsW := Lib.hid (NEsW.out)
    replace NExA := Lib.hid (NExA.out)
    replace NExB := Lib.hid (NExB.out)
    replace NExW := Lib.hid (NExW.out)
    replace NEsx := Lib.hid (NEsx.out)
    replace NExs := Lib.hid (NExs.out)
    replace Ox := Lib.hid (Ox.out.alloc (.cells #[.slice sag sng skg, .string Y] 26))
    replace NEsX := Lib.hid (NEsX.out)
    replace NExX := Lib.hid (NExX.out)
    replace RX := Lib.hid ((Below.heap_alloc _ (.cells #[.slice sag sng skg, .string Y] 26) _ (Array.getElem?_eq_some_iff.1 RX.out).1).trans RX.out)
    replace NEzA := Lib.hid (NEzA.out)
    replace NEzB := Lib.hid (NEzB.out)
    replace NEzW := Lib.hid (NEzW.out)
    replace NEzX := Lib.hid (NEzX.out)
    replace NEsz := Lib.hid (NEsz.out)
    replace NEzs := Lib.hid (NEzs.out)
    replace NExz := Lib.hid (NExz.out)
    replace NEzx := Lib.hid (NEzx.out)
    replace Oz := Lib.hid (Oz.out.alloc (.cells #[.slice sag sng skg, .string Y] 26))
    replace NEsZ := Lib.hid (NEsZ.out)
    replace NExZ := Lib.hid (NExZ.out)
    replace NEzZ := Lib.hid (NEzZ.out)
    replace RZ := Lib.hid ((Below.heap_alloc _ (.cells #[.slice sag sng skg, .string Y] 26) _ (Array.getElem?_eq_some_iff.1 RZ.out).1).trans RZ.out)
    replace NEgA := Lib.hid (NEgA.out)
    replace NEgB := Lib.hid (NEgB.out)
    replace NEgW := Lib.hid (NEgW.out)
    replace NEgX := Lib.hid (NEgX.out)
    replace NEgZ := Lib.hid (NEgZ.out)
    replace NEsg := Lib.hid (NEsg.out)
    replace NEgs := Lib.hid (NEgs.out)
    replace NExg := Lib.hid (NExg.out)
    replace NEgx := Lib.hid (NEgx.out)
    replace NEzg := Lib.hid (NEzg.out)
    replace NEgz := Lib.hid (NEgz.out)
    replace Og := Lib.hid (Og.out.alloc (.cells #[.slice sag sng skg, .string Y] 26))
    replace NEsG := Lib.hid (NEsG.out)
    replace NExG := Lib.hid (NExG.out)
    replace NEzG := Lib.hid (NEzG.out)
    replace NEgG := Lib.hid (NEgG.out)
    have RG := Lib.hid (heap_alloc_new (w5_) (.cells #[.slice sag sng skg, .string Y] 26))
    have hcc : (C != C) = false := by simp
    obtain ⟨Gc0, Gc1, -, -⟩ := row2_of RG.out
    obtain ⟨Wc0, Wc1, -, -⟩ := row2_of RW.out
    go_wp2_with fail
    generalize World.alloc (w5_) (.cells #[.slice sag sng skg, .string Y] 26) = w6_ at *
    generalize (w5_).heap.size = bG at *
    refine (eqcode_self _ _ M Y _ (keysAt_own Og.out) (keysAt_own Os.out) (by first | omega | (simp; omega) | simp)).mono ?_
    rintro e w7_ ⟨rfl, hb⟩
    replace HB := Lib.hid (HB.out.trans (hb.mono HB.out.size))
    replace RA := Lib.hid ((hb.block _ (Array.getElem?_eq_some_iff.1 RA.out).1).trans RA.out)
    replace RB := Lib.hid ((hb.block _ (Array.getElem?_eq_some_iff.1 RB.out).1).trans RB.out)
    replace RW := Lib.hid ((hb.block _ (Array.getElem?_eq_some_iff.1 RW.out).1).trans RW.out)
    replace Os := Lib.hid (own_below Os.out hb)
    replace NEsW := Lib.hid (NEsW.out)
    replace NExA := Lib.hid (NExA.out)
    replace NExB := Lib.hid (NExB.out)
    replace NExW := Lib.hid (NExW.out)
    replace NEsx := Lib.hid (NEsx.out)
    replace NExs := Lib.hid (NExs.out)
    replace Ox := Lib.hid (own_below Ox.out hb)
    replace NEsX := Lib.hid (NEsX.out)
    replace NExX := Lib.hid (NExX.out)
    replace RX := Lib.hid ((hb.block _ (Array.getElem?_eq_some_iff.1 RX.out).1).trans RX.out)
    replace NEzA := Lib.hid (NEzA.out)
    replace NEzB := Lib.hid (NEzB.out)
    replace NEzW := Lib.hid (NEzW.out)
    replace NEzX := Lib.hid (NEzX.out)
    replace NEsz := Lib.hid (NEsz.out)
    replace NEzs := Lib.hid (NEzs.out)
    replace NExz := Lib.hid (NExz.out)
    replace NEzx := Lib.hid (NEzx.out)
    replace Oz := Lib.hid (own_below Oz.out hb)
    replace NEsZ := Lib.hid (NEsZ.out)
    replace NExZ := Lib.hid (NExZ.out)
    replace NEzZ := Lib.hid (NEzZ.out)
    replace RZ := Lib.hid ((hb.block _ (Array.getElem?_eq_some_iff.1 RZ.out).1).trans RZ.out)
    replace NEgA := Lib.hid (NEgA.out)
    replace NEgB := Lib.hid (NEgB.out)
    replace NEgW := Lib.hid (NEgW.out)
    replace NEgX := Lib.hid (NEgX.out)
    replace NEgZ := Lib.hid (NEgZ.out)
    replace NEsg := Lib.hid (NEsg.out)
    replace NEgs := Lib.hid (NEgs.out)
    replace NExg := Lib.hid (NExg.out)
    replace NEgx := Lib.hid (NEgx.out)
    replace NEzg := Lib.hid (NEzg.out)
    replace NEgz := Lib.hid (NEgz.out)
    replace Og := Lib.hid (own_below Og.out hb)
    replace NEsG := Lib.hid (NEsG.out)
    replace NExG := Lib.hid (NExG.out)
    replace NEzG := Lib.hid (NEzG.out)
    replace NEgG := Lib.hid (NEgG.out)
    replace RG := Lib.hid ((hb.block _ (Array.getElem?_eq_some_iff.1 RG.out).1).trans RG.out)
    clear hb
    clear Gc0 Gc1 Wc0 Wc1
    go_wp2_with fail
    have LX : ∀ w' : World, w'.heap[bX]? = some (.cells #[.slice sax snx skx, .string y] 26) ∧ w'.heap[w.heap.size]? = some (.cells #[.slice a ks.length cap, .string y] 50) → (loadVar 26 ⟨bX, 0, none⟩).run Try.prog w' = .ok (.agg #[.slice sax snx skx, .string y]) w' := fun w' h => cd_load h.1 (Below.refl _ _)
    have LA : ∀ w' : World, w'.heap[bX]? = some (.cells #[.slice sax snx skx, .string y] 26) ∧ w'.heap[w.heap.size]? = some (.cells #[.slice a ks.length cap, .string y] 50) → (loadVar 50 ⟨w.heap.size, 0, none⟩).run Try.prog w' = .ok (.agg #[.slice a ks.length cap, .string y]) w' := fun w' h => lcd_load h.2
    refine wp_region_G (fun w' => w'.heap[bX]? = some (.cells #[.slice sax snx skx, .string y] 26) ∧ w'.heap[w.heap.size]? = some (.cells #[.slice a ks.length cap, .string y] 50)) (by kernel_rfl) ?_
    replace HB := Lib.hid (HB.out.drew)
    replace RA := Lib.hid (show (World.drew _).heap[_]? = _ from RA.out)
    replace RB := Lib.hid (show (World.drew _).heap[_]? = _ from RB.out)
    replace RW := Lib.hid (show (World.drew _).heap[_]? = _ from RW.out)
    replace Os := Lib.hid (Os.out.drew)
    replace NEsW := Lib.hid (NEsW.out)
    replace NExA := Lib.hid (NExA.out)
    replace NExB := Lib.hid (NExB.out)
    replace NExW := Lib.hid (NExW.out)
    replace NEsx := Lib.hid (NEsx.out)
    replace NExs := Lib.hid (NExs.out)
    replace Ox := Lib.hid (Ox.out.drew)
    replace NEsX := Lib.hid (NEsX.out)
    replace NExX := Lib.hid (NExX.out)
    replace RX := Lib.hid (show (World.drew _).heap[_]? = _ from RX.out)
    replace NEzA := Lib.hid (NEzA.out)
    replace NEzB := Lib.hid (NEzB.out)
    replace NEzW := Lib.hid (NEzW.out)
    replace NEzX := Lib.hid (NEzX.out)
    replace NEsz := Lib.hid (NEsz.out)
    replace NEzs := Lib.hid (NEzs.out)
    replace NExz := Lib.hid (NExz.out)
    replace NEzx := Lib.hid (NEzx.out)
    replace Oz := Lib.hid (Oz.out.drew)
    replace NEsZ := Lib.hid (NEsZ.out)
    replace NExZ := Lib.hid (NExZ.out)
    replace NEzZ := Lib.hid (NEzZ.out)
    replace RZ := Lib.hid (show (World.drew _).heap[_]? = _ from RZ.out)
    replace NEgA := Lib.hid (NEgA.out)
    replace NEgB := Lib.hid (NEgB.out)
    replace NEgW := Lib.hid (NEgW.out)
    replace NEgX := Lib.hid (NEgX.out)
    replace NEgZ := Lib.hid (NEgZ.out)
    replace NEsg := Lib.hid (NEsg.out)
    replace NEgs := Lib.hid (NEgs.out)
    replace NExg := Lib.hid (NExg.out)
    replace NEgx := Lib.hid (NEgx.out)
    replace NEzg := Lib.hid (NEzg.out)
    replace NEgz := Lib.hid (NEgz.out)
    replace Og := Lib.hid (Og.out.drew)
    replace NEsG := Lib.hid (NEsG.out)
    replace NExG := Lib.hid (NExG.out)
    replace NEzG := Lib.hid (NEzG.out)
    replace NEgG := Lib.hid (NEgG.out)
    replace RG := Lib.hid (show (World.drew _).heap[_]? = _ from RG.out)
    generalize (w7_).drew = wD7 at *
    refine wpG_seg [true, true] [2] 2 (by kernel_rfl) (by intro c a d v w h; cases d <;> exact h) (by kernel_rfl) ⟨RX.out, RA.out⟩ ?_
    try simp only [maskRows]
    repeat (first
      | go_big_quiet_skip
      | (go_big_quiet_want
         first
           | (go_big_quiet_op; go_big_quiet_on)
           | (refine q_load 26 _ _ _ rfl rfl LX ?_; simp only [Act.put, List.setIfInBounds_toArray, List.set_cons_zero, List.set_cons_succ]; go_big_quiet_on)
           | (refine q_load 50 _ _ _ rfl rfl LA ?_; simp only [Act.put, List.setIfInBounds_toArray, List.set_cons_zero, List.set_cons_succ]; go_big_quiet_on)
           | (go_big_quiet_op; refine ⟨_, fun _ _ => rfl, ?_⟩; go_big_quiet_on)
           | (go_big_quiet_op; refine ⟨_, fun _ _ _ => rfl, ?_⟩; go_big_quiet_on)))
    refine wpQuiet_nil ?_
    refine List.forall_mem_singleton.2 ?_
    refine segt_run rfl (by rfl) (fun K hK => ?_)
    go_simp
    refine (TC.out _ HB.out hl).mono ?_
    rintro e w8_ ⟨vq, rfl, ho, hb⟩
    dsimp only
    obtain ⟨saq, snq, skq, rfl⟩ := own_shape ho
    have NEqA := Lib.hid (own_ne_row (b := w.heap.size) ho (Array.getElem?_eq_some_iff.1 RA.out).1)
    have NEqB := Lib.hid (own_ne_row (b := w.heap.size + 1) ho (Array.getElem?_eq_some_iff.1 RB.out).1)
    have NEqW := Lib.hid (own_ne_row (b := bW) ho (Array.getElem?_eq_some_iff.1 RW.out).1)
    have NEqX := Lib.hid (own_ne_row (b := bX) ho (Array.getElem?_eq_some_iff.1 RX.out).1)
    have NEqZ := Lib.hid (own_ne_row (b := bZ) ho (Array.getElem?_eq_some_iff.1 RZ.out).1)
    have NEqG := Lib.hid (own_ne_row (b := bG) ho (Array.getElem?_eq_some_iff.1 RG.out).1)
    have NExq := Lib.hid (own_ne Ox.out ho)
    have NEqx := Lib.hid (own_ne' Ox.out ho)
    have NEzq := Lib.hid (own_ne Oz.out ho)
    have NEqz := Lib.hid (own_ne' Oz.out ho)
    have NEgq := Lib.hid (own_ne Og.out ho)
    have NEqg := Lib.hid (own_ne' Og.out ho)
    have Oq := Lib.hid (own_base ho HB.out.size)
    clear ho
    replace HB := Lib.hid (HB.out.trans (hb.mono HB.out.size))
    replace RA := Lib.hid ((hb.block _ (Array.getElem?_eq_some_iff.1 RA.out).1).trans RA.out)
    replace RB := Lib.hid ((hb.block _ (Array.getElem?_eq_some_iff.1 RB.out).1).trans RB.out)
    replace RW := Lib.hid ((hb.block _ (Array.getElem?_eq_some_iff.1 RW.out).1).trans RW.out)
    replace Os := Lib.hid (own_below Os.out hb)
    replace NEsW := Lib.hid (NEsW.out)
    replace NExA := Lib.hid (NExA.out)
    replace NExB := Lib.hid (NExB.out)
    replace NExW := Lib.hid (NExW.out)
    replace NEsx := Lib.hid (NEsx.out)
    replace NExs := Lib.hid (NExs.out)
    replace Ox := Lib.hid (own_below Ox.out hb)
    replace NEsX := Lib.hid (NEsX.out)
    replace NExX := Lib.hid (NExX.out)
    replace RX := Lib.hid ((hb.block _ (Array.getElem?_eq_some_iff.1 RX.out).1).trans RX.out)
    replace NEzA := Lib.hid (NEzA.out)
    replace NEzB := Lib.hid (NEzB.out)
    replace NEzW := Lib.hid (NEzW.out)
    replace NEzX := Lib.hid (NEzX.out)
    replace NEsz := Lib.hid (NEsz.out)
    replace NEzs := Lib.hid (NEzs.out)
    replace NExz := Lib.hid (NExz.out)
    replace NEzx := Lib.hid (NEzx.out)
    replace Oz := Lib.hid (own_below Oz.out hb)
    replace NEsZ := Lib.hid (NEsZ.out)
    replace NExZ := Lib.hid (NExZ.out)
    replace NEzZ := Lib.hid (NEzZ.out)
    replace RZ := Lib.hid ((hb.block _ (Array.getElem?_eq_some_iff.1 RZ.out).1).trans RZ.out)
    replace NEgA := Lib.hid (NEgA.out)
    replace NEgB := Lib.hid (NEgB.out)
    replace NEgW := Lib.hid (NEgW.out)
    replace NEgX := Lib.hid (NEgX.out)
    replace NEgZ := Lib.hid (NEgZ.out)
    replace NEsg := Lib.hid (NEsg.out)
    replace NEgs := Lib.hid (NEgs.out)
    replace NExg := Lib.hid (NExg.out)
    replace NEgx := Lib.hid (NEgx.out)
    replace NEzg := Lib.hid (NEzg.out)
    replace NEgz := Lib.hid (NEgz.out)
    replace Og := Lib.hid (own_below Og.out hb)
    replace NEsG := Lib.hid (NEsG.out)
    replace NExG := Lib.hid (NExG.out)
    replace NEzG := Lib.hid (NEzG.out)
    replace NEgG := Lib.hid (NEgG.out)
    replace RG := Lib.hid ((hb.block _ (Array.getElem?_eq_some_iff.1 RG.out).1).trans RG.out)
    replace NEqA := Lib.hid (NEqA.out)
    replace NEqB := Lib.hid (NEqB.out)
    replace NEqW := Lib.hid (NEqW.out)
    replace NEqX := Lib.hid (NEqX.out)
    replace NEqZ := Lib.hid (NEqZ.out)
    replace NEqG := Lib.hid (NEqG.out)
    replace NExq := Lib.hid (NExq.out)
    replace NEqx := Lib.hid (NEqx.out)
    replace NEzq := Lib.hid (NEzq.out)
    replace NEqz := Lib.hid (NEqz.out)
    replace NEgq := Lib.hid (NEgq.out)
    replace NEqg := Lib.hid (NEqg.out)
    clear hb
    refine hK _ _ ⟨_, fun _ h => h, ⟨RX.out, RA.out⟩, ?_⟩
    clear hK K
    try simp only [Act.put, List.setIfInBounds_toArray, List.set_cons_zero, List.set_cons_succ]
    refine wpG_seg [] [3] 1 (by kernel_rfl) (by intro c a d v w h; cases d <;> exact h) (by kernel_rfl) ⟨RX.out, RA.out⟩ ?_
    try simp only [maskRows]
    refine wpQuiet_nil ?_
    refine List.forall_mem_singleton.2 ?_
    refine segt_run rfl (by rfl) (fun K hK => ?_)
    go_simp
    refine (eqcode_self _ _ ks y _ (keysAt_own Ox.out) (keysAt_own Oq.out) (by omega)).mono ?_
    rintro e w9_ ⟨rfl, hb⟩
    dsimp only
    replace HB := Lib.hid (HB.out.trans (hb.mono HB.out.size))
    replace RA := Lib.hid ((hb.block _ (Array.getElem?_eq_some_iff.1 RA.out).1).trans RA.out)
    replace RB := Lib.hid ((hb.block _ (Array.getElem?_eq_some_iff.1 RB.out).1).trans RB.out)
    replace RW := Lib.hid ((hb.block _ (Array.getElem?_eq_some_iff.1 RW.out).1).trans RW.out)
    replace Os := Lib.hid (own_below Os.out hb)
    replace NEsW := Lib.hid (NEsW.out)
    replace NExA := Lib.hid (NExA.out)
    replace NExB := Lib.hid (NExB.out)
    replace NExW := Lib.hid (NExW.out)
    replace NEsx := Lib.hid (NEsx.out)
    replace NExs := Lib.hid (NExs.out)
    replace Ox := Lib.hid (own_below Ox.out hb)
    replace NEsX := Lib.hid (NEsX.out)
    replace NExX := Lib.hid (NExX.out)
    replace RX := Lib.hid ((hb.block _ (Array.getElem?_eq_some_iff.1 RX.out).1).trans RX.out)
    replace NEzA := Lib.hid (NEzA.out)
    replace NEzB := Lib.hid (NEzB.out)
    replace NEzW := Lib.hid (NEzW.out)
    replace NEzX := Lib.hid (NEzX.out)
    replace NEsz := Lib.hid (NEsz.out)
    replace NEzs := Lib.hid (NEzs.out)
    replace NExz := Lib.hid (NExz.out)
    replace NEzx := Lib.hid (NEzx.out)
    replace Oz := Lib.hid (own_below Oz.out hb)
    replace NEsZ := Lib.hid (NEsZ.out)
    replace NExZ := Lib.hid (NExZ.out)
    replace NEzZ := Lib.hid (NEzZ.out)
    replace RZ := Lib.hid ((hb.block _ (Array.getElem?_eq_some_iff.1 RZ.out).1).trans RZ.out)
    replace NEgA := Lib.hid (NEgA.out)
    replace NEgB := Lib.hid (NEgB.out)
    replace NEgW := Lib.hid (NEgW.out)
    replace NEgX := Lib.hid (NEgX.out)
    replace NEgZ := Lib.hid (NEgZ.out)
    replace NEsg := Lib.hid (NEsg.out)
    replace NEgs := Lib.hid (NEgs.out)
    replace NExg := Lib.hid (NExg.out)
    replace NEgx := Lib.hid (NEgx.out)
    replace NEzg := Lib.hid (NEzg.out)
    replace NEgz := Lib.hid (NEgz.out)
    replace Og := Lib.hid (own_below Og.out hb)
    replace NEsG := Lib.hid (NEsG.out)
    replace NExG := Lib.hid (NExG.out)
    replace NEzG := Lib.hid (NEzG.out)
    replace NEgG := Lib.hid (NEgG.out)
    replace RG := Lib.hid ((hb.block _ (Array.getElem?_eq_some_iff.1 RG.out).1).trans RG.out)
    replace NEqA := Lib.hid (NEqA.out)
    replace NEqB := Lib.hid (NEqB.out)
    replace NEqW := Lib.hid (NEqW.out)
    replace NEqX := Lib.hid (NEqX.out)
    replace NEqZ := Lib.hid (NEqZ.out)
    replace NEqG := Lib.hid (NEqG.out)
    replace NExq := Lib.hid (NExq.out)
    replace NEqx := Lib.hid (NEqx.out)
    replace NEzq := Lib.hid (NEzq.out)
    replace NEqz := Lib.hid (NEqz.out)
    replace NEgq := Lib.hid (NEgq.out)
    replace NEqg := Lib.hid (NEqg.out)
    replace Oq := Lib.hid (own_below Oq.out hb)
    clear hb
    refine hK _ _ ⟨_, fun _ h => h, ⟨RX.out, RA.out⟩, ?_⟩
    clear hK K
    try simp only [Act.put, List.setIfInBounds_toArray, List.set_cons_zero, List.set_cons_succ]
    refine wpG_end [false, false, false, false, true] (by kernel_rfl) (by intro c a d v w h; cases d <;> exact h) (by kernel_rfl) ⟨RX.out, RA.out⟩ ?_
    try simp only [maskRows]
    repeat (first
      | go_big_quiet_skip
      | (go_big_quiet_want
         first
           | (go_big_quiet_op; go_big_quiet_on)
           | (refine q_load 26 _ _ _ rfl rfl LX ?_; simp only [Act.put, List.setIfInBounds_toArray, List.set_cons_zero, List.set_cons_succ]; go_big_quiet_on)
           | (refine q_load 50 _ _ _ rfl rfl LA ?_; simp only [Act.put, List.setIfInBounds_toArray, List.set_cons_zero, List.set_cons_succ]; go_big_quiet_on)
           | (go_big_quiet_op; refine ⟨_, fun _ _ => rfl, ?_⟩; go_big_quiet_on)
           | (go_big_quiet_op; refine ⟨_, fun _ _ _ => rfl, ?_⟩; go_big_quiet_on)))
    refine wpQuiet_nil ?_
    clear LX LA
    clear Oq NEqA NEqB NEqW NEqX NEqZ NEqG NExq NEqx NEzq NEqz NEgq NEqg
    go_wp2_with fail
    have LX : ∀ w' : World, w'.heap[bZ]? = some (.cells #[.slice saz snz skz, .string y2] 26) ∧ w'.heap[w.heap.size + 1]? = some (.cells #[.slice a2 ks2.length cap2, .string y2] 50) → (loadVar 26 ⟨bZ, 0, none⟩).run Try.prog w' = .ok (.agg #[.slice saz snz skz, .string y2]) w' := fun w' h => cd_load h.1 (Below.refl _ _)
    have LA : ∀ w' : World, w'.heap[bZ]? = some (.cells #[.slice saz snz skz, .string y2] 26) ∧ w'.heap[w.heap.size + 1]? = some (.cells #[.slice a2 ks2.length cap2, .string y2] 50) → (loadVar 50 ⟨w.heap.size + 1, 0, none⟩).run Try.prog w' = .ok (.agg #[.slice a2 ks2.length cap2, .string y2]) w' := fun w' h => lcd_load h.2
    refine wp_region_G (fun w' => w'.heap[bZ]? = some (.cells #[.slice saz snz skz, .string y2] 26) ∧ w'.heap[w.heap.size + 1]? = some (.cells #[.slice a2 ks2.length cap2, .string y2] 50)) (by kernel_rfl) ?_
    replace HB := Lib.hid (HB.out.drew)
    replace RA := Lib.hid (show (World.drew _).heap[_]? = _ from RA.out)
    replace RB := Lib.hid (show (World.drew _).heap[_]? = _ from RB.out)
    replace RW := Lib.hid (show (World.drew _).heap[_]? = _ from RW.out)
    replace Os := Lib.hid (Os.out.drew)
    replace NEsW := Lib.hid (NEsW.out)
    replace NExA := Lib.hid (NExA.out)
    replace NExB := Lib.hid (NExB.out)
    replace NExW := Lib.hid (NExW.out)
    replace NEsx := Lib.hid (NEsx.out)
    replace NExs := Lib.hid (NExs.out)
    replace Ox := Lib.hid (Ox.out.drew)
    replace NEsX := Lib.hid (NEsX.out)
    replace NExX := Lib.hid (NExX.out)
    replace RX := Lib.hid (show (World.drew _).heap[_]? = _ from RX.out)
    replace NEzA := Lib.hid (NEzA.out)
    replace NEzB := Lib.hid (NEzB.out)
    replace NEzW := Lib.hid (NEzW.out)
    replace NEzX := Lib.hid (NEzX.out)
    replace NEsz := Lib.hid (NEsz.out)
    replace NEzs := Lib.hid (NEzs.out)
    replace NExz := Lib.hid (NExz.out)
    replace NEzx := Lib.hid (NEzx.out)
    replace Oz := Lib.hid (Oz.out.drew)
    replace NEsZ := Lib.hid (NEsZ.out)
    replace NExZ := Lib.hid (NExZ.out)
    replace NEzZ := Lib.hid (NEzZ.out)
    replace RZ := Lib.hid (show (World.drew _).heap[_]? = _ from RZ.out)
    replace NEgA := Lib.hid (NEgA.out)
    replace NEgB := Lib.hid (NEgB.out)
    replace NEgW := Lib.hid (NEgW.out)
    replace NEgX := Lib.hid (NEgX.out)
    replace NEgZ := Lib.hid (NEgZ.out)
    replace NEsg := Lib.hid (NEsg.out)
    replace NEgs := Lib.hid (NEgs.out)
    replace NExg := Lib.hid (NExg.out)
    replace NEgx := Lib.hid (NEgx.out)
    replace NEzg := Lib.hid (NEzg.out)
    replace NEgz := Lib.hid (NEgz.out)
    replace Og := Lib.hid (Og.out.drew)
    replace NEsG := Lib.hid (NEsG.out)
    replace NExG := Lib.hid (NExG.out)
    replace NEzG := Lib.hid (NEzG.out)
    replace NEgG := Lib.hid (NEgG.out)
    replace RG := Lib.hid (show (World.drew _).heap[_]? = _ from RG.out)
    generalize (w9_).drew = wD9 at *
    refine wpG_seg [true, true] [2] 2 (by kernel_rfl) (by intro c a d v w h; cases d <;> exact h) (by kernel_rfl) ⟨RZ.out, RB.out⟩ ?_
    try simp only [maskRows]
    repeat (first
      | go_big_quiet_skip
      | (go_big_quiet_want
         first
           | (go_big_quiet_op; go_big_quiet_on)
           | (refine q_load 26 _ _ _ rfl rfl LX ?_; simp only [Act.put, List.setIfInBounds_toArray, List.set_cons_zero, List.set_cons_succ]; go_big_quiet_on)
           | (refine q_load 50 _ _ _ rfl rfl LA ?_; simp only [Act.put, List.setIfInBounds_toArray, List.set_cons_zero, List.set_cons_succ]; go_big_quiet_on)
           | (go_big_quiet_op; refine ⟨_, fun _ _ => rfl, ?_⟩; go_big_quiet_on)
           | (go_big_quiet_op; refine ⟨_, fun _ _ _ => rfl, ?_⟩; go_big_quiet_on)))
    refine wpQuiet_nil ?_
    refine List.forall_mem_singleton.2 ?_
    refine segt_run rfl (by rfl) (fun K hK => ?_)
    go_simp
    refine (TD.out _ HB.out hl2).mono ?_
    rintro e w10_ ⟨vr, rfl, ho, hb⟩
    dsimp only
    obtain ⟨sar, snr, skr, rfl⟩ := own_shape ho
    have NErA := Lib.hid (own_ne_row (b := w.heap.size) ho (Array.getElem?_eq_some_iff.1 RA.out).1)
    have NErB := Lib.hid (own_ne_row (b := w.heap.size + 1) ho (Array.getElem?_eq_some_iff.1 RB.out).1)
    have NErW := Lib.hid (own_ne_row (b := bW) ho (Array.getElem?_eq_some_iff.1 RW.out).1)
    have NErX := Lib.hid (own_ne_row (b := bX) ho (Array.getElem?_eq_some_iff.1 RX.out).1)
    have NErZ := Lib.hid (own_ne_row (b := bZ) ho (Array.getElem?_eq_some_iff.1 RZ.out).1)
    have NErG := Lib.hid (own_ne_row (b := bG) ho (Array.getElem?_eq_some_iff.1 RG.out).1)
    have NExr := Lib.hid (own_ne Ox.out ho)
    have NErx := Lib.hid (own_ne' Ox.out ho)
    have NEzr := Lib.hid (own_ne Oz.out ho)
    have NErz := Lib.hid (own_ne' Oz.out ho)
    have NEgr := Lib.hid (own_ne Og.out ho)
    have NErg := Lib.hid (own_ne' Og.out ho)
    have Or := Lib.hid (own_base ho HB.out.size)
    clear ho
    replace HB := Lib.hid (HB.out.trans (hb.mono HB.out.size))
    replace RA := Lib.hid ((hb.block _ (Array.getElem?_eq_some_iff.1 RA.out).1).trans RA.out)
    replace RB := Lib.hid ((hb.block _ (Array.getElem?_eq_some_iff.1 RB.out).1).trans RB.out)
    replace RW := Lib.hid ((hb.block _ (Array.getElem?_eq_some_iff.1 RW.out).1).trans RW.out)
    replace Os := Lib.hid (own_below Os.out hb)
    replace NEsW := Lib.hid (NEsW.out)
    replace NExA := Lib.hid (NExA.out)
    replace NExB := Lib.hid (NExB.out)
    replace NExW := Lib.hid (NExW.out)
    replace NEsx := Lib.hid (NEsx.out)
    replace NExs := Lib.hid (NExs.out)
    replace Ox := Lib.hid (own_below Ox.out hb)
    replace NEsX := Lib.hid (NEsX.out)
    replace NExX := Lib.hid (NExX.out)
    replace RX := Lib.hid ((hb.block _ (Array.getElem?_eq_some_iff.1 RX.out).1).trans RX.out)
    replace NEzA := Lib.hid (NEzA.out)
    replace NEzB := Lib.hid (NEzB.out)
    replace NEzW := Lib.hid (NEzW.out)
    replace NEzX := Lib.hid (NEzX.out)
    replace NEsz := Lib.hid (NEsz.out)
    replace NEzs := Lib.hid (NEzs.out)
    replace NExz := Lib.hid (NExz.out)
    replace NEzx := Lib.hid (NEzx.out)
    replace Oz := Lib.hid (own_below Oz.out hb)
    replace NEsZ := Lib.hid (NEsZ.out)
    replace NExZ := Lib.hid (NExZ.out)
    replace NEzZ := Lib.hid (NEzZ.out)
    replace RZ := Lib.hid ((hb.block _ (Array.getElem?_eq_some_iff.1 RZ.out).1).trans RZ.out)
    replace NEgA := Lib.hid (NEgA.out)
    replace NEgB := Lib.hid (NEgB.out)
    replace NEgW := Lib.hid (NEgW.out)
    replace NEgX := Lib.hid (NEgX.out)
    replace NEgZ := Lib.hid (NEgZ.out)
    replace NEsg := Lib.hid (NEsg.out)
    replace NEgs := Lib.hid (NEgs.out)
    replace NExg := Lib.hid (NExg.out)
    replace NEgx := Lib.hid (NEgx.out)
    replace NEzg := Lib.hid (NEzg.out)
    replace NEgz := Lib.hid (NEgz.out)
    replace Og := Lib.hid (own_below Og.out hb)
    replace NEsG := Lib.hid (NEsG.out)
    replace NExG := Lib.hid (NExG.out)
    replace NEzG := Lib.hid (NEzG.out)
    replace NEgG := Lib.hid (NEgG.out)
    replace RG := Lib.hid ((hb.block _ (Array.getElem?_eq_some_iff.1 RG.out).1).trans RG.out)
    replace NErA := Lib.hid (NErA.out)
    replace NErB := Lib.hid (NErB.out)
    replace NErW := Lib.hid (NErW.out)
    replace NErX := Lib.hid (NErX.out)
    replace NErZ := Lib.hid (NErZ.out)
    replace NErG := Lib.hid (NErG.out)
    replace NExr := Lib.hid (NExr.out)
    replace NErx := Lib.hid (NErx.out)
    replace NEzr := Lib.hid (NEzr.out)
    replace NErz := Lib.hid (NErz.out)
    replace NEgr := Lib.hid (NEgr.out)
    replace NErg := Lib.hid (NErg.out)
    clear hb
    refine hK _ _ ⟨_, fun _ h => h, ⟨RZ.out, RB.out⟩, ?_⟩
    clear hK K
    try simp only [Act.put, List.setIfInBounds_toArray, List.set_cons_zero, List.set_cons_succ]
    refine wpG_seg [] [3] 1 (by kernel_rfl) (by intro c a d v w h; cases d <;> exact h) (by kernel_rfl) ⟨RZ.out, RB.out⟩ ?_
    try simp only [maskRows]
    refine wpQuiet_nil ?_
    refine List.forall_mem_singleton.2 ?_
    refine segt_run rfl (by rfl) (fun K hK => ?_)
    go_simp
    refine (eqcode_self _ _ ks2 y2 _ (keysAt_own Oz.out) (keysAt_own Or.out) (by omega)).mono ?_
    rintro e w11_ ⟨rfl, hb⟩
    dsimp only
    replace HB := Lib.hid (HB.out.trans (hb.mono HB.out.size))
    replace RA := Lib.hid ((hb.block _ (Array.getElem?_eq_some_iff.1 RA.out).1).trans RA.out)
    replace RB := Lib.hid ((hb.block _ (Array.getElem?_eq_some_iff.1 RB.out).1).trans RB.out)
    replace RW := Lib.hid ((hb.block _ (Array.getElem?_eq_some_iff.1 RW.out).1).trans RW.out)
    replace Os := Lib.hid (own_below Os.out hb)
    replace NEsW := Lib.hid (NEsW.out)
    replace NExA := Lib.hid (NExA.out)
    replace NExB := Lib.hid (NExB.out)
    replace NExW := Lib.hid (NExW.out)
    replace NEsx := Lib.hid (NEsx.out)
    replace NExs := Lib.hid (NExs.out)
    replace Ox := Lib.hid (own_below Ox.out hb)
    replace NEsX := Lib.hid (NEsX.out)
    replace NExX := Lib.hid (NExX.out)
    replace RX := Lib.hid ((hb.block _ (Array.getElem?_eq_some_iff.1 RX.out).1).trans RX.out)
    replace NEzA := Lib.hid (NEzA.out)
    replace NEzB := Lib.hid (NEzB.out)
    replace NEzW := Lib.hid (NEzW.out)
    replace NEzX := Lib.hid (NEzX.out)
    replace NEsz := Lib.hid (NEsz.out)
    replace NEzs := Lib.hid (NEzs.out)
    replace NExz := Lib.hid (NExz.out)
    replace NEzx := Lib.hid (NEzx.out)
    replace Oz := Lib.hid (own_below Oz.out hb)
    replace NEsZ := Lib.hid (NEsZ.out)
    replace NExZ := Lib.hid (NExZ.out)
    replace NEzZ := Lib.hid (NEzZ.out)
    replace RZ := Lib.hid ((hb.block _ (Array.getElem?_eq_some_iff.1 RZ.out).1).trans RZ.out)
    replace NEgA := Lib.hid (NEgA.out)
    replace NEgB := Lib.hid (NEgB.out)
    replace NEgW := Lib.hid (NEgW.out)
    replace NEgX := Lib.hid (NEgX.out)
    replace NEgZ := Lib.hid (NEgZ.out)
    replace NEsg := Lib.hid (NEsg.out)
    replace NEgs := Lib.hid (NEgs.out)
    replace NExg := Lib.hid (NExg.out)
    replace NEgx := Lib.hid (NEgx.out)
    replace NEzg := Lib.hid (NEzg.out)
    replace NEgz := Lib.hid (NEgz.out)
    replace Og := Lib.hid (own_below Og.out hb)
    replace NEsG := Lib.hid (NEsG.out)
    replace NExG := Lib.hid (NExG.out)
    replace NEzG := Lib.hid (NEzG.out)
    replace NEgG := Lib.hid (NEgG.out)
    replace RG := Lib.hid ((hb.block _ (Array.getElem?_eq_some_iff.1 RG.out).1).trans RG.out)
    replace NErA := Lib.hid (NErA.out)
    replace NErB := Lib.hid (NErB.out)
    replace NErW := Lib.hid (NErW.out)
    replace NErX := Lib.hid (NErX.out)
    replace NErZ := Lib.hid (NErZ.out)
    replace NErG := Lib.hid (NErG.out)
    replace NExr := Lib.hid (NExr.out)
    replace NErx := Lib.hid (NErx.out)
    replace NEzr := Lib.hid (NEzr.out)
    replace NErz := Lib.hid (NErz.out)
    replace NEgr := Lib.hid (NEgr.out)
    replace NErg := Lib.hid (NErg.out)
    replace Or := Lib.hid (own_below Or.out hb)
    clear hb
    refine hK _ _ ⟨_, fun _ h => h, ⟨RZ.out, RB.out⟩, ?_⟩
    clear hK K
    try simp only [Act.put, List.setIfInBounds_toArray, List.set_cons_zero, List.set_cons_succ]
    refine wpG_end [false, false, false, false, true] (by kernel_rfl) (by intro c a d v w h; cases d <;> exact h) (by kernel_rfl) ⟨RZ.out, RB.out⟩ ?_
    try simp only [maskRows]
    repeat (first
      | go_big_quiet_skip
      | (go_big_quiet_want
         first
           | (go_big_quiet_op; go_big_quiet_on)
           | (refine q_load 26 _ _ _ rfl rfl LX ?_; simp only [Act.put, List.setIfInBounds_toArray, List.set_cons_zero, List.set_cons_succ]; go_big_quiet_on)
           | (refine q_load 50 _ _ _ rfl rfl LA ?_; simp only [Act.put, List.setIfInBounds_toArray, List.set_cons_zero, List.set_cons_succ]; go_big_quiet_on)
           | (go_big_quiet_op; refine ⟨_, fun _ _ => rfl, ?_⟩; go_big_quiet_on)
           | (go_big_quiet_op; refine ⟨_, fun _ _ _ => rfl, ?_⟩; go_big_quiet_on)))
    refine wpQuiet_nil ?_
    clear LX LA
    clear Or NErA NErB NErW NErX NErZ NErG NExr NErx NEzr NErz NEgr NErg
    obtain ⟨Xc0, Xc1, -, -⟩ := row2_of RX.out
    go_wp2_with fail
    refine (markcode_any _ _ ks.length _ y 1 _ Ox.out (by omega) (by omega) HB.out.size).mono ?_
    rintro e w12_ ⟨rfl, hom, hgr⟩
    replace HB := Lib.hid (HB.out.grown hgr HB.out.size (fun g e => (Ox.out.lt g e).1))
    replace Os := Lib.hid (Os.out.kept hgr NEsx.out)
    replace Oz := Lib.hid (Oz.out.kept hgr NEzx.out)
    replace Og := Lib.hid (Og.out.kept hgr NEgx.out)
    replace RA := Lib.hid ((hgr.block _ (Array.getElem?_eq_some_iff.1 RA.out).1 (fun e => NExA.out e.symm)).trans RA.out)
    replace RB := Lib.hid ((hgr.block _ (Array.getElem?_eq_some_iff.1 RB.out).1 (fun e => NExB.out e.symm)).trans RB.out)
    replace RW := Lib.hid ((hgr.block _ (Array.getElem?_eq_some_iff.1 RW.out).1 (fun e => NExW.out e.symm)).trans RW.out)
    replace RX := Lib.hid ((hgr.block _ (Array.getElem?_eq_some_iff.1 RX.out).1 (fun e => NExX.out e.symm)).trans RX.out)
    replace RZ := Lib.hid ((hgr.block _ (Array.getElem?_eq_some_iff.1 RZ.out).1 (fun e => NExZ.out e.symm)).trans RZ.out)
    replace RG := Lib.hid ((hgr.block _ (Array.getElem?_eq_some_iff.1 RG.out).1 (fun e => NExG.out e.symm)).trans RG.out)
    replace Ox := Lib.hid hom
    clear hom hgr
    clear Xc0 Xc1
    obtain ⟨Zc0, Zc1, -, -⟩ := row2_of RZ.out
    go_wp2_with fail
    refine (markcode_any _ _ ks2.length _ y2 (1 + 2 * (ks.length : Int)) _ Oz.out (by omega) (by omega) HB.out.size).mono ?_
    rintro e w13_ ⟨rfl, hom, hgr⟩
    replace HB := Lib.hid (HB.out.grown hgr HB.out.size (fun g e => (Oz.out.lt g e).1))
    replace Os := Lib.hid (Os.out.kept hgr NEsz.out)
    replace Ox := Lib.hid (Ox.out.kept hgr NExz.out)
    replace Og := Lib.hid (Og.out.kept hgr NEgz.out)
    replace RA := Lib.hid ((hgr.block _ (Array.getElem?_eq_some_iff.1 RA.out).1 (fun e => NEzA.out e.symm)).trans RA.out)
    replace RB := Lib.hid ((hgr.block _ (Array.getElem?_eq_some_iff.1 RB.out).1 (fun e => NEzB.out e.symm)).trans RB.out)
    replace RW := Lib.hid ((hgr.block _ (Array.getElem?_eq_some_iff.1 RW.out).1 (fun e => NEzW.out e.symm)).trans RW.out)
    replace RX := Lib.hid ((hgr.block _ (Array.getElem?_eq_some_iff.1 RX.out).1 (fun e => NEzX.out e.symm)).trans RX.out)
    replace RZ := Lib.hid ((hgr.block _ (Array.getElem?_eq_some_iff.1 RZ.out).1 (fun e => NEzZ.out e.symm)).trans RZ.out)
    replace RG := Lib.hid ((hgr.block _ (Array.getElem?_eq_some_iff.1 RG.out).1 (fun e => NEzG.out e.symm)).trans RG.out)
    replace Oz := Lib.hid hom
    clear hom hgr
    clear Zc0 Zc1
    have q3 : ¬ (1 : Int) + 2 * (ks.length : Int) + 2 * (ks2.length : Int) < 0 := by omega
    obtain ⟨Gc0, Gc1, -, -⟩ := row2_of RG.out
    obtain ⟨Wc0, Wc1, -, -⟩ := row2_of RW.out
    go_wp2_with fail
    refine (eqcode_self _ _ M Y _ (keysAt_own Og.out) (keysAt_own Os.out) (by first | omega | (simp; omega) | simp)).mono ?_
    rintro e w14_ ⟨rfl, hb⟩
    replace HB := Lib.hid (HB.out.trans (hb.mono HB.out.size))
    replace RA := Lib.hid ((hb.block _ (Array.getElem?_eq_some_iff.1 RA.out).1).trans RA.out)
    replace RB := Lib.hid ((hb.block _ (Array.getElem?_eq_some_iff.1 RB.out).1).trans RB.out)
    replace RW := Lib.hid ((hb.block _ (Array.getElem?_eq_some_iff.1 RW.out).1).trans RW.out)
    replace Os := Lib.hid (own_below Os.out hb)
    replace NEsW := Lib.hid (NEsW.out)
    replace NExA := Lib.hid (NExA.out)
    replace NExB := Lib.hid (NExB.out)
    replace NExW := Lib.hid (NExW.out)
    replace NEsx := Lib.hid (NEsx.out)
    replace NExs := Lib.hid (NExs.out)
    replace Ox := Lib.hid (own_below Ox.out hb)
    replace NEsX := Lib.hid (NEsX.out)
    replace NExX := Lib.hid (NExX.out)
    replace RX := Lib.hid ((hb.block _ (Array.getElem?_eq_some_iff.1 RX.out).1).trans RX.out)
    replace NEzA := Lib.hid (NEzA.out)
    replace NEzB := Lib.hid (NEzB.out)
    replace NEzW := Lib.hid (NEzW.out)
    replace NEzX := Lib.hid (NEzX.out)
    replace NEsz := Lib.hid (NEsz.out)
    replace NEzs := Lib.hid (NEzs.out)
    replace NExz := Lib.hid (NExz.out)
    replace NEzx := Lib.hid (NEzx.out)
    replace Oz := Lib.hid (own_below Oz.out hb)
    replace NEsZ := Lib.hid (NEsZ.out)
    replace NExZ := Lib.hid (NExZ.out)
    replace NEzZ := Lib.hid (NEzZ.out)
    replace RZ := Lib.hid ((hb.block _ (Array.getElem?_eq_some_iff.1 RZ.out).1).trans RZ.out)
    replace NEgA := Lib.hid (NEgA.out)
    replace NEgB := Lib.hid (NEgB.out)
    replace NEgW := Lib.hid (NEgW.out)
    replace NEgX := Lib.hid (NEgX.out)
    replace NEgZ := Lib.hid (NEgZ.out)
    replace NEsg := Lib.hid (NEsg.out)
    replace NEgs := Lib.hid (NEgs.out)
    replace NExg := Lib.hid (NExg.out)
    replace NEgx := Lib.hid (NEgx.out)
    replace NEzg := Lib.hid (NEzg.out)
    replace NEgz := Lib.hid (NEgz.out)
    replace Og := Lib.hid (own_below Og.out hb)
    replace NEsG := Lib.hid (NEsG.out)
    replace NExG := Lib.hid (NExG.out)
    replace NEzG := Lib.hid (NEzG.out)
    replace NEgG := Lib.hid (NEgG.out)
    replace RG := Lib.hid ((hb.block _ (Array.getElem?_eq_some_iff.1 RG.out).1).trans RG.out)
    clear hb
    clear Gc0 Gc1 Wc0 Wc1
    clear Ox NExA NExB NExW NEsx NExs NExX NExz NEzx NExZ NExg NEgx NExG
    clear Oz NEzA NEzB NEzW NEzX NEsz NEzs NEzZ NEzg NEgz NEzG
    obtain ⟨Gc0, Gc1, -, -⟩ := row2_of RG.out
    go_wp2_with fail
    refine (markcode_any _ _ M.length _ Y 1 _ Og.out (by omega) (by omega) HB.out.size).mono ?_
    rintro e w15_ ⟨rfl, hom, hgr⟩
    replace HB := Lib.hid (HB.out.grown hgr HB.out.size (fun g e => (Og.out.lt g e).1))
    replace Os := Lib.hid (Os.out.kept hgr NEsg.out)
    replace RA := Lib.hid ((hgr.block _ (Array.getElem?_eq_some_iff.1 RA.out).1 (fun e => NEgA.out e.symm)).trans RA.out)
    replace RB := Lib.hid ((hgr.block _ (Array.getElem?_eq_some_iff.1 RB.out).1 (fun e => NEgB.out e.symm)).trans RB.out)
    replace RW := Lib.hid ((hgr.block _ (Array.getElem?_eq_some_iff.1 RW.out).1 (fun e => NEgW.out e.symm)).trans RW.out)
    replace RX := Lib.hid ((hgr.block _ (Array.getElem?_eq_some_iff.1 RX.out).1 (fun e => NEgX.out e.symm)).trans RX.out)
    replace RZ := Lib.hid ((hgr.block _ (Array.getElem?_eq_some_iff.1 RZ.out).1 (fun e => NEgZ.out e.symm)).trans RZ.out)
    replace RG := Lib.hid ((hgr.block _ (Array.getElem?_eq_some_iff.1 RG.out).1 (fun e => NEgG.out e.symm)).trans RG.out)
    replace Og := Lib.hid hom
    clear hom hgr
    clear Gc0 Gc1
    obtain ⟨Gc0, Gc1, -, -⟩ := row2_of RG.out
    go_wp2_with fail
    refine (heldcode_any _ M.length Y 1 _ (keysAt_marked Og.out) (by omega) (by omega)).mono ?_
    rintro e w16_ ⟨rfl, hb⟩
    replace HB := Lib.hid (HB.out.trans (hb.mono HB.out.size))
    replace RA := Lib.hid ((hb.block _ (Array.getElem?_eq_some_iff.1 RA.out).1).trans RA.out)
    replace RB := Lib.hid ((hb.block _ (Array.getElem?_eq_some_iff.1 RB.out).1).trans RB.out)
    replace RW := Lib.hid ((hb.block _ (Array.getElem?_eq_some_iff.1 RW.out).1).trans RW.out)
    replace Os := Lib.hid (own_below Os.out hb)
    replace NEsW := Lib.hid (NEsW.out)
    replace NEsX := Lib.hid (NEsX.out)
    replace RX := Lib.hid ((hb.block _ (Array.getElem?_eq_some_iff.1 RX.out).1).trans RX.out)
    replace NEsZ := Lib.hid (NEsZ.out)
    replace RZ := Lib.hid ((hb.block _ (Array.getElem?_eq_some_iff.1 RZ.out).1).trans RZ.out)
    replace NEgA := Lib.hid (NEgA.out)
    replace NEgB := Lib.hid (NEgB.out)
    replace NEgW := Lib.hid (NEgW.out)
    replace NEgX := Lib.hid (NEgX.out)
    replace NEgZ := Lib.hid (NEgZ.out)
    replace NEsg := Lib.hid (NEsg.out)
    replace NEgs := Lib.hid (NEgs.out)
    replace Og := Lib.hid (own_below Og.out hb)
    replace NEsG := Lib.hid (NEsG.out)
    replace NEgG := Lib.hid (NEgG.out)
    replace RG := Lib.hid ((hb.block _ (Array.getElem?_eq_some_iff.1 RG.out).1).trans RG.out)
    clear hb
    clear Gc0 Gc1
    have q4 : ¬ (1 : Int) + 2 * (M.length : Int) < 0 := by omega
    clear RX NEsX NEgX
    clear RZ NEsZ NEgZ
    go_wp2_with fail
    go_cut [15, 16] (fun x15 x16 wx => ∃ (bH : Nat) (vh : Value), x15 = .pointer (some ⟨bH, 0, none⟩) ∧ x16 = .bool C ∧ NewC w wx bH vh M Y ∧ Below w.heap.size w wx ∧ wx.heap[w.heap.size]? = some (.cells #[.slice a ks.length cap, .string y] 50) ∧ wx.heap[w.heap.size + 1]? = some (.cells #[.slice a2 ks2.length cap2, .string y2] 50) ∧ wx.heap[bW]? = some (.cells #[.slice sas sns sks, .string Y] 26) ∧ wx.heap[bG]? = some (.cells #[.slice sag sng skg, .string Y] 26) ∧ wx.ownsRow w.heap.size 41 2 (.slice sas sns sks) M.length (keyCells (M)) ∧ wx.ownsRow w.heap.size 41 2 (.slice sag sng skg) M.length (keyCells (marked M.length 1)))
    case first =>
      have LA : ∀ w' : World, w'.heap[w.heap.size]? = some (.cells #[.slice a ks.length cap, .string y] 50) ∧ w'.heap[w.heap.size + 1]? = some (.cells #[.slice a2 ks2.length cap2, .string y2] 50) → (loadVar 50 ⟨w.heap.size, 0, none⟩).run Try.prog w' = .ok (.agg #[.slice a ks.length cap, .string y]) w' := fun w' h => lcd_load h.1
      have LB : ∀ w' : World, w'.heap[w.heap.size]? = some (.cells #[.slice a ks.length cap, .string y] 50) ∧ w'.heap[w.heap.size + 1]? = some (.cells #[.slice a2 ks2.length cap2, .string y2] 50) → (loadVar 50 ⟨w.heap.size + 1, 0, none⟩).run Try.prog w' = .ok (.agg #[.slice a2 ks2.length cap2, .string y2]) w' := fun w' h => lcd_load h.2
      refine wp_region_G (fun w' => w'.heap[w.heap.size]? = some (.cells #[.slice a ks.length cap, .string y] 50) ∧ w'.heap[w.heap.size + 1]? = some (.cells #[.slice a2 ks2.length cap2, .string y2] 50)) (by kernel_rfl) ?_
      replace HB := Lib.hid (HB.out.drew)
      replace RA := Lib.hid (show (World.drew _).heap[_]? = _ from RA.out)
      replace RB := Lib.hid (show (World.drew _).heap[_]? = _ from RB.out)
      replace RW := Lib.hid (show (World.drew _).heap[_]? = _ from RW.out)
      replace Os := Lib.hid (Os.out.drew)
      replace NEsW := Lib.hid (NEsW.out)
      replace NEgA := Lib.hid (NEgA.out)
      replace NEgB := Lib.hid (NEgB.out)
      replace NEgW := Lib.hid (NEgW.out)
      replace NEsg := Lib.hid (NEsg.out)
      replace NEgs := Lib.hid (NEgs.out)
      replace Og := Lib.hid (Og.out.drew)
      replace NEsG := Lib.hid (NEsG.out)
      replace NEgG := Lib.hid (NEgG.out)
      replace RG := Lib.hid (show (World.drew _).heap[_]? = _ from RG.out)
      generalize (w16_).drew = wD16 at *
      refine wpG_seg [true, false, true] [1, 8] 8 (by kernel_rfl) (by intro c a d v w h; cases d <;> exact h) (by kernel_rfl) ⟨RA.out, RB.out⟩ ?_
      try simp only [maskRows]
      repeat (first
        | go_big_quiet_skip
        | (go_big_quiet_want
           first
             | (go_big_quiet_op; go_big_quiet_on)
             | (refine q_load 50 _ _ _ rfl rfl LA ?_; simp only [Act.put, List.setIfInBounds_toArray, List.set_cons_zero, List.set_cons_succ]; go_big_quiet_on)
             | (refine q_load 50 _ _ _ rfl rfl LB ?_; simp only [Act.put, List.setIfInBounds_toArray, List.set_cons_zero, List.set_cons_succ]; go_big_quiet_on)
             | (go_big_quiet_op; refine ⟨_, fun _ _ => rfl, ?_⟩; go_big_quiet_on)
             | (go_big_quiet_op; refine ⟨_, fun _ _ _ => rfl, ?_⟩; go_big_quiet_on)))
      refine wpQuiet_nil ?_
      refine List.forall_mem_cons.2 ⟨?_, List.forall_mem_singleton.2 ?_⟩
      · refine segt_run rfl (by rfl) (fun K hK => ?_)
        go_simp
        refine (TC.out _ HB.out hl).mono ?_
        rintro e w17_ ⟨vta, rfl, ho, hb⟩
        dsimp only
        obtain ⟨sata, snta, skta, rfl⟩ := own_shape ho
        have NEtaA := Lib.hid (own_ne_row (b := w.heap.size) ho (Array.getElem?_eq_some_iff.1 RA.out).1)
        have NEtaB := Lib.hid (own_ne_row (b := w.heap.size + 1) ho (Array.getElem?_eq_some_iff.1 RB.out).1)
        have NEtaW := Lib.hid (own_ne_row (b := bW) ho (Array.getElem?_eq_some_iff.1 RW.out).1)
        have NEtaG := Lib.hid (own_ne_row (b := bG) ho (Array.getElem?_eq_some_iff.1 RG.out).1)
        have NEgta := Lib.hid (own_ne Og.out ho)
        have NEtag := Lib.hid (own_ne' Og.out ho)
        have Ota := Lib.hid (own_base ho HB.out.size)
        clear ho
        replace HB := Lib.hid (HB.out.trans (hb.mono HB.out.size))
        replace RA := Lib.hid ((hb.block _ (Array.getElem?_eq_some_iff.1 RA.out).1).trans RA.out)
        replace RB := Lib.hid ((hb.block _ (Array.getElem?_eq_some_iff.1 RB.out).1).trans RB.out)
        replace RW := Lib.hid ((hb.block _ (Array.getElem?_eq_some_iff.1 RW.out).1).trans RW.out)
        replace Os := Lib.hid (own_below Os.out hb)
        replace NEsW := Lib.hid (NEsW.out)
        replace NEgA := Lib.hid (NEgA.out)
        replace NEgB := Lib.hid (NEgB.out)
        replace NEgW := Lib.hid (NEgW.out)
        replace NEsg := Lib.hid (NEsg.out)
        replace NEgs := Lib.hid (NEgs.out)
        replace Og := Lib.hid (own_below Og.out hb)
        replace NEsG := Lib.hid (NEsG.out)
        replace NEgG := Lib.hid (NEgG.out)
        replace RG := Lib.hid ((hb.block _ (Array.getElem?_eq_some_iff.1 RG.out).1).trans RG.out)
        replace NEtaA := Lib.hid (NEtaA.out)
        replace NEtaB := Lib.hid (NEtaB.out)
        replace NEtaW := Lib.hid (NEtaW.out)
        replace NEtaG := Lib.hid (NEtaG.out)
        replace NEgta := Lib.hid (NEgta.out)
        replace NEtag := Lib.hid (NEtag.out)
        clear hb
        refine hK _ _ ⟨_, fun _ h => h, ⟨RA.out, RB.out⟩, ?_⟩
        clear hK K
        try simp only [Act.put, List.setIfInBounds_toArray, List.set_cons_zero, List.set_cons_succ]
        refine wpG_seg [] [3, 8] 7 (by kernel_rfl) (by intro c a d v w h; cases d <;> exact h) (by kernel_rfl) ⟨RA.out, RB.out⟩ ?_
        try simp only [maskRows]
        refine wpQuiet_nil ?_
        refine List.forall_mem_cons.2 ⟨?_, List.forall_mem_singleton.2 ?_⟩
        · refine segt_run rfl (by rfl) (fun K hK => ?_)
          go_simp
          refine (TD.out _ HB.out hl2).mono ?_
          rintro e w18_ ⟨vtb, rfl, ho, hb⟩
          dsimp only
          obtain ⟨satb, sntb, sktb, rfl⟩ := own_shape ho
          have NEtbA := Lib.hid (own_ne_row (b := w.heap.size) ho (Array.getElem?_eq_some_iff.1 RA.out).1)
          have NEtbB := Lib.hid (own_ne_row (b := w.heap.size + 1) ho (Array.getElem?_eq_some_iff.1 RB.out).1)
          have NEtbW := Lib.hid (own_ne_row (b := bW) ho (Array.getElem?_eq_some_iff.1 RW.out).1)
          have NEtbG := Lib.hid (own_ne_row (b := bG) ho (Array.getElem?_eq_some_iff.1 RG.out).1)
          have NEgtb := Lib.hid (own_ne Og.out ho)
          have NEtbg := Lib.hid (own_ne' Og.out ho)
          have Otb := Lib.hid (own_base ho HB.out.size)
          clear ho
          replace HB := Lib.hid (HB.out.trans (hb.mono HB.out.size))
          replace RA := Lib.hid ((hb.block _ (Array.getElem?_eq_some_iff.1 RA.out).1).trans RA.out)
          replace RB := Lib.hid ((hb.block _ (Array.getElem?_eq_some_iff.1 RB.out).1).trans RB.out)
          replace RW := Lib.hid ((hb.block _ (Array.getElem?_eq_some_iff.1 RW.out).1).trans RW.out)
          replace Os := Lib.hid (own_below Os.out hb)
          replace NEsW := Lib.hid (NEsW.out)
          replace NEgA := Lib.hid (NEgA.out)
          replace NEgB := Lib.hid (NEgB.out)
          replace NEgW := Lib.hid (NEgW.out)
          replace NEsg := Lib.hid (NEsg.out)
          replace NEgs := Lib.hid (NEgs.out)
          replace Og := Lib.hid (own_below Og.out hb)
          replace NEsG := Lib.hid (NEsG.out)
          replace NEgG := Lib.hid (NEgG.out)
          replace RG := Lib.hid ((hb.block _ (Array.getElem?_eq_some_iff.1 RG.out).1).trans RG.out)
          replace NEtaA := Lib.hid (NEtaA.out)
          replace NEtaB := Lib.hid (NEtaB.out)
          replace NEtaW := Lib.hid (NEtaW.out)
          replace NEtaG := Lib.hid (NEtaG.out)
          replace NEgta := Lib.hid (NEgta.out)
          replace NEtag := Lib.hid (NEtag.out)
          replace Ota := Lib.hid (own_below Ota.out hb)
          replace NEtbA := Lib.hid (NEtbA.out)
          replace NEtbB := Lib.hid (NEtbB.out)
          replace NEtbW := Lib.hid (NEtbW.out)
          replace NEtbG := Lib.hid (NEtbG.out)
          replace NEgtb := Lib.hid (NEgtb.out)
          replace NEtbg := Lib.hid (NEtbg.out)
          clear hb
          refine hK _ _ ⟨_, fun _ h => h, ⟨RA.out, RB.out⟩, ?_⟩
          clear hK K
          try simp only [Act.put, List.setIfInBounds_toArray, List.set_cons_zero, List.set_cons_succ]
          refine wpG_seg [] [4, 8] 6 (by kernel_rfl) (by intro c a d v w h; cases d <;> exact h) (by kernel_rfl) ⟨RA.out, RB.out⟩ ?_
          try simp only [maskRows]
          refine wpQuiet_nil ?_
          refine List.forall_mem_cons.2 ⟨?_, List.forall_mem_singleton.2 ?_⟩
          · refine segt_run rfl (by rfl) (fun K hK => ?_)
            go_simp
            refine (IC.out _ _ _ (keysAt_own Ota.out) (keysAt_own Otb.out) hl hl2).mono ?_
            rintro e w19_ ⟨vh, rfl, ho, hb⟩
            dsimp only
            obtain ⟨sah, snh, skh, rfl⟩ := own_shape ho
            have NEhA := Lib.hid (own_ne_row (b := w.heap.size) ho (Array.getElem?_eq_some_iff.1 RA.out).1)
            have NEhB := Lib.hid (own_ne_row (b := w.heap.size + 1) ho (Array.getElem?_eq_some_iff.1 RB.out).1)
            have NEhW := Lib.hid (own_ne_row (b := bW) ho (Array.getElem?_eq_some_iff.1 RW.out).1)
            have NEhG := Lib.hid (own_ne_row (b := bG) ho (Array.getElem?_eq_some_iff.1 RG.out).1)
            have NEgh := Lib.hid (own_ne Og.out ho)
            have NEhg := Lib.hid (own_ne' Og.out ho)
            have Oh := Lib.hid (own_base ho HB.out.size)
            clear ho
            replace HB := Lib.hid (HB.out.trans (hb.mono HB.out.size))
            replace RA := Lib.hid ((hb.block _ (Array.getElem?_eq_some_iff.1 RA.out).1).trans RA.out)
            replace RB := Lib.hid ((hb.block _ (Array.getElem?_eq_some_iff.1 RB.out).1).trans RB.out)
            replace RW := Lib.hid ((hb.block _ (Array.getElem?_eq_some_iff.1 RW.out).1).trans RW.out)
            replace Os := Lib.hid (own_below Os.out hb)
            replace NEsW := Lib.hid (NEsW.out)
            replace NEgA := Lib.hid (NEgA.out)
            replace NEgB := Lib.hid (NEgB.out)
            replace NEgW := Lib.hid (NEgW.out)
            replace NEsg := Lib.hid (NEsg.out)
            replace NEgs := Lib.hid (NEgs.out)
            replace Og := Lib.hid (own_below Og.out hb)
            replace NEsG := Lib.hid (NEsG.out)
            replace NEgG := Lib.hid (NEgG.out)
            replace RG := Lib.hid ((hb.block _ (Array.getElem?_eq_some_iff.1 RG.out).1).trans RG.out)
            replace NEtaA := Lib.hid (NEtaA.out)
            replace NEtaB := Lib.hid (NEtaB.out)
            replace NEtaW := Lib.hid (NEtaW.out)
            replace NEtaG := Lib.hid (NEtaG.out)
            replace NEgta := Lib.hid (NEgta.out)
            replace NEtag := Lib.hid (NEtag.out)
            replace Ota := Lib.hid (own_below Ota.out hb)
            replace NEtbA := Lib.hid (NEtbA.out)
            replace NEtbB := Lib.hid (NEtbB.out)
            replace NEtbW := Lib.hid (NEtbW.out)
            replace NEtbG := Lib.hid (NEtbG.out)
            replace NEgtb := Lib.hid (NEgtb.out)
            replace NEtbg := Lib.hid (NEtbg.out)
            replace Otb := Lib.hid (own_below Otb.out hb)
            replace NEhA := Lib.hid (NEhA.out)
            replace NEhB := Lib.hid (NEhB.out)
            replace NEhW := Lib.hid (NEhW.out)
            replace NEhG := Lib.hid (NEhG.out)
            replace NEgh := Lib.hid (NEgh.out)
            replace NEhg := Lib.hid (NEhg.out)
            clear hb
            refine hK _ _ ⟨_, fun _ h => h, ⟨RA.out, RB.out⟩, ?_⟩
            clear hK K
            try simp only [Act.put, List.setIfInBounds_toArray, List.set_cons_zero, List.set_cons_succ]
            refine wpG_seg [false, false, false, false, false, true, true, true] [8] 2 (by kernel_rfl) (by intro c a d v w h; cases d <;> exact h) (by kernel_rfl) ⟨RA.out, RB.out⟩ ?_
            try simp only [maskRows]
            repeat (first
              | go_big_quiet_skip
              | (go_big_quiet_want
                 first
                   | (go_big_quiet_op; go_big_quiet_on)
                   | (refine q_load 50 _ _ _ rfl rfl LA ?_; simp only [Act.put, List.setIfInBounds_toArray, List.set_cons_zero, List.set_cons_succ]; go_big_quiet_on)
                   | (refine q_load 50 _ _ _ rfl rfl LB ?_; simp only [Act.put, List.setIfInBounds_toArray, List.set_cons_zero, List.set_cons_succ]; go_big_quiet_on)
                   | (go_big_quiet_op; refine ⟨_, fun _ _ => rfl, ?_⟩; go_big_quiet_on)
                   | (go_big_quiet_op; refine ⟨_, fun _ _ _ => rfl, ?_⟩; go_big_quiet_on)))
            refine wpQuiet_nil ?_
            refine List.forall_mem_singleton.2 ?_
            refine segt_run rfl (by rfl) (fun K hK => ?_)
            go_simp
            have HLH := Lib.hid HB.out.size
            have HNAH := Lib.hid (Array.getElem?_eq_some_iff.1 RA.out).1
            have HNBH := Lib.hid (Array.getElem?_eq_some_iff.1 RB.out).1
            have HNWH := Lib.hid (Array.getElem?_eq_some_iff.1 RW.out).1
            have HNGH := Lib.hid (Array.getElem?_eq_some_iff.1 RG.out).1
            have NEsH := Lib.hid (own_ne_new Os.out)
            have NEgH := Lib.hid (own_ne_new Og.out)
            have NEtaH := Lib.hid (own_ne_new Ota.out)
            have NEtbH := Lib.hid (own_ne_new Otb.out)
            have NEhH := Lib.hid (own_ne_new Oh.out)
            replace HB := Lib.hid (HB.out.alloc HB.out.size (.cells #[.slice none 0 0, .string ⟨#[]⟩] 26))
            replace RA := Lib.hid ((Below.heap_alloc _ (.cells #[.slice none 0 0, .string ⟨#[]⟩] 26) _ (Array.getElem?_eq_some_iff.1 RA.out).1).trans RA.out)
            replace RB := Lib.hid ((Below.heap_alloc _ (.cells #[.slice none 0 0, .string ⟨#[]⟩] 26) _ (Array.getElem?_eq_some_iff.1 RB.out).1).trans RB.out)
            replace RW := Lib.hid ((Below.heap_alloc _ (.cells #[.slice none 0 0, .string ⟨#[]⟩] 26) _ (Array.getElem?_eq_some_iff.1 RW.out).1).trans RW.out)
            replace Os := Lib.hid (Os.out.alloc (.cells #[.slice none 0 0, .string ⟨#[]⟩] 26))
            replace NEsW := Lib.hid (NEsW.out)
            replace NEgA := Lib.hid (NEgA.out)
            replace NEgB := Lib.hid (NEgB.out)
            replace NEgW := Lib.hid (NEgW.out)
            replace NEsg := Lib.hid (NEsg.out)
            replace NEgs := Lib.hid (NEgs.out)
            replace Og := Lib.hid (Og.out.alloc (.cells #[.slice none 0 0, .string ⟨#[]⟩] 26))
            replace NEsG := Lib.hid (NEsG.out)
            replace NEgG := Lib.hid (NEgG.out)
            replace RG := Lib.hid ((Below.heap_alloc _ (.cells #[.slice none 0 0, .string ⟨#[]⟩] 26) _ (Array.getElem?_eq_some_iff.1 RG.out).1).trans RG.out)
            replace NEtaA := Lib.hid (NEtaA.out)
            replace NEtaB := Lib.hid (NEtaB.out)
            replace NEtaW := Lib.hid (NEtaW.out)
            replace NEtaG := Lib.hid (NEtaG.out)
            replace NEgta := Lib.hid (NEgta.out)
            replace NEtag := Lib.hid (NEtag.out)
            replace Ota := Lib.hid (Ota.out.alloc (.cells #[.slice none 0 0, .string ⟨#[]⟩] 26))
            replace NEtbA := Lib.hid (NEtbA.out)
            replace NEtbB := Lib.hid (NEtbB.out)
            replace NEtbW := Lib.hid (NEtbW.out)
            replace NEtbG := Lib.hid (NEtbG.out)
            replace NEgtb := Lib.hid (NEgtb.out)
            replace NEtbg := Lib.hid (NEtbg.out)
            replace Otb := Lib.hid (Otb.out.alloc (.cells #[.slice none 0 0, .string ⟨#[]⟩] 26))
            replace NEhA := Lib.hid (NEhA.out)
            replace NEhB := Lib.hid (NEhB.out)
            replace NEhW := Lib.hid (NEhW.out)
            replace NEhG := Lib.hid (NEhG.out)
            replace NEgh := Lib.hid (NEgh.out)
            replace NEhg := Lib.hid (NEhg.out)
            replace Oh := Lib.hid (Oh.out.alloc (.cells #[.slice none 0 0, .string ⟨#[]⟩] 26))
            replace NEsH := Lib.hid (NEsH.out)
            replace NEgH := Lib.hid (NEgH.out)
            replace NEtaH := Lib.hid (NEtaH.out)
            replace NEtbH := Lib.hid (NEtbH.out)
            replace NEhH := Lib.hid (NEhH.out)
            have RH := Lib.hid (heap_alloc_new (w19_) (.cells #[.slice none 0 0, .string ⟨#[]⟩] 26))
            generalize World.alloc (w19_) (.cells #[.slice none 0 0, .string ⟨#[]⟩] 26) = w20_ at *
            generalize (w19_).heap.size = bH at *
            refine hK _ _ ⟨_, fun _ h => h, ⟨RA.out, RB.out⟩, ?_⟩
            clear hK K
            try simp only [Act.put, List.setIfInBounds_toArray, List.set_cons_zero, List.set_cons_succ]
            refine wpG_seg [] [9] 1 (by kernel_rfl) (by intro c a d v w h; cases d <;> exact h) (by kernel_rfl) ⟨RA.out, RB.out⟩ ?_
            try simp only [maskRows]
            refine wpQuiet_nil ?_
            refine List.forall_mem_singleton.2 ?_
            obtain ⟨c0, c1, f0, f1⟩ := row2_of RH.out
            have hlt := (Array.getElem?_eq_some_iff.1 RH.out).1
            have RH' := Lib.hid (set2 (.slice sah snh skh) (.string Y) RH.out)
            have RA' := Lib.hid (row_set2 RA.out (Nat.ne_of_lt HNAH.out) (.slice sah snh skh) (.string Y))
            have RB' := Lib.hid (row_set2 RB.out (Nat.ne_of_lt HNBH.out) (.slice sah snh skh) (.string Y))
            have RW' := Lib.hid (row_set2 RW.out (Nat.ne_of_lt HNWH.out) (.slice sah snh skh) (.string Y))
            have RG' := Lib.hid (row_set2 RG.out (Nat.ne_of_lt HNGH.out) (.slice sah snh skh) (.string Y))
            have Os' := Lib.hid (Os.out.kept (grown2 _ bH (.slice sah snh skh) (.string Y)) (.inr NEsH.out))
            have Og' := Lib.hid (Og.out.kept (grown2 _ bH (.slice sah snh skh) (.string Y)) (.inr NEgH.out))
            have Ota' := Lib.hid (Ota.out.kept (grown2 _ bH (.slice sah snh skh) (.string Y)) (.inr NEtaH.out))
            have Otb' := Lib.hid (Otb.out.kept (grown2 _ bH (.slice sah snh skh) (.string Y)) (.inr NEtbH.out))
            have Oh' := Lib.hid (Oh.out.kept (grown2 _ bH (.slice sah snh skh) (.string Y)) (.inr NEhH.out))
            have HB' := Lib.hid (below2 HB.out HLH.out (.slice sah snh skh) (.string Y))
            refine segt_run rfl (by rfl) (fun K hK => ?_)
            go_simp
            replace RA := RA'
            replace RB := RB'
            replace RW := RW'
            replace RG := RG'
            replace RH := RH'
            replace Os := Os'
            replace Og := Og'
            replace Ota := Ota'
            replace Otb := Otb'
            replace Oh := Oh'
            replace HB := HB'
            clear RA' RB' RW' RG' RH' Os' Og' Ota' Otb' Oh' HB' c0 c1 f0 f1 hlt
            generalize (World.setCell (World.setCell w20_ ⟨bH, 0, none⟩ (.slice sah snh skh)) ⟨bH, 1, none⟩ (.string Y)) = w21_ at *
            refine hK _ _ ⟨_, fun _ h => h, ⟨RA.out, RB.out⟩, ?_⟩
            clear hK K
            try simp only [Act.put, List.setIfInBounds_toArray, List.set_cons_zero, List.set_cons_succ]
            refine wpG_end [false, false, false, false, false, false, false, false, false, false, true] (by kernel_rfl) (by intro c a d v w h; cases d <;> exact h) (by kernel_rfl) ⟨RA.out, RB.out⟩ ?_
            try simp only [maskRows]
            repeat (first
              | go_big_quiet_skip
              | (go_big_quiet_want
                 first
                   | (go_big_quiet_op; go_big_quiet_on)
                   | (refine q_load 50 _ _ _ rfl rfl LA ?_; simp only [Act.put, List.setIfInBounds_toArray, List.set_cons_zero, List.set_cons_succ]; go_big_quiet_on)
                   | (refine q_load 50 _ _ _ rfl rfl LB ?_; simp only [Act.put, List.setIfInBounds_toArray, List.set_cons_zero, List.set_cons_succ]; go_big_quiet_on)
                   | (go_big_quiet_op; refine ⟨_, fun _ _ => rfl, ?_⟩; go_big_quiet_on)
                   | (go_big_quiet_op; refine ⟨_, fun _ _ _ => rfl, ?_⟩; go_big_quiet_on)))
            refine wpQuiet_nil ?_
            go_wp2_with fail
            go_meet
            exact ⟨_, _, rfl, rfl, ⟨HLH.out, RH.out, Oh.out, NEhH.out⟩, HB.out, RA.out, RB.out, RW.out, RG.out, Os.out, Og.out⟩
          · refine segt_run rfl (by rfl) (fun K hK => ?_)
            go_simp
            have HLH := Lib.hid HB.out.size
            have HNAH := Lib.hid (Array.getElem?_eq_some_iff.1 RA.out).1
            have HNBH := Lib.hid (Array.getElem?_eq_some_iff.1 RB.out).1
            have HNWH := Lib.hid (Array.getElem?_eq_some_iff.1 RW.out).1
            have HNGH := Lib.hid (Array.getElem?_eq_some_iff.1 RG.out).1
            have NEsH := Lib.hid (own_ne_new Os.out)
            have NEgH := Lib.hid (own_ne_new Og.out)
            have NEtaH := Lib.hid (own_ne_new Ota.out)
            have NEtbH := Lib.hid (own_ne_new Otb.out)
            replace HB := Lib.hid (HB.out.alloc HB.out.size (.cells #[.slice none 0 0, .string ⟨#[]⟩] 26))
            replace RA := Lib.hid ((Below.heap_alloc _ (.cells #[.slice none 0 0, .string ⟨#[]⟩] 26) _ (Array.getElem?_eq_some_iff.1 RA.out).1).trans RA.out)
            replace RB := Lib.hid ((Below.heap_alloc _ (.cells #[.slice none 0 0, .string ⟨#[]⟩] 26) _ (Array.getElem?_eq_some_iff.1 RB.out).1).trans RB.out)
            replace RW := Lib.hid ((Below.heap_alloc _ (.cells #[.slice none 0 0, .string ⟨#[]⟩] 26) _ (Array.getElem?_eq_some_iff.1 RW.out).1).trans RW.out)
            replace Os := Lib.hid (Os.out.alloc (.cells #[.slice none 0 0, .string ⟨#[]⟩] 26))
            replace NEsW := Lib.hid (NEsW.out)
            replace NEgA := Lib.hid (NEgA.out)
            replace NEgB := Lib.hid (NEgB.out)
            replace NEgW := Lib.hid (NEgW.out)
            replace NEsg := Lib.hid (NEsg.out)
            replace NEgs := Lib.hid (NEgs.out)
            replace Og := Lib.hid (Og.out.alloc (.cells #[.slice none 0 0, .string ⟨#[]⟩] 26))
            replace NEsG := Lib.hid (NEsG.out)
            replace NEgG := Lib.hid (NEgG.out)
            replace RG := Lib.hid ((Below.heap_alloc _ (.cells #[.slice none 0 0, .string ⟨#[]⟩] 26) _ (Array.getElem?_eq_some_iff.1 RG.out).1).trans RG.out)
            replace NEtaA := Lib.hid (NEtaA.out)
            replace NEtaB := Lib.hid (NEtaB.out)
            replace NEtaW := Lib.hid (NEtaW.out)
            replace NEtaG := Lib.hid (NEtaG.out)
            replace NEgta := Lib.hid (NEgta.out)
            replace NEtag := Lib.hid (NEtag.out)
            replace Ota := Lib.hid (Ota.out.alloc (.cells #[.slice none 0 0, .string ⟨#[]⟩] 26))
            replace NEtbA := Lib.hid (NEtbA.out)
            replace NEtbB := Lib.hid (NEtbB.out)
            replace NEtbW := Lib.hid (NEtbW.out)
            replace NEtbG := Lib.hid (NEtbG.out)
            replace NEgtb := Lib.hid (NEgtb.out)
            replace NEtbg := Lib.hid (NEtbg.out)
            replace Otb := Lib.hid (Otb.out.alloc (.cells #[.slice none 0 0, .string ⟨#[]⟩] 26))
            replace NEsH := Lib.hid (NEsH.out)
            replace NEgH := Lib.hid (NEgH.out)
            replace NEtaH := Lib.hid (NEtaH.out)
            replace NEtbH := Lib.hid (NEtbH.out)
            have RH := Lib.hid (heap_alloc_new (w18_) (.cells #[.slice none 0 0, .string ⟨#[]⟩] 26))
            generalize World.alloc (w18_) (.cells #[.slice none 0 0, .string ⟨#[]⟩] 26) = w19_ at *
            generalize (w18_).heap.size = bH at *
            refine hK _ _ ⟨_, fun _ h => h, ⟨RA.out, RB.out⟩, ?_⟩
            clear hK K
            try simp only [Act.put, List.setIfInBounds_toArray, List.set_cons_zero, List.set_cons_succ]
            refine wpG_seg [] [4] 5 (by kernel_rfl) (by intro c a d v w h; cases d <;> exact h) (by kernel_rfl) ⟨RA.out, RB.out⟩ ?_
            try simp only [maskRows]
            refine wpQuiet_nil ?_
            refine List.forall_mem_singleton.2 ?_
            refine segt_run rfl (by rfl) (fun K hK => ?_)
            go_simp
            refine (IC.out _ _ _ (keysAt_own Ota.out) (keysAt_own Otb.out) hl hl2).mono ?_
            rintro e w20_ ⟨vh, rfl, ho, hb⟩
            dsimp only
            obtain ⟨sah, snh, skh, rfl⟩ := own_shape ho
            have NEhA := Lib.hid (own_ne_row (b := w.heap.size) ho (Array.getElem?_eq_some_iff.1 RA.out).1)
            have NEhB := Lib.hid (own_ne_row (b := w.heap.size + 1) ho (Array.getElem?_eq_some_iff.1 RB.out).1)
            have NEhW := Lib.hid (own_ne_row (b := bW) ho (Array.getElem?_eq_some_iff.1 RW.out).1)
            have NEhG := Lib.hid (own_ne_row (b := bG) ho (Array.getElem?_eq_some_iff.1 RG.out).1)
            have NEhH := Lib.hid (own_ne_row (b := bH) ho (Array.getElem?_eq_some_iff.1 RH.out).1)
            have NEgh := Lib.hid (own_ne Og.out ho)
            have NEhg := Lib.hid (own_ne' Og.out ho)
            have Oh := Lib.hid (own_base ho HB.out.size)
            clear ho
            replace HB := Lib.hid (HB.out.trans (hb.mono HB.out.size))
            replace RA := Lib.hid ((hb.block _ (Array.getElem?_eq_some_iff.1 RA.out).1).trans RA.out)
            replace RB := Lib.hid ((hb.block _ (Array.getElem?_eq_some_iff.1 RB.out).1).trans RB.out)
            replace RW := Lib.hid ((hb.block _ (Array.getElem?_eq_some_iff.1 RW.out).1).trans RW.out)
            replace Os := Lib.hid (own_below Os.out hb)
            replace NEsW := Lib.hid (NEsW.out)
            replace NEgA := Lib.hid (NEgA.out)
            replace NEgB := Lib.hid (NEgB.out)
            replace NEgW := Lib.hid (NEgW.out)
            replace NEsg := Lib.hid (NEsg.out)
            replace NEgs := Lib.hid (NEgs.out)
            replace Og := Lib.hid (own_below Og.out hb)
            replace NEsG := Lib.hid (NEsG.out)
            replace NEgG := Lib.hid (NEgG.out)
            replace RG := Lib.hid ((hb.block _ (Array.getElem?_eq_some_iff.1 RG.out).1).trans RG.out)
            replace NEtaA := Lib.hid (NEtaA.out)
            replace NEtaB := Lib.hid (NEtaB.out)
            replace NEtaW := Lib.hid (NEtaW.out)
            replace NEtaG := Lib.hid (NEtaG.out)
            replace NEgta := Lib.hid (NEgta.out)
            replace NEtag := Lib.hid (NEtag.out)
            replace Ota := Lib.hid (own_below Ota.out hb)
            replace NEtbA := Lib.hid (NEtbA.out)
            replace NEtbB := Lib.hid (NEtbB.out)
            replace NEtbW := Lib.hid (NEtbW.out)
            replace NEtbG := Lib.hid (NEtbG.out)
            replace NEgtb := Lib.hid (NEgtb.out)
            replace NEtbg := Lib.hid (NEtbg.out)
            replace Otb := Lib.hid (own_below Otb.out hb)
            replace NEsH := Lib.hid (NEsH.out)
            replace NEgH := Lib.hid (NEgH.out)
            replace NEtaH := Lib.hid (NEtaH.out)
            replace NEtbH := Lib.hid (NEtbH.out)
            replace RH := Lib.hid ((hb.block _ (Array.getElem?_eq_some_iff.1 RH.out).1).trans RH.out)
            replace NEhA := Lib.hid (NEhA.out)
            replace NEhB := Lib.hid (NEhB.out)
            replace NEhW := Lib.hid (NEhW.out)
            replace NEhG := Lib.hid (NEhG.out)
            replace NEhH := Lib.hid (NEhH.out)
            replace NEgh := Lib.hid (NEgh.out)
            replace NEhg := Lib.hid (NEhg.out)
            clear hb
            refine hK _ _ ⟨_, fun _ h => h, ⟨RA.out, RB.out⟩, ?_⟩
            clear hK K
            try simp only [Act.put, List.setIfInBounds_toArray, List.set_cons_zero, List.set_cons_succ]
            refine wpG_seg [false, false, false, false, false, true, true, true] [9] 1 (by kernel_rfl) (by intro c a d v w h; cases d <;> exact h) (by kernel_rfl) ⟨RA.out, RB.out⟩ ?_
            try simp only [maskRows]
            repeat (first
              | go_big_quiet_skip
              | (go_big_quiet_want
                 first
                   | (go_big_quiet_op; go_big_quiet_on)
                   | (refine q_load 50 _ _ _ rfl rfl LA ?_; simp only [Act.put, List.setIfInBounds_toArray, List.set_cons_zero, List.set_cons_succ]; go_big_quiet_on)
                   | (refine q_load 50 _ _ _ rfl rfl LB ?_; simp only [Act.put, List.setIfInBounds_toArray, List.set_cons_zero, List.set_cons_succ]; go_big_quiet_on)
                   | (go_big_quiet_op; refine ⟨_, fun _ _ => rfl, ?_⟩; go_big_quiet_on)
                   | (go_big_quiet_op; refine ⟨_, fun _ _ _ => rfl, ?_⟩; go_big_quiet_on)))
            refine wpQuiet_nil ?_
            refine List.forall_mem_singleton.2 ?_
            obtain ⟨c0, c1, f0, f1⟩ := row2_of RH.out
            have hlt := (Array.getElem?_eq_some_iff.1 RH.out).1
            have RH' := Lib.hid (set2 (.slice sah snh skh) (.string Y) RH.out)
            have RA' := Lib.hid (row_set2 RA.out (Nat.ne_of_lt HNAH.out) (.slice sah snh skh) (.string Y))
            have RB' := Lib.hid (row_set2 RB.out (Nat.ne_of_lt HNBH.out) (.slice sah snh skh) (.string Y))
            have RW' := Lib.hid (row_set2 RW.out (Nat.ne_of_lt HNWH.out) (.slice sah snh skh) (.string Y))
            have RG' := Lib.hid (row_set2 RG.out (Nat.ne_of_lt HNGH.out) (.slice sah snh skh) (.string Y))
            have Os' := Lib.hid (Os.out.kept (grown2 _ bH (.slice sah snh skh) (.string Y)) (.inr NEsH.out))
            have Og' := Lib.hid (Og.out.kept (grown2 _ bH (.slice sah snh skh) (.string Y)) (.inr NEgH.out))
            have Ota' := Lib.hid (Ota.out.kept (grown2 _ bH (.slice sah snh skh) (.string Y)) (.inr NEtaH.out))
            have Otb' := Lib.hid (Otb.out.kept (grown2 _ bH (.slice sah snh skh) (.string Y)) (.inr NEtbH.out))
            have Oh' := Lib.hid (Oh.out.kept (grown2 _ bH (.slice sah snh skh) (.string Y)) (.inr NEhH.out))
            have HB' := Lib.hid (below2 HB.out HLH.out (.slice sah snh skh) (.string Y))
            refine segt_run rfl (by rfl) (fun K hK => ?_)
            go_simp
            replace RA := RA'
            replace RB := RB'
            replace RW := RW'
            replace RG := RG'
            replace RH := RH'
            replace Os := Os'
            replace Og := Og'
            replace Ota := Ota'
            replace Otb := Otb'
            replace Oh := Oh'
            replace HB := HB'
            clear RA' RB' RW' RG' RH' Os' Og' Ota' Otb' Oh' HB' c0 c1 f0 f1 hlt
            generalize (World.setCell (World.setCell w20_ ⟨bH, 0, none⟩ (.slice sah snh skh)) ⟨bH, 1, none⟩ (.string Y)) = w21_ at *
            refine hK _ _ ⟨_, fun _ h => h, ⟨RA.out, RB.out⟩, ?_⟩
            clear hK K
            try simp only [Act.put, List.setIfInBounds_toArray, List.set_cons_zero, List.set_cons_succ]
            refine wpG_end [false, false, false, false, false, false, false, false, false, false, true] (by kernel_rfl) (by intro c a d v w h; cases d <;> exact h) (by kernel_rfl) ⟨RA.out, RB.out⟩ ?_
            try simp only [maskRows]
            repeat (first
              | go_big_quiet_skip
              | (go_big_quiet_want
                 first
                   | (go_big_quiet_op; go_big_quiet_on)
                   | (refine q_load 50 _ _ _ rfl rfl LA ?_; simp only [Act.put, List.setIfInBounds_toArray, List.set_cons_zero, List.set_cons_succ]; go_big_quiet_on)
                   | (refine q_load 50 _ _ _ rfl rfl LB ?_; simp only [Act.put, List.setIfInBounds_toArray, List.set_cons_zero, List.set_cons_succ]; go_big_quiet_on)
                   | (go_big_quiet_op; refine ⟨_, fun _ _ => rfl, ?_⟩; go_big_quiet_on)
                   | (go_big_quiet_op; refine ⟨_, fun _ _ _ => rfl, ?_⟩; go_big_quiet_on)))
            refine wpQuiet_nil ?_
            go_wp2_with fail
            go_meet
            exact ⟨_, _, rfl, rfl, ⟨HLH.out, RH.out, Oh.out, NEhH.out⟩, HB.out, RA.out, RB.out, RW.out, RG.out, Os.out, Og.out⟩
        · refine segt_run rfl (by rfl) (fun K hK => ?_)
          go_simp
          have HLH := Lib.hid HB.out.size
          have HNAH := Lib.hid (Array.getElem?_eq_some_iff.1 RA.out).1
          have HNBH := Lib.hid (Array.getElem?_eq_some_iff.1 RB.out).1
          have HNWH := Lib.hid (Array.getElem?_eq_some_iff.1 RW.out).1
          have HNGH := Lib.hid (Array.getElem?_eq_some_iff.1 RG.out).1
          have NEsH := Lib.hid (own_ne_new Os.out)
          have NEgH := Lib.hid (own_ne_new Og.out)
          have NEtaH := Lib.hid (own_ne_new Ota.out)
          replace HB := Lib.hid (HB.out.alloc HB.out.size (.cells #[.slice none 0 0, .string ⟨#[]⟩] 26))
          replace RA := Lib.hid ((Below.heap_alloc _ (.cells #[.slice none 0 0, .string ⟨#[]⟩] 26) _ (Array.getElem?_eq_some_iff.1 RA.out).1).trans RA.out)
          replace RB := Lib.hid ((Below.heap_alloc _ (.cells #[.slice none 0 0, .string ⟨#[]⟩] 26) _ (Array.getElem?_eq_some_iff.1 RB.out).1).trans RB.out)
          replace RW := Lib.hid ((Below.heap_alloc _ (.cells #[.slice none 0 0, .string ⟨#[]⟩] 26) _ (Array.getElem?_eq_some_iff.1 RW.out).1).trans RW.out)
          replace Os := Lib.hid (Os.out.alloc (.cells #[.slice none 0 0, .string ⟨#[]⟩] 26))
          replace NEsW := Lib.hid (NEsW.out)
          replace NEgA := Lib.hid (NEgA.out)
          replace NEgB := Lib.hid (NEgB.out)
          replace NEgW := Lib.hid (NEgW.out)
          replace NEsg := Lib.hid (NEsg.out)
          replace NEgs := Lib.hid (NEgs.out)
          replace Og := Lib.hid (Og.out.alloc (.cells #[.slice none 0 0, .string ⟨#[]⟩] 26))
          replace NEsG := Lib.hid (NEsG.out)
          replace NEgG := Lib.hid (NEgG.out)
          replace RG := Lib.hid ((Below.heap_alloc _ (.cells #[.slice none 0 0, .string ⟨#[]⟩] 26) _ (Array.getElem?_eq_some_iff.1 RG.out).1).trans RG.out)
          replace NEtaA := Lib.hid (NEtaA.out)
          replace NEtaB := Lib.hid (NEtaB.out)
          replace NEtaW := Lib.hid (NEtaW.out)
          replace NEtaG := Lib.hid (NEtaG.out)
          replace NEgta := Lib.hid (NEgta.out)
          replace NEtag := Lib.hid (NEtag.out)
          replace Ota := Lib.hid (Ota.out.alloc (.cells #[.slice none 0 0, .string ⟨#[]⟩] 26))
          replace NEsH := Lib.hid (NEsH.out)
          replace NEgH := Lib.hid (NEgH.out)
          replace NEtaH := Lib.hid (NEtaH.out)
          have RH := Lib.hid (heap_alloc_new (w17_) (.cells #[.slice none 0 0, .string ⟨#[]⟩] 26))
          generalize World.alloc (w17_) (.cells #[.slice none 0 0, .string ⟨#[]⟩] 26) = w18_ at *
          generalize (w17_).heap.size = bH at *
          refine hK _ _ ⟨_, fun _ h => h, ⟨RA.out, RB.out⟩, ?_⟩
          clear hK K
          try simp only [Act.put, List.setIfInBounds_toArray, List.set_cons_zero, List.set_cons_succ]
          refine wpG_seg [] [3] 6 (by kernel_rfl) (by intro c a d v w h; cases d <;> exact h) (by kernel_rfl) ⟨RA.out, RB.out⟩ ?_
          try simp only [maskRows]
          refine wpQuiet_nil ?_
          refine List.forall_mem_singleton.2 ?_
          refine segt_run rfl (by rfl) (fun K hK => ?_)
          go_simp
          refine (TD.out _ HB.out hl2).mono ?_
          rintro e w19_ ⟨vtb, rfl, ho, hb⟩
          dsimp only
          obtain ⟨satb, sntb, sktb, rfl⟩ := own_shape ho
          have NEtbA := Lib.hid (own_ne_row (b := w.heap.size) ho (Array.getElem?_eq_some_iff.1 RA.out).1)
          have NEtbB := Lib.hid (own_ne_row (b := w.heap.size + 1) ho (Array.getElem?_eq_some_iff.1 RB.out).1)
          have NEtbW := Lib.hid (own_ne_row (b := bW) ho (Array.getElem?_eq_some_iff.1 RW.out).1)
          have NEtbG := Lib.hid (own_ne_row (b := bG) ho (Array.getElem?_eq_some_iff.1 RG.out).1)
          have NEtbH := Lib.hid (own_ne_row (b := bH) ho (Array.getElem?_eq_some_iff.1 RH.out).1)
          have NEgtb := Lib.hid (own_ne Og.out ho)
          have NEtbg := Lib.hid (own_ne' Og.out ho)
          have Otb := Lib.hid (own_base ho HB.out.size)
          clear ho
          replace HB := Lib.hid (HB.out.trans (hb.mono HB.out.size))
          replace RA := Lib.hid ((hb.block _ (Array.getElem?_eq_some_iff.1 RA.out).1).trans RA.out)
          replace RB := Lib.hid ((hb.block _ (Array.getElem?_eq_some_iff.1 RB.out).1).trans RB.out)
          replace RW := Lib.hid ((hb.block _ (Array.getElem?_eq_some_iff.1 RW.out).1).trans RW.out)
          replace Os := Lib.hid (own_below Os.out hb)
          replace NEsW := Lib.hid (NEsW.out)
          replace NEgA := Lib.hid (NEgA.out)
          replace NEgB := Lib.hid (NEgB.out)
          replace NEgW := Lib.hid (NEgW.out)
          replace NEsg := Lib.hid (NEsg.out)
          replace NEgs := Lib.hid (NEgs.out)
          replace Og := Lib.hid (own_below Og.out hb)
          replace NEsG := Lib.hid (NEsG.out)
          replace NEgG := Lib.hid (NEgG.out)
          replace RG := Lib.hid ((hb.block _ (Array.getElem?_eq_some_iff.1 RG.out).1).trans RG.out)
          replace NEtaA := Lib.hid (NEtaA.out)
          replace NEtaB := Lib.hid (NEtaB.out)
          replace NEtaW := Lib.hid (NEtaW.out)
          replace NEtaG := Lib.hid (NEtaG.out)
          replace NEgta := Lib.hid (NEgta.out)
          replace NEtag := Lib.hid (NEtag.out)
          replace Ota := Lib.hid (own_below Ota.out hb)
          replace NEsH := Lib.hid (NEsH.out)
          replace NEgH := Lib.hid (NEgH.out)
          replace NEtaH := Lib.hid (NEtaH.out)
          replace RH := Lib.hid ((hb.block _ (Array.getElem?_eq_some_iff.1 RH.out).1).trans RH.out)
          replace NEtbA := Lib.hid (NEtbA.out)
          replace NEtbB := Lib.hid (NEtbB.out)
          replace NEtbW := Lib.hid (NEtbW.out)
          replace NEtbG := Lib.hid (NEtbG.out)
          replace NEtbH := Lib.hid (NEtbH.out)
          replace NEgtb := Lib.hid (NEgtb.out)
          replace NEtbg := Lib.hid (NEtbg.out)
          clear hb
          refine hK _ _ ⟨_, fun _ h => h, ⟨RA.out, RB.out⟩, ?_⟩
          clear hK K
          try simp only [Act.put, List.setIfInBounds_toArray, List.set_cons_zero, List.set_cons_succ]
          refine wpG_seg [] [4] 5 (by kernel_rfl) (by intro c a d v w h; cases d <;> exact h) (by kernel_rfl) ⟨RA.out, RB.out⟩ ?_
          try simp only [maskRows]
          refine wpQuiet_nil ?_
          refine List.forall_mem_singleton.2 ?_
          refine segt_run rfl (by rfl) (fun K hK => ?_)
          go_simp
          refine (IC.out _ _ _ (keysAt_own Ota.out) (keysAt_own Otb.out) hl hl2).mono ?_
          rintro e w20_ ⟨vh, rfl, ho, hb⟩
          dsimp only
          obtain ⟨sah, snh, skh, rfl⟩ := own_shape ho
          have NEhA := Lib.hid (own_ne_row (b := w.heap.size) ho (Array.getElem?_eq_some_iff.1 RA.out).1)
          have NEhB := Lib.hid (own_ne_row (b := w.heap.size + 1) ho (Array.getElem?_eq_some_iff.1 RB.out).1)
          have NEhW := Lib.hid (own_ne_row (b := bW) ho (Array.getElem?_eq_some_iff.1 RW.out).1)
          have NEhG := Lib.hid (own_ne_row (b := bG) ho (Array.getElem?_eq_some_iff.1 RG.out).1)
          have NEhH := Lib.hid (own_ne_row (b := bH) ho (Array.getElem?_eq_some_iff.1 RH.out).1)
          have NEgh := Lib.hid (own_ne Og.out ho)
          have NEhg := Lib.hid (own_ne' Og.out ho)
          have Oh := Lib.hid (own_base ho HB.out.size)
          clear ho
          replace HB := Lib.hid (HB.out.trans (hb.mono HB.out.size))
          replace RA := Lib.hid ((hb.block _ (Array.getElem?_eq_some_iff.1 RA.out).1).trans RA.out)
          replace RB := Lib.hid ((hb.block _ (Array.getElem?_eq_some_iff.1 RB.out).1).trans RB.out)
          replace RW := Lib.hid ((hb.block _ (Array.getElem?_eq_some_iff.1 RW.out).1).trans RW.out)
          replace Os := Lib.hid (own_below Os.out hb)
          replace NEsW := Lib.hid (NEsW.out)
          replace NEgA := Lib.hid (NEgA.out)
          replace NEgB := Lib.hid (NEgB.out)
          replace NEgW := Lib.hid (NEgW.out)
          replace NEsg := Lib.hid (NEsg.out)
          replace NEgs := Lib.hid (NEgs.out)
          replace Og := Lib.hid (own_below Og.out hb)
          replace NEsG := Lib.hid (NEsG.out)
          replace NEgG := Lib.hid (NEgG.out)
          replace RG := Lib.hid ((hb.block _ (Array.getElem?_eq_some_iff.1 RG.out).1).trans RG.out)
          replace NEtaA := Lib.hid (NEtaA.out)
          replace NEtaB := Lib.hid (NEtaB.out)
          replace NEtaW := Lib.hid (NEtaW.out)
          replace NEtaG := Lib.hid (NEtaG.out)
          replace NEgta := Lib.hid (NEgta.out)
          replace NEtag := Lib.hid (NEtag.out)
          replace Ota := Lib.hid (own_below Ota.out hb)
          replace NEsH := Lib.hid (NEsH.out)
          replace NEgH := Lib.hid (NEgH.out)
          replace NEtaH := Lib.hid (NEtaH.out)
          replace RH := Lib.hid ((hb.block _ (Array.getElem?_eq_some_iff.1 RH.out).1).trans RH.out)
          replace NEtbA := Lib.hid (NEtbA.out)
          replace NEtbB := Lib.hid (NEtbB.out)
          replace NEtbW := Lib.hid (NEtbW.out)
          replace NEtbG := Lib.hid (NEtbG.out)
          replace NEtbH := Lib.hid (NEtbH.out)
          replace NEgtb := Lib.hid (NEgtb.out)
          replace NEtbg := Lib.hid (NEtbg.out)
          replace Otb := Lib.hid (own_below Otb.out hb)
          replace NEhA := Lib.hid (NEhA.out)
          replace NEhB := Lib.hid (NEhB.out)
          replace NEhW := Lib.hid (NEhW.out)
          replace NEhG := Lib.hid (NEhG.out)
          replace NEhH := Lib.hid (NEhH.out)
          replace NEgh := Lib.hid (NEgh.out)
          replace NEhg := Lib.hid (NEhg.out)
          clear hb
          refine hK _ _ ⟨_, fun _ h => h, ⟨RA.out, RB.out⟩, ?_⟩
          clear hK K
          try simp only [Act.put, List.setIfInBounds_toArray, List.set_cons_zero, List.set_cons_succ]
          refine wpG_seg [false, false, false, false, false, true, true, true] [9] 1 (by kernel_rfl) (by intro c a d v w h; cases d <;> exact h) (by kernel_rfl) ⟨RA.out, RB.out⟩ ?_
          try simp only [maskRows]
          repeat (first
            | go_big_quiet_skip
            | (go_big_quiet_want
               first
                 | (go_big_quiet_op; go_big_quiet_on)
                 | (refine q_load 50 _ _ _ rfl rfl LA ?_; simp only [Act.put, List.setIfInBounds_toArray, List.set_cons_zero, List.set_cons_succ]; go_big_quiet_on)
                 | (refine q_load 50 _ _ _ rfl rfl LB ?_; simp only [Act.put, List.setIfInBounds_toArray, List.set_cons_zero, List.set_cons_succ]; go_big_quiet_on)
                 | (go_big_quiet_op; refine ⟨_, fun _ _ => rfl, ?_⟩; go_big_quiet_on)
                 | (go_big_quiet_op; refine ⟨_, fun _ _ _ => rfl, ?_⟩; go_big_quiet_on)))
          refine wpQuiet_nil ?_
          refine List.forall_mem_singleton.2 ?_
          obtain ⟨c0, c1, f0, f1⟩ := row2_of RH.out
          have hlt := (Array.getElem?_eq_some_iff.1 RH.out).1
          have RH' := Lib.hid (set2 (.slice sah snh skh) (.string Y) RH.out)
          have RA' := Lib.hid (row_set2 RA.out (Nat.ne_of_lt HNAH.out) (.slice sah snh skh) (.string Y))
          have RB' := Lib.hid (row_set2 RB.out (Nat.ne_of_lt HNBH.out) (.slice sah snh skh) (.string Y))
          have RW' := Lib.hid (row_set2 RW.out (Nat.ne_of_lt HNWH.out) (.slice sah snh skh) (.string Y))
          have RG' := Lib.hid (row_set2 RG.out (Nat.ne_of_lt HNGH.out) (.slice sah snh skh) (.string Y))
          have Os' := Lib.hid (Os.out.kept (grown2 _ bH (.slice sah snh skh) (.string Y)) (.inr NEsH.out))
          have Og' := Lib.hid (Og.out.kept (grown2 _ bH (.slice sah snh skh) (.string Y)) (.inr NEgH.out))
          have Ota' := Lib.hid (Ota.out.kept (grown2 _ bH (.slice sah snh skh) (.string Y)) (.inr NEtaH.out))
          have Otb' := Lib.hid (Otb.out.kept (grown2 _ bH (.slice sah snh skh) (.string Y)) (.inr NEtbH.out))
          have Oh' := Lib.hid (Oh.out.kept (grown2 _ bH (.slice sah snh skh) (.string Y)) (.inr NEhH.out))
          have HB' := Lib.hid (below2 HB.out HLH.out (.slice sah snh skh) (.string Y))
          refine segt_run rfl (by rfl) (fun K hK => ?_)
          go_simp
          replace RA := RA'
          replace RB := RB'
          replace RW := RW'
          replace RG := RG'
          replace RH := RH'
          replace Os := Os'
          replace Og := Og'
          replace Ota := Ota'
          replace Otb := Otb'
          replace Oh := Oh'
          replace HB := HB'
          clear RA' RB' RW' RG' RH' Os' Og' Ota' Otb' Oh' HB' c0 c1 f0 f1 hlt
          generalize (World.setCell (World.setCell w20_ ⟨bH, 0, none⟩ (.slice sah snh skh)) ⟨bH, 1, none⟩ (.string Y)) = w21_ at *
          refine hK _ _ ⟨_, fun _ h => h, ⟨RA.out, RB.out⟩, ?_⟩
          clear hK K
          try simp only [Act.put, List.setIfInBounds_toArray, List.set_cons_zero, List.set_cons_succ]
          refine wpG_end [false, false, false, false, false, false, false, false, false, false, true] (by kernel_rfl) (by intro c a d v w h; cases d <;> exact h) (by kernel_rfl) ⟨RA.out, RB.out⟩ ?_
          try simp only [maskRows]
          repeat (first
            | go_big_quiet_skip
            | (go_big_quiet_want
               first
                 | (go_big_quiet_op; go_big_quiet_on)
                 | (refine q_load 50 _ _ _ rfl rfl LA ?_; simp only [Act.put, List.setIfInBounds_toArray, List.set_cons_zero, List.set_cons_succ]; go_big_quiet_on)
                 | (refine q_load 50 _ _ _ rfl rfl LB ?_; simp only [Act.put, List.setIfInBounds_toArray, List.set_cons_zero, List.set_cons_succ]; go_big_quiet_on)
                 | (go_big_quiet_op; refine ⟨_, fun _ _ => rfl, ?_⟩; go_big_quiet_on)
                 | (go_big_quiet_op; refine ⟨_, fun _ _ _ => rfl, ?_⟩; go_big_quiet_on)))
          refine wpQuiet_nil ?_
          go_wp2_with fail
          go_meet
          exact ⟨_, _, rfl, rfl, ⟨HLH.out, RH.out, Oh.out, NEhH.out⟩, HB.out, RA.out, RB.out, RW.out, RG.out, Os.out, Og.out⟩
      · refine segt_run rfl (by rfl) (fun K hK => ?_)
        go_simp
        have HLH := Lib.hid HB.out.size
        have HNAH := Lib.hid (Array.getElem?_eq_some_iff.1 RA.out).1
        have HNBH := Lib.hid (Array.getElem?_eq_some_iff.1 RB.out).1
        have HNWH := Lib.hid (Array.getElem?_eq_some_iff.1 RW.out).1
        have HNGH := Lib.hid (Array.getElem?_eq_some_iff.1 RG.out).1
        have NEsH := Lib.hid (own_ne_new Os.out)
        have NEgH := Lib.hid (own_ne_new Og.out)
        replace HB := Lib.hid (HB.out.alloc HB.out.size (.cells #[.slice none 0 0, .string ⟨#[]⟩] 26))
        replace RA := Lib.hid ((Below.heap_alloc _ (.cells #[.slice none 0 0, .string ⟨#[]⟩] 26) _ (Array.getElem?_eq_some_iff.1 RA.out).1).trans RA.out)
        replace RB := Lib.hid ((Below.heap_alloc _ (.cells #[.slice none 0 0, .string ⟨#[]⟩] 26) _ (Array.getElem?_eq_some_iff.1 RB.out).1).trans RB.out)
        replace RW := Lib.hid ((Below.heap_alloc _ (.cells #[.slice none 0 0, .string ⟨#[]⟩] 26) _ (Array.getElem?_eq_some_iff.1 RW.out).1).trans RW.out)
        replace Os := Lib.hid (Os.out.alloc (.cells #[.slice none 0 0, .string ⟨#[]⟩] 26))
        replace NEsW := Lib.hid (NEsW.out)
        replace NEgA := Lib.hid (NEgA.out)
        replace NEgB := Lib.hid (NEgB.out)
        replace NEgW := Lib.hid (NEgW.out)
        replace NEsg := Lib.hid (NEsg.out)
        replace NEgs := Lib.hid (NEgs.out)
        replace Og := Lib.hid (Og.out.alloc (.cells #[.slice none 0 0, .string ⟨#[]⟩] 26))
        replace NEsG := Lib.hid (NEsG.out)
        replace NEgG := Lib.hid (NEgG.out)
        replace RG := Lib.hid ((Below.heap_alloc _ (.cells #[.slice none 0 0, .string ⟨#[]⟩] 26) _ (Array.getElem?_eq_some_iff.1 RG.out).1).trans RG.out)
        replace NEsH := Lib.hid (NEsH.out)
        replace NEgH := Lib.hid (NEgH.out)
        have RH := Lib.hid (heap_alloc_new (wD16) (.cells #[.slice none 0 0, .string ⟨#[]⟩] 26))
        generalize World.alloc (wD16) (.cells #[.slice none 0 0, .string ⟨#[]⟩] 26) = w17_ at *
        generalize (wD16).heap.size = bH at *
        refine hK _ _ ⟨_, fun _ h => h, ⟨RA.out, RB.out⟩, ?_⟩
        clear hK K
        try simp only [Act.put, List.setIfInBounds_toArray, List.set_cons_zero, List.set_cons_succ]
        refine wpG_seg [] [1] 7 (by kernel_rfl) (by intro c a d v w h; cases d <;> exact h) (by kernel_rfl) ⟨RA.out, RB.out⟩ ?_
        try simp only [maskRows]
        refine wpQuiet_nil ?_
        refine List.forall_mem_singleton.2 ?_
        refine segt_run rfl (by rfl) (fun K hK => ?_)
        go_simp
        refine (TC.out _ HB.out hl).mono ?_
        rintro e w18_ ⟨vta, rfl, ho, hb⟩
        dsimp only
        obtain ⟨sata, snta, skta, rfl⟩ := own_shape ho
        have NEtaA := Lib.hid (own_ne_row (b := w.heap.size) ho (Array.getElem?_eq_some_iff.1 RA.out).1)
        have NEtaB := Lib.hid (own_ne_row (b := w.heap.size + 1) ho (Array.getElem?_eq_some_iff.1 RB.out).1)
        have NEtaW := Lib.hid (own_ne_row (b := bW) ho (Array.getElem?_eq_some_iff.1 RW.out).1)
        have NEtaG := Lib.hid (own_ne_row (b := bG) ho (Array.getElem?_eq_some_iff.1 RG.out).1)
        have NEtaH := Lib.hid (own_ne_row (b := bH) ho (Array.getElem?_eq_some_iff.1 RH.out).1)
        have NEgta := Lib.hid (own_ne Og.out ho)
        have NEtag := Lib.hid (own_ne' Og.out ho)
        have Ota := Lib.hid (own_base ho HB.out.size)
        clear ho
        replace HB := Lib.hid (HB.out.trans (hb.mono HB.out.size))
        replace RA := Lib.hid ((hb.block _ (Array.getElem?_eq_some_iff.1 RA.out).1).trans RA.out)
        replace RB := Lib.hid ((hb.block _ (Array.getElem?_eq_some_iff.1 RB.out).1).trans RB.out)
        replace RW := Lib.hid ((hb.block _ (Array.getElem?_eq_some_iff.1 RW.out).1).trans RW.out)
        replace Os := Lib.hid (own_below Os.out hb)
        replace NEsW := Lib.hid (NEsW.out)
        replace NEgA := Lib.hid (NEgA.out)
        replace NEgB := Lib.hid (NEgB.out)
        replace NEgW := Lib.hid (NEgW.out)
        replace NEsg := Lib.hid (NEsg.out)
        replace NEgs := Lib.hid (NEgs.out)
        replace Og := Lib.hid (own_below Og.out hb)
        replace NEsG := Lib.hid (NEsG.out)
        replace NEgG := Lib.hid (NEgG.out)
        replace RG := Lib.hid ((hb.block _ (Array.getElem?_eq_some_iff.1 RG.out).1).trans RG.out)
        replace NEsH := Lib.hid (NEsH.out)
        replace NEgH := Lib.hid (NEgH.out)
        replace RH := Lib.hid ((hb.block _ (Array.getElem?_eq_some_iff.1 RH.out).1).trans RH.out)
        replace NEtaA := Lib.hid (NEtaA.out)
        replace NEtaB := Lib.hid (NEtaB.out)
        replace NEtaW := Lib.hid (NEtaW.out)
        replace NEtaG := Lib.hid (NEtaG.out)
        replace NEtaH := Lib.hid (NEtaH.out)
        replace NEgta := Lib.hid (NEgta.out)
        replace NEtag := Lib.hid (NEtag.out)
        clear hb
        refine hK _ _ ⟨_, fun _ h => h, ⟨RA.out, RB.out⟩, ?_⟩
        clear hK K
        try simp only [Act.put, List.setIfInBounds_toArray, List.set_cons_zero, List.set_cons_succ]
        refine wpG_seg [] [3] 6 (by kernel_rfl) (by intro c a d v w h; cases d <;> exact h) (by kernel_rfl) ⟨RA.out, RB.out⟩ ?_
        try simp only [maskRows]
        refine wpQuiet_nil ?_
        refine List.forall_mem_singleton.2 ?_
        refine segt_run rfl (by rfl) (fun K hK => ?_)
        go_simp
        refine (TD.out _ HB.out hl2).mono ?_
        rintro e w19_ ⟨vtb, rfl, ho, hb⟩
        dsimp only
        obtain ⟨satb, sntb, sktb, rfl⟩ := own_shape ho
        have NEtbA := Lib.hid (own_ne_row (b := w.heap.size) ho (Array.getElem?_eq_some_iff.1 RA.out).1)
        have NEtbB := Lib.hid (own_ne_row (b := w.heap.size + 1) ho (Array.getElem?_eq_some_iff.1 RB.out).1)
        have NEtbW := Lib.hid (own_ne_row (b := bW) ho (Array.getElem?_eq_some_iff.1 RW.out).1)
        have NEtbG := Lib.hid (own_ne_row (b := bG) ho (Array.getElem?_eq_some_iff.1 RG.out).1)
        have NEtbH := Lib.hid (own_ne_row (b := bH) ho (Array.getElem?_eq_some_iff.1 RH.out).1)
        have NEgtb := Lib.hid (own_ne Og.out ho)
        have NEtbg := Lib.hid (own_ne' Og.out ho)
        have Otb := Lib.hid (own_base ho HB.out.size)
        clear ho
        replace HB := Lib.hid (HB.out.trans (hb.mono HB.out.size))
        replace RA := Lib.hid ((hb.block _ (Array.getElem?_eq_some_iff.1 RA.out).1).trans RA.out)
        replace RB := Lib.hid ((hb.block _ (Array.getElem?_eq_some_iff.1 RB.out).1).trans RB.out)
        replace RW := Lib.hid ((hb.block _ (Array.getElem?_eq_some_iff.1 RW.out).1).trans RW.out)
        replace Os := Lib.hid (own_below Os.out hb)
        replace NEsW := Lib.hid (NEsW.out)
        replace NEgA := Lib.hid (NEgA.out)
        replace NEgB := Lib.hid (NEgB.out)
        replace NEgW := Lib.hid (NEgW.out)
        replace NEsg := Lib.hid (NEsg.out)
        replace NEgs := Lib.hid (NEgs.out)
        replace Og := Lib.hid (own_below Og.out hb)
        replace NEsG := Lib.hid (NEsG.out)
        replace NEgG := Lib.hid (NEgG.out)
        replace RG := Lib.hid ((hb.block _ (Array.getElem?_eq_some_iff.1 RG.out).1).trans RG.out)
        replace NEsH := Lib.hid (NEsH.out)
        replace NEgH := Lib.hid (NEgH.out)
        replace RH := Lib.hid ((hb.block _ (Array.getElem?_eq_some_iff.1 RH.out).1).trans RH.out)
        replace NEtaA := Lib.hid (NEtaA.out)
        replace NEtaB := Lib.hid (NEtaB.out)
        replace NEtaW := Lib.hid (NEtaW.out)
        replace NEtaG := Lib.hid (NEtaG.out)
        replace NEtaH := Lib.hid (NEtaH.out)
        replace NEgta := Lib.hid (NEgta.out)
        replace NEtag := Lib.hid (NEtag.out)
        replace Ota := Lib.hid (own_below Ota.out hb)
        replace NEtbA := Lib.hid (NEtbA.out)
        replace NEtbB := Lib.hid (NEtbB.out)
        replace NEtbW := Lib.hid (NEtbW.out)
        replace NEtbG := Lib.hid (NEtbG.out)
        replace NEtbH := Lib.hid (NEtbH.out)
        replace NEgtb := Lib.hid (NEgtb.out)
        replace NEtbg := Lib.hid (NEtbg.out)
        clear hb
        refine hK _ _ ⟨_, fun _ h => h, ⟨RA.out, RB.out⟩, ?_⟩
        clear hK K
        try simp only [Act.put, List.setIfInBounds_toArray, List.set_cons_zero, List.set_cons_succ]
        refine wpG_seg [] [4] 5 (by kernel_rfl) (by intro c a d v w h; cases d <;> exact h) (by kernel_rfl) ⟨RA.out, RB.out⟩ ?_
        try simp only [maskRows]
        refine wpQuiet_nil ?_
        refine List.forall_mem_singleton.2 ?_
        refine segt_run rfl (by rfl) (fun K hK => ?_)
        go_simp
        refine (IC.out _ _ _ (keysAt_own Ota.out) (keysAt_own Otb.out) hl hl2).mono ?_
        rintro e w20_ ⟨vh, rfl, ho, hb⟩
        dsimp only
        obtain ⟨sah, snh, skh, rfl⟩ := own_shape ho
        have NEhA := Lib.hid (own_ne_row (b := w.heap.size) ho (Array.getElem?_eq_some_iff.1 RA.out).1)
        have NEhB := Lib.hid (own_ne_row (b := w.heap.size + 1) ho (Array.getElem?_eq_some_iff.1 RB.out).1)
        have NEhW := Lib.hid (own_ne_row (b := bW) ho (Array.getElem?_eq_some_iff.1 RW.out).1)
        have NEhG := Lib.hid (own_ne_row (b := bG) ho (Array.getElem?_eq_some_iff.1 RG.out).1)
        have NEhH := Lib.hid (own_ne_row (b := bH) ho (Array.getElem?_eq_some_iff.1 RH.out).1)
        have NEgh := Lib.hid (own_ne Og.out ho)
        have NEhg := Lib.hid (own_ne' Og.out ho)
        have Oh := Lib.hid (own_base ho HB.out.size)
        clear ho
        replace HB := Lib.hid (HB.out.trans (hb.mono HB.out.size))
        replace RA := Lib.hid ((hb.block _ (Array.getElem?_eq_some_iff.1 RA.out).1).trans RA.out)
        replace RB := Lib.hid ((hb.block _ (Array.getElem?_eq_some_iff.1 RB.out).1).trans RB.out)
        replace RW := Lib.hid ((hb.block _ (Array.getElem?_eq_some_iff.1 RW.out).1).trans RW.out)
        replace Os := Lib.hid (own_below Os.out hb)
        replace NEsW := Lib.hid (NEsW.out)
        replace NEgA := Lib.hid (NEgA.out)
        replace NEgB := Lib.hid (NEgB.out)
        replace NEgW := Lib.hid (NEgW.out)
        replace NEsg := Lib.hid (NEsg.out)
        replace NEgs := Lib.hid (NEgs.out)
        replace Og := Lib.hid (own_below Og.out hb)
        replace NEsG := Lib.hid (NEsG.out)
        replace NEgG := Lib.hid (NEgG.out)
        replace RG := Lib.hid ((hb.block _ (Array.getElem?_eq_some_iff.1 RG.out).1).trans RG.out)
        replace NEsH := Lib.hid (NEsH.out)
        replace NEgH := Lib.hid (NEgH.out)
        replace RH := Lib.hid ((hb.block _ (Array.getElem?_eq_some_iff.1 RH.out).1).trans RH.out)
        replace NEtaA := Lib.hid (NEtaA.out)
        replace NEtaB := Lib.hid (NEtaB.out)
        replace NEtaW := Lib.hid (NEtaW.out)
        replace NEtaG := Lib.hid (NEtaG.out)
        replace NEtaH := Lib.hid (NEtaH.out)
        replace NEgta := Lib.hid (NEgta.out)
        replace NEtag := Lib.hid (NEtag.out)
        replace Ota := Lib.hid (own_below Ota.out hb)
        replace NEtbA := Lib.hid (NEtbA.out)
        replace NEtbB := Lib.hid (NEtbB.out)
        replace NEtbW := Lib.hid (NEtbW.out)
        replace NEtbG := Lib.hid (NEtbG.out)
        replace NEtbH := Lib.hid (NEtbH.out)
        replace NEgtb := Lib.hid (NEgtb.out)
        replace NEtbg := Lib.hid (NEtbg.out)
        replace Otb := Lib.hid (own_below Otb.out hb)
        replace NEhA := Lib.hid (NEhA.out)
        replace NEhB := Lib.hid (NEhB.out)
        replace NEhW := Lib.hid (NEhW.out)
        replace NEhG := Lib.hid (NEhG.out)
        replace NEhH := Lib.hid (NEhH.out)
        replace NEgh := Lib.hid (NEgh.out)
        replace NEhg := Lib.hid (NEhg.out)
        clear hb
        refine hK _ _ ⟨_, fun _ h => h, ⟨RA.out, RB.out⟩, ?_⟩
        clear hK K
        try simp only [Act.put, List.setIfInBounds_toArray, List.set_cons_zero, List.set_cons_succ]
        refine wpG_seg [false, false, false, false, false, true, true, true] [9] 1 (by kernel_rfl) (by intro c a d v w h; cases d <;> exact h) (by kernel_rfl) ⟨RA.out, RB.out⟩ ?_
        try simp only [maskRows]
        repeat (first
          | go_big_quiet_skip
          | (go_big_quiet_want
             first
               | (go_big_quiet_op; go_big_quiet_on)
               | (refine q_load 50 _ _ _ rfl rfl LA ?_; simp only [Act.put, List.setIfInBounds_toArray, List.set_cons_zero, List.set_cons_succ]; go_big_quiet_on)
               | (refine q_load 50 _ _ _ rfl rfl LB ?_; simp only [Act.put, List.setIfInBounds_toArray, List.set_cons_zero, List.set_cons_succ]; go_big_quiet_on)
               | (go_big_quiet_op; refine ⟨_, fun _ _ => rfl, ?_⟩; go_big_quiet_on)
               | (go_big_quiet_op; refine ⟨_, fun _ _ _ => rfl, ?_⟩; go_big_quiet_on)))
        refine wpQuiet_nil ?_
        refine List.forall_mem_singleton.2 ?_
        obtain ⟨c0, c1, f0, f1⟩ := row2_of RH.out
        have hlt := (Array.getElem?_eq_some_iff.1 RH.out).1
        have RH' := Lib.hid (set2 (.slice sah snh skh) (.string Y) RH.out)
        have RA' := Lib.hid (row_set2 RA.out (Nat.ne_of_lt HNAH.out) (.slice sah snh skh) (.string Y))
        have RB' := Lib.hid (row_set2 RB.out (Nat.ne_of_lt HNBH.out) (.slice sah snh skh) (.string Y))
        have RW' := Lib.hid (row_set2 RW.out (Nat.ne_of_lt HNWH.out) (.slice sah snh skh) (.string Y))
        have RG' := Lib.hid (row_set2 RG.out (Nat.ne_of_lt HNGH.out) (.slice sah snh skh) (.string Y))
        have Os' := Lib.hid (Os.out.kept (grown2 _ bH (.slice sah snh skh) (.string Y)) (.inr NEsH.out))
        have Og' := Lib.hid (Og.out.kept (grown2 _ bH (.slice sah snh skh) (.string Y)) (.inr NEgH.out))
        have Ota' := Lib.hid (Ota.out.kept (grown2 _ bH (.slice sah snh skh) (.string Y)) (.inr NEtaH.out))
        have Otb' := Lib.hid (Otb.out.kept (grown2 _ bH (.slice sah snh skh) (.string Y)) (.inr NEtbH.out))
        have Oh' := Lib.hid (Oh.out.kept (grown2 _ bH (.slice sah snh skh) (.string Y)) (.inr NEhH.out))
        have HB' := Lib.hid (below2 HB.out HLH.out (.slice sah snh skh) (.string Y))
        refine segt_run rfl (by rfl) (fun K hK => ?_)
        go_simp
        replace RA := RA'
        replace RB := RB'
        replace RW := RW'
        replace RG := RG'
        replace RH := RH'
        replace Os := Os'
        replace Og := Og'
        replace Ota := Ota'
        replace Otb := Otb'
        replace Oh := Oh'
        replace HB := HB'
        clear RA' RB' RW' RG' RH' Os' Og' Ota' Otb' Oh' HB' c0 c1 f0 f1 hlt
        generalize (World.setCell (World.setCell w20_ ⟨bH, 0, none⟩ (.slice sah snh skh)) ⟨bH, 1, none⟩ (.string Y)) = w21_ at *
        refine hK _ _ ⟨_, fun _ h => h, ⟨RA.out, RB.out⟩, ?_⟩
        clear hK K
        try simp only [Act.put, List.setIfInBounds_toArray, List.set_cons_zero, List.set_cons_succ]
        refine wpG_end [false, false, false, false, false, false, false, false, false, false, true] (by kernel_rfl) (by intro c a d v w h; cases d <;> exact h) (by kernel_rfl) ⟨RA.out, RB.out⟩ ?_
        try simp only [maskRows]
        repeat (first
          | go_big_quiet_skip
          | (go_big_quiet_want
             first
               | (go_big_quiet_op; go_big_quiet_on)
               | (refine q_load 50 _ _ _ rfl rfl LA ?_; simp only [Act.put, List.setIfInBounds_toArray, List.set_cons_zero, List.set_cons_succ]; go_big_quiet_on)
               | (refine q_load 50 _ _ _ rfl rfl LB ?_; simp only [Act.put, List.setIfInBounds_toArray, List.set_cons_zero, List.set_cons_succ]; go_big_quiet_on)
               | (go_big_quiet_op; refine ⟨_, fun _ _ => rfl, ?_⟩; go_big_quiet_on)
               | (go_big_quiet_op; refine ⟨_, fun _ _ _ => rfl, ?_⟩; go_big_quiet_on)))
        refine wpQuiet_nil ?_
        go_wp2_with fail
        go_meet
        exact ⟨_, _, rfl, rfl, ⟨HLH.out, RH.out, Oh.out, NEhH.out⟩, HB.out, RA.out, RB.out, RW.out, RG.out, Os.out, Og.out⟩
    case rest =>
      clear HB RA RB RW Os NEsW NEgA NEgB NEgW NEsg NEgs Og NEsG NEgG RG
      obtain ⟨bH, vh, rfl, rfl, hN, hB0, hrA, hrB, hrW, hrG, hos, hog⟩ := hcut
      have HB := Lib.hid hB0
      have RA := Lib.hid hrA
      have RB := Lib.hid hrB
      have RW := Lib.hid hrW
      have RG := Lib.hid hrG
      have Os := Lib.hid hos
      have Og := Lib.hid hog
      have RH := Lib.hid hN.row
      have hoo := hN.own
      obtain ⟨sah, snh, skh, rfl⟩ := own_shape hoo
      have Oh := Lib.hid hoo
      have NEhH := Lib.hid hN.ne
      clear hoo hN hB0 hrA hrB hrW hrG hos hog
      obtain ⟨Hc0, Hc1, -, -⟩ := row2_of RH.out
      obtain ⟨Wc0, Wc1, -, -⟩ := row2_of RW.out
      go_wp2_with fail
      refine (eqcode_self _ _ M Y _ (keysAt_own Oh.out) (keysAt_own Os.out) (by first | omega | (simp; omega) | simp)).mono ?_
      rintro e w17_ ⟨rfl, hb⟩
      replace HB := Lib.hid (HB.out.trans (hb.mono HB.out.size))
      replace RA := Lib.hid ((hb.block _ (Array.getElem?_eq_some_iff.1 RA.out).1).trans RA.out)
      replace RB := Lib.hid ((hb.block _ (Array.getElem?_eq_some_iff.1 RB.out).1).trans RB.out)
      replace RW := Lib.hid ((hb.block _ (Array.getElem?_eq_some_iff.1 RW.out).1).trans RW.out)
      replace RG := Lib.hid ((hb.block _ (Array.getElem?_eq_some_iff.1 RG.out).1).trans RG.out)
      replace Os := Lib.hid (own_below Os.out hb)
      replace Og := Lib.hid (own_below Og.out hb)
      replace RH := Lib.hid ((hb.block _ (Array.getElem?_eq_some_iff.1 RH.out).1).trans RH.out)
      replace Oh := Lib.hid (own_below Oh.out hb)
      replace NEhH := Lib.hid (NEhH.out)
      clear hb
      clear Hc0 Hc1 Wc0 Wc1
      obtain ⟨Gc0, Gc1, -, -⟩ := row2_of RG.out
      go_wp2_with fail
      refine (heldcode_any _ M.length Y 1 _ (keysAt_marked Og.out) (by omega) (by omega)).mono ?_
      rintro e w18_ ⟨rfl, hb⟩
      replace HB := Lib.hid (HB.out.trans (hb.mono HB.out.size))
      replace RA := Lib.hid ((hb.block _ (Array.getElem?_eq_some_iff.1 RA.out).1).trans RA.out)
      replace RB := Lib.hid ((hb.block _ (Array.getElem?_eq_some_iff.1 RB.out).1).trans RB.out)
      replace RW := Lib.hid ((hb.block _ (Array.getElem?_eq_some_iff.1 RW.out).1).trans RW.out)
      replace RG := Lib.hid ((hb.block _ (Array.getElem?_eq_some_iff.1 RG.out).1).trans RG.out)
      replace Os := Lib.hid (own_below Os.out hb)
      replace Og := Lib.hid (own_below Og.out hb)
      replace RH := Lib.hid ((hb.block _ (Array.getElem?_eq_some_iff.1 RH.out).1).trans RH.out)
      replace Oh := Lib.hid (own_below Oh.out hb)
      replace NEhH := Lib.hid (NEhH.out)
      clear hb
      clear Gc0 Gc1
      go_wp2
      go_ret
      exact ⟨rfl, HB.out⟩
end Go.Proofs.Ytnknfmjpkphbpaa
/- Words of several readings: the word of keys by what they read by themselves, walked. -/
namespace Go.Proofs.Ytnknfmjpkphbpaa
open Go.ChangeShapes Go.WideShapes Go.ChangeAt Go.RowKit Go.BigFrame
set_option linter.unusedVariables false

/-- a word on its way, in its box b5; the result's place r -/
structure OfC (w W : World) (r b5 : Nat) (ks : List K2) (y : ByteArray) (vX : Value) : Prop where
  below : Below w.heap.size w W
  box : W.heap[b5]? = some (.cells #[vX, .string y] 26)
  own : W.ownsRow w.heap.size 41 2 vX ks.length (keyCells ks)
  ne : vX.ownBlock ≠ some b5
  ner : vX.ownBlock ≠ some r
  res : W.heap[r]? = some (.cells #[.slice none 0 0, .string ⟨#[]⟩] 26)
  lt : w.heap.size ≤ r ∧ r < b5
theorem OfC.next {w W W' : World} {r b5 : Nat} {ks : List K2} {y : ByteArray} {vX : Value} (h : OfC w W r b5 ks y vX) (hb : Below W.heap.size W W') : OfC w W' r b5 ks y vX :=
  ⟨h.below.trans (hb.mono h.below.size), (hb.block _ (Array.getElem?_eq_some_iff.1 h.box).1).trans h.box, own_below h.own hb, h.ne, h.ner, (hb.block _ (Array.getElem?_eq_some_iff.1 h.res).1).trans h.res, h.lt⟩
theorem OfC.sets {w W : World} {r b5 : Nat} {ks : List K2} {y : ByteArray} {vX : Value} (h : OfC w W r b5 ks y vX) (z : ByteArray) : OfC w (W.setCell ⟨b5, 1, none⟩ (.string z)) r b5 ks z vX := by
  have hl := h.lt
  refine ⟨h.below.setCell (p := ⟨b5, 1, none⟩) (by show w.heap.size ≤ b5; omega) _, set_cellsD (j := 1) _ h.box, h.own.kept (Lib.grownBy_setCell W b5 1 _) (.inr fun e => h.ne e), h.ne, h.ner, ?_, hl⟩
  rw [Below.heap_setCell _ _ _ _ (by simp; omega)]
  exact h.res
structure OfF (w W : World) (r b5 : Nat) (ks : List K2) (y : ByteArray) (v : Value) : Prop where
  c0 : W.cell? ⟨b5, 0, none⟩ = some v
  c1 : W.cell? ⟨b5, 1, none⟩ = some (.string y)
  d0 : W.cell? ⟨r, 0, none⟩ = some (.slice none 0 0)
  d1 : W.cell? ⟨r, 1, none⟩ = some (.string ⟨#[]⟩)
  g0 : W.frozen? ⟨r, 0, none⟩ = false
  g1 : W.frozen? ⟨r, 1, none⟩ = false
  load : (loadVar 26 ⟨r, 0, none⟩).run Try.prog ((W.setCell ⟨r, 0, none⟩ v).setCell ⟨r, 1, none⟩ (.string y)) = .ok (.agg #[v, .string y]) ((W.setCell ⟨r, 0, none⟩ v).setCell ⟨r, 1, none⟩ (.string y))
  fin : ((W.setCell ⟨r, 0, none⟩ v).setCell ⟨r, 1, none⟩ (.string y)).ownsRow w.heap.size 41 2 v ks.length (keyCells ks) ∧ Below w.heap.size w ((W.setCell ⟨r, 0, none⟩ v).setCell ⟨r, 1, none⟩ (.string y))
theorem OfC.fin {w W : World} {r b5 : Nat} {ks : List K2} {y : ByteArray} {vX : Value} (h : OfC w W r b5 ks y vX) : OfF w W r b5 ks y vX := by
  obtain ⟨c0, c1, -, -⟩ := row2_of h.box
  obtain ⟨d0, d1, g0, g1⟩ := row2_of h.res
  exact ⟨c0, c1, d0, d1, g0, g1, cd_res h.res vX y, h.own.kept (grown2 W _ _ _) (.inr fun e => h.ner e), below2 h.below h.lt.1 vX (.string y)⟩
set_option maxRecDepth 100000 in
set_option maxHeartbeats 2000000 in
theorem l05of_any (v : Value) (ks : List K2) (w : World) (h : keysAt w v ks) (hs : ks.length ≤ 1000000) (hk4 : ∀ k ∈ ks, (0 ≤ k.1 ∧ k.1 ≤ 1000) ∧ (0 ≤ k.2 ∧ k.2 ≤ 1000)) :
    Calls Try.prog 81 #[v] w fun e w' => ∃ v' y, e = .returned (.agg #[v', .string y]) ∧ y.size = 4 ∧ w'.ownsRow w.heap.size 41 2 v' ks.length (keyCells ks) ∧ Below w.heap.size w w' := by
  have hb1 := (Below.refl w.heap.size w).alloc (Nat.le_refl _) (.cells #[.slice none 0 0, .string ⟨#[]⟩] 26)
  have hr1 := heap_alloc_new w (.cells #[.slice none 0 0, .string ⟨#[]⟩] 26)
  have hb2 := hb1.alloc hb1.size (.cells #[] 41)
  have hr2 := (Below.heap_alloc (w.alloc (.cells #[.slice none 0 0, .string ⟨#[]⟩] 26)) (.cells #[] 41) _ (Array.getElem?_eq_some_iff.1 hr1).1).trans hr1
  have e1 : (w.alloc (.cells #[.slice none 0 0, .string ⟨#[]⟩] 26)).heap.size = w.heap.size + 1 := by simp
  have ho2 := World.ownsRow_made (base := w.heap.size + 1) (e := 41) (size := 2) (w.alloc (.cells #[.slice none 0 0, .string ⟨#[]⟩] 26)) #[] 0 (by simp) (by unfold maxLen; omega) rfl
  rw [e1] at ho2
  have HB2 := Lib.hid hb2; have HR2 := Lib.hid hr2; have HO2 := Lib.hid ho2
  have HK2 := Lib.hid (keysAt_below h hb2)
  have hz2 : w.heap.size + 2 = ((w.alloc (.cells #[.slice none 0 0, .string ⟨#[]⟩] 26)).alloc (.cells #[] 41)).heap.size := by simp
  have HZ2 := Lib.hid hz2
  obtain ⟨a, cap, rfl, hcap, hcells⟩ := h
  clear hb1 hr1 hb2 hr2 e1 ho2 hz2
  go_enter Try.func81, Try.ntmps81
  go_wp2_with (at_builtin; refine wpList_append_key rfl (.tmp 5) (.tmp 6) rfl HO2.out _ ks HK2.out rfl rfl (by omega) (by have := HZ2.out; omega) ?_; intro v3 w3 hown3 hgr3 hw3)
  obtain ⟨a3, n3, k3, rfl⟩ := own_shape hown3
  have hob : ∀ g, (Value.slice (some ⟨w.heap.size + 1, 0, none⟩) 0 0).ownBlock = some g → w.heap.size + 1 = g := fun g e => Option.some.inj e
  have hB3 := HB2.out.grown hgr3 HB2.out.size (fun g e => by have := hob g e; omega)
  have hR3 := (hgr3.block _ (Array.getElem?_eq_some_iff.1 HR2.out).1 (fun e => by first | (have := hob _ e; omega) | (have := hob _ e.symm; omega))).trans HR2.out
  clear hob
  simp only [Nat.zero_add, List.nil_append] at hown3
  have hE : OfC w (w3.alloc (.cells #[.slice a3 n3 k3, .string z4] 26)) w.heap.size w3.heap.size ks z4 (.slice a3 n3 k3) :=
    ⟨hB3.alloc hB3.size _, heap_alloc_new w3 _, (own_base hown3 (by omega)).alloc _, fun e => Nat.lt_irrefl _ (hown3.lt _ e).2, fun e => by have := (hown3.lt _ e).1; omega, (Below.heap_alloc w3 _ _ (Array.getElem?_eq_some_iff.1 hR3).1).trans hR3, Nat.le_refl _, (Array.getElem?_eq_some_iff.1 hR3).1⟩
  have HE := Lib.hid hE
  clear hown3 hgr3 hw3 hB3 hR3 hE HB2 HR2 HO2 HK2 HZ2
  go_wp2_with fail
  refine (szero_any _).mono ?_
  rintro e w4 ⟨rfl, rfl⟩
  have hl5 := HE.out.lt
  go_wp2_with fail
  generalize w4.alloc (.cells #[.slice a3 n3 k3, .string z4] 26) = W4 at *
  generalize w4.heap.size = b5 at *
  go_loopw [4] (fun i wr => ∃ (k : Nat) (X : ByteArray), k ≤ ks.length ∧ i = .int .i64 k ∧ X.size = 4 ∧ OfC w wr w.heap.size b5 ks X (.slice a3 n3 k3)) (fun i _ => ks.length - (intOf i).toNat)
  case atStart => exact ⟨0, z4, Nat.zero_le _, rfl, rfl, HE.out⟩
  case round =>
    obtain ⟨k, X, hk, rfl, hX, hO⟩ := hrel
    have HO := Lib.hid hO
    clear hO HE hl5
    by_cases hlt : k < ks.length
    · obtain ⟨g, off, rfl, hg, hcs⟩ := hcells.resolve_left (by omega)
      have z0 : (0 : Int) ≤ (k : Int) := by omega
      have z1 : (k : Int) < (ks.length : Int) := by omega
      have c1 := hcs k hlt
      have hkb := hk4 (ks.getD k (0, 0)) (by rw [List.getD, List.getElem?_eq_getElem hlt]; exact List.getElem_mem hlt)
      clear hcells hcs hk4
      generalize ks.getD k (0, 0) = kx at *
      have hz := truthV_size kx hkb.1 hkb.2
      have TR := Lib.hid (fun w' => truth_any kx w' hkb.1 hkb.2)
      generalize truthV kx = tz at *
      obtain ⟨p, q⟩ := kx
      unfold kv at TR
      dsimp only at TR c1 hkb
      rename_i wr
      have hB := HO.out.below
      have k0 : wr.cell? ⟨g, off + k * 2, none⟩ = some (.int .i64 p) := (hB.cell (p := ⟨g, off + k * 2, none⟩) hg).trans c1.1
      have k1 : wr.cell? ⟨g, off + k * 2 + 1, none⟩ = some (.int .i64 q) := (hB.cell (p := ⟨g, off + k * 2 + 1, none⟩) hg).trans c1.2
      obtain ⟨b0, b1, bf0, bf1⟩ := row2_of HO.out.box
      have hl5 := (Array.getElem?_eq_some_iff.1 HO.out.box).1
      have SX := Lib.hid (fun w' => sxor_any X tz w' (by omega) (by omega))
      have hY : (xorS X tz).size = 4 := by rw [xorS_size X tz (by omega)]; exact hX
      generalize xorS X tz = Y at *
      clear hB c1 hg hkb hz hX
      go_wp2_with fail
      go_region_law (first
        | (go_simp
           go_at_call 86
           refine (TR.out _).mono ?_
           rintro e w5 ⟨rfl, hb5⟩
           dsimp only
           have HO5 := Lib.hid (OfC.next (OfC.next HO.out (by first | exact Below.refl _ _ | exact (Below.refl _ _).drew)) hb5)
           have hr5 := row2_of HO5.out.box
           obtain ⟨d0, d1, df0, df1⟩ := hr5
           have hl6 := (Array.getElem?_eq_some_iff.1 HO5.out.box).1
           clear hb5 k0 k1 b0 b1 bf0 bf1 TR HO hl5)
        | (go_simp
           go_at_call 50
           refine (SX.out _).mono ?_
           rintro e w6 ⟨rfl, hb6⟩
           dsimp only
           have HO6 := Lib.hid (OfC.next (OfC.next HO5.out (by first | exact Below.refl _ _ | exact (Below.refl _ _).drew)) hb6)
           have hr6 := row2_of HO6.out.box
           obtain ⟨e0, e1, ef0, ef1⟩ := hr6
           have hl7 := (Array.getElem?_eq_some_iff.1 HO6.out.box).1
           clear hb6 d0 d1 df0 df1 SX HO5 hl6))
      all_goals
        have HO7 := Lib.hid (HO6.out.sets Y)
        clear HO6 e0 e1 ef0 ef1 hl7
        go_wp2
        exact ⟨⟨k + 1, Y, by omega, by go_num, hY, HO7.out⟩, by simp [intOf]; omega⟩
    · obtain rfl : k = ks.length := by omega
      clear hcells hk4
      have HF := Lib.hid HO.out.fin
      have hF := HF.out
      obtain ⟨c0, c1, d0, d1, g0, g1, -, -⟩ := hF
      have hl5 := (Array.getElem?_eq_some_iff.1 HO.out.box).1
      have hlr := (Array.getElem?_eq_some_iff.1 HO.out.res).1
      go_wp2_with fail
      refine bodyPost_ret (v := .agg #[.slice a3 n3 k3, .string X]) ?_ rfl ⟨_, _, rfl, hX, HF.out.fin.1, HF.out.fin.2⟩
      rw [results_cell (p := 2) (ty := 26) (by kernel_rfl)]
      have l2 := HF.out.load
      simp [asAddr, Result.andThen, l2]
end Go.Proofs.Ytnknfmjpkphbpaa
/- Chapter 3's draws: lists of keys. -/
namespace Go.Proofs.Ytnknfmjpkphbpaa
open Go.ChangeShapes Go.WideShapes Go.ChangeAt Go.RowKit
set_option linter.unusedVariables false

def kBd (k : K2) : Prop := -5 ≤ k.1 ∧ k.1 ≤ 100 ∧ -5 ≤ k.2 ∧ k.2 ≤ 100
theorem mergeL_mem (both : Bool) (P : K2 → Prop) : ∀ (a b : List K2), (∀ k ∈ a, P k) → (∀ k ∈ b, P k) → ∀ k ∈ mergeL both a b, P k
  | a, [], ha, _ => by rw [mergeL_nil_r]; exact ha
  | [], b, _, hb => by rw [mergeL_nil_l]; exact hb
  | x :: a, y :: b, ha, hb => by
    have hx := ha x (by simp)
    have hy := hb y (by simp)
    have ha2 : ∀ k ∈ a, P k := fun k hk => ha k (by simp [hk])
    have hb2 : ∀ k ∈ b, P k := fun k hk => hb k (by simp [hk])
    intro k hk
    rw [mergeL_cons] at hk
    split at hk
    · rcases List.mem_cons.1 hk with rfl | h
      · exact hx
      · exact mergeL_mem both P a (y :: b) ha2 hb k h
    · split at hk
      · rcases List.mem_cons.1 hk with rfl | h
        · exact hy
        · exact mergeL_mem both P (x :: a) b ha hb2 k h
      · rcases List.mem_append.1 hk with h | h
        · cases both with
          | true => rw [if_pos rfl] at h; rcases List.mem_singleton.1 h with rfl; exact hx
          | false => simp at h
        · exact mergeL_mem both P a b ha2 hb2 k h
termination_by a b => a.length + b.length
theorem mergeV_len (both : Bool) (a b : List K2) : (mergeV both a b).length ≤ a.length + b.length := by
  unfold mergeV
  split
  · exact mergeL_len both a b
  · simp
theorem mergeV_mem (both : Bool) (P : K2 → Prop) (a b : List K2) (ha : ∀ k ∈ a, P k) (hb : ∀ k ∈ b, P k) : ∀ k ∈ mergeV both a b, P k := by
  unfold mergeV
  split
  · exact mergeL_mem both P a b ha hb
  · simp
theorem keysAt_lit (w : World) (p q : Int) : keysAt (w.alloc (.cells #[.int .i64 p, .int .i64 q] 41)) (.slice (some ⟨w.heap.size, 0, none⟩) 1 1) [(p, q)] := by
  refine ⟨_, 1, rfl, Nat.le_refl _, .inr ⟨w.heap.size, 0, rfl, by simp, fun i hi => ?_⟩⟩
  obtain rfl : i = 0 := by simpa using hi
  simp

def kDr (k : K2) : Prop := 1 ≤ k.1 ∧ k.1 ≤ 5 ∧ 1 ≤ k.2 ∧ k.2 ≤ 2
set_option maxRecDepth 100000 in
set_option maxHeartbeats 1000000 in
theorem keysN_any (m n₀ g len cap : Nat) (a : Option Addr) (zs : List Int) (c : Cu) (w : World) (hs : DrawSt n₀ w g a len cap zs c.i c.h) (hm5 : m ≤ 5) :
    Calls Try.prog 94 #[.pointer (some ⟨g, 0, none⟩), .int .i64 (m : Int)] w fun e w' => ∃ (v : Value) (ks : List K2) (c' : Cu), e = .returned v ∧ ks.length ≤ m ∧ (∀ k ∈ ks, kDr k) ∧
      w'.ownsRow w.heap.size 41 2 v ks.length (keyCells ks) ∧ Drew n₀ g a len cap zs c' w w' := by
  have hd0 : Drew n₀ g a len cap zs c w w := ⟨hs, Below.refl _ _, World.grownBy.refl _ _⟩
  have hgl := hs.lt
  have hown0 := World.ownsRow_made (base := w.heap.size) (e := 41) (size := 2) w #[] 0 (Nat.le_refl _) (by unfold maxLen; omega) rfl
  have ew : IntKind.i64.wrap ((m : Int) + 1) = (m : Int) + 1 := IntWalk.i64_in _ (by omega)
  go_enter Try.func94, Try.ntmps94
  go_wp2_with fail
  have hd1 := hd0.alloc (.cells #[] 41)
  generalize w.alloc (.cells #[] 41) = W at *
  refine (below_any n₀ g len cap a zs c ((m : Int) + 1) _ hd1.st (by omega)).mono ?_
  rintro e w1 ⟨rfl, hd⟩
  have hbd := belowF_bd zs len c ((m : Int) + 1)
  generalize belowF zs len c ((m : Int) + 1) = b at *
  obtain ⟨x, c1⟩ := b
  dsimp only at *
  obtain ⟨n, rfl⟩ : ∃ n : Nat, x = n := ⟨x.toNat, by omega⟩
  have hD1 := hd1.trans hd
  have hown1 := hown0.kept hd.grown (.inr fun e => by have := (hown0.lt g e).1; omega)
  have hn5 : n ≤ m := by omega
  clear hd hd1 hd0 hown0 hs hbd
  go_wp2
  go_loopw [5, 7] (fun v i wr => ∃ (k : Nat) (ks : List K2) (c' : Cu), k ≤ n ∧ i = .int .i64 k ∧ ks.length ≤ k ∧ (∀ k ∈ ks, kDr k) ∧ wr.ownsRow w.heap.size 41 2 v ks.length (keyCells ks) ∧ Drew n₀ g a len cap zs c' w wr) (fun _ i _ => n - (intOf i).toNat)
  case atStart => exact ⟨0, [], c1, Nat.zero_le _, rfl, by simp, by simp, hown1, hD1⟩
  case round =>
    obtain ⟨k, ks, c2, hk, rfl, hkl, hkb, hown, hD⟩ := hrel
    clear hown1 hD1
    by_cases hlt : k < n
    · have z1 : (k : Int) < (n : Int) := by omega
      have hgw := hD.st.lt
      have hwz : w.heap.size ≤ wr.heap.size := hD.grown.size
      go_wp2_with fail
      refine (key_any n₀ g len cap a zs c2 wr hD.st).mono ?_
      rintro e w2 ⟨⟨p, q⟩, c3, rfl, hpq, hd2⟩
      dsimp only at hpq
      have hD2 := hD.trans hd2
      have hown2 := hown.kept hd2.grown (.inr fun e => by have := (hown.lt g e).1; omega)
      have hwz2 : w.heap.size ≤ w2.heap.size := hD2.grown.size
      clear hown hD hd2
      unfold kv
      dsimp only
      go_wp2_with fail
      have hka := keysAt_own (hown2.alloc (.cells #[.int .i64 p, .int .i64 q] 41))
      have hkb2 := keysAt_lit w2 p q
      refine (sjoined_any _ _ ks [(p, q)] _ hka hkb2 (by omega) (by simp)).mono ?_
      rintro e w3 ⟨v3, rfl, ho3, hb3⟩
      have hD3 := (hD2.alloc (.cells #[.int .i64 p, .int .i64 q] 41)).grow hgl (grown_of_below' hb3 none) (fun b e => by cases e)
      have hml := mergeV_len true ks [(p, q)]
      have hmm := mergeV_mem true kDr ks [(p, q)] hkb (by intro z hz; rcases List.mem_singleton.1 hz with rfl; exact hpq)
      have ho4 := own_base (base := w.heap.size) ho3 (by simp; omega)
      generalize mergeV true ks [(p, q)] = ms at *
      have hml2 : ms.length ≤ k + 1 := by simp at hml; omega
      have R := Lib.hid (And.intro hmm (And.intro ho4 hD3))
      clear hmm ho4 hD3 ho3 hb3 hka hkb2 hown2 hD2 hkb
      go_wp2
      exact ⟨⟨k + 1, ms, c3, by omega, by go_num, hml2, R.out.1, R.out.2.1, R.out.2.2⟩, by simp [intOf]; omega⟩
    · obtain rfl : k = n := by omega
      go_wp2
      go_ret
      exact ⟨_, ks, c2, rfl, by omega, hkb, hown, hD⟩
theorem keys_any (n₀ g len cap : Nat) (a : Option Addr) (zs : List Int) (c : Cu) (w : World) (hs : DrawSt n₀ w g a len cap zs c.i c.h) :
    Calls Try.prog 94 #[.pointer (some ⟨g, 0, none⟩), .int .i64 5] w fun e w' => ∃ (v : Value) (ks : List K2) (c' : Cu), e = .returned v ∧ ks.length ≤ 5 ∧ (∀ k ∈ ks, kBd k) ∧
      w'.ownsRow w.heap.size 41 2 v ks.length (keyCells ks) ∧ Drew n₀ g a len cap zs c' w w' := by
  refine (keysN_any 5 n₀ g len cap a zs c w hs (Nat.le_refl _)).mono ?_
  rintro e w1 ⟨v, ks, c1, rfl, hl, hb, ho, hd⟩
  exact ⟨v, ks, c1, rfl, hl, fun k hk => by have h := hb k hk; unfold kDr at h; unfold kBd; omega, ho, hd⟩
set_option maxRecDepth 100000 in
set_option maxHeartbeats 1000000 in
theorem anykeys_any (n₀ g len cap : Nat) (a : Option Addr) (zs : List Int) (c : Cu) (w : World) (hs : DrawSt n₀ w g a len cap zs c.i c.h) :
    Calls Try.prog 79 #[.pointer (some ⟨g, 0, none⟩)] w fun e w' => ∃ (v : Value) (ks : List K2) (c' : Cu), e = .returned v ∧ ks.length ≤ 6 ∧ (∀ k ∈ ks, kBd k) ∧
      w'.ownsRow w.heap.size 41 2 v ks.length (keyCells ks) ∧ Drew n₀ g a len cap zs c' w w' := by
  have hgl := hs.lt
  obtain ⟨i0, hi, hz0, hz1, hz2⟩ := info_parts infoK
  go_enter Try.func79, Try.ntmps79
  go_wp2_with fail
  refine (keys_any n₀ g len cap a zs c w hs).mono ?_
  rintro e w1 ⟨v, ks, c1, rfl, hkl, hkb, hown, hD⟩
  clear hs
  go_wp2_with fail
  refine (below_any n₀ g len cap a zs c1 10 w1 hD.st (by omega)).mono ?_
  rintro e w2 ⟨rfl, hd2⟩
  have hbd := belowF_bd zs len c1 10
  generalize belowF zs len c1 10 = b at *
  obtain ⟨x, c2⟩ := b
  dsimp only at *
  have hD2 := hD.trans hd2
  have hown2 := hown.kept hd2.grown (.inr fun e => by have := (hown.lt g e).1; omega)
  clear hown hD hd2
  rcases (by omega : x = 0 ∨ x = 1 ∨ (¬ x = 0 ∧ ¬ x = 1)) with rfl | rfl | ⟨hx0, hx1⟩
  ·
    go_wp2_with fail
    refine (odd_any n₀ g len cap a zs c2 w2 hD2.st).mono ?_
    rintro e w3 ⟨⟨p, q⟩, c3, rfl, hpq, hd3⟩
    dsimp only at hpq
    have hD3 := hD2.trans hd3
    have hown3 := hown2.kept hd3.grown (.inr fun e => by have := (hown2.lt g e).1; omega)
    have hwz3 : w.heap.size ≤ w3.heap.size := hD3.grown.size
    clear hown2 hD2 hd3
    unfold kv
    dsimp only
    go_wp2_with (at_builtin; refine wpList_append_own _ rfl (.tmp 10) (.tmp 13) 24 rfl w.heap.size 41 i0 (.agg #[.int .i64 0, .int .i64 0]) 2 16 Try.underlying24 hi hz0 hz1 hz2 rfl (by decide) _ _ _ rfl (hown3.alloc _) ⟨w3.heap.size, 0, none⟩ 1 1 [.int .i64 p, .int .i64 q] rfl rfl (cell_two_new _ _ _ _) (by intro u hu; simp at hu; rcases hu with rfl | rfl <;> rfl) (by unfold maxLen; omega) (by omega) (by simp; omega) ?_; intro v' w5 hown' hgrow _)
    have hkb2 : ∀ z ∈ ks ++ [(p, q)], kBd z := by
      intro z hz
      rcases List.mem_append.1 hz with h | h
      · exact hkb z h
      · rcases List.mem_singleton.1 h with rfl
        unfold kBd; dsimp only; omega
    have R : w5.ownsRow w.heap.size 41 2 v' (ks ++ [(p, q)]).length (keyCells (ks ++ [(p, q)])) ∧ Drew n₀ g a len cap zs c3 w w5 := by
      refine ⟨by rw [keyCells_snoc]; simpa using hown', (hD3.alloc _).grow hgl hgrow (fun b e => (hown3.lt b e).1)⟩
    have HR := Lib.hid R
    clear R hown' hgrow hown3 hD3
    go_wp2
    go_ret
    exact ⟨_, ks ++ [(p, q)], c3, rfl, by simp; omega, hkb2, HR.out.1, HR.out.2⟩
  ·
    go_wp2_with fail
    refine (key_any n₀ g len cap a zs c2 w2 hD2.st).mono ?_
    rintro e w3 ⟨⟨p, q⟩, c3, rfl, hpq, hd3⟩
    dsimp only at hpq
    have hD3 := hD2.trans hd3
    have hown3 := hown2.kept hd3.grown (.inr fun e => by have := (hown2.lt g e).1; omega)
    have hwz3 : w.heap.size ≤ w3.heap.size := hD3.grown.size
    clear hown2 hD2 hd3
    unfold kv
    dsimp only
    go_wp2_with (at_builtin; refine wpList_append_own _ rfl (.tmp 17) (.tmp 20) 24 rfl w.heap.size 41 i0 (.agg #[.int .i64 0, .int .i64 0]) 2 16 Try.underlying24 hi hz0 hz1 hz2 rfl (by decide) _ _ _ rfl (hown3.alloc _) ⟨w3.heap.size, 0, none⟩ 1 1 [.int .i64 p, .int .i64 q] rfl rfl (cell_two_new _ _ _ _) (by intro u hu; simp at hu; rcases hu with rfl | rfl <;> rfl) (by unfold maxLen; omega) (by omega) (by simp; omega) ?_; intro v' w5 hown' hgrow _)
    have hkb2 : ∀ z ∈ ks ++ [(p, q)], kBd z := by
      intro z hz
      rcases List.mem_append.1 hz with h | h
      · exact hkb z h
      · rcases List.mem_singleton.1 h with rfl
        unfold kBd; dsimp only; omega
    have R : w5.ownsRow w.heap.size 41 2 v' (ks ++ [(p, q)]).length (keyCells (ks ++ [(p, q)])) ∧ Drew n₀ g a len cap zs c3 w w5 := by
      refine ⟨by rw [keyCells_snoc]; simpa using hown', (hD3.alloc _).grow hgl hgrow (fun b e => (hown3.lt b e).1)⟩
    have HR := Lib.hid R
    clear R hown' hgrow hown3 hD3
    go_wp2
    go_ret
    exact ⟨_, ks ++ [(p, q)], c3, rfl, by simp; omega, hkb2, HR.out.1, HR.out.2⟩
  · have e0 : (x == 0) = false := beq_eq_false_iff_ne.2 hx0
    have e1 : (x == 1) = false := beq_eq_false_iff_ne.2 hx1
    go_wp2
    go_ret
    exact ⟨_, ks, c2, rfl, by omega, hkb, hown2, hD2⟩
end Go.Proofs.Ytnknfmjpkphbpaa
/- Words of several readings: a right word drawn, walked. -/
namespace Go.Proofs.Ytnknfmjpkphbpaa
open Go.ChangeShapes Go.WideShapes Go.ChangeAt Go.RowKit Go.BigFrame
set_option linter.unusedVariables false

/-- keys drawn, the result's place beside them -/
structure CdL (w W : World) (n₀ g len cap : Nat) (a : Option Addr) (zs : List Int) (c : Cu) (v : Value) (ks : List K2) : Prop where
  own : W.ownsRow (w.heap.size + 1) 41 2 v ks.length (keyCells ks)
  drew : Drew n₀ g a len cap zs c w W
  res : W.heap[w.heap.size]? = some (.cells #[.slice none 0 0, .string ⟨#[]⟩] 26)
  bd : ∀ k ∈ ks, kDr k
  few : ks.length ≤ 4
set_option maxRecDepth 100000 in
set_option maxHeartbeats 1000000 in
theorem l05code_any (n₀ g len cap : Nat) (a : Option Addr) (zs : List Int) (c : Cu) (w : World) (hs : DrawSt n₀ w g a len cap zs c.i c.h) :
    Calls Try.prog 77 #[.pointer (some ⟨g, 0, none⟩)] w fun e w' => ∃ (v : Value) (ks : List K2) (y : ByteArray) (c' : Cu), e = .returned (.agg #[v, .string y]) ∧ 1 ≤ ks.length ∧ ks.length ≤ 4 ∧ (∀ k ∈ ks, kDr k) ∧ y.size = 4 ∧
      w'.ownsRow w.heap.size 41 2 v ks.length (keyCells ks) ∧ Drew n₀ g a len cap zs c' w w' := by
  have hd0 : Drew n₀ g a len cap zs c w w := ⟨hs, Below.refl _ _, World.grownBy.refl _ _⟩
  have hgl := hs.lt
  have hd1 := hd0.alloc (.cells #[.slice none 0 0, .string ⟨#[]⟩] 26)
  have hr1 := heap_alloc_new w (.cells #[.slice none 0 0, .string ⟨#[]⟩] 26)
  have hz1 : (w.alloc (.cells #[.slice none 0 0, .string ⟨#[]⟩] 26)).heap.size = w.heap.size + 1 := by simp
  have HD1 := Lib.hid hd1; have HR1 := Lib.hid hr1; have HZ1 := Lib.hid hz1
  clear hd0 hd1 hr1 hz1 hs
  go_enter Try.func77, Try.ntmps77
  go_wp2_with fail
  generalize w.alloc (.cells #[.slice none 0 0, .string ⟨#[]⟩] 26) = W at *
  refine (keysN_any 4 n₀ g len cap a zs c W HD1.out.st (by omega)).mono ?_
  rintro e w1 ⟨v1, ks1, c1, rfl, hl1, hb1, ho1, hd2⟩
  rw [HZ1.out] at ho1
  obtain ⟨a1, n1, k1, rfl⟩ := own_shape ho1
  have HL := Lib.hid (CdL.mk (w := w) ho1 (HD1.out.trans hd2) ((hd2.grown.block _ (Array.getElem?_eq_some_iff.1 HR1.out).1 (fun e => by cases e; omega)).trans HR1.out) hb1 hl1)
  clear ho1 hd2 hb1 hl1 HD1 HR1 HZ1
  go_wp2_with fail
  go_loopw [3] (fun x wr => ∃ (aa : Option Addr) (cc : Nat) (ks : List K2) (c' : Cu), x = .slice aa ks.length cc ∧ CdL w wr n₀ g len cap a zs c' (.slice aa ks.length cc) ks) (fun x _ => match x with | .slice _ n _ => if n = 0 then 1 else 0 | _ => 0)
  case atStart =>
    have hn : n1 = ks1.length := by
      rcases HL.out.own.2 with ⟨h, h0⟩ | ⟨g', cap', cur, h, _⟩
      · cases h; exact h0.symm
      · cases h; rfl
    subst hn
    exact ⟨a1, k1, ks1, c1, rfl, HL.out⟩
  case round =>
    clear HL
    obtain ⟨aa, cc, ks, c2, rfl, hC⟩ := hrel
    have HC := Lib.hid hC
    clear hC
    by_cases h0 : ks.length = 0
    · have i0 : (ks.length : Int) = 0 := by omega
      rename_i wr
      go_wp2_with fail
      refine (key_any n₀ g len cap a zs c2 wr HC.out.drew.st).mono ?_
      rintro e w3 ⟨⟨p, q⟩, c3, rfl, hpq, hd3⟩
      dsimp only at hpq
      have hD3 := HC.out.drew.trans hd3
      have hR3 := (hd3.grown.block _ (Array.getElem?_eq_some_iff.1 HC.out.res).1 (fun e => by cases e; omega)).trans HC.out.res
      have hlr := (Array.getElem?_eq_some_iff.1 hR3).1
      have HN := Lib.hid (CdL.mk (w := w) (own_one (w := w3) (base := w.heap.size + 1) p q (by omega)) (hD3.alloc _) ((Below.heap_alloc w3 _ _ hlr).trans hR3) (fun k hk => by rcases List.mem_singleton.1 hk with rfl; exact hpq) (by simp))
      clear hd3 hD3 hR3 HC hlr
      unfold kv
      dsimp only
      go_wp2
      exact ⟨⟨_, 1, [(p, q)], c3, rfl, HN.out⟩, by simp [h0]⟩
    · have i0 : ¬ (ks.length : Int) = 0 := by omega
      rename_i wr
      go_wp2_with fail
      refine (l05of_any _ ks wr (keysAt_own HC.out.own) (by have := HC.out.few; omega) (fun k hk => by have := HC.out.bd k hk; unfold kDr at this; omega)).mono ?_
      rintro e w4 ⟨v4, y4, rfl, hy4, ho4, hb4⟩
      obtain ⟨a4, n4, k4, rfl⟩ := own_shape ho4
      have hR4 := (hb4.block _ (Array.getElem?_eq_some_iff.1 HC.out.res).1).trans HC.out.res
      have hlr := (Array.getElem?_eq_some_iff.1 HC.out.res).1
      have hD4 := HC.out.drew.grow hgl (grown_of_below' hb4 none) (fun b e => by cases e)
      obtain ⟨c0, c1, f0, f1⟩ := row2_of hR4
      have hlr4 := (Array.getElem?_eq_some_iff.1 hR4).1
      have L2 := Lib.hid (cd_res hR4 (.slice a4 n4 k4) y4)
      have HF := Lib.hid (And.intro (own_base (own_set2 ho4 hlr (.slice a4 n4 k4) (.string y4)) (by omega : w.heap.size ≤ wr.heap.size)) (hD4.grow hgl (grown2 w4 w.heap.size (.slice a4 n4 k4) (.string y4)) (fun b e => by cases e; exact Nat.le_refl _)))
      have HW := Lib.hid (And.intro HC.out.few HC.out.bd)
      clear ho4 hb4 hR4 hD4 HC hlr
      go_wp2_with fail
      refine bodyPost_ret (v := .agg #[.slice a4 n4 k4, .string y4]) ?_ rfl ⟨_, ks, y4, c2, rfl, by omega, HW.out.1, HW.out.2, hy4, HF.out.1, HF.out.2⟩
      rw [results_cell (p := 2) (ty := 26) (by kernel_rfl)]
      have l2 := L2.out
      simp [asAddr, Result.andThen, l2]
end Go.Proofs.Ytnknfmjpkphbpaa
/- Words of several readings: a word that need not be right, drawn. -/
namespace Go.Proofs.Ytnknfmjpkphbpaa
open Go.ChangeShapes Go.WideShapes Go.ChangeAt Go.RowKit Go.BigFrame
set_option linter.unusedVariables false

def pick5 : List ByteArray := [⟨#[]⟩, ⟨#[97, 98, 99]⟩, ⟨#[97, 98, 99, 100]⟩, ⟨#[97, 98, 99, 100, 101]⟩, ⟨#[0, 0, 0, 0]⟩]
theorem pick5_size (i : Nat) : (pick5[i]?.getD ByteArray.empty).size ≤ 5 := by
  unfold pick5
  rcases (by omega : i = 0 ∨ i = 1 ∨ i = 2 ∨ i = 3 ∨ i = 4 ∨ 5 ≤ i) with rfl | rfl | rfl | rfl | rfl | h
  · decide
  · decide
  · decide
  · decide
  · decide
  · rw [List.getElem?_eq_none (by simpa using h)]; decide
/-- the word in its box, the result's box -/
structure O5 (n₀ g : Nat) (a : Option Addr) (len cap : Nat) (zs : List Int) (c1 : Cu) (w W : World) (b3 : Nat) (v : Value) (ks : List K2) (y : ByteArray) : Prop where
  drew : Drew n₀ g a len cap zs c1 w W
  row : W.heap[b3]? = some (.cells #[v, .string y] 26)
  res : W.heap[w.heap.size]? = some (.cells #[.slice none 0 0, .string ⟨#[]⟩] 26)
  own : W.ownsRow w.heap.size 41 2 v ks.length (keyCells ks)
  ne : v.ownBlock ≠ some b3
  ner : v.ownBlock ≠ some w.heap.size
  lt : w.heap.size < b3
theorem O5.next {n₀ g : Nat} {a : Option Addr} {len cap : Nat} {zs : List Int} {c1 c2 : Cu} {w W W' : World} {b3 : Nat} {v : Value} {ks : List K2} {y : ByteArray} (h : O5 n₀ g a len cap zs c1 w W b3 v ks y) (hgl : g < w.heap.size) (hd : Drew n₀ g a len cap zs c2 W W') : O5 n₀ g a len cap zs c2 w W' b3 v ks y :=
  ⟨h.drew.trans hd, hd.keeps h.row (by have := h.lt; omega), hd.keeps h.res (by omega), h.own.kept hd.grown (.inr fun e => by have := (h.own.lt _ e).1; omega), h.ne, h.ner, h.lt⟩
theorem O5.alloc {n₀ g : Nat} {a : Option Addr} {len cap : Nat} {zs : List Int} {c1 : Cu} {w W : World} {b3 : Nat} {v : Value} {ks : List K2} {y : ByteArray} (h : O5 n₀ g a len cap zs c1 w W b3 v ks y) (o : Obj) : O5 n₀ g a len cap zs c1 w (W.alloc o) b3 v ks y :=
  ⟨h.drew.alloc o, (Below.heap_alloc _ _ _ (Array.getElem?_eq_some_iff.1 h.row).1).trans h.row, (Below.heap_alloc _ _ _ (Array.getElem?_eq_some_iff.1 h.res).1).trans h.res, h.own.alloc o, h.ne, h.ner, h.lt⟩
/-- a step that makes memory alone, or writes into a block of its own -/
theorem O5.grow {n₀ g : Nat} {a : Option Addr} {len cap : Nat} {zs : List Int} {c1 : Cu} {w W W' : World} {b3 : Nat} {v : Value} {ks : List K2} {y : ByteArray} {row : Option Nat} (h : O5 n₀ g a len cap zs c1 w W b3 v ks y) (hgl : g < w.heap.size) (hg : W.grownBy W' row)
    (hr : ∀ b, row = some b → b3 < b ∧ v.ownBlock ≠ some b) : O5 n₀ g a len cap zs c1 w W' b3 v ks y := by
  have hl := h.lt
  refine ⟨h.drew.grow hgl hg (fun b e => by have := (hr b e).1; omega), (hg.block _ (Array.getElem?_eq_some_iff.1 h.row).1 (fun e => by have := (hr b3 e.symm).1; omega)).trans h.row, (hg.block _ (Array.getElem?_eq_some_iff.1 h.res).1 (fun e => by have := (hr _ e.symm).1; omega)).trans h.res, h.own.kept hg ?_, h.ne, h.ner, hl⟩
  cases hrow : row with
  | none =>
    cases hv : v.ownBlock with
    | none => exact .inl rfl
    | some b => exact .inr (by simp)
  | some b => exact .inr (hr b hrow).2
theorem O5.both {n₀ g : Nat} {a : Option Addr} {len cap : Nat} {zs : List Int} {c1 : Cu} {w W : World} {b3 : Nat} {v : Value} {ks : List K2} {y : ByteArray} (h : O5 n₀ g a len cap zs c1 w W b3 v ks y) (hgl : g < w.heap.size) {v' : Value} {ks' : List K2}
    (ho : W.ownsRow w.heap.size 41 2 v' ks'.length (keyCells ks')) (hne : v'.ownBlock ≠ some b3) (hner : v'.ownBlock ≠ some w.heap.size) (y' : ByteArray) : O5 n₀ g a len cap zs c1 w ((W.setCell ⟨b3, 0, none⟩ v').setCell ⟨b3, 1, none⟩ (.string y')) b3 v' ks' y' := by
  have hl := h.lt
  exact ⟨h.drew.grow hgl (grown2 W b3 _ _) (fun j e => by cases e; omega), set2 _ _ h.row, row_set2 h.res (by omega) _ _, ho.kept (grown2 W b3 _ _) (.inr hne), hne, hner, hl⟩
theorem O5.keys {n₀ g : Nat} {a : Option Addr} {len cap : Nat} {zs : List Int} {c1 : Cu} {w W : World} {b3 : Nat} {v : Value} {ks : List K2} {y : ByteArray} (h : O5 n₀ g a len cap zs c1 w W b3 v ks y) (hgl : g < w.heap.size) {v' : Value} {ks' : List K2}
    (ho : W.ownsRow w.heap.size 41 2 v' ks'.length (keyCells ks')) (hne : v'.ownBlock ≠ some b3) (hner : v'.ownBlock ≠ some w.heap.size) : O5 n₀ g a len cap zs c1 w (W.setCell ⟨b3, 0, none⟩ v') b3 v' ks' y := by
  have hl := h.lt
  refine ⟨h.drew.grow hgl (Lib.grownBy_setCell W b3 0 _) (fun j e => by cases e; omega), set_cellsD _ h.row, ?_, ho.kept (Lib.grownBy_setCell W b3 0 _) (.inr hne), hne, hner, hl⟩
  rw [Below.heap_setCell _ _ _ _ (by simp; omega)]; exact h.res
theorem O5.txt {n₀ g : Nat} {a : Option Addr} {len cap : Nat} {zs : List Int} {c1 : Cu} {w W : World} {b3 : Nat} {v : Value} {ks : List K2} {y : ByteArray} (h : O5 n₀ g a len cap zs c1 w W b3 v ks y) (hgl : g < w.heap.size) (y' : ByteArray) : O5 n₀ g a len cap zs c1 w (W.setCell ⟨b3, 1, none⟩ (.string y')) b3 v ks y' := by
  have hl := h.lt
  refine ⟨h.drew.grow hgl (Lib.grownBy_setCell W b3 1 _) (fun j e => by cases e; omega), set_cellsD _ h.row, ?_, h.own.kept (Lib.grownBy_setCell W b3 1 _) (.inr h.ne), h.ne, h.ner, hl⟩
  rw [Below.heap_setCell _ _ _ _ (by simp; omega)]; exact h.res
structure O5End (n₀ g : Nat) (a : Option Addr) (len cap : Nat) (zs : List Int) (c1 : Cu) (w W : World) (b3 : Nat) (v : Value) (ks : List K2) (y : ByteArray) : Prop where
  rx : Row2 W b3 v (.string y)
  ry : Row2 W w.heap.size (.slice none 0 0) (.string ⟨#[]⟩)
  lt : w.heap.size < W.heap.size
  fin : Drew n₀ g a len cap zs c1 w ((W.setCell ⟨w.heap.size, 0, none⟩ v).setCell ⟨w.heap.size, 1, none⟩ (.string y))
  own : ((W.setCell ⟨w.heap.size, 0, none⟩ v).setCell ⟨w.heap.size, 1, none⟩ (.string y)).ownsRow w.heap.size 41 2 v ks.length (keyCells ks)
  load : (loadVar 26 ⟨w.heap.size, 0, none⟩).run Try.prog ((W.setCell ⟨w.heap.size, 0, none⟩ v).setCell ⟨w.heap.size, 1, none⟩ (.string y)) = .ok (.agg #[v, .string y]) ((W.setCell ⟨w.heap.size, 0, none⟩ v).setCell ⟨w.heap.size, 1, none⟩ (.string y))
theorem O5.end {n₀ g : Nat} {a : Option Addr} {len cap : Nat} {zs : List Int} {c1 : Cu} {w W : World} {b3 : Nat} {v : Value} {ks : List K2} {y : ByteArray} (h : O5 n₀ g a len cap zs c1 w W b3 v ks y) (hgl : g < w.heap.size) : O5End n₀ g a len cap zs c1 w W b3 v ks y :=
  ⟨row2_of h.row, row2_of h.res, (Array.getElem?_eq_some_iff.1 h.res).1, h.drew.grow hgl (grown2 W _ _ _) (fun j e => by cases e; exact Nat.le_refl _), h.own.kept (grown2 W _ _ _) (.inr h.ner), cd_res h.res v y⟩
def seqK (n : Nat) : List K2 := (List.range n).map fun i : Nat => ((1 + (i : Int), 1) : K2)
theorem seqK_len (n : Nat) : (seqK n).length = n := by simp [seqK]
theorem seqK_succ (n : Nat) : seqK (n + 1) = seqK n ++ [(1 + (n : Int), 1)] := by simp [seqK, List.range_succ]
theorem seqK_mem {n : Nat} {k : K2} (h : k ∈ seqK n) : 1 ≤ k.1 ∧ k.1 ≤ (n : Int) ∧ k.2 = 1 := by
  simp only [seqK, List.mem_map, List.mem_range] at h
  obtain ⟨i, hi, rfl⟩ := h
  dsimp only; omega
theorem kDr_bd {k : K2} (h : kDr k) : kBd k := by unfold kDr at h; unfold kBd; omega
theorem own_ne_at {w w' : World} {e : TypeId} {size n b : Nat} {v : Value} {xs : List Value} (h : w'.ownsRow w.heap.size e size v n xs) (hb : b < w.heap.size) : v.ownBlock ≠ some b :=
  fun e => absurd (h.lt _ e).1 (Nat.not_le.2 hb)
set_option maxRecDepth 100000 in
set_option maxHeartbeats 4000000 in
theorem l05odd_any (n₀ g len cap : Nat) (a : Option Addr) (zs : List Int) (c : Cu) (w : World) (hs : DrawSt n₀ w g a len cap zs c.i c.h) :
    Calls Try.prog 44 #[.pointer (some ⟨g, 0, none⟩)] w fun e w' => ∃ (v : Value) (ks : List K2) (y : ByteArray) (c' : Cu), e = .returned (.agg #[v, .string y]) ∧ ks.length ≤ 7 ∧ (∀ k ∈ ks, kBd k) ∧ y.size ≤ 5 ∧
      w'.ownsRow w.heap.size 41 2 v ks.length (keyCells ks) ∧ Drew n₀ g a len cap zs c' w w' := by
  have hd0 : Drew n₀ g a len cap zs c w w := ⟨hs, Below.refl _ _, World.grownBy.refl _ _⟩
  have hgl := hs.lt
  obtain ⟨i0, hi, hz0, hz1, hz2⟩ := info_parts infoK
  go_enter Try.func44, Try.ntmps44
  go_wp2_with fail
  have hd1 := hd0.alloc (.cells #[.slice none 0 0, .string ⟨#[]⟩] 26)
  refine (l05code_any n₀ g len cap a zs c _ hd1.st).mono ?_
  rintro e w1 ⟨v1, ks, y, c1, rfl, hk1, hk4, hkd, hy, ho, hd⟩
  obtain ⟨a1, m1, k1, rfl⟩ := own_shape ho
  have hres := hd.keeps (heap_alloc_new w (.cells #[.slice none 0 0, .string ⟨#[]⟩] 26)) (by omega)
  have hner : (Value.slice a1 m1 k1).ownBlock ≠ some w.heap.size := own_ne_at ho (by simp)
  have hnew : (Value.slice a1 m1 k1).ownBlock ≠ some w1.heap.size := fun e => absurd (ho.lt _ e).2 (Nat.lt_irrefl _)
  have H1 : Hid (O5 n₀ g a len cap zs c1 w (w1.alloc (.cells #[.slice a1 m1 k1, .string y] 26)) w1.heap.size (.slice a1 m1 k1) ks y) :=
    ⟨(hd1.trans hd).alloc _, heap_alloc_new w1 _, (Below.heap_alloc _ _ _ (Array.getElem?_eq_some_iff.1 hres).1).trans hres, own_base (ho.alloc _) (by simp), hnew, hner, (Array.getElem?_eq_some_iff.1 hres).1⟩
  have HK := Lib.hid (show ∀ k ∈ ks, kBd k from fun k hk => kDr_bd (hkd k hk))
  have HO1K := Lib.hid (fun b (e : (Value.slice a1 m1 k1).ownBlock = some b) => (ho.lt b e).2)
  clear hd1 hd hd0 hres hs ho hner hnew hkd
  go_wp2_with fail
  generalize w1.alloc (.cells #[.slice a1 m1 k1, .string y] 26) = W at *
  generalize w1.heap.size = b3 at *
  refine (below_any n₀ g len cap a zs c1 12 _ H1.out.drew.st (by omega)).mono ?_
  rintro e w2 ⟨rfl, hd2⟩
  have H2 := Lib.hid (H1.out.next hgl hd2)
  generalize (belowF zs len c1 12).2 = c2 at *
  generalize (belowF zs len c1 12).1 = x at *
  clear H1 hd2
  have hlt := H2.out.lt
  have hb3 := (Array.getElem?_eq_some_iff.1 H2.out.row).1
  rcases (by omega : x = 0 ∨ x = 1 ∨ x = 2 ∨ x = 3 ∨ (¬ x = 0 ∧ ¬ x = 1 ∧ ¬ x = 2 ∧ ¬ x = 3)) with rfl | rfl | rfl | rfl | ⟨x0, x1, x2, x3⟩
  · go_wp2_with fail
    refine (anykeys_any n₀ g len cap a zs c2 _ H2.out.drew.st).mono ?_
    rintro e w3 ⟨v3, ks3, c3, rfl, hl3, hb3', ho3, hd3⟩
    obtain ⟨a3, m3, k3, rfl⟩ := own_shape ho3
    have H3 := H2.out.next hgl hd3
    obtain ⟨x0, x1, f0, f1⟩ := row2_of H3.row
    have hlx := (Array.getElem?_eq_some_iff.1 H3.row).1
    have hw2 := H2.out.drew.grown.size
    have H4 := H3.keys hgl (own_base ho3 hw2) (own_ne_at ho3 hb3) (own_ne_at ho3 (by omega))
    have HE := Lib.hid (H4.end hgl)
    have HKB := Lib.hid hb3'
    clear hd3 H2 H3 H4 ho3 hb3'
    obtain ⟨⟨b0, b1, -, -⟩, ⟨e0, e1, g0, g1⟩, hlw, -, -, -⟩ := HE.out
    go_wp2_with fail
    refine bodyPost_ret (v := .agg #[.slice a3 m3 k3, .string y]) ?_ rfl ⟨_, ks3, y, c3, rfl, by omega, HKB.out, by omega, HE.out.own, HE.out.fin⟩
    rw [results_cell (p := 2) (ty := 26) (by kernel_rfl)]
    have hl := HE.out.load
    simp [asAddr, Result.andThen, hl]
  · have H3 := H2.out.alloc (.cells #[.string ⟨#[]⟩, .string ⟨#[97, 98, 99]⟩, .string ⟨#[97, 98, 99, 100]⟩, .string ⟨#[97, 98, 99, 100, 101]⟩, .string ⟨#[0, 0, 0, 0]⟩] 9)
    have hcells : ∀ k, k < 5 → (w2.alloc (.cells #[.string ⟨#[]⟩, .string ⟨#[97, 98, 99]⟩, .string ⟨#[97, 98, 99, 100]⟩, .string ⟨#[97, 98, 99, 100, 101]⟩, .string ⟨#[0, 0, 0, 0]⟩] 9)).cell? ⟨w2.heap.size, k, none⟩ = some (.string (pick5[k]?.getD ByteArray.empty)) := by
      intro k hk
      rw [lit_cell]
      rcases (by omega : k = 0 ∨ k = 1 ∨ k = 2 ∨ k = 3 ∨ k = 4) with rfl | rfl | rfl | rfl | rfl <;> rfl
    have HP := Lib.hid (pick_any n₀ g len cap w2.heap.size 5 a zs c2 pick5 _ H3.drew.st (by omega) (by omega) rfl (by omega) hcells)
    have H3 := Lib.hid H3
    clear hcells H2
    go_wp2_with fail
    refine HP.out.mono ?_
    rintro e w3 ⟨rfl, hd3⟩
    have H4 := Lib.hid (H3.out.next hgl hd3)
    clear HP H3 hd3
    have hps := pick5_size (belowF zs len c2 5).1.toNat
    have e5 : ((5 : Nat) : Int) = 5 := rfl
    try rw [e5] at *
    generalize pick5[(belowF zs len c2 5).1.toNat]?.getD ByteArray.empty = py at *
    generalize (belowF zs len c2 5).2 = c3 at *
    obtain ⟨x0, x1, f0, f1⟩ := row2_of H4.out.row
    have hlx := (Array.getElem?_eq_some_iff.1 H4.out.row).1
    have HE := Lib.hid ((H4.out.txt hgl py).end hgl)
    clear H4
    obtain ⟨⟨b0, b1, -, -⟩, ⟨e0, e1, g0, g1⟩, hlw, -, -, -⟩ := HE.out
    go_wp2_with fail
    refine bodyPost_ret (v := .agg #[.slice a1 m1 k1, .string py]) ?_ rfl ⟨_, ks, py, c3, rfl, by omega, HK.out, hps, HE.out.own, HE.out.fin⟩
    rw [results_cell (p := 2) (ty := 26) (by kernel_rfl)]
    have hl := HE.out.load
    simp [asAddr, Result.andThen, hl]
  · go_wp2_with fail
    refine (l05of_any (.slice none 0 0) [] w2 ⟨none, 0, rfl, by simp, .inl rfl⟩ (by simp) (by simp)).mono ?_
    rintro e w3 ⟨v3, y3, rfl, hy3, ho3, hb3'⟩
    have hw2 := H2.out.drew.grown.size
    obtain ⟨a3, m3, k3, rfl⟩ := own_shape ho3
    have H3 := H2.out.grow hgl (grown_of_below' hb3' none) (fun b e => by cases e)
    obtain ⟨x0, x1, f0, f1⟩ := row2_of H3.row
    have hlx := (Array.getElem?_eq_some_iff.1 H3.row).1
    have HE := Lib.hid ((H3.both hgl (own_base ho3 hw2) (own_ne_at ho3 (hb3)) (own_ne_at ho3 (by omega)) y3).end hgl)
    clear hb3' H2 H3 ho3
    obtain ⟨⟨b0, b1, -, -⟩, ⟨e0, e1, g0, g1⟩, hlw, -, -, -⟩ := HE.out
    go_wp2_with fail
    refine bodyPost_ret (v := .agg #[.slice a3 m3 k3, .string y3]) ?_ rfl ⟨_, [], y3, c2, rfl, by simp, by simp, by omega, HE.out.own, HE.out.fin⟩
    rw [results_cell (p := 2) (ty := 26) (by kernel_rfl)]
    have hl := HE.out.load
    simp [asAddr, Result.andThen, hl]
  · have H3 := H2.out.alloc (.cells #[] 41)
    have hw2 := H2.out.drew.grown.size
    have ho3 := own_base (World.ownsRow_made (base := w2.heap.size) (e := 41) (size := 2) w2 #[] 0 (Nat.le_refl _) (by unfold maxLen; omega) rfl) (Nat.le_refl _)
    have H3 := Lib.hid H3
    have HO3 := Lib.hid ho3
    have hz3 : w2.heap.size < (w2.alloc (.cells #[] 41)).heap.size := by simp
    clear H2 ho3
    go_wp2_with fail
    generalize hW3 : w2.alloc (.cells #[] 41) = W3 at *
    refine (below_any n₀ g len cap a zs c2 3 _ H3.out.drew.st (by omega)).mono ?_
    rintro e w3 ⟨rfl, hd3⟩
    have hbd := belowF_bd zs len c2 3
    have H4 := Lib.hid (H3.out.next hgl hd3)
    have HO4 := Lib.hid (HO3.out.kept hd3.grown (.inr fun e => by have := (HO3.out.lt _ e).1; omega))
    have hz4 := Nat.lt_of_lt_of_le hz3 hd3.grown.size
    generalize (belowF zs len c2 3).2 = c3 at *
    generalize (belowF zs len c2 3).1 = x at *
    obtain ⟨n, rfl⟩ : ∃ n : Nat, x = n := ⟨x.toNat, by omega⟩
    have hn3 : n < 3 := by omega
    have ewn : IntKind.i64.wrap (5 + (n : Int)) = 5 + (n : Int) := IntWalk.i64_in _ (by omega)
    clear H3 HO3 hd3 hbd
    go_wp2
    go_loopw [4, 6] (fun v4 i wr => ∃ k : Nat, k ≤ 5 + n ∧ i = .int .i64 k ∧ O5 n₀ g a len cap zs c3 w wr b3 (.slice a1 m1 k1) ks y ∧ wr.ownsRow w2.heap.size 41 2 v4 (seqK k).length (keyCells (seqK k)) ∧ w2.heap.size < wr.heap.size) (fun _ i _ => 5 + n - (intOf i).toNat)
    case atStart => exact ⟨0, Nat.zero_le _, rfl, H4.out, HO4.out, hz4⟩
    case round =>
      clear H4 HO4 hz4 hz3
      obtain ⟨k, hk, rfl, hO, hw, hzr⟩ := hrel
      rw [seqK_len] at hw
      by_cases hlk : k < 5 + n
      · have i1 : (k : Int) < 5 + (n : Int) := by omega
        have ew1 : IntKind.i64.wrap (1 + (k : Int)) = 1 + (k : Int) := IntWalk.i64_in _ (by omega)
        have HO := Lib.hid hO
        go_wp2_with (at_builtin; refine wpList_append_own _ rfl (.tmp 36) (.tmp 40) 24 rfl w2.heap.size 41 i0 (.agg #[.int .i64 0, .int .i64 0]) 2 16 Try.underlying24 hi hz0 hz1 hz2 rfl (by decide) _ _ _ rfl (hw.alloc _) ⟨wr.heap.size, 0, none⟩ 1 1 [.int .i64 (1 + (k : Int)), .int .i64 1] rfl rfl (cell_two_new _ _ _ _) (by intro u hu; simp at hu; rcases hu with rfl | rfl <;> rfl) (by unfold maxLen; omega) (by omega) (by simp; omega) ?_; intro v' w5 hown' hgrow _)
        have hv4 := fun b e => (hw.lt b e).1
        have H5 := Lib.hid ((HO.out.alloc (.cells #[.int .i64 (1 + (k : Int)), .int .i64 1] 41)).grow hgl hgrow (fun b e => ⟨by have := hv4 b e; omega, fun e2 => by have := hv4 b e; have := HO1K.out b e2; omega⟩))
        have HN := Lib.hid (show w5.ownsRow w2.heap.size 41 2 v' (seqK (k + 1)).length (keyCells (seqK (k + 1))) by rw [seqK_succ, keyCells_snoc]; simpa [seqK_len] using hown')
        have hz5 : w2.heap.size < w5.heap.size := by have := hgrow.size; simp at this; omega
        clear hown' hgrow hw HO hO hv4
        go_wp2
        exact ⟨⟨k + 1, by omega, by go_num, H5.out, HN.out, hz5⟩, by simp [intOf]; omega⟩
      · obtain rfl : k = 5 + n := by omega
        have i1 : ¬ ((5 + n : Nat) : Int) < 5 + (n : Int) := by omega
        have H2 := Lib.hid hO
        have hwr := hO.drew.grown.size
        have hbr := (Array.getElem?_eq_some_iff.1 hO.row).1
        clear hO
        go_wp2_with fail
        refine (l05of_any _ (seqK (5 + n)) wr (keysAt_own (by rw [seqK_len]; exact hw)) (by rw [seqK_len]; omega) (fun k hk => by have := seqK_mem hk; omega)).mono ?_
        rintro e w3 ⟨v3, y3, rfl, hy3, ho3, hb3'⟩
        obtain ⟨a3, m3, k3, rfl⟩ := own_shape ho3
        have H3 := H2.out.grow hgl (grown_of_below' hb3' none) (fun b e => by cases e)
        obtain ⟨x0, x1, f0, f1⟩ := row2_of H3.row
        have hlx := (Array.getElem?_eq_some_iff.1 H3.row).1
        have HE := Lib.hid ((H3.both hgl (own_base ho3 hwr) (own_ne_at ho3 (hbr)) (own_ne_at ho3 (by omega)) y3).end hgl)
        clear hb3' H2 H3 ho3
        obtain ⟨⟨b0, b1, -, -⟩, ⟨e0, e1, g0, g1⟩, hlw, -, -, -⟩ := HE.out
        go_wp2_with fail
        refine bodyPost_ret (v := .agg #[.slice a3 m3 k3, .string y3]) ?_ rfl ⟨_, seqK (5 + n), y3, c3, rfl, by rw [seqK_len]; omega, (fun k hk => by have := seqK_mem hk; unfold kBd; omega), by omega, HE.out.own, HE.out.fin⟩
        rw [results_cell (p := 2) (ty := 26) (by kernel_rfl)]
        have hl := HE.out.load
        simp [asAddr, Result.andThen, hl]
  · have j0 : (x == 0) = false := by simp [x0]
    have j1 : (x == 1) = false := by simp [x1]
    have j2 : (x == 2) = false := by simp [x2]
    have j3 : (x == 3) = false := by simp [x3]
    have HE := Lib.hid (H2.out.end hgl)
    clear H2
    obtain ⟨⟨b0, b1, -, -⟩, ⟨e0, e1, g0, g1⟩, hlw, -, -, -⟩ := HE.out
    go_wp2_with fail
    refine bodyPost_ret (v := .agg #[.slice a1 m1 k1, .string y]) ?_ rfl ⟨_, ks, y, c2, rfl, by omega, HK.out, by omega, HE.out.own, HE.out.fin⟩
    rw [results_cell (p := 2) (ty := 26) (by kernel_rfl)]
    have hl := HE.out.load
    simp [asAddr, Result.andThen, hl]
end Go.Proofs.Ytnknfmjpkphbpaa
/- Two words drawn. -/
namespace Go.Proofs.Ytnknfmjpkphbpaa
open Go.ChangeShapes Go.WideShapes Go.ChangeAt Go.RowKit Go.BigFrame
set_option linter.unusedVariables false

set_option maxRecDepth 100000 in
set_option maxHeartbeats 2000000 in
theorem drawcombine_any (n₀ len cap : Nat) (a : Option Addr) (zs : List Int) (w : World) (hc : CodeAt n₀ w a len zs) (hw : n₀ ≤ w.heap.size) :
    Calls Try.prog 13 #[.slice a len cap] w fun e w' => ∃ (va : Value) (A : List K2) (ya : ByteArray) (vb : Value) (B : List K2) (yb : ByteArray), e = .returned (.tuple #[.agg #[va, .string ya], .agg #[vb, .string yb]]) ∧
      (A.length ≤ 7 ∧ B.length ≤ 7 ∧ ya.size ≤ 5 ∧ yb.size ≤ 5) ∧ w'.ownsRow w.heap.size 41 2 va A.length (keyCells A) ∧ w'.ownsRow w.heap.size 41 2 vb B.length (keyCells B) ∧ Below w.heap.size w w' := by
  have HB0 := Lib.hid (((Below.refl w.heap.size w).alloc (Nat.le_refl _) (.cells #[.slice none 0 0, .string ⟨#[]⟩] 26)).alloc (by simp) (.cells #[.slice none 0 0, .string ⟨#[]⟩] 26))
  have HX0 := Lib.hid (heap_first w (.cells #[.slice none 0 0, .string ⟨#[]⟩] 26) (.cells #[.slice none 0 0, .string ⟨#[]⟩] 26))
  have hy0 := heap_alloc_new (w.alloc (.cells #[.slice none 0 0, .string ⟨#[]⟩] 26)) (.cells #[.slice none 0 0, .string ⟨#[]⟩] 26)
  rw [show (w.alloc (.cells #[.slice none 0 0, .string ⟨#[]⟩] 26)).heap.size = w.heap.size + 1 by simp] at hy0
  have HY0 := Lib.hid hy0
  have hc1 := hc.below (((Below.refl n₀ w).alloc hw (.cells #[.slice none 0 0, .string ⟨#[]⟩] 26)).alloc (by simp; omega) (.cells #[.slice none 0 0, .string ⟨#[]⟩] 26))
  have hz0 : ((w.alloc (.cells #[.slice none 0 0, .string ⟨#[]⟩] 26)).alloc (.cells #[.slice none 0 0, .string ⟨#[]⟩] 26)).heap.size = w.heap.size + 2 := by simp
  clear hy0
  go_enter Try.func13, Try.ntmps13
  go_wp2_with fail
  generalize (w.alloc (.cells #[.slice none 0 0, .string ⟨#[]⟩] 26)).alloc (.cells #[.slice none 0 0, .string ⟨#[]⟩] 26) = W at *
  refine (new_any n₀ len cap a zs _ hc1 (by omega)).mono ?_
  rintro e w1 ⟨g, rfl, hg, hst, hbn, hgrn⟩
  have hgw : w.heap.size + 1 < g := by omega
  have hg1 := hst.lt
  have HB1 := Lib.hid (HB0.out.grown hgrn HB0.out.size (by simp))
  have HX1 := Lib.hid ((hgrn.block _ (Array.getElem?_eq_some_iff.1 HX0.out).1 (by simp)).trans HX0.out)
  have HY1 := Lib.hid ((hgrn.block _ (Array.getElem?_eq_some_iff.1 HY0.out).1 (by simp)).trans HY0.out)
  have hz1 : w.heap.size + 2 ≤ w1.heap.size := by have := hgrn.size; omega
  clear hbn hgrn hg HX0 HY0 HB0 hc1 hz0
  go_wp2_with fail
  refine (l05odd_any n₀ g len cap a zs _ _ hst).mono ?_
  rintro e w2 ⟨va, A, ya, c2, rfl, hA, hAb, hya, ho, hd2⟩
  obtain ⟨a2, m2, k2, rfl⟩ := own_shape ho
  have hst2 := hd2.alloc (.cells #[.slice a2 m2 k2, .string ya] 26)
  have hb5 : w1.heap.size ≤ w2.heap.size := hd2.grown.size
  have RX := Lib.hid (heap_alloc_new w2 (.cells #[.slice a2 m2 k2, .string ya] 26))
  have HB2 := Lib.hid ((HB1.out.grown hd2.grown HB1.out.size (fun j e => by cases e; omega)).alloc (by have := HB1.out.size; omega) (.cells #[.slice a2 m2 k2, .string ya] 26))
  have hx2 := (hd2.grown.block _ (Array.getElem?_eq_some_iff.1 HX1.out).1 (fun e => by cases e; omega)).trans HX1.out
  have hy2 := (hd2.grown.block _ (Array.getElem?_eq_some_iff.1 HY1.out).1 (fun e => by cases e; omega)).trans HY1.out
  have HX2 := Lib.hid ((Below.heap_alloc w2 (.cells #[.slice a2 m2 k2, .string ya] 26) _ (Array.getElem?_eq_some_iff.1 hx2).1).trans hx2)
  have HY2 := Lib.hid ((Below.heap_alloc w2 (.cells #[.slice a2 m2 k2, .string ya] 26) _ (Array.getElem?_eq_some_iff.1 hy2).1).trans hy2)
  have HO2 := Lib.hid (ho.alloc (.cells #[.slice a2 m2 k2, .string ya] 26))
  have HHI := Lib.hid (fun b e => (ho.lt b e).2)
  have hz2 : w.heap.size + 2 ≤ (w2.alloc (.cells #[.slice a2 m2 k2, .string ya] 26)).heap.size := by simp; omega
  clear hst hd2 HX1 HY1 ho HB1 hx2 hy2
  go_wp2_with fail
  generalize w2.alloc (.cells #[.slice a2 m2 k2, .string ya] 26) = W5 at *
  generalize w2.heap.size = b5 at *
  have LX : ∀ w' : World, w'.heap[b5]? = some (.cells #[.slice a2 m2 k2, .string ya] 26) → (loadVar 26 ⟨b5, 0, none⟩).run Try.prog w' = .ok (.agg #[.slice a2 m2 k2, .string ya]) w' := fun w' h => cd_load h (Below.refl _ _)
  have HST := Lib.hid hst2
  clear hst2
  refine wp_region_G (fun w' => w'.heap[b5]? = some (.cells #[.slice a2 m2 k2, .string ya] 26)) (by kernel_rfl) ?_
  replace RX := Lib.hid (show (World.drew _).heap[_]? = _ from RX.out)
  replace HO2 := Lib.hid (HO2.out.drew)
  replace HB2 := Lib.hid (HB2.out.drew)
  replace HX2 := Lib.hid (show (World.drew _).heap[_]? = _ from HX2.out)
  replace HY2 := Lib.hid (show (World.drew _).heap[_]? = _ from HY2.out)
  have HST' := Lib.hid (show DrawSt n₀ W5.drew g a len cap zs c2.i c2.h from (HST.out.grow hg1 (row := none) (w2 := W5.drew) ⟨rfl, rfl, rfl, Nat.le_refl _, fun _ _ _ => rfl⟩ (fun b e => by cases e)).st)
  have hz2' : w.heap.size + 2 ≤ W5.drew.heap.size := hz2
  clear HST hz2
  generalize (W5).drew = wD at *
  refine wpG_seg [true, true] [2] 2 (by kernel_rfl) (by intro c a d v w h; cases d <;> exact h) (by kernel_rfl) RX.out ?_
  try simp only [maskRows]
  repeat (first
    | go_big_quiet_skip
    | (go_big_quiet_want
       first
         | (go_big_quiet_op; go_big_quiet_on)
         | (refine q_load 26 _ _ _ rfl rfl LX ?_; simp only [Act.put, List.setIfInBounds_toArray, List.set_cons_zero, List.set_cons_succ]; go_big_quiet_on)
         | (go_big_quiet_op; refine ⟨_, fun _ _ => rfl, ?_⟩; go_big_quiet_on)
         | (go_big_quiet_op; refine ⟨_, fun _ _ _ => rfl, ?_⟩; go_big_quiet_on)))
  refine wpQuiet_nil ?_
  refine List.forall_mem_singleton.2 ?_
  refine segt_run rfl (by rfl) (fun K hK => ?_)
  go_simp
  refine (l05odd_any n₀ g len cap a zs c2 _ HST'.out).mono ?_
  rintro e w3 ⟨vb, B, yb, c3, rfl, hB, hBb, hyb, ho3, hd3⟩
  dsimp only
  obtain ⟨a3, m3, k3, rfl⟩ := own_shape ho3
  replace RX := Lib.hid (hd3.keeps RX.out (by omega))
  replace HO2 := Lib.hid (HO2.out.kept hd3.grown (.inr fun e => by have := (HO2.out.lt _ e).1; omega))
  have HB3 := Lib.hid (HB2.out.grown hd3.grown HB2.out.size (fun j e => by cases e; omega))
  replace HX2 := Lib.hid (hd3.keeps HX2.out (by omega))
  replace HY2 := Lib.hid (hd3.keeps HY2.out (by omega))
  have HO3 := Lib.hid (own_base ho3 hz2')
  have hz3 : w.heap.size + 2 ≤ w3.heap.size := Nat.le_trans hz2' hd3.grown.size
  clear ho3 hd3 HST' hz2'
  refine hK _ _ ⟨_, fun _ h => h, RX.out, ?_⟩
  clear hK K
  try simp only [Act.put, List.setIfInBounds_toArray, List.set_cons_zero, List.set_cons_succ]
  refine wpG_seg [] [3] 1 (by kernel_rfl) (by intro c a d v w h; cases d <;> exact h) (by kernel_rfl) RX.out ?_
  try simp only [maskRows]
  refine wpQuiet_nil ?_
  refine List.forall_mem_singleton.2 ?_
  obtain ⟨c0, c1, f0, f1⟩ := row2_of HX2.out
  have hlt := (Array.getElem?_eq_some_iff.1 HX2.out).1
  have RX' := Lib.hid (row_set2 RX.out (show b5 ≠ w.heap.size by omega) (.slice a2 m2 k2) (.string ya))
  have HY' := Lib.hid (row_set2 HY2.out (show w.heap.size + 1 ≠ w.heap.size by omega) (.slice a2 m2 k2) (.string ya))
  have HX' := Lib.hid (set2 (.slice a2 m2 k2) (.string ya) HX2.out)
  have HB' := Lib.hid (below2 HB3.out (Nat.le_refl w.heap.size) (.slice a2 m2 k2) (.string ya))
  have HA' := Lib.hid (HO2.out.kept (grown2 w3 w.heap.size (.slice a2 m2 k2) (.string ya)) (.inr fun e => by have := (HO2.out.lt _ e).1; omega))
  have HBo' := Lib.hid (HO3.out.kept (grown2 w3 w.heap.size (.slice a2 m2 k2) (.string ya)) (.inr fun e => by have := (HO3.out.lt _ e).1; omega))
  refine segt_run rfl (by rfl) (fun K hK => ?_)
  go_simp
  replace RX := RX'
  clear HX2 HY2 HB3 HO2 HO3 c0 c1 f0 f1 hlt RX' hz3
  generalize (World.setCell (World.setCell w3 ⟨w.heap.size, 0, none⟩ (.slice a2 m2 k2)) ⟨w.heap.size, 1, none⟩ (.string ya)) = W6 at *
  refine hK _ _ ⟨_, fun _ h => h, RX.out, ?_⟩
  clear hK K
  try simp only [Act.put, List.setIfInBounds_toArray, List.set_cons_zero, List.set_cons_succ]
  refine wpG_seg [] [4] 0 (by kernel_rfl) (by intro c a d v w h; cases d <;> exact h) (by kernel_rfl) RX.out ?_
  try simp only [maskRows]
  refine wpQuiet_nil ?_
  refine List.forall_mem_singleton.2 ?_
  obtain ⟨c0, c1, f0, f1⟩ := row2_of HY'.out
  have hlt := (Array.getElem?_eq_some_iff.1 HY'.out).1
  have RX' := Lib.hid (row_set2 RX.out (show b5 ≠ w.heap.size + 1 by omega) (.slice a3 m3 k3) (.string yb))
  have HX7 := Lib.hid (row_set2 HX'.out (show w.heap.size ≠ w.heap.size + 1 by omega) (.slice a3 m3 k3) (.string yb))
  have HY7 := Lib.hid (set2 (.slice a3 m3 k3) (.string yb) HY'.out)
  have HB7 := Lib.hid (below2 HB'.out (show w.heap.size ≤ w.heap.size + 1 by omega) (.slice a3 m3 k3) (.string yb))
  have HA7 := Lib.hid (HA'.out.kept (grown2 W6 (w.heap.size + 1) (.slice a3 m3 k3) (.string yb)) (.inr fun e => by have := (HA'.out.lt _ e).1; omega))
  have HBo7 := Lib.hid (HBo'.out.kept (grown2 W6 (w.heap.size + 1) (.slice a3 m3 k3) (.string yb)) (.inr fun e => by have := (HBo'.out.lt _ e).1; omega))
  refine segt_run rfl (by rfl) (fun K hK => ?_)
  go_simp
  replace RX := RX'
  clear HX' HY' HB' HA' HBo' c0 c1 f0 f1 hlt RX'
  generalize (World.setCell (World.setCell W6 ⟨w.heap.size + 1, 0, none⟩ (.slice a3 m3 k3)) ⟨w.heap.size + 1, 1, none⟩ (.string yb)) = W7 at *
  refine hK _ _ ⟨_, fun _ h => h, RX.out, ?_⟩
  clear hK K
  try simp only [Act.put, List.setIfInBounds_toArray, List.set_cons_zero, List.set_cons_succ]
  refine wpG_end [] (by kernel_rfl) (by intro c a d v w h; cases d <;> exact h) (by kernel_rfl) RX.out ?_
  try simp only [maskRows]
  refine wpQuiet_nil ?_
  have l1 := cd_load HX7.out (Below.refl _ _)
  have l2 := cd_load HY7.out (Below.refl _ _)
  have HF := Lib.hid (And.intro HA7.out (And.intro HBo7.out HB7.out))
  have HL := Lib.hid (And.intro l1 l2)
  clear HX7 HY7 HA7 HBo7 HB7 RX l1 l2
  go_wp2_with fail
  refine bodyPost_ret (v := .tuple #[.agg #[.slice a2 m2 k2, .string ya], .agg #[.slice a3 m3 k3, .string yb]]) ?_ rfl ⟨_, A, ya, _, B, yb, rfl, ⟨hA, hB, hya, hyb⟩, own_base HF.out.1 (by omega), own_base HF.out.2.1 (by omega), HF.out.2.2⟩
  rw [results_cell_cell (p := 2) (q := 3) (ty := 26) (tz := 26) (by kernel_rfl)]
  obtain ⟨l1, l2⟩ := HL.out
  simp [asAddr, Result.andThen, l1, l2]
end Go.Proofs.Ytnknfmjpkphbpaa
