/- What the laws lean on (own lemmas and walks of the called functions). -/
import Derived.Test.YtbbjpjkclealfaaPe2
set_option linter.unusedVariables false
set_option linter.unusedSimpArgs false
namespace Go.Proofs.Ytbbjpjkclealfaa
open Go.ChangeShapes Go.WideShapes Go.ChangeAt Go.RowKit Go.BigFrame
set_option linter.unusedVariables false

/-- what a word's slice leads to in a later world, but in the same blocks -/
theorem keysAv.also {w w' : World} {b : Option Nat} {v : Value} {ks : List K2} (h : keysAv w b v ks) (h2 : keysAt w' v ks) : keysAv w' b v ks := by
  obtain ⟨a, cap, e1, e2, e3⟩ := h
  obtain ⟨a', cap', f1, f2, f3⟩ := h2
  refine ⟨a', cap', f1, f2, ?_⟩
  rw [e1] at f1
  cases f1
  rcases e3 with e3 | ⟨g, off, rfl, g1, g2, g3⟩
  · exact .inl e3
  · rcases f3 with f3 | ⟨g', off', e, j1, j3⟩
    · exact .inl f3
    · cases e
      exact .inr ⟨g, off, rfl, j1, g2, j3⟩
theorem hasKey_mem (ks : List K2) (k : K2) : hasKeyB ks k = decide (k ∈ ks) := by
  unfold hasKeyB
  rw [Bool.eq_iff_iff, decide_eq_true_eq, List.any_eq_true]
  constructor
  · rintro ⟨x, h1, h2⟩; rw [← eq_of_beq h2]; exact h1
  · intro h; exact ⟨k, h, beq_self_eq_true k⟩
theorem getD_W (Bs : List W2) (k : Nat) (hk : k < Bs.length) : (Bs.map (·.1)).getD k blankC = (Bs.getD k grpW.zero).1 := by
  simp [List.getD, hk]
theorem less_take (Bs : List W2) (x : W2) (k : Nat) (hk : k < Bs.length) : lessG ordW.toPla (Bs.take (k + 1)) x = lessS ordW.toPla (lessG ordW.toPla (Bs.take k) x) (Bs.getD k grpW.zero) := by
  have e : Bs.take (k + 1) = Bs.take k ++ [Bs.getD k grpW.zero] := by
    rw [List.take_succ_eq_append_getElem hk, List.getD, List.getElem?_eq_getElem hk]; rfl
  rw [e]
  unfold lessG
  rw [List.foldl_append]; rfl
/-- a word on its way, in its box -/
structure LsC (w W : World) (v0 : Value) (k0 : List K2) (vX : Value) (X : C2) : Prop where
  below : Below w.heap.size w W
  box : W.heap[w.heap.size]? = some (.cells #[vX, .string X.2] 27)
  res : W.heap[w.heap.size + 1]? = some (.cells #[.slice none 0 0, .string ⟨#[]⟩] 27)
  ka : keysAv W (some w.heap.size) vX X.1
  kb : keysAv W (some (w.heap.size + 1)) vX X.1
  kc : ∀ b, b < w.heap.size → keysAv w (some b) v0 k0 → keysAv W (some b) vX X.1
theorem LsC.next {w W W' : World} {v0 : Value} {k0 : List K2} {vX : Value} {X : C2} (h : LsC w W v0 k0 vX X) (hb : Below W.heap.size W W') : LsC w W' v0 k0 vX X :=
  ⟨h.below.trans (hb.mono h.below.size), (hb.block _ (Array.getElem?_eq_some_iff.1 h.box).1).trans h.box, (hb.block _ (Array.getElem?_eq_some_iff.1 h.res).1).trans h.res, h.ka.below hb, h.kb.below hb, fun b h1 h2 => (h.kc b h1 h2).below hb⟩
theorem LsC.start (w : World) (v : Value) (ks : List K2) (y : ByteArray) (h : keysAt w v ks) :
    LsC w ((w.alloc (.cells #[v, .string y] 27)).alloc (.cells #[.slice none 0 0, .string ⟨#[]⟩] 27)) v ks v (ks, y) := by
  have hp := cpc_new w v y
  have e1 : (w.alloc (.cells #[v, .string y] 27)).heap.size = w.heap.size + 1 := by simp
  exact ⟨hp.below, hp.row, hp.res, (keysAv_of h (fun g hg e => by cases e; omega)).below hp.below, (keysAv_of h (fun g hg e => by cases e; omega)).below hp.below, fun b h1 h2 => h2.below hp.below⟩
theorem LsC.sets {w W : World} {v0 : Value} {k0 : List K2} {vX : Value} {X : C2} (h : LsC w W v0 k0 vX X) {base : Nat} {v : Value} {ks : List K2} (y : ByteArray) (ho : W.ownsRow base 41 2 v ks.length (keyCells ks)) (hb : w.heap.size + 2 ≤ base) :
    LsC w ((W.setCell ⟨w.heap.size, 0, none⟩ v).setCell ⟨w.heap.size, 1, none⟩ (.string y)) v0 k0 v (ks, y) := by
  have hg := grown2 W w.heap.size v (.string y)
  have h1 := (keysAv_own ho (show w.heap.size < base by omega)).grown hg
  refine ⟨below2 h.below (Nat.le_refl _) v (.string y), set2 v (.string y) h.box, row_set2 h.res (by omega) v (.string y), h1, (keysAv_own ho (show w.heap.size + 1 < base by omega)).also h1.to, fun b hb2 _ => (keysAv_own ho (show b < base by omega)).also h1.to⟩
structure LsF (w W : World) (v0 : Value) (k0 : List K2) (v : Value) (X : C2) : Prop where
  c0 : W.cell? ⟨w.heap.size, 0, none⟩ = some v
  c1 : W.cell? ⟨w.heap.size, 1, none⟩ = some (.string X.2)
  d0 : W.cell? ⟨w.heap.size + 1, 0, none⟩ = some (.slice none 0 0)
  d1 : W.cell? ⟨w.heap.size + 1, 1, none⟩ = some (.string ⟨#[]⟩)
  g0 : W.frozen? ⟨w.heap.size + 1, 0, none⟩ = false
  g1 : W.frozen? ⟨w.heap.size + 1, 1, none⟩ = false
  load : (loadVar 27 ⟨w.heap.size + 1, 0, none⟩).run Try.prog ((W.setCell ⟨w.heap.size + 1, 0, none⟩ v).setCell ⟨w.heap.size + 1, 1, none⟩ (.string X.2)) = .ok (.agg #[v, .string X.2]) ((W.setCell ⟨w.heap.size + 1, 0, none⟩ v).setCell ⟨w.heap.size + 1, 1, none⟩ (.string X.2))
  fin : keysAt ((W.setCell ⟨w.heap.size + 1, 0, none⟩ v).setCell ⟨w.heap.size + 1, 1, none⟩ (.string X.2)) v X.1 ∧ (∀ b, b < w.heap.size → keysAv w (some b) v0 k0 → keysAv ((W.setCell ⟨w.heap.size + 1, 0, none⟩ v).setCell ⟨w.heap.size + 1, 1, none⟩ (.string X.2)) (some b) v X.1) ∧ Below w.heap.size w ((W.setCell ⟨w.heap.size + 1, 0, none⟩ v).setCell ⟨w.heap.size + 1, 1, none⟩ (.string X.2))
theorem LsC.fin {w W : World} {v0 : Value} {k0 : List K2} {vX : Value} {X : C2} (h : LsC w W v0 k0 vX X) : LsF w W v0 k0 vX X := by
  obtain ⟨c0, c1, -, -⟩ := row2_of h.box
  obtain ⟨d0, d1, g0, g1⟩ := row2_of h.res
  have h1 := h.kb.grown (grown2 W (w.heap.size + 1) vX (.string X.2))
  exact ⟨c0, c1, d0, d1, g0, g1, cd_res h.res vX X.2, h1.to, fun b hb hv => (h.kc b hb hv).also h1.to, below2 h.below (by omega) vX (.string X.2)⟩
set_option maxRecDepth 100000 in
set_option maxHeartbeats 3000000 in
theorem sless_any (vb : Value) (Bs : List W2) (v : Value) (x : W2) (bb : Option Nat) (w : World) (hb : cdAv w bb vb (Bs.map (·.1))) (hne : ∀ b ∈ Bs, b.1.1 ≠ []) (hlen : Bs.length ≤ 1000000) (h : keysAt w v x.1.1) :
    Calls Try.prog 53 #[vb, .agg #[v, .string x.1.2]] w fun e w' => ∃ v', e = .returned (.agg #[v', .string (lessG ordW.toPla Bs x).1.2]) ∧ keysAt w' v' (lessG ordW.toPla Bs x).1.1 ∧
      (∀ b, b < w.heap.size → keysAv w (some b) v x.1.1 → keysAv w' (some b) v' (lessG ordW.toPla Bs x).1.1) ∧ Below w.heap.size w w' := by
  have HP := Lib.hid (LsC.start w v x.1.1 x.1.2 h)
  obtain ⟨ab, capb, rfl, hcapb, hcells⟩ := hb
  rw [List.length_map] at hcapb hcells ⊢
  obtain ⟨ax, capx, rfl, -, -⟩ := h
  go_enter Try.func53, Try.ntmps53
  go_wp2_with fail
  generalize (w.alloc (.cells #[.slice ax x.1.1.length capx, .string x.1.2] 27)).alloc (.cells #[.slice none 0 0, .string ⟨#[]⟩] 27) = W at *
  go_loopw [5] (fun i wr => ∃ (k : Nat) (vX : Value) (X : W2), k ≤ Bs.length ∧ i = .int .i64 k ∧ X = lessG ordW.toPla (Bs.take k) x ∧ LsC w wr (.slice ax x.1.1.length capx) x.1.1 vX X.1) (fun i _ => Bs.length - (intOf i).toNat)
  case atStart => exact ⟨0, _, x, Nat.zero_le _, rfl, rfl, HP.out⟩
  case round =>
    obtain ⟨k, vX, X, hk, rfl, hX, hO⟩ := hrel
    have HO := Lib.hid hO
    have HXE := Lib.hid hX
    clear hO HP hX
    by_cases hlt : k < Bs.length
    · obtain ⟨g, off, rfl, hg, hcs⟩ := hcells.resolve_left (by omega)
      have z0 : (0 : Int) ≤ (k : Int) := by omega
      have z1 : (k : Int) < (Bs.length : Int) := by omega
      obtain ⟨u, c1, c2, c3⟩ := hcs k hlt
      have hbn := hne (Bs.getD k grpW.zero) (by rw [List.getD, List.getElem?_eq_getElem hlt]; exact List.getElem_mem hlt)
      have hst := less_take Bs x k hlt
      rw [getD_W Bs k hlt] at c2 c3
      rw [← HXE.out] at hst
      generalize Bs.getD k grpW.zero = B at *
      have HST := Lib.hid hst
      clear hcells hcs hst HXE
      obtain ⟨au, cu, rfl, hcu, hku⟩ := c3.to
      have hbl : B.1.1.length ≠ 0 := fun e => hbn (List.length_eq_zero_iff.1 e)
      obtain ⟨gu, ou, rfl, hgu, hkc⟩ := hku.resolve_left hbl
      have hk0 := hkc 0 (by omega)
      simp only [Nat.zero_mul, Nat.add_zero] at hk0
      have y0 : (0 : Int) < (B.1.1.length : Int) := by omega
      have hpiv : B.1.1.getD 0 (0, 0) = ordW.piv B := by
        show B.1.1.getD 0 (0, 0) = B.1.1.headD (0, 0)
        cases hB : B.1.1 with
        | nil => exact absurd hB hbn
        | cons a l => rfl
      rw [hpiv] at hk0
      rename_i wr
      have hB := HO.out.below
      have L1 : ∀ w', Below wr.heap.size wr w' → (loadVar 25 ⟨w.heap.size, 0, none⟩).run Try.prog w' = .ok vX w' := fun w' hw => cd_loadk HO.out.box hw
      have L2 : ∀ w', Below wr.heap.size wr w' → (loadVar 25 ⟨g, off + k * 2, none⟩).run Try.prog w' = .ok (.slice (some ⟨gu, ou, none⟩) B.1.1.length cu) w' := fun w' hw => load_one agg_keys ((hw.cell (p := ⟨g, off + k * 2, none⟩) (Nat.lt_of_lt_of_le hg hB.size)).trans ((hB.cell (p := ⟨g, off + k * 2, none⟩) hg).trans c1))
      have hk1 : wr.cell? ⟨gu, ou, none⟩ = some (.int .i64 (ordW.piv B).1) ∧ wr.cell? ⟨gu, ou + 1, none⟩ = some (.int .i64 (ordW.piv B).2) := ⟨(hB.cell (p := ⟨gu, ou, none⟩) hgu).trans hk0.1, (hB.cell (p := ⟨gu, ou + 1, none⟩) hgu).trans hk0.2⟩
      have L3 : ∀ w', Below wr.heap.size wr w' → (loadVar 41 ⟨gu, ou, none⟩).run Try.prog w' = .ok (kv (ordW.piv B)) w' := fun w' hw => key_load hk1 (Nat.lt_of_lt_of_le hgu hB.size) hw
      have HK := Lib.hid (fun w' (hw : Below wr.heap.size wr w') => shaskey_any vX X.1.1 (ordW.piv B) w' (keysAt_below HO.out.ka.to hw) (by have := keys_few X.2.1; omega))
      have hhk : hasKeyB X.1.1 (ordW.piv B) = ordW.has X (ordW.piv B) := hasKey_mem _ _
      rw [hhk] at HK
      have d1 := (hB.cell (p := ⟨g, off + k * 2, none⟩) hg).trans c1
      have d2 := (hB.cell (p := ⟨g, off + k * 2 + 1, none⟩) hg).trans c2
      have HC3 := Lib.hid (keysAt_below c3.to hB)
      have HD := Lib.hid (And.intro d1 d2)
      clear hhk hk0 hk1 hkc hku hpiv c1 c2 c3 hbn d1 d2 hB
      have hS : lessS ordW.toPla X B = if ordW.has X (ordW.piv B) = true then grpW.add X B else X := rfl
      have HS := Lib.hid hS
      clear hS
      generalize ordW.piv B = kp at *
      obtain ⟨kp1, kp2⟩ := kp
      unfold kv at L3 HK
      dsimp only at L3 HK
      generalize hhas : ordW.has X (kp1, kp2) = hs at *
      go_wp2_with fail
      refine wp_region_below wr (by kernel_rfl) (by kernel_rfl) (Below.refl _ _) ?_
      repeat (first
        | go_big_quiet_skip
        | (go_big_quiet_want
           first
             | (go_big_quiet_op; go_big_quiet_on)
             | (refine q_load 25 _ _ _ rfl rfl L1 ?_; simp only [Act.put, List.setIfInBounds_toArray, List.set_cons_zero, List.set_cons_succ]; go_big_quiet_on)
             | (refine q_load 25 _ _ _ rfl rfl L2 ?_; simp only [Act.put, List.setIfInBounds_toArray, List.set_cons_zero, List.set_cons_succ]; go_big_quiet_on)
             | (refine q_load 41 _ _ _ rfl rfl L3 ?_; simp only [Act.put, List.setIfInBounds_toArray, List.set_cons_zero, List.set_cons_succ]; go_big_quiet_on)
             | (go_big_quiet_op; refine ⟨_, fun _ _ => rfl, ?_⟩; go_big_quiet_on)
             | (go_big_quiet_op; apply Exists.intro; refine ⟨fun w' hw' => ?_, ?_⟩
                · first
                  | (with_reducible refine (HK.out w' hw').mono ?_
                     rintro e w2 ⟨rfl, hb2⟩
                     exact ⟨rfl, hw'.trans (hb2.mono hw'.size)⟩)
                go_big_quiet_on)))
      refine wpQuiet_nil ?_
      intro w2 hb2
      clear L1 L2 L3 HK
      have HO2 := Lib.hid (HO.out.next hb2)
      have HC4 := Lib.hid (keysAt_below HC3.out hb2)
      have HD2 := Lib.hid (And.intro ((hb2.cell (p := ⟨g, off + k * 2, none⟩) (World.block_lt_of_cell? _ _ HD.out.1)).trans HD.out.1) ((hb2.cell (p := ⟨g, off + k * 2 + 1, none⟩) (World.block_lt_of_cell? _ _ HD.out.2)).trans HD.out.2))
      clear hb2 HO HC3 HD
      cases hs with
      | false =>
        go_wp2_with fail
        exact ⟨⟨k + 1, vX, X, by omega, by go_num, by rw [HST.out, HS.out]; rfl, HO2.out⟩, by simp [intOf]; omega⟩
      | true =>
        have SA := Lib.hid (fun w' (hw : Below w2.heap.size w2 w') => sadd_any vX X.1.1 X.1.2 (.slice (some ⟨gu, ou, none⟩) B.1.1.length cu) B.1.1 B.1.2 w' (keysAt_below HO2.out.ka.to hw) (keysAt_below HC4.out hw) X.2 B.2)
        obtain ⟨b0, b1, bf0, bf1⟩ := row2_of HO2.out.box
        have hl5 := (Array.getElem?_eq_some_iff.1 HO2.out.box).1
        have hd2 := HD2.out
        obtain ⟨d1, d2⟩ := hd2
        obtain ⟨avx, cvx, rfl, -, -⟩ := HO2.out.ka
        clear HC4 HD2
        go_wp2_with fail
        go_region_law (first
          | (go_simp
             go_at_call 42
             refine (SA.out _ (by first | exact Below.refl _ _ | exact (Below.refl _ _).drew)).mono ?_
             rintro e w5 ⟨v5, rfl, ho5, hb5⟩
             dsimp only
             obtain ⟨a5, n5, k5, rfl⟩ := own_shape ho5
             have HO5 := Lib.hid (LsC.next (LsC.next HO2.out (by first | exact Below.refl _ _ | exact (Below.refl _ _).drew)) hb5)
             obtain ⟨e0, e1, ef0, ef1⟩ := row2_of HO5.out.box
             have HW := Lib.hid (own_base ho5 (show w.heap.size + 2 ≤ _ by have := (Array.getElem?_eq_some_iff.1 HO2.out.res).1; first | exact this | (show w.heap.size + 2 ≤ w2.heap.size; omega)))
             have hl6 := (Array.getElem?_eq_some_iff.1 HO5.out.box).1
             clear hb5 ho5 b0 b1 bf0 bf1 d1 d2 SA HO2 hl5))
        all_goals
          have HO7 := Lib.hid (HO5.out.sets (addC (X.1.1, X.1.2) (B.1.1, B.1.2)).2 HW.out (Nat.le_refl _))
          clear HO5 HW
          go_wp2
          exact ⟨⟨k + 1, .slice a5 n5 k5, grpW.add X B, by omega, by go_num, by rw [HST.out, HS.out]; rfl, HO7.out⟩, by simp [intOf]; omega⟩
    · obtain rfl : k = Bs.length := by omega
      clear hcells hne
      obtain ⟨avx, cvx, rfl, -, -⟩ := HO.out.ka
      have HF := Lib.hid HO.out.fin
      have hF := HF.out
      obtain ⟨c0, c1, d0, d1, g0, g1, -, -⟩ := hF
      have hl5 := (Array.getElem?_eq_some_iff.1 HO.out.box).1
      have hlr := (Array.getElem?_eq_some_iff.1 HO.out.res).1
      have hXE := HXE.out
      rw [List.take_length] at hXE
      subst hXE
      go_wp2_with fail
      refine bodyPost_ret (v := .agg #[.slice avx (lessG ordW.toPla Bs x).1.1.length cvx, .string (lessG ordW.toPla Bs x).1.2]) ?_ rfl ⟨_, rfl, HF.out.fin.1, HF.out.fin.2.1, HF.out.fin.2.2⟩
      rw [results_cell (p := 4) (ty := 27) (by kernel_rfl)]
      have l2 := HF.out.load
      simp [asAddr, Result.andThen, l2]
end Go.Proofs.Ytbbjpjkclealfaa
namespace Go.Proofs.Ytbbjpjkclealfaa
open Go.ChangeShapes Go.WideShapes Go.ChangeAt Go.RowKit Go.BigFrame
set_option linter.unusedVariables false

attribute [local irreducible] rowA
set_option maxRecDepth 100000 in
set_option maxHeartbeats 2000000 in
theorem ieq_any (vl : Value) (L : List C2) (w : World) (h : cdAv w none vl L) (hl : L.length ≤ 1900000) (hks : ∀ x ∈ L, x.1.length ≤ 2000000) :
    Calls Try.prog 88 #[vl] w fun e w' => ∃ v, e = .returned v ∧ rwOwn w' w.heap.size v (rowsN L L.length) ∧ Below w.heap.size w w' := by
  have h0 : rwOwn w w.heap.size (.slice none 0 0) [] := World.ownsRow_nil _ _ _ _
  have H0 := Lib.hid h0
  clear h0
  obtain ⟨al, cl, rfl, hcl, hcells⟩ := h
  go_enter Try.func88, Try.ntmps88
  go_wp2_with fail
  go_loopw [3, 8] (fun v i wr => ∃ (k : Nat) (a : Option Addr) (c : Nat), k ≤ L.length ∧ i = .int .i64 k ∧ v = .slice a (rowsN L k).length c ∧ rwOwn wr w.heap.size v (rowsN L k) ∧ Below w.heap.size w wr) (fun _ i _ => L.length - (intOf i).toNat)
  case atStart => exact ⟨0, none, 0, Nat.zero_le _, rfl, rfl, H0.out, Below.refl _ _⟩
  case round =>
    obtain ⟨k, a, c, hk, rfl, rfl, ho, hB⟩ := hrel
    have HO := Lib.hid ho
    have HB := Lib.hid hB
    have hml := (rowsN_le L k).1
    clear ho hB H0
    rename_i wr
    by_cases hlt : k < L.length
    · obtain ⟨gl, off, rfl, hg, hcs⟩ := hcells.resolve_left (by omega)
      have z0 : (0 : Int) ≤ (k : Int) := by omega
      have z1 : (k : Int) < (L.length : Int) := by omega
      obtain ⟨u, c1, c2, c3⟩ := hcs k hlt
      have hxl := hks (L.getD k blankC) (by rw [List.getD, List.getElem?_eq_getElem hlt]; exact List.getElem_mem hlt)
      have hyes := fun hck => rowsN_yes (l := L) (i := k) hck
      have hno := fun hck => rowsN_no (l := L) (i := k) hck
      generalize L.getD k blankC = x at *
      have d1 := (HB.out.cell (p := ⟨gl, off + k * 2, none⟩) hg).trans c1
      have d2 := (HB.out.cell (p := ⟨gl, off + k * 2 + 1, none⟩) hg).trans c2
      have hx0 := keysAt_below c3.to HB.out
      obtain ⟨au, cu, rfl, -, -⟩ := c3
      have hbA := (Below.refl wr.heap.size wr).alloc (Nat.le_refl _) (.cells #[.slice au x.1.length cu, .string x.2] 27)
      have HX := Lib.hid (heap_alloc_new wr (.cells #[.slice au x.1.length cu, .string x.2] 27))
      have HK := Lib.hid (keysAt_below hx0 hbA)
      have HBA := Lib.hid (HB.out.trans (hbA.mono HB.out.size))
      have HOA := Lib.hid (show rwOwn _ _ _ _ from own_below HO.out hbA)
      clear hcells hcs c1 c2 hks hx0 hbA
      by_cases hm : (rowsN L k).length = 20
      · have m1 : ((rowsN L k).length : Int) = 20 := by omega
        have hf := rowsN_full (l := L) (i := k) hm (L.length - k)
        rw [show k + (L.length - k) = L.length by omega] at hf
        have HF := Lib.hid hf
        clear hf hyes hno hm
        go_wp2_with fail
        go_ret
        exact ⟨_, rfl, by rw [HF.out]; exact HOA.out, HBA.out⟩
      · have m1 : ¬ ((rowsN L k).length : Int) = 20 := by omega
        go_wp2_with fail
        generalize wr.alloc (.cells #[.slice au x.1.length cu, .string x.2] 27) = W at *
        obtain ⟨x0, x1, -, -⟩ := row2_of HX.out
        go_wp2_with fail
        refine (icodeok_any _ x.1 x.2 W HK.out hxl).mono ?_
        rintro e w1 ⟨rfl, hb1⟩
        have HX1 := Lib.hid ((hb1.block _ (Array.getElem?_eq_some_iff.1 HX.out).1).trans HX.out)
        have HK1 := Lib.hid (keysAt_below HK.out hb1)
        have HB1 := Lib.hid (HBA.out.trans (hb1.mono HBA.out.size))
        have HO1 := Lib.hid (show rwOwn _ _ _ _ from own_below HOA.out hb1)
        clear hb1 HX HK HBA HOA x0 x1
        cases hck : codeOkB (x.1, x.2) with
        | false =>
          have HN := Lib.hid (hno hck)
          clear hyes hno hck
          go_wp2_with fail
          exact ⟨⟨k + 1, a, c, by omega, by go_num, by rw [HN.out], by rw [HN.out]; exact HO1.out, HB1.out⟩, by simp [intOf]; omega⟩
        | true =>
          have HY := Lib.hid (hyes hck (by omega))
          have hw := ok_w hck
          generalize hxw : (⟨x, hw⟩ : W2) = xw at *
          have hx1 : x = xw.1 := by rw [← hxw]
          subst hx1
          have IR := Lib.hid (fun w' (hb : Below w1.heap.size w1 w') => irow_any (.slice au xw.1.1.length cu) xw.1.1 xw.1.2 w' (keysAt_below HK1.out hb) xw.2.1 xw.2.2)
          obtain ⟨x0, x1, -, -⟩ := row2_of HX1.out
          clear hyes hno hck HK1 hxw hw
          go_wp2_with fail
          refine (IR.out _ (Below.refl _ _)).mono ?_
          rintro e w2 ⟨rfl, hb2⟩
          have HB2 := Lib.hid (HB1.out.trans (hb2.mono HB1.out.size))
          have HO2 := Lib.hid (show rwOwn _ _ _ _ from own_below HO1.out hb2)
          clear hb2 HX1 HB1 HO1 x0 x1 IR
          rw [show hasX (xw.1.1, xw.1.2) = hX xw from rfl]
          have hbA := (Below.refl w2.heap.size w2).alloc (Nat.le_refl _) (.cells (rowA (hX xw)) 79)
          have HA := Lib.hid (heap_alloc_new w2 (.cells (rowA (hX xw)) 79))
          have HB3 := Lib.hid (HB2.out.trans (hbA.mono HB2.out.size))
          have HO3 := Lib.hid (show rwOwn _ _ _ _ from own_below HO2.out hbA)
          have hsz := HB3.out.size
          have hfold := fold_row (hX xw)
          have hrs := rowA_size (hX xw)
          have hfold2 := hfold
          rw [hrs] at hfold2
          clear hbA HB2 HO2
          go_wp2_with (at_builtin; refine wpList_append_rw rfl (.tmp 17) (.tmp 20) rfl HO3.out w2.heap.size xw HA.out rfl rfl (by omega) hsz ?_; intro v5 w5 hown5 hgr5)
          have hB5 := HB3.out.grown hgr5 hsz (fun j e => (HO3.out.lt j e).1)
          rcases ownsRowK_shape hown5 with ⟨-, hz⟩ | ⟨g3, c3, rfl, -⟩
          · simp at hz
          · exact ⟨⟨k + 1, some ⟨g3, 0, none⟩, c3, by omega, by go_num, by rw [HY.out], by rw [HY.out]; exact hown5, hB5⟩, by simp [intOf]; omega⟩
    · obtain rfl : k = L.length := by omega
      clear hcells hks
      go_wp2_with fail
      go_ret
      exact ⟨_, rfl, HO.out, HB.out⟩
end Go.Proofs.Ytbbjpjkclealfaa
namespace Go.Proofs.Ytbbjpjkclealfaa
open Go.ChangeShapes Go.WideShapes Go.ChangeAt Go.RowKit Go.BigFrame
set_option linter.unusedVariables false

theorem wpStill_load {P : Program} {ops : Array Oper} {w : World} {Q : Act → Prop} {a : Act} {o : Oper} {rest : List Oper} (ty : TypeId) (x : Operand) (p : Addr) (v : Value) (hw : Region.wanted o (yielded ops a.tmps) = true) (ho : o.op = .load ty x)
    (hx : a.eval x = .pointer (some p)) (hl : (loadVar ty p).run P w = .ok v w) (h : wpStill P ops w Q rest (a.put o.dst v)) : wpStill P ops w Q (o :: rest) a := by
  refine wpStill_step fun K hK => ?_
  rw [if_pos hw]
  unfold Oper.still execOp
  simp only [ho, hx, Instr.loadAt, Instr.sureAddr, Sem.run_bind, Sem.run_pure, Result.andThen_ok, hl]
  rw [Oper.stillUpon_value]
  exact hK _ h
def pivC (P : List Nat) : List Value := P.map fun (p : Nat) => Value.int .i64 (p : Int)
theorem pivC_snoc (P : List Nat) (p : Nat) : pivC (P ++ [p]) = pivC P ++ [.int .i64 (p : Int)] := by simp [pivC]
theorem pivC_get (P : List Nat) (i : Nat) (hi : i < P.length) : (pivC P)[i]? = some (.int .i64 ((P.getD i 0 : Nat) : Int)) := by simp [pivC, hi]
theorem infoI : (Try.prog.info? 3).map (fun i => (i.zero, i.size, i.bytes)) = some (some (.int .i64 0), 1, 8) := by kernel_rfl
theorem wpList_append_piv {ops : Array Oper} {rest : List Oper} {o : Oper} {a : Act} {w : World} {Q : Exit → Act → World → Prop} (hgd : o.guard = none) (s x : Operand)
    (ho : o.op = .call { callee := .builtin .append, args := #[s, x], argTypes := #[72, 72] })
    {base : Nat} {v : Value} {P : List Nat} (hown : w.ownsRow base 3 1 v P.length (pivC P)) (g : Nat) (p : Nat) (hu : w.heap[g]? = some (.cells #[.int .i64 (p : Int)] 3 (0, 0))) (hs : a.eval s = v) (hx : a.eval x = .slice (some ⟨g, 0, none⟩) 1 1) (hn : P.length ≤ 100000) (hbase : base ≤ w.heap.size)
    (h : ∀ v' w', w'.ownsRow base 3 1 v' (P ++ [p]).length (pivC (P ++ [p])) → w.grownBy w' v.ownBlock → (v'.ownBlock = v.ownBlock ∨ v'.ownBlock = some w.heap.size) → wpList Try.prog ops Q rest (a.put o.dst v') w') : wpList Try.prog ops Q (o :: rest) a w := by
  refine wpList_plain hgd fun K hK => ?_
  obtain ⟨i0, hi, hz0, hz1, hz2⟩ := info_parts infoI
  obtain ⟨v', w', hr, h2, h3, h4, h5⟩ := run_append_own_at (P := Try.prog) w base 72 o.type 3 i0 (.int .i64 0) 1 8 Try.underlying72 hi hz0 hz1 hz2 rfl (by decide) v P.length (pivC P) hown ⟨g, 0, none⟩ 1 1 [.int .i64 (p : Int)] rfl
    (fun j u hj => by
      have hadd : (⟨g, 0, none⟩ : Addr).add j = ⟨g, j, none⟩ := by unfold Addr.add; split <;> simp_all
      rw [hadd, cell_of_row _ _ _ _ _ _ hu]
      simpa using hj) (fun u hu => by rcases List.mem_singleton.1 hu with rfl; rfl) (by unfold maxLen; omega) (by omega) hbase
  unfold Oper.wp execOp
  simp only [ho, resolve, invoke, builtin, Sem.run_bind, Sem.run_pure, Result.andThen_ok, List.map_toArray, List.map_cons, List.map_nil, hs, hx, hr]
  refine hK _ _ (h v' w' ?_ h3 h5)
  rw [List.length_append, pivC_snoc]
  exact h2
theorem Alike.setCells {w w' : World} (h : Alike w w') (g : Nat) : ∀ (vs : List Value) (o : Nat), Alike (w.setCells g o vs) (w'.setCells g o vs) := by
  intro vs
  induction vs generalizing w w' with
  | nil => intro o; exact h
  | cons v r ih => intro o; exact ih (h.setCell _ _) (o + 1)
/-- rows and pivots of one's own -/
structure RwP (w W : World) (a : Option Addr) (n c : Nat) (R : List W2) (v3 : Value) (P : List Nat) : Prop where
  below : Below w.heap.size w W
  len : R.length = n
  rows : W.ownsRow w.heap.size 79 32 (.slice a n c) n (rowsC R)
  piv : W.ownsRow w.heap.size 3 1 v3 P.length (pivC P)
  ne : v3.ownBlock = none ∨ v3.ownBlock ≠ (Value.slice a n c).ownBlock
theorem RwP.next {w W W' : World} {a : Option Addr} {n c : Nat} {R : List W2} {v3 : Value} {P : List Nat} (h : RwP w W a n c R v3 P) (hb : Below W.heap.size W W') : RwP w W' a n c R v3 P :=
  ⟨h.below.trans (hb.mono h.below.size), h.len, own_below h.rows hb, own_below h.piv hb, h.ne⟩
theorem RwP.alike {w W W' : World} {a : Option Addr} {n c : Nat} {R : List W2} {v3 : Value} {P : List Nat} (h : RwP w W a n c R v3 P) (ha : Alike W W') : RwP w W' a n c R v3 P := h.next ha.below
theorem RwP.own {w W : World} {g n c : Nat} {R : List W2} {v3 : Value} {P : List Nat} (h : RwP w W (some ⟨g, 0, none⟩) n c R v3 P) : rwOwn W w.heap.size (.slice (some ⟨g, 0, none⟩) R.length c) R := by
  have := h.rows
  unfold rwOwn
  rw [h.len]; exact this
theorem RwP.set {w W : World} {g n c : Nat} {R : List W2} {v3 : Value} {P : List Nat} (h : RwP w W (some ⟨g, 0, none⟩) n c R v3 P) (i : Nat) (x : W2) (hi : i < n) : RwP w (W.setCells g (i * 32) (rowV (hX x))) (some ⟨g, 0, none⟩) n c (R.set i x) v3 P := by
  have hl := h.len
  have hg := h.rows.lt g rfl
  have hgr := grown_setCells g (rowV (hX x)) (i * 32) W
  refine ⟨h.below.grown hgr h.below.size (fun j e => by cases e; exact hg.1), by rw [List.length_set, hl], ?_, h.piv.kept hgr (h.ne.imp_right fun hne e => hne e), h.ne⟩
  have := h.own.set i x (by omega)
  unfold rwOwn at this
  rw [List.length_set, hl] at this
  exact this
theorem RwP.swap {w W : World} {g n c : Nat} {R : List W2} {v3 : Value} {P : List Nat} (h : RwP w W (some ⟨g, 0, none⟩) n c R v3 P) (i j : Nat) (hi : i < n) (hj : j < n) :
    RwP w ((W.setCells g (i * 32) (rowV (hX (R.getD j zW)))).setCells g (j * 32) (rowV (hX (R.getD i zW)))) (some ⟨g, 0, none⟩) n c (swapL R i j) v3 P := (h.set i (R.getD j zW) hi).set j (R.getD i zW) hj
theorem RwP.push {w W W' : World} {g n c : Nat} {R : List W2} {v3 v5 : Value} {P : List Nat} {p : Nat} (h : RwP w W (some ⟨g, 0, none⟩) n c R v3 P) (hgr : W.grownBy W' v3.ownBlock) (ho : W'.ownsRow w.heap.size 3 1 v5 (P ++ [p]).length (pivC (P ++ [p])))
    (hv : v5.ownBlock = v3.ownBlock ∨ v5.ownBlock = some W.heap.size) : RwP w W' (some ⟨g, 0, none⟩) n c R v5 (P ++ [p]) := by
  have hg := h.rows.lt g rfl
  have hne : (Value.slice (some ⟨g, 0, none⟩) n c).ownBlock ≠ v3.ownBlock := by
    rcases h.ne with e | e
    · rw [e]; intro e2; cases e2
    · exact fun e2 => e e2.symm
  refine ⟨h.below.grown hgr h.below.size (fun j e => (h.piv.lt j e).1), h.len, h.rows.kept hgr (.inr hne), ho, ?_⟩
  rcases hv with e | e
  · rw [e]; exact h.ne
  · right
    rw [e]
    intro e2
    have e3 : W.heap.size = g := Option.some.inj e2
    omega
theorem rowV_add (x y : W2) : (rowV fun p => hX x p != hX y p) = rowV (hX (grpW.add x y)) := rowV_congr fun p _ => (hX_add x y p).symm
/-- what is told of rows and pivots -/
structure SvE (w W : World) (v v3 : Value) (Lw R : List W2) (P : List Nat) : Prop where
  below : Below w.heap.size w W
  el : Elim Lw R P 2016
  few : P.length ≤ 20
  geR : ∀ b, v.ownBlock = some b → w.heap.size ≤ b
  geP : ∀ b, v3.ownBlock = some b → w.heap.size ≤ b
  rows : ∃ a c, v = .slice a P.length c ∧ P.length ≤ c ∧ (P.length = 0 ∨ ∃ g, a = some ⟨g, 0, none⟩ ∧ g < W.heap.size ∧ ∀ i, i < P.length → W.rangeAt g (i * 32) (rowV (hX (R.getD i zW))))
  piv : ∃ a c, v3 = .slice a P.length c ∧ P.length ≤ c ∧ (P.length = 0 ∨ ∃ g, a = some ⟨g, 0, none⟩ ∧ g < W.heap.size ∧ ∀ i, i < P.length → W.cell? ⟨g, i, none⟩ = some (.int .i64 ((P.getD i 0 : Nat) : Int)))
theorem SvE.next {w W W' : World} {v v3 : Value} {Lw R : List W2} {P : List Nat} (h : SvE w W v v3 Lw R P) (hb : Below W.heap.size W W') : SvE w W' v v3 Lw R P := by
  refine ⟨h.below.trans (hb.mono h.below.size), h.el, h.few, h.geR, h.geP, ?_, ?_⟩
  · obtain ⟨a, c, e1, e2, e3⟩ := h.rows
    refine ⟨a, c, e1, e2, e3.imp_right ?_⟩
    rintro ⟨g, e4, e5, e6⟩
    exact ⟨g, e4, Nat.lt_of_lt_of_le e5 hb.size, fun i hi j v hv => (hb.cell (p := ⟨g, i * 32 + j, none⟩) e5).trans (e6 i hi j v hv)⟩
  · obtain ⟨a, c, e1, e2, e3⟩ := h.piv
    refine ⟨a, c, e1, e2, e3.imp_right ?_⟩
    rintro ⟨g, e4, e5, e6⟩
    exact ⟨g, e4, Nat.lt_of_lt_of_le e5 hb.size, fun i hi => (hb.cell (p := ⟨g, i, none⟩) e5).trans (e6 i hi)⟩
theorem RwP.out {w W : World} {a : Option Addr} {n c : Nat} {R : List W2} {v3 : Value} {P : List Nat} {Lw : List W2} (h : RwP w W a n c R v3 P) (he : Elim Lw R P 2016) (hn : n ≤ 20) : SvE w W (.slice a P.length c) v3 Lw R P := by
  have hl := h.len
  have hPn : P.length ≤ n := by rw [← hl]; exact he.len
  refine ⟨h.below, he, by omega, fun b hb => (h.rows.lt b (by cases a with | none => cases hb | some x => exact hb)).1, fun b hb => (h.piv.lt b hb).1, ?_, ?_⟩
  · rcases h.rows.2 with ⟨e, h0⟩ | ⟨g, cap, cur, e, hb, hg, hnc, _⟩
    · cases e
      exact ⟨none, 0, rfl, by omega, .inl (by omega)⟩
    · cases e
      refine ⟨_, _, rfl, by omega, .inr ⟨g, rfl, (Array.getElem?_eq_some_iff.1 hg).1, fun i hi => h.own.range i (by omega)⟩⟩
  · rcases h.piv.2 with ⟨e, h0⟩ | ⟨g, cap, cur, e, hb, hg, hnc, _⟩
    · exact ⟨none, 0, by rw [e, h0], by omega, .inl h0⟩
    · subst e
      refine ⟨_, _, rfl, hnc, .inr ⟨g, rfl, (Array.getElem?_eq_some_iff.1 hg).1, fun i hi => ?_⟩⟩
      rw [h.piv.cellAt i (by omega)]
      exact pivC_get P i hi
end Go.Proofs.Ytbbjpjkclealfaa
namespace Go.Proofs.Ytbbjpjkclealfaa
open Go.ChangeShapes Go.WideShapes Go.ChangeAt Go.RowKit Go.BigFrame
set_option linter.unusedVariables false

attribute [local irreducible] rowV rowA
set_option maxRecDepth 100000 in
set_option maxHeartbeats 3000000 in
theorem isolved_any (vl : Value) (L : List C2) (w : World) (h : cdAv w none vl L) (hl : L.length ≤ 1900000) (hks : ∀ x ∈ L, x.1.length ≤ 2000000) :
    Calls Try.prog 45 #[vl] w fun e w' => ∃ v v3 R P, e = .returned (.tuple #[v, v3]) ∧ SvE w w' v v3 (rowsN L L.length) R P := by
  have H := Lib.hid (ieq_any vl L w h hl hks)
  have hn20 := (rowsN_le L L.length).1
  go_enter Try.func45, Try.ntmps45
  go_wp2_with fail
  refine wp_scope_straight ?_
  go_wp2_with fail
  refine H.out.mono ?_
  rintro e w1 ⟨v1, rfl, ho1, hb1⟩
  generalize hRS : rowsN L L.length = RS at *
  obtain ⟨a, n, c, hv1, hn⟩ : ∃ a n c, v1 = .slice a n c ∧ RS.length = n := by
    rcases ownsRowK_shape ho1 with ⟨e1, h0⟩ | ⟨g, cap, e1, -⟩
    · exact ⟨none, 0, 0, e1, h0⟩
    · exact ⟨_, _, _, e1, rfl⟩
  subst hv1
  have ho1' : w1.ownsRow w.heap.size 79 32 (.slice a n c) n (rowsC RS) := by
    have := ho1; unfold rwOwn at this; rw [hn] at this; exact this
  have H1 := Lib.hid (show RwP w w1 a n c RS (.slice none 0 0) [] from ⟨hb1, hn, ho1', World.ownsRow_nil _ _ _ _, .inl rfl⟩)
  have HE := Lib.hid (Elim.start RS)
  have hnn : n ≤ 20 := by omega
  clear ho1 ho1' hb1 H hn hn20
  go_wp2_with fail
  try (refine wp_label ?_)
  try go_wp2_with fail
  go_loopw [3, 10] (fun v i wr => ∃ (p : Nat) (R : List W2) (P : List Nat) (a3 : Option Addr) (c3 : Nat), p ≤ 2016 ∧ i = .int .i64 p ∧ v = .slice a3 P.length c3 ∧ RwP w wr a n c R v P ∧ Elim RS R P p) (fun _ i _ => 2016 - (intOf i).toNat)
  case atStart => exact ⟨0, RS, [], none, 0, Nat.zero_le _, rfl, rfl, H1.out, HE.out⟩
  case round =>
    obtain ⟨p, R, P, a3, c3, hp, rfl, rfl, hR, hE⟩ := hrel
    have HR := Lib.hid hR
    have HE := Lib.hid hE
    clear hR hE H1
    rename_i wr
    have hlen := HR.out.len
    have hPn := HE.out.len
    rw [hlen] at hPn
    clear hlen
    by_cases hlt : p < 2016
    · have z0 : (0 : Int) ≤ (p : Int) := by omega
      have z1 : (p : Int) < 2016 := by omega
      go_wp2_with fail
      obtain ⟨wo, rfl⟩ : ∃ wo : World, wo = wr := ⟨_, rfl⟩
      go_loopw [6] (fun i wx => ∃ (t : Nat), P.length ≤ t ∧ t ≤ n ∧ i = .int .i64 t ∧ wx = wo ∧ ∀ j, P.length ≤ j → j < t → hX (R.getD j zW) p = false) (fun i _ => n - (intOf i).toNat)
      case atStart => exact ⟨P.length, Nat.le_refl _, hPn, rfl, rfl, fun j h1 h2 => by omega⟩
      case round =>
        obtain ⟨t, ht1, ht2, rfl, hwx, hno⟩ := hrel
        have hwx' := hwx.symm
        clear hwx
        subst hwx'
        have HNO := Lib.hid hno
        clear hno
        by_cases htn : t = n
        · have y1 : (t : Int) = (n : Int) := by omega
          have hE2 := Lib.hid (HE.out.no fun j h1 h2 => HNO.out j h1 (by rw [HR.out.len] at h2; omega))
          go_wp2_with fail
          exact ⟨⟨p + 1, R, P, a3, c3, by omega, by go_num, rfl, HR.out, hE2.out⟩, by simp [intOf]; omega⟩
        · have y1 : ¬ (t : Int) = (n : Int) := by omega
          have y0 : (0 : Int) ≤ (t : Int) := by omega
          have y2 : (t : Int) < (n : Int) := by omega
          obtain ⟨g, rfl⟩ : ∃ g, a = some ⟨g, 0, none⟩ := by
            rcases HR.out.rows.2 with ⟨e1, h0⟩ | ⟨g, cap, cur, e1, _⟩
            · omega
            · cases e1; exact ⟨g, rfl⟩
          have hrt := HR.out.own.range t (by rw [HR.out.len]; omega)
          have IH := Lib.hid (ihas_any g (t * 32) (hX (R.getD t zW)) p (by omega) wo hrt)
          clear hrt
          go_wp2_with fail
          refine IH.out.mono ?_
          rintro e w2 ⟨rfl, hw2⟩
          have hw2' := hw2.symm
          clear hw2
          subst hw2'
          clear IH
          cases hx : hX (R.getD t zW) p with
          | false =>
            go_wp2_with fail
            exact ⟨⟨t + 1, by omega, by omega, by go_num, trivial, fun j h1 h2 => by
              rcases (by omega : j < t ∨ j = t) with h3 | rfl
              · exact HNO.out j h1 h3
              · exact hx⟩, by simp [intOf]; omega⟩
          | true =>
            have hd : P.length < n := by omega
            have HSW := Lib.hid (HE.out.swap ht1 (by rw [HR.out.len]; omega))
            have hxd : hX ((swapL R P.length t).getD P.length zW) p = true := by
              have hl := HR.out.len
              rw [swap_get R P.length t P.length (by omega) (by omega) (by omega)]
              by_cases e : P.length = t
              · rw [if_pos e, e]; exact hx
              · rw [if_neg e, if_pos rfl]; exact hx
            have HET := Lib.hid (HSW.out.turn (by rw [swap_len, HR.out.len]; exact hd) hxd)
            have HRD := Lib.hid (HR.out.next (Below.refl wo.heap.size wo).drew)
            have HRS2 := Lib.hid (HRD.out.swap P.length t hd (by omega))
            have hro := HRD.out.own
            have hrl := HRD.out.len
            have LD1 := run_loadVar_mid (P := Try.prog) wo.drew g (t * 32) 79 (rowV (hX (R.getD t zW))) _ (hro.range t (by omega)) Try.underlying79 rfl (by rw [rowV_len]; exact size_row)
            have LD2 := run_loadVar_mid (P := Try.prog) wo.drew g (P.length * 32) 79 (rowV (hX (R.getD P.length zW))) _ (hro.range P.length (by omega)) Try.underlying79 rfl (by rw [rowV_len]; exact size_row)
            have ht1' := hro.there P.length (by omega)
            have ht2' := World.there_setCells (hro.there t (by omega)) g (P.length * 32) (rowV (hX (R.getD t zW)))
            have hs1 := rowV_len (hX (R.getD t zW))
            have hs2 := rowV_len (hX (R.getD P.length zW))
            have ho1 : (rowV (hX (R.getD t zW))).toArray.all (·.oneCell') = true := all_oneCell_toArray (rowV_one _)
            have ho2 : (rowV (hX (R.getD P.length zW))).toArray.all (·.oneCell') = true := all_oneCell_toArray (rowV_one _)
            have y3 : (0 : Int) ≤ (P.length : Int) := by omega
            have y4 : (P.length : Int) < (n : Int) := by omega
            clear hro hrl hx hxd HSW HNO
            generalize rowV (hX (R.getD t zW)) = A1 at *
            generalize rowV (hX (R.getD P.length zW)) = A2 at *
            go_wp2_with fail
            refine wp_region_plan [2, 3] [true, true, false, false, true, true, true, true, true, true, true, true, true] 13 (by kernel_rfl) (by kernel_rfl) (by kernel_rfl) ?_
            simp only [maskRows, movesA, moveOf, List.getElem?_toArray, List.getElem?_cons_zero, List.getElem?_cons_succ, List.drop_succ_cons, List.drop_zero]
            repeat (first
              | (refine wpStill_load 79 _ _ _ rfl rfl rfl LD1 ?_; simp only [Act.put, List.setIfInBounds_toArray, List.set_cons_zero, List.set_cons_succ])
              | (refine wpStill_load 79 _ _ _ rfl rfl rfl LD2 ?_; simp only [Act.put, List.setIfInBounds_toArray, List.set_cons_zero, List.set_cons_succ])
              | still_step)
            refine wpStill_nil ?_
            intro K1 hK1
            refine wpList_store_mid rfl 79 (.tmp 39) (.tmp 34) rfl g (P.length * 32) A1.toArray rfl rfl (by rw [List.size_toArray, hs1]; exact ht1') (by rw [List.size_toArray, hs1]; exact size_row) ho1 ?_
            refine wpList_plain rfl (fun K hK => ?_)
            go_simp
            refine hK _ _ ?_
            clear hK K
            refine wpList_store_mid rfl 79 (.tmp 40) (.tmp 38) rfl g (t * 32) A2.toArray rfl rfl (by rw [List.size_toArray, hs2]; exact ht2') (by rw [List.size_toArray, hs2]; exact size_row) ho2 ?_
            apply wpList_nil
            refine hK1 _ _ ?_
            clear hK1 K1 LD1 LD2 ht1' ht2' ho1 ho2
            simp only [Act.put]
            generalize (wo.drew.setCells g (P.length * 32) A1).setCells g (t * 32) A2 = W5 at *
            rw [show (swapL R P.length t).length = n by rw [swap_len, HR.out.len]] at HET
            clear HR HRD HE hs1 hs2
            generalize swapL R P.length t = R5 at *
            have hR5 := HRS2.out.len
            go_wp2_with fail
            obtain ⟨wq, rfl⟩ : ∃ wq : World, wq = W5 := ⟨_, rfl⟩
            have HT0 := Lib.hid (show RwP w wq (some ⟨g, 0, none⟩) n c (turnL R5 P.length p 0) (.slice a3 P.length c3) P by rw [turn_zero]; exact HRS2.out)
            go_loopw [43] (fun i wx => ∃ (t : Nat) (wy : World), t ≤ n ∧ i = .int .i64 t ∧ wy = wx ∧ RwP w wy (some ⟨g, 0, none⟩) n c (turnL R5 P.length p t) (.slice a3 P.length c3) P) (fun i _ => n - (intOf i).toNat)
            case atStart => exact ⟨0, _, Nat.zero_le _, rfl, rfl, HT0.out⟩
            case round =>
              obtain ⟨i, wy, hi, rfl, hwy, hTT⟩ := hrel
              subst hwy
              have HTT := Lib.hid hTT
              clear hTT HT0 HRS2
              by_cases hin : i < n
              · have q0 : (0 : Int) ≤ (i : Int) := by omega
                have q1 : (i : Int) < (n : Int) := by omega
                have hat := turn_at R5 P.length p i (by omega)
                have hatd := turn_d R5 P.length p i (by omega)
                by_cases hid : i = P.length
                · have e1 : (i : Int) = (P.length : Int) := by omega
                  have hst := Lib.hid (turn_same R5 P.length p i (by omega) (.inl hid))
                  clear hat hatd hid
                  go_wp2_with fail
                  exact ⟨⟨i + 1, _, by omega, by go_num, rfl, by rw [hst.out]; exact HTT.out⟩, by simp [intOf]; omega⟩
                · have e1 : ¬ (i : Int) = (P.length : Int) := by omega
                  have hro := HTT.out.own
                  have hrl := HTT.out.len
                  have hri := hro.range i (by omega)
                  have hrd := hro.range P.length (by omega)
                  have hti := hro.there i (by omega)
                  rw [hat] at hri
                  rw [hatd] at hrd
                  have IH := Lib.hid (ihas_any g (i * 32) (hX (R5.getD i zW)) p (by omega) wy hri)
                  have HRI := Lib.hid (And.intro hri (And.intro hrd hti))
                  clear hro hri hrd hti hat hatd
                  go_wp2_with fail
                  refine IH.out.mono ?_
                  rintro e w2 ⟨rfl, hw2⟩
                  have hw2' := hw2.symm
                  clear hw2
                  subst hw2'
                  clear IH
                  cases hx : hX (R5.getD i zW) p with
                  | false =>
                    have hst := Lib.hid (turn_same R5 P.length p i (by omega) (.inr hx))
                    clear hx
                    go_wp2_with fail
                    exact ⟨⟨i + 1, _, by omega, by go_num, rfl, by rw [hst.out]; exact HTT.out⟩, by simp [intOf]; omega⟩
                  | true =>
                    have hst := Lib.hid (turn_step R5 P.length p i (by omega) hid hx)
                    have HSET := Lib.hid (fun W' (ha : Alike (wy.setCells g (i * 32) (rowV fun q => hX (R5.getD i zW) q != hX (R5.getD P.length zW) q)) W') => (show RwP w W' (some ⟨g, 0, none⟩) n c (turnL R5 P.length p (i + 1)) (.slice a3 P.length c3) P by
                      rw [rowV_add] at ha
                      rw [hst.out]
                      exact (HTT.out.set i _ hin).alike ha))
                    have IT := Lib.hid (fun w' (hb : Alike wy w') => iturn_any g (i * 32) (hX (R5.getD i zW)) g (P.length * 32) (hX (R5.getD P.length zW)) w' (fun j v hj => (hb.cell _).trans (HRI.out.1 j v hj)) (fun j v hj => (hb.cell _).trans (HRI.out.2.1 j v hj)) (fun j hj => ⟨by rw [hb.cell]; exact (HRI.out.2.2 j hj).1, by rw [hb.frozen]; exact (HRI.out.2.2 j hj).2⟩) (by right; omega))
                    have y3 : (0 : Int) ≤ (P.length : Int) := by omega
                    have y4 : (P.length : Int) < (n : Int) := by omega
                    clear hx hst HRI HTT
                    go_wp2_with fail
                    go_region_law (first
                      | (go_simp
                         go_at_call 50
                         refine (IT.out _ (by first | exact Alike.refl _ | exact (Alike.refl _).drew)).mono ?_
                         rintro e w5 ⟨rfl, ha5⟩
                         dsimp only))
                    all_goals
                      have HFF := Lib.hid (HSET.out _ (by first | exact ha5 | exact (Alike.setCells (Alike.refl wy).drew g _ _).trans ha5))
                      clear ha5 IT HSET
                      go_wp2
                      exact ⟨⟨i + 1, _, by omega, by go_num, rfl, HFF.out⟩, by simp [intOf]; omega⟩
              · obtain rfl : n = i := by omega
                have hbA := (Below.refl wy.heap.size wy).alloc (Nat.le_refl _) (.cells #[.int .i64 (p : Int)] 3)
                have HA := Lib.hid (heap_alloc_new wy (.cells #[.int .i64 (p : Int)] 3))
                have HTA := Lib.hid (HTT.out.next hbA)
                have hsz := HTA.out.below.size
                clear hbA HTT hR5
                go_wp2_with (at_builtin; refine wpList_append_piv rfl (.tmp 64) (.tmp 66) rfl HTA.out.piv wy.heap.size p HA.out rfl rfl (by omega) hsz ?_; intro v5 w5 hown5 hgr5 hv5)
                have HP := Lib.hid (HTA.out.push hgr5 hown5 hv5)
                rcases ownsRowK_shape hown5 with ⟨-, hz⟩ | ⟨g3, k3, rfl, -⟩
                · simp at hz
                · exact ⟨⟨p + 1, _, P ++ [p], some ⟨g3, 0, none⟩, k3, by omega, by go_num, rfl, HP.out, HET.out⟩, by simp [intOf]; omega⟩
    · obtain rfl : p = 2016 := by omega
      have HO := Lib.hid (HR.out.out HE.out (by omega))
      have hPc : (P.length : Int) ≤ (c : Int) := by
        have : n ≤ c := by
          rcases HR.out.rows.2 with ⟨e1, h0⟩ | ⟨g, cap, cur, e1, _, _, h3, _⟩
          · omega
          · cases e1; exact h3
        omega
      have hRSx := Lib.hid hRS
      clear hRS HR HE
      go_wp2_with fail
      rw [Exit.noGoto_ret]
      go_ret2
      exact ⟨_, _, R, P, rfl, by rw [hRSx.out]; exact HO.out⟩
end Go.Proofs.Ytbbjpjkclealfaa
namespace Go.Proofs.Ytbbjpjkclealfaa
open Go.ChangeShapes Go.WideShapes Go.ChangeAt Go.RowKit Go.BigFrame
set_option linter.unusedVariables false

theorem strEq (a b : ByteArray) : (a.toList == b.toList) = decide (a = b) := by
  rw [Bool.eq_iff_iff, decide_eq_true_eq, beq_iff_eq, bytes_toList_iff]
def agB (Z : List W2) : Bool := Z.all fun z => decide (z.1.2 = z4)
theorem agB_snoc (Z : List W2) (z : W2) : agB (Z ++ [z]) = (agB Z && decide (z.1.2 = z4)) := by simp [agB]
theorem agB_iff (M : List W2) : agB (baseG ordW M).2 = true ↔ ∀ z ∈ (baseG ordW M).2, z = grpW.zero := by
  unfold agB
  rw [List.all_eq_true]
  have hI := base_inv ordW M
  constructor
  · intro h z hz
    exact (zeroW z ((bareW z).1 (hI.bare z hz))).2 (of_decide_eq_true (h z hz))
  · intro h z hz
    exact decide_eq_true ((zeroW z ((bareW z).1 (hI.bare z hz))).1 (h z hz))
theorem base_ne (M : List W2) : ∀ b ∈ (baseG ordW M).1, b.1.1 ≠ [] := by
  intro b hb e
  have h1 := (base_inv ordW M).redu.1 b hb
  have h2 : decide (ordW.piv b ∈ b.1.1) = true := h1
  rw [e] at h2; simp at h2
theorem base_len (L : List C2) (k : Nat) : (baseG ordW (rowsN L k)).1.length ≤ 20 := by
  have := rank_le ordW (rowsN L k); have := rowsN_le L k; omega
theorem base_bare {M : List W2} {x : W2} (h : (lessG ordW.toPla (baseG ordW M).1 x).1.1 = []) : baseG ordW (M ++ [x]) = ((baseG ordW M).1, (baseG ordW M).2 ++ [lessG ordW.toPla (baseG ordW M).1 x]) := by
  rw [base_snoc]
  unfold baseS
  rw [if_pos ((bareW _).2 h)]
theorem base_more {M : List W2} {x : W2} (h : (lessG ordW.toPla (baseG ordW M).1 x).1.1 ≠ []) : baseG ordW (M ++ [x]) = (insG ordW.toPla (baseG ordW M).1 (lessG ordW.toPla (baseG ordW M).1 x), (baseG ordW M).2) := by
  rw [base_snoc]
  unfold baseS
  rw [if_neg (fun e => h ((bareW _).1 e))]
/-- the rows, the first k of which have had x taken in -/
def insN (x : W2) (B : List W2) (k : Nat) : List W2 := (B.take k).map (insS ordW.toPla x) ++ B.drop k
theorem insN_len (x : W2) (B : List W2) (k : Nat) : (insN x B k).length = B.length := by
  unfold insN
  rw [List.length_append, List.length_map, List.length_take, List.length_drop]; omega
theorem insN_all (x : W2) (B : List W2) : insN x B B.length ++ [x] = insG ordW.toPla B x := by
  unfold insN insG
  rw [List.take_length, List.drop_length, List.append_nil]
theorem insN_get (x : W2) (B : List W2) (k : Nat) (hk : k < B.length) : (insN x B k).getD k grpW.zero = B.getD k grpW.zero := by
  unfold insN
  simp only [List.getD]
  rw [List.getElem?_append_right (by rw [List.length_map, List.length_take]; omega), List.length_map, List.length_take, Nat.min_eq_left (by omega), Nat.sub_self, List.getElem?_drop, Nat.add_zero]
theorem insN_succ (x : W2) (B : List W2) (k : Nat) (hk : k < B.length) : insN x B (k + 1) = (insN x B k).set k (insS ordW.toPla x (B.getD k grpW.zero)) := by
  unfold insN
  have e : (B.take k).length = k := by rw [List.length_take]; omega
  have e2 : (List.map (insS ordW.toPla x) (B.take k)).length = k := by rw [List.length_map, e]
  rw [List.take_succ_eq_append_getElem hk, List.map_append, List.drop_eq_getElem_cons hk, List.set_append_right _ _ (by omega), e2, Nat.sub_self, List.set_cons_zero, List.append_assoc]
  simp [List.getD, hk]
theorem insN_set_map (x : W2) (B : List W2) (k : Nat) (hk : k < B.length) : (insN x B (k + 1)).map (·.1) = ((insN x B k).map (·.1)).set k (insS ordW.toPla x (B.getD k grpW.zero)).1 := by
  rw [insN_succ x B k hk, List.map_set]
theorem set_same_map (R : List C2) (k : Nat) (x : C2) (h : R.getD k blankC = x) (hk : k < R.length) : R.set k x = R := by
  subst h
  simp [List.getD, hk]
/-- rows of one's own -/
structure BsC (w W : World) (g c : Nat) (us : List Value) (B : List W2) : Prop where
  below : Below w.heap.size w W
  own : cdOwn W w.heap.size (.slice (some ⟨g, 0, none⟩) B.length c) us (B.map (·.1))
theorem BsC.next {w W W' : World} {g c : Nat} {us : List Value} {B : List W2} (h : BsC w W g c us B) (hb : Below W.heap.size W W') : BsC w W' g c us B :=
  ⟨h.below.trans (hb.mono h.below.size), h.own.below hb⟩
theorem BsC.blk {w W : World} {g c : Nat} {us : List Value} {B : List W2} (h : BsC w W g c us B) : w.heap.size ≤ g ∧ g < W.heap.size := h.own.own.lt g rfl
theorem BsC.to {w W : World} {g c : Nat} {us : List Value} {B : List W2} (h : BsC w W g c us B) : cdAv W (some g) (.slice (some ⟨g, 0, none⟩) B.length c) (B.map (·.1)) := h.own.to
/-- what is there of a row -/
structure BsAt (W : World) (g k : Nat) (u : Value) (x : C2) : Prop where
  c0 : W.cell? ⟨g, k * 2, none⟩ = some u
  c1 : W.cell? ⟨g, k * 2 + 1, none⟩ = some (.string x.2)
  f0 : W.frozen? ⟨g, k * 2, none⟩ = false
  f1 : W.frozen? ⟨g, k * 2 + 1, none⟩ = false
  keys : keysAv W (some g) u x.1
theorem BsC.at {w W : World} {g c : Nat} {us : List Value} {B : List W2} (h : BsC w W g c us B) (k : Nat) (hk : k < B.length) : BsAt W g k (us.getD k undef) (B.getD k grpW.zero).1 := by
  have hl : (B.map (·.1)).length = B.length := List.length_map ..
  have hc := cdCells_get us (B.map (·.1)) k h.own.len (by omega)
  have ho := h.own.own
  rw [hl] at ho
  have h1 := ho.cellAt (k * 2) (by omega)
  have h2 := ho.cellAt (k * 2 + 1) (by omega)
  have hk2 := h.own.keys k (by omega)
  rw [getD_W B k hk] at hc hk2
  exact ⟨h1.trans hc.1, h2.trans hc.2, ho.frozenAt _, ho.frozenAt _, hk2⟩
theorem BsC.set {w W : World} {g c : Nat} {us : List Value} {B B' : List W2} (h : BsC w W g c us B) (k : Nat) (u : Value) (x : C2) (hu : keysAv W (some g) u x.1) (hl : B'.length = B.length) (he : B'.map (·.1) = (B.map (·.1)).set k x) :
    BsC w ((W.setCell ⟨g, k * 2, none⟩ u).setCell ⟨g, k * 2 + 1, none⟩ (.string x.2)) g c (us.set k u) B' := by
  refine ⟨(h.below.setCell (p := ⟨g, k * 2, none⟩) h.blk.1 u).setCell (p := ⟨g, k * 2 + 1, none⟩) h.blk.1 _, ?_⟩
  rw [he, hl]
  exact h.own.set k u x hu
/-- rows on their way to take one in, which lies in its box -/
structure InC (w W : World) (g c : Nat) (us : List Value) (B : List W2) (n b8 : Nat) (vX : Value) (X : C2) : Prop where
  bs : BsC w W g c us B
  len : B.length = n
  box : W.heap[b8]? = some (.cells #[vX, .string X.2] 27)
  key : keysAv W (some g) vX X.1
  ne : g < b8
theorem InC.next {w W W' : World} {g c : Nat} {us : List Value} {B : List W2} {n b8 : Nat} {vX : Value} {X : C2} (h : InC w W g c us B n b8 vX X) (hb : Below W.heap.size W W') : InC w W' g c us B n b8 vX X :=
  ⟨h.bs.next hb, h.len, (hb.block _ (Array.getElem?_eq_some_iff.1 h.box).1).trans h.box, h.key.below hb, h.ne⟩
theorem InC.set {w W : World} {g c : Nat} {us : List Value} {B B' : List W2} {n b8 : Nat} {vX : Value} {X : C2} (h : InC w W g c us B n b8 vX X) (k : Nat) (u : Value) (x : C2) (hu : keysAv W (some g) u x.1) (hl : B'.length = B.length) (he : B'.map (·.1) = (B.map (·.1)).set k x) :
    InC w ((W.setCell ⟨g, k * 2, none⟩ u).setCell ⟨g, k * 2 + 1, none⟩ (.string x.2)) g c (us.set k u) B' n b8 vX X := by
  have hne := h.ne
  have hgr : W.grownBy ((W.setCell ⟨g, k * 2, none⟩ u).setCell ⟨g, k * 2 + 1, none⟩ (.string x.2)) (some g) := (Lib.grownBy_setCell W g (k * 2) u).trans (Lib.grownBy_setCell _ g (k * 2 + 1) (.string x.2))
  exact ⟨h.bs.set k u x hu hl he, hl.trans h.len, (hgr.block _ (Array.getElem?_eq_some_iff.1 h.box).1 (fun e => by cases e; omega)).trans h.box, h.key.grown hgr, hne⟩
theorem InC.same {w W : World} {g c : Nat} {us : List Value} {X : W2} {B : List W2} {j n b8 : Nat} {vX : Value} (h : InC w W g c us (insN X B j) n b8 vX X.1) (hs : (insN X B (j + 1)).map (·.1) = ((insN X B j).map (·.1)).set j (insS ordW.toPla X (B.getD j grpW.zero)).1)
    (hg : (insN X B j).getD j grpW.zero = B.getD j grpW.zero) (he : insS ordW.toPla X (B.getD j grpW.zero) = B.getD j grpW.zero) (hj : j < B.length) : InC w W g c us (insN X B (j + 1)) n b8 vX X.1 := by
  have hl : (insN X B j).length = B.length := insN_len X B j
  have e : (insN X B (j + 1)).map (·.1) = (insN X B j).map (·.1) := by
    rw [hs, he, ← hg]
    exact set_same_map _ j _ (getD_W _ j (by omega)) (by rw [List.length_map]; omega)
  have hl2 : (insN X B (j + 1)).length = B.length := insN_len X B (j + 1)
  refine ⟨⟨h.bs.below, ?_⟩, by rw [hl2, ← h.len, hl], h.box, h.key, h.ne⟩
  rw [e, hl2, ← hl]
  exact h.bs.own
set_option maxRecDepth 100000 in
set_option maxHeartbeats 6000000 in
theorem sbase_any (vl : Value) (L : List C2) (w : World) (h : cdAv w none vl L) (hl : L.length ≤ 1900000) (hks : ∀ x ∈ L, x.1.length ≤ 2000000) :
    Calls Try.prog 51 #[vl] w fun e w' => ∃ g c us, e = .returned (.tuple #[.slice (some ⟨g, 0, none⟩) (baseG ordW (rowsN L L.length)).1.length c, .bool (agB (baseG ordW (rowsN L L.length)).2)]) ∧
      BsC w w' g c us (baseG ordW (rowsN L L.length)).1 := by
  have hB0 : BsC w (w.alloc (.cells #[] 27)) w.heap.size 0 [] [] := by
    refine ⟨(Below.refl _ _).alloc (Nat.le_refl _) _, rfl, ?_, fun i hi => by simp at hi⟩
    exact World.ownsRow_made (base := w.heap.size) (e := 27) (size := 2) w #[] 0 (Nat.le_refl _) (by unfold maxLen; omega) rfl
  have HB0 := Lib.hid hB0
  clear hB0
  obtain ⟨al, cl, rfl, hcl, hcells⟩ := h
  go_enter Try.func51, Try.ntmps51
  go_wp2_with fail
  generalize w.alloc (.cells #[] 27) = W0 at *
  go_loopw [4, 5, 6, 7] (fun v a m i wr => ∃ (k g c : Nat) (us : List Value), k ≤ L.length ∧ v = .slice (some ⟨g, 0, none⟩) (baseG ordW (rowsN L k)).1.length c ∧ a = .bool (agB (baseG ordW (rowsN L k)).2) ∧ m = .int .i64 ((rowsN L k).length : Nat) ∧ i = .int .i64 k ∧ BsC w wr g c us (baseG ordW (rowsN L k)).1)
    (fun _ _ _ i _ => L.length - (intOf i).toNat)
  case atStart => exact ⟨0, w.heap.size, 0, [], Nat.zero_le _, rfl, rfl, rfl, rfl, HB0.out⟩
  case round =>
    clear HB0
    obtain ⟨k, g, c, us, hk, rfl, rfl, rfl, rfl, hC⟩ := hrel
    have HC := Lib.hid hC
    have hbl := base_len L k
    have hml := (rowsN_le L k).1
    clear hC
    by_cases hlt : k < L.length
    · by_cases hm : (rowsN L k).length < 20
      · obtain ⟨gl, off, rfl, hg, hcs⟩ := hcells.resolve_left (by omega)
        have z0 : (0 : Int) ≤ (k : Int) := by omega
        have z1 : (k : Int) < (L.length : Int) := by omega
        have m1 : ((rowsN L k).length : Int) < 20 := by omega
        obtain ⟨u, c1, c2, c3⟩ := hcs k hlt
        have hxl := hks (L.getD k blankC) (by rw [List.getD, List.getElem?_eq_getElem hlt]; exact List.getElem_mem hlt)
        have hyes := fun hck => rowsN_yes (l := L) (i := k) hck hm
        have hno := fun hck => rowsN_no (l := L) (i := k) hck
        generalize L.getD k blankC = x at *
        rename_i wr
        have hB := HC.out.below
        have SC := Lib.hid (fun w' (hw : Below wr.heap.size wr w') => scodeok_any u x.1 x.2 w' (keysAt_below (keysAt_below c3.to hB) hw) hxl)
        have d1 := (hB.cell (p := ⟨gl, off + k * 2, none⟩) hg).trans c1
        have d2 := (hB.cell (p := ⟨gl, off + k * 2 + 1, none⟩) hg).trans c2
        have HX := Lib.hid (keysAt_below c3.to hB)
        have HXA := Lib.hid (keysAv.also (keysAv_of (b := some g) c3.to (fun j hj e => by cases e; have := HC.out.blk; omega)) HX.out)
        have HD := Lib.hid (And.intro (And.intro d1 d2) (Nat.lt_of_lt_of_le hg hB.size))
        obtain ⟨au, cu, hu, -, -⟩ := c3
        subst hu
        clear hcells hcs c1 c2 hB hks hxl
        go_wp2_with fail
        refine (SC.out _ (Below.refl _ _)).mono ?_
        rintro e w1 ⟨rfl, hb1⟩
        have HC1 := Lib.hid (HC.out.next hb1)
        have HX1 := Lib.hid (keysAt_below HX.out hb1)
        have HXA1 := Lib.hid (HXA.out.below hb1)
        have d1' := (hb1.cell (p := ⟨gl, off + k * 2, none⟩) HD.out.2).trans d1
        have d2' := (hb1.cell (p := ⟨gl, off + k * 2 + 1, none⟩) HD.out.2).trans d2
        clear hb1 d1 d2 HD HC HX HXA SC
        cases hck : codeOkB (x.1, x.2) with
        | false =>
          have HN := Lib.hid (hno hck)
          clear hyes hno hck HX1 HXA1
          go_wp2_with fail
          exact ⟨⟨k + 1, g, c, us, by omega, by rw [HN.out], by rw [HN.out], by rw [HN.out], by go_num, by rw [HN.out]; exact HC1.out⟩, by simp [intOf]; omega⟩
        | true =>
          have HY := Lib.hid (hyes hck)
          have hw := ok_w hck
          generalize hxw : (⟨x, hw⟩ : W2) = xw at *
          have hx1 : x = xw.1 := by rw [← hxw]
          subst hx1
          have SL := Lib.hid (sless_any (.slice (some ⟨g, 0, none⟩) (baseG ordW (rowsN L k)).1.length c) (baseG ordW (rowsN L k)).1 (.slice au xw.1.1.length cu) xw (some g) w1 HC1.out.to (base_ne _) (by omega) HX1.out)
          have hBE := @base_bare (rowsN L k) xw
          have hBM := @base_more (rowsN L k) xw
          clear hyes hno hck hxw hw HX1
          generalize rowsN L k = R at *
          generalize hX : lessG ordW.toPla (baseG ordW R).1 xw = X at *
          have HBE := Lib.hid hBE; have HBM := Lib.hid hBM
          clear hBE hBM
          generalize (baseG ordW R).1 = B at *
          generalize (baseG ordW R).2 = Z at *
          have hr1 : IntKind.i64.wrap ((R.length : Int) + 1) = ((R.length + 1 : Nat) : Int) := by rw [IntWalk.i64_in _ (by omega)]; omega
          go_wp2_with fail
          refine SL.out.mono ?_
          rintro e w2 ⟨v2, rfl, hk2, ha2, hb2⟩
          have HA2 := Lib.hid (ha2 g HC1.out.blk.2 HXA1.out)
          have HC2 := Lib.hid (HC1.out.next hb2)
          obtain ⟨a2, c2, rfl, -, -⟩ := hk2
          clear ha2 hb2 SL HXA1 HC1 d1' d2'
          by_cases h0 : X.1.1.length = 0
          · have i0 : (X.1.1.length : Int) = 0 := by omega
            have hx0 : X.1.1 = [] := List.length_eq_zero_iff.1 h0
            have HE := Lib.hid (HBE.out hx0)
            clear HBE HBM hx0 h0
            go_wp2_with fail
            have HBOX := Lib.hid (heap_alloc_new w2 (.cells #[.slice a2 X.1.1.length c2, .string X.1.2] 27))
            have HC3 := Lib.hid (HC2.out.next ((Below.refl w2.heap.size w2).alloc (Nat.le_refl _) (.cells #[.slice a2 X.1.1.length c2, .string X.1.2] 27)))
            have HA3 := Lib.hid (HA2.out.below ((Below.refl w2.heap.size w2).alloc (Nat.le_refl _) (.cells #[.slice a2 X.1.1.length c2, .string X.1.2] 27)))
            have HGB := Lib.hid HC2.out.blk.2
            clear HA2 HC2
            generalize w2.alloc (.cells #[.slice a2 X.1.1.length c2, .string X.1.2] 27) = w3 at *
            generalize w2.heap.size = b8 at *
            have L1 : ∀ w', Below w3.heap.size w3 w' → (loadVar 9 ⟨b8, 1, none⟩).run Try.prog w' = .ok (.string X.1.2) w' := fun w' hw => cd_loads HBOX.out hw
            have hag := agB_snoc Z X
            have hse := strEq X.1.2 z4
            rw [← hse] at hag
            have HAG := Lib.hid hag
            clear hag hse
            cases hz : agB Z with
            | false =>
              rw [hz] at HAG
              refine wp_region_below w3 (by kernel_rfl) (by kernel_rfl) (Below.refl _ _) ?_
              repeat (first
                | go_big_quiet_skip
                | (go_big_quiet_want
                   first
                     | (go_big_quiet_op; go_big_quiet_on)
                     | (refine q_load 9 _ _ _ rfl rfl L1 ?_; simp only [Act.put, List.setIfInBounds_toArray, List.set_cons_zero, List.set_cons_succ]; go_big_quiet_on)
                     | (go_big_quiet_op; refine ⟨_, fun _ _ => rfl, ?_⟩; go_big_quiet_on)
                     | (go_big_quiet_op; apply Exists.intro; refine ⟨fun w' hw' => ?_, ?_⟩
                        · first
                          | (with_reducible refine (szero_below w').mono ?_
                             rintro e w2 ⟨rfl, hb2⟩
                             exact ⟨rfl, hw'.trans (hb2.mono hw'.size)⟩)
                        go_big_quiet_on)))
              refine wpQuiet_nil ?_
              intro w4 hb4
              have HC4 := Lib.hid (HC3.out.next hb4)
              clear L1 hb4 HC3 HA3
              go_wp2_with fail
              exact ⟨⟨k + 1, g, c, us, by omega, by rw [HY.out, HE.out], by rw [HY.out, HE.out, HAG.out]; rfl, by rw [HY.out, List.length_append]; go_num, by go_num, by rw [HY.out, HE.out]; exact HC4.out⟩, by simp [intOf]; omega⟩
            | true =>
              rw [hz] at HAG
              refine wp_region_below w3 (by kernel_rfl) (by kernel_rfl) (Below.refl _ _) ?_
              repeat (first
                | go_big_quiet_skip
                | (go_big_quiet_want
                   first
                     | (go_big_quiet_op; go_big_quiet_on)
                     | (refine q_load 9 _ _ _ rfl rfl L1 ?_; simp only [Act.put, List.setIfInBounds_toArray, List.set_cons_zero, List.set_cons_succ]; go_big_quiet_on)
                     | (go_big_quiet_op; refine ⟨_, fun _ _ => rfl, ?_⟩; go_big_quiet_on)
                     | (go_big_quiet_op; apply Exists.intro; refine ⟨fun w' hw' => ?_, ?_⟩
                        · first
                          | (with_reducible refine (szero_below w').mono ?_
                             rintro e w2 ⟨rfl, hb2⟩
                             exact ⟨rfl, hw'.trans (hb2.mono hw'.size)⟩)
                        go_big_quiet_on)))
              refine wpQuiet_nil ?_
              intro w4 hb4
              have HC4 := Lib.hid (HC3.out.next hb4)
              clear L1 hb4 HC3 HA3
              go_wp2_with fail
              exact ⟨⟨k + 1, g, c, us, by omega, by rw [HY.out, HE.out], by rw [HY.out, HE.out, HAG.out]; rfl, by rw [HY.out, List.length_append]; go_num, by go_num, by rw [HY.out, HE.out]; exact HC4.out⟩, by simp [intOf]; omega⟩
          · have i0 : ¬ (X.1.1.length : Int) = 0 := by omega
            have HE := Lib.hid (HBM.out fun e => h0 (List.length_eq_zero_iff.2 e))
            clear HBE HBM
            go_wp2_with fail
            have HBOX := Lib.hid (heap_alloc_new w2 (.cells #[.slice a2 X.1.1.length c2, .string X.1.2] 27))
            have HC3 := Lib.hid (HC2.out.next ((Below.refl w2.heap.size w2).alloc (Nat.le_refl _) (.cells #[.slice a2 X.1.1.length c2, .string X.1.2] 27)))
            have HA3 := Lib.hid (HA2.out.below ((Below.refl w2.heap.size w2).alloc (Nat.le_refl _) (.cells #[.slice a2 X.1.1.length c2, .string X.1.2] 27)))
            have HGB := Lib.hid HC2.out.blk.2
            clear HA2 HC2
            generalize w2.alloc (.cells #[.slice a2 X.1.1.length c2, .string X.1.2] 27) = w3 at *
            generalize w2.heap.size = b8 at *
            have hI : InC w w3 g c us (insN X B 0) B.length b8 (.slice a2 X.1.1.length c2) X.1 := ⟨HC3.out, rfl, HBOX.out, HA3.out, HGB.out⟩
            have HI := Lib.hid hI
            clear hI HC3 HBOX HA3 HGB
            have hbq : ((X.1.1.length : Int) == 0) = false := by rw [beq_eq_false_iff_ne]; exact i0
            simp only [hbq]
            go_loopw [9] (fun i wr => ∃ (j : Nat) (us : List Value), j ≤ B.length ∧ i = .int .i64 j ∧ InC w wr g c us (insN X B j) B.length b8 (.slice a2 X.1.1.length c2) X.1) (fun i _ => B.length - (intOf i).toNat)
            case atStart => exact ⟨0, us, Nat.zero_le _, rfl, HI.out⟩
            case round =>
              obtain ⟨j, us, hj, rfl, hJ⟩ := hrel
              have HJ := Lib.hid hJ
              clear hJ HI
              rename_i wr
              by_cases hjl : j < B.length
              · have y0 : (0 : Int) ≤ (j : Int) := by omega
                have y1 : (j : Int) < (B.length : Int) := by omega
                have hat := HJ.out.bs.at j (by rw [insN_len]; exact hjl)
                rw [insN_get X B j hjl] at hat
                have hset := insN_set_map X B j hjl
                have hsame := insN_get X B j hjl
                generalize hBj : B.getD j grpW.zero = Bj at *
                generalize us.getD j undef = u at *
                obtain ⟨k0, k1, kf0, kf1, kk⟩ := hat
                obtain ⟨ax', cx', hax, -, hxk⟩ := HJ.out.key
                cases hax
                obtain ⟨gx, ox, rfl, hgx, -, hxc⟩ := hxk.resolve_left h0
                have hk0 := hxc 0 (by omega)
                simp only [Nat.zero_mul, Nat.add_zero] at hk0
                have x0 : (0 : Int) < (X.1.1.length : Int) := by omega
                have hpiv : X.1.1.getD 0 (0, 0) = ordW.piv X := by
                  show X.1.1.getD 0 (0, 0) = X.1.1.headD (0, 0)
                  cases hB : X.1.1 with
                  | nil => rw [hB] at h0; exact absurd rfl h0
                  | cons a l => rfl
                rw [hpiv] at hk0
                have L1 : ∀ w', Below wr.heap.size wr w' → (loadVar 25 ⟨b8, 0, none⟩).run Try.prog w' = .ok (.slice (some ⟨gx, ox, none⟩) X.1.1.length c2) w' := fun w' hw => cd_loadk HJ.out.box hw
                have L2 : ∀ w', Below wr.heap.size wr w' → (loadVar 25 ⟨g, j * 2, none⟩).run Try.prog w' = .ok u w' := fun w' hw => load_one agg_keys ((hw.cell (p := ⟨g, j * 2, none⟩) HJ.out.bs.blk.2).trans k0)
                have L3 : ∀ w', Below wr.heap.size wr w' → (loadVar 41 ⟨gx, ox, none⟩).run Try.prog w' = .ok (kv (ordW.piv X)) w' := fun w' hw => key_load hk0 hgx hw
                have HK := Lib.hid (fun w' (hw : Below wr.heap.size wr w') => shaskey_any u Bj.1.1 (ordW.piv X) w' (keysAt_below kk.to hw) (by have := keys_few Bj.2.1; omega))
                have hhk : hasKeyB Bj.1.1 (ordW.piv X) = ordW.has Bj (ordW.piv X) := hasKey_mem _ _
                rw [hhk] at HK
                have HKK := Lib.hid kk
                have hS : insS ordW.toPla X Bj = if ordW.has Bj (ordW.piv X) = true then grpW.add Bj X else Bj := rfl
                have HS := Lib.hid hS
                have HSET := Lib.hid hset
                have HSAME := Lib.hid hsame
                have HBJ := Lib.hid hBj
                clear hS hhk hk0 hxc hxk hpiv kk hset hsame hBj
                generalize ordW.piv X = kp at *
                obtain ⟨kp1, kp2⟩ := kp
                unfold kv at L3 HK
                dsimp only at L3 HK
                generalize hhas : ordW.has Bj (kp1, kp2) = hs at *
                go_wp2_with fail
                refine wp_region_below wr (by kernel_rfl) (by kernel_rfl) (Below.refl _ _) ?_
                repeat (first
                  | go_big_quiet_skip
                  | (go_big_quiet_want
                     first
                       | (go_big_quiet_op; go_big_quiet_on)
                       | (refine q_load 25 _ _ _ rfl rfl L1 ?_; simp only [Act.put, List.setIfInBounds_toArray, List.set_cons_zero, List.set_cons_succ]; go_big_quiet_on)
                       | (refine q_load 25 _ _ _ rfl rfl L2 ?_; simp only [Act.put, List.setIfInBounds_toArray, List.set_cons_zero, List.set_cons_succ]; go_big_quiet_on)
                       | (refine q_load 41 _ _ _ rfl rfl L3 ?_; simp only [Act.put, List.setIfInBounds_toArray, List.set_cons_zero, List.set_cons_succ]; go_big_quiet_on)
                       | (go_big_quiet_op; refine ⟨_, fun _ _ => rfl, ?_⟩; go_big_quiet_on)
                       | (go_big_quiet_op; apply Exists.intro; refine ⟨fun w' hw' => ?_, ?_⟩
                          · first
                            | (with_reducible refine (HK.out w' hw').mono ?_
                               rintro e w2 ⟨rfl, hb2⟩
                               exact ⟨rfl, hw'.trans (hb2.mono hw'.size)⟩)
                          go_big_quiet_on)))
                refine wpQuiet_nil ?_
                intro w4 hb4
                have HJ4 := Lib.hid (HJ.out.next hb4)
                have HKK4 := Lib.hid (HKK.out.below hb4)
                have k0' := (hb4.cell (p := ⟨g, j * 2, none⟩) HJ.out.bs.blk.2).trans k0
                have k1' := (hb4.cell (p := ⟨g, j * 2 + 1, none⟩) HJ.out.bs.blk.2).trans k1
                clear hb4 HJ HKK L1 L2 L3 HK k0 k1 kf0 kf1
                cases hs with
                | false =>
                  go_wp2_with fail
                  exact ⟨⟨j + 1, us, by omega, by go_num, HJ4.out.same (by rw [HBJ.out]; exact HSET.out) (by rw [HBJ.out]; exact HSAME.out) (by rw [HBJ.out, HS.out]; rfl) hjl⟩, by simp [intOf]; omega⟩
                | true =>
                  have SA := Lib.hid (fun w' (hw : Below w4.heap.size w4 w') => sadd_any u Bj.1.1 Bj.1.2 (.slice (some ⟨gx, ox, none⟩) X.1.1.length c2) X.1.1 X.1.2 w' (keysAt_below HKK4.out.to hw) (keysAt_below HJ4.out.key.to hw) Bj.2 X.2)
                  obtain ⟨b0, b1, bf0, bf1⟩ := row2_of HJ4.out.box
                  have hl5 := (Array.getElem?_eq_some_iff.1 HJ4.out.box).1
                  obtain ⟨au, cu, rfl, -, -⟩ := HKK4.out
                  clear HKK4
                  go_wp2_with fail
                  go_region_law (first
                    | (go_simp
                       go_at_call 42
                       refine (SA.out _ (by first | exact Below.refl _ _ | exact (Below.refl _ _).drew)).mono ?_
                       rintro e w5 ⟨v5, rfl, ho5, hb5⟩
                       dsimp only
                       obtain ⟨a5, n5, k5, rfl⟩ := own_shape ho5
                       have HJ5 := Lib.hid (InC.next (InC.next HJ4.out (by first | exact Below.refl _ _ | exact (Below.refl _ _).drew)) hb5)
                       have HW := Lib.hid (keysAv_own ho5 (show g < _ by have := HJ4.out.bs.blk.2; first | exact this | (show g < w4.heap.size; omega)))
                       obtain ⟨k0, k1, kf0, kf1, -⟩ := HJ5.out.bs.at j (by rw [insN_len]; exact hjl)
                       have hg5 := HJ5.out.bs.blk.2
                       clear hb5 ho5 b0 b1 bf0 bf1 k0' k1' SA HJ4 hl5))
                  all_goals
                    have HJ7 := Lib.hid (HJ5.out.set (B' := insN X B (j + 1)) j (.slice a5 n5 k5) (addC (Bj.1.1, Bj.1.2) (X.1.1, X.1.2)) HW.out (by rw [insN_len, insN_len]) (by rw [HSET.out, HS.out]; rfl))
                    clear HJ5 HW
                    go_wp2
                    exact ⟨⟨j + 1, us.set j (.slice a5 n5 k5), by omega, by go_num, HJ7.out⟩, by simp [intOf]; omega⟩
              · obtain rfl : j = B.length := by omega
                have e1 := heap_alloc_new wr (.cells #[.slice a2 X.1.1.length c2, .string X.1.2] 27)
                have hbA := (Below.refl wr.heap.size wr).alloc (Nat.le_refl _) (.cells #[.slice a2 X.1.1.length c2, .string X.1.2] 27)
                have HJA := Lib.hid (HJ.out.next hbA)
                have HONE := Lib.hid (cd_one X.1.2 HJ.out.key)
                obtain ⟨b0, b1, bf0, bf1⟩ := row2_of HJ.out.box
                have hl5 := (Array.getElem?_eq_some_iff.1 HJ.out.box).1
                have HLN := Lib.hid (insN_len X B B.length)
                clear e1 hbA HJ
                have HOW := Lib.hid HJA.out.bs.own
                rw [HLN.out] at HOW
                have hbz := HJA.out.bs.below.size
                go_wp2_with (at_builtin; refine wpList_append_cd rfl (.tmp 71) (.tmp 73) rfl HOW.out _ [X.1] HONE.out rfl rfl (by rw [List.length_map, HLN.out]; simp; omega) hbz ?_; intro v5 w5 us5 hown5 hul5 hgr5 hv5)
                have hlen5 : ((insN X B B.length).map (·.1) ++ [X.1]).length = (insG ordW.toPla B X).length := by rw [← insN_all]; simp
                have hmap5 : (insN X B B.length).map (·.1) ++ [X.1] = (insG ordW.toPla B X).map (·.1) := by rw [← insN_all, List.map_append]; rfl
                have hB5 := HJA.out.bs.below.grown hgr5 HJA.out.bs.below.size (fun j e => by cases e; exact HJA.out.bs.blk.1)
                rcases ownsRowK_shape hown5.own with ⟨-, hz⟩ | ⟨g3, c3, rfl, -⟩
                · rw [hmap5, List.length_map] at hz
                  simp [insG] at hz
                · rw [hmap5, List.length_map] at *
                  exact ⟨⟨k + 1, g3, c3, us ++ us5, by omega, by rw [HY.out, HE.out], by rw [HY.out, HE.out], by rw [HY.out, List.length_append]; go_num, by go_num, by rw [HY.out, HE.out]; exact ⟨hB5, hown5⟩⟩, by simp [intOf]; omega⟩
      · have m1 : ¬ ((rowsN L k).length : Int) < 20 := by omega
        have hf := rowsN_full (l := L) (i := k) (by omega) (L.length - k)
        rw [show k + (L.length - k) = L.length by omega] at hf
        have HF := Lib.hid hf
        have z1 : (k : Int) < (L.length : Int) := by omega
        clear hf hcells hks
        go_wp2_with fail
        go_ret2
        exact ⟨g, c, by rw [HF.out]; rfl, us, by rw [HF.out]; exact HC.out⟩
    · obtain rfl : k = L.length := by omega
      clear hcells hks
      go_wp2_with fail
      go_ret2
      first | exact ⟨g, c, us, rfl, HC.out⟩ | exact ⟨g, c, rfl, us, HC.out⟩
end Go.Proofs.Ytbbjpjkclealfaa
namespace Go.Proofs.Ytbbjpjkclealfaa
open Go.ChangeShapes Go.WideShapes Go.ChangeAt Go.RowKit Go.BigFrame
set_option linter.unusedVariables false

theorem ofKeysN_take (P : List Nat) (k : Nat) (hk : k < P.length) : ofKeysN (P.take (k + 1)) = ofKeysN (P.take k) + if P.getD k 0 < 1984 then 1 else 0 := by
  unfold ofKeysN
  rw [List.take_succ_eq_append_getElem hk, List.filter_append, List.length_append]
  have e : P.getD k 0 = P[k] := by simp [List.getD, hk]
  rw [e]
  congr 1
  by_cases h : P[k] < 1984
  · simp [h]
  · simp [h]
theorem ofKeysN_le (P : List Nat) : ofKeysN P ≤ P.length := List.length_filter_le _ _
theorem ofKeysN_all (P : List Nat) : ofKeysN P = P.length ↔ ∀ p ∈ P, p < 1984 := by
  unfold ofKeysN
  rw [List.length_filter_eq_length_iff]
  constructor
  · intro h p hp; exact of_decide_eq_true (h p hp)
  · intro h p hp; exact decide_eq_true (h p hp)
theorem iofkeys_any (v3 : Value) (P : List Nat) (w : World) (h : ∃ a c, v3 = .slice a P.length c ∧ P.length ≤ c ∧ (P.length = 0 ∨ ∃ g, a = some ⟨g, 0, none⟩ ∧ g < w.heap.size ∧ ∀ i, i < P.length → w.cell? ⟨g, i, none⟩ = some (.int .i64 ((P.getD i 0 : Nat) : Int)))) (hP : P.length ≤ 1000) :
    Calls Try.prog 46 #[v3] w fun e w' => e = .returned (.int .i64 (ofKeysN P : Nat)) ∧ w' = w := by
  obtain ⟨a, c, rfl, hc, hcells⟩ := h
  go_enter Try.func46, Try.ntmps46
  go_wp2_with fail
  go_loopw [3, 8] (fun v i wr => ∃ k : Nat, k ≤ P.length ∧ i = .int .i64 k ∧ v = .int .i64 (ofKeysN (P.take k) : Nat) ∧ w = wr) (fun _ i _ => P.length - (intOf i).toNat)
  case atStart => exact ⟨0, Nat.zero_le _, rfl, rfl, rfl⟩
  case round =>
    obtain ⟨k, hk, rfl, rfl, hw⟩ := hrel
    subst hw
    by_cases hlt : k < P.length
    · obtain ⟨g, rfl, hg, hcs⟩ := hcells.resolve_left (by omega)
      have z0 : (0 : Int) ≤ (k : Int) := by omega
      have z1 : (k : Int) < (P.length : Int) := by omega
      have c1 := hcs k hlt
      have hst := ofKeysN_take P k hlt
      have hle := ofKeysN_le (P.take k)
      rw [List.length_take] at hle
      have hle2 : ofKeysN (P.take k) ≤ 1000 := by omega
      generalize ofKeysN (P.take k) = m at *
      generalize P.getD k 0 = q at *
      have HST := Lib.hid hst
      clear hcells hcs hst hle
      by_cases hq : q < 1984
      · have q1 : (q : Int) < 1984 := by omega
        go_wp2
        exact ⟨⟨k + 1, by omega, by go_num, by rw [HST.out, if_pos hq]; go_num, trivial⟩, by simp [intOf]; omega⟩
      · have q1 : ¬ (q : Int) < 1984 := by omega
        go_wp2
        exact ⟨⟨k + 1, by omega, by go_num, by rw [HST.out, if_neg hq]; go_num, trivial⟩, by simp [intOf]; omega⟩
    · obtain rfl : k = P.length := by omega
      clear hcells
      rw [List.take_length]
      go_wp2
      go_ret
      exact ⟨rfl, rfl⟩
theorem iagree_any (v3 : Value) (P : List Nat) (w : World) (h : ∃ a c, v3 = .slice a P.length c ∧ P.length ≤ c ∧ (P.length = 0 ∨ ∃ g, a = some ⟨g, 0, none⟩ ∧ g < w.heap.size ∧ ∀ i, i < P.length → w.cell? ⟨g, i, none⟩ = some (.int .i64 ((P.getD i 0 : Nat) : Int)))) (hP : P.length ≤ 1000) :
    Calls Try.prog 56 #[v3] w fun e w' => e = .returned (.bool (decide (ofKeysN P = P.length))) ∧ w' = w := by
  have HI := Lib.hid (iofkeys_any v3 P w h hP)
  obtain ⟨a, c, rfl, -, -⟩ := h
  have hle := ofKeysN_le P
  generalize ofKeysN P = m at *
  go_enter Try.func56, Try.ntmps56
  by_cases he : m = P.length
  · have e1 : (m : Int) = (P.length : Int) := by omega
    go_wp2_with fail
    refine HI.out.mono ?_
    rintro e w1 ⟨rfl, rfl⟩
    go_wp2
    go_ret
    exact ⟨by rw [decide_eq_true he]; first | rfl | (show Ending.returned (.bool ((m : Int) == (P.length : Int))) = _; rw [beq_iff_eq.2 e1]), rfl⟩
  · have e1 : ¬ (m : Int) = (P.length : Int) := by omega
    go_wp2_with fail
    refine HI.out.mono ?_
    rintro e w1 ⟨rfl, rfl⟩
    go_wp2
    go_ret
    exact ⟨by rw [decide_eq_false he]; first | rfl | (show Ending.returned (.bool ((m : Int) == (P.length : Int))) = _; rw [beq_eq_false_iff_ne.2 e1]), rfl⟩
theorem agree_eq {L : List C2} {R : List W2} {P : List Nat} (h : Elim (rowsN L L.length) R P 2016) : decide (ofKeysN P = P.length) = agB (baseG ordW (rowsN L L.length)).2 := by
  rw [Bool.eq_iff_iff, decide_eq_true_eq, ofKeysN_all, agB_iff]
  exact h.agree
end Go.Proofs.Ytbbjpjkclealfaa
namespace Go.Proofs.Ytbbjpjkclealfaa
open Go.ChangeShapes Go.WideShapes Go.ChangeAt Go.RowKit Go.BigFrame
set_option linter.unusedVariables false

theorem all_range_int : ∀ (xs ys : List Int), xs.length = ys.length → ((List.range xs.length).all fun i => xs.getD i 0 == ys.getD i 0) = (xs == ys)
  | [], [], _ => rfl
  | x :: xs, y :: ys, h => by
    have ih := all_range_int xs ys (by simpa using h)
    rw [List.length_cons, List.range_succ_eq_map, List.all_cons, List.all_map]
    simp only [List.getD_cons_zero, Function.comp_def, List.getD_cons_succ, ih]
    simp [List.cons_beq_cons]
  | [], _ :: _, h => by simp at h
  | _ :: _, [], h => by simp at h
section
variable {P : Program} (w : World)
theorem run_equalIn_u64 (d : Nat) (t e : TypeId) (n : Nat) (ht : P.underlying t = some (.array n e)) (he : P.underlying e = some (.int .u64)) (hsz : ∀ w, (sizeOf e).run P w = .ok 1 w)
    (xs ys : List Int) (hx : xs.length = n) (hy : ys.length = n) :
    (Op.equalIn (d + 2) t (.agg (xs.map (Value.int .u64)).toArray) (.agg (ys.map (Value.int .u64)).toArray)).run P w = .ok (xs == ys) w := by
  rw [← all_range_int xs ys (hx.trans hy.symm), hx, List.range_eq_range', Op.equalIn]
  simp only [Sem.run_bind, run_underlying ht, Result.andThen_ok, hsz, Std.Legacy.Range.forIn_eq_forIn_range', Std.Legacy.Range.size, Nat.sub_zero, Nat.add_sub_cancel, Nat.div_one]
  have hl : ∀ i ∈ List.range' 0 n 1, i < n := fun i hi => by simpa using (List.mem_range'_1.1 hi).2
  generalize List.range' 0 n 1 = l at hl ⊢
  induction l with
  | nil => simp
  | cons i l ih =>
    have hi : i < n := hl i (by simp)
    have px : (part e (xs.map (Value.int .u64)).toArray (i * 1)).run P w = .ok (Value.int .u64 (xs.getD i 0)) w := by
      simp [part, isAgg, run_underlying he, List.getD, List.getElem?_eq_getElem (show i < xs.length by omega)]
    have py : (part e (ys.map (Value.int .u64)).toArray (i * 1)).run P w = .ok (Value.int .u64 (ys.getD i 0)) w := by
      simp [part, isAgg, run_underlying he, List.getD, List.getElem?_eq_getElem (show i < ys.length by omega)]
    have pe : (Op.equalIn (d + 1) e (Value.int .u64 (xs.getD i 0)) (Value.int .u64 (ys.getD i 0))).run P w = .ok (xs.getD i 0 == ys.getD i 0) w := by
      rw [run_equalIn_int w d e .u64 .u64 _ _ he]
    simp only [List.forIn_cons, Sem.run_bind, px, py, pe, Result.andThen_ok, List.all_cons]
    cases hb : (xs.getD i 0 == ys.getD i 0)
    · simp
    · simp only [Bool.not_true, Bool.false_eq_true, if_false, Sem.run_pure, Result.andThen_ok, Bool.true_and]
      exact ih fun j hj => hl j (by simp [hj])
theorem run_eql_u64 (t e : TypeId) (n : Nat) (ht : P.underlying t = some (.array n e)) (he : P.underlying e = some (.int .u64)) (hsz : ∀ w, (sizeOf e).run P w = .ok 1 w)
    (xs ys : List Int) (hx : xs.length = n) (hy : ys.length = n) :
    (binOp .eql t (.agg (xs.map (Value.int .u64)).toArray) (.agg (ys.map (Value.int .u64)).toArray)).run P w = .ok (.bool (xs == ys)) w := by
  rw [run_eql_struct, run_equalIn_u64 w 9998 t e n ht he hsz xs ys hx hy]
  rfl
end
theorem u64_sz : ∀ w : World, (sizeOf 77).run Try.prog w = .ok 1 w := by
  obtain ⟨i0, h1, h2⟩ : ∃ i, Try.prog.info? 77 = some i ∧ i.size = 1 := by
    have h : (Try.prog.info? 77).map (·.size) = some 1 := by kernel_rfl
    cases hq : Try.prog.info? 77 with
    | none => rw [hq] at h; simp at h
    | some i => rw [hq] at h; exact ⟨i, rfl, by simpa using h⟩
  intro w
  simp [sizeOf, typeInfo, h1, h2]
def rowI (f : Nat → Bool) : List Int := (List.range 32).map fun j => ((rowB f j : Nat) : Int)
theorem rowI_map (f : Nat → Bool) : (rowI f).map (Value.int .u64) = rowV f := by simp [rowI, rowV]
theorem hX_ext {x y : W2} (h : ∀ p, p < 2048 → hX x p = hX y p) : x = y := by
  have h0 := hX_none (grpW.add x y) fun p hp => by rw [hX_add, h p (by omega)]; simp
  have h2 := grpW.back x y
  rw [h0, grpW.zr] at h2
  exact h2
theorem rowI_eq (x y : W2) : (rowI (hX x) == rowI (hX y)) = decide (x = y) := by
  rw [Bool.eq_iff_iff, beq_iff_eq, decide_eq_true_eq]
  constructor
  · intro h
    refine hX_ext fun p hp => rowV_inj ?_ p hp
    rw [← rowI_map, h, rowI_map]
  · rintro rfl; rfl
theorem row_eql (x y : W2) (w : World) : (binOp .eql 79 (.agg (rowA (hX x))) (.agg (rowA (hX y)))).run Try.prog w = .ok (.bool (decide (x = y))) w := by
  have := run_eql_u64 (P := Try.prog) w 79 77 32 Try.underlying79 Try.underlying77 u64_sz (rowI (hX x)) (rowI (hX y)) (by simp [rowI]) (by simp [rowI])
  rw [rowI_map, rowI_map, rowI_eq] at this
  exact this
theorem row_guard (op : BinOp) (x y : Operand) (a b : Array Value) (w : World) : (eqGuard op 79 x y (.agg a) (.agg b)).run Try.prog w = .ok () w :=
  run_eqGuard_agg w op 79 x y _ _ (by kernel_rfl)
end Go.Proofs.Ytbbjpjkclealfaa
namespace Go.Proofs.Ytbbjpjkclealfaa
open Go.ChangeShapes Go.WideShapes Go.ChangeAt Go.RowKit Go.BigFrame
set_option linter.unusedVariables false

theorem SvE.other {w0 w W W' : World} {bl : Nat} {v v3 : Value} {Lw R : List W2} {P : List Nat} (h : SvE w W v v3 Lw R P) (hg : W.grownBy W' (some bl))
    (ap : v.ownBlock ≠ some bl) (ap3 : v3.ownBlock ≠ some bl) (hb : Below w0.heap.size w0 W') (g1 : ∀ b, v.ownBlock = some b → w0.heap.size ≤ b) (g2 : ∀ b, v3.ownBlock = some b → w0.heap.size ≤ b) : SvE w0 W' v v3 Lw R P := by
  refine ⟨hb, h.el, h.few, g1, g2, ?_, ?_⟩
  · obtain ⟨a, c, e1, e2, e3⟩ := h.rows
    refine ⟨a, c, e1, e2, e3.imp_right ?_⟩
    rintro ⟨g, e4, e5, e6⟩
    subst e1; subst e4
    exact ⟨g, rfl, Nat.lt_of_lt_of_le e5 hg.size, fun i hi j v hv => hg.cell (e6 i hi j v hv) (fun e => ap e)⟩
  · obtain ⟨a, c, e1, e2, e3⟩ := h.piv
    refine ⟨a, c, e1, e2, e3.imp_right ?_⟩
    rintro ⟨g, e4, e5, e6⟩
    subst e1; subst e4
    exact ⟨g, rfl, Nat.lt_of_lt_of_le e5 hg.size, fun i hi => hg.cell (e6 i hi) (fun e => ap3 e)⟩
attribute [local irreducible] rowA rowV
end Go.Proofs.Ytbbjpjkclealfaa
namespace Go.Proofs.Ytbbjpjkclealfaa
open Go
set_option linter.unusedVariables false
set_option linter.unusedSimpArgs false

def toldR (R : List W2) (P : List Nat) : Nat → List R3
  | 0 => []
  | i + 1 => if (R.getD i zW).1.1 = [keyP (P.getD i 0)] then toldR R P i ++ [(keyP (P.getD i 0), (R.getD i zW).1.2)] else toldR R P i
theorem toldR_len (R : List W2) (P : List Nat) : ∀ n, (toldR R P n).length ≤ n
  | 0 => Nat.le_refl _
  | n + 1 => by
    have := toldR_len R P n
    unfold toldR
    split
    · simp; omega
    · omega
theorem toldR_yes {R : List W2} {P : List Nat} {i : Nat} (h : (R.getD i zW).1.1 = [keyP (P.getD i 0)]) : toldR R P (i + 1) = toldR R P i ++ [(keyP (P.getD i 0), (R.getD i zW).1.2)] := by
  conv => lhs; unfold toldR
  rw [if_pos h]
theorem toldR_no {R : List W2} {P : List Nat} {i : Nat} (h : ¬ (R.getD i zW).1.1 = [keyP (P.getD i 0)]) : toldR R P (i + 1) = toldR R P i := by
  conv => lhs; unfold toldR
  rw [if_neg h]
theorem toldR_mem (R : List W2) (P : List Nat) (r : R3) : ∀ n, r ∈ toldR R P n ↔ ∃ i, i < n ∧ (R.getD i zW).1.1 = [keyP (P.getD i 0)] ∧ r = (keyP (P.getD i 0), (R.getD i zW).1.2)
  | 0 => by simp [toldR]
  | n + 1 => by
    have ih := toldR_mem R P r n
    by_cases h : (R.getD n zW).1.1 = [keyP (P.getD n 0)]
    · rw [toldR_yes h, List.mem_append, ih, List.mem_singleton]
      constructor
      · rintro (⟨i, hi, e⟩ | e)
        · exact ⟨i, by omega, e⟩
        · exact ⟨n, by omega, h, e⟩
      · rintro ⟨i, hi, e1, e2⟩
        rcases Nat.lt_or_ge i n with hlt | hge
        · exact .inl ⟨i, hlt, e1, e2⟩
        · obtain rfl : i = n := by omega
          exact .inr e2
    · rw [toldR_no h, ih]
      constructor
      · rintro ⟨i, hi, e⟩
        exact ⟨i, by omega, e⟩
      · rintro ⟨i, hi, e1, e2⟩
        rcases Nat.lt_or_ge i n with hlt | hge
        · exact ⟨i, hlt, e1, e2⟩
        · obtain rfl : i = n := by omega
          exact absurd e1 h
theorem getD_memN (P : List Nat) (i : Nat) (hi : i < P.length) : P.getD i 0 ∈ P := by
  rw [List.getD, List.getElem?_eq_getElem hi]; exact List.getElem_mem hi
theorem Elim.keyOk {L R : List W2} {P : List Nat} (h : Elim L R P 2016) (ha : ∀ p ∈ P, p < 1984) (i : Nat) (hi : i < P.length) : P.getD i 0 < 1980 ∧ keyP (P.getD i 0) ∈ (R.getD i zW).1.1 :=
  hX_right (ha _ (getD_memN P i hi)) (h.own i hi)
theorem rise_getD {P : List Nat} (h : P.Pairwise (· < ·)) (i j : Nat) (hij : i < j) (hj : j < P.length) : P.getD i 0 < P.getD j 0 := by
  have := List.pairwise_iff_getElem.1 h i j (by omega) hj hij
  rw [List.getD, List.getElem?_eq_getElem (by omega), List.getD, List.getElem?_eq_getElem hj]
  exact this
theorem toldR_rise {L R : List W2} {P : List Nat} (h : Elim L R P 2016) (ha : ∀ p ∈ P, p < 1984) : ∀ n, n ≤ P.length → (toldR R P n).Pairwise fun x y => aheadB x.1 y.1 = true
  | 0, _ => List.Pairwise.nil
  | n + 1, hn => by
    have ih := toldR_rise h ha n (by omega)
    by_cases hb : (R.getD n zW).1.1 = [keyP (P.getD n 0)]
    · rw [toldR_yes hb]
      refine List.pairwise_append.2 ⟨ih, List.pairwise_singleton .., fun x hx y hy => ?_⟩
      obtain rfl := List.mem_singleton.1 hy
      obtain ⟨i, hi, -, rfl⟩ := (toldR_mem R P x n).1 hx
      refine (key_lt (key_ok (h.keyOk ha i (by omega)).1) (key_ok (h.keyOk ha n (by omega)).1)).2 ?_
      rw [key_place, key_place]
      exact rise_getD h.rise i n hi (by omega)
    · rw [toldR_no hb]; exact ih
theorem filter_all {A : Type} (l : List A) (f : A → Bool) (h : ∀ x ∈ l, f x = true) : l.filter f = l := List.filter_eq_self.2 h
theorem filter_none {A : Type} (l : List A) (f : A → Bool) (h : ∀ x ∈ l, f x = false) : l.filter f = [] := List.filter_eq_nil_iff.2 fun x hx => by rw [h x hx]; simp
/-- where all agree: the rows of one key are what is told -/
theorem toldR_eq {L R : List W2} {P : List Nat} (h : Elim L R P 2016) (ha : ∀ p ∈ P, p < 1984) : toldR R P P.length = solveM L := by
  have hz : ∀ z ∈ (baseG ordW L).2, z = grpW.zero := h.agree.1 ha
  have hl : (R.take P.length).length = P.length := by rw [List.length_take]; have := h.len; omega
  have hmem : ∀ b ∈ R.take P.length, ∃ i, i < P.length ∧ R.getD i zW = b := by
    intro b hb
    obtain ⟨i, hi, e⟩ := mem_at hb
    rw [hl] at hi
    exact ⟨i, hi, by rw [← e, take_getD _ _ _ hi]⟩
  have hnb : ∀ b ∈ R.take P.length, ordW.bare b = false := by
    intro b hb
    obtain ⟨i, hi, rfl⟩ := hmem b hb
    rw [h.bare_at i hi, decide_eq_true (ha _ (getD_memN P i hi))]; rfl
  have hI := h.keysInv
  rw [filter_all _ _ (fun b hb => by rw [hnb b hb]; rfl), filter_none _ _ hnb] at hI
  refine rds_ext _ _ (toldR_rise h ha _ (Nat.le_refl _)) ((rds_iff _).1 (solve_ok L).1).2 fun r => ?_
  rw [toldR_mem, solve_told hz]
  constructor
  · rintro ⟨i, hi, e1, rfl⟩
    have e : (R.getD i zW).1 = ([keyP (P.getD i 0)], (R.getD i zW).1.2) := Prod.ext e1 rfl
    have hw : wOk ([keyP (P.getD i 0)], (R.getD i zW).1.2) := by rw [← e]; exact (R.getD i zW).2
    refine ⟨hw, ?_⟩
    have e2 : (⟨([keyP (P.getD i 0)], (R.getD i zW).1.2), hw⟩ : W2) = R.getD i zW := Subtype.ext e.symm
    rw [e2]
    refine (hI.span _).1 (.of ?_)
    rw [List.append_nil, ← take_getD R P.length i hi]
    exact mem_getD _ i (by rw [hl]; exact hi)
  · rintro ⟨hw, hs⟩
    have hs2 : Span grpW (· ∈ R.take P.length) ⟨([r.1], r.2), hw⟩ := by
      have := (hI.span _).2 hs
      rwa [List.append_nil] at this
    have hin := single_in ordW hI.redu hI.low (q := r.1) hs2 (by show decide (r.1 ∈ [r.1]) = true; simp) (fun j hj => by
      have : j ∈ [r.1] := of_decide_eq_true hj
      simpa using this)
    obtain ⟨i, hi, e⟩ := hmem _ hin
    have hk := (h.keyOk ha i hi).2
    rw [e] at hk
    have hk2 : keyP (P.getD i 0) = r.1 := by simpa using hk
    refine ⟨i, hi, ?_, ?_⟩
    · rw [e, hk2]
    · rw [e, hk2]
end Go.Proofs.Ytbbjpjkclealfaa
namespace Go.Proofs.Ytbbjpjkclealfaa
open Go.ChangeShapes Go.WideShapes Go.ChangeAt Go.RowKit Go.BigFrame
set_option linter.unusedVariables false

theorem run_append_rd5 {w : World} {base n : Nat} {v : Value} {xs : List Value} (hown : w.ownsRow base 43 3 v n xs) (u : Value) (rs : List R3) (hu : rdAt w u rs) (ty : TypeId) (hn : n + rs.length ≤ 4000000) (hbase : base ≤ w.heap.size) :
    ∃ v' w', (Builtin.append_ #[34, 34] ty #[v, u]).run Try.prog w = .ok v' w' ∧ w'.ownsRow base 43 3 v' (n + rs.length) (xs ++ rdCells rs) ∧ w.grownBy w' v.ownBlock ∧ (v'.ownBlock = v.ownBlock ∨ v'.ownBlock = some w.heap.size) := by
  obtain ⟨i0, hi, hz0, hz1, hz2⟩ := info_parts infoR
  obtain ⟨a, cap, rfl, hcap, hcells⟩ := hu
  by_cases h0 : rs.length = 0
  · obtain rfl : rs = [] := List.length_eq_zero_iff.1 h0
    exact ⟨v, w, rd_append_none hown a cap ty, by simpa [rdCells] using hown, World.grownBy.refl _ _, .inl rfl⟩
  · obtain ⟨g, off, rfl, hg, hcs⟩ := hcells.resolve_left h0
    obtain ⟨v', w', hr, h2, h3, h4, h5⟩ := run_append_own_at (P := Try.prog) w base 34 ty 43 i0 (.agg #[.int .i64 0, .int .i64 0, .string ⟨#[]⟩]) 3 32 Try.underlying34 hi hz0 hz1 hz2 rfl (by decide) v n xs hown ⟨g, off, none⟩ rs.length cap (rdCells rs) (rdCells_len rs) (rdCells_at hcs) (rdCells_one rs) (by unfold maxLen; omega) (by omega) hbase
    exact ⟨v', w', hr, h2, h3, h5⟩
theorem step_append_rd {ops : Array Oper} {o : Oper} {a : Act} {w : World} {K : Act → World → Prop} {Q : Exit → Act → World → Prop} {E : Prop} (hgd : o.guard = none) (s x : Operand)
    (ho : o.op = .call { callee := .builtin .append, args := #[s, x], argTypes := #[34, 34] })
    {base n : Nat} {v : Value} {xs : List Value} (hown : w.ownsRow base 43 3 v n xs) (u : Value) (rs : List R3) (hu : rdAt w u rs) (hs : a.eval s = v) (hx : a.eval x = u) (hn : n + rs.length ≤ 4000000) (hbase : base ≤ w.heap.size)
    (h : ∀ v' w', w'.ownsRow base 43 3 v' (n + rs.length) (xs ++ rdCells rs) → w.grownBy w' v.ownBlock → (v'.ownBlock = v.ownBlock ∨ v'.ownBlock = some w.heap.size) → K (a.put o.dst v') w') :
    if Region.wanted o (yielded ops a.tmps) = true then Oper.wp Try.prog o a w K Q else E := by
  have hw : Region.wanted o (yielded ops a.tmps) = true := by simp [Region.wanted, hgd]
  rw [if_pos hw]
  obtain ⟨v', w', hr, h2, h3, h5⟩ := run_append_rd5 hown u rs hu o.type hn hbase
  unfold Oper.wp execOp
  simp only [ho, resolve, invoke, builtin, Sem.run_bind, Sem.run_pure, Result.andThen_ok, List.map_toArray, List.map_cons, List.map_nil, hs, hx, hr]
  exact h v' w' h2 h3 h5
end Go.Proofs.Ytbbjpjkclealfaa
namespace Go.Proofs.Ytbbjpjkclealfaa

theorem aheadN_at (x : K2) : ∀ (rs : List R3) (k : Nat), k ≤ rs.length → (∀ j, j < k → aheadB (rs.getD j r0).1 x = true) → (k = rs.length ∨ aheadB (rs.getD k r0).1 x = false) → aheadN rs x = k
  | [], k, hk, _, _ => by simp at hk; simp [aheadN, hk]
  | r :: l, 0, _, _, h => by
    unfold aheadN
    rcases h with h | h
    · simp at h
    · rw [if_neg (by simpa using h)]
  | r :: l, k + 1, hk, hn, h => by
    unfold aheadN
    rw [if_pos (by simpa using hn 0 (by omega)), aheadN_at x l k (by simpa using hk) (fun j hj => by simpa using hn (j + 1) (by omega)) (by simpa using h)]
end Go.Proofs.Ytbbjpjkclealfaa
namespace Go.Proofs.Ytbbjpjkclealfaa
open Go.ChangeShapes Go.WideShapes Go.ChangeAt Go.RowKit Go.BigFrame
set_option linter.unusedVariables false

theorem rd_row {w : World} {j : Nat} {r : R3} (h : w.heap[j]? = some (.cells #[.int .i64 r.1.1, .int .i64 r.1.2, .string r.2] 43)) : rdAt w (.slice (some ⟨j, 0, none⟩) 1 1) [r] := by
  refine ⟨_, 1, rfl, by simp, .inr ⟨j, 0, rfl, (Array.getElem?_eq_some_iff.1 h).1, fun i hi => ?_⟩⟩
  obtain rfl : i = 0 := by simp at hi; omega
  exact ⟨by rw [cell_of_row _ _ _ _ _ _ h]; rfl, by rw [cell_of_row _ _ _ _ _ _ h]; rfl, by rw [cell_of_row _ _ _ _ _ _ h]; rfl⟩
theorem rd_newR (w : World) (r : R3) : rdAt (w.alloc (.cells #[.int .i64 r.1.1, .int .i64 r.1.2, .string r.2] 43)) (.slice (some ⟨w.heap.size, 0, none⟩) 1 1) [r] := rd_row (heap_alloc_new w _)
structure S12 (w U : World) (r : R3) (v : Value) (n : Nat) (xs : List Value) : Prop where
  own : U.ownsRow w.heap.size 43 3 v n xs
  below : Below w.heap.size w U
  box : U.heap[w.heap.size]? = some (.cells #[.int .i64 r.1.1, .int .i64 r.1.2, .string r.2] 43)
  ne : v.ownBlock ≠ some w.heap.size
theorem lit1 {w w5 : World} {r : R3} (hb : Below w.heap.size w w5) (hx : w5.heap[w.heap.size]? = some (.cells #[.int .i64 r.1.1, .int .i64 r.1.2, .string r.2] 43)) :
    S12 w (w5.alloc (.cells #[] 43)).drew r (.slice (some ⟨w5.heap.size, 0, none⟩) 0 0) 0 [] := by
  have hl := (Array.getElem?_eq_some_iff.1 hx).1
  exact ⟨(World.ownsRow_made (base := w.heap.size) (e := 43) (size := 3) w5 #[] 0 hb.size (by unfold maxLen; omega) rfl).drew, (hb.alloc hb.size _).drew, (Below.heap_alloc _ _ _ hl).trans hx, by simp [Value.ownBlock]; omega⟩
theorem lit2 {w w5 : World} {r : R3} (hb : Below w.heap.size w w5) (hx : w5.heap[w.heap.size]? = some (.cells #[.int .i64 r.1.1, .int .i64 r.1.2, .string r.2] 43)) :
    S12 w ((w5.alloc (.cells #[] 43)).alloc (.cells #[.int .i64 r.1.1, .int .i64 r.1.2, .string r.2] 43)).drew r (.slice (some ⟨w5.heap.size, 0, none⟩) 0 0) 0 [] := by
  have h := lit1 hb hx
  have hl : w.heap.size < (w5.alloc (.cells #[] 43)).heap.size := (Array.getElem?_eq_some_iff.1 h.box).1
  exact ⟨((World.ownsRow_made (base := w.heap.size) (e := 43) (size := 3) w5 #[] 0 hb.size (by unfold maxLen; omega) rfl).alloc _).drew, ((hb.alloc hb.size _).alloc (Nat.le_of_lt hl) _).drew, (Below.heap_alloc _ _ _ hl).trans h.box, h.ne⟩
theorem lit3 {w w5 : World} {r : R3} (hb : Below w.heap.size w w5) (hx : w5.heap[w.heap.size]? = some (.cells #[.int .i64 r.1.1, .int .i64 r.1.2, .string r.2] 43)) :
    S12 w ((w5.alloc (.cells #[.int .i64 r.1.1, .int .i64 r.1.2, .string r.2] 43)).alloc (.cells #[] 43)).drew r (.slice (some ⟨w5.heap.size + 1, 0, none⟩) 0 0) 0 [] := by
  have hl := (Array.getElem?_eq_some_iff.1 hx).1
  have h := lit1 (hb.alloc hb.size (.cells #[.int .i64 r.1.1, .int .i64 r.1.2, .string r.2] 43)) (r := r) ((Below.heap_alloc _ _ _ hl).trans hx)
  rw [World.size_alloc] at h
  exact h
theorem row2 (w5 : World) (r : R3) : (((w5.alloc (.cells #[] 43)).alloc (.cells #[.int .i64 r.1.1, .int .i64 r.1.2, .string r.2] 43)).drew).heap[w5.heap.size + 1]? = some (.cells #[.int .i64 r.1.1, .int .i64 r.1.2, .string r.2] 43) := by
  have := heap_alloc_new (w5.alloc (.cells #[] 43)) (.cells #[.int .i64 r.1.1, .int .i64 r.1.2, .string r.2] 43)
  rw [World.size_alloc] at this
  exact this
theorem row3 (w5 : World) (r : R3) : (((w5.alloc (.cells #[.int .i64 r.1.1, .int .i64 r.1.2, .string r.2] 43)).alloc (.cells #[] 43)).drew).heap[w5.heap.size]? = some (.cells #[.int .i64 r.1.1, .int .i64 r.1.2, .string r.2] 43) :=
  (Below.heap_alloc _ _ _ (by simp)).trans (heap_alloc_new w5 _)
structure S6 (w w6 : World) (r : R3) (v6 : Value) (n : Nat) (ys : List Value) : Prop where
  own : w6.ownsRow w.heap.size 43 3 v6 n ys
  below : Below w.heap.size w w6
  box : w6.heap[w.heap.size]? = some (.cells #[.int .i64 r.1.1, .int .i64 r.1.2, .string r.2] 43)
theorem s12_aft {w U w6 : World} {r : R3} {v v6 : Value} {n n6 : Nat} {xs ys : List Value} (h : S12 w U r v n xs) (ho : w6.ownsRow w.heap.size 43 3 v6 n6 ys) (hg : U.grownBy w6 v.ownBlock) :
    S6 w w6 r v6 n6 ys :=
  ⟨ho, h.below.grown hg h.below.size (fun j e => (h.own.lt j e).1), (hg.block _ (Array.getElem?_eq_some_iff.1 h.box).1 (fun e => h.ne e.symm)).trans h.box⟩
theorem s12_fin {w w7 : World} {r : R3} {v7 : Value} {T : List R3} (h : w7.ownsRow w.heap.size 43 3 v7 (0 + T.length + [r].length) ([] ++ rdCells T ++ rdCells [r])) (hb : Below w.heap.size w w7) :
    w7.ownsRow w.heap.size 43 3 v7 (T.length + 1) (rdCells (T ++ [r])) ∧ Below w.heap.size w w7 := by
  rw [rdCells_append]
  rw [Nat.zero_add, List.nil_append] at h
  exact ⟨h, hb⟩
theorem s13_fin {w w8 : World} {r : R3} {v8 : Value} {rs : List R3} {k a : Nat} (hn : a = k) (hk : k ≤ rs.length) (h : w8.ownsRow w.heap.size 43 3 v8 (k + 1 + (rs.drop k).length) (rdCells (rs.take k ++ [r]) ++ rdCells (rs.drop k))) (hb : Below w.heap.size w w8) :
    w8.ownsRow w.heap.size 43 3 v8 (rs.length + 1) (rdCells (rs.take a ++ r :: rs.drop a)) ∧ Below w.heap.size w w8 := by
  subst hn
  rw [← rdCells_append, List.append_assoc, List.length_drop, show a + 1 + (rs.length - a) = rs.length + 1 by omega] at h
  exact ⟨h, hb⟩
theorem slice_from_run (g off N c i : Nat) (hi : i ≤ N) (hc : N ≤ c) : ∃ o', (c - i = 0 ∨ o' = off + i * 3) ∧ ∀ w : World, (Instr.slice 34 (.slice (some ⟨g, off, none⟩) N c) (some (.int .i64 i)) none none).run Try.prog w = .ok (.slice (some ⟨g, o', none⟩) (N - i) (c - i)) w := by
  have u := Try.underlying34
  obtain ⟨i0, hin, hz0, hz1, hz2⟩ := info_parts infoR
  have h2 : (i : Int) ≤ (N : Int) := by omega
  have h3 : (N : Int) ≤ (c : Int) := by omega
  have h4 : (0 : Int) ≤ (i : Int) := by omega
  by_cases h : c - i = 0
  · refine ⟨off, .inl h, fun w => ?_⟩
    go_simp
    intro hh; omega
  · refine ⟨off + i * 3, .inr rfl, fun w => ?_⟩
    go_simp
    intro hh; omega
theorem slice_nil_run (a : Option Addr) (c : Nat) : ∃ a1 c1, ∀ w : World, (Instr.slice 34 (.slice a 0 c) none (some (.int .i64 0)) none).run Try.prog w = .ok (.slice a1 0 c1) w := by
  have u := Try.underlying34
  obtain ⟨i0, hin, hz0, hz1, hz2⟩ := info_parts infoR
  cases a with
  | none => exact ⟨none, c, fun w => by go_simp⟩
  | some ad =>
    by_cases h : c = 0
    · subst h
      exact ⟨some ad, 0, fun w => by go_simp⟩
    · have h2 : (0 : Int) ≤ (c : Int) := by omega
      exact ⟨some (ad.add 0), c, fun w => by go_simp⟩
theorem slice_nil_from (a : Option Addr) (c : Nat) : ∃ a1 c1, ∀ w : World, (Instr.slice 34 (.slice a 0 c) (some (.int .i64 0)) none none).run Try.prog w = .ok (.slice a1 0 c1) w := by
  have u := Try.underlying34
  obtain ⟨i0, hin, hz0, hz1, hz2⟩ := info_parts infoR
  cases a with
  | none => exact ⟨none, c, fun w => by go_simp⟩
  | some ad =>
    by_cases h : c = 0
    · subst h
      exact ⟨some ad, 0, fun w => by go_simp⟩
    · have h2 : (0 : Int) ≤ (c : Int) := by omega
      exact ⟨some (ad.add 0), c, fun w => by go_simp⟩
theorem rdAt_nil (w : World) (a : Option Addr) (c : Nat) : rdAt w (.slice a 0 c) [] := ⟨a, c, rfl, by simp, .inl rfl⟩
theorem rd_from {w : World} {g off cap k o1 : Nat} {rs : List R3} (h : rdAt w (.slice (some ⟨g, off, none⟩) rs.length cap) rs) (hk : k ≤ rs.length) (hc : rs.length ≤ cap) (ho : cap - k = 0 ∨ o1 = off + k * 3) : rdAt w (.slice (some ⟨g, o1, none⟩) (rs.length - k) (cap - k)) (rs.drop k) := by
  rcases ho with h0 | rfl
  · have e : rs.length - k = 0 := by omega
    have e2 : rs.drop k = [] := List.drop_eq_nil_of_le (by omega)
    rw [e, e2]
    exact rdAt_nil _ _ _
  · exact rdAt_drop h k _ hk rfl (by omega)
theorem rdc_below {w w4 : World} {g off k : Nat} {x : R3} (h : w.cell? ⟨g, off + k * 3, none⟩ = some (.int .i64 x.1.1) ∧ w.cell? ⟨g, off + k * 3 + 1, none⟩ = some (.int .i64 x.1.2) ∧ w.cell? ⟨g, off + k * 3 + 2, none⟩ = some (.string x.2)) (hg : g < w.heap.size) (hb : Below w.heap.size w w4) :
    w4.cell? ⟨g, off + k * 3, none⟩ = some (.int .i64 x.1.1) ∧ w4.cell? ⟨g, off + k * 3 + 1, none⟩ = some (.int .i64 x.1.2) ∧ w4.cell? ⟨g, off + k * 3 + 2, none⟩ = some (.string x.2) := by
  rw [hb.cell (p := ⟨g, off + k * 3, none⟩) hg, hb.cell (p := ⟨g, off + k * 3 + 1, none⟩) hg, hb.cell (p := ⟨g, off + k * 3 + 2, none⟩) hg]
  exact h
set_option maxRecDepth 100000 in
set_option maxHeartbeats 2000000 in
theorem slearn_some (v : Value) (rs : List R3) (r : R3) (w : World) (h : rdAt w v rs) (hs : rs.length ≤ 1900000) (hk : rdsOkR rs = true) (hk2 : rdOkB r = true) (hl : loadO rs r.1 = none) (hne : rs.length ≠ 0) : Calls Try.prog 59 #[v, rv r] w fun e w' => ∃ v', e = .returned (.tuple #[v', .int .i64 0]) ∧
    w'.ownsRow w.heap.size 43 3 v' (rs.length + 1) (rdCells (rs.take (aheadN rs r.1) ++ r :: rs.drop (aheadN rs r.1))) ∧ Below w.heap.size w w' := by
  have hr : rv r = .agg #[.int .i64 r.1.1, .int .i64 r.1.2, .string r.2] := rfl
  have hown0 := World.ownsRow_made (base := w.heap.size) (e := 43) (size := 3) (w.alloc (.cells #[.int .i64 r.1.1, .int .i64 r.1.2, .string r.2] 43)) #[] 0 (by simp) (by unfold maxLen; omega) rfl
  have hb0 : Below w.heap.size w ((w.alloc (.cells #[.int .i64 r.1.1, .int .i64 r.1.2, .string r.2] 43)).alloc (.cells #[] 43)) := ((Below.refl _ _).alloc (Nat.le_refl _) _).alloc (by simp) _
  have hl0 := rdAt_below h hb0
  rw [show (w.alloc (.cells #[.int .i64 r.1.1, .int .i64 r.1.2, .string r.2] 43)).heap.size = w.heap.size + 1 by simp] at hown0
  have hbx : ((w.alloc (.cells #[.int .i64 r.1.1, .int .i64 r.1.2, .string r.2] 43)).alloc (.cells #[] 43)).heap[w.heap.size]? = some (.cells #[.int .i64 r.1.1, .int .i64 r.1.2, .string r.2] 43) := heap_first _ _ _
  go_enter Try.func59, Try.ntmps59
  rw [hr]
  go_wp2_with (at_builtin; refine wpList_append_rd rfl (.tmp 11) (.tmp 12) rfl hown0 _ rs hl0 rfl rfl (by omega) (by simp; omega) ?_; intro u w1 hown1 hgrow1)
  have hb1 : Below w.heap.size w w1 := hb0.grown hgrow1 (by simp; omega) (fun k e => (hown0.lt k e).1)
  have hx1 : w1.heap[w.heap.size]? = some (.cells #[.int .i64 r.1.1, .int .i64 r.1.2, .string r.2] 43) := by
    rw [hgrow1.block w.heap.size (by simp; omega) (fun e => by simp [Value.ownBlock] at e)]; exact hbx
  have K1 : LKeep w w1 w.heap.size r v rs u := ⟨⟨by rw [cell_of_row _ _ 0 _ _ _ hx1]; rfl, by rw [cell_of_row _ _ 1 _ _ _ hx1]; rfl, by rw [cell_of_row _ _ 2 _ _ _ hx1]; rfl⟩, (Array.getElem?_eq_some_iff.1 hx1).1, by simpa using hown1, hb1, rdAt_below h hb1⟩
  have HX1 := Lib.hid hx1
  clear hb1 hx1 hown1 hgrow1 hown0 hb0 hl0 hbx
  have HR := Lib.hid (fun w => sreadingok_any r w)
  have HRS := Lib.hid (sreadingsok_any v rs w1 K1.list (by omega))
  have HL := Lib.hid (fun w' (hw : rdAt w' v rs) => sloadof_any v rs r.1 w' hw (by omega))
  rw [hk] at HRS
  rw [hk2] at HR
  rw [hl] at HL
  go_wp2_with fail
  refine HRS.out.mono ?_
  rintro e w2 ⟨rfl, hb2⟩
  have K2 := K1.next hb2
  have HX2 := Lib.hid ((hb2.block _ (Array.getElem?_eq_some_iff.1 HX1.out).1).trans HX1.out)
  obtain ⟨q0, q1, q2⟩ := K2.box
  rw [hr] at HR
  have K2 := Lib.hid K2
  clear K1 hb2 HRS HX1
  go_wp2_with fail
  refine (HR.out _).mono ?_
  rintro e w3 ⟨rfl, hb3⟩
  have K3 := K2.out.next hb3
  have HX3 := Lib.hid ((hb3.block _ (Array.getElem?_eq_some_iff.1 HX2.out).1).trans HX2.out)
  clear K2 hb3 HR HX2 q0 q1 q2
  obtain ⟨q0, q1, q2⟩ := K3.box
  have HL3 := Lib.hid (HL.out w3 K3.list)
  have K3 := Lib.hid K3
  clear HL
  go_wp2_with fail
  refine HL3.out.mono ?_
  rintro e w4 ⟨rfl, hb4⟩
  have HX4 := Lib.hid ((hb4.block _ (Array.getElem?_eq_some_iff.1 HX3.out).1).trans HX3.out)
  have K4 := K3.out.next hb4
  clear K3 hb4 HL3 q0 q1 q2 HX3
  rw [show loadV (none : Option ByteArray) = .tuple #[.string ⟨#[]⟩, .bool false] from rfl]
  clear hl hk hk2
  obtain ⟨a, cap, rfl, hcap, hcells⟩ := h
  obtain ⟨g, off, rfl, hg, hcs⟩ := hcells.resolve_left hne
  have LK : ∀ w', Below w4.heap.size w4 w' → (loadVar 41 ⟨w.heap.size, 0, none⟩).run Try.prog w' = .ok (kv r.1) w' := fun w' hb => (K4.next hb).loadk
  have HB4 := Lib.hid K4.below
  have K4 := Lib.hid K4
  go_wp2
  go_loopw [9] (fun i wr => ∃ k : Nat, k ≤ rs.length ∧ i = .int .i64 k ∧ (∀ j, j < k → aheadB (rs.getD j r0).1 r.1 = true) ∧ Below w4.heap.size w4 wr) (fun i _ => rs.length - (intOf i).toNat)
  case atStart => exact ⟨0, Nat.zero_le _, rfl, fun j hj => by omega, Below.refl _ _⟩
  case round =>
    obtain ⟨k, hkl, rfl, hall, hb⟩ := hrel
    have z0 : (0 : Int) ≤ (k : Int) := by omega
    by_cases hlt : k < rs.length
    · have z1 : (k : Int) < (rs.length : Int) := by omega
      have c1 := hcs k hlt
      have L1 := fun w' hb => rdk_load (rdc_below c1 hg HB4.out) (w' := w') (Nat.lt_of_lt_of_le hg HB4.out.size) hb
      have HA := Lib.hid (fun w => sahead_any (rs.getD k r0).1 r.1 w)
      cases hah : aheadB (rs.getD k r0).1 r.1 with
      | true =>
        have hn : ∀ j, j < k + 1 → aheadB (rs.getD j r0).1 r.1 = true := by
          intro j hj
          rcases (by omega : j < k ∨ j = k) with h1 | rfl
          · exact hall j h1
          · exact hah
        have HN := Lib.hid hn
        rw [hah] at HA
        clear hcs c1 hall hn hah
        generalize rs.getD k r0 = kx at *
        go_wp2
        refine wp_region_below w4 (by kernel_rfl) (by kernel_rfl) hb ?_
        repeat (first
          | go_big_quiet_skip
          | (go_big_quiet_want
             first
               | (go_big_quiet_op; go_big_quiet_on)
               | (refine q_load 41 _ _ _ rfl rfl L1 ?_; simp only [Act.put, List.setIfInBounds_toArray, List.set_cons_zero, List.set_cons_succ]; go_big_quiet_on)
               | (refine q_load 41 _ _ _ rfl rfl LK ?_; simp only [Act.put, List.setIfInBounds_toArray, List.set_cons_zero, List.set_cons_succ]; go_big_quiet_on)
               | (go_big_quiet_op; refine ⟨_, fun _ _ => rfl, ?_⟩; go_big_quiet_on)
               | (go_big_quiet_op; apply Exists.intro; refine ⟨fun w' hw' => ?_, ?_⟩
                  · first
                    | (with_reducible refine (HA.out w').mono ?_
                       rintro e w2 ⟨rfl, hb2⟩
                       exact ⟨rfl, hw'.trans (hb2.mono hw'.size)⟩)
                  go_big_quiet_on)))
        refine wpQuiet_nil ?_
        intro w5 hb5
        clear L1 LK HA hb
        go_wp2
        exact ⟨⟨k + 1, by omega, by go_num, HN.out, hb5⟩, by simp [intOf]; omega⟩
      | false =>
        have HN := Lib.hid (aheadN_at r.1 rs k (by omega) hall (.inr hah))
        rw [hah] at HA
        obtain ⟨o1, ho1, hs1⟩ := slice_from_run g off rs.length cap k hkl hcap
        have HT := Lib.hid (fun w' (hb : Below w.heap.size w w') => rdAt_take (rdAt_below (⟨_, cap, rfl, hcap, .inr ⟨g, off, rfl, hg, hcs⟩⟩ : rdAt w (.slice (some ⟨g, off, none⟩) rs.length cap) rs) hb) k cap hkl (by omega))
        have HD := Lib.hid (fun w' (hb : Below w.heap.size w w') => rd_from (rdAt_below (⟨_, cap, rfl, hcap, .inr ⟨g, off, rfl, hg, hcs⟩⟩ : rdAt w (.slice (some ⟨g, off, none⟩) rs.length cap) rs) hb) hkl hcap ho1)
        clear hcs c1 hall hah ho1
        generalize rs.getD k r0 = kx at *
        go_wp2
        refine wp_region_below w4 (by kernel_rfl) (by kernel_rfl) hb ?_
        repeat (first
          | go_big_quiet_skip
          | (go_big_quiet_want
             first
               | (go_big_quiet_op; go_big_quiet_on)
               | (refine q_load 41 _ _ _ rfl rfl L1 ?_; simp only [Act.put, List.setIfInBounds_toArray, List.set_cons_zero, List.set_cons_succ]; go_big_quiet_on)
               | (refine q_load 41 _ _ _ rfl rfl LK ?_; simp only [Act.put, List.setIfInBounds_toArray, List.set_cons_zero, List.set_cons_succ]; go_big_quiet_on)
               | (go_big_quiet_op; refine ⟨_, fun _ _ => rfl, ?_⟩; go_big_quiet_on)
               | (go_big_quiet_op; apply Exists.intro; refine ⟨fun w' hw' => ?_, ?_⟩
                  · first
                    | (with_reducible refine (HA.out w').mono ?_
                       rintro e w2 ⟨rfl, hb2⟩
                       exact ⟨rfl, hw'.trans (hb2.mono hw'.size)⟩)
                  go_big_quiet_on)))
        refine wpQuiet_nil ?_
        intro w5 hb5
        clear L1 LK HA hb HB4
        have K5 := K4.out.next hb5
        have z2 : (k : Int) ≤ (cap : Int) := by omega
        have hx5 : w5.heap[w.heap.size]? = some (.cells #[.int .i64 r.1.1, .int .i64 r.1.2, .string r.2] 43) := (hb5.block _ (Array.getElem?_eq_some_iff.1 HX4.out).1).trans HX4.out
        have q0 : w5.cell? ⟨w.heap.size, 0, none⟩ = some (.int .i64 r.1.1) := by rw [cell_of_row _ _ 0 _ _ _ hx5]; rfl
        have q1 : w5.cell? ⟨w.heap.size, 1, none⟩ = some (.int .i64 r.1.2) := by rw [cell_of_row _ _ 1 _ _ _ hx5]; rfl
        have q2 : w5.cell? ⟨w.heap.size, 2, none⟩ = some (.string r.2) := by rw [cell_of_row _ _ 2 _ _ _ hx5]; rfl
        have hlx := (Array.getElem?_eq_some_iff.1 hx5).1
        have LIT1 := Lib.hid (lit1 K5.below hx5)
        have LIT2 := Lib.hid (lit2 K5.below hx5)
        have LIT3 := Lib.hid (lit3 K5.below hx5)
        have ROW2 := Lib.hid (row2 w5 r)
        have ROW3 := Lib.hid (row3 w5 r)
        have HTL := Lib.hid (show (rs.take k).length = k by rw [List.length_take]; omega)
        clear K4 K5 hb5 hx5 HX4
        go_wp2_with fail
        go_region_law (first
          | (refine step_append_rd rfl (.tmp 53) (.tmp 56) rfl LIT1.out.own _ (rs.take k) (HT.out _ LIT1.out.below) rfl rfl (by have := HTL.out; omega) LIT1.out.below.size ?_
             intro v6 w6 hown6 hgr6 hw6
             have HF6 := Lib.hid (s12_aft LIT1.out hown6 hgr6)
             have c0 : w6.cell? ⟨w.heap.size, 0, none⟩ = some (.int .i64 r.1.1) := by rw [cell_of_row _ _ 0 _ _ _ HF6.out.box]; rfl
             have c1 : w6.cell? ⟨w.heap.size, 1, none⟩ = some (.int .i64 r.1.2) := by rw [cell_of_row _ _ 1 _ _ _ HF6.out.box]; rfl
             have c2 : w6.cell? ⟨w.heap.size, 2, none⟩ = some (.string r.2) := by rw [cell_of_row _ _ 2 _ _ _ HF6.out.box]; rfl
             clear hown6 hgr6 hw6)
          | (refine step_append_rd rfl (.tmp 53) (.tmp 56) rfl LIT2.out.own _ (rs.take k) (HT.out _ LIT2.out.below) rfl rfl (by have := HTL.out; omega) LIT2.out.below.size ?_
             intro v6 w6 hown6 hgr6 hw6
             have HF6 := Lib.hid (s12_aft LIT2.out hown6 hgr6)
             have hu6 := rd_row ((hgr6.block (w5.heap.size + 1) (by show _ < ((w5.alloc _).alloc _).heap.size; simp) (by simp [Value.ownBlock])).trans ROW2.out)
             have c0 : w6.cell? ⟨w.heap.size, 0, none⟩ = some (.int .i64 r.1.1) := by rw [cell_of_row _ _ 0 _ _ _ HF6.out.box]; rfl
             have c1 : w6.cell? ⟨w.heap.size, 1, none⟩ = some (.int .i64 r.1.2) := by rw [cell_of_row _ _ 1 _ _ _ HF6.out.box]; rfl
             have c2 : w6.cell? ⟨w.heap.size, 2, none⟩ = some (.string r.2) := by rw [cell_of_row _ _ 2 _ _ _ HF6.out.box]; rfl
             clear hown6 hgr6 hw6)
          | (refine step_append_rd rfl (.tmp 53) (.tmp 56) rfl LIT3.out.own _ (rs.take k) (HT.out _ LIT3.out.below) rfl rfl (by have := HTL.out; omega) LIT3.out.below.size ?_
             intro v6 w6 hown6 hgr6 hw6
             have HF6 := Lib.hid (s12_aft LIT3.out hown6 hgr6)
             have hu6 := rd_row ((hgr6.block w5.heap.size (by show _ < ((w5.alloc _).alloc _).heap.size; simp; omega) (by simp [Value.ownBlock])).trans ROW3.out)
             have c0 : w6.cell? ⟨w.heap.size, 0, none⟩ = some (.int .i64 r.1.1) := by rw [cell_of_row _ _ 0 _ _ _ HF6.out.box]; rfl
             have c1 : w6.cell? ⟨w.heap.size, 1, none⟩ = some (.int .i64 r.1.2) := by rw [cell_of_row _ _ 1 _ _ _ HF6.out.box]; rfl
             have c2 : w6.cell? ⟨w.heap.size, 2, none⟩ = some (.string r.2) := by rw [cell_of_row _ _ 2 _ _ _ HF6.out.box]; rfl
             clear hown6 hgr6 hw6)
          | (refine step_append_rd rfl (.tmp 57) (.tmp 59) rfl (HF6.out.own.alloc _) _ [r] (rd_newR w6 r) rfl rfl (by have := HTL.out; simp only [List.length_singleton]; omega) (by have := HF6.out.below.size; simp; omega) ?_
             intro v7 w7 hown7 hgr7 hw7
             have HE := Lib.hid (s12_fin hown7 ((HF6.out.below.alloc HF6.out.below.size _).grown hgr7 (Nat.le_trans HF6.out.below.size (by simp)) (fun j e => (HF6.out.own.lt j e).1)))
             clear hown7 hgr7 hw7 HF6)
          | (refine step_append_rd rfl (.tmp 57) (.tmp 59) rfl HF6.out.own _ [r] hu6 rfl rfl (by have := HTL.out; simp only [List.length_singleton]; omega) HF6.out.below.size ?_
             intro v7 w7 hown7 hgr7 hw7
             have HE := Lib.hid (s12_fin hown7 (HF6.out.below.grown hgr7 HF6.out.below.size (fun j e => (HF6.out.own.lt j e).1)))
             clear hown7 hgr7 hw7 HF6 hu6))
        all_goals
          clear HT LIT1 LIT2 LIT3 ROW2 ROW3 q0 q1 q2 hlx
          have h7 := HE.out.1
          rw [HTL.out] at h7
          have HB7 := Lib.hid HE.out.2
          clear HE
          go_wp2_with (at_builtin; refine wpList_append_rd rfl (.tmp 61) (.tmp 64) rfl h7 _ (rs.drop k) (HD.out _ HB7.out) rfl rfl (by first | (simp; done) | (simp; omega)) HB7.out.size ?_; intro v8 w8 hown8 hgr8)
          have HE8 := Lib.hid (s13_fin HN.out hkl hown8 (HB7.out.grown hgr8 HB7.out.size (fun j e => (h7.lt j e).1)))
          clear hown8 hgr8 h7 HB7 HD hs1
          go_wp2
          go_ret2
          exact ⟨_, rfl, HE8.out.1, HE8.out.2⟩
    · have z1 : ¬ (k : Int) < (rs.length : Int) := by omega
      have HN := Lib.hid (aheadN_at r.1 rs k (by omega) hall (.inl (by omega)))
      obtain ⟨o1, ho1, hs1⟩ := slice_from_run g off rs.length cap k hkl hcap
      have HT := Lib.hid (fun w' (hb : Below w.heap.size w w') => rdAt_take (rdAt_below (⟨_, cap, rfl, hcap, .inr ⟨g, off, rfl, hg, hcs⟩⟩ : rdAt w (.slice (some ⟨g, off, none⟩) rs.length cap) rs) hb) k cap hkl (by omega))
      have HD := Lib.hid (fun w' (hb : Below w.heap.size w w') => rd_from (rdAt_below (⟨_, cap, rfl, hcap, .inr ⟨g, off, rfl, hg, hcs⟩⟩ : rdAt w (.slice (some ⟨g, off, none⟩) rs.length cap) rs) hb) hkl hcap ho1)
      clear hcs hall ho1
      go_wp2
      refine wp_region_below w4 (by kernel_rfl) (by kernel_rfl) hb ?_
      repeat (first
        | go_big_quiet_skip
        | (go_big_quiet_want
           first
             | (go_big_quiet_op; go_big_quiet_on)
             | (go_big_quiet_op; refine ⟨_, fun _ _ => rfl, ?_⟩; go_big_quiet_on)
             | (go_big_quiet_op; go_big_quiet_on)))
      refine wpQuiet_nil ?_
      intro w5 hb5
      clear LK hb HB4
      have K5 := K4.out.next hb5
      have z2 : (k : Int) ≤ (cap : Int) := by omega
      have hx5 : w5.heap[w.heap.size]? = some (.cells #[.int .i64 r.1.1, .int .i64 r.1.2, .string r.2] 43) := (hb5.block _ (Array.getElem?_eq_some_iff.1 HX4.out).1).trans HX4.out
      have q0 : w5.cell? ⟨w.heap.size, 0, none⟩ = some (.int .i64 r.1.1) := by rw [cell_of_row _ _ 0 _ _ _ hx5]; rfl
      have q1 : w5.cell? ⟨w.heap.size, 1, none⟩ = some (.int .i64 r.1.2) := by rw [cell_of_row _ _ 1 _ _ _ hx5]; rfl
      have q2 : w5.cell? ⟨w.heap.size, 2, none⟩ = some (.string r.2) := by rw [cell_of_row _ _ 2 _ _ _ hx5]; rfl
      have hlx := (Array.getElem?_eq_some_iff.1 hx5).1
      have LIT1 := Lib.hid (lit1 K5.below hx5)
      have LIT2 := Lib.hid (lit2 K5.below hx5)
      have LIT3 := Lib.hid (lit3 K5.below hx5)
      have ROW2 := Lib.hid (row2 w5 r)
      have ROW3 := Lib.hid (row3 w5 r)
      have HTL := Lib.hid (show (rs.take k).length = k by rw [List.length_take]; omega)
      clear K4 K5 hb5 hx5 HX4
      go_wp2_with fail
      go_region_law (first
        | (refine step_append_rd rfl (.tmp 53) (.tmp 56) rfl LIT1.out.own _ (rs.take k) (HT.out _ LIT1.out.below) rfl rfl (by have := HTL.out; omega) LIT1.out.below.size ?_
           intro v6 w6 hown6 hgr6 hw6
           have HF6 := Lib.hid (s12_aft LIT1.out hown6 hgr6)
           have c0 : w6.cell? ⟨w.heap.size, 0, none⟩ = some (.int .i64 r.1.1) := by rw [cell_of_row _ _ 0 _ _ _ HF6.out.box]; rfl
           have c1 : w6.cell? ⟨w.heap.size, 1, none⟩ = some (.int .i64 r.1.2) := by rw [cell_of_row _ _ 1 _ _ _ HF6.out.box]; rfl
           have c2 : w6.cell? ⟨w.heap.size, 2, none⟩ = some (.string r.2) := by rw [cell_of_row _ _ 2 _ _ _ HF6.out.box]; rfl
           clear hown6 hgr6 hw6)
        | (refine step_append_rd rfl (.tmp 53) (.tmp 56) rfl LIT2.out.own _ (rs.take k) (HT.out _ LIT2.out.below) rfl rfl (by have := HTL.out; omega) LIT2.out.below.size ?_
           intro v6 w6 hown6 hgr6 hw6
           have HF6 := Lib.hid (s12_aft LIT2.out hown6 hgr6)
           have hu6 := rd_row ((hgr6.block (w5.heap.size + 1) (by show _ < ((w5.alloc _).alloc _).heap.size; simp) (by simp [Value.ownBlock])).trans ROW2.out)
           have c0 : w6.cell? ⟨w.heap.size, 0, none⟩ = some (.int .i64 r.1.1) := by rw [cell_of_row _ _ 0 _ _ _ HF6.out.box]; rfl
           have c1 : w6.cell? ⟨w.heap.size, 1, none⟩ = some (.int .i64 r.1.2) := by rw [cell_of_row _ _ 1 _ _ _ HF6.out.box]; rfl
           have c2 : w6.cell? ⟨w.heap.size, 2, none⟩ = some (.string r.2) := by rw [cell_of_row _ _ 2 _ _ _ HF6.out.box]; rfl
           clear hown6 hgr6 hw6)
        | (refine step_append_rd rfl (.tmp 53) (.tmp 56) rfl LIT3.out.own _ (rs.take k) (HT.out _ LIT3.out.below) rfl rfl (by have := HTL.out; omega) LIT3.out.below.size ?_
           intro v6 w6 hown6 hgr6 hw6
           have HF6 := Lib.hid (s12_aft LIT3.out hown6 hgr6)
           have hu6 := rd_row ((hgr6.block w5.heap.size (by show _ < ((w5.alloc _).alloc _).heap.size; simp; omega) (by simp [Value.ownBlock])).trans ROW3.out)
           have c0 : w6.cell? ⟨w.heap.size, 0, none⟩ = some (.int .i64 r.1.1) := by rw [cell_of_row _ _ 0 _ _ _ HF6.out.box]; rfl
           have c1 : w6.cell? ⟨w.heap.size, 1, none⟩ = some (.int .i64 r.1.2) := by rw [cell_of_row _ _ 1 _ _ _ HF6.out.box]; rfl
           have c2 : w6.cell? ⟨w.heap.size, 2, none⟩ = some (.string r.2) := by rw [cell_of_row _ _ 2 _ _ _ HF6.out.box]; rfl
           clear hown6 hgr6 hw6)
        | (refine step_append_rd rfl (.tmp 57) (.tmp 59) rfl (HF6.out.own.alloc _) _ [r] (rd_newR w6 r) rfl rfl (by have := HTL.out; simp only [List.length_singleton]; omega) (by have := HF6.out.below.size; simp; omega) ?_
           intro v7 w7 hown7 hgr7 hw7
           have HE := Lib.hid (s12_fin hown7 ((HF6.out.below.alloc HF6.out.below.size _).grown hgr7 (Nat.le_trans HF6.out.below.size (by simp)) (fun j e => (HF6.out.own.lt j e).1)))
           clear hown7 hgr7 hw7 HF6)
        | (refine step_append_rd rfl (.tmp 57) (.tmp 59) rfl HF6.out.own _ [r] hu6 rfl rfl (by have := HTL.out; simp only [List.length_singleton]; omega) HF6.out.below.size ?_
           intro v7 w7 hown7 hgr7 hw7
           have HE := Lib.hid (s12_fin hown7 (HF6.out.below.grown hgr7 HF6.out.below.size (fun j e => (HF6.out.own.lt j e).1)))
           clear hown7 hgr7 hw7 HF6 hu6))
      all_goals
        clear HT LIT1 LIT2 LIT3 ROW2 ROW3 q0 q1 q2 hlx
        have h7 := HE.out.1
        rw [HTL.out] at h7
        have HB7 := Lib.hid HE.out.2
        clear HE
        go_wp2_with (at_builtin; refine wpList_append_rd rfl (.tmp 61) (.tmp 64) rfl h7 _ (rs.drop k) (HD.out _ HB7.out) rfl rfl (by first | (simp; done) | (simp; omega)) HB7.out.size ?_; intro v8 w8 hown8 hgr8)
        have HE8 := Lib.hid (s13_fin HN.out hkl hown8 (HB7.out.grown hgr8 HB7.out.size (fun j e => (h7.lt j e).1)))
        clear hown8 hgr8 h7 HB7 HD hs1
        go_wp2
        go_ret2
        exact ⟨_, rfl, HE8.out.1, HE8.out.2⟩
end Go.Proofs.Ytbbjpjkclealfaa
namespace Go.Proofs.Ytbbjpjkclealfaa
open Go.ChangeShapes Go.WideShapes Go.ChangeAt Go.RowKit Go.BigFrame
set_option linter.unusedVariables false

set_option maxRecDepth 100000 in
set_option maxHeartbeats 2000000 in
theorem slearn_none (v : Value) (rs : List R3) (r : R3) (w : World) (h : rdAt w v rs) (hs : rs.length ≤ 1900000) (hk : rdsOkR rs = true) (hk2 : rdOkB r = true) (hl : loadO rs r.1 = none) (hne : rs.length = 0) : Calls Try.prog 59 #[v, rv r] w fun e w' => ∃ v', e = .returned (.tuple #[v', .int .i64 0]) ∧
    w'.ownsRow w.heap.size 43 3 v' (rs.length + 1) (rdCells (rs.take (aheadN rs r.1) ++ r :: rs.drop (aheadN rs r.1))) ∧ Below w.heap.size w w' := by
  have hr : rv r = .agg #[.int .i64 r.1.1, .int .i64 r.1.2, .string r.2] := rfl
  have hown0 := World.ownsRow_made (base := w.heap.size) (e := 43) (size := 3) (w.alloc (.cells #[.int .i64 r.1.1, .int .i64 r.1.2, .string r.2] 43)) #[] 0 (by simp) (by unfold maxLen; omega) rfl
  have hb0 : Below w.heap.size w ((w.alloc (.cells #[.int .i64 r.1.1, .int .i64 r.1.2, .string r.2] 43)).alloc (.cells #[] 43)) := ((Below.refl _ _).alloc (Nat.le_refl _) _).alloc (by simp) _
  have hl0 := rdAt_below h hb0
  rw [show (w.alloc (.cells #[.int .i64 r.1.1, .int .i64 r.1.2, .string r.2] 43)).heap.size = w.heap.size + 1 by simp] at hown0
  have hbx : ((w.alloc (.cells #[.int .i64 r.1.1, .int .i64 r.1.2, .string r.2] 43)).alloc (.cells #[] 43)).heap[w.heap.size]? = some (.cells #[.int .i64 r.1.1, .int .i64 r.1.2, .string r.2] 43) := heap_first _ _ _
  go_enter Try.func59, Try.ntmps59
  rw [hr]
  go_wp2_with (at_builtin; refine wpList_append_rd rfl (.tmp 11) (.tmp 12) rfl hown0 _ rs hl0 rfl rfl (by omega) (by simp; omega) ?_; intro u w1 hown1 hgrow1)
  have hb1 : Below w.heap.size w w1 := hb0.grown hgrow1 (by simp; omega) (fun k e => (hown0.lt k e).1)
  have hx1 : w1.heap[w.heap.size]? = some (.cells #[.int .i64 r.1.1, .int .i64 r.1.2, .string r.2] 43) := by
    rw [hgrow1.block w.heap.size (by simp; omega) (fun e => by simp [Value.ownBlock] at e)]; exact hbx
  have K1 : LKeep w w1 w.heap.size r v rs u := ⟨⟨by rw [cell_of_row _ _ 0 _ _ _ hx1]; rfl, by rw [cell_of_row _ _ 1 _ _ _ hx1]; rfl, by rw [cell_of_row _ _ 2 _ _ _ hx1]; rfl⟩, (Array.getElem?_eq_some_iff.1 hx1).1, by simpa using hown1, hb1, rdAt_below h hb1⟩
  have HX1 := Lib.hid hx1
  clear hb1 hx1 hown1 hgrow1 hown0 hb0 hl0 hbx
  have HR := Lib.hid (fun w => sreadingok_any r w)
  have HRS := Lib.hid (sreadingsok_any v rs w1 K1.list (by omega))
  have HL := Lib.hid (fun w' (hw : rdAt w' v rs) => sloadof_any v rs r.1 w' hw (by omega))
  rw [hk] at HRS
  rw [hk2] at HR
  rw [hl] at HL
  go_wp2_with fail
  refine HRS.out.mono ?_
  rintro e w2 ⟨rfl, hb2⟩
  have K2 := K1.next hb2
  have HX2 := Lib.hid ((hb2.block _ (Array.getElem?_eq_some_iff.1 HX1.out).1).trans HX1.out)
  obtain ⟨q0, q1, q2⟩ := K2.box
  rw [hr] at HR
  have K2 := Lib.hid K2
  clear K1 hb2 HRS HX1
  go_wp2_with fail
  refine (HR.out _).mono ?_
  rintro e w3 ⟨rfl, hb3⟩
  have K3 := K2.out.next hb3
  have HX3 := Lib.hid ((hb3.block _ (Array.getElem?_eq_some_iff.1 HX2.out).1).trans HX2.out)
  clear K2 hb3 HR HX2 q0 q1 q2
  obtain ⟨q0, q1, q2⟩ := K3.box
  have HL3 := Lib.hid (HL.out w3 K3.list)
  have K3 := Lib.hid K3
  clear HL
  go_wp2_with fail
  refine HL3.out.mono ?_
  rintro e w4 ⟨rfl, hb4⟩
  have HX4 := Lib.hid ((hb4.block _ (Array.getElem?_eq_some_iff.1 HX3.out).1).trans HX3.out)
  have K4 := K3.out.next hb4
  clear K3 hb4 HL3 q0 q1 q2 HX3
  rw [show loadV (none : Option ByteArray) = .tuple #[.string ⟨#[]⟩, .bool false] from rfl]
  clear hl hk hk2
  obtain ⟨a, cap, rfl, hcap, hcells⟩ := h
  obtain rfl := List.length_eq_zero_iff.1 hne
  obtain ⟨a1, c1, hs1⟩ := slice_nil_run a cap
  obtain ⟨a2, c2', hs2⟩ := slice_nil_from a cap
  clear hne hcells hcap
  rw [List.length_nil] at *
  have LK : ∀ w', Below w4.heap.size w4 w' → (loadVar 41 ⟨w.heap.size, 0, none⟩).run Try.prog w' = .ok (kv r.1) w' := fun w' hb => (K4.next hb).loadk
  have HB4 := Lib.hid K4.below
  have K4 := Lib.hid K4
  go_wp2
  go_loopw [9] (fun i wr => ∃ k : Nat, k ≤ ([] : List R3).length ∧ i = .int .i64 k ∧ (∀ j, j < k → aheadB (([] : List R3).getD j r0).1 r.1 = true) ∧ Below w4.heap.size w4 wr) (fun i _ => ([] : List R3).length - (intOf i).toNat)
  case atStart => exact ⟨0, Nat.zero_le _, rfl, fun j hj => by omega, Below.refl _ _⟩
  case round =>
    obtain ⟨k, hkl, rfl, hall, hb⟩ := hrel
    obtain rfl : k = 0 := by simpa using hkl
    have HN := Lib.hid (show aheadN ([] : List R3) r.1 = 0 from rfl)
    clear hall
    go_wp2
    refine wp_region_below w4 (by kernel_rfl) (by kernel_rfl) hb ?_
    repeat (first
      | go_big_quiet_skip
      | (go_big_quiet_want
         first
           | (go_big_quiet_op; go_big_quiet_on)
           | (go_big_quiet_op; refine ⟨_, fun _ _ => rfl, ?_⟩; go_big_quiet_on)
           | (go_big_quiet_op; go_big_quiet_on)))
    refine wpQuiet_nil ?_
    intro w5 hb5
    clear LK hb HB4
    have K5 := K4.out.next hb5
    have hx5 : w5.heap[w.heap.size]? = some (.cells #[.int .i64 r.1.1, .int .i64 r.1.2, .string r.2] 43) := (hb5.block _ (Array.getElem?_eq_some_iff.1 HX4.out).1).trans HX4.out
    have q0 : w5.cell? ⟨w.heap.size, 0, none⟩ = some (.int .i64 r.1.1) := by rw [cell_of_row _ _ 0 _ _ _ hx5]; rfl
    have q1 : w5.cell? ⟨w.heap.size, 1, none⟩ = some (.int .i64 r.1.2) := by rw [cell_of_row _ _ 1 _ _ _ hx5]; rfl
    have q2 : w5.cell? ⟨w.heap.size, 2, none⟩ = some (.string r.2) := by rw [cell_of_row _ _ 2 _ _ _ hx5]; rfl
    have hlx := (Array.getElem?_eq_some_iff.1 hx5).1
    have LIT1 := Lib.hid (lit1 K5.below hx5)
    have LIT2 := Lib.hid (lit2 K5.below hx5)
    have LIT3 := Lib.hid (lit3 K5.below hx5)
    have ROW2 := Lib.hid (row2 w5 r)
    have ROW3 := Lib.hid (row3 w5 r)
    have HTL := Lib.hid (show (([] : List R3).take 0).length = 0 from rfl)
    clear K4 K5 hb5 hx5 HX4
    go_wp2_with fail
    go_region_law (first
      | (refine step_append_rd rfl (.tmp 53) (.tmp 56) rfl LIT1.out.own _ (([] : List R3).take 0) (rdAt_nil _ a1 c1) rfl rfl (by have := HTL.out; omega) LIT1.out.below.size ?_
         intro v6 w6 hown6 hgr6 hw6
         have HF6 := Lib.hid (s12_aft LIT1.out hown6 hgr6)
         have c0 : w6.cell? ⟨w.heap.size, 0, none⟩ = some (.int .i64 r.1.1) := by rw [cell_of_row _ _ 0 _ _ _ HF6.out.box]; rfl
         have c1 : w6.cell? ⟨w.heap.size, 1, none⟩ = some (.int .i64 r.1.2) := by rw [cell_of_row _ _ 1 _ _ _ HF6.out.box]; rfl
         have c2 : w6.cell? ⟨w.heap.size, 2, none⟩ = some (.string r.2) := by rw [cell_of_row _ _ 2 _ _ _ HF6.out.box]; rfl
         clear hown6 hgr6 hw6)
      | (refine step_append_rd rfl (.tmp 53) (.tmp 56) rfl LIT2.out.own _ (([] : List R3).take 0) (rdAt_nil _ a1 c1) rfl rfl (by have := HTL.out; omega) LIT2.out.below.size ?_
         intro v6 w6 hown6 hgr6 hw6
         have HF6 := Lib.hid (s12_aft LIT2.out hown6 hgr6)
         have hu6 := rd_row ((hgr6.block (w5.heap.size + 1) (by show _ < ((w5.alloc _).alloc _).heap.size; simp) (by simp [Value.ownBlock])).trans ROW2.out)
         have c0 : w6.cell? ⟨w.heap.size, 0, none⟩ = some (.int .i64 r.1.1) := by rw [cell_of_row _ _ 0 _ _ _ HF6.out.box]; rfl
         have c1 : w6.cell? ⟨w.heap.size, 1, none⟩ = some (.int .i64 r.1.2) := by rw [cell_of_row _ _ 1 _ _ _ HF6.out.box]; rfl
         have c2 : w6.cell? ⟨w.heap.size, 2, none⟩ = some (.string r.2) := by rw [cell_of_row _ _ 2 _ _ _ HF6.out.box]; rfl
         clear hown6 hgr6 hw6)
      | (refine step_append_rd rfl (.tmp 53) (.tmp 56) rfl LIT3.out.own _ (([] : List R3).take 0) (rdAt_nil _ a1 c1) rfl rfl (by have := HTL.out; omega) LIT3.out.below.size ?_
         intro v6 w6 hown6 hgr6 hw6
         have HF6 := Lib.hid (s12_aft LIT3.out hown6 hgr6)
         have hu6 := rd_row ((hgr6.block w5.heap.size (by show _ < ((w5.alloc _).alloc _).heap.size; simp; omega) (by simp [Value.ownBlock])).trans ROW3.out)
         have c0 : w6.cell? ⟨w.heap.size, 0, none⟩ = some (.int .i64 r.1.1) := by rw [cell_of_row _ _ 0 _ _ _ HF6.out.box]; rfl
         have c1 : w6.cell? ⟨w.heap.size, 1, none⟩ = some (.int .i64 r.1.2) := by rw [cell_of_row _ _ 1 _ _ _ HF6.out.box]; rfl
         have c2 : w6.cell? ⟨w.heap.size, 2, none⟩ = some (.string r.2) := by rw [cell_of_row _ _ 2 _ _ _ HF6.out.box]; rfl
         clear hown6 hgr6 hw6)
      | (refine step_append_rd rfl (.tmp 57) (.tmp 59) rfl (HF6.out.own.alloc _) _ [r] (rd_newR w6 r) rfl rfl (by have := HTL.out; simp only [List.length_singleton]; omega) (by have := HF6.out.below.size; simp; omega) ?_
         intro v7 w7 hown7 hgr7 hw7
         have HE := Lib.hid (s12_fin hown7 ((HF6.out.below.alloc HF6.out.below.size _).grown hgr7 (Nat.le_trans HF6.out.below.size (by simp)) (fun j e => (HF6.out.own.lt j e).1)))
         clear hown7 hgr7 hw7 HF6)
      | (refine step_append_rd rfl (.tmp 57) (.tmp 59) rfl HF6.out.own _ [r] hu6 rfl rfl (by have := HTL.out; simp only [List.length_singleton]; omega) HF6.out.below.size ?_
         intro v7 w7 hown7 hgr7 hw7
         have HE := Lib.hid (s12_fin hown7 (HF6.out.below.grown hgr7 HF6.out.below.size (fun j e => (HF6.out.own.lt j e).1)))
         clear hown7 hgr7 hw7 HF6 hu6))
    all_goals
      clear LIT1 LIT2 LIT3 ROW2 ROW3 q0 q1 q2 hlx
      have h7 := HE.out.1
      rw [HTL.out] at h7
      have HB7 := Lib.hid HE.out.2
      clear HE
      go_wp2_with (at_builtin; refine wpList_append_rd rfl (.tmp 61) (.tmp 64) rfl h7 _ (([] : List R3).drop 0) (rdAt_nil _ a2 c2') rfl rfl (by first | (simp; done) | (simp; omega)) HB7.out.size ?_; intro v8 w8 hown8 hgr8)
      have HE8 := Lib.hid (s13_fin HN.out hkl hown8 (HB7.out.grown hgr8 HB7.out.size (fun j e => (h7.lt j e).1)))
      clear hown8 hgr8 h7 HB7 hs1 hs2
      go_wp2
      go_ret2
      exact ⟨_, rfl, HE8.out.1, HE8.out.2⟩
end Go.Proofs.Ytbbjpjkclealfaa
namespace Go.Proofs.Ytbbjpjkclealfaa
open Go.ChangeShapes Go.WideShapes Go.ChangeAt Go.RowKit Go.BigFrame
set_option linter.unusedVariables false

theorem learnV_bad {rs : List R3} {r : R3} (h : ¬ (rdsOkR rs = true ∧ rdOkB r = true)) : learnV rs r = (rs, 3) := by unfold learnV; rw [if_neg h]
theorem learnV_new {rs : List R3} {r : R3} (h1 : rdsOkR rs = true) (h2 : rdOkB r = true) (hl : loadO rs r.1 = none) : learnV rs r = (rs.take (aheadN rs r.1) ++ r :: rs.drop (aheadN rs r.1), 0) := by
  unfold learnV; rw [if_pos ⟨h1, h2⟩, hl]
theorem learnV_same {rs : List R3} {r : R3} (h1 : rdsOkR rs = true) (h2 : rdOkB r = true) {l : ByteArray} (hl : loadO rs r.1 = some l) (he : l = r.2) : learnV rs r = (rs, 1) := by
  unfold learnV; rw [if_pos ⟨h1, h2⟩, hl]; simp only [he, if_true]
theorem learnV_other {rs : List R3} {r : R3} (h1 : rdsOkR rs = true) (h2 : rdOkB r = true) {l : ByteArray} (hl : loadO rs r.1 = some l) (he : ¬ l = r.2) : learnV rs r = (rs, 2) := by
  unfold learnV; rw [if_pos ⟨h1, h2⟩, hl]; simp only [he, if_false]
theorem learn_len (rs : List R3) (r : R3) : (rs.take (aheadN rs r.1) ++ r :: rs.drop (aheadN rs r.1)).length = rs.length + 1 := by
  rw [List.length_append, List.length_cons, List.length_take, List.length_drop]; omega
theorem slearn_any (v : Value) (rs : List R3) (r : R3) (w : World) (h : rdAt w v rs) (hs : rs.length ≤ 1900000) : Calls Try.prog 59 #[v, rv r] w fun e w' => ∃ v', e = .returned (.tuple #[v', .int .i64 (learnV rs r).2]) ∧
    w'.ownsRow w.heap.size 43 3 v' (learnV rs r).1.length (rdCells (learnV rs r).1) ∧ Below w.heap.size w w' := by
  by_cases hg : rdsOkR rs = true ∧ rdOkB r = true
  · obtain ⟨hg1, hg2⟩ := hg
    cases hl : loadO rs r.1 with
    | none =>
      rw [learnV_new hg1 hg2 hl]
      rw [show (rs.take (aheadN rs r.1) ++ r :: rs.drop (aheadN rs r.1)).length = rs.length + 1 from learn_len rs r]
      by_cases hne : rs.length = 0
      · exact slearn_none v rs r w h hs hg1 hg2 hl hne
      · exact slearn_some v rs r w h hs hg1 hg2 hl hne
    | some l =>
      by_cases he : l = r.2
      · rw [learnV_same hg1 hg2 hl he]
        have := slearn_got v rs r w h hs hg1 hg2 l hl
        rw [if_pos he] at this
        exact this
      · rw [learnV_other hg1 hg2 hl he]
        have := slearn_got v rs r w h hs hg1 hg2 l hl
        rw [if_neg he] at this
        exact this
  · rw [learnV_bad hg]
    exact slearn_bad v rs r w h hs hg
end Go.Proofs.Ytbbjpjkclealfaa
namespace Go.Proofs.Ytbbjpjkclealfaa
open Go.ChangeShapes Go.WideShapes Go.ChangeAt Go.RowKit Go.BigFrame
set_option linter.unusedVariables false
set_option linter.unusedSimpArgs false

/-- what the model's Solve tells -/
def solveC (L : List C2) : List R3 := if agB (baseG ordW (rowsN L L.length)).2 = true then solveM (rowsN L L.length) else []
theorem solS_one {out : List R3} {b : W2} {k : K2} (h : b.1.1 = [k]) : solS out b = (learnV out (k, b.1.2)).1 := by unfold solS; rw [if_pos (by rw [h]; rfl), h]; rfl
theorem solS_no {out : List R3} {b : W2} (h : ¬ b.1.1.length = 1) : solS out b = out := by unfold solS; rw [if_neg h]
theorem take_foldl {A B : Type} (f : B → A → B) (l : List A) (d : A) (o : B) (k : Nat) (hk : k < l.length) : (l.take (k + 1)).foldl f o = f ((l.take k).foldl f o) (l.getD k d) := by
  rw [List.take_succ_eq_append_getElem hk, List.foldl_append]
  simp [List.getD, hk]
theorem learnV_leS (out : List R3) (r : R3) : (learnV out r).1.length ≤ out.length + 1 := by
  by_cases hg : rdsOkR out = true ∧ rdOkB r = true
  · cases hl : loadO out r.1 with
    | none =>
      rw [learnV_new hg.1 hg.2 hl]
      have := learn_len out r
      simp only [List.length_append, List.length_cons, List.length_take, List.length_drop]
      omega
    | some l =>
      by_cases he : l = r.2
      · rw [learnV_same hg.1 hg.2 hl he]; exact Nat.le_succ _
      · rw [learnV_other hg.1 hg.2 hl he]; exact Nat.le_succ _
  · rw [learnV_bad hg]; simp
theorem solS_len (out : List R3) (b : W2) : (solS out b).length ≤ out.length + 1 := by
  unfold solS
  split
  · exact learnV_leS _ _
  · omega
theorem sol_len : ∀ (B : List W2) (out : List R3), (B.foldl solS out).length ≤ out.length + B.length
  | [], out => by simp
  | b :: B, out => by
    have h1 := sol_len B (solS out b)
    have h2 := solS_len out b
    rw [List.foldl_cons, List.length_cons]
    omega
theorem solveC_len (L : List C2) : (solveC L).length ≤ 20 := by
  unfold solveC
  split
  · have := sol_len (baseG ordW (rowsN L L.length)).1 []
    have h2 := base_len L L.length
    unfold solveM
    simp at this
    omega
  · simp
/-- rows and what they told so far -/
structure SoI (w W : World) (w0 : World) (g c : Nat) (us : List Value) (B : List W2) (v : Value) (out : List R3) : Prop where
  below : Below w.heap.size w W
  bs : BsC w0 W g c us B
  out : W.ownsRow w.heap.size 43 3 v out.length (rdCells out)
theorem SoI.next {w W W' w0 : World} {g c : Nat} {us : List Value} {B : List W2} {v : Value} {out : List R3} (h : SoI w W w0 g c us B v out) (hb : Below W.heap.size W W') : SoI w W' w0 g c us B v out :=
  ⟨h.below.trans (hb.mono h.below.size), h.bs.next hb, own_below h.out hb⟩
set_option maxRecDepth 100000 in
set_option maxHeartbeats 2000000 in
theorem ssolve_any (vl : Value) (L : List C2) (w : World) (h : cdAv w none vl L) (hl : L.length ≤ 1900000) (hks : ∀ x ∈ L, x.1.length ≤ 2000000) :
    Calls Try.prog 17 #[vl] w fun e w' => ∃ v', e = .returned v' ∧ w'.ownsRow w.heap.size 43 3 v' (solveC L).length (rdCells (solveC L)) ∧ Below w.heap.size w w' := by
  have hb0 := (Below.refl w.heap.size w).alloc (Nat.le_refl _) (.cells #[] 43)
  have HO := Lib.hid (World.ownsRow_made (base := w.heap.size) (e := 43) (size := 3) w #[] 0 (Nat.le_refl _) (by unfold maxLen; omega) rfl)
  have HB := Lib.hid hb0
  have HL := Lib.hid (cdAv_below h hb0)
  have H := Lib.hid (sbase_any vl L _ HL.out hl hks)
  have hn20 := base_len L L.length
  have hsc : solveC L = if agB (baseG ordW (rowsN L L.length)).2 = true then (baseG ordW (rowsN L L.length)).1.foldl solS [] else [] := rfl
  clear hb0
  go_enter Try.func17, Try.ntmps17
  go_wp2_with fail
  generalize w.alloc (.cells #[] 43) = w0 at *
  refine H.out.mono ?_
  rintro e w1 ⟨g, c, us, rfl, hC⟩
  generalize baseG ordW (rowsN L L.length) = BZ at *
  obtain ⟨B, Z⟩ := BZ
  dsimp only at *
  have hI : SoI w w1 w0 g c us B (.slice (some ⟨w.heap.size, 0, none⟩) 0 0) [] := ⟨HB.out.trans (hC.below.mono HB.out.size), hC, own_below HO.out hC.below⟩
  have HI := Lib.hid hI
  clear hC H HO HB HL hI
  generalize hag : agB Z = ag at *
  have HSC := Lib.hid hsc
  clear hsc
  cases ag with
  | false =>
    go_wp2_with fail
    go_loopw [3, 6] (fun v k wr => k = .int .i64 0 ∧ v = .slice (some ⟨w.heap.size, 0, none⟩) 0 0 ∧ wr = w1) (fun _ _ _ => 0)
    case atStart => exact ⟨rfl, rfl, rfl⟩
    case round =>
      obtain ⟨rfl, rfl, rfl⟩ := hrel
      by_cases hlt : (0 : Int) < (B.length : Int)
      · go_wp2
        go_ret
        exact ⟨_, rfl, by rw [HSC.out]; exact HI.out.out, HI.out.below⟩
      · go_wp2
        go_ret
        exact ⟨_, rfl, by rw [HSC.out]; exact HI.out.out, HI.out.below⟩
  | true =>
    go_wp2_with fail
    go_loopw [3, 6] (fun v k wr => ∃ (i : Nat), i ≤ B.length ∧ k = .int .i64 (i : Int) ∧ SoI w wr w0 g c us B v ((B.take i).foldl solS [])) (fun _ k _ => B.length - (intOf k).toNat)
    case atStart => exact ⟨0, Nat.zero_le _, rfl, HI.out⟩
    case round =>
      obtain ⟨i, hi, rfl, hJ⟩ := hrel
      have HJ := Lib.hid hJ
      clear hJ HI
      rename_i wr
      by_cases hlt : i < B.length
      · have z0 : (0 : Int) ≤ (i : Int) := by omega
        have z1 : (i : Int) < (B.length : Int) := by omega
        have HS := Lib.hid (take_foldl solS B grpW.zero [] i hlt)
        have hol := sol_len (B.take i) []
        rw [List.length_take] at hol
        have hA := HJ.out.bs.at i hlt
        have c0 := hA.c0
        have c1 := hA.c1
        have HKA := Lib.hid hA.keys
        generalize B.getD i grpW.zero = b at *
        generalize us.getD i undef = u at *
        obtain ⟨au, cu, rfl, -, hcu⟩ := hA.keys
        generalize (B.take i).foldl solS [] = out at *
        clear hA
        by_cases h1 : b.1.1.length = 1
        · obtain ⟨kk, hkk⟩ : ∃ k, b.1.1 = [k] := List.length_eq_one_iff.1 h1
          have HE := Lib.hid (solS_one (out := out) hkk)
          have i1 : (b.1.1.length : Int) = 1 := by omega
          obtain ⟨gu, off, rfl, hgu, -, hcell⟩ := hcu.resolve_left (by omega)
          have hc2 := hcell 0 (by omega)
          rw [hkk] at hc2
          obtain ⟨k0, k1⟩ := hc2
          simp only [Nat.zero_mul, Nat.add_zero, List.getD_cons_zero] at k0 k1
          obtain ⟨kp, kq⟩ := kk
          dsimp only at k0 k1
          have IL := Lib.hid (fun wx (hbx : Below wr.heap.size wr wx) => slearn_any _ out ((kp, kq), b.1.2) wx (rdAt_own (own_below HJ.out.out hbx)) (by simp at hol; omega))
          clear hcell hcu
          rw [h1] at *
          have hgr := (HJ.out.bs.own.own.lt g rfl).2
          have LA : ∀ w' : World, Below wr.heap.size wr w' → (loadVar 25 ⟨g, i * 2, none⟩).run Try.prog w' = .ok (.slice (some ⟨gu, off, none⟩) 1 cu) w' := fun w' h => load_one agg_keys ((h.cell (p := ⟨g, i * 2, none⟩) hgr).trans c0)
          have LK : ∀ w' : World, Below wr.heap.size wr w' → (loadVar 41 ⟨gu, off, none⟩).run Try.prog w' = .ok (.agg #[.int .i64 kp, .int .i64 kq]) w' := fun w' h => key_load (k := (kp, kq)) (o := off) ⟨k0, k1⟩ hgu h
          have LS : ∀ w' : World, Below wr.heap.size wr w' → (loadVar 9 ⟨g, i * 2 + 1, none⟩).run Try.prog w' = .ok (.string b.1.2) w' := fun w' h => load_one agg_str ((h.cell (p := ⟨g, i * 2 + 1, none⟩) hgr).trans c1)
          have HB := Lib.hid (Below.refl wr.heap.size wr)
          generalize hyb : b.1.2 = y at *
          go_upto_region 7 with (fail)
          refine wp_region_G (fun w' => Below wr.heap.size wr w') (by kernel_rfl) ?_
          replace HB := Lib.hid (HB.out.drew)
          generalize (wr).drew = wD at *
          refine wpG_seg [true, true, true, true, true, true, true, true, true, true, true, true, true] [13] 5 (by kernel_rfl) (by intro c a d v w h; cases d <;> exact h) (by kernel_rfl) HB.out ?_
          try simp only [maskRows]
          repeat (first
            | go_big_quiet_skip
            | (go_big_quiet_want
               first
                 | (go_big_quiet_op; go_big_quiet_on)
                 | (refine q_load 25 _ _ _ rfl rfl LA ?_; simp only [Act.put, List.setIfInBounds_toArray, List.set_cons_zero, List.set_cons_succ]; go_big_quiet_on)
                 | (refine q_load 41 _ _ _ rfl rfl LK ?_; simp only [Act.put, List.setIfInBounds_toArray, List.set_cons_zero, List.set_cons_succ]; go_big_quiet_on)
                 | (refine q_load 9 _ _ _ rfl rfl LS ?_; simp only [Act.put, List.setIfInBounds_toArray, List.set_cons_zero, List.set_cons_succ]; go_big_quiet_on)
                 | (go_big_quiet_op; refine ⟨_, fun _ _ => rfl, ?_⟩; go_big_quiet_on)
                 | (go_big_quiet_op; refine ⟨_, fun _ _ _ => rfl, ?_⟩; go_big_quiet_on)))
          refine wpQuiet_nil ?_
          refine List.forall_mem_singleton.2 ?_
          refine segt_run rfl (by rfl) (fun K hK => ?_)
          go_simp
          refine hK _ _ ⟨_, fun _ h => h, HB.out, ?_⟩
          clear hK K
          try simp only [Act.put, List.setIfInBounds_toArray, List.set_cons_zero, List.set_cons_succ]
          refine wpG_seg [] [14] 4 (by kernel_rfl) (by intro c a d v w h; cases d <;> exact h) (by kernel_rfl) HB.out ?_
          try simp only [maskRows]
          refine wpQuiet_nil ?_
          refine List.forall_mem_singleton.2 ?_
          refine segt_run rfl (by rfl) (fun K hK => ?_)
          go_simp
          refine (IL.out _ HB.out).mono ?_
          rintro e w4 ⟨v7, rfl, ho7, hb⟩
          dsimp only
          have HO7 := Lib.hid (own_base ho7 HB.out.size)
          clear ho7
          replace HB := Lib.hid (HB.out.trans (hb.mono HB.out.size))
          clear hb
          refine hK _ _ ⟨_, fun _ h => h, HB.out, ?_⟩
          clear hK K
          try simp only [Act.put, List.setIfInBounds_toArray, List.set_cons_zero, List.set_cons_succ]
          refine wpG_end [false, false, false, false, false, false, false, false, false, false, false, false, false, false, false, true, true, true, true] (by kernel_rfl) (by intro c a d v w h; cases d <;> exact h) (by kernel_rfl) HB.out ?_
          try simp only [maskRows]
          repeat (first
            | go_big_quiet_skip
            | (go_big_quiet_want
               first
                 | (go_big_quiet_op; go_big_quiet_on)
                 | (refine q_load 25 _ _ _ rfl rfl LA ?_; simp only [Act.put, List.setIfInBounds_toArray, List.set_cons_zero, List.set_cons_succ]; go_big_quiet_on)
                 | (refine q_load 41 _ _ _ rfl rfl LK ?_; simp only [Act.put, List.setIfInBounds_toArray, List.set_cons_zero, List.set_cons_succ]; go_big_quiet_on)
                 | (refine q_load 9 _ _ _ rfl rfl LS ?_; simp only [Act.put, List.setIfInBounds_toArray, List.set_cons_zero, List.set_cons_succ]; go_big_quiet_on)
                 | (go_big_quiet_op; refine ⟨_, fun _ _ => rfl, ?_⟩; go_big_quiet_on)
                 | (go_big_quiet_op; refine ⟨_, fun _ _ _ => rfl, ?_⟩; go_big_quiet_on)))
          refine wpQuiet_nil ?_
          have hbx := HB.out
          go_wp2_with fail
          exact ⟨⟨i + 1, by omega, by go_num, HJ.out.below.trans (hbx.mono HJ.out.below.size), HJ.out.bs.next hbx, by rw [HS.out, HE.out]; exact own_base HO7.out HJ.out.below.size⟩, by simp [intOf]; omega⟩
        · have i1 : ¬ (b.1.1.length : Int) = 1 := by omega
          have HE := Lib.hid (solS_no (out := out) h1)
          go_wp2
          exact ⟨⟨i + 1, by omega, by go_num, by rw [HS.out, HE.out]; exact HJ.out⟩, by simp [intOf]; omega⟩
      · obtain rfl : i = B.length := by omega
        rw [List.take_length] at *
        go_wp2
        go_ret
        exact ⟨_, rfl, by rw [HSC.out]; exact HJ.out.out, HJ.out.below⟩
end Go.Proofs.Ytbbjpjkclealfaa
namespace Go.Proofs.Ytbbjpjkclealfaa
open Go.ChangeShapes Go.WideShapes Go.ChangeAt Go.RowKit Go.BigFrame
set_option linter.unusedVariables false

theorem ireadingok_any (r : R3) (w : World) : Calls Try.prog 60 #[rv r] w fun e w' => e = .returned (.bool (rdOkB r)) ∧ Below w.heap.size w w' := by
  obtain ⟨⟨n, s⟩, x⟩ := r
  unfold rdOkB rv
  dsimp only
  have hb : Below w.heap.size w (w.alloc (.cells #[.int .i64 n, .int .i64 s, .string x] 43)) := (Below.refl _ _).alloc (Nat.le_refl _) _
  have L1 := rdk_load (r := ((n, s), x)) (w := w.alloc (.cells #[.int .i64 n, .int .i64 s, .string x] 43)) (g := w.heap.size) (o := 0) ⟨by simp, by simp, by simp⟩ (by simp) (Below.refl _ _)
  have c2 : (w.alloc (.cells #[.int .i64 n, .int .i64 s, .string x] 43)).cell? ⟨w.heap.size, 2, none⟩ = some (.string x) := by simp
  have hlt : w.heap.size < (w.alloc (.cells #[.int .i64 n, .int .i64 s, .string x] 43)).heap.size := by simp
  have H1 := fun w => ikeyok_any (n, s) w
  go_enter Try.func60, Try.ntmps60
  have HZ := Lib.hid (show ((x.size : Int) = 4) = (x.size = 4) from propext (by omega))
  generalize keyOkB (n, s) = p at *
  dsimp only at L1
  cases p with
  | false =>
    go_wp2_with fail
    refine (H1 _).mono ?_
    rintro e w1 ⟨rfl, hb1⟩
    have hB := hb.trans (hb1.mono hb.size)
    go_wp2
    go_ret
    exact ⟨by simp, hB⟩
  | true =>
    go_wp2_with fail
    refine (H1 _).mono ?_
    rintro e w1 ⟨rfl, hb1⟩
    have hB := hb.trans (hb1.mono hb.size)
    have c3 : w1.cell? ⟨w.heap.size, 2, none⟩ = some (.string x) := (hb1.cell (p := ⟨w.heap.size, 2, none⟩) hlt).trans c2
    by_cases h4 : x.size = 4
    · have e4 : (x.size : Int) = 4 := by omega
      clear hb hb1 c2 H1 L1
      go_wp2
      go_ret
      exact ⟨by simp [h4], hB⟩
    · have e4 : ¬ (x.size : Int) = 4 := by omega
      clear hb hb1 c2 H1 L1
      go_wp2
      go_ret
      exact ⟨by simp [h4, e4], hB⟩
end Go.Proofs.Ytbbjpjkclealfaa
namespace Go.Proofs.Ytbbjpjkclealfaa
open Go.ChangeShapes Go.WideShapes Go.ChangeAt Go.RowKit Go.BigFrame
set_option linter.unusedVariables false

set_option maxRecDepth 100000 in
set_option maxHeartbeats 1000000 in
theorem isingle_any (r : R3) (w : World) :
    Calls Try.prog 20 #[rv r] w fun e w' => ∃ v', e = .returned (.agg #[v', .string (singM r).2]) ∧ w'.ownsRow w.heap.size 41 2 v' (singM r).1.length (keyCells (singM r).1) ∧ Below w.heap.size w w' := by
  have hs : singM r = if rdOkB r then ([r.1], r.2) else blankC := rfl
  have H1 := fun w => ireadingok_any r w
  have h4 : rdOkB r = true → r.2.size = 4 := by
    intro h
    simp only [rdOkB, Bool.and_eq_true, decide_eq_true_eq] at h
    exact h.2
  obtain ⟨⟨p, q⟩, y⟩ := r
  unfold rv at *
  dsimp only at *
  have hb1 := (Below.refl w.heap.size w).alloc (Nat.le_refl _) (.cells #[.int .i64 p, .int .i64 q, .string y] 43)
  have hb2 := hb1.alloc hb1.size (.cells #[.slice none 0 0, .string ⟨#[]⟩] 27)
  have hr1 := heap_first w (.cells #[.slice none 0 0, .string ⟨#[]⟩] 27) (.cells #[.int .i64 p, .int .i64 q, .string y] 43)
  have hr2 := heap_alloc_new (w.alloc (.cells #[.int .i64 p, .int .i64 q, .string y] 43)) (.cells #[.slice none 0 0, .string ⟨#[]⟩] 27)
  have e1 : (w.alloc (.cells #[.int .i64 p, .int .i64 q, .string y] 43)).heap.size = w.heap.size + 1 := by simp
  rw [e1] at hr2
  have e2 : ((w.alloc (.cells #[.int .i64 p, .int .i64 q, .string y] 43)).alloc (.cells #[.slice none 0 0, .string ⟨#[]⟩] 27)).heap.size = w.heap.size + 2 := by simp
  have HZ := Lib.hid e2
  have HB := Lib.hid hb2; have HR := Lib.hid hr2; have HX := Lib.hid hr1
  clear hb1 hb2 hr1 hr2 e1 e2
  obtain ⟨x0, x1, x2, -, -, -⟩ := row3_of HX.out
  go_enter Try.func20, Try.ntmps20
  go_wp2_with fail
  generalize (w.alloc (.cells #[.int .i64 p, .int .i64 q, .string y] 43)).alloc (.cells #[.slice none 0 0, .string ⟨#[]⟩] 27) = W at *
  refine (H1 _).mono ?_
  rintro e w1 ⟨rfl, hb1⟩
  have HB0 := Lib.hid (HB.out.trans (hb1.mono HB.out.size))
  have HRES := Lib.hid ((hb1.block _ (Array.getElem?_eq_some_iff.1 HR.out).1).trans HR.out)
  have HX1 := Lib.hid ((hb1.block _ (Array.getElem?_eq_some_iff.1 HX.out).1).trans HX.out)
  have HSZ := Lib.hid (show w.heap.size + 2 ≤ w1.heap.size by have := hb1.size; have := HZ.out; omega)
  clear hb1 x0 x1 x2 HB HR HX H1 HZ
  generalize hok : rdOkB ((p, q), y) = b at *
  have HS := Lib.hid hs
  clear hs hok
  cases b with
  | false =>
    go_wp2_with fail
    refine (iblank_any _ _ _).mono ?_
    rintro e w2 ⟨rfl, hb2⟩
    have hr2 := (hb2.block _ (Array.getElem?_eq_some_iff.1 HRES.out).1).trans HRES.out
    have hB2 := HB0.out.trans (hb2.mono HB0.out.size)
    obtain ⟨c0, c1, f0, f1⟩ := row2_of hr2
    have hlt := (Array.getElem?_eq_some_iff.1 hr2).1
    have L2 := Lib.hid (cd_res hr2 (.slice none 0 0) z4)
    have HF := Lib.hid (below2 hB2 (by omega : w.heap.size ≤ w.heap.size + 1) (.slice none 0 0) (.string z4))
    clear hb2 hr2 hB2 HB0 HRES HX1
    go_wp2_with fail
    refine bodyPost_ret (v := .agg #[.slice none 0 0, .string z4]) ?_ rfl ⟨_, by rw [HS.out]; rfl, by rw [HS.out]; exact World.ownsRow_nil _ _ _ _, HF.out⟩
    rw [results_cell (p := 2) (ty := 27) (by kernel_rfl)]
    have l2 := L2.out
    simp [asAddr, Result.andThen, l2]
  | true =>
    have HL := Lib.hid (fun w => iloadbytes_any y w (h4 rfl))
    have HC := Lib.hid (fun a n c w => icodeof_any a n c y (h4 rfl) w)
    have L1 : ∀ w' : World, w'.heap[w.heap.size]? = some (.cells #[.int .i64 p, .int .i64 q, .string y] 43) → (loadVar 41 ⟨w.heap.size, 0, none⟩).run Try.prog w' = .ok (.agg #[.int .i64 p, .int .i64 q]) w' := fun w' h => by
      obtain ⟨x0, x1, x2, -, -, -⟩ := row3_of h
      exact rdk_load (r := ((p, q), y)) (o := 0) ⟨x0, x1, x2⟩ (Array.getElem?_eq_some_iff.1 h).1 (Below.refl _ _)
    have L2 : ∀ w' : World, w'.heap[w.heap.size]? = some (.cells #[.int .i64 p, .int .i64 q, .string y] 43) → (loadVar 9 ⟨w.heap.size, 2, none⟩).run Try.prog w' = .ok (.string y) w' := fun w' h => load_one agg_str (row3_of h).c2
    clear h4
    go_wp2_with fail
    refine wp_region_G (fun w' => w'.heap[w.heap.size]? = some (.cells #[.int .i64 p, .int .i64 q, .string y] 43)) (by kernel_rfl) ?_
    replace HX1 := Lib.hid (show (World.drew _).heap[_]? = _ from HX1.out)
    replace HB0 := Lib.hid (HB0.out.drew)
    replace HRES := Lib.hid (show (World.drew _).heap[_]? = _ from HRES.out)
    replace HSZ := Lib.hid (show _ ≤ (World.drew _).heap.size from HSZ.out)
    generalize (w1).drew = wD at *
    refine wpG_seg [true, true, false, true, true] [2, 5] 3 (by kernel_rfl) (by intro c a d v w h; cases d <;> exact h) (by kernel_rfl) HX1.out ?_
    try simp only [maskRows]
    repeat (first
      | go_big_quiet_skip
      | (go_big_quiet_want
         first
           | (go_big_quiet_op; go_big_quiet_on)
           | (refine q_load 41 _ _ _ rfl rfl L1 ?_; simp only [Act.put, List.setIfInBounds_toArray, List.set_cons_zero, List.set_cons_succ]; go_big_quiet_on)
           | (refine q_load 9 _ _ _ rfl rfl L2 ?_; simp only [Act.put, List.setIfInBounds_toArray, List.set_cons_zero, List.set_cons_succ]; go_big_quiet_on)
           | (go_big_quiet_op; refine ⟨_, fun _ _ => rfl, ?_⟩; go_big_quiet_on)))
    refine wpQuiet_nil ?_
    refine List.forall_mem_cons.2 ⟨?_, List.forall_mem_singleton.2 ?_⟩
    · refine segt_run rfl (by rfl) (fun K hK => ?_)
      go_simp
      have HOn := Lib.hid (own_one (w := wD) (base := w.heap.size + 2) p q HSZ.out)
      replace HX1 := Lib.hid ((Below.heap_alloc _ (.cells #[.int .i64 p, .int .i64 q] 41) _ (Array.getElem?_eq_some_iff.1 HX1.out).1).trans HX1.out)
      replace HB0 := Lib.hid (HB0.out.alloc HB0.out.size (.cells #[.int .i64 p, .int .i64 q] 41))
      replace HRES := Lib.hid ((Below.heap_alloc _ (.cells #[.int .i64 p, .int .i64 q] 41) _ (Array.getElem?_eq_some_iff.1 HRES.out).1).trans HRES.out)
      replace HSZ := Lib.hid (Nat.le_trans HSZ.out (size_le_alloc _ (.cells #[.int .i64 p, .int .i64 q] 41)))
      generalize World.alloc (wD) (.cells #[.int .i64 p, .int .i64 q] 41) = w3 at *
      generalize (wD).heap.size = b3 at *
      have HO := HOn
      clear HOn
      refine hK _ _ ⟨_, fun _ h => h, HX1.out, ?_⟩
      clear hK K
      try simp only [Act.put, List.setIfInBounds_toArray, List.set_cons_zero, List.set_cons_succ]
      refine wpG_seg [] [5] 2 (by kernel_rfl) (by intro c a d v w h; cases d <;> exact h) (by kernel_rfl) HX1.out ?_
      try simp only [maskRows]
      refine wpQuiet_nil ?_
      refine List.forall_mem_singleton.2 ?_
      refine segt_run rfl (by rfl) (fun K hK => ?_)
      go_simp
      refine (HL.out _).mono ?_
      rintro e w4 ⟨rfl, hb⟩
      dsimp only
      replace HX1 := Lib.hid ((hb.block _ (Array.getElem?_eq_some_iff.1 HX1.out).1).trans HX1.out)
      replace HB0 := Lib.hid (HB0.out.trans (hb.mono HB0.out.size))
      replace HRES := Lib.hid ((hb.block _ (Array.getElem?_eq_some_iff.1 HRES.out).1).trans HRES.out)
      replace HSZ := Lib.hid (Nat.le_trans HSZ.out hb.size)
      replace HO := Lib.hid (own_below HO.out hb)
      clear hb
      refine hK _ _ ⟨_, fun _ h => h, HX1.out, ?_⟩
      clear hK K
      try simp only [Act.put, List.setIfInBounds_toArray, List.set_cons_zero, List.set_cons_succ]
      refine wpG_seg [] [6] 1 (by kernel_rfl) (by intro c a d v w h; cases d <;> exact h) (by kernel_rfl) HX1.out ?_
      try simp only [maskRows]
      refine wpQuiet_nil ?_
      refine List.forall_mem_singleton.2 ?_
      refine segt_run rfl (by rfl) (fun K hK => ?_)
      go_simp
      refine (HC.out _ _ _ _).mono ?_
      rintro e w5 ⟨rfl, hb⟩
      dsimp only
      replace HX1 := Lib.hid ((hb.block _ (Array.getElem?_eq_some_iff.1 HX1.out).1).trans HX1.out)
      replace HB0 := Lib.hid (HB0.out.trans (hb.mono HB0.out.size))
      replace HRES := Lib.hid ((hb.block _ (Array.getElem?_eq_some_iff.1 HRES.out).1).trans HRES.out)
      replace HSZ := Lib.hid (Nat.le_trans HSZ.out hb.size)
      replace HO := Lib.hid (own_below HO.out hb)
      clear hb
      obtain ⟨c0, c1, f0, f1⟩ := row2_of HRES.out
      have hlt := (Array.getElem?_eq_some_iff.1 HRES.out).1
      have HF := Lib.hid (And.intro (cd_res HRES.out (.slice (some ⟨b3, 0, none⟩) 1 1) y) (And.intro (own_base (own_set2 HO.out (by omega : w.heap.size + 1 < w.heap.size + 2) (.slice (some ⟨b3, 0, none⟩) 1 1) (.string y)) (by omega : w.heap.size ≤ w.heap.size + 2)) (below2 HB0.out (by omega : w.heap.size ≤ w.heap.size + 1) (.slice (some ⟨b3, 0, none⟩) 1 1) (.string y))))
      have HX2 := Lib.hid (row_set2 HX1.out (by omega : w.heap.size ≠ w.heap.size + 1) (.slice (some ⟨b3, 0, none⟩) 1 1) (.string y))
      refine hK _ _ ⟨_, fun _ h => h, HX1.out, ?_⟩
      clear hK K
      try simp only [Act.put, List.setIfInBounds_toArray, List.set_cons_zero, List.set_cons_succ]
      refine wpG_seg [] [7] 0 (by kernel_rfl) (by intro c a d v w h; cases d <;> exact h) (by kernel_rfl) HX1.out ?_
      try simp only [maskRows]
      refine wpQuiet_nil ?_
      refine List.forall_mem_singleton.2 ?_
      refine segt_run rfl (by rfl) (fun K hK => ?_)
      go_simp
      replace HX1 := HX2
      clear HX2 HRES HO HB0 c0 c1 f0 f1 hlt
      refine hK _ _ ⟨_, fun _ h => h, HX1.out, ?_⟩
      clear hK K
      try simp only [Act.put, List.setIfInBounds_toArray, List.set_cons_zero, List.set_cons_succ]
      refine wpG_end [] (by kernel_rfl) (by intro c a d v w h; cases d <;> exact h) (by kernel_rfl) HX1.out ?_
      try simp only [maskRows]
      refine wpQuiet_nil ?_
      go_wp2_with fail
      refine bodyPost_ret (v := .agg #[.slice (some ⟨b3, 0, none⟩) 1 1, .string y]) ?_ rfl ⟨_, by rw [HS.out]; rfl, by rw [HS.out]; exact HF.out.2.1, HF.out.2.2⟩
      rw [results_cell (p := 2) (ty := 27) (by kernel_rfl)]
      have l2 := HF.out.1
      simp [asAddr, Result.andThen, l2]
    · refine segt_run rfl (by rfl) (fun K hK => ?_)
      go_simp
      refine (HL.out _).mono ?_
      rintro e w3 ⟨rfl, hb⟩
      dsimp only
      replace HX1 := Lib.hid ((hb.block _ (Array.getElem?_eq_some_iff.1 HX1.out).1).trans HX1.out)
      replace HB0 := Lib.hid (HB0.out.trans (hb.mono HB0.out.size))
      replace HRES := Lib.hid ((hb.block _ (Array.getElem?_eq_some_iff.1 HRES.out).1).trans HRES.out)
      replace HSZ := Lib.hid (Nat.le_trans HSZ.out hb.size)
      clear hb
      refine hK _ _ ⟨_, fun _ h => h, HX1.out, ?_⟩
      clear hK K
      try simp only [Act.put, List.setIfInBounds_toArray, List.set_cons_zero, List.set_cons_succ]
      refine wpG_seg [] [2] 2 (by kernel_rfl) (by intro c a d v w h; cases d <;> exact h) (by kernel_rfl) HX1.out ?_
      try simp only [maskRows]
      refine wpQuiet_nil ?_
      refine List.forall_mem_singleton.2 ?_
      refine segt_run rfl (by rfl) (fun K hK => ?_)
      go_simp
      have HOn := Lib.hid (own_one (w := w3) (base := w.heap.size + 2) p q HSZ.out)
      replace HX1 := Lib.hid ((Below.heap_alloc _ (.cells #[.int .i64 p, .int .i64 q] 41) _ (Array.getElem?_eq_some_iff.1 HX1.out).1).trans HX1.out)
      replace HB0 := Lib.hid (HB0.out.alloc HB0.out.size (.cells #[.int .i64 p, .int .i64 q] 41))
      replace HRES := Lib.hid ((Below.heap_alloc _ (.cells #[.int .i64 p, .int .i64 q] 41) _ (Array.getElem?_eq_some_iff.1 HRES.out).1).trans HRES.out)
      replace HSZ := Lib.hid (Nat.le_trans HSZ.out (size_le_alloc _ (.cells #[.int .i64 p, .int .i64 q] 41)))
      generalize World.alloc (w3) (.cells #[.int .i64 p, .int .i64 q] 41) = w4 at *
      generalize (w3).heap.size = b3 at *
      have HO := HOn
      clear HOn
      refine hK _ _ ⟨_, fun _ h => h, HX1.out, ?_⟩
      clear hK K
      try simp only [Act.put, List.setIfInBounds_toArray, List.set_cons_zero, List.set_cons_succ]
      refine wpG_seg [] [6] 1 (by kernel_rfl) (by intro c a d v w h; cases d <;> exact h) (by kernel_rfl) HX1.out ?_
      try simp only [maskRows]
      refine wpQuiet_nil ?_
      refine List.forall_mem_singleton.2 ?_
      refine segt_run rfl (by rfl) (fun K hK => ?_)
      go_simp
      refine (HC.out _ _ _ _).mono ?_
      rintro e w5 ⟨rfl, hb⟩
      dsimp only
      replace HX1 := Lib.hid ((hb.block _ (Array.getElem?_eq_some_iff.1 HX1.out).1).trans HX1.out)
      replace HB0 := Lib.hid (HB0.out.trans (hb.mono HB0.out.size))
      replace HRES := Lib.hid ((hb.block _ (Array.getElem?_eq_some_iff.1 HRES.out).1).trans HRES.out)
      replace HSZ := Lib.hid (Nat.le_trans HSZ.out hb.size)
      replace HO := Lib.hid (own_below HO.out hb)
      clear hb
      obtain ⟨c0, c1, f0, f1⟩ := row2_of HRES.out
      have hlt := (Array.getElem?_eq_some_iff.1 HRES.out).1
      have HF := Lib.hid (And.intro (cd_res HRES.out (.slice (some ⟨b3, 0, none⟩) 1 1) y) (And.intro (own_base (own_set2 HO.out (by omega : w.heap.size + 1 < w.heap.size + 2) (.slice (some ⟨b3, 0, none⟩) 1 1) (.string y)) (by omega : w.heap.size ≤ w.heap.size + 2)) (below2 HB0.out (by omega : w.heap.size ≤ w.heap.size + 1) (.slice (some ⟨b3, 0, none⟩) 1 1) (.string y))))
      have HX2 := Lib.hid (row_set2 HX1.out (by omega : w.heap.size ≠ w.heap.size + 1) (.slice (some ⟨b3, 0, none⟩) 1 1) (.string y))
      refine hK _ _ ⟨_, fun _ h => h, HX1.out, ?_⟩
      clear hK K
      try simp only [Act.put, List.setIfInBounds_toArray, List.set_cons_zero, List.set_cons_succ]
      refine wpG_seg [] [7] 0 (by kernel_rfl) (by intro c a d v w h; cases d <;> exact h) (by kernel_rfl) HX1.out ?_
      try simp only [maskRows]
      refine wpQuiet_nil ?_
      refine List.forall_mem_singleton.2 ?_
      refine segt_run rfl (by rfl) (fun K hK => ?_)
      go_simp
      replace HX1 := HX2
      clear HX2 HRES HO HB0 c0 c1 f0 f1 hlt
      refine hK _ _ ⟨_, fun _ h => h, HX1.out, ?_⟩
      clear hK K
      try simp only [Act.put, List.setIfInBounds_toArray, List.set_cons_zero, List.set_cons_succ]
      refine wpG_end [] (by kernel_rfl) (by intro c a d v w h; cases d <;> exact h) (by kernel_rfl) HX1.out ?_
      try simp only [maskRows]
      refine wpQuiet_nil ?_
      go_wp2_with fail
      refine bodyPost_ret (v := .agg #[.slice (some ⟨b3, 0, none⟩) 1 1, .string y]) ?_ rfl ⟨_, by rw [HS.out]; rfl, by rw [HS.out]; exact HF.out.2.1, HF.out.2.2⟩
      rw [results_cell (p := 2) (ty := 27) (by kernel_rfl)]
      have l2 := HF.out.1
      simp [asAddr, Result.andThen, l2]
end Go.Proofs.Ytbbjpjkclealfaa
namespace Go.Proofs.Ytbbjpjkclealfaa
open Go.ChangeShapes Go.WideShapes Go.ChangeAt Go.RowKit
set_option linter.unusedVariables false

theorem leB_getN : ∀ r : List UInt8, leB r.length (getN r.reverse) = r
  | [] => rfl
  | c :: r => by
    have hc := c.toNat_lt
    have ih := leB_getN r
    rw [List.reverse_cons, getN_snoc]
    show UInt8.ofNat ((getN r.reverse * 256 + c.toNat) % 256) :: leB r.length ((getN r.reverse * 256 + c.toNat) / 256) = c :: r
    rw [show (getN r.reverse * 256 + c.toNat) % 256 = c.toNat by omega, show (getN r.reverse * 256 + c.toNat) / 256 = getN r.reverse by omega, ih]
    simp
theorem beL_getN (l : List UInt8) : beL (getN l) l.length = l := by
  have h := leB_getN l.reverse
  rw [List.reverse_reverse, List.length_reverse] at h
  unfold beL
  rw [h, List.reverse_reverse]
theorem putV_getN (l : List UInt8) (h1 : 1 ≤ l.length) (h4 : l.length ≤ 4) : putV (getN l : Nat) (l.length : Nat) = ⟨l.toArray⟩ := by
  unfold putV
  rw [if_neg (by omega)]
  simp only [Int.toNat_natCast, beL_getN]
end Go.Proofs.Ytbbjpjkclealfaa
namespace Go.Proofs.Ytbbjpjkclealfaa
open Go.ChangeShapes Go.WideShapes Go.ChangeAt Go.RowKit Go.BigFrame
set_option linter.unusedVariables false

theorem rd_newD (w : World) (p q : Int) (y : ByteArray) : rdAt (w.alloc (.cells #[.int .i64 p, .int .i64 q, .string y] 43)) (.slice (some ⟨w.heap.size, 0, none⟩) 1 1) [((p, q), y)] := by
  refine ⟨_, 1, rfl, by simp, .inr ⟨w.heap.size, 0, rfl, by simp, fun i hi => ?_⟩⟩
  obtain rfl : i = 0 := by simp at hi; omega
  have h := heap_alloc_new w (.cells #[.int .i64 p, .int .i64 q, .string y] 43)
  exact ⟨by rw [cell_of_row _ _ _ _ _ _ h]; rfl, by rw [cell_of_row _ _ _ _ _ _ h]; rfl, by rw [cell_of_row _ _ _ _ _ _ h]; rfl⟩
end Go.Proofs.Ytbbjpjkclealfaa
namespace Go.Proofs.Ytbbjpjkclealfaa
open Go.ChangeShapes Go.WideShapes Go.ChangeAt Go.RowKit Go.BigFrame
set_option linter.unusedVariables false
set_option linter.unusedSimpArgs false

theorem rowB_load (b : W2) : rowB (hX b) 31 = numL b.1.2 := packN_eq _ _ _ (by have := numL_lt b.1.2 b.2.2; omega) fun i hi => by
  show _ = hasX b.1 (64 * 31 + i)
  unfold hasX
  rw [if_neg (by omega), show 64 * 31 + i - 1984 = i by omega]
theorem put_load4 (y : ByteArray) (h : y.size = 4) : putV ((numL y : Nat) : Int) 4 = y := by
  have hl : y.data.toList.length = 4 := by rw [Array.length_toList]; exact h
  have := putV_getN y.data.toList (by omega) (by omega)
  rw [hl] at this
  rw [show ((4 : Nat) : Int) = 4 from rfl] at this
  unfold numL
  rw [this]
theorem row_load_at {w w' : World} {g o : Nat} {f : Nat → Bool} (h : w.rangeAt g o (rowV f)) (hg : g < w.heap.size) (hb : Below w.heap.size w w') : (loadVar 79 ⟨g, o, none⟩).run Try.prog w' = .ok (.agg (rowA f)) w' :=
  run_loadVar_mid (P := Try.prog) w' g o 79 (rowV f) _ (fun j v hj => (hb.cell (p := ⟨g, o + j, none⟩) hg).trans (h j v hj)) Try.underlying79 rfl (by rw [rowV_len]; exact size_row)
theorem isingle_one (k : K2) (y : ByteArray) (hk : keyOkB k = true) (hy : y.size = 4) (w : World) :
    Calls Try.prog 20 #[rv (k, y)] w fun e w' => ∃ v', e = .returned (.agg #[v', .string y]) ∧ w'.ownsRow w.heap.size 41 2 v' [k].length (keyCells [k]) ∧ Below w.heap.size w w' := by
  have h : rdOkB (k, y) = true := by unfold rdOkB; rw [hk]; simpa using hy
  have hs : singM (k, y) = ([k], y) := by unfold singM; rw [if_pos h]
  have := isingle_any (k, y) w
  rw [hs] at this
  exact this
theorem keysOk_one {k : K2} (hk : keyOkB k = true) : keysOkR [k] = true := (keysR_iff _).2 ⟨fun x hx => by rw [List.mem_singleton.1 hx]; exact hk, List.pairwise_singleton ..⟩
/-- what rows told so far -/
structure SlI (w W : World) (R : List W2) (P : List Nat) (vt : Value) (i : Nat) : Prop where
  below : Below w.heap.size w W
  out : W.ownsRow w.heap.size 43 3 vt (toldR R P i).length (rdCells (toldR R P i))
attribute [local irreducible] rowA rowV rowB numL
set_option maxRecDepth 100000 in
set_option maxHeartbeats 4000000 in
theorem isolve_any (vl : Value) (L : List C2) (w : World) (h : cdAv w none vl L) (hl : L.length ≤ 1900000) (hks : ∀ x ∈ L, x.1.length ≤ 2000000) :
    Calls Try.prog 15 #[vl] w fun e w' => ∃ v', e = .returned v' ∧ w'.ownsRow w.heap.size 43 3 v' (solveC L).length (rdCells (solveC L)) ∧ Below w.heap.size w w' := by
  have H := Lib.hid (isolved_any vl L w h hl hks)
  go_enter Try.func15, Try.ntmps15
  go_wp2_with fail
  refine H.out.mono ?_
  rintro e w1 ⟨v, v3, R, P, rfl, hC⟩
  have HI := Lib.hid (iagree_any v3 P w1 hC.piv (by have := hC.few; omega))
  have hag := agree_eq hC.el
  have hge := agree_eq hC.el
  have hk := hC.el.keyOk
  have hfin := toldR_eq hC.el
  have hall := ofKeysN_all P
  have HC := Lib.hid hC
  obtain ⟨ap, cp, rfl, -, -⟩ := hC.piv
  obtain ⟨ar, cr, rfl, -, -⟩ := hC.rows
  have hfew := hC.few
  clear hC H hge
  go_wp2_with fail
  refine HI.out.mono ?_
  rintro e w2 ⟨rfl, rfl⟩
  clear HI
  by_cases ha : ofKeysN P = P.length
  · have ha' := hall.1 ha
    have HK := Lib.hid (hk ha')
    have HFIN := Lib.hid (show toldR R P P.length = solveC L by unfold solveC; rw [← hag, decide_eq_true ha, if_pos rfl]; exact hfin ha')
    rw [decide_eq_true ha]
    have HAL := Lib.hid ha'
    clear hall hag hk hfin ha ha'
    go_wp2_with fail
    go_loopw [5, 19] (fun vt k wr => ∃ (i : Nat), i ≤ P.length ∧ k = .int .i64 (i : Int) ∧ SlI w2 wr R P vt i) (fun _ k _ => P.length - (intOf k).toNat)
    case atStart => exact ⟨0, Nat.zero_le _, rfl, Below.refl _ _, World.ownsRow_nil _ _ _ _⟩
    case round =>
      obtain ⟨i, hi, rfl, hJ⟩ := hrel
      rename_i vt _ wr
      have HJ := Lib.hid hJ
      clear hJ
      have HSV := Lib.hid (HC.out.next HJ.out.below)
      by_cases hlt : i < P.length
      · have z0 : (0 : Int) ≤ (i : Int) := by omega
        have z1 : (i : Int) < (P.length : Int) := by omega
        obtain ⟨a', c', e1, -, hr⟩ := HSV.out.rows
        cases e1
        obtain ⟨gr, rfl, hgr, hrr⟩ := hr.resolve_left (by omega)
        obtain ⟨a', c', e1, -, hp⟩ := HSV.out.piv
        cases e1
        obtain ⟨gp, rfl, hgp, hpp⟩ := hp.resolve_left (by omega)
        have hc1 := hpp i hlt
        have hrk := hrr i hlt
        obtain ⟨hk1, hk2⟩ := HK.out i hlt
        have hty := toldR_yes (R := R) (P := P) (i := i)
        have htn := toldR_no (R := R) (P := P) (i := i)
        have hlen := toldR_len R P i
        have HTY := Lib.hid hty; have HTN := Lib.hid htn
        have HOUT := Lib.hid HJ.out.out
        have hc31 := hrk 31 _ (rowV_get (hX (R.getD i zW)) 31 (by omega))
        rw [rowB_load] at hc31
        have hL30 : ∀ w' : World, Below wr.heap.size wr w' → (loadVar 77 ⟨gr, i * 32 + 31, none⟩).run Try.prog w' = .ok (.int .u64 ((numL (R.getD i zW).1.2 : Nat) : Int)) w' := fun w' hb => load_u64 ((hb.cell (p := ⟨gr, i * 32 + 31, none⟩) hgr).trans hc31)
        have hko := key_ok hk1
        clear hr hp hrr hpp hty htn hk2
        generalize P.getD i 0 = q at *
        have KA := Lib.hid (fun wx => ikeyat_any q (by omega) wx)
        generalize keyP q = k at *
        generalize R.getD i zW = b at *
        have hy4 := b.2.2
        have hnl := numL_lt b.1.2 hy4
        have PN := Lib.hid (fun wx => iput_any ((numL b.1.2 : Nat) : Int) 4 wx (by omega))
        rw [put_load4 b.1.2 hy4] at PN
        have hwr : IntKind.i64.wrap ((numL b.1.2 : Nat) : Int) = ((numL b.1.2 : Nat) : Int) := IntWalk.i64_in _ (by omega)
        have IS := Lib.hid (fun wx => isingle_one k b.1.2 hko hy4 wx)
        have hwk : wOk ([k], b.1.2) := ⟨keysOk_one hko, hy4⟩
        have IR := Lib.hid (fun vx wx (hx : keysAt wx vx [k]) => irow_any vx [k] b.1.2 wx hx (keysOk_one hko) hy4)
        have AE := fun wx => row_eql b ⟨([k], b.1.2), hwk⟩ wx
        have hrowd : ∀ w' : World, Below wr.heap.size wr w' → (loadVar 79 ⟨gr, i * 32, none⟩).run Try.prog w' = .ok (.agg (rowA (hX b))) w' := fun w' hb => row_load_at hrk hgr hb
        have AG := fun op x z bb wx => row_guard op x z (rowA (hX b)) bb wx
        have hbe : (b = (⟨([k], b.1.2), hwk⟩ : W2)) ↔ b.1.1 = [k] := ⟨fun e => by rw [e], fun e => Subtype.ext (Prod.ext e rfl)⟩
        have HBE := Lib.hid hbe
        rw [show hasX ([k], b.1.2) = hX ⟨([k], b.1.2), hwk⟩ from rfl] at IR
        clear hbe
        generalize (⟨([k], b.1.2), hwk⟩ : W2) = b2 at *
        obtain ⟨kp, kq⟩ := k
        have KA := Lib.hid (fun wx => (show Calls Try.prog 57 #[.int .i64 (q : Int)] wx fun e w' => e = .returned (.agg #[.int .i64 kp, .int .i64 kq]) ∧ Below wx.heap.size wx w' from KA.out wx))
        have IS := Lib.hid (fun wx => (show Calls Try.prog 20 #[.agg #[.int .i64 kp, .int .i64 kq, .string b.1.2]] wx fun e w' => ∃ v', e = .returned (.agg #[v', .string b.1.2]) ∧ w'.ownsRow wx.heap.size 41 2 v' [(kp, kq)].length (keyCells [(kp, kq)]) ∧ Below wx.heap.size wx w' from IS.out wx))
        generalize hyy : b.1.2 = y at *
        go_wp2_with fail
        go_cut [8] (fun p wx => ∃ b8 : Nat, p = .pointer (some ⟨b8, 0, none⟩) ∧ wx.heap[b8]? = some (.cells #[.int .i64 kp, .int .i64 kq, .string y] 43 (0, 0)) ∧ Below wr.heap.size wr wx)
        case first =>
          have HB := Lib.hid (Below.refl wr.heap.size wr)
          refine wp_region_G (fun w' => Below wr.heap.size wr w') (by kernel_rfl) ?_
          replace HB := Lib.hid (HB.out.drew)
          generalize (wr).drew = wD at *
          refine wpG_seg [true, false, true, true, true, true, true, true] [1, 10] 4 (by kernel_rfl) (by intro c a d v w h; cases d <;> exact h) (by kernel_rfl) HB.out ?_
          try simp only [maskRows]
          repeat (first
            | go_big_quiet_skip
            | (go_big_quiet_want
               first
                 | (go_big_quiet_op; go_big_quiet_on)
                 | (refine q_load 77 _ _ _ rfl rfl hL30 ?_; simp only [Act.put, List.setIfInBounds_toArray, List.set_cons_zero, List.set_cons_succ]; go_big_quiet_on)
                 | (go_big_quiet_op; refine ⟨_, fun _ _ => rfl, ?_⟩; go_big_quiet_on)
                 | (go_big_quiet_op; refine ⟨_, fun _ _ _ => rfl, ?_⟩; go_big_quiet_on)))
          refine wpQuiet_nil ?_
          refine List.forall_mem_cons.2 ⟨?_, List.forall_mem_singleton.2 ?_⟩
          · refine segt_run rfl (by rfl) (fun K hK => ?_)
            go_simp
            refine (KA.out _).mono ?_
            rintro e w3 ⟨rfl, hb⟩
            dsimp only
            replace HB := Lib.hid (HB.out.trans (hb.mono HB.out.size))
            clear hb
            refine hK _ _ ⟨_, fun _ h => h, HB.out, ?_⟩
            clear hK K
            try simp only [Act.put, List.setIfInBounds_toArray, List.set_cons_zero, List.set_cons_succ]
            refine wpG_seg [] [8, 10] 3 (by kernel_rfl) (by intro c a d v w h; cases d <;> exact h) (by kernel_rfl) HB.out ?_
            try simp only [maskRows]
            refine wpQuiet_nil ?_
            refine List.forall_mem_cons.2 ⟨?_, List.forall_mem_singleton.2 ?_⟩
            · refine segt_run rfl (by rfl) (fun K hK => ?_)
              go_simp
              refine (PN.out _).mono ?_
              rintro e w4 ⟨rfl, hb⟩
              dsimp only
              replace HB := Lib.hid (HB.out.trans (hb.mono HB.out.size))
              clear hb
              refine hK _ _ ⟨_, fun _ h => h, HB.out, ?_⟩
              clear hK K
              try simp only [Act.put, List.setIfInBounds_toArray, List.set_cons_zero, List.set_cons_succ]
              refine wpG_seg [] [9, 10] 2 (by kernel_rfl) (by intro c a d v w h; cases d <;> exact h) (by kernel_rfl) HB.out ?_
              try simp only [maskRows]
              refine wpQuiet_nil ?_
              refine List.forall_mem_cons.2 ⟨?_, List.forall_mem_singleton.2 ?_⟩
              · refine segt_run rfl (by rfl) (fun K hK => ?_)
                go_simp
                refine hK _ _ ⟨_, fun _ h => h, HB.out, ?_⟩
                clear hK K
                try simp only [Act.put, List.setIfInBounds_toArray, List.set_cons_zero, List.set_cons_succ]
                refine wpG_seg [] [10] 1 (by kernel_rfl) (by intro c a d v w h; cases d <;> exact h) (by kernel_rfl) HB.out ?_
                try simp only [maskRows]
                refine wpQuiet_nil ?_
                refine List.forall_mem_singleton.2 ?_
                refine segt_run rfl (by rfl) (fun K hK => ?_)
                go_simp
                have HXn := Lib.hid (heap_alloc_new (w4) (.cells #[.int .i64 0, .int .i64 0, .string ⟨#[]⟩] 43))
                have HG := Lib.hid (show wr.heap.size ≤ (w4).heap.size from HB.out.size)
                replace HB := Lib.hid (HB.out.alloc HB.out.size (.cells #[.int .i64 0, .int .i64 0, .string ⟨#[]⟩] 43))
                have HX := HXn
                clear HXn
                generalize World.alloc (w4) (.cells #[.int .i64 0, .int .i64 0, .string ⟨#[]⟩] 43) = w6 at *
                generalize (w4).heap.size = b8 at *
                refine hK _ _ ⟨_, fun _ h => h, HB.out, ?_⟩
                clear hK K
                try simp only [Act.put, List.setIfInBounds_toArray, List.set_cons_zero, List.set_cons_succ]
                refine wpG_seg [] [11] 0 (by kernel_rfl) (by intro c a d v w h; cases d <;> exact h) (by kernel_rfl) HB.out ?_
                try simp only [maskRows]
                refine wpQuiet_nil ?_
                refine List.forall_mem_singleton.2 ?_
                obtain ⟨c0, c1, c2, f0, f1, f2⟩ := row3_of HX.out
                have hlt8 := (Array.getElem?_eq_some_iff.1 HX.out).1
                refine segt_run rfl (by rfl) (fun K hK => ?_)
                go_simp
                replace HX := Lib.hid (set3 (.int .i64 kp) (.int .i64 kq) (.string y) HX.out)
                replace HB := Lib.hid (HB.out.grown (grown3 w6 b8 (.int .i64 kp) (.int .i64 kq) (.string y)) HB.out.size (fun j e => by cases e; exact HG.out))
                clear c0 c1 c2 f0 f1 f2 hlt8
                generalize (World.setCell (World.setCell (World.setCell w6 ⟨b8, 0, none⟩ (.int .i64 kp)) ⟨b8, 1, none⟩ (.int .i64 kq)) ⟨b8, 2, none⟩ (.string y)) = w99 at *
                refine hK _ _ ⟨_, fun _ h => h, HB.out, ?_⟩
                clear hK K
                try simp only [Act.put, List.setIfInBounds_toArray, List.set_cons_zero, List.set_cons_succ]
                refine wpG_end [] (by kernel_rfl) (by intro c a d v w h; cases d <;> exact h) (by kernel_rfl) HB.out ?_
                try simp only [maskRows]
                refine wpQuiet_nil ?_
                go_wp2_with fail
                go_meet
                exact ⟨b8, rfl, HX.out, HB.out⟩
              · refine segt_run rfl (by rfl) (fun K hK => ?_)
                go_simp
                have HXn := Lib.hid (heap_alloc_new (w4) (.cells #[.int .i64 0, .int .i64 0, .string ⟨#[]⟩] 43))
                have HG := Lib.hid (show wr.heap.size ≤ (w4).heap.size from HB.out.size)
                replace HB := Lib.hid (HB.out.alloc HB.out.size (.cells #[.int .i64 0, .int .i64 0, .string ⟨#[]⟩] 43))
                have HX := HXn
                clear HXn
                generalize World.alloc (w4) (.cells #[.int .i64 0, .int .i64 0, .string ⟨#[]⟩] 43) = w5 at *
                generalize (w4).heap.size = b8 at *
                refine hK _ _ ⟨_, fun _ h => h, HB.out, ?_⟩
                clear hK K
                try simp only [Act.put, List.setIfInBounds_toArray, List.set_cons_zero, List.set_cons_succ]
                refine wpG_seg [] [9] 1 (by kernel_rfl) (by intro c a d v w h; cases d <;> exact h) (by kernel_rfl) HB.out ?_
                try simp only [maskRows]
                refine wpQuiet_nil ?_
                refine List.forall_mem_singleton.2 ?_
                refine segt_run rfl (by rfl) (fun K hK => ?_)
                go_simp
                refine hK _ _ ⟨_, fun _ h => h, HB.out, ?_⟩
                clear hK K
                try simp only [Act.put, List.setIfInBounds_toArray, List.set_cons_zero, List.set_cons_succ]
                refine wpG_seg [] [11] 0 (by kernel_rfl) (by intro c a d v w h; cases d <;> exact h) (by kernel_rfl) HB.out ?_
                try simp only [maskRows]
                refine wpQuiet_nil ?_
                refine List.forall_mem_singleton.2 ?_
                obtain ⟨c0, c1, c2, f0, f1, f2⟩ := row3_of HX.out
                have hlt8 := (Array.getElem?_eq_some_iff.1 HX.out).1
                refine segt_run rfl (by rfl) (fun K hK => ?_)
                go_simp
                replace HX := Lib.hid (set3 (.int .i64 kp) (.int .i64 kq) (.string y) HX.out)
                replace HB := Lib.hid (HB.out.grown (grown3 w5 b8 (.int .i64 kp) (.int .i64 kq) (.string y)) HB.out.size (fun j e => by cases e; exact HG.out))
                clear c0 c1 c2 f0 f1 f2 hlt8
                generalize (World.setCell (World.setCell (World.setCell w5 ⟨b8, 0, none⟩ (.int .i64 kp)) ⟨b8, 1, none⟩ (.int .i64 kq)) ⟨b8, 2, none⟩ (.string y)) = w99 at *
                refine hK _ _ ⟨_, fun _ h => h, HB.out, ?_⟩
                clear hK K
                try simp only [Act.put, List.setIfInBounds_toArray, List.set_cons_zero, List.set_cons_succ]
                refine wpG_end [] (by kernel_rfl) (by intro c a d v w h; cases d <;> exact h) (by kernel_rfl) HB.out ?_
                try simp only [maskRows]
                refine wpQuiet_nil ?_
                go_wp2_with fail
                go_meet
                exact ⟨b8, rfl, HX.out, HB.out⟩
            · refine segt_run rfl (by rfl) (fun K hK => ?_)
              go_simp
              have HXn := Lib.hid (heap_alloc_new (w3) (.cells #[.int .i64 0, .int .i64 0, .string ⟨#[]⟩] 43))
              have HG := Lib.hid (show wr.heap.size ≤ (w3).heap.size from HB.out.size)
              replace HB := Lib.hid (HB.out.alloc HB.out.size (.cells #[.int .i64 0, .int .i64 0, .string ⟨#[]⟩] 43))
              have HX := HXn
              clear HXn
              generalize World.alloc (w3) (.cells #[.int .i64 0, .int .i64 0, .string ⟨#[]⟩] 43) = w4 at *
              generalize (w3).heap.size = b8 at *
              refine hK _ _ ⟨_, fun _ h => h, HB.out, ?_⟩
              clear hK K
              try simp only [Act.put, List.setIfInBounds_toArray, List.set_cons_zero, List.set_cons_succ]
              refine wpG_seg [] [8] 2 (by kernel_rfl) (by intro c a d v w h; cases d <;> exact h) (by kernel_rfl) HB.out ?_
              try simp only [maskRows]
              refine wpQuiet_nil ?_
              refine List.forall_mem_singleton.2 ?_
              refine segt_run rfl (by rfl) (fun K hK => ?_)
              go_simp
              refine (PN.out _).mono ?_
              rintro e w5 ⟨rfl, hb⟩
              dsimp only
              replace HB := Lib.hid (HB.out.trans (hb.mono HB.out.size))
              replace HX := Lib.hid ((hb.block _ (Array.getElem?_eq_some_iff.1 HX.out).1).trans HX.out)
              clear hb
              refine hK _ _ ⟨_, fun _ h => h, HB.out, ?_⟩
              clear hK K
              try simp only [Act.put, List.setIfInBounds_toArray, List.set_cons_zero, List.set_cons_succ]
              refine wpG_seg [] [9] 1 (by kernel_rfl) (by intro c a d v w h; cases d <;> exact h) (by kernel_rfl) HB.out ?_
              try simp only [maskRows]
              refine wpQuiet_nil ?_
              refine List.forall_mem_singleton.2 ?_
              refine segt_run rfl (by rfl) (fun K hK => ?_)
              go_simp
              refine hK _ _ ⟨_, fun _ h => h, HB.out, ?_⟩
              clear hK K
              try simp only [Act.put, List.setIfInBounds_toArray, List.set_cons_zero, List.set_cons_succ]
              refine wpG_seg [] [11] 0 (by kernel_rfl) (by intro c a d v w h; cases d <;> exact h) (by kernel_rfl) HB.out ?_
              try simp only [maskRows]
              refine wpQuiet_nil ?_
              refine List.forall_mem_singleton.2 ?_
              obtain ⟨c0, c1, c2, f0, f1, f2⟩ := row3_of HX.out
              have hlt8 := (Array.getElem?_eq_some_iff.1 HX.out).1
              refine segt_run rfl (by rfl) (fun K hK => ?_)
              go_simp
              replace HX := Lib.hid (set3 (.int .i64 kp) (.int .i64 kq) (.string y) HX.out)
              replace HB := Lib.hid (HB.out.grown (grown3 w5 b8 (.int .i64 kp) (.int .i64 kq) (.string y)) HB.out.size (fun j e => by cases e; exact HG.out))
              clear c0 c1 c2 f0 f1 f2 hlt8
              generalize (World.setCell (World.setCell (World.setCell w5 ⟨b8, 0, none⟩ (.int .i64 kp)) ⟨b8, 1, none⟩ (.int .i64 kq)) ⟨b8, 2, none⟩ (.string y)) = w99 at *
              refine hK _ _ ⟨_, fun _ h => h, HB.out, ?_⟩
              clear hK K
              try simp only [Act.put, List.setIfInBounds_toArray, List.set_cons_zero, List.set_cons_succ]
              refine wpG_end [] (by kernel_rfl) (by intro c a d v w h; cases d <;> exact h) (by kernel_rfl) HB.out ?_
              try simp only [maskRows]
              refine wpQuiet_nil ?_
              go_wp2_with fail
              go_meet
              exact ⟨b8, rfl, HX.out, HB.out⟩
          · refine segt_run rfl (by rfl) (fun K hK => ?_)
            go_simp
            have HXn := Lib.hid (heap_alloc_new (wD) (.cells #[.int .i64 0, .int .i64 0, .string ⟨#[]⟩] 43))
            have HG := Lib.hid (show wr.heap.size ≤ (wD).heap.size from HB.out.size)
            replace HB := Lib.hid (HB.out.alloc HB.out.size (.cells #[.int .i64 0, .int .i64 0, .string ⟨#[]⟩] 43))
            have HX := HXn
            clear HXn
            generalize World.alloc (wD) (.cells #[.int .i64 0, .int .i64 0, .string ⟨#[]⟩] 43) = w3 at *
            generalize (wD).heap.size = b8 at *
            refine hK _ _ ⟨_, fun _ h => h, HB.out, ?_⟩
            clear hK K
            try simp only [Act.put, List.setIfInBounds_toArray, List.set_cons_zero, List.set_cons_succ]
            refine wpG_seg [] [1] 3 (by kernel_rfl) (by intro c a d v w h; cases d <;> exact h) (by kernel_rfl) HB.out ?_
            try simp only [maskRows]
            refine wpQuiet_nil ?_
            refine List.forall_mem_singleton.2 ?_
            refine segt_run rfl (by rfl) (fun K hK => ?_)
            go_simp
            refine (KA.out _).mono ?_
            rintro e w4 ⟨rfl, hb⟩
            dsimp only
            replace HB := Lib.hid (HB.out.trans (hb.mono HB.out.size))
            replace HX := Lib.hid ((hb.block _ (Array.getElem?_eq_some_iff.1 HX.out).1).trans HX.out)
            clear hb
            refine hK _ _ ⟨_, fun _ h => h, HB.out, ?_⟩
            clear hK K
            try simp only [Act.put, List.setIfInBounds_toArray, List.set_cons_zero, List.set_cons_succ]
            refine wpG_seg [] [8] 2 (by kernel_rfl) (by intro c a d v w h; cases d <;> exact h) (by kernel_rfl) HB.out ?_
            try simp only [maskRows]
            refine wpQuiet_nil ?_
            refine List.forall_mem_singleton.2 ?_
            refine segt_run rfl (by rfl) (fun K hK => ?_)
            go_simp
            refine (PN.out _).mono ?_
            rintro e w5 ⟨rfl, hb⟩
            dsimp only
            replace HB := Lib.hid (HB.out.trans (hb.mono HB.out.size))
            replace HX := Lib.hid ((hb.block _ (Array.getElem?_eq_some_iff.1 HX.out).1).trans HX.out)
            clear hb
            refine hK _ _ ⟨_, fun _ h => h, HB.out, ?_⟩
            clear hK K
            try simp only [Act.put, List.setIfInBounds_toArray, List.set_cons_zero, List.set_cons_succ]
            refine wpG_seg [] [9] 1 (by kernel_rfl) (by intro c a d v w h; cases d <;> exact h) (by kernel_rfl) HB.out ?_
            try simp only [maskRows]
            refine wpQuiet_nil ?_
            refine List.forall_mem_singleton.2 ?_
            refine segt_run rfl (by rfl) (fun K hK => ?_)
            go_simp
            refine hK _ _ ⟨_, fun _ h => h, HB.out, ?_⟩
            clear hK K
            try simp only [Act.put, List.setIfInBounds_toArray, List.set_cons_zero, List.set_cons_succ]
            refine wpG_seg [] [11] 0 (by kernel_rfl) (by intro c a d v w h; cases d <;> exact h) (by kernel_rfl) HB.out ?_
            try simp only [maskRows]
            refine wpQuiet_nil ?_
            refine List.forall_mem_singleton.2 ?_
            obtain ⟨c0, c1, c2, f0, f1, f2⟩ := row3_of HX.out
            have hlt8 := (Array.getElem?_eq_some_iff.1 HX.out).1
            refine segt_run rfl (by rfl) (fun K hK => ?_)
            go_simp
            replace HX := Lib.hid (set3 (.int .i64 kp) (.int .i64 kq) (.string y) HX.out)
            replace HB := Lib.hid (HB.out.grown (grown3 w5 b8 (.int .i64 kp) (.int .i64 kq) (.string y)) HB.out.size (fun j e => by cases e; exact HG.out))
            clear c0 c1 c2 f0 f1 f2 hlt8
            generalize (World.setCell (World.setCell (World.setCell w5 ⟨b8, 0, none⟩ (.int .i64 kp)) ⟨b8, 1, none⟩ (.int .i64 kq)) ⟨b8, 2, none⟩ (.string y)) = w99 at *
            refine hK _ _ ⟨_, fun _ h => h, HB.out, ?_⟩
            clear hK K
            try simp only [Act.put, List.setIfInBounds_toArray, List.set_cons_zero, List.set_cons_succ]
            refine wpG_end [] (by kernel_rfl) (by intro c a d v w h; cases d <;> exact h) (by kernel_rfl) HB.out ?_
            try simp only [maskRows]
            refine wpQuiet_nil ?_
            go_wp2_with fail
            go_meet
            exact ⟨b8, rfl, HX.out, HB.out⟩
        case rest =>
          obtain ⟨b8, rfl, hx8, hb8⟩ := hcut
          have HX8 := Lib.hid hx8
          have HB8 := Lib.hid hb8
          have hg8 := (Array.getElem?_eq_some_iff.1 hx8).1
          clear hx8 hb8 hL30 KA PN hc31 hc1
          go_upto_region 9 with (fail)
          rename_i K9 hK9
          have LB : ∀ w' : World, (Below wr.heap.size wr w' ∧ w'.heap[b8]? = some (.cells #[.int .i64 kp, .int .i64 kq, .string y] 43 (0, 0))) → (loadVar 43 ⟨b8, 0, none⟩).run Try.prog w' = .ok (.agg #[.int .i64 kp, .int .i64 kq, .string y]) w' := fun w' h => by
            obtain ⟨x0, x1, x2, -, -, -⟩ := row3_of h.2
            exact rd_load (r := ((kp, kq), y)) (o := 0) ⟨x0, x1, x2⟩ (Array.getElem?_eq_some_iff.1 h.2).1 (Below.refl _ _)
          have LR : ∀ w' : World, (Below wr.heap.size wr w' ∧ w'.heap[b8]? = some (.cells #[.int .i64 kp, .int .i64 kq, .string y] 43 (0, 0))) → (loadVar 79 ⟨gr, i * 32, none⟩).run Try.prog w' = .ok (.agg (rowA (hX b))) w' := fun w' h => hrowd w' h.1
          refine wp_region_G (fun w' => Below wr.heap.size wr w' ∧ w'.heap[b8]? = some (.cells #[.int .i64 kp, .int .i64 kq, .string y] 43 (0, 0))) (by kernel_rfl) ?_
          replace HB8 := Lib.hid (HB8.out.drew)
          replace HX8 := Lib.hid (show (World.drew _).heap[_]? = _ from HX8.out)
          generalize (wc).drew = wD at *
          refine wpG_seg [true, true, true, true, true] [5] 2 (by kernel_rfl) (by intro c a d v w h; cases d <;> exact h) (by kernel_rfl) ⟨HB8.out, HX8.out⟩ ?_
          try simp only [maskRows]
          repeat (first
            | go_big_quiet_skip
            | (go_big_quiet_want
               first
                 | (go_big_quiet_op; go_big_quiet_on)
                 | (refine q_load 43 _ _ _ rfl rfl LB ?_; simp only [Act.put, List.setIfInBounds_toArray, List.set_cons_zero, List.set_cons_succ]; go_big_quiet_on)
                 | (refine q_load 79 _ _ _ rfl rfl LR ?_; simp only [Act.put, List.setIfInBounds_toArray, List.set_cons_zero, List.set_cons_succ]; go_big_quiet_on)
                 | (refine q_bin _ 79 _ _ _ _ _ _ rfl rfl rfl (fun w => AG _ _ _ _ w) (fun w => AE w) ?_; simp only [Act.put, List.setIfInBounds_toArray, List.set_cons_zero, List.set_cons_succ]; go_big_quiet_on)
                 | (go_big_quiet_op; refine ⟨_, fun _ _ => rfl, ?_⟩; go_big_quiet_on)
                 | (go_big_quiet_op; refine ⟨_, fun _ _ _ => rfl, ?_⟩; go_big_quiet_on)))
          refine wpQuiet_nil ?_
          refine List.forall_mem_singleton.2 ?_
          refine segt_run rfl (by rfl) (fun K hK => ?_)
          go_simp
          refine (IS.out _).mono ?_
          rintro e w3 ⟨v9, rfl, ho9, hb⟩
          dsimp only
          replace HB8 := Lib.hid (HB8.out.trans (hb.mono HB8.out.size))
          replace HX8 := Lib.hid ((hb.block _ (Array.getElem?_eq_some_iff.1 HX8.out).1).trans HX8.out)
          obtain ⟨a9, n9, k9, rfl⟩ := own_shape ho9
          have HU9 := Lib.hid (keysAt_own ho9)
          clear ho9
          clear hb
          refine hK _ _ ⟨_, fun _ h => h, ⟨HB8.out, HX8.out⟩, ?_⟩
          clear hK K
          try simp only [Act.put, List.setIfInBounds_toArray, List.set_cons_zero, List.set_cons_succ]
          refine wpG_seg [] [6] 1 (by kernel_rfl) (by intro c a d v w h; cases d <;> exact h) (by kernel_rfl) ⟨HB8.out, HX8.out⟩ ?_
          try simp only [maskRows]
          refine wpQuiet_nil ?_
          refine List.forall_mem_singleton.2 ?_
          refine segt_run rfl (by rfl) (fun K hK => ?_)
          go_simp
          refine (IR.out _ _ HU9.out).mono ?_
          rintro e w4 ⟨rfl, hb⟩
          dsimp only
          replace HB8 := Lib.hid (HB8.out.trans (hb.mono HB8.out.size))
          replace HX8 := Lib.hid ((hb.block _ (Array.getElem?_eq_some_iff.1 HX8.out).1).trans HX8.out)
          clear hb
          refine hK _ _ ⟨_, fun _ h => h, ⟨HB8.out, HX8.out⟩, ?_⟩
          clear hK K
          try simp only [Act.put, List.setIfInBounds_toArray, List.set_cons_zero, List.set_cons_succ]
          refine wpG_end [false, false, false, false, false, false, false, true] (by kernel_rfl) (by intro c a d v w h; cases d <;> exact h) (by kernel_rfl) ⟨HB8.out, HX8.out⟩ ?_
          try simp only [maskRows]
          repeat (first
            | go_big_quiet_skip
            | (go_big_quiet_want
               first
                 | (go_big_quiet_op; go_big_quiet_on)
                 | (refine q_load 43 _ _ _ rfl rfl LB ?_; simp only [Act.put, List.setIfInBounds_toArray, List.set_cons_zero, List.set_cons_succ]; go_big_quiet_on)
                 | (refine q_load 79 _ _ _ rfl rfl LR ?_; simp only [Act.put, List.setIfInBounds_toArray, List.set_cons_zero, List.set_cons_succ]; go_big_quiet_on)
                 | (refine q_bin _ 79 _ _ _ _ _ _ rfl rfl rfl (fun w => AG _ _ _ _ w) (fun w => AE w) ?_; simp only [Act.put, List.setIfInBounds_toArray, List.set_cons_zero, List.set_cons_succ]; go_big_quiet_on)
                 | (go_big_quiet_op; refine ⟨_, fun _ _ => rfl, ?_⟩; go_big_quiet_on)
                 | (go_big_quiet_op; refine ⟨_, fun _ _ _ => rfl, ?_⟩; go_big_quiet_on)))
          refine wpQuiet_nil ?_
          by_cases hb1 : b.1.1 = [(kp, kq)]
          · have hd : decide (b = b2) = true := decide_eq_true (HBE.out.2 hb1)
            have HE := Lib.hid (HTY.out hb1)
            rw [hd]
            have HO9 := Lib.hid (own_below HOUT.out HB8.out)
            have HJB := Lib.hid (HJ.out.below.trans (HB8.out.mono HJ.out.below.size))
            obtain ⟨c0, c1, c2, f0, f1, f2⟩ := row3_of HX8.out
            have hl8 := (Array.getElem?_eq_some_iff.1 HX8.out).1
            clear HTN AE AG LB LR hrowd IS IR hd HU9
            have hsz9 : (w4.alloc (.cells #[.int .i64 kp, .int .i64 kq, .string y] 43)).heap.size = w4.heap.size + 1 := by simp
            have HSZ9 := Lib.hid hsz9
            have hjs := HJB.out.size
            have HAL9 := Lib.hid (HO9.out.alloc (.cells #[.int .i64 kp, .int .i64 kq, .string y] 43))
            have HBA9 := Lib.hid (HJB.out.alloc hjs (.cells #[.int .i64 kp, .int .i64 kq, .string y] 43))
            clear hsz9
            go_wp2_with (at_builtin; refine wpList_append_rd rfl (.tmp 42) (.tmp 44) rfl HAL9.out _ [((kp, kq), y)] (rd_newD w4 kp kq y) rfl rfl (by simp; omega) (by rw [HSZ9.out]; omega) ?_; intro v6 w6 hown6 hgr6)
            have hR : w6.ownsRow w2.heap.size 43 3 v6 (toldR R P (i + 1)).length (rdCells (toldR R P (i + 1))) := by
              rw [HE.out, rdCells_append, List.length_append]; exact hown6
            exact ⟨⟨i + 1, by omega, by go_num, HBA9.out.grown hgr6 HBA9.out.size (fun j e => (HAL9.out.lt j e).1), hR⟩, by simp [intOf]; omega⟩
          · have hd : decide (b = b2) = false := decide_eq_false fun e => hb1 (HBE.out.1 e)
            have HE := Lib.hid (HTN.out hb1)
            rw [hd]
            have HO9 := Lib.hid (own_below HOUT.out HB8.out)
            have HJB := Lib.hid (HJ.out.below.trans (HB8.out.mono HJ.out.below.size))
            clear HTY AE AG LB LR hrowd IS IR hd HU9
            go_wp2_with fail
            exact ⟨⟨i + 1, by omega, by go_num, HJB.out, by rw [HE.out]; exact HO9.out⟩, by simp [intOf]; omega⟩
      · obtain rfl : i = P.length := by omega
        have HO := Lib.hid HJ.out.out
        have HB := Lib.hid HJ.out.below
        have HF := Lib.hid HFIN.out
        have HW := Lib.hid HC.out.below
        clear HJ HSV HAL HK HFIN HC
        go_wp2_with fail
        go_ret
        refine ⟨_, rfl, ?_, HW.out.trans (HB.out.mono HW.out.size)⟩
        rw [← HF.out]
        exact own_base HO.out HW.out.size
  · rw [decide_eq_false ha]
    have HE := Lib.hid (show solveC L = [] by unfold solveC; rw [← hag, decide_eq_false ha]; rfl)
    have HB := Lib.hid HC.out.below
    clear hall hag hk hfin ha HC
    go_wp2_with fail
    go_ret
    refine ⟨_, rfl, ?_, HB.out⟩
    rw [HE.out]
    exact World.ownsRow_nil _ _ _ _
end Go.Proofs.Ytbbjpjkclealfaa
namespace Go.Proofs.Ytbbjpjkclealfaa
open Go.ChangeShapes Go.WideShapes Go.ChangeAt Go.RowKit Go.BigFrame
set_option linter.unusedVariables false

theorem rdAt_mk {w : World} {base : Nat} {v : Value} {n m : Nat} (h : w.ownsRow base 43 3 v n (rdCells (rdMarked n m))) : rdAt w v (rdMarked n m) := rdAt_own (by rw [rdMarked_len]; exact h)
set_option maxRecDepth 100000 in
set_option maxHeartbeats 4000000 in
theorem exsolve_walk (v : Value) (L : List C2) (w : World) (h : cdAv w none v L) (hL : L.length ≤ maxLen) (hx : ∀ x ∈ L, x.1.length ≤ maxLen ∧ x.2.size ≤ maxLen) :
    Calls Try.prog 5 #[v] w fun e w' => e = .returned (.bool true) ∧ Below w.heap.size w w' := by
  go_enter Try.func5, Try.ntmps5
  go_wp2_with fail
  refine (szcodes_any v L 1048576 w h hL hx ⟨by omega, by omega⟩).mono ?_
  rintro e w1 ⟨z, rfl, hz, hb1⟩
  by_cases hneg : z < 0
  · go_wp2
    go_ret
    exact ⟨rfl, hb1⟩
  · have hok := szL_ok (L := L) (l := 1048576) (by rw [← hz]; omega)
    have hsum := szL_sum (L := L) (l := 1048576) (by rw [← hz]; omega)
    have hpos := szK_pos L
    have hL2 : L.length ≤ 1900000 := by have := hok.1; omega
    have hx2 : ∀ x ∈ L, x.1.length ≤ 1900000 := fun x hxm => by have := (hok.2 x hxm).1; omega
    have hx3 : ∀ x ∈ L, x.1.length ≤ 2000000 := fun x hxm => by have := hx2 x hxm; omega
    have hx4 : ∀ x ∈ L, x.1.length ≤ 4000000 := fun x hxm => by have := hx2 x hxm; omega
    have h1 := cdAv_below h hb1
    have HX3 := Lib.hid hx3; have HX4 := Lib.hid hx4; have HX2 := Lib.hid hx2
    have SC := Lib.hid (fun w' v' (h' : cdAv w' none v' L) => ssolve_any v' L w' h' hL2 hx3)
    have IC := Lib.hid (fun w' v' (h' : cdAv w' none v' L) => isolve_any v' L w' h' hL2 hx3)
    have hML := solveC_len L
    generalize solveC L = M at *
    have EM := Lib.hid (fun w' va vb (ha : rdAt w' va M) (hb : rdAt w' vb M) => eqrds_self va vb M w' ha hb (by omega))
    clear hz hok hx2 hx3 hx4 hx
    go_wp2_with fail
    refine (tocodes_any v L w1 h1 hL2 HX2.out).mono ?_
    rintro e w2 ⟨g, us, rfl, hT2⟩
    have H2 := Lib.hid (cdAv_below h1 hT2.below)
    have HB2 := Lib.hid (hb1.trans (hT2.below.mono hb1.size))
    have HA2 := Lib.hid hT2.at
    clear hT2 hb1 h1
    go_wp2_with fail
    refine (SC.out _ _ HA2.out).mono ?_
    rintro e w3 ⟨v0, rfl, ho0, hb3⟩
    have H3 := Lib.hid (cdAv_below H2.out hb3)
    have HB3 := Lib.hid (HB2.out.trans (hb3.mono HB2.out.size))
    have HO0 := Lib.hid ho0
    clear hb3 H2 HB2 HA2 ho0
    go_wp2_with fail
    refine (tocodes_any v L w3 H3.out hL2 HX2.out).mono ?_
    rintro e w4 ⟨g4, us4, rfl, hT4⟩
    have H4 := Lib.hid (cdAv_below H3.out hT4.below)
    have HB4 := Lib.hid (HB3.out.trans (hT4.below.mono HB3.out.size))
    have HT4 := Lib.hid hT4
    have BK4 := Lib.hid (Below.refl w4.heap.size w4)
    have HO4 := Lib.hid (own_below HO0.out hT4.below)
    have h0lt : ∀ b, v0.ownBlock = some b → b < w3.heap.size := fun b e => (HO0.out.lt b e).2
    have H0L := Lib.hid h0lt
    have hs34 := hT4.below.size
    have HB3s := Lib.hid HB3.out.size
    clear hT4 H3 HB3 h0lt HO0
    go_wp2_with fail
    refine (IC.out _ _ HT4.out.at).mono ?_
    rintro e w5 ⟨vg, rfl, hog, hb5⟩
    have H5 := Lib.hid (cdAv_below H4.out hb5)
    have HT5 := HT4
    have BK5 := Lib.hid hb5
    have HB5 := Lib.hid (HB4.out.trans (hb5.mono HB4.out.size))
    have HO5 := Lib.hid (own_below HO4.out hb5)
    have HG5 := Lib.hid hog
    have hglt : ∀ b, vg.ownBlock = some b → w4.heap.size ≤ b := fun b e => (hog.lt b e).1
    have HGL := Lib.hid hglt
    have hs45 := hb5.size
    clear hog H4 HT4 HB4 HO4 hb5 hglt BK4
    go_wp2_with fail
    refine (EM.out _ _ _ (rdAt_own HG5.out) (rdAt_own HO5.out)).mono ?_
    rintro e w6 ⟨rfl, hb6⟩
    have H6 := Lib.hid (cdAv_below H5.out hb6)
    have HT6 := HT5
    have BK6 := Lib.hid (BK5.out.trans (hb6.mono BK5.out.size))
    have HB6 := Lib.hid (HB5.out.trans (hb6.mono HB5.out.size))
    have HO6 := Lib.hid (own_below HO5.out hb6)
    have HG6 := Lib.hid (own_below HG5.out hb6)
    clear H5 HT5 BK5 HB5 HO5 HG5 hb6
    go_wp2_with fail
    refine (tocodes_any v L w6 H6.out hL2 HX2.out).mono ?_
    rintro e w7 ⟨g7, us7, rfl, hT7⟩
    have H7 := Lib.hid (cdAv_below H6.out hT7.below)
    have HT7 := HT6
    have BK7 := Lib.hid (BK6.out.trans (hT7.below.mono BK6.out.size))
    have HB7 := Lib.hid (HB6.out.trans (hT7.below.mono HB6.out.size))
    have HO7 := Lib.hid (own_below HO6.out hT7.below)
    have HG7 := Lib.hid (own_below HG6.out hT7.below)
    have HC7 := Lib.hid hT7.at
    clear H6 HT6 BK6 HB6 HO6 HG6 hT7
    go_wp2_with fail
    refine (eqcodes_any _ _ L L w7 (HT7.out.next BK7.out).at HC7.out (by omega) (by omega) HX4.out HX4.out).mono ?_
    rintro e w8 ⟨rfl, hb8⟩
    have H8 := Lib.hid (cdAv_below H7.out hb8)
    have HT8 := HT7
    have BK8 := Lib.hid (BK7.out.trans (hb8.mono BK7.out.size))
    have HB8 := Lib.hid (HB7.out.trans (hb8.mono HB7.out.size))
    have HO8 := Lib.hid (own_below HO7.out hb8)
    have HG8 := Lib.hid (own_below HG7.out hb8)
    have hs38 := HT8.out.below.size
    have hs0 := HB3s.out
    clear H7 HT7 BK7 HB7 HO7 HG7 HC7 hb8
    have hdt : decide (L = L) = true := decide_eq_true rfl
    go_wp2_with fail
    refine (markcodes_any w3 w4 w8 g4 us4 L 1 HT8.out BK8.out (by omega) (by omega) HX4.out hL2).mono ?_
    rintro e w9 ⟨rfl, hk9⟩
    have HB9 := Lib.hid (hk9.below HB8.out hs0)
    have HO9 := Lib.hid (hk9.own HO8.out fun b e => .inl (H0L.out b e))
    have HG9 := Lib.hid (hk9.own HG8.out fun b e => .inr (HGL.out b e))
    have hs89 := hk9.size
    have hs48 := BK8.out.size
    have n3 : ¬ (1 + szK L : Int) < 0 := by omega
    clear hk9 HB8 HO8 HG8 H8 HT8 BK8
    generalize szK L = sk at *
    go_wp2_with fail
    refine (EM.out _ _ _ (rdAt_own HG9.out) (rdAt_own HO9.out)).mono ?_
    rintro e wA ⟨rfl, hbA⟩
    have HBA := Lib.hid (HB9.out.trans (hbA.mono HB9.out.size))
    have HOA := Lib.hid (own_below HO9.out hbA)
    have HGA := Lib.hid (own_below HG9.out hbA)
    have hs9A := hbA.size
    clear HB9 HO9 HG9 hbA
    go_wp2_with fail
    refine (markreadings_any _ _ _ _ 1 _ HGA.out (by omega) (by omega)).mono ?_
    rintro e wB ⟨rfl, hoB, hgB⟩
    have HBB := Lib.hid (HBA.out.grown hgB HBA.out.size (fun k e => by have := HGL.out k e; omega))
    have HOB := Lib.hid (HOA.out.kept hgB (by
      cases hv : v0.ownBlock with
      | none => exact .inl rfl
      | some b => exact .inr fun e => by have h1 := H0L.out b hv; have h2 := HGL.out b e.symm; omega))
    have HMB := Lib.hid hoB
    clear hoB hgB HBA HOA HGA
    have n4 : ¬ ((1 + 3 * M.length : Nat) : Int) < 0 := by omega
    go_wp2_with fail
    refine (heldreadings_any _ _ 1 _ (rdAt_mk HMB.out) (by omega)).mono ?_
    rintro e wC ⟨rfl, hbC⟩
    have HBC := Lib.hid (HBB.out.trans (hbC.mono HBB.out.size))
    have HOC := Lib.hid (own_below HOB.out hbC)
    have HMC := Lib.hid (own_below HMB.out hbC)
    have HC := Lib.hid (cdAv_below h HBC.out)
    clear HBB HOB HMB hbC
    go_wp2_with fail
    refine (tocodes_any v L wC HC.out hL2 HX2.out).mono ?_
    rintro e wD ⟨gD, usD, rfl, hTD⟩
    have HBD := Lib.hid (HBC.out.trans (hTD.below.mono HBC.out.size))
    have HOD := Lib.hid (own_below HOC.out hTD.below)
    have HMD := Lib.hid (own_below HMC.out hTD.below)
    have HAD := Lib.hid hTD.at
    clear HBC HOC HMC hTD HC
    go_wp2_with fail
    refine (IC.out _ _ HAD.out).mono ?_
    rintro e wE ⟨vh, rfl, hoE, hbE⟩
    have HBE := Lib.hid (HBD.out.trans (hbE.mono HBD.out.size))
    have HOE := Lib.hid (own_below HOD.out hbE)
    have HME := Lib.hid (own_below HMD.out hbE)
    have HHE := Lib.hid hoE
    clear HBD HOD HMD HAD hoE hbE
    go_wp2_with fail
    refine (EM.out _ _ _ (rdAt_own HHE.out) (rdAt_own HOE.out)).mono ?_
    rintro e wF ⟨rfl, hbF⟩
    have HBF := Lib.hid (HBE.out.trans (hbF.mono HBE.out.size))
    have HMF := Lib.hid (own_below HME.out hbF)
    clear HBE HOE HME HHE hbF
    go_wp2_with fail
    refine (heldreadings_any _ _ 1 _ (rdAt_mk HMF.out) (by omega)).mono ?_
    rintro e wG ⟨rfl, hbG⟩
    have HBG := Lib.hid (HBF.out.trans (hbG.mono HBF.out.size))
    clear HBF HMF hbG
    go_wp2
    go_ret
    exact ⟨rfl, HBG.out⟩
end Go.Proofs.Ytbbjpjkclealfaa
namespace Go.Proofs.Ytbbjpjkclealfaa
open Go.ChangeShapes Go.WideShapes Go.ChangeAt Go.RowKit Go.Deep
set_option linter.unusedVariables false

theorem keys_cells {H : Type} {enc : TypeId × Value → H} {W : World} {base : Nat} {sp : Nat → Bool} {held : Bool} {n : Nat} {cs : List Value} {y : DataW H × List MemPlace}
    (h : DataW.trod enc Try.prog W base sp held n 52 cs = some y) : ∃ (v : Value) (ks : List K2), cs = [v] ∧ keysAt W v ks ∧ ks.length ≤ maxLen := by
  rcases open_slice_pairs Try.underlying52 Try.underlying111 (by kernel_rfl) rfl rfl (by kernel_rfl) (by kernel_rfl) h with ⟨hcs, -⟩ | ⟨x, len, cap, m, n, V0, V1, D0, D1, P0, P1, hcs, -, hl, hm, hmm, -, hx⟩
  · exact ⟨_, [], hcs, ⟨none, 0, rfl, by simp, .inl rfl⟩, by simp⟩
  · have hmc : len ≤ m := by
      rw [hmm]
      split <;> omega
    have hev : ∀ i, i < len → ∃ k : K2, W.cell? (x.add (i * 2)) = some (.int .i64 k.1) ∧ W.cell? (x.add (i * 2 + 1)) = some (.int .i64 k.2) := by
      intro i hi
      obtain ⟨h0, h1, t0, t1⟩ := hx i (by omega)
      obtain ⟨z0, e0, -, -⟩ := DataW.trod_int Try.underlying3 t0
      obtain ⟨z1, e1, -, -⟩ := DataW.trod_int Try.underlying3 t1
      have e0 : V0 i = .int .i64 z0 := (List.cons.inj e0).1
      have e1 : V1 i = .int .i64 z1 := (List.cons.inj e1).1
      exact ⟨(z0, z1), by rw [h0, e0], by rw [h1, e1]⟩
    obtain ⟨f, hf2⟩ := choose_lt hev
    refine ⟨_, (List.range len).map f, hcs, ⟨some x, cap, by simp, by simpa using hl, ?_⟩, by simp; omega⟩
    simp only [List.length_map, List.length_range]
    rcases Nat.eq_zero_or_pos len with h0 | h0
    · exact .inl h0
    · obtain ⟨b, off, spot⟩ := x
      have hc := (hf2 0 h0).1
      have hs : spot = none := by simpa [Addr.add] using World.cell?_spot hc
      subst hs
      have hadd : ∀ j, (⟨b, off, none⟩ : Addr).add j = ⟨b, off + j, none⟩ := by
        intro j
        unfold Addr.add
        split
        · rename_i h; simp [h]
        · rfl
      refine .inr ⟨b, off, rfl, World.block_lt_of_cell? W ⟨b, off, none⟩ (by simpa [Addr.add] using hc), fun i hi => ?_⟩
      have e : ((List.range len).map f).getD i (0, 0) = f i := by simp [List.getD, hi]
      have := hf2 i hi
      rw [hadd, hadd] at this
      rw [e]
      exact this
set_option maxRecDepth 10000 in
theorem cd_cells_read {H : Type} {enc : TypeId × Value → H} {W : World} {base : Nat} {sp : Nat → Bool} {held : Bool} {n : Nat} {cs : List Value} {x : DataW H × List MemPlace} (hl : cs.length = 2)
    (h : DataW.trod enc Try.prog W base sp held n 101 cs = some x) : ∃ (v : Value) (ks : List K2) (y : ByteArray), cs = [v, .string y] ∧ keysAt W v ks ∧ ks.length ≤ maxLen ∧ y.size ≤ maxLen := by
  have c0 : Try.prog.cellsOf 52 = 1 := by kernel_rfl
  have c1 : Try.prog.cellsOf 9 = 1 := by kernel_rfl
  match cs, hl with
  | [a, b], _ =>
    obtain ⟨xs, k, hk, hxy, _, hxl, hf⟩ := DataW.trod_struct Try.underlying101 h
    match xs, hxl with
    | [y0, y1], _ =>
      have g0 := hf 0 _ rfl
      have g1 := hf 1 _ rfl
      simp [c0, c1] at g0 g1
      obtain ⟨v, ks, hv, hks, hkl⟩ := keys_cells g0
      obtain ⟨s, e2, -, hs⟩ := DataW.trod_string Try.underlying9 g1
      cases hv; cases e2
      exact ⟨_, ks, s, rfl, hks, hkl, hs⟩
set_option maxRecDepth 10000 in
theorem open_code {H : Type} {enc : TypeId × Value → H} {W : World} {r : Reach} {b0 : Nat} {v : Value} {d : DataW H} {p : List MemPlace} (hv : Value.okWide Try.prog W r b0 101 v) (h : DataW.Trod enc Try.prog W 0 (fun _ => true) true 101 v d p) :
    ∃ (a : Value) (ks : List K2) (y : ByteArray), v = .agg #[a, .string y] ∧ keysAt W a ks ∧ ks.length ≤ maxLen ∧ y.size ≤ maxLen := by
  obtain ⟨cs, rfl, hsz⟩ := okWide_struct Try.underlying101 hv
  have hC : Try.prog.cellsOf 101 = 2 := by kernel_rfl
  obtain ⟨fuel, hf⟩ := h
  obtain ⟨a, ks, y, hq, hk, hl, hy⟩ := cd_cells_read (by simpa [Value.cells] using hsz.trans hC) hf
  refine ⟨a, ks, y, ?_, hk, hl, hy⟩
  simp only [Value.cells] at hq
  rw [← Array.toArray_toList (xs := cs), hq]
end Go.Proofs.Ytbbjpjkclealfaa
namespace Go.Proofs.Ytbbjpjkclealfaa
open Go.ChangeShapes Go.WideShapes Go.ChangeAt Go.RowKit Go.Deep
set_option linter.unusedVariables false

set_option maxRecDepth 20000 in
theorem open_codes {H : Type} {enc : TypeId × Value → H} {W : World} {r : Reach} {b0 : Nat} {v : Value} {d : DataW H} {p : List MemPlace} (hv : Value.okWide Try.prog W r b0 44 v) (h : DataW.Trod enc Try.prog W 0 (fun _ => true) true 44 v d p) :
    ∃ L : List C2, cdAv W none v L ∧ L.length ≤ maxLen ∧ ∀ x ∈ L, x.1.length ≤ maxLen ∧ x.2.size ≤ maxLen := by
  have hC : Try.prog.cellsOf 101 = 2 := by kernel_rfl
  obtain ⟨a, len, cap, rfl⟩ := okWide_slice Try.underlying44 hv
  obtain ⟨fuel, hf⟩ := h
  rcases open_slice Try.underlying44 hf with ⟨hcs, -⟩ | ⟨x, l, c, m, n, D, Pl, hcs, -, hl, hm, hmm, -, hx⟩
  · simp [Value.cells] at hcs
    obtain ⟨rfl, rfl, rfl⟩ := hcs
    exact ⟨[], ⟨none, 0, rfl, by simp, .inl rfl⟩, by simp, fun x hx => by simp at hx⟩
  · simp [Value.cells] at hcs
    obtain ⟨rfl, rfl, rfl⟩ := hcs
    have hmc : len ≤ m := by rw [hmm]; simp; omega
    have hev : ∀ i, i < len → ∃ q : Value × C2, (W.cell? (x.add (i * 2)) = some q.1 ∧ W.cell? (x.add (i * 2 + 1)) = some (.string q.2.2) ∧ keysAt W q.1 q.2.1) ∧ q.2.1.length ≤ maxLen ∧ q.2.2.size ≤ maxLen := by
      intro i hi
      obtain ⟨cs', h1, h2⟩ := hx i (by omega)
      rw [hC] at h1
      obtain ⟨_, hlen, hcell⟩ := World.cells?_some h1
      obtain ⟨u, ks, y, rfl, hk, hl2, hs⟩ := cd_cells_read hlen h2
      have e0 := hcell 0 (by omega)
      have e1 := hcell 1 (by omega)
      rw [add_add] at e0 e1
      exact ⟨(u, (ks, y)), ⟨by simpa using e0, by simpa using e1, hk⟩, hl2, hs⟩
    obtain ⟨f, hf2⟩ := choose_lt hev
    have hfd : ∀ i, i < len → ((List.range len).map fun i => (f i).2).getD i blankC = (f i).2 := fun i hi => by simp [List.getD, hi]
    refine ⟨(List.range len).map fun i => (f i).2, ⟨some x, cap, by simp, by simpa using hl, ?_⟩, by simp; omega, fun y hy => ?_⟩
    · simp only [List.length_map, List.length_range]
      rcases Nat.eq_zero_or_pos len with h0 | h0
      · exact .inl h0
      · obtain ⟨b, off, spot⟩ := x
        have hc := (hf2 0 h0).1.1
        have hs : spot = none := by simpa [Addr.add] using World.cell?_spot hc
        subst hs
        have hadd : ∀ j, (⟨b, off, none⟩ : Addr).add j = ⟨b, off + j, none⟩ := by
          intro j
          unfold Addr.add
          split
          · rename_i h; simp [h]
          · rfl
        refine .inr ⟨b, off, rfl, World.block_lt_of_cell? W ⟨b, off, none⟩ (by simpa [Addr.add] using hc), fun i hi => ?_⟩
        have := (hf2 i hi).1
        rw [hadd, hadd] at this
        rw [hfd i hi]
        exact ⟨(f i).1, this.1, this.2.1, keysAv_of this.2.2 fun g _ e => by cases e⟩
    · obtain ⟨j, hj, rfl⟩ := List.mem_map.1 hy
      exact (hf2 j (List.mem_range.1 hj)).2
end Go.Proofs.Ytbbjpjkclealfaa
