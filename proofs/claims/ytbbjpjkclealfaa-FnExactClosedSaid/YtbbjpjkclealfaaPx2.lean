/- What the laws lean on (own lemmas and walks of the called functions). -/
import Derived.Test.YtbbjpjkclealfaaPx1
set_option linter.unusedVariables false
set_option linter.unusedSimpArgs false
namespace Go.Proofs.Ytbbjpjkclealfaa
open Go.ChangeShapes Go.WideShapes Go.ChangeAt Go.RowKit Go.BigFrame Go.Maps
set_option linter.unusedVariables false
set_option linter.unusedSimpArgs false

theorem own_lenOf {w : World} {base n : Nat} {e : TypeId} {size : Nat} {v : Value} {xs : List Value} (h : w.ownsRow base e size v n xs) : lenOf v = n := by
  rcases h.2 with ⟨rfl, h0⟩ | ⟨g, cap, cur, rfl, -⟩
  · exact h0.symm
  · rfl
theorem QRow.lenOf {w : World} {base : Nat} {v : Value} {C : List K2} (h : QRow w base v C) : lenOf v = C.length := by
  obtain ⟨a, c, rfl⟩ := h.shape
  rfl
theorem cl_less {s L c o : Nat} (h : L + 1 ≤ 1980) (ho : o ≤ 2 * s) : (2 * s + 2) * (1980 - (L + 1)) + (c + o) < (2 * s + 2) * (1980 - L) + (c + 1) := by
  rw [show 1980 - L = (1980 - (L + 1)) + 1 by omega, Nat.mul_succ]
  omega
theorem cl_bound {s l k : Nat} (hs : s ≤ 1900000) (hl : l ≤ 1980) (hk : k ≤ 1900000) : k + 2 * s * l ≤ 8000000000 := by
  have := Nat.mul_le_mul (show 2 * s ≤ 3800000 by omega) hl
  omega
set_option maxRecDepth 100000 in
set_option maxHeartbeats 4000000 in
theorem iclosed_any (vs : Value) (S : List S2) (vk : Value) (K : List K2) (w : World) (hs : stAt w vs S) (hk : keysAt w vk K) (ha : ∀ a n c, vk = .slice a n c → a = none ∨ ∃ b off, a = some ⟨b, off, none⟩) (hS : S.length ≤ 1900000) (hK : K.length ≤ 1900000) :
    Calls Try.prog 33 #[vs, vk] w fun e w' => ∃ v' M, e = .returned v' ∧ IsCl S K M ∧ M.length ≤ 1980 ∧ w'.ownsRow w.heap.size 41 2 v' M.length (keyCells M) ∧ Below w.heap.size w w' := by
  have hmm := run_makeMap_in
  have HST := Lib.hid (fun wx (hb : Below w.heap.size w wx) => stAt_below hs hb)
  have HKB := Lib.hid (fun wx (hb : Below w.heap.size w wx) => keysAt_below hk hb)
  obtain ⟨ak, ck, rfl, -, -⟩ := hk
  obtain ⟨asv, csv, rfl, -, -⟩ := hs
  have hak := ha _ _ _ rfl
  have HAK := Lib.hid hak
  clear ha hak
  go_enter Try.func33, Try.ntmps33
  go_wp2_with fail
  refine (ikeysok_any _ K w (HKB.out _ (Below.refl _ _)) (by omega)).mono ?_
  rintro e w1 ⟨rfl, hb1⟩
  have HB1 := Lib.hid hb1
  clear hb1
  have HG0 := Lib.hid (show keysOkR K = false → clGood S K = false from fun e => by unfold clGood; rw [e]; rfl)
  cases hko : keysOkR K with
  | false =>
    have HBAD := Lib.hid (HG0.out hko)
    clear hko HG0
    go_wp2_with fail
    go_ret
    exact ⟨_, [], rfl, ⟨fun _ => rfl, fun h => by rw [HBAD.out] at h; cases h⟩, by simp, World.ownsRow_nil _ _ _ _, HB1.out⟩
  | true =>
    have HKO := Lib.hid hko
    clear hko HG0
    go_wp2_with fail
    refine (isetsok_any _ S w1 (HST.out _ HB1.out) (by omega)).mono ?_
    rintro e w2 ⟨rfl, hb2⟩
    have HB2 := Lib.hid (HB1.out.trans (hb2.mono HB1.out.size))
    clear hb2 HB1
    cases hso : S.all setOkB with
    | false =>
      have HBAD := Lib.hid (show clGood S K = false by unfold clGood; rw [hso, HKO.out]; rfl)
      clear hso
      go_wp2_with fail
      go_ret
      exact ⟨_, [], rfl, ⟨fun _ => rfl, fun h => by rw [HBAD.out] at h; cases h⟩, by simp, World.ownsRow_nil _ _ _ _, HB2.out⟩
    | true =>
      have HSO := Lib.hid hso
      clear hso
      go_wp2_with fail
      refine (iothersof_any _ S w2 (HST.out _ HB2.out) (by omega) HSO.out).mono ?_
      rintro e w3 ⟨no, hd, rfl, hG⟩
      have HG := Lib.hid hG
      have HB3 := Lib.hid (HB2.out.trans (hG.below.mono HB2.out.size))
      have hbo : w2.heap.size < w3.heap.size := by
        obtain ⟨D, -, hm, -⟩ := hG.map
        exact hm.lt
      clear hG HB2
      generalize w2.heap.size = bo at *
      go_wp2_with fail
      clear hmm
      have hba := (Below.refl w3.heap.size w3).alloc (Nat.le_refl _) (.map #[] 0)
      have HIN := Lib.hid (InI.start w3)
      have HBA := Lib.hid hba
      have hszA : (w3.alloc (.map #[] 0)).heap.size = w3.heap.size + 1 := by simp
      have HSA := Lib.hid hszA
      clear hba hszA
      generalize w3.alloc (.map #[] 0) = w4 at *
      refine (iclone_any _ _ K w4 (HKB.out _ (HB3.out.trans (HBA.out.mono HB3.out.size))) HAK.out (by omega)).mono ?_
      rintro e w5 ⟨vc, rfl, hown5, hb5⟩
      have hq5 := (QRow.of_own hown5).base_le (n := w3.heap.size) (by have := HSA.out; omega)
      have HR := Lib.hid (show ClR w3 w5 w3.heap.size S K [] K (.slice none 0 0) vc from
        ⟨HBA.out.trans (hb5.mono HBA.out.size), Nat.le_refl _, HIN.out.kept (grown_of_below' hb5 none) (by simp), World.ownsRow_nil _ _ _ _, hq5, (by intro e; cases e),
          (by intro e; have h8 := (hown5.lt _ e).1; have := HSA.out; omega), (by intro g e; cases e), ClI.start S K⟩)
      clear hown5 hb5 hq5 HIN HBA HSA
      obtain ⟨acc, ccc, rfl⟩ := HR.out.que.shape
      go_wp2_with fail
      have HAK2 := HAK
      clear HAK HAK2 HKB HST
      go_loopw [7, 8] (fun vl vc wr => ∃ (L C : List K2) (vl' vc' : Value) (wz : World), vl' = vl ∧ vc' = vc ∧ wz = wr ∧ ClR w3 wz w3.heap.size S K L C vl' vc') (fun vl vc _ => (2 * S.length + 2) * (1980 - lenOf vl) + lenOf vc)
      case atStart => exact ⟨[], K, _, _, _, rfl, rfl, rfl, HR.out⟩
      case round =>
        obtain ⟨L, C, vl, vcc, wz, hvl, hvc, hwz, hJ⟩ := hrel
        have HJ := Lib.hid hJ
        clear hJ HR
        cases C with
        | nil =>
          obtain ⟨aq, cq, rfl⟩ := HJ.out.que.shape
          subst hvl hvc hwz
          have HL := Lib.hid (HJ.out.pure.fewL HKO.out HSO.out)
          have HEND := Lib.hid (HJ.out.pure.end)
          go_wp2_with fail
          refine (isort_list _ vl L wz HJ.out.own HJ.out.pure.nodup (fun k hk => HJ.out.okK HKO.out HSO.out k (.inl hk))).mono ?_
          rintro e w6 ⟨rfl, M, hlen, hM, hmem, ho, hg⟩
          have HF := Lib.hid (show IsCl S K M from ⟨fun h => (by unfold clGood at h; rw [HKO.out, HSO.out] at h; cases h), fun _ => ⟨hM, fun k => (hmem k).trans (HEND.out k)⟩⟩)
          have HB6 := Lib.hid (HB3.out.trans ((HJ.out.below.grown hg HJ.out.below.size (fun j e => (HJ.out.own.lt j e).1)).mono HB3.out.size))
          have HO6 := Lib.hid (own_base ho HB3.out.size)
          have HL6 := Lib.hid (show M.length ≤ 1980 by have := HL.out; omega)
          clear hlen hM hmem ho hg HEND HJ HG HL
          go_wp2_with fail
          go_ret
          exact ⟨_, M, rfl, HF.out, HL6.out, HO6.out, HB6.out⟩
        | cons k C =>
          have hok := HJ.out.okK HKO.out HSO.out k (.inr (by simp))
          have hfew := HJ.out.pure.fewL HKO.out HSO.out
          obtain ⟨bq, oq, cq, rfl, hbq, c0, c1⟩ := HJ.out.que.head
          subst hvl hvc hwz
          have z0 : (0 : Int) < (C.length : Int) + 1 := by omega
          obtain ⟨p, q⟩ := k
          have hba := (Below.refl wz.heap.size wz).alloc (Nat.le_refl _) (.cells #[.int .i64 p, .int .i64 q] 41)
          have HX := Lib.hid (heap_alloc_new wz (.cells #[.int .i64 p, .int .i64 q] 41))
          have HJ1 := Lib.hid (HJ.out.next hba)
          have hszW : (wz.alloc (.cells #[.int .i64 p, .int .i64 q] 41)).heap.size = wz.heap.size + 1 := by simp
          have HSW := Lib.hid hszW
          have HBM := Lib.hid (show w3.heap.size < wz.heap.size from HJ.out.inn.lt)
          have HVL := Lib.hid (fun g (e : vl.ownBlock = some g) => (HJ.out.own.lt g e).2)
          have HQL := Lib.hid (fun g (e : (Value.slice (some ⟨bq, oq, none⟩) (C.length + 1) cq).ownBlock = some g) => (HJ.out.que.lt g e).2)
          have HOK := Lib.hid hok
          have HFEW := Lib.hid hfew
          clear hba hszW hok hfew
          dsimp only at *
          go_upto_region 10 with (fail)
          clear c0 c1
          generalize wz.alloc (.cells #[.int .i64 p, .int .i64 q] 41) = W at *
          obtain ⟨x0, x1, -, -⟩ := row2_of HX.out
          have hlook := HJ1.out.inn.look (p, q) HOK.out
          dsimp only at hlook
          by_cases hin : (p, q) ∈ L
          · rw [decide_eq_true hin] at hlook
            obtain ⟨v7, hsl, hJ7⟩ := HJ1.out.skip hin
            have HF := Lib.hid hJ7
            have HLE := Lib.hid (show (2 * S.length + 2) * (1980 - lenOf vl) + lenOf v7 < (2 * S.length + 2) * (1980 - lenOf vl) + (C.length + 1) from by rw [hJ7.que.lenOf]; omega)
            clear hJ7 hin
            go_wp2_with fail
            exact ⟨⟨L, C, _, _, _, rfl, rfl, rfl, HF.out⟩, HLE.out⟩
          · rw [decide_eq_false hin] at hlook
            obtain ⟨W2, hmu, hg2, hown2, hs2, hnx⟩ := HJ1.out.take hin HOK.out (by unfold maxLen; have := HFEW.out; omega)
            have hsW2 := hg2.size
            have HX2 := Lib.hid ((hg2.block _ (Array.getElem?_eq_some_iff.1 HX.out).1 (fun e => by have := Option.some.inj e; have := HBM.out; omega)).trans HX.out)
            have HNX := Lib.hid hnx
            have HO2 := Lib.hid hown2
            have HS2 := Lib.hid hs2
            have hlt2 := (Array.getElem?_eq_some_iff.1 HX2.out).1
            have HLT2 := Lib.hid hlt2
            have HNI := Lib.hid hin
            clear hnx hown2 hs2 hsW2 hlt2 hg2 hin
            go_upto_region 12 with (fail)
            clear x0 x1 hlook hmu
            obtain ⟨x0, x1, -, -⟩ := row2_of HX2.out
            have hba := (Below.refl W2.heap.size W2).alloc (Nat.le_refl _) (.cells #[.int .i64 p, .int .i64 q] 41)
            have HOA := Lib.hid (own_below HO2.out hba)
            have HU := Lib.hid (keysAt_own (own_one (w := W2) (base := W2.heap.size) p q (Nat.le_refl _)))
            have HXA := Lib.hid ((hba.block _ HLT2.out).trans HX2.out)
            have hsA : w3.heap.size ≤ (W2.alloc (.cells #[.int .i64 p, .int .i64 q] 41)).heap.size := Nat.le_trans HS2.out hba.size
            have HNA := Lib.hid (fun W4 vl' => HNX.out _ W4 vl' hba)
            have hLb : L.length + 1 ≤ 4000000 := by have := HFEW.out; omega
            have HSA := Lib.hid (Nat.lt_of_lt_of_le HLT2.out hba.size)
            clear hba
            go_upto_region 13 with (at_builtin; refine wpList_append_key rfl (.tmp 38) (.tmp 40) rfl HOA.out _ [(p, q)] HU.out rfl rfl hLb hsA ?_; intro v5 w5 hown5 hgr5 hloc5)
            obtain ⟨hb4, hq4, hs4, hnx4⟩ := HNA.out w5 v5 hown5 hgr5 hloc5
            have HX5 := Lib.hid ((hgr5.block _ HSA.out (fun e => by have h9 := HVL.out _ e.symm; omega)).trans HXA.out)
            have HN4 := Lib.hid hnx4
            have hG5 := HG.out.next hb4
            have hlk := hG5.look (p, q) HOK.out
            have HUO := Lib.hid (keysAt_own (hG5.own (p, q) HOK.out))
            have HQ4 := Lib.hid hq4
            have HFL := Lib.hid (others_len S (p, q))
            have HL5 := Lib.hid (own_lenOf hown5)
            have hqb : (C.length + 1) + (othersM S (p, q)).length ≤ 1000000000000 := by
              have h1 := HJ.out.pure.len
              have h2 := cl_bound hS HFEW.out hK
              have h3 := HFL.out
              rw [List.length_cons] at h1
              omega
            clear hown5 hgr5 hloc5 hb4 hq4 hnx4 HOA HU HXA HNA HNX HO2 HX2 x0 x1 hLb hsA HSA hG5
            obtain ⟨x0, x1, -, -⟩ := row2_of HX5.out
            dsimp only at hlk
            generalize hO : othersM S (p, q) = O at *
            generalize hd (p, q) = vh at *
            have hqb2 : ((p, q) :: C).length + O.length ≤ 1000000000000 := hqb
            clear hqb
            go_upto_region 8 with (at_builtin; refine wpList_append_q rfl (.tmp 42) (.tmp 45) rfl HQ4.out (by simp) _ O HUO.out rfl rfl hqb2 hs4 ?_; intro v6 w6 hq6 hg6 hloc6)
            obtain ⟨v7, hsl, hJ7⟩ := HN4.out w6 v6 hq6 hg6 hloc6
            have HF := Lib.hid hJ7
            have hl7 := hJ7.pure.fewL HKO.out HSO.out
            rw [List.length_append] at hl7
            have hle : (2 * S.length + 2) * (1980 - lenOf v5) + lenOf v7 < (2 * S.length + 2) * (1980 - lenOf vl) + (C.length + 1) := by
              rw [hJ7.que.lenOf, HL5.out, own_lenOf HJ.out.own, List.length_append]
              exact cl_less hl7 HFL.out
            have HLE := Lib.hid hle
            clear hJ7 hle hl7 hq6 hg6 hloc6 HN4 HQ4 HUO hs4 hqb2 hlk x0 x1 HX5
            go_wp2_with fail
            exact ⟨⟨L ++ [(p, q)], C ++ O, _, _, _, rfl, rfl, rfl, HF.out⟩, HLE.out⟩
end Go.Proofs.Ytbbjpjkclealfaa
namespace Go.Proofs.Ytbbjpjkclealfaa
open Go.ChangeShapes Go.WideShapes Go.ChangeAt Go.RowKit Go.BigFrame
set_option linter.unusedVariables false
set_option linter.unusedSimpArgs false

def stV (s : S2) : List Value := [.int .i64 s.1.1, .int .i64 s.1.2, .int .i64 s.2.1, .int .i64 s.2.2]
def stCells (S : List S2) : List Value := S.flatMap stV
theorem stCells_len (S : List S2) : (stCells S).length = S.length * 4 := by
  unfold stCells
  induction S with
  | nil => rfl
  | cons s S ih => rw [List.flatMap_cons, List.length_append, ih]; simp [stV]; omega
theorem stCells_snoc (S : List S2) (s : S2) : stCells (S ++ [s]) = stCells S ++ stV s := by simp [stCells]
theorem stCells_get : ∀ (S : List S2) (i j : Nat), i < S.length → j < 4 → (stCells S)[i * 4 + j]? = (stV (S.getD i s0))[j]?
  | [], i, j, hi, _ => by simp at hi
  | s :: S, 0, j, _, hj => by
    show (stV s ++ stCells S)[0 * 4 + j]? = _
    rw [List.getElem?_append_left (by simp [stV]; omega)]
    simp [List.getD]
  | s :: S, i + 1, j, hi, hj => by
    show (stV s ++ stCells S)[(i + 1) * 4 + j]? = _
    rw [List.getElem?_append_right (by simp [stV]; omega)]
    have e : (i + 1) * 4 + j - (stV s).length = i * 4 + j := by simp [stV]; omega
    rw [e, stCells_get S i j (by simpa using hi) hj]
    simp [List.getD]
theorem stAt_own {w : World} {base g cap : Nat} {S : List S2} (h : w.ownsRow base 107 4 (.slice (some ⟨g, 0, none⟩) S.length cap) S.length (stCells S)) : stAt w (.slice (some ⟨g, 0, none⟩) S.length cap) S := by
  have hlt := (h.lt g rfl).2
  have hcap : S.length ≤ cap := by
    rcases h.2 with ⟨e, -⟩ | ⟨g', c', cur, e, -, -, hc, -⟩
    · cases e
    · cases e; exact hc
  refine ⟨_, cap, rfl, hcap, .inr ⟨g, 0, rfl, hlt, fun i hi => ?_⟩⟩
  have hc : ∀ j, j < 4 → w.cell? ⟨g, 0 + i * 4 + j, none⟩ = (stV (S.getD i s0))[j]? := fun j hj => by
    rw [Nat.zero_add, h.cellAt (i * 4 + j) (by omega)]
    exact stCells_get S i j hi hj
  exact ⟨⟨hc 0 (by omega), hc 1 (by omega)⟩, hc 2 (by omega), hc 3 (by omega)⟩
def svA (s : S2) : Value := .agg #[.int .i64 s.1.1, .int .i64 s.1.2, .int .i64 s.2.1, .int .i64 s.2.2]
theorem st_load {w w' : World} {g o : Nat} {s : S2} (c : (w.cell? ⟨g, o, none⟩ = some (.int .i64 s.1.1) ∧ w.cell? ⟨g, o + 1, none⟩ = some (.int .i64 s.1.2)) ∧ (w.cell? ⟨g, o + 2, none⟩ = some (.int .i64 s.2.1) ∧ w.cell? ⟨g, o + 3, none⟩ = some (.int .i64 s.2.2)))
    (hg : g < w.heap.size) (hb : Below w.heap.size w w') (t : TypeId) (ht : t = 107 ∨ t = 112) : (loadVar t ⟨g, o, none⟩).run Try.prog w' = .ok (svA s) w' := by
  have hr : w'.rangeAt g o (stV s) := by
    intro j v hj
    obtain ⟨⟨c0, c1⟩, c2, c3⟩ := c
    match j, hj with
    | 0, hj => cases hj; exact (hb.cell (p := ⟨g, o, none⟩) hg).trans c0
    | 1, hj => cases hj; exact (hb.cell (p := ⟨g, o + 1, none⟩) hg).trans c1
    | 2, hj => cases hj; exact (hb.cell (p := ⟨g, o + 2, none⟩) hg).trans c2
    | 3, hj => cases hj; exact (hb.cell (p := ⟨g, o + 3, none⟩) hg).trans c3
    | _ + 4, hj => simp [stV] at hj
  rcases ht with rfl | rfl
  · exact run_loadVar_mid (P := Try.prog) w' g o 107 (stV s) _ hr Try.underlying107 rfl (by kernel_rfl)
  · exact run_loadVar_mid (P := Try.prog) w' g o 112 (stV s) _ hr Try.underlying112 rfl (by kernel_rfl)
theorem szsets_any (v : Value) (S : List S2) (left : Int) (w : World) (h : ∃ a cap, v = .slice a S.length cap) (hl : 0 ≤ left ∧ left ≤ 1000000000) (hs : S.length ≤ 9223372036854775807) :
    Calls Try.prog 28 #[v, .int .i64 left] w fun e w' => e = .returned (.int .i64 (if left - (S.length : Int) < 0 then -1 else left - (S.length : Int))) ∧ w' = w := by
  obtain ⟨a, cap, rfl⟩ := h
  by_cases hn : left - (S.length : Int) < 0
  · rw [if_pos hn]
    have ew : IntKind.i64.wrap (left - (S.length : Int)) = left - (S.length : Int) := IntWalk.i64_in _ (by omega)
    go_enter Try.func28, Try.ntmps28
    go_wp2
    go_ret
    exact ⟨rfl, rfl⟩
  · rw [if_neg hn]
    have ew : IntKind.i64.wrap (left - (S.length : Int)) = left - (S.length : Int) := IntWalk.i64_in _ (by omega)
    go_enter Try.func28, Try.ntmps28
    go_wp2
    go_ret
    exact ⟨rfl, rfl⟩
theorem marksets_any (v : Value) (S : List S2) (m : Int) (w : World) (h : ∃ a cap, v = .slice a S.length cap) (hs : S.length ≤ 2000000) :
    Calls Try.prog 36 #[v, .int .i64 m] w fun e w' => e = .returned (.int .i64 m) ∧ w' = w := by
  obtain ⟨a, cap, rfl⟩ := h
  go_enter Try.func36, Try.ntmps36
  go_wp2
  go_loopw [5] (fun i wr => ∃ (k : Nat) (wz : World), k ≤ S.length ∧ i = .int .i64 k ∧ wz = wr ∧ wz = w) (fun i _ => S.length - (intOf i).toNat)
  case atStart => exact ⟨0, _, Nat.zero_le _, rfl, rfl, rfl⟩
  case round =>
    obtain ⟨k, wz, hk, rfl, hwz, hww⟩ := hrel
    subst hwz
    subst hww
    by_cases hlt : k < S.length
    · have z0 : (0 : Int) ≤ (k : Int) := by omega
      have z1 : (k : Int) < (S.length : Int) := by omega
      go_wp2
      exact ⟨⟨k + 1, _, by omega, by go_num, rfl, rfl⟩, by simp [intOf]; omega⟩
    · obtain rfl : k = S.length := by omega
      go_wp2
      go_ret
      exact ⟨rfl, rfl⟩
/-- a set made anew, on its way -/
structure ToI (w W : World) (k : Nat) (s : S2) : Prop where
  below : Below w.heap.size w W
  box : W.heap[w.heap.size]? = some (.cells #[.int .i64 s.1.1, .int .i64 s.1.2, .int .i64 s.2.1, .int .i64 s.2.2] 112 (0, 0))
  res : W.heap[w.heap.size + 1]? = some (.cells #[.int .i64 0, .int .i64 0, .int .i64 0, .int .i64 0] 107 (0, 0))
  out : W.heap[w.heap.size + 2]? = some (.cells #[.int .i64 (if 0 < k then s.1.1 else 0), .int .i64 (if 0 < k then s.1.2 else 0), .int .i64 (if 1 < k then s.2.1 else 0), .int .i64 (if 1 < k then s.2.2 else 0)] 107 (0, 0))
theorem ToI.start (w : World) (s : S2) : ToI w (((w.alloc (.cells #[.int .i64 s.1.1, .int .i64 s.1.2, .int .i64 s.2.1, .int .i64 s.2.2] 112)).alloc (.cells #[.int .i64 0, .int .i64 0, .int .i64 0, .int .i64 0] 107)).alloc (.cells #[.int .i64 0, .int .i64 0, .int .i64 0, .int .i64 0] 107)) 0 s := by
  have e1 : (w.alloc (.cells #[.int .i64 s.1.1, .int .i64 s.1.2, .int .i64 s.2.1, .int .i64 s.2.2] 112)).heap.size = w.heap.size + 1 := by simp
  have e2 : ((w.alloc (.cells #[.int .i64 s.1.1, .int .i64 s.1.2, .int .i64 s.2.1, .int .i64 s.2.2] 112)).alloc (.cells #[.int .i64 0, .int .i64 0, .int .i64 0, .int .i64 0] 107)).heap.size = w.heap.size + 2 := by simp
  refine ⟨(((Below.refl _ _).alloc (Nat.le_refl _) _).alloc (by simp) _).alloc (by simp; omega) _, ?_, ?_, ?_⟩
  · exact (Below.heap_alloc _ _ _ (by rw [e2]; omega)).trans ((Below.heap_alloc _ _ _ (by rw [e1]; omega)).trans (heap_alloc_new w _))
  · have h := heap_alloc_new (w.alloc (.cells #[.int .i64 s.1.1, .int .i64 s.1.2, .int .i64 s.2.1, .int .i64 s.2.2] 112)) (.cells #[.int .i64 0, .int .i64 0, .int .i64 0, .int .i64 0] 107)
    rw [e1] at h
    exact (Below.heap_alloc _ _ _ (by rw [e2]; omega)).trans h
  · have h := heap_alloc_new ((w.alloc (.cells #[.int .i64 s.1.1, .int .i64 s.1.2, .int .i64 s.2.1, .int .i64 s.2.2] 112)).alloc (.cells #[.int .i64 0, .int .i64 0, .int .i64 0, .int .i64 0] 107)) (.cells #[.int .i64 0, .int .i64 0, .int .i64 0, .int .i64 0] 107)
    rw [e2] at h
    exact h
theorem ToI.next {w W W' : World} {k : Nat} {s : S2} (h : ToI w W k s) (hb : Below W.heap.size W W') : ToI w W' k s :=
  ⟨h.below.trans (hb.mono h.below.size), (hb.block _ (Array.getElem?_eq_some_iff.1 h.box).1).trans h.box, (hb.block _ (Array.getElem?_eq_some_iff.1 h.res).1).trans h.res, (hb.block _ (Array.getElem?_eq_some_iff.1 h.out).1).trans h.out⟩
theorem ToI.set {w W : World} {k : Nat} {s : S2} (h : ToI w W k s) (j : Nat) (x y : Int) (cs : Array Value) (k' : Nat)
    (hcs : ((#[.int .i64 (if 0 < k then s.1.1 else 0), .int .i64 (if 0 < k then s.1.2 else 0), .int .i64 (if 1 < k then s.2.1 else 0), .int .i64 (if 1 < k then s.2.2 else 0)] : Array Value).setIfInBounds j (.int .i64 x)).setIfInBounds (j + 1) (.int .i64 y) =
      #[.int .i64 (if 0 < k' then s.1.1 else 0), .int .i64 (if 0 < k' then s.1.2 else 0), .int .i64 (if 1 < k' then s.2.1 else 0), .int .i64 (if 1 < k' then s.2.2 else 0)]) :
    ToI w ((W.setCell ⟨w.heap.size + 2, j, none⟩ (.int .i64 x)).setCell ⟨w.heap.size + 2, j + 1, none⟩ (.int .i64 y)) k' s := by
  have hg : W.grownBy ((W.setCell ⟨w.heap.size + 2, j, none⟩ (.int .i64 x)).setCell ⟨w.heap.size + 2, j + 1, none⟩ (.int .i64 y)) (some (w.heap.size + 2)) := grownT (Lib.grownBy_setCell W _ j _) (Lib.grownBy_setCell _ _ (j + 1) _)
  refine ⟨h.below.grown hg h.below.size (fun b e => by cases e; omega), (hg.block _ (Array.getElem?_eq_some_iff.1 h.box).1 (fun e => by have := Option.some.inj e; omega)).trans h.box, (hg.block _ (Array.getElem?_eq_some_iff.1 h.res).1 (fun e => by have := Option.some.inj e; omega)).trans h.res, ?_⟩
  have := set_cellsD (j := j + 1) (.int .i64 y) (set_cellsD (j := j) (.int .i64 x) h.out)
  rw [hcs] at this
  exact this
set_option maxRecDepth 100000 in
set_option maxHeartbeats 1000000 in
theorem toset_any (s : S2) (w : World) : Calls Try.prog 72 #[svA s] w fun e w' => e = .returned (svA s) ∧ Below w.heap.size w w' := by
  have HI := Lib.hid (ToI.start w s)
  obtain ⟨⟨p, q⟩, p2, q2⟩ := s
  unfold svA
  dsimp only at HI ⊢
  go_enter Try.func72, Try.ntmps72
  go_wp2_with fail
  generalize ((w.alloc (.cells #[.int .i64 p, .int .i64 q, .int .i64 p2, .int .i64 q2] 112)).alloc (.cells #[.int .i64 0, .int .i64 0, .int .i64 0, .int .i64 0] 107)).alloc (.cells #[.int .i64 0, .int .i64 0, .int .i64 0, .int .i64 0] 107) = W at *
  go_loopw [4] (fun i wr => ∃ (k : Nat) (wz : World), k ≤ 2 ∧ i = .int .i64 k ∧ wz = wr ∧ ToI w wz k ((p, q), p2, q2)) (fun i _ => 2 - (intOf i).toNat)
  case atStart => exact ⟨0, _, by omega, rfl, rfl, HI.out⟩
  case round =>
    obtain ⟨k, wz, hk, rfl, hwz, hJ⟩ := hrel
    subst hwz
    clear HI
    have HJ := Lib.hid hJ
    rcases (by omega : k = 0 ∨ k = 1 ∨ k = 2) with rfl | rfl | rfl
    · obtain ⟨x0, x1, -, -, -, -, -, -⟩ := row4_of hJ.box
      have KT := Lib.hid (fun wx => tokey_any (p, q) wx)
      unfold kv at KT
      dsimp only at KT x0 x1
      clear hJ
      go_wp2_with fail
      refine (KT.out _).mono ?_
      rintro e w2 ⟨rfl, hb2⟩
      have HJ2 := Lib.hid (HJ.out.next hb2)
      obtain ⟨y0, y1, -, -, f0, f1, -, -⟩ := row4_of HJ2.out.out
      have HN := Lib.hid (HJ2.out.set 0 p q #[] 1 (by simp))
      clear hb2 x0 x1 HJ KT
      go_wp2_with fail
      exact ⟨⟨1, _, by omega, rfl, rfl, HN.out⟩, by simp [intOf]⟩
    · obtain ⟨-, -, x0, x1, -, -, -, -⟩ := row4_of hJ.box
      have KT := Lib.hid (fun wx => tokey_any (p2, q2) wx)
      unfold kv at KT
      dsimp only at KT x0 x1
      clear hJ
      go_wp2_with fail
      refine (KT.out _).mono ?_
      rintro e w2 ⟨rfl, hb2⟩
      have HJ2 := Lib.hid (HJ.out.next hb2)
      obtain ⟨-, -, y0, y1, -, -, f0, f1⟩ := row4_of HJ2.out.out
      have HN := Lib.hid (HJ2.out.set 2 p2 q2 #[] 2 (by simp))
      clear hb2 x0 x1 HJ KT
      go_wp2_with fail
      exact ⟨⟨2, _, by omega, rfl, rfl, HN.out⟩, by simp [intOf]⟩
    · have ho := hJ.out
      simp only [show (0 : Nat) < 2 by omega, show (1 : Nat) < 2 by omega, if_true] at ho
      obtain ⟨x0, x1, x2, x3, -, -, -, -⟩ := row4_of ho
      obtain ⟨y0, y1, y2, y3, f0, f1, f2, f3⟩ := row4_of hJ.res
      have LD := st_load (s := ((p, q), p2, q2)) (o := 0) ⟨⟨x0, x1⟩, x2, x3⟩ (Array.getElem?_eq_some_iff.1 ho).1 (Below.refl _ _) 107 (.inl rfl)
      unfold svA at LD
      dsimp only at LD
      have hlt := (Array.getElem?_eq_some_iff.1 hJ.res).1
      have hR := set_cellsD (j := 3) (.int .i64 q2) (set_cellsD (j := 2) (.int .i64 p2) (set_cellsD (j := 1) (.int .i64 q) (set_cellsD (j := 0) (.int .i64 p) hJ.res)))
      have hg : wz.grownBy ((((wz.setCell ⟨w.heap.size + 1, 0, none⟩ (.int .i64 p)).setCell ⟨w.heap.size + 1, 1, none⟩ (.int .i64 q)).setCell ⟨w.heap.size + 1, 2, none⟩ (.int .i64 p2)).setCell ⟨w.heap.size + 1, 3, none⟩ (.int .i64 q2)) (some (w.heap.size + 1)) :=
        grownT (grownT (grownT (Lib.grownBy_setCell wz _ 0 _) (Lib.grownBy_setCell _ _ 1 _)) (Lib.grownBy_setCell _ _ 2 _)) (Lib.grownBy_setCell _ _ 3 _)
      have HBW := Lib.hid (hJ.below.grown hg hJ.below.size (fun b e => by cases e; omega))
      have HRR := Lib.hid hR
      clear hR hg hJ HJ ho
      go_wp2_with fail
      refine bodyPost_ret (v := .agg #[.int .i64 p, .int .i64 q, .int .i64 p2, .int .i64 q2]) ?_ rfl ⟨rfl, HBW.out⟩
      rw [results_cell (p := 2) (ty := 107) (by kernel_rfl)]
      obtain ⟨z0, z1, z2, z3, -, -, -, -⟩ := row4_of HRR.out
      have l1 := st_load (s := ((p, q), p2, q2)) (o := 0) ⟨⟨z0, z1⟩, z2, z3⟩ (Array.getElem?_eq_some_iff.1 HRR.out).1 (Below.refl _ _) 107 (.inl rfl)
      unfold svA at l1
      dsimp only at l1
      simp [asAddr, Result.andThen, l1]
theorem set_st (S : List S2) (k : Nat) (p q p2 q2 : Int) (u1 u2 u3 u4 : Value) (rest : List Value) (hk : k < S.length) (hx : S.getD k s0 = ((p, q), p2, q2)) :
    ((((stCells (S.take k) ++ u1 :: u2 :: u3 :: u4 :: rest).set (k * 4) (.int .i64 p)).set (k * 4 + 1) (.int .i64 q)).set (k * 4 + 2) (.int .i64 p2)).set (k * 4 + 3) (.int .i64 q2) = stCells (S.take (k + 1)) ++ rest := by
  have hl2 : (stCells (S.take k)).length = k * 4 := by rw [stCells_len, List.length_take]; omega
  rw [List.take_succ_eq_append_getElem hk, stCells_snoc, show S[k] = ((p, q), p2, q2) by rw [← hx]; simp [List.getD, hk]]
  rw [List.set_append_right _ _ (by omega), hl2, Nat.sub_self, List.set_cons_zero, List.set_append_right _ _ (by omega), hl2, show k * 4 + 1 - k * 4 = 1 by omega, List.set_cons_succ, List.set_cons_zero,
    List.set_append_right _ _ (by omega), hl2, show k * 4 + 2 - k * 4 = 2 by omega, List.set_cons_succ, List.set_cons_succ, List.set_cons_zero, List.set_append_right _ _ (by omega), hl2, show k * 4 + 3 - k * 4 = 3 by omega]
  simp [stV]
theorem infoS : (Try.prog.info? 107).map (fun i => (i.zero, i.size, i.bytes)) = some (some (.agg #[.int .i64 0, .int .i64 0, .int .i64 0, .int .i64 0]), 4, 32) := by kernel_rfl
set_option maxRecDepth 100000 in
set_option maxHeartbeats 1000000 in
theorem tosets_any (v : Value) (S : List S2) (w : World) (h : stAt w v S) (hs : S.length ≤ 2000000) : Calls Try.prog 31 #[v] w fun e w' => ∃ g, e = .returned (.slice (some ⟨g, 0, none⟩) S.length S.length) ∧ w.heap.size ≤ g ∧
    w'.ownsRow w.heap.size 107 4 (.slice (some ⟨g, 0, none⟩) S.length S.length) S.length (stCells S) ∧ Below w.heap.size w w' := by
  obtain ⟨a, cap, rfl, hcap, hcells⟩ := h
  obtain ⟨i0, hi, hz0, hz1, hz2⟩ := info_parts infoS
  obtain ⟨W, hmk, hown0, hgr0⟩ := run_make_full (P := Try.prog) w w.heap.size 56 107 i0 _ 4 Try.underlying56 hi hz0 hz1 .i64 .i64 S.length (by rw [hz2]; omega) (by unfold maxLen; omega) (Nat.le_refl _)
  have hb0 : Below w.heap.size w W := (Below.refl _ _).grown hgr0 (Nat.le_refl _) (by simp)
  have hrest : (madeCells (Value.agg #[.int .i64 0, .int .i64 0, .int .i64 0, .int .i64 0]).cells (S.length * 4)).toList.length = S.length * 4 := hown0.1
  generalize (madeCells (Value.agg #[.int .i64 0, .int .i64 0, .int .i64 0, .int .i64 0]).cells (S.length * 4)).toList = Z at *
  go_enter Try.func31, Try.ntmps31
  go_wp2
  clear hmk hgr0
  go_loopw [4] (fun i wr => ∃ (k : Nat) (rest : List Value), k ≤ S.length ∧ i = .int .i64 k ∧ wr.ownsRow w.heap.size 107 4 (.slice (some ⟨w.heap.size, 0, none⟩) S.length S.length) S.length (stCells (S.take k) ++ rest) ∧ Below w.heap.size w wr)
    (fun i _ => S.length - (intOf i).toNat)
  case atStart => exact ⟨0, Z, Nat.zero_le _, rfl, by simpa [stCells] using hown0, hb0⟩
  case round =>
    obtain ⟨k, rest, hk, rfl, hown, hbr⟩ := hrel
    clear hown0 hb0 hrest
    by_cases hlt : k < S.length
    · obtain ⟨ga, off, rfl, hg, hcs⟩ := hcells.resolve_left (by omega)
      have hc := hcs k hlt
      have z0 : (0 : Int) ≤ (k : Int) := by omega
      have z1 : (k : Int) < (S.length : Int) := by omega
      have d0 := (hbr.cell (p := ⟨ga, off + k * 4, none⟩) hg).trans hc.1.1
      have d1 := (hbr.cell (p := ⟨ga, off + k * 4 + 1, none⟩) hg).trans hc.1.2
      have d2 := (hbr.cell (p := ⟨ga, off + k * 4 + 2, none⟩) hg).trans hc.2.1
      have d3 := (hbr.cell (p := ⟨ga, off + k * 4 + 3, none⟩) hg).trans hc.2.2
      clear hcs hc hcells
      have hkt : (S.take k).length = k := by simp; omega
      have hkl := stCells_len (S.take k)
      have hrl : rest.length = (S.length - k) * 4 := by
        have := hown.1
        rw [List.length_append, hkl, hkt] at this
        omega
      obtain ⟨u1, u2, u3, u4, rest2, rfl⟩ : ∃ u1 u2 u3 u4 r, rest = u1 :: u2 :: u3 :: u4 :: r := by
        match rest, hrl with
        | [], h => simp at h; omega
        | [_], h => simp at h; omega
        | [_, _], h => simp at h; omega
        | [_, _, _], h => simp at h; omega
        | a :: b :: c :: d :: r, _ => exact ⟨a, b, c, d, r, rfl⟩
      generalize hkx : S.getD k s0 = kx at *
      obtain ⟨⟨p, q⟩, p2, q2⟩ := kx
      have hset := set_st S k p q p2 q2 u1 u2 u3 u4 rest2 hlt hkx
      have HSET := Lib.hid hset
      have HT := Lib.hid (toset_any ((p, q), p2, q2) wr)
      unfold svA at HT
      dsimp only at HT d0 d1 d2 d3
      clear hkx hset hrl
      go_wp2_with fail
      refine HT.out.mono ?_
      rintro e w2 ⟨rfl, hb2⟩
      have hown2 := own_below hown hb2
      have hbq := hbr.trans (hb2.mono hbr.size)
      clear hown hbr hb2 HT d0 d1 d2 d3
      have st1 := hown2.stored (k * 4) (.int .i64 p)
      have st2 := st1.1.stored (k * 4 + 1) (.int .i64 q)
      have st3 := st2.1.stored (k * 4 + 2) (.int .i64 p2)
      have st4 := st3.1.stored (k * 4 + 3) (.int .i64 q2)
      rw [HSET.out] at st4
      have hbz := (((hbq.setCell (p := ⟨w.heap.size, k * 4, none⟩) (Nat.le_refl _) (.int .i64 p)).setCell (p := ⟨w.heap.size, k * 4 + 1, none⟩) (Nat.le_refl _) (.int .i64 q)).setCell (p := ⟨w.heap.size, k * 4 + 2, none⟩) (Nat.le_refl _) (.int .i64 p2)).setCell (p := ⟨w.heap.size, k * 4 + 3, none⟩) (Nat.le_refl _) (.int .i64 q2)
      have R := Lib.hid (And.intro st4.1 hbz)
      clear st1 st2 st3 st4 hbz hbq HSET
      obtain ⟨s1, t1⟩ := own_cell hown2 (k * 4) (by omega)
      obtain ⟨s2, t2⟩ := own_cell hown2 (k * 4 + 1) (by omega)
      obtain ⟨s3, t3⟩ := own_cell hown2 (k * 4 + 2) (by omega)
      obtain ⟨s4, t4⟩ := own_cell hown2 (k * 4 + 3) (by omega)
      go_wp2
      exact ⟨⟨k + 1, rest2, by omega, by go_num, R.out.1, R.out.2⟩, by simp [intOf]; omega⟩
    · obtain rfl : k = S.length := by omega
      rw [List.take_length] at hown
      have hr0 : rest = [] := by
        have h1 := hown.1
        rw [List.length_append, stCells_len] at h1
        exact List.eq_nil_of_length_eq_zero (by omega)
      subst hr0
      rw [List.append_nil] at hown
      go_wp2
      go_ret
      exact ⟨w.heap.size, rfl, Nat.le_refl _, hown, hbr⟩
set_option maxRecDepth 100000 in
set_option maxHeartbeats 1000000 in
theorem eqset_self (s : S2) (w : World) : Calls Try.prog 80 #[svA s, svA s] w fun e w' => e = .returned (.bool true) ∧ Below w.heap.size w w' := by
  obtain ⟨⟨p, q⟩, p2, q2⟩ := s
  unfold svA
  dsimp only
  have hb1 := (Below.refl w.heap.size w).alloc (Nat.le_refl _) (.cells #[.int .i64 p, .int .i64 q, .int .i64 p2, .int .i64 q2] 107)
  have hx1 := heap_alloc_new w (.cells #[.int .i64 p, .int .i64 q, .int .i64 p2, .int .i64 q2] 107)
  have e1 : (w.alloc (.cells #[.int .i64 p, .int .i64 q, .int .i64 p2, .int .i64 q2] 107)).heap.size = w.heap.size + 1 := by simp
  have hx2 := heap_alloc_new (w.alloc (.cells #[.int .i64 p, .int .i64 q, .int .i64 p2, .int .i64 q2] 107)) (.cells #[.int .i64 p, .int .i64 q, .int .i64 p2, .int .i64 q2] 107)
  rw [e1] at hx2
  have HB := Lib.hid (hb1.alloc hb1.size (.cells #[.int .i64 p, .int .i64 q, .int .i64 p2, .int .i64 q2] 107))
  have HX1 := Lib.hid ((Below.heap_alloc _ (.cells #[.int .i64 p, .int .i64 q, .int .i64 p2, .int .i64 q2] 107) _ (Array.getElem?_eq_some_iff.1 hx1).1).trans hx1)
  have HX2 := Lib.hid hx2
  clear hb1 hx1 hx2 e1
  go_enter Try.func80, Try.ntmps80
  go_wp2_with fail
  generalize (w.alloc (.cells #[.int .i64 p, .int .i64 q, .int .i64 p2, .int .i64 q2] 107)).alloc (.cells #[.int .i64 p, .int .i64 q, .int .i64 p2, .int .i64 q2] 107) = W at *
  go_loopw [5] (fun i wr => ∃ (k : Nat) (wz : World), k ≤ 2 ∧ i = .int .i64 k ∧ wz = wr ∧ Below W.heap.size W wz) (fun i _ => 2 - (intOf i).toNat)
  case atStart => exact ⟨0, _, by omega, rfl, rfl, Below.refl _ _⟩
  case round =>
    obtain ⟨k, wz, hk, rfl, hwz, hbz⟩ := hrel
    subst hwz
    have HBZ := Lib.hid hbz
    have hx1 := (hbz.block _ (Array.getElem?_eq_some_iff.1 HX1.out).1).trans HX1.out
    have hx2 := (hbz.block _ (Array.getElem?_eq_some_iff.1 HX2.out).1).trans HX2.out
    clear hbz
    rcases (by omega : k = 0 ∨ k = 1 ∨ k = 2) with rfl | rfl | rfl
    · have KE := Lib.hid (fun wx (_ : Below wz.heap.size wz wx) => eqkey_any (p, q) (p, q) wx)
      rw [show ((p, q) == (p, q)) = true from by simp] at KE
      unfold kv at KE
      dsimp only at KE
      have LA : ∀ w' : World, Below wz.heap.size wz w' → (loadVar 41 ⟨w.heap.size, 0, none⟩).run Try.prog w' = .ok (.agg #[.int .i64 p, .int .i64 q]) w' := fun w' h => by
        obtain ⟨x0, x1, -⟩ := row4_of hx1
        exact key_load (k := (p, q)) (o := 0) ⟨x0, x1⟩ (Array.getElem?_eq_some_iff.1 hx1).1 h
      have LB : ∀ w' : World, Below wz.heap.size wz w' → (loadVar 41 ⟨w.heap.size + 1, 0, none⟩).run Try.prog w' = .ok (.agg #[.int .i64 p, .int .i64 q]) w' := fun w' h => by
        obtain ⟨x0, x1, -⟩ := row4_of hx2
        exact key_load (k := (p, q)) (o := 0) ⟨x0, x1⟩ (Array.getElem?_eq_some_iff.1 hx2).1 h
      clear hx1 hx2
      go_wp2_with fail
      refine wp_region_below wz (by kernel_rfl) (by kernel_rfl) (Below.refl _ _) ?_
      repeat (first
        | go_big_quiet_skip
        | (go_big_quiet_want
           first
             | (go_big_quiet_op; go_big_quiet_on)
             | (refine q_load 41 _ _ _ rfl rfl LA ?_; simp only [Act.put, List.setIfInBounds_toArray, List.set_cons_zero, List.set_cons_succ]; go_big_quiet_on)
             | (refine q_load 41 _ _ _ rfl rfl LB ?_; simp only [Act.put, List.setIfInBounds_toArray, List.set_cons_zero, List.set_cons_succ]; go_big_quiet_on)
             | (go_big_quiet_op; refine ⟨_, fun _ _ => rfl, ?_⟩; go_big_quiet_on)
             | (go_big_quiet_op; refine ⟨_, fun _ _ _ => rfl, ?_⟩; go_big_quiet_on)
             | (go_big_quiet_op; apply Exists.intro; refine ⟨fun w' hw' => ?_, ?_⟩
                · first
                  | (with_reducible refine (KE.out w' hw').mono ?_
                     rintro e w2 ⟨rfl, hb2⟩
                     exact ⟨rfl, hw'.trans (hb2.mono hw'.size)⟩)
                go_big_quiet_on)))
      refine wpQuiet_nil ?_
      intro w9 hb9
      have HB9 := Lib.hid (HBZ.out.trans (hb9.mono HBZ.out.size))
      clear hb9 LA LB KE
      go_wp2_with fail
      exact ⟨⟨1, _, by omega, rfl, rfl, HB9.out⟩, by simp [intOf]⟩
    · have KE := Lib.hid (fun wx (_ : Below wz.heap.size wz wx) => eqkey_any (p2, q2) (p2, q2) wx)
      rw [show ((p2, q2) == (p2, q2)) = true from by simp] at KE
      unfold kv at KE
      dsimp only at KE
      have LA : ∀ w' : World, Below wz.heap.size wz w' → (loadVar 41 ⟨w.heap.size, 2, none⟩).run Try.prog w' = .ok (.agg #[.int .i64 p2, .int .i64 q2]) w' := fun w' h => by
        obtain ⟨-, -, x0, x1, -⟩ := row4_of hx1
        exact key_load (k := (p2, q2)) (o := 2) ⟨x0, x1⟩ (Array.getElem?_eq_some_iff.1 hx1).1 h
      have LB : ∀ w' : World, Below wz.heap.size wz w' → (loadVar 41 ⟨w.heap.size + 1, 2, none⟩).run Try.prog w' = .ok (.agg #[.int .i64 p2, .int .i64 q2]) w' := fun w' h => by
        obtain ⟨-, -, x0, x1, -⟩ := row4_of hx2
        exact key_load (k := (p2, q2)) (o := 2) ⟨x0, x1⟩ (Array.getElem?_eq_some_iff.1 hx2).1 h
      clear hx1 hx2
      go_wp2_with fail
      refine wp_region_below wz (by kernel_rfl) (by kernel_rfl) (Below.refl _ _) ?_
      repeat (first
        | go_big_quiet_skip
        | (go_big_quiet_want
           first
             | (go_big_quiet_op; go_big_quiet_on)
             | (refine q_load 41 _ _ _ rfl rfl LA ?_; simp only [Act.put, List.setIfInBounds_toArray, List.set_cons_zero, List.set_cons_succ]; go_big_quiet_on)
             | (refine q_load 41 _ _ _ rfl rfl LB ?_; simp only [Act.put, List.setIfInBounds_toArray, List.set_cons_zero, List.set_cons_succ]; go_big_quiet_on)
             | (go_big_quiet_op; refine ⟨_, fun _ _ => rfl, ?_⟩; go_big_quiet_on)
             | (go_big_quiet_op; refine ⟨_, fun _ _ _ => rfl, ?_⟩; go_big_quiet_on)
             | (go_big_quiet_op; apply Exists.intro; refine ⟨fun w' hw' => ?_, ?_⟩
                · first
                  | (with_reducible refine (KE.out w' hw').mono ?_
                     rintro e w2 ⟨rfl, hb2⟩
                     exact ⟨rfl, hw'.trans (hb2.mono hw'.size)⟩)
                go_big_quiet_on)))
      refine wpQuiet_nil ?_
      intro w9 hb9
      have HB9 := Lib.hid (HBZ.out.trans (hb9.mono HBZ.out.size))
      clear hb9 LA LB KE
      go_wp2_with fail
      exact ⟨⟨2, _, by omega, rfl, rfl, HB9.out⟩, by simp [intOf]⟩
    · have HF := Lib.hid (HB.out.trans (HBZ.out.mono HB.out.size))
      clear hx1 hx2 HBZ
      go_wp2_with fail
      go_ret
      exact ⟨rfl, HF.out⟩
set_option maxRecDepth 100000 in
set_option maxHeartbeats 1000000 in
theorem eqsets_self (va vb : Value) (S : List S2) (w : World) (ha : stAt w va S) (hb : stAt w vb S) (hs : S.length ≤ 2000000) : Calls Try.prog 35 #[va, vb] w fun e w' => e = .returned (.bool true) ∧ Below w.heap.size w w' := by
  have HA := Lib.hid ha
  have HBb := Lib.hid hb
  obtain ⟨aa, ca, rfl, -, -⟩ := ha
  obtain ⟨ab, cb, rfl, -, -⟩ := hb
  go_enter Try.func35, Try.ntmps35
  go_wp2_with fail
  go_loopw [5] (fun i wr => ∃ (k : Nat) (wz : World), k ≤ S.length ∧ i = .int .i64 k ∧ wz = wr ∧ Below w.heap.size w wz) (fun i _ => S.length - (intOf i).toNat)
  case atStart => exact ⟨0, _, Nat.zero_le _, rfl, rfl, Below.refl _ _⟩
  case round =>
    obtain ⟨k, wz, hk, rfl, hwz, hbz⟩ := hrel
    subst hwz
    have HBZ := Lib.hid hbz
    by_cases hlt : k < S.length
    · have z0 : (0 : Int) ≤ (k : Int) := by omega
      have z1 : (k : Int) < (S.length : Int) := by omega
      obtain ⟨a', c', e1, -, hca⟩ := stAt_below HA.out hbz
      cases e1
      obtain ⟨a', c', e1, -, hcb⟩ := stAt_below HBb.out hbz
      cases e1
      obtain ⟨g1, o1, rfl, hg1, hca⟩ := hca.resolve_left (by omega)
      obtain ⟨g2, o2, rfl, hg2, hcb⟩ := hcb.resolve_left (by omega)
      have hc1 := hca k hlt
      have hc2 := hcb k hlt
      generalize S.getD k s0 = s at *
      have LA : ∀ w' : World, Below wz.heap.size wz w' → (loadVar 107 ⟨g1, o1 + k * 4, none⟩).run Try.prog w' = .ok (svA s) w' := fun w' h => st_load hc1 hg1 h 107 (.inl rfl)
      have LB : ∀ w' : World, Below wz.heap.size wz w' → (loadVar 107 ⟨g2, o2 + k * 4, none⟩).run Try.prog w' = .ok (svA s) w' := fun w' h => st_load hc2 hg2 h 107 (.inl rfl)
      have KE := Lib.hid (fun wx (_ : Below wz.heap.size wz wx) => eqset_self s wx)
      generalize svA s = sv at *
      clear hca hcb hc1 hc2 hbz
      go_wp2_with fail
      refine wp_region_below wz (by kernel_rfl) (by kernel_rfl) (Below.refl _ _) ?_
      repeat (first
        | go_big_quiet_skip
        | (go_big_quiet_want
           first
             | (go_big_quiet_op; go_big_quiet_on)
             | (refine q_load 107 _ _ _ rfl rfl LA ?_; simp only [Act.put, List.setIfInBounds_toArray, List.set_cons_zero, List.set_cons_succ]; go_big_quiet_on)
             | (refine q_load 107 _ _ _ rfl rfl LB ?_; simp only [Act.put, List.setIfInBounds_toArray, List.set_cons_zero, List.set_cons_succ]; go_big_quiet_on)
             | (go_big_quiet_op; refine ⟨_, fun _ _ => rfl, ?_⟩; go_big_quiet_on)
             | (go_big_quiet_op; refine ⟨_, fun _ _ _ => rfl, ?_⟩; go_big_quiet_on)
             | (go_big_quiet_op; apply Exists.intro; refine ⟨fun w' hw' => ?_, ?_⟩
                · first
                  | (with_reducible refine (KE.out w' hw').mono ?_
                     rintro e w2 ⟨rfl, hb2⟩
                     exact ⟨rfl, hw'.trans (hb2.mono hw'.size)⟩)
                go_big_quiet_on)))
      refine wpQuiet_nil ?_
      intro w9 hb9
      have HB9 := Lib.hid (HBZ.out.trans (hb9.mono HBZ.out.size))
      clear hb9 LA LB KE
      go_wp2_with fail
      exact ⟨⟨k + 1, _, by omega, by go_num, rfl, HB9.out⟩, by simp [intOf]; omega⟩
    · obtain rfl : k = S.length := by omega
      go_wp2
      go_ret
      exact ⟨rfl, hbz⟩
end Go.Proofs.Ytbbjpjkclealfaa
namespace Go.Proofs.Ytbbjpjkclealfaa
open Go.ChangeShapes Go.WideShapes Go.ChangeAt Go.RowKit Go.BigFrame
set_option linter.unusedVariables false

theorem szkeys_any (v : Value) (ks : List K2) (left : Int) (w : World) (h : ∃ a cap, v = .slice a ks.length cap) (hl : 0 ≤ left ∧ left ≤ 1000000000) (hs : ks.length ≤ 9223372036854775807) :
    Calls Try.prog 29 #[v, .int .i64 left] w fun e w' => e = .returned (.int .i64 (if left - (ks.length : Int) < 0 then -1 else left - (ks.length : Int))) ∧ w' = w := by
  obtain ⟨a, cap, rfl⟩ := h
  by_cases hn : left - (ks.length : Int) < 0
  · rw [if_pos hn]
    have ew : IntKind.i64.wrap (left - (ks.length : Int)) = left - (ks.length : Int) := IntWalk.i64_in _ (by omega)
    go_enter Try.func29, Try.ntmps29
    go_wp2
    go_ret
    exact ⟨rfl, rfl⟩
  · rw [if_neg hn]
    have ew : IntKind.i64.wrap (left - (ks.length : Int)) = left - (ks.length : Int) := IntWalk.i64_in _ (by omega)
    go_enter Try.func29, Try.ntmps29
    go_wp2
    go_ret
    exact ⟨rfl, rfl⟩
theorem set_key (ks : List K2) (k : Nat) (p q : Int) (u1 u2 : Value) (rest : List Value) (hk : k < ks.length) (hx : ks.getD k (0, 0) = (p, q)) :
    ((keyCells (ks.take k) ++ u1 :: u2 :: rest).set (k * 2) (.int .i64 p)).set (k * 2 + 1) (.int .i64 q) = keyCells (ks.take (k + 1)) ++ rest := by
  have hl := keyCells_len (ks.take k)
  have hl2 : (keyCells (ks.take k)).length = k * 2 := by rw [hl]; simp; omega
  rw [List.take_succ_eq_append_getElem hk, keyCells_snoc, show ks[k] = (p, q) by rw [← hx]; simp [List.getD, hk]]
  rw [List.set_append_right _ _ (by omega), hl2, Nat.sub_self, List.set_cons_zero, List.set_append_right _ _ (by omega), hl2, show k * 2 + 1 - k * 2 = 1 by omega]
  simp
set_option maxRecDepth 100000 in
set_option maxHeartbeats 1000000 in
theorem tokeys_any (v : Value) (ks : List K2) (w : World) (h : keysAt w v ks) (hs : ks.length ≤ 2000000) : Calls Try.prog 32 #[v] w fun e w' => ∃ g, e = .returned (.slice (some ⟨g, 0, none⟩) ks.length ks.length) ∧ w.heap.size ≤ g ∧
    w'.ownsRow w.heap.size 41 2 (.slice (some ⟨g, 0, none⟩) ks.length ks.length) ks.length (keyCells ks) ∧ Below w.heap.size w w' := by
  obtain ⟨a, cap, rfl, hcap, hcells⟩ := h
  obtain ⟨i0, hi, hz0, hz1, hz2⟩ := info_parts infoK
  obtain ⟨W, hmk, hown0, hgr0⟩ := run_make_full (P := Try.prog) w w.heap.size 25 41 i0 _ 2 Try.underlying25 hi hz0 hz1 .i64 .i64 ks.length (by rw [hz2]; omega) (by unfold maxLen; omega) (Nat.le_refl _)
  have hb0 : Below w.heap.size w W := (Below.refl _ _).grown hgr0 (Nat.le_refl _) (by simp)
  have hrest : (madeCells (Value.agg #[.int .i64 0, .int .i64 0]).cells (ks.length * 2)).toList.length = ks.length * 2 := hown0.1
  generalize (madeCells (Value.agg #[.int .i64 0, .int .i64 0]).cells (ks.length * 2)).toList = Z at *
  go_enter Try.func32, Try.ntmps32
  go_wp2
  clear hmk hgr0
  go_loopw [4] (fun i wr => ∃ (k : Nat) (rest : List Value), k ≤ ks.length ∧ i = .int .i64 k ∧ wr.ownsRow w.heap.size 41 2 (.slice (some ⟨w.heap.size, 0, none⟩) ks.length ks.length) ks.length (keyCells (ks.take k) ++ rest) ∧ Below w.heap.size w wr)
    (fun i _ => ks.length - (intOf i).toNat)
  case atStart => exact ⟨0, Z, Nat.zero_le _, rfl, by simpa [keyCells] using hown0, hb0⟩
  case round =>
    obtain ⟨k, rest, hk, rfl, hown, hbr⟩ := hrel
    clear hown0 hb0 hrest
    by_cases hlt : k < ks.length
    · obtain ⟨ga, off, rfl, hg, hcs⟩ := hcells.resolve_left (by omega)
      have hc := hcs k hlt
      have z0 : (0 : Int) ≤ (k : Int) := by omega
      have z1 : (k : Int) < (ks.length : Int) := by omega
      have d1 : wr.cell? ⟨ga, off + k * 2, none⟩ = some (.int .i64 (ks.getD k (0, 0)).1) := by rw [hbr.cell (p := ⟨ga, off + k * 2, none⟩) hg]; exact hc.1
      have d2 : wr.cell? ⟨ga, off + k * 2 + 1, none⟩ = some (.int .i64 (ks.getD k (0, 0)).2) := by rw [hbr.cell (p := ⟨ga, off + k * 2 + 1, none⟩) hg]; exact hc.2
      clear hcs hc hcells
      have hkt : (ks.take k).length = k := by simp; omega
      have hkl := keyCells_len (ks.take k)
      have hrl : rest.length = (ks.length - k) * 2 := by
        have := hown.1
        rw [List.length_append, hkl, hkt] at this
        omega
      obtain ⟨u1, u2, rest2, rfl⟩ : ∃ u1 u2 r, rest = u1 :: u2 :: r := by
        match rest, hrl with
        | [], h => simp at h; omega
        | [_], h => simp at h; omega
        | a :: b :: r, _ => exact ⟨a, b, r, rfl⟩
      generalize hkx : ks.getD k (0, 0) = kx at *
      obtain ⟨p, q⟩ := kx
      have hset := set_key ks k p q u1 u2 rest2 hlt hkx
      have HSET := Lib.hid hset
      have HT := Lib.hid (tokey_any (p, q) wr)
      clear hkx hset hrl
      go_wp2_with fail
      refine HT.out.mono ?_
      rintro e w2 ⟨rfl, hb2⟩
      have hown2 := own_below hown hb2
      have hbq := hbr.trans (hb2.mono hbr.size)
      clear hown hbr hb2 HT d1 d2
      have st1 := hown2.stored (k * 2) (.int .i64 p)
      have st2 := st1.1.stored (k * 2 + 1) (.int .i64 q)
      rw [HSET.out] at st2
      have hbz := (hbq.setCell (p := ⟨w.heap.size, k * 2, none⟩) (Nat.le_refl _) (.int .i64 p)).setCell (p := ⟨w.heap.size, k * 2 + 1, none⟩) (Nat.le_refl _) (.int .i64 q)
      have R := Lib.hid (And.intro st2.1 hbz)
      clear st1 st2 hbz hbq HSET
      obtain ⟨s1, s2⟩ := own_cell hown2 (k * 2) (by omega)
      obtain ⟨s3, s4⟩ := own_cell hown2 (k * 2 + 1) (by omega)
      unfold kv
      dsimp only
      go_wp2
      exact ⟨⟨k + 1, rest2, by omega, by go_num, R.out.1, R.out.2⟩, by simp [intOf]; omega⟩
    · obtain rfl : k = ks.length := by omega
      rw [List.take_length] at hown
      have hr0 : rest = [] := by
        have h1 := hown.1
        rw [List.length_append, keyCells_len] at h1
        exact List.eq_nil_of_length_eq_zero (by omega)
      subst hr0
      rw [List.append_nil] at hown
      go_wp2
      go_ret
      exact ⟨w.heap.size, rfl, Nat.le_refl _, hown, hbr⟩
end Go.Proofs.Ytbbjpjkclealfaa
namespace Go.Proofs.Ytbbjpjkclealfaa
open Go.ChangeShapes Go.WideShapes Go.ChangeAt Go.RowKit Go.BigFrame
set_option linter.unusedVariables false
set_option maxRecDepth 100000 in
set_option maxHeartbeats 1000000 in
theorem eqkeys_any (va vb : Value) (A B : List K2) (w : World) (ha : keysAt w va A) (hb : keysAt w vb B) (hsA : A.length ≤ 4000000) (hsB : B.length ≤ 4000000) :
    Calls Try.prog 34 #[va, vb] w fun e w' => e = .returned (.bool (decide (A = B))) ∧ Below w.heap.size w w' := by
  obtain ⟨aa, ca, rfl, hca, hcA⟩ := ha
  obtain ⟨ab, cb, rfl, hcb, hcB⟩ := hb
  by_cases hl : A.length = B.length
  · have e0 : (A.length : Int) = (B.length : Int) := by omega
    go_enter Try.func34, Try.ntmps34
    rw [hl] at hca hcA ⊢
    go_wp2
    go_loopw [5] (fun i wr => ∃ k : Nat, k ≤ B.length ∧ i = .int .i64 k ∧ (∀ j, j < k → A.getD j (0, 0) = B.getD j (0, 0)) ∧ Below w.heap.size w wr) (fun i _ => B.length - (intOf i).toNat)
    case atStart => exact ⟨0, Nat.zero_le _, rfl, fun j hj => by omega, Below.refl _ _⟩
    case round =>
      obtain ⟨k, hk, rfl, hall, hbr⟩ := hrel
      by_cases hlt : k < B.length
      · obtain ⟨ga, offa, rfl, hga, hcsA⟩ := hcA.resolve_left (by omega)
        obtain ⟨gb, offb, rfl, hgb, hcsB⟩ := hcB.resolve_left (by omega)
        have cA := hcsA k hlt
        have cB := hcsB k hlt
        have z0 : (0 : Int) ≤ (k : Int) := by omega
        have z1 : (k : Int) < (B.length : Int) := by omega
        clear hcsA hcsB hcA hcB
        have L1 : ∀ w', Below w.heap.size w w' → (loadVar 41 ⟨ga, offa + k * 2, none⟩).run Try.prog w' = .ok (kv (A.getD k (0, 0))) w' := fun w' h => key_load cA hga h
        have L2 : ∀ w', Below w.heap.size w w' → (loadVar 41 ⟨gb, offb + k * 2, none⟩).run Try.prog w' = .ok (kv (B.getD k (0, 0))) w' := fun w' h => key_load cB hgb h
        have HE := Lib.hid (fun w => eqkey_any (A.getD k (0, 0)) (B.getD k (0, 0)) w)
        clear cA cB
        cases he : (A.getD k (0, 0) == B.getD k (0, 0)) with
        | true =>
          have hn : ∀ j, j < k + 1 → A.getD j (0, 0) = B.getD j (0, 0) := by
            intro j hj
            rcases (by omega : j < k ∨ j = k) with h1 | rfl
            · exact hall j h1
            · exact eq_of_beq he
          have HN := Lib.hid hn
          rw [he] at HE
          clear hall hn
          generalize A.getD k (0, 0) = kx at *
          generalize B.getD k (0, 0) = ky at *
          go_wp2
          refine wp_region_below w (by kernel_rfl) (by kernel_rfl) hbr ?_
          repeat (first
            | go_big_quiet_skip
            | (go_big_quiet_want
               first
                 | (go_big_quiet_op; go_big_quiet_on)
                 | (refine q_load 41 _ _ _ rfl rfl L1 ?_; simp only [Act.put, List.setIfInBounds_toArray, List.set_cons_zero, List.set_cons_succ]; go_big_quiet_on)
                 | (refine q_load 41 _ _ _ rfl rfl L2 ?_; simp only [Act.put, List.setIfInBounds_toArray, List.set_cons_zero, List.set_cons_succ]; go_big_quiet_on)
                 | (go_big_quiet_op; refine ⟨_, fun _ _ => rfl, ?_⟩; go_big_quiet_on)
                 | (go_big_quiet_op; apply Exists.intro; refine ⟨fun w' hw' => ?_, ?_⟩
                    · first
                      | (refine (HE.out w').mono ?_
                         rintro e w2 ⟨rfl, hb2⟩
                         exact ⟨rfl, hw'.trans (hb2.mono hw'.size)⟩)
                    go_big_quiet_on)))
          refine wpQuiet_nil ?_
          intro w2 hb2
          clear L1 L2 HE hbr
          go_wp2
          exact ⟨⟨k + 1, by omega, by go_num, HN.out, hb2⟩, by simp [intOf]; omega⟩
        | false =>
          have hne : decide (A = B) = false := by
            simp only [decide_eq_false_iff_not]
            intro e
            subst e
            simp at he
          have HD := Lib.hid hne
          rw [he] at HE
          clear hall hne
          generalize A.getD k (0, 0) = kx at *
          generalize B.getD k (0, 0) = ky at *
          go_wp2
          refine wp_region_below w (by kernel_rfl) (by kernel_rfl) hbr ?_
          repeat (first
            | go_big_quiet_skip
            | (go_big_quiet_want
               first
                 | (go_big_quiet_op; go_big_quiet_on)
                 | (refine q_load 41 _ _ _ rfl rfl L1 ?_; simp only [Act.put, List.setIfInBounds_toArray, List.set_cons_zero, List.set_cons_succ]; go_big_quiet_on)
                 | (refine q_load 41 _ _ _ rfl rfl L2 ?_; simp only [Act.put, List.setIfInBounds_toArray, List.set_cons_zero, List.set_cons_succ]; go_big_quiet_on)
                 | (go_big_quiet_op; refine ⟨_, fun _ _ => rfl, ?_⟩; go_big_quiet_on)
                 | (go_big_quiet_op; apply Exists.intro; refine ⟨fun w' hw' => ?_, ?_⟩
                    · first
                      | (refine (HE.out w').mono ?_
                         rintro e w2 ⟨rfl, hb2⟩
                         exact ⟨rfl, hw'.trans (hb2.mono hw'.size)⟩)
                    go_big_quiet_on)))
          refine wpQuiet_nil ?_
          intro w2 hb2
          clear L1 L2 HE hbr
          go_wp2
          go_ret
          exact ⟨by rw [HD.out]; rfl, hb2⟩
      · obtain rfl : k = B.length := by omega
        have he : decide (A = B) = true := by
          simp only [decide_eq_true_eq]
          apply List.ext_getElem hl
          intro i h1 h2
          have := hall i h2
          simpa [List.getD, h1, h2] using this
        have HD := Lib.hid he
        clear hall he
        go_wp2
        go_ret
        exact ⟨by rw [HD.out]; rfl, hbr⟩
  · have hne : decide (A = B) = false := by simp only [decide_eq_false_iff_not]; intro e; subst e; exact hl rfl
    have HD := Lib.hid hne
    have e0 : ¬ (A.length : Int) = (B.length : Int) := by omega
    clear hne
    go_enter Try.func34, Try.ntmps34
    go_wp2
    go_ret
    exact ⟨by rw [HD.out]; rfl, Below.refl _ _⟩
end Go.Proofs.Ytbbjpjkclealfaa
namespace Go.Proofs.Ytbbjpjkclealfaa
open Go.ChangeShapes Go.WideShapes Go.ChangeAt Go.RowKit Go.BigFrame
set_option linter.unusedVariables false

def marked (n : Nat) (m : Int) : List K2 := (List.range n).map fun (i : Nat) => (m + 2 * (i : Int), m + 2 * (i : Int) + 1)
theorem marked_len (n : Nat) (m : Int) : (marked n m).length = n := by simp [marked]
theorem marked_get (n : Nat) (m : Int) (i : Nat) (h : i < n) : (marked n m).getD i (0, 0) = (m + 2 * (i : Int), m + 2 * (i : Int) + 1) := by
  simp [marked, List.getD, h]
theorem marked_succ (k : Nat) (m : Int) : marked (k + 1) m = marked k m ++ [(m + 2 * (k : Int), m + 2 * (k : Int) + 1)] := by
  simp [marked, List.range_succ]
theorem set_mark (k : Nat) (m : Int) (u1 u2 : Value) (rest : List Value) :
    ((keyCells (marked k m) ++ u1 :: u2 :: rest).set (k * 2) (.int .i64 (m + 2 * (k : Int)))).set (k * 2 + 1) (.int .i64 (m + 2 * (k : Int) + 1)) = keyCells (marked (k + 1) m) ++ rest := by
  have hl := keyCells_len (marked k m)
  rw [marked_len] at hl
  rw [marked_succ, keyCells_snoc]
  rw [List.set_append_right _ _ (by omega), hl, Nat.sub_self, List.set_cons_zero, List.set_append_right _ _ (by omega), hl, show k * 2 + 1 - k * 2 = 1 by omega]
  simp
set_option maxRecDepth 100000 in
set_option maxHeartbeats 1000000 in
theorem markkeys_any (base : Nat) (v : Value) (n : Nat) (xs : List Value) (m : Int) (w : World) (h : w.ownsRow base 41 2 v n xs) (hm : 0 ≤ m ∧ m ≤ 1000000000) (hn : n ≤ 4000000) (hb0 : base ≤ w.heap.size) :
    Calls Try.prog 37 #[v, .int .i64 m] w fun e w' => e = .returned (.int .i64 (m + 2 * (n : Int))) ∧ w'.ownsRow base 41 2 v n (keyCells (marked n m)) ∧ w.grownBy w' v.ownBlock := by
  rcases ownsRowK_shape h with ⟨rfl, rfl⟩ | ⟨g, cap, rfl, hnc, hcm, hbg, hgs⟩
  · have e0 : m + 2 * ((0 : Nat) : Int) = m := by omega
    rw [e0]
    have ho : w.ownsRow base 41 2 (.slice none 0 0) 0 (keyCells (marked 0 m)) := ⟨by simp [marked, keyCells], .inl ⟨rfl, rfl⟩⟩
    go_enter Try.func37, Try.ntmps37
    go_wp2
    go_loopw [1, 5] (fun c i wr => c = .int .i64 m ∧ i = .int .i64 0 ∧ wr = w) (fun _ _ _ => 0)
    case atStart => exact ⟨rfl, rfl, rfl⟩
    case round =>
      obtain ⟨rfl, rfl, rfl⟩ := hrel
      go_wp2
      go_ret
      exact ⟨rfl, ho, World.grownBy.refl _ _⟩
  · have hxl := h.1
    go_enter Try.func37, Try.ntmps37
    go_wp2
    go_loopw [1, 5] (fun c i wr => ∃ (k : Nat) (rest : List Value), k ≤ n ∧ i = .int .i64 k ∧ c = .int .i64 (m + 2 * (k : Int)) ∧ wr.ownsRow base 41 2 (.slice (some ⟨g, 0, none⟩) n cap) n (keyCells (marked k m) ++ rest) ∧ w.grownBy wr (some g))
      (fun _ i _ => n - (intOf i).toNat)
    case atStart => exact ⟨0, xs, Nat.zero_le _, rfl, by simp, by simpa [marked, keyCells] using h, World.grownBy.refl _ _⟩
    case round =>
      obtain ⟨k, rest, hk, rfl, rfl, hown, hgr⟩ := hrel
      clear h
      by_cases hlt : k < n
      · have z0 : (0 : Int) ≤ (k : Int) := by omega
        have z1 : (k : Int) < (n : Int) := by omega
        have hkl := keyCells_len (marked k m)
        rw [marked_len] at hkl
        have hrl : rest.length = (n - k) * 2 := by
          have := hown.1
          rw [List.length_append, hkl] at this
          omega
        obtain ⟨u1, u2, rest2, rfl⟩ : ∃ u1 u2 r, rest = u1 :: u2 :: r := by
          match rest, hrl with
          | [], h => simp at h; omega
          | [_], h => simp at h; omega
          | a :: b :: r, _ => exact ⟨a, b, r, rfl⟩
        obtain ⟨s1, s2⟩ := own_cell hown (k * 2) (by omega)
        have st1 := hown.stored (k * 2) (.int .i64 (m + 2 * (k : Int)))
        obtain ⟨s3, s4⟩ := own_cell st1.1 (k * 2 + 1) (by omega)
        have st2 := st1.1.stored (k * 2 + 1) (.int .i64 (m + 2 * (k : Int) + 1))
        rw [set_mark] at st2
        have R := Lib.hid (And.intro st2.1 (grown_trans hgr (grown_trans st1.2 st2.2)))
        clear st1 st2 hown hgr hrl hkl
        go_wp2
        exact ⟨⟨k + 1, rest2, by omega, by go_num, by go_num, R.out.1, R.out.2⟩, by simp [intOf]; omega⟩
      · obtain rfl : k = n := by omega
        have hr0 : rest = [] := by
          have h1 := hown.1
          rw [List.length_append, keyCells_len, marked_len] at h1
          exact List.eq_nil_of_length_eq_zero (by omega)
        subst hr0
        rw [List.append_nil] at hown
        go_wp2
        go_ret
        exact ⟨rfl, hown, hgr⟩
set_option maxRecDepth 100000 in
set_option maxHeartbeats 1000000 in
theorem heldkeys_any (v : Value) (n : Nat) (m : Int) (w : World) (h : keysAt w v (marked n m)) (hm : 0 ≤ m ∧ m ≤ 1000000000) (hn : n ≤ 4000000) :
    Calls Try.prog 38 #[v, .int .i64 m] w fun e w' => e = .returned (.int .i64 (m + 2 * (n : Int))) ∧ w' = w := by
  obtain ⟨a, cap, rfl, hcap, hcells⟩ := h
  rw [marked_len] at hcap hcells ⊢
  go_enter Try.func38, Try.ntmps38
  go_wp2
  go_loopw [1, 5] (fun c i wr => ∃ k : Nat, k ≤ n ∧ i = .int .i64 k ∧ c = .int .i64 (m + 2 * (k : Int)) ∧ wr = w) (fun _ i _ => n - (intOf i).toNat)
  case atStart => exact ⟨0, Nat.zero_le _, rfl, by simp, rfl⟩
  case round =>
    obtain ⟨k, hk, rfl, rfl, rfl⟩ := hrel
    by_cases hlt : k < n
    · obtain ⟨g, off, rfl, hg, hcs⟩ := hcells.resolve_left (by omega)
      have z0 : (0 : Int) ≤ (k : Int) := by omega
      have z1 : (k : Int) < (n : Int) := by omega
      have hc := hcs k hlt
      rw [marked_get n m k hlt] at hc
      obtain ⟨c1, c2⟩ := hc
      clear hcs hcells
      go_wp2
      exact ⟨⟨k + 1, by omega, by go_num, by go_num, trivial⟩, by simp [intOf]; omega⟩
    · obtain rfl : k = n := by omega
      go_wp2
      go_ret
      exact ⟨rfl, rfl⟩
end Go.Proofs.Ytbbjpjkclealfaa
namespace Go.Proofs.Ytbbjpjkclealfaa
open Go.ChangeShapes Go.WideShapes Go.ChangeAt Go.RowKit Go.BigFrame
set_option linter.unusedVariables false
set_option linter.unusedSimpArgs false

theorem stAt_mk {w : World} {base n : Nat} {g : Nat} {S : List S2} (h : w.ownsRow base 107 4 (.slice (some ⟨g, 0, none⟩) S.length S.length) S.length (stCells S)) : stAt w (.slice (some ⟨g, 0, none⟩) S.length S.length) S := stAt_own h
theorem keysAt_mk {w : World} {base : Nat} {v : Value} {n : Nat} {m : Int} (h : w.ownsRow base 41 2 v n (keyCells (marked n m))) : keysAt w v (marked n m) := keysAt_own (by rw [marked_len]; exact h)
set_option maxRecDepth 100000 in
set_option maxHeartbeats 4000000 in
theorem exclosed_walk (va : Value) (S : List S2) (vb : Value) (K : List K2) (w : World) (ha : stAt w va S) (hb : keysAt w vb K) (hS63 : S.length ≤ maxLen) (hK63 : K.length ≤ maxLen) :
    Calls Try.prog 6 #[va, vb] w fun e w' => e = .returned (.bool true) ∧ Below w.heap.size w w' := by
  have hsA : ∃ a cap, va = .slice a S.length cap := by obtain ⟨a, cap, h, _⟩ := ha; exact ⟨a, cap, h⟩
  have hsB : ∃ a cap, vb = .slice a K.length cap := by obtain ⟨a, cap, h, _⟩ := hb; exact ⟨a, cap, h⟩
  unfold maxLen at hS63 hK63
  by_cases hlA : S.length ≤ 1048576
  · have S1 := Lib.hid (fun w => szsets_any va S 1048576 w hsA (by omega) (by omega))
    rw [if_neg (by omega)] at S1
    by_cases hlB : S.length + K.length ≤ 1048576
    · have Z2 := Lib.hid (fun w => szkeys_any vb K (1048576 - (S.length : Int)) w hsB (by omega) (by omega))
      rw [if_neg (by omega)] at Z2
      have n1 : ¬ 1048576 - (S.length : Int) < 0 := by omega
      have n2 : ¬ 1048576 - (S.length : Int) - (K.length : Int) < 0 := by omega
      have HB0 := Lib.hid (Below.refl w.heap.size w)
      have TA := Lib.hid (fun w' (h : Below w.heap.size w w') => tosets_any va S w' (stAt_below ha h) (by omega))
      have TB := Lib.hid (fun w' (h : Below w.heap.size w w') => tokeys_any vb K w' (keysAt_below hb h) (by omega))
      have SC := Lib.hid (fun w' vs vk (h1 : stAt w' vs S) (h2 : keysAt w' vk K) => sclosed_any vs S vk K w' h1 h2 (by omega) (by omega))
      have IC := Lib.hid (fun w' vs g c (h1 : stAt w' vs S) (h2 : keysAt w' (.slice (some ⟨g, 0, none⟩) K.length c) K) => iclosed_any vs S (.slice (some ⟨g, 0, none⟩) K.length c) K w' h1 h2 (fun a n c e => by cases e; exact .inr ⟨_, _, rfl⟩) (by omega) (by omega))
      have ES := Lib.hid (fun w' v1 v2 (h1 : stAt w' v1 S) (h2 : stAt w' v2 S) => eqsets_self v1 v2 S w' h1 h2 (by omega))
      have EK := Lib.hid (fun w' v1 v2 (h1 : keysAt w' v1 K) (h2 : keysAt w' v2 K) => eqkeys_any v1 v2 K K w' h1 h2 (by omega) (by omega))
      rw [decide_eq_true rfl] at EK
      have MS := Lib.hid (fun w' g => marksets_any (.slice (some ⟨g, 0, none⟩) S.length S.length) S 1 w' ⟨_, _, rfl⟩ (by omega))
      have hKb : K.length ≤ 1048576 := by omega
      clear hsA hsB ha hb hlB
      go_enter Try.func6, Try.ntmps6
      go_wp2_with fail
      refine (S1.out _).mono ?_
      rintro e w1 ⟨rfl, rfl⟩
      go_wp2_with fail
      refine (Z2.out _).mono ?_
      rintro e w1' ⟨rfl, rfl⟩
      clear S1 Z2
      go_wp2_with fail
      refine (TA.out _ HB0.out).mono ?_
      rintro e w2 ⟨g1, rfl, hg1, ho1, hb2⟩
      have HB2 := Lib.hid hb2
      have HO1 := Lib.hid ho1
      clear hb2 ho1 hg1
      go_wp2_with fail
      refine (TB.out _ HB2.out).mono ?_
      rintro e w3 ⟨g2, rfl, hg2, ho2, hb3⟩
      have HB3 := Lib.hid (HB2.out.trans (hb3.mono HB2.out.size))
      have HO1' := Lib.hid (own_below HO1.out hb3)
      have HO2 := Lib.hid ho2
      clear hb3 ho2 hg2 HO1 HB2
      go_wp2_with fail
      refine (SC.out _ _ _ (stAt_own HO1'.out) (keysAt_own HO2.out)).mono ?_
      rintro e w4 ⟨v6, M, rfl, hcl, hMl, ho6, hb4⟩
      have IC2 := Lib.hid (fun w' vs g c h1 h2 => (IC.out w' vs g c h1 h2).mono (R' := fun e w'' => ∃ v', e = .returned v' ∧ w''.ownsRow w'.heap.size 41 2 v' M.length (keyCells M) ∧ Below w'.heap.size w' w'')
        (by rintro e w'' ⟨v', N, rfl, hN, -, ho, hb⟩; obtain rfl := hcl.one hN; exact ⟨v', rfl, ho, hb⟩))
      have EM := Lib.hid (fun w' v1 v2 (h1 : keysAt w' v1 M) (h2 : keysAt w' v2 M) => eqkeys_any v1 v2 M M w' h1 h2 (by omega) (by omega))
      rw [decide_eq_true rfl] at EM
      have HB4 := Lib.hid (HB3.out.trans (hb4.mono HB3.out.size))
      have HO6 := Lib.hid ho6
      clear hb4 ho6 hcl IC SC HO1' HO2 HB3
      have H6L := Lib.hid (fun g (e : v6.ownBlock = some g) => (HO6.out.lt g e).2)
      go_wp2_with fail
      refine (TA.out _ HB4.out).mono ?_
      rintro e w5 ⟨g7, rfl, hg7, ho7, hb5⟩
      have HB5 := Lib.hid (HB4.out.trans (hb5.mono HB4.out.size))
      have HO6 := Lib.hid (own_below HO6.out hb5)
      have HO7 := Lib.hid ho7
      have HL7 := Lib.hid (ho7.lt g7 rfl)
      have HS5 := Lib.hid hb5.size
      have HW5 := Lib.hid HB5.out.size
      clear hb5 ho7 HB4
      go_wp2_with fail
      refine (TB.out _ HB5.out).mono ?_
      rintro e w6 ⟨g8, rfl, hg8, ho8, hb6⟩
      have HB6 := Lib.hid (HB5.out.trans (hb6.mono HB5.out.size))
      have HO6' := Lib.hid (own_below HO6.out hb6)
      have HO7' := Lib.hid (own_below HO7.out hb6)
      have HO8 := Lib.hid ho8
      have HL8 := Lib.hid (ho8.lt g8 rfl)
      have HS6 := Lib.hid hb6.size
      have HW6 := Lib.hid HB6.out.size
      clear hb6 ho8 HB5 HO6 HO7
      go_wp2_with fail
      refine (IC2.out _ _ _ _ (stAt_own HO7'.out) (keysAt_own HO8.out)).mono ?_
      rintro e w7 ⟨v9, rfl, ho9, hb7⟩
      have HZ7 := Lib.hid hb7.size
      have HB7 := Lib.hid (HB6.out.trans (hb7.mono HB6.out.size))
      have HO6 := Lib.hid (own_below HO6'.out hb7)
      have HO7 := Lib.hid (own_below HO7'.out hb7)
      have HO8' := Lib.hid (own_below HO8.out hb7)
      have HO9 := Lib.hid ho9
      have H9L := Lib.hid (fun g (e : v9.ownBlock = some g) => (HO9.out.lt g e).1)
      clear hb7 ho9 HB6 HO6' HO7' HO8
      go_wp2_with fail
      refine (EM.out _ _ _ (keysAt_own HO9.out) (keysAt_own HO6.out)).mono ?_
      rintro e w8 ⟨rfl, hb8⟩
      have HZ8 := Lib.hid (Nat.le_trans HZ7.out hb8.size)
      have HB8 := Lib.hid (HB7.out.trans (hb8.mono HB7.out.size))
      have HO6' := Lib.hid (own_below HO6.out hb8)
      have HO7' := Lib.hid (own_below HO7.out hb8)
      have HO8 := Lib.hid (own_below HO8'.out hb8)
      have HO9' := Lib.hid (own_below HO9.out hb8)
      clear hb8 HB7 HO6 HO7 HO8' HO9
      go_wp2_with fail
      refine (TA.out _ HB8.out).mono ?_
      rintro e w9 ⟨g10, rfl, hg10, ho10, hb9⟩
      have HZ9 := Lib.hid (Nat.le_trans HZ8.out hb9.size)
      have HB9 := Lib.hid (HB8.out.trans (hb9.mono HB8.out.size))
      have HO6 := Lib.hid (own_below HO6'.out hb9)
      have HO7 := Lib.hid (own_below HO7'.out hb9)
      have HO8' := Lib.hid (own_below HO8.out hb9)
      have HO9 := Lib.hid (own_below HO9'.out hb9)
      have HO10 := Lib.hid ho10
      clear hb9 ho10 hg10 HB8 HO6' HO7' HO8 HO9'
      go_wp2_with fail
      refine (ES.out _ _ _ (stAt_own HO7.out) (stAt_own HO10.out)).mono ?_
      rintro e w10 ⟨rfl, hb10⟩
      have HZ10 := Lib.hid (Nat.le_trans HZ9.out hb10.size)
      have HB10 := Lib.hid (HB9.out.trans (hb10.mono HB9.out.size))
      have HO6' := Lib.hid (own_below HO6.out hb10)
      have HO7' := Lib.hid (own_below HO7.out hb10)
      have HO8 := Lib.hid (own_below HO8'.out hb10)
      have HO9' := Lib.hid (own_below HO9.out hb10)
      clear hb10 HB9 HO6 HO7 HO8' HO9 HO10
      go_wp2_with fail
      refine (TB.out _ HB10.out).mono ?_
      rintro e w11 ⟨g11, rfl, hg11, ho11, hb11⟩
      have HZ11 := Lib.hid (Nat.le_trans HZ10.out hb11.size)
      have HB11 := Lib.hid (HB10.out.trans (hb11.mono HB10.out.size))
      have HO6 := Lib.hid (own_below HO6'.out hb11)
      have HO8' := Lib.hid (own_below HO8.out hb11)
      have HO9 := Lib.hid (own_below HO9'.out hb11)
      have HO11 := Lib.hid ho11
      clear hb11 ho11 hg11 HB10 HO6' HO7' HO8 HO9'
      go_wp2_with fail
      refine (EK.out _ _ _ (keysAt_own HO8'.out) (keysAt_own HO11.out)).mono ?_
      rintro e w12 ⟨rfl, hb12⟩
      have HZ12 := Lib.hid (Nat.le_trans HZ11.out hb12.size)
      have HB12 := Lib.hid (HB11.out.trans (hb12.mono HB11.out.size))
      have HO6' := Lib.hid (own_below HO6.out hb12)
      have HO8 := Lib.hid (own_below HO8'.out hb12)
      have HO9' := Lib.hid (own_below HO9.out hb12)
      clear hb12 HB11 HO6 HO8' HO9 HO11
      go_wp2_with fail
      refine (MS.out _ _).mono ?_
      rintro e w13 ⟨rfl, rfl⟩
      clear MS ES EK
      have m1 : ¬ 1 + 2 * (K.length : Int) < 0 := by omega
      have m1d : decide (1 + 2 * (K.length : Int) < 0) = false := decide_eq_false m1
      have m2 : ¬ 1 + 2 * (M.length : Int) < 0 := by omega
      have m2d : decide (1 + 2 * (M.length : Int) < 0) = false := decide_eq_false m2
      go_wp2_with fail
      refine (markkeys_any _ _ _ _ 1 _ HO8.out ⟨by omega, by omega⟩ (by omega) (by have := HS5.out; have := HS6.out; have := HB12.out.size; have h1 := (HO8.out.lt g8 rfl); omega)).mono ?_
      rintro e w14 ⟨rfl, -, hg14⟩
      have HB14 := Lib.hid (HB12.out.grown hg14 HB12.out.size (fun j e => by cases e; have h1 := HL8.out.1; have h2 := HW5.out; exact Nat.le_trans h2 h1))
      have HO6 := Lib.hid (HO6'.out.kept hg14 (by
        cases e : v6.ownBlock with
        | none => exact .inl rfl
        | some g => exact .inr (fun e2 => by have h1 := H6L.out g e; have h2 : g = g8 := Option.some.inj e2; have h3 := HL8.out.1; have h4 := HS5.out; omega)))
      have HO9 := Lib.hid (HO9'.out.kept hg14 (by
        cases e : v9.ownBlock with
        | none => exact .inl rfl
        | some g => exact .inr (fun e2 => by have h1 := H9L.out g e; have h2 : g = g8 := Option.some.inj e2; have h3 := HL8.out.2; omega)))
      have HZ14 := Lib.hid (show w6.heap.size ≤ w14.heap.size from by have := hg14.size; have := HL8.out; have h1 := HO8.out.lt g8 rfl; exact Nat.le_trans HZ12.out hg14.size)
      clear hg14 HO6' HO9' HO8 HB12 HZ12
      go_wp2_with fail
      refine (EM.out _ _ _ (keysAt_own HO9.out) (keysAt_own HO6.out)).mono ?_
      rintro e w15 ⟨rfl, hb15⟩
      have HB15 := Lib.hid (HB14.out.trans (hb15.mono HB14.out.size))
      have HO6' := Lib.hid (own_below HO6.out hb15)
      have HO9' := Lib.hid (own_below HO9.out hb15)
      have HZ15 := Lib.hid (Nat.le_trans HZ14.out hb15.size)
      clear hb15 HO6 HO9 HB14 HZ14
      go_wp2_with fail
      refine (markkeys_any _ _ _ _ 1 _ HO9'.out ⟨by omega, by omega⟩ (by omega) HZ15.out).mono ?_
      rintro e w16 ⟨rfl, ho16, hg16⟩
      have HB16 := Lib.hid (HB15.out.grown hg16 HB15.out.size (fun j e => Nat.le_trans HW6.out (H9L.out j e)))
      have HO6 := Lib.hid (HO6'.out.kept hg16 (by
        cases e : v6.ownBlock with
        | none => exact .inl rfl
        | some g => exact .inr (fun e2 => by have h1 := H6L.out g e; have h2 := H9L.out g e2.symm; have h3 := HS5.out; have h4 := HS6.out; omega)))
      have HO9 := Lib.hid ho16
      clear hg16 ho16 HO6' HO9' HB15 HZ15
      go_wp2_with fail
      refine (heldkeys_any _ _ 1 _ (keysAt_mk HO9.out) ⟨by omega, by omega⟩ (by omega)).mono ?_
      rintro e w17 ⟨rfl, rfl⟩
      go_wp2_with fail
      refine (TA.out _ HB16.out).mono ?_
      rintro e w18 ⟨g18, rfl, hg18, ho18, hb18⟩
      have HB18 := Lib.hid (HB16.out.trans (hb18.mono HB16.out.size))
      have HO6' := Lib.hid (own_below HO6.out hb18)
      have HO9' := Lib.hid (own_below HO9.out hb18)
      have HO18 := Lib.hid ho18
      clear hb18 ho18 hg18 HO6 HO9 HB16
      go_wp2_with fail
      refine (TB.out _ HB18.out).mono ?_
      rintro e w19 ⟨g19, rfl, hg19, ho19, hb19⟩
      have HB19 := Lib.hid (HB18.out.trans (hb19.mono HB18.out.size))
      have HO6 := Lib.hid (own_below HO6'.out hb19)
      have HO9 := Lib.hid (own_below HO9'.out hb19)
      have HO18' := Lib.hid (own_below HO18.out hb19)
      have HO19 := Lib.hid ho19
      clear hb19 ho19 hg19 HO6' HO9' HO18 HB18
      go_wp2_with fail
      refine (IC2.out _ _ _ _ (stAt_own HO18'.out) (keysAt_own HO19.out)).mono ?_
      rintro e w20 ⟨v13, rfl, ho20, hb20⟩
      have HB20 := Lib.hid (HB19.out.trans (hb20.mono HB19.out.size))
      have HO6' := Lib.hid (own_below HO6.out hb20)
      have HO9' := Lib.hid (own_below HO9.out hb20)
      have HO20 := Lib.hid ho20
      clear hb20 ho20 HO6 HO9 HO18' HO19 HB19
      go_wp2_with fail
      refine (EM.out _ _ _ (keysAt_own HO20.out) (keysAt_own HO6'.out)).mono ?_
      rintro e w21 ⟨rfl, hb21⟩
      have HB21 := Lib.hid (HB20.out.trans (hb21.mono HB20.out.size))
      have HO9 := Lib.hid (own_below HO9'.out hb21)
      clear hb21 HO9' HO6' HO20 HB20
      go_wp2_with fail
      refine (heldkeys_any _ _ 1 _ (keysAt_mk HO9.out) ⟨by omega, by omega⟩ (by omega)).mono ?_
      rintro e w22 ⟨rfl, rfl⟩
      go_wp2_with fail
      go_ret
      exact ⟨rfl, HB21.out⟩
    · have Z2 := Lib.hid (fun w => szkeys_any vb K (1048576 - (S.length : Int)) w hsB (by omega) (by omega))
      rw [if_pos (by omega)] at Z2
      have n1 : ¬ 1048576 - (S.length : Int) < 0 := by omega
      go_enter Try.func6, Try.ntmps6
      go_wp2_with fail
      refine (S1.out _).mono ?_
      rintro e w1 ⟨rfl, rfl⟩
      go_wp2_with fail
      refine (Z2.out _).mono ?_
      rintro e w1' ⟨rfl, rfl⟩
      go_wp2_with fail
      go_ret
      exact ⟨rfl, Below.refl _ _⟩
  · have S1 := Lib.hid (fun w => szsets_any va S 1048576 w hsA (by omega) (by omega))
    rw [if_pos (by omega)] at S1
    go_enter Try.func6, Try.ntmps6
    go_wp2_with fail
    refine (S1.out _).mono ?_
    rintro e w1 ⟨rfl, rfl⟩
    go_wp2_with fail
    go_ret
    exact ⟨rfl, Below.refl _ _⟩
end Go.Proofs.Ytbbjpjkclealfaa
namespace Go.Proofs.Ytbbjpjkclealfaa
open Go.ChangeShapes Go.WideShapes Go.ChangeAt Go.RowKit Go.Deep
set_option linter.unusedVariables false
set_option linter.unusedSimpArgs false

set_option maxRecDepth 10000 in
theorem key_cells_read {H : Type} {enc : TypeId × Value → H} {W : World} {base : Nat} {sp : Nat → Bool} {held : Bool} {n : Nat} {cs : List Value} {x : DataW H × List MemPlace} (hl : cs.length = 2)
    (h : DataW.trod enc Try.prog W base sp held n 111 cs = some x) : ∃ k : K2, cs = [.int .i64 k.1, .int .i64 k.2] := by
  have c0 : Try.prog.cellsOf 3 = 1 := by kernel_rfl
  match cs, hl with
  | [a, b], _ =>
    obtain ⟨xs, k, hk, hxy, _, hxl, hf⟩ := DataW.trod_struct Try.underlying111 h
    match xs, hxl with
    | [y0, y1], _ =>
      have g0 := hf 0 _ rfl
      have g1 := hf 1 _ rfl
      simp [c0] at g0 g1
      obtain ⟨z0, e0, -, -⟩ := DataW.trod_int Try.underlying3 g0
      obtain ⟨z1, e1, -, -⟩ := DataW.trod_int Try.underlying3 g1
      cases e0; cases e1
      exact ⟨(z0, z1), rfl⟩
set_option maxRecDepth 10000 in
theorem set_cells_read {H : Type} {enc : TypeId × Value → H} {W : World} {base : Nat} {sp : Nat → Bool} {held : Bool} {n : Nat} {cs : List Value} {x : DataW H × List MemPlace} (hl : cs.length = 4)
    (h : DataW.trod enc Try.prog W base sp held n 112 cs = some x) : ∃ s : S2, cs = [.int .i64 s.1.1, .int .i64 s.1.2, .int .i64 s.2.1, .int .i64 s.2.2] := by
  have c0 : Try.prog.cellsOf 111 = 2 := by kernel_rfl
  match cs, hl with
  | [a, b, c, d], _ =>
    obtain ⟨xs, m, -, -, -, hxl, hf⟩ := DataW.trod_array Try.underlying112 h
    match xs, hxl with
    | [y0, y1], _ =>
      have g0 := hf 0 (by omega)
      have g1 := hf 1 (by omega)
      rw [c0] at g0 g1
      obtain ⟨k0, e0⟩ := key_cells_read rfl g0
      obtain ⟨k1, e1⟩ := key_cells_read rfl g1
      simp at e0 e1
      obtain ⟨rfl, rfl⟩ := e0
      obtain ⟨rfl, rfl⟩ := e1
      exact ⟨(k0, k1), rfl⟩
set_option maxRecDepth 20000 in
theorem open_sets {H : Type} {enc : TypeId × Value → H} {W : World} {r : Reach} {b0 : Nat} {v : Value} {d : DataW H} {p : List MemPlace} (hv : Value.okWide Try.prog W r b0 51 v) (h : DataW.Trod enc Try.prog W 0 (fun _ => true) true 51 v d p) :
    ∃ S : List S2, stAt W v S ∧ S.length ≤ maxLen := by
  have hC : Try.prog.cellsOf 112 = 4 := by kernel_rfl
  obtain ⟨a, len, cap, rfl⟩ := okWide_slice Try.underlying51 hv
  obtain ⟨fuel, hf⟩ := h
  rcases open_slice Try.underlying51 hf with ⟨hcs, -⟩ | ⟨x, l, c, m, n, D, Pl, hcs, -, hl, hm, hmm, -, hx⟩
  · simp [Value.cells] at hcs
    obtain ⟨rfl, rfl, rfl⟩ := hcs
    exact ⟨[], ⟨none, 0, rfl, by simp, .inl rfl⟩, by simp⟩
  · simp [Value.cells] at hcs
    obtain ⟨rfl, rfl, rfl⟩ := hcs
    have hmc : len ≤ m := by rw [hmm]; simp; omega
    have hev : ∀ i, i < len → ∃ s : S2, (W.cell? (x.add (i * 4)) = some (.int .i64 s.1.1) ∧ W.cell? (x.add (i * 4 + 1)) = some (.int .i64 s.1.2)) ∧ W.cell? (x.add (i * 4 + 2)) = some (.int .i64 s.2.1) ∧ W.cell? (x.add (i * 4 + 3)) = some (.int .i64 s.2.2) := by
      intro i hi
      obtain ⟨cs', h1, h2⟩ := hx i (by omega)
      rw [hC] at h1
      obtain ⟨_, hlen, hcell⟩ := World.cells?_some h1
      obtain ⟨s, rfl⟩ := set_cells_read hlen h2
      have e0 := hcell 0 (by omega)
      have e1 := hcell 1 (by omega)
      have e2 := hcell 2 (by omega)
      have e3 := hcell 3 (by omega)
      rw [add_add] at e0 e1 e2 e3
      exact ⟨s, ⟨by simpa using e0, by simpa using e1⟩, by simpa using e2, by simpa using e3⟩
    obtain ⟨f, hf2⟩ := choose_lt hev
    refine ⟨(List.range len).map f, ⟨some x, cap, by simp, by simpa using hl, ?_⟩, by simp; omega⟩
    simp only [List.length_map, List.length_range]
    rcases Nat.eq_zero_or_pos len with h0 | h0
    · exact .inl h0
    · obtain ⟨b, off, spot⟩ := x
      have hc := (hf2 0 h0).1.1
      have hs : spot = none := by simpa [Addr.add] using World.cell?_spot hc
      subst hs
      have hadd : ∀ j, (⟨b, off, none⟩ : Addr).add j = ⟨b, off + j, none⟩ := by
        intro j
        unfold Addr.add
        split
        · rename_i h; simp [h]
        · rfl
      refine .inr ⟨b, off, rfl, World.block_lt_of_cell? W ⟨b, off, none⟩ (by simpa [Addr.add] using hc), fun i hi => ?_⟩
      have e : ((List.range len).map f).getD i s0 = f i := by simp [List.getD, hi]
      have := hf2 i hi
      rw [hadd, hadd, hadd, hadd] at this
      rw [e]
      exact this
end Go.Proofs.Ytbbjpjkclealfaa
namespace Go.Proofs.Ytbbjpjkclealfaa
open Go.ChangeShapes Go.WideShapes Go.ChangeAt Go.RowKit Go.Deep
set_option linter.unusedVariables false

set_option maxRecDepth 20000 in
theorem open_keys {H : Type} {enc : TypeId × Value → H} {W : World} {r : Reach} {b0 : Nat} {v : Value} {d : DataW H} {p : List MemPlace} (hv : Value.okWide Try.prog W r b0 52 v) (h : DataW.Trod enc Try.prog W 0 (fun _ => true) true 52 v d p) : ∃ ks : List K2, keysAt W v ks ∧ ks.length ≤ maxLen := by
  obtain ⟨a, len, cap, rfl⟩ := okWide_slice Try.underlying52 hv
  obtain ⟨fuel, hf⟩ := h
  rcases open_slice_pairs Try.underlying52 Try.underlying111 (by kernel_rfl) rfl rfl (by kernel_rfl) (by kernel_rfl) hf with ⟨hcs, -⟩ | ⟨x, l, c, m, n, V0, V1, D0, D1, P0, P1, hcs, -, hl, hm, hmm, -, hx⟩
  · simp [Value.cells] at hcs
    obtain ⟨rfl, rfl, rfl⟩ := hcs
    exact ⟨[], ⟨none, 0, rfl, by simp, .inl rfl⟩, by simp⟩
  · simp [Value.cells] at hcs
    obtain ⟨rfl, rfl, rfl⟩ := hcs
    have hmc : len ≤ m := by rw [hmm]; simp; omega
    have hev : ∀ i, i < len → ∃ k : K2, W.cell? (x.add (i * 2)) = some (.int .i64 k.1) ∧ W.cell? (x.add (i * 2 + 1)) = some (.int .i64 k.2) := by
      intro i hi
      obtain ⟨h0, h1, t0, t1⟩ := hx i (by omega)
      obtain ⟨z0, e0, -, -⟩ := DataW.trod_int Try.underlying3 t0
      obtain ⟨z1, e1, -, -⟩ := DataW.trod_int Try.underlying3 t1
      have e0 : V0 i = .int .i64 z0 := (List.cons.inj e0).1
      have e1 : V1 i = .int .i64 z1 := (List.cons.inj e1).1
      exact ⟨(z0, z1), by rw [h0, e0], by rw [h1, e1]⟩
    obtain ⟨f, hf2⟩ := choose_lt hev
    refine ⟨(List.range len).map f, ⟨some x, cap, by simp, by simpa using hl, ?_⟩, by simp; omega⟩
    simp only [List.length_map, List.length_range]
    rcases Nat.eq_zero_or_pos len with h0 | h0
    · exact .inl h0
    · obtain ⟨b, off, spot⟩ := x
      have hc := (hf2 0 h0).1
      have hs : spot = none := by simpa [Addr.add] using World.cell?_spot hc
      subst hs
      have hadd : ∀ j, (⟨b, off, none⟩ : Addr).add j = ⟨b, off + j, none⟩ := by
        intro j
        unfold Addr.add
        split
        · rename_i h; simp [h]
        · rfl
      refine .inr ⟨b, off, rfl, World.block_lt_of_cell? W ⟨b, off, none⟩ (by simpa [Addr.add] using hc), fun i hi => ?_⟩
      have e : ((List.range len).map f).getD i (0, 0) = f i := by simp [List.getD, hi]
      have := hf2 i hi
      rw [hadd, hadd] at this
      rw [e]
      exact this
end Go.Proofs.Ytbbjpjkclealfaa
