/- The program's chapter 4, walked: a reading learned. -/
import Derived.Test.YtbkeggklfaepnaaRdLm
import Derived.Test.YtbkeggklfaepnaaRdMp
namespace Go.Proofs.Ytbkeggklfaepnaa
open Go.ChangeShapes Go.WideShapes Go.ChangeAt Go.RowKit Go.BigFrame Go.Maps
set_option linter.unusedVariables false

theorem arr_sz : ∀ w : World, (sizeOf 5).run Try.prog w = .ok 1 w := by
  obtain ⟨i0, h1, h2⟩ : ∃ i, Try.prog.info? 5 = some i ∧ i.size = 1 := by
    have h : (Try.prog.info? 5).map (·.size) = some 1 := by kernel_rfl
    cases hq : Try.prog.info? 5 with
    | none => rw [hq] at h; simp at h
    | some i => rw [hq] at h; exact ⟨i, rfl, by simpa using h⟩
  intro w
  simp [sizeOf, typeInfo, h1, h2]
theorem arr4_cell (y : ByteArray) : arr4 y = .agg (y.data.toList.map Extern.Stop.cell).toArray := rfl
theorem arr_eql (x y : ByteArray) (hx : x.size = 4) (hy : y.size = 4) (w : World) : (binOp .eql 60 (arr4 x) (arr4 y)).run Try.prog w = .ok (.bool (x.data.toList == y.data.toList)) w :=
  run_eql_bytes w 60 5 4 Try.underlying60 Try.underlying5 arr_sz _ _ (by simpa using hx) (by simpa using hy)
theorem arr_guard (op : BinOp) (x y : Operand) (a b : ByteArray) (w : World) : (eqGuard op 60 x y (arr4 a) (arr4 b)).run Try.prog w = .ok () w := by
  unfold arr4
  exact run_eqGuard_agg w op 60 x y _ _ (by kernel_rfl)
def zero4 : ByteArray := ⟨#[0, 0, 0, 0]⟩
theorem zeroA (w : World) : (zeroValue 60).run Try.prog w = .ok (arr4 zero4) w := by
  show _ = Result.ok (Value.agg #[.int .u8 0, .int .u8 0, .int .u8 0, .int .u8 0]) w
  kernel_rfl
theorem look_arr {w : World} {b n : Nat} {rs : List R3} {x : K2} (h : w.ownsMap Try.prog 26 fourE b n (loadsD rs (.map []))) (hok : rdsOkR rs = true) (hx : keyOkB x = true) :
    (Instr.lookup 62 (.map (some b)) (kv x) true).run Try.prog w = .ok (.tuple #[arr4 ((loadO rs x).getD zero4), .bool (loadO rs x).isSome]) w := by
  obtain ⟨v, ps, hr, hv⟩ := h.look_ok (e := 60) keyLawR Try.underlying62 (zeroA w) (fourE_arr zero4) (keyR_of x (keyWf hx).1 (keyWf hx).2)
  have hat := loadsD_at x hx rs (.map []) ⟨[], rfl⟩ (fun r hr => (rdOk_key ((rdsOk_keys hok).1 r hr)).1) (rising_ne (rdsOk_keys hok).2)
  cases ho : loadO rs x with
  | none =>
    rw [ho] at hat
    rw [hat.1] at hv
    have hv2 : fourE v = some (fourD zero4, ps) := hv
    rw [hr, fourE_inv hv2, hat.2]; rfl
  | some l =>
    rw [ho] at hat
    rw [hat.1] at hv
    rw [hr, fourE_inv hv, hat.2]; rfl
theorem loadO_mem : ∀ (rs : List R3) (x : K2) (l : ByteArray), loadO rs x = some l → ∃ r ∈ rs, r.1 = x ∧ r.2 = l
  | [], _, _, h => by simp [loadO] at h
  | r :: t, x, l, h => by
    unfold loadO at h
    by_cases he : r.1 = x
    · rw [if_pos (by simpa using he)] at h
      exact ⟨r, by simp, he, by simpa using h⟩
    · rw [if_neg (by simpa using he)] at h
      obtain ⟨q, hq, h2⟩ := loadO_mem t x l h
      exact ⟨q, List.mem_cons_of_mem _ hq, h2⟩
theorem arr4_lit (y : ByteArray) (h : y.size = 4) : ∃ a b c d : Int, arr4 y = .agg #[.int .u8 a, .int .u8 b, .int .u8 c, .int .u8 d] := by
  obtain ⟨a, b, c, d, hd⟩ := four_bytes y h
  exact ⟨a.toNat, b.toNat, c.toNat, d.toNat, by unfold arr4; rw [hd]; rfl⟩
theorem zero_aft {w0 w : World} (hb : Below (w0.alloc (.cells #[.int .u8 0, .int .u8 0, .int .u8 0, .int .u8 0] 60)).drew.heap.size (w0.alloc (.cells #[.int .u8 0, .int .u8 0, .int .u8 0, .int .u8 0] 60)).drew w) :
    w.cell? ⟨w0.heap.size, 0, none⟩ = some (.int .u8 0) ∧ w.cell? ⟨w0.heap.size, 1, none⟩ = some (.int .u8 0) ∧ w.cell? ⟨w0.heap.size, 2, none⟩ = some (.int .u8 0) ∧ w.cell? ⟨w0.heap.size, 3, none⟩ = some (.int .u8 0) ∧
    w.frozen? ⟨w0.heap.size, 0, none⟩ = false ∧ w.frozen? ⟨w0.heap.size, 1, none⟩ = false ∧ w.frozen? ⟨w0.heap.size, 2, none⟩ = false ∧ w.frozen? ⟨w0.heap.size, 3, none⟩ = false ∧
    w.heap[w0.heap.size]? = some (.cells #[.int .u8 0, .int .u8 0, .int .u8 0, .int .u8 0] 60) := by
  have h := (hb.block w0.heap.size (by simp)).trans (show (w0.alloc (.cells #[.int .u8 0, .int .u8 0, .int .u8 0, .int .u8 0] 60)).drew.heap[w0.heap.size]? = _ from heap_alloc_new w0 _)
  exact ⟨by rw [cell_of_row _ _ 0 _ _ _ h]; rfl, by rw [cell_of_row _ _ 1 _ _ _ h]; rfl, by rw [cell_of_row _ _ 2 _ _ _ h]; rfl, by rw [cell_of_row _ _ 3 _ _ _ h]; rfl, by simp [World.frozen?, h], by simp [World.frozen?, h], by simp [World.frozen?, h], by simp [World.frozen?, h], h⟩
structure LiK (w W : World) (b6 : Nat) (n s : Int) (y : ByteArray) (a0 a1 a2 a3 : Int) : Prop where
  below : Below w.heap.size w W
  rowB : W.heap[w.heap.size]? = some (.cells #[.int .i64 n, .int .i64 s, .string y] 28)
  row6 : W.heap[b6]? = some (.cells #[.int .u8 a0, .int .u8 a1, .int .u8 a2, .int .u8 a3] 60)
theorem li_a {w w3 : World} {n s : Int} {y : ByteArray} (hb : Below w.heap.size w w3) (hx : w3.heap[w.heap.size]? = some (.cells #[.int .i64 n, .int .i64 s, .string y] 28)) (a0 a1 a2 a3 : Int) :
    LiK w (w3.alloc (.cells #[.int .u8 a0, .int .u8 a1, .int .u8 a2, .int .u8 a3] 60)) w3.heap.size n s y a0 a1 a2 a3 :=
  ⟨hb.alloc hb.size _, (Below.heap_alloc _ _ _ (Array.getElem?_eq_some_iff.1 hx).1).trans hx, heap_alloc_new w3 _⟩
theorem li_b {w w3 : World} {n s : Int} {y : ByteArray} {b6 : Nat} (hb : Below w.heap.size w w3) (hx : w3.heap[w.heap.size]? = some (.cells #[.int .i64 n, .int .i64 s, .string y] 28)) (hl : w.heap.size < b6)
    (hz : w3.heap[b6]? = some (.cells #[.int .u8 0, .int .u8 0, .int .u8 0, .int .u8 0] 60)) (a0 a1 a2 a3 : Int) :
    LiK w ((((w3.setCell ⟨b6, 0, none⟩ (.int .u8 a0)).setCell ⟨b6, 1, none⟩ (.int .u8 a1)).setCell ⟨b6, 2, none⟩ (.int .u8 a2)).setCell ⟨b6, 3, none⟩ (.int .u8 a3)) b6 n s y a0 a1 a2 a3 := by
  refine ⟨(((hb.setCell (p := ⟨b6, 0, none⟩) (Nat.le_of_lt hl) _).setCell (p := ⟨b6, 1, none⟩) (Nat.le_of_lt hl) _).setCell (p := ⟨b6, 2, none⟩) (Nat.le_of_lt hl) _).setCell (p := ⟨b6, 3, none⟩) (Nat.le_of_lt hl) _, ?_, set_cellsR _ (set_cellsR _ (set_cellsR _ (set_cellsR _ hz)))⟩
  have hne : ∀ (w' : World) (j : Nat) (u : Value), (w'.setCell ⟨b6, j, none⟩ u).heap[w.heap.size]? = w'.heap[w.heap.size]? := fun w' j u => Below.heap_setCell _ _ _ _ (by simp; omega)
  rw [hne, hne, hne, hne]; exact hx
set_option maxRecDepth 100000 in
set_option maxHeartbeats 2000000 in
theorem ilearn_bad (v : Value) (rs : List R3) (r : R3) (w : World) (h : rdAt w v rs) (hs : rs.length ≤ 1900000) (hx : ∀ q ∈ rs, q.2.size ≤ 2000000) (hbad : ¬ (rdsOkR rs = true ∧ rdOkB r = true)) : Calls Try.prog 11 #[v, rv r] w fun e w' => ∃ v', e = .returned (.tuple #[v', .int .i64 3]) ∧
    w'.ownsRow w.heap.size 28 3 v' rs.length (rdCells rs) ∧ Below w.heap.size w w' := by
  have HC := Lib.hid (fun w' (hb : Below w.heap.size w w') => icopyrds_any v rs w' (rdAt_below h hb) (by omega) hx)
  have HR := Lib.hid (fun w' => ireadingok_any r w')
  have HS := Lib.hid (fun w' (hb : Below w.heap.size w w') => ireadingsok_any v rs w' (rdAt_below h hb) (by omega))
  obtain ⟨⟨n, s⟩, y⟩ := r
  unfold rv at *
  dsimp only at *
  have HB0 := Lib.hid ((Below.refl w.heap.size w).alloc (Nat.le_refl _) (.cells #[.int .i64 n, .int .i64 s, .string y] 28))
  clear h hx
  go_enter Try.func11, Try.ntmps11
  cases hk2 : rdOkB ((n, s), y) with
  | false =>
    rw [hk2] at HR
    go_wp2_with fail
    refine (HR.out _).mono ?_
    rintro e w1 ⟨rfl, hb1⟩
    have HB1 := Lib.hid (HB0.out.trans (hb1.mono HB0.out.size))
    go_wp2_with fail
    refine (HC.out _ HB1.out).mono ?_
    rintro e w2 ⟨v2, rfl, hown2, hb2⟩
    have HF := Lib.hid (And.intro (own_base hown2 HB1.out.size) (HB1.out.trans (hb2.mono HB1.out.size)))
    clear hown2 hb2 hb1
    go_wp2
    go_ret2
    exact ⟨_, rfl, HF.out.1, HF.out.2⟩
  | true =>
    have hk : rdsOkR rs = false := by
      cases hq : rdsOkR rs with
      | false => rfl
      | true => exact absurd ⟨hq, hk2⟩ hbad
    rw [hk2] at HR
    rw [hk] at HS
    go_wp2_with fail
    refine (HR.out _).mono ?_
    rintro e w1 ⟨rfl, hb1⟩
    have HB1 := Lib.hid (HB0.out.trans (hb1.mono HB0.out.size))
    go_wp2_with fail
    refine (HS.out _ HB1.out).mono ?_
    rintro e w2 ⟨rfl, hb2⟩
    have HB2 := Lib.hid (HB1.out.trans (hb2.mono HB1.out.size))
    clear hb1 hb2
    go_wp2_with fail
    refine (HC.out _ HB2.out).mono ?_
    rintro e w3 ⟨v3, rfl, hown3, hb3⟩
    have HF := Lib.hid (And.intro (own_base hown3 HB2.out.size) (HB2.out.trans (hb3.mono HB2.out.size)))
    clear hown3 hb3
    go_wp2
    go_ret2
    exact ⟨_, rfl, HF.out.1, HF.out.2⟩
set_option maxRecDepth 100000 in
set_option maxHeartbeats 2000000 in
theorem ilearn_new (v : Value) (rs : List R3) (r : R3) (w : World) (h : rdAt w v rs) (hs : rs.length ≤ 1900000) (hx : ∀ q ∈ rs, q.2.size ≤ 2000000) (hok : rdsOkR rs = true) (hkr : rdOkB r = true) (hl : loadO rs r.1 = none) : Calls Try.prog 11 #[v, rv r] w fun e w' => ∃ v', e = .returned (.tuple #[v', .int .i64 0]) ∧ w'.ownsRow w.heap.size 28 3 v' (rs.length + 1) (rdCells (rs.take (aheadN rs r.1) ++ r :: rs.drop (aheadN rs r.1))) ∧ Below w.heap.size w w' := by
  have HC := Lib.hid (fun w' (hb : Below w.heap.size w w') => icopyrds_any v rs w' (rdAt_below h hb) (by omega) hx)
  have HR := Lib.hid (fun w' => ireadingok_any r w')
  have HS := Lib.hid (fun w' (hb : Below w.heap.size w w') => ireadingsok_any v rs w' (rdAt_below h hb) (by omega))
  have HL := Lib.hid (fun w' (hb : Below w.heap.size w w') => ilearned_any v rs r w' (rdAt_below h hb) hs hx (by have := (rdOk_key hkr).2; omega))
  have HLO := Lib.hid (fun w' (hb : Below w.heap.size w w') => iloadsof_any v rs w' (rdAt_below h hb) (by omega) (rdsOk_keys hok).1)
  have HLK := Lib.hid (fun (w' : World) (b n : Nat) (h' : w'.ownsMap Try.prog 26 fourE b n (loadsD rs (.map []))) => look_arr h' hok (rdOk_key hkr).1)
  have HLB := Lib.hid (fun w' => iloadbytes_any r.2 w' (rdOk_key hkr).2)
  rw [hkr] at HR
  rw [hok] at HS
  rw [hl] at HLK
  obtain ⟨a0, a1, a2, a3, ha⟩ := arr4_lit zero4 rfl
  rw [show (none : Option ByteArray).getD zero4 = zero4 from rfl, show (none : Option ByteArray).isSome = false from rfl, ha] at HLK
  clear hl ha
  obtain ⟨⟨n, s⟩, y⟩ := r
  unfold rv kv at *
  dsimp only at *
  have HB0 := Lib.hid ((Below.refl w.heap.size w).alloc (Nat.le_refl _) (.cells #[.int .i64 n, .int .i64 s, .string y] 28))
  have HX0 := Lib.hid (heap_alloc_new w (.cells #[.int .i64 n, .int .i64 s, .string y] 28))
  have HSZ := Lib.hid (show (w.alloc (.cells #[.int .i64 n, .int .i64 s, .string y] 28)).heap.size = w.heap.size + 1 by simp)
  clear h hx hkr hok
  go_enter Try.func11, Try.ntmps11
  go_wp2_with fail
  refine (HR.out _).mono ?_
  rintro e w1 ⟨rfl, hb1⟩
  have HB1 := Lib.hid (HB0.out.trans (hb1.mono HB0.out.size))
  have HX1 := Lib.hid ((hb1.block _ (by rw [HSZ.out]; omega)).trans HX0.out)
  clear hb1
  go_wp2_with fail
  refine (HS.out _ HB1.out).mono ?_
  rintro e w2 ⟨rfl, hb2⟩
  have HB2 := Lib.hid (HB1.out.trans (hb2.mono HB1.out.size))
  have hx2 : w2.heap[w.heap.size]? = some (.cells #[.int .i64 n, .int .i64 s, .string y] 28) := (hb2.block _ (Array.getElem?_eq_some_iff.1 HX1.out).1).trans HX1.out
  have d0 : w2.cell? ⟨w.heap.size, 0, none⟩ = some (.int .i64 n) := by rw [cell_of_row _ _ 0 _ _ _ hx2]; rfl
  have d1 : w2.cell? ⟨w.heap.size, 1, none⟩ = some (.int .i64 s) := by rw [cell_of_row _ _ 1 _ _ _ hx2]; rfl
  have hl2 : w.heap.size < w2.heap.size := (Array.getElem?_eq_some_iff.1 hx2).1
  have HX2 := Lib.hid hx2
  clear hb2 HB1 HX1 HB0 HX0 HR HS hx2
  go_wp2_with fail
  go_region_law (first
    | (go_simp
       go_at_call 35
       refine (HLO.out _ (by first | exact HB2.out.drew | exact HB2.out.drew.alloc HB2.out.drew.size _)).mono ?_
       rintro e w3 ⟨rfl, hown3, hb3⟩
       dsimp only
       simp only [World.size_alloc, World.size_drew] at hown3
       have hbw3 : Below w.heap.size w w3 := by first | exact HB2.out.drew.trans (hb3.mono HB2.out.drew.size) | exact (HB2.out.drew.alloc HB2.out.drew.size _).trans (hb3.mono (HB2.out.drew.alloc HB2.out.drew.size _).size)
       have hx3 : w3.heap[w.heap.size]? = some (.cells #[.int .i64 n, .int .i64 s, .string y] 28) := by
         first
           | exact (hb3.block _ hl2).trans HX2.out
           | exact (hb3.block _ (Nat.lt_of_lt_of_le hl2 (by simp))).trans ((Below.heap_alloc _ _ _ hl2).trans HX2.out)
       have c0 : w3.cell? ⟨w.heap.size, 0, none⟩ = some (.int .i64 n) := by rw [cell_of_row _ _ 0 _ _ _ hx3]; rfl
       have c1 : w3.cell? ⟨w.heap.size, 1, none⟩ = some (.int .i64 s) := by rw [cell_of_row _ _ 1 _ _ _ hx3]; rfl
       have lk1 := HLK.out _ _ _ hown3
       have lk2 := HLK.out _ _ _ (hown3.alloc (.cells #[.int .u8 0, .int .u8 0, .int .u8 0, .int .u8 0] 60))
       have hl3 : w.heap.size < w3.heap.size := (Array.getElem?_eq_some_iff.1 hx3).1
       try (have hz3 := zero_aft hb3
            obtain ⟨z0, z1, z2, z3, f0, f1, f2, f3, hzr⟩ := hz3
            have HZ3 := Lib.hid hzr
            have hl4 : w2.heap.size < w3.heap.size := (Array.getElem?_eq_some_iff.1 hzr).1
            clear hzr)
       have HB3 := Lib.hid hbw3; have HX3 := Lib.hid hx3
       clear hbw3 hx3 hown3 hb3))
  all_goals
    clear lk1 lk2 c0 c1 d0 d1 HX2 HB2 HLO HLK
    first
      | (have hF := li_b HB3.out HX3.out hl2 HZ3.out a0 a1 a2 a3
         generalize (((w3.setCell ⟨w2.heap.size, 0, none⟩ (.int .u8 a0)).setCell ⟨w2.heap.size, 1, none⟩ (.int .u8 a1)).setCell ⟨w2.heap.size, 2, none⟩ (.int .u8 a2)).setCell ⟨w2.heap.size, 3, none⟩ (.int .u8 a3) = W3 at *
         clear hl3 hl4 HB3 HX3 HZ3 z0 z1 z2 z3 f0 f1 f2 f3 hl2
         generalize w2.heap.size = b6 at *)
      | (have hF := li_a HB3.out HX3.out a0 a1 a2 a3
         generalize w3.alloc (.cells #[.int .u8 a0, .int .u8 a1, .int .u8 a2, .int .u8 a3] 60) = W3 at *
         generalize w3.heap.size = b6 at *
         clear hl3 HB3 HX3 hl2)
    have q0 : W3.cell? ⟨w.heap.size, 0, none⟩ = some (.int .i64 n) := by rw [cell_of_row _ _ 0 _ _ _ hF.rowB]; rfl
    have q1 : W3.cell? ⟨w.heap.size, 1, none⟩ = some (.int .i64 s) := by rw [cell_of_row _ _ 1 _ _ _ hF.rowB]; rfl
    have q2 : W3.cell? ⟨w.heap.size, 2, none⟩ = some (.string y) := by rw [cell_of_row _ _ 2 _ _ _ hF.rowB]; rfl
    have HF := Lib.hid hF
    clear hF
    go_wp2_with fail
    refine (HL.out _ HF.out.below).mono ?_
    rintro e w4 ⟨v4, rfl, hown4, hb4⟩
    have HE := Lib.hid (And.intro (own_base hown4 HF.out.below.size) (HF.out.below.trans (hb4.mono HF.out.below.size)))
    clear hown4 hb4 q0 q1 q2
    go_wp2
    go_ret2
    exact ⟨_, rfl, HE.out.1, HE.out.2⟩
end Go.Proofs.Ytbkeggklfaepnaa
