/- Texts of this seat, one behind the other (part 3): what the laws of chapter 5 lean on. -/
import Derived.Test.YtnknfmjpkphbpaaDoorPk2
import Derived.Deep.SlicePairs
import Derived.Lib.SmallJoins

set_option linter.unusedVariables false
set_option linter.unusedSimpArgs false

/- Words in the laws: what stands apart from what. -/
namespace Go.Proofs.YtnknfmjpkphbpaaDoor
open Go.ChangeShapes Go.WideShapes Go.ChangeAt Go.RowKit Go.BigFrame
set_option linter.unusedVariables false

theorem own_ne_row {w w' : World} {e : TypeId} {size n b : Nat} {v : Value} {xs : List Value} (h : w'.ownsRow w.heap.size e size v n xs) (hb : b < w.heap.size) : v.ownBlock ≠ some b :=
  fun e => absurd (h.lt _ e).1 (Nat.not_le.2 hb)
theorem own_ne_new {w : World} {base : Nat} {e : TypeId} {size n : Nat} {v : Value} {xs : List Value} (h : w.ownsRow base e size v n xs) : v.ownBlock ≠ some w.heap.size :=
  fun e => absurd (h.lt _ e).2 (Nat.lt_irrefl _)
theorem own_ne {w w' : World} {b1 : Nat} {e1 e2 : TypeId} {s1 s2 n1 n2 : Nat} {u v : Value} {xs ys : List Value} (hu : w.ownsRow b1 e1 s1 u n1 xs) (hv : w'.ownsRow w.heap.size e2 s2 v n2 ys) : u.ownBlock = none ∨ u.ownBlock ≠ v.ownBlock := by
  cases hq : u.ownBlock with
  | none => exact .inl rfl
  | some b =>
    refine .inr fun e => ?_
    have h1 := (hu.lt b hq).2
    have h2 := (hv.lt b e.symm).1
    omega
theorem own_ne' {w w' : World} {b1 : Nat} {e1 e2 : TypeId} {s1 s2 n1 n2 : Nat} {u v : Value} {xs ys : List Value} (hu : w.ownsRow b1 e1 s1 u n1 xs) (hv : w'.ownsRow w.heap.size e2 s2 v n2 ys) : v.ownBlock = none ∨ v.ownBlock ≠ u.ownBlock := by
  rcases own_ne hu hv with h | h
  · cases hq : v.ownBlock with
    | none => exact .inl rfl
    | some b => exact .inr (by rw [h]; simp)
  · exact .inr fun e => h e.symm
theorem szC_cases (left : Int) (n m : Nat) (hl : 0 ≤ left) : szC left n m < 0 ∨ (¬ szC left n m < 0 ∧ 0 ≤ szC left n m ∧ szC left n m ≤ left ∧ (n : Int) ≤ left ∧ (m : Int) ≤ left) := by
  unfold szC
  split
  · exact .inl (by omega)
  · split
    · exact .inl (by omega)
    · exact .inr (by omega)
theorem eqcode_self (va vb : Value) (A : List K2) (y : ByteArray) (w : World) (ha : keysAt w va A) (hb : keysAt w vb A) (hs : A.length ≤ 4000000) :
    Calls Tryd.prog 18 #[.agg #[va, .string y], .agg #[vb, .string y]] w fun e w' => e = .returned (.bool true) ∧ Below w.heap.size w w' := by
  have h := eqcode_any va A y vb A y w ha hb hs hs
  simpa using h
theorem samecode_self (va vb : Value) (A : List K2) (y : ByteArray) (w : World) (ha : keysAt w va A) (hb : keysAt w vb A) (hs : A.length ≤ 4000000) :
    Calls Tryd.prog 14 #[.agg #[va, .string y], .agg #[vb, .string y]] w fun e w' => e = .returned (.bool true) ∧ Below w.heap.size w w' := by
  have h := samecode_any va A y vb A y w ha hb hs hs
  simpa using h
theorem lcd_load {w' : World} {b : Nat} {v : Value} {y : ByteArray} (h : w'.heap[b]? = some (.cells #[v, .string y] 40)) :
    (loadVar 40 ⟨b, 0, none⟩).run Tryd.prog w' = .ok (.agg #[v, .string y]) w' := by
  obtain ⟨h0, h1, -, -⟩ := row2_of h
  refine run_loadVar_mid w' b 0 40 [v, .string y] _ (fun j u hj => ?_) Tryd.underlying40 rfl (by kernel_rfl)
  have hj2 : j < 2 := by have := (List.getElem?_eq_some_iff.1 hj).1; simpa using this
  rcases (by omega : j = 0 ∨ j = 1) with rfl | rfl
  · simpa using h0.trans (by simpa using hj)
  · simpa using h1.trans (by simpa using hj)
end Go.Proofs.YtnknfmjpkphbpaaDoor
/- A reading that is right, by the program. -/
namespace Go.Proofs.YtnknfmjpkphbpaaDoor
open Go.ChangeShapes Go.WideShapes Go.ChangeAt Go.RowKit Go.BigFrame
set_option linter.unusedVariables false

theorem ireadingok_any (r : R3) (w : World) : Calls Tryd.prog 28 #[rv r] w fun e w' => e = .returned (.bool (rdOkB r)) ∧ Below w.heap.size w w' := by
  obtain ⟨⟨n, s⟩, x⟩ := r
  unfold rdOkB rv
  dsimp only
  have hb : Below w.heap.size w (w.alloc (.cells #[.int .i64 n, .int .i64 s, .string x] 34)) := (Below.refl _ _).alloc (Nat.le_refl _) _
  have L1 := rdk_load (r := ((n, s), x)) (w := w.alloc (.cells #[.int .i64 n, .int .i64 s, .string x] 34)) (g := w.heap.size) (o := 0) ⟨by simp, by simp, by simp⟩ (by simp) (Below.refl _ _)
  have c2 : (w.alloc (.cells #[.int .i64 n, .int .i64 s, .string x] 34)).cell? ⟨w.heap.size, 2, none⟩ = some (.string x) := by simp
  have hlt : w.heap.size < (w.alloc (.cells #[.int .i64 n, .int .i64 s, .string x] 34)).heap.size := by simp
  have H1 := fun w => ikeyok_any (n, s) w
  go_enter Tryd.func28, Tryd.ntmps28
  have HZ := Lib.hid (show ((x.size : Int) = 4) = (x.size = 4) from propext (by omega))
  generalize keyOkB (n, s) = p at *
  dsimp only at L1
  cases p with
  | false =>
    go_wp2_with fail
    refine (H1 _).mono ?_
    rintro e w1 ⟨rfl, hb1⟩
    have hB := hb.trans (hb1.mono hb.size)
    go_wp2
    go_ret
    exact ⟨by simp, hB⟩
  | true =>
    go_wp2_with fail
    refine (H1 _).mono ?_
    rintro e w1 ⟨rfl, hb1⟩
    have hB := hb.trans (hb1.mono hb.size)
    have c3 : w1.cell? ⟨w.heap.size, 2, none⟩ = some (.string x) := (hb1.cell (p := ⟨w.heap.size, 2, none⟩) hlt).trans c2
    by_cases h4 : x.size = 4
    · have e4 : (x.size : Int) = 4 := by omega
      clear hb hb1 c2 H1 L1
      go_wp2
      go_ret
      exact ⟨by simp [h4], hB⟩
    · have e4 : ¬ (x.size : Int) = 4 := by omega
      clear hb hb1 c2 H1 L1
      go_wp2
      go_ret
      exact ⟨by simp [h4, e4], hB⟩
end Go.Proofs.YtnknfmjpkphbpaaDoor
/- The program's chapter 5, walked: a word of one reading. -/
namespace Go.Proofs.YtnknfmjpkphbpaaDoor
open Go.ChangeShapes Go.WideShapes Go.ChangeAt Go.RowKit Go.BigFrame
set_option linter.unusedVariables false

set_option maxRecDepth 100000 in
set_option maxHeartbeats 1000000 in
theorem isingle_any (r : R3) (w : World) :
    Calls Tryd.prog 11 #[rv r] w fun e w' => ∃ v', e = .returned (.agg #[v', .string (singM r).2]) ∧ w'.ownsRow w.heap.size 32 2 v' (singM r).1.length (keyCells (singM r).1) ∧ Below w.heap.size w w' := by
  have hs : singM r = if rdOkB r then ([r.1], r.2) else blankC := rfl
  have H1 := fun w => ireadingok_any r w
  have h4 : rdOkB r = true → r.2.size = 4 := by
    intro h
    simp only [rdOkB, Bool.and_eq_true, decide_eq_true_eq] at h
    exact h.2
  obtain ⟨⟨p, q⟩, y⟩ := r
  unfold rv at *
  dsimp only at *
  have hb1 := (Below.refl w.heap.size w).alloc (Nat.le_refl _) (.cells #[.int .i64 p, .int .i64 q, .string y] 34)
  have hb2 := hb1.alloc hb1.size (.cells #[.slice none 0 0, .string ⟨#[]⟩] 26)
  have hr1 := heap_first w (.cells #[.slice none 0 0, .string ⟨#[]⟩] 26) (.cells #[.int .i64 p, .int .i64 q, .string y] 34)
  have hr2 := heap_alloc_new (w.alloc (.cells #[.int .i64 p, .int .i64 q, .string y] 34)) (.cells #[.slice none 0 0, .string ⟨#[]⟩] 26)
  have e1 : (w.alloc (.cells #[.int .i64 p, .int .i64 q, .string y] 34)).heap.size = w.heap.size + 1 := by simp
  rw [e1] at hr2
  have e2 : ((w.alloc (.cells #[.int .i64 p, .int .i64 q, .string y] 34)).alloc (.cells #[.slice none 0 0, .string ⟨#[]⟩] 26)).heap.size = w.heap.size + 2 := by simp
  have HZ := Lib.hid e2
  have HB := Lib.hid hb2; have HR := Lib.hid hr2; have HX := Lib.hid hr1
  clear hb1 hb2 hr1 hr2 e1 e2
  obtain ⟨x0, x1, x2, -, -, -⟩ := row3_of HX.out
  go_enter Tryd.func11, Tryd.ntmps11
  go_wp2_with fail
  generalize (w.alloc (.cells #[.int .i64 p, .int .i64 q, .string y] 34)).alloc (.cells #[.slice none 0 0, .string ⟨#[]⟩] 26) = W at *
  refine (H1 _).mono ?_
  rintro e w1 ⟨rfl, hb1⟩
  have HB0 := Lib.hid (HB.out.trans (hb1.mono HB.out.size))
  have HRES := Lib.hid ((hb1.block _ (Array.getElem?_eq_some_iff.1 HR.out).1).trans HR.out)
  have HX1 := Lib.hid ((hb1.block _ (Array.getElem?_eq_some_iff.1 HX.out).1).trans HX.out)
  have HSZ := Lib.hid (show w.heap.size + 2 ≤ w1.heap.size by have := hb1.size; have := HZ.out; omega)
  clear hb1 x0 x1 x2 HB HR HX H1 HZ
  generalize hok : rdOkB ((p, q), y) = b at *
  have HS := Lib.hid hs
  clear hs hok
  cases b with
  | false =>
    go_wp2_with fail
    refine (iblank_any _ _ _).mono ?_
    rintro e w2 ⟨rfl, hb2⟩
    have hr2 := (hb2.block _ (Array.getElem?_eq_some_iff.1 HRES.out).1).trans HRES.out
    have hB2 := HB0.out.trans (hb2.mono HB0.out.size)
    obtain ⟨c0, c1, f0, f1⟩ := row2_of hr2
    have hlt := (Array.getElem?_eq_some_iff.1 hr2).1
    have L2 := Lib.hid (cd_res hr2 (.slice none 0 0) z4)
    have HF := Lib.hid (below2 hB2 (by omega : w.heap.size ≤ w.heap.size + 1) (.slice none 0 0) (.string z4))
    clear hb2 hr2 hB2 HB0 HRES HX1
    go_wp2_with fail
    refine bodyPost_ret (v := .agg #[.slice none 0 0, .string z4]) ?_ rfl ⟨_, by rw [HS.out]; rfl, by rw [HS.out]; exact World.ownsRow_nil _ _ _ _, HF.out⟩
    rw [results_cell (p := 2) (ty := 26) (by kernel_rfl)]
    have l2 := L2.out
    simp [asAddr, Result.andThen, l2]
  | true =>
    have HL := Lib.hid (fun w => iloadbytes_any y w (h4 rfl))
    have HC := Lib.hid (fun a n c w => icodeof_any a n c y (h4 rfl) w)
    have L1 : ∀ w' : World, w'.heap[w.heap.size]? = some (.cells #[.int .i64 p, .int .i64 q, .string y] 34) → (loadVar 32 ⟨w.heap.size, 0, none⟩).run Tryd.prog w' = .ok (.agg #[.int .i64 p, .int .i64 q]) w' := fun w' h => by
      obtain ⟨x0, x1, x2, -, -, -⟩ := row3_of h
      exact rdk_load (r := ((p, q), y)) (o := 0) ⟨x0, x1, x2⟩ (Array.getElem?_eq_some_iff.1 h).1 (Below.refl _ _)
    have L2 : ∀ w' : World, w'.heap[w.heap.size]? = some (.cells #[.int .i64 p, .int .i64 q, .string y] 34) → (loadVar 9 ⟨w.heap.size, 2, none⟩).run Tryd.prog w' = .ok (.string y) w' := fun w' h => load_one agg_str (row3_of h).c2
    clear h4
    go_wp2_with fail
    refine wp_region_G (fun w' => w'.heap[w.heap.size]? = some (.cells #[.int .i64 p, .int .i64 q, .string y] 34)) (by kernel_rfl) ?_
    replace HX1 := Lib.hid (show (World.drew _).heap[_]? = _ from HX1.out)
    replace HB0 := Lib.hid (HB0.out.drew)
    replace HRES := Lib.hid (show (World.drew _).heap[_]? = _ from HRES.out)
    replace HSZ := Lib.hid (show _ ≤ (World.drew _).heap.size from HSZ.out)
    generalize (w1).drew = wD at *
    refine wpG_seg [true, true, false, true, true] [2, 5] 3 (by kernel_rfl) (by intro c a d v w h; cases d <;> exact h) (by kernel_rfl) HX1.out ?_
    try simp only [maskRows]
    repeat (first
      | go_big_quiet_skip
      | (go_big_quiet_want
         first
           | (go_big_quiet_op; go_big_quiet_on)
           | (refine q_load 32 _ _ _ rfl rfl L1 ?_; simp only [Act.put, List.setIfInBounds_toArray, List.set_cons_zero, List.set_cons_succ]; go_big_quiet_on)
           | (refine q_load 9 _ _ _ rfl rfl L2 ?_; simp only [Act.put, List.setIfInBounds_toArray, List.set_cons_zero, List.set_cons_succ]; go_big_quiet_on)
           | (go_big_quiet_op; refine ⟨_, fun _ _ => rfl, ?_⟩; go_big_quiet_on)))
    refine wpQuiet_nil ?_
    refine List.forall_mem_cons.2 ⟨?_, List.forall_mem_singleton.2 ?_⟩
    · refine segt_run rfl (by rfl) (fun K hK => ?_)
      go_simp
      have HOn := Lib.hid (own_one (w := wD) (base := w.heap.size + 2) p q HSZ.out)
      replace HX1 := Lib.hid ((Below.heap_alloc _ (.cells #[.int .i64 p, .int .i64 q] 32) _ (Array.getElem?_eq_some_iff.1 HX1.out).1).trans HX1.out)
      replace HB0 := Lib.hid (HB0.out.alloc HB0.out.size (.cells #[.int .i64 p, .int .i64 q] 32))
      replace HRES := Lib.hid ((Below.heap_alloc _ (.cells #[.int .i64 p, .int .i64 q] 32) _ (Array.getElem?_eq_some_iff.1 HRES.out).1).trans HRES.out)
      replace HSZ := Lib.hid (Nat.le_trans HSZ.out (size_le_alloc _ (.cells #[.int .i64 p, .int .i64 q] 32)))
      generalize World.alloc (wD) (.cells #[.int .i64 p, .int .i64 q] 32) = w3 at *
      generalize (wD).heap.size = b3 at *
      have HO := HOn
      clear HOn
      refine hK _ _ ⟨_, fun _ h => h, HX1.out, ?_⟩
      clear hK K
      try simp only [Act.put, List.setIfInBounds_toArray, List.set_cons_zero, List.set_cons_succ]
      refine wpG_seg [] [5] 2 (by kernel_rfl) (by intro c a d v w h; cases d <;> exact h) (by kernel_rfl) HX1.out ?_
      try simp only [maskRows]
      refine wpQuiet_nil ?_
      refine List.forall_mem_singleton.2 ?_
      refine segt_run rfl (by rfl) (fun K hK => ?_)
      go_simp
      refine (HL.out _).mono ?_
      rintro e w4 ⟨rfl, hb⟩
      dsimp only
      replace HX1 := Lib.hid ((hb.block _ (Array.getElem?_eq_some_iff.1 HX1.out).1).trans HX1.out)
      replace HB0 := Lib.hid (HB0.out.trans (hb.mono HB0.out.size))
      replace HRES := Lib.hid ((hb.block _ (Array.getElem?_eq_some_iff.1 HRES.out).1).trans HRES.out)
      replace HSZ := Lib.hid (Nat.le_trans HSZ.out hb.size)
      replace HO := Lib.hid (own_below HO.out hb)
      clear hb
      refine hK _ _ ⟨_, fun _ h => h, HX1.out, ?_⟩
      clear hK K
      try simp only [Act.put, List.setIfInBounds_toArray, List.set_cons_zero, List.set_cons_succ]
      refine wpG_seg [] [6] 1 (by kernel_rfl) (by intro c a d v w h; cases d <;> exact h) (by kernel_rfl) HX1.out ?_
      try simp only [maskRows]
      refine wpQuiet_nil ?_
      refine List.forall_mem_singleton.2 ?_
      refine segt_run rfl (by rfl) (fun K hK => ?_)
      go_simp
      refine (HC.out _ _ _ _).mono ?_
      rintro e w5 ⟨rfl, hb⟩
      dsimp only
      replace HX1 := Lib.hid ((hb.block _ (Array.getElem?_eq_some_iff.1 HX1.out).1).trans HX1.out)
      replace HB0 := Lib.hid (HB0.out.trans (hb.mono HB0.out.size))
      replace HRES := Lib.hid ((hb.block _ (Array.getElem?_eq_some_iff.1 HRES.out).1).trans HRES.out)
      replace HSZ := Lib.hid (Nat.le_trans HSZ.out hb.size)
      replace HO := Lib.hid (own_below HO.out hb)
      clear hb
      obtain ⟨c0, c1, f0, f1⟩ := row2_of HRES.out
      have hlt := (Array.getElem?_eq_some_iff.1 HRES.out).1
      have HF := Lib.hid (And.intro (cd_res HRES.out (.slice (some ⟨b3, 0, none⟩) 1 1) y) (And.intro (own_base (own_set2 HO.out (by omega : w.heap.size + 1 < w.heap.size + 2) (.slice (some ⟨b3, 0, none⟩) 1 1) (.string y)) (by omega : w.heap.size ≤ w.heap.size + 2)) (below2 HB0.out (by omega : w.heap.size ≤ w.heap.size + 1) (.slice (some ⟨b3, 0, none⟩) 1 1) (.string y))))
      have HX2 := Lib.hid (row_set2 HX1.out (by omega : w.heap.size ≠ w.heap.size + 1) (.slice (some ⟨b3, 0, none⟩) 1 1) (.string y))
      refine hK _ _ ⟨_, fun _ h => h, HX1.out, ?_⟩
      clear hK K
      try simp only [Act.put, List.setIfInBounds_toArray, List.set_cons_zero, List.set_cons_succ]
      refine wpG_seg [] [7] 0 (by kernel_rfl) (by intro c a d v w h; cases d <;> exact h) (by kernel_rfl) HX1.out ?_
      try simp only [maskRows]
      refine wpQuiet_nil ?_
      refine List.forall_mem_singleton.2 ?_
      refine segt_run rfl (by rfl) (fun K hK => ?_)
      go_simp
      replace HX1 := HX2
      clear HX2 HRES HO HB0 c0 c1 f0 f1 hlt
      refine hK _ _ ⟨_, fun _ h => h, HX1.out, ?_⟩
      clear hK K
      try simp only [Act.put, List.setIfInBounds_toArray, List.set_cons_zero, List.set_cons_succ]
      refine wpG_end [] (by kernel_rfl) (by intro c a d v w h; cases d <;> exact h) (by kernel_rfl) HX1.out ?_
      try simp only [maskRows]
      refine wpQuiet_nil ?_
      go_wp2_with fail
      refine bodyPost_ret (v := .agg #[.slice (some ⟨b3, 0, none⟩) 1 1, .string y]) ?_ rfl ⟨_, by rw [HS.out]; rfl, by rw [HS.out]; exact HF.out.2.1, HF.out.2.2⟩
      rw [results_cell (p := 2) (ty := 26) (by kernel_rfl)]
      have l2 := HF.out.1
      simp [asAddr, Result.andThen, l2]
    · refine segt_run rfl (by rfl) (fun K hK => ?_)
      go_simp
      refine (HL.out _).mono ?_
      rintro e w3 ⟨rfl, hb⟩
      dsimp only
      replace HX1 := Lib.hid ((hb.block _ (Array.getElem?_eq_some_iff.1 HX1.out).1).trans HX1.out)
      replace HB0 := Lib.hid (HB0.out.trans (hb.mono HB0.out.size))
      replace HRES := Lib.hid ((hb.block _ (Array.getElem?_eq_some_iff.1 HRES.out).1).trans HRES.out)
      replace HSZ := Lib.hid (Nat.le_trans HSZ.out hb.size)
      clear hb
      refine hK _ _ ⟨_, fun _ h => h, HX1.out, ?_⟩
      clear hK K
      try simp only [Act.put, List.setIfInBounds_toArray, List.set_cons_zero, List.set_cons_succ]
      refine wpG_seg [] [2] 2 (by kernel_rfl) (by intro c a d v w h; cases d <;> exact h) (by kernel_rfl) HX1.out ?_
      try simp only [maskRows]
      refine wpQuiet_nil ?_
      refine List.forall_mem_singleton.2 ?_
      refine segt_run rfl (by rfl) (fun K hK => ?_)
      go_simp
      have HOn := Lib.hid (own_one (w := w3) (base := w.heap.size + 2) p q HSZ.out)
      replace HX1 := Lib.hid ((Below.heap_alloc _ (.cells #[.int .i64 p, .int .i64 q] 32) _ (Array.getElem?_eq_some_iff.1 HX1.out).1).trans HX1.out)
      replace HB0 := Lib.hid (HB0.out.alloc HB0.out.size (.cells #[.int .i64 p, .int .i64 q] 32))
      replace HRES := Lib.hid ((Below.heap_alloc _ (.cells #[.int .i64 p, .int .i64 q] 32) _ (Array.getElem?_eq_some_iff.1 HRES.out).1).trans HRES.out)
      replace HSZ := Lib.hid (Nat.le_trans HSZ.out (size_le_alloc _ (.cells #[.int .i64 p, .int .i64 q] 32)))
      generalize World.alloc (w3) (.cells #[.int .i64 p, .int .i64 q] 32) = w4 at *
      generalize (w3).heap.size = b3 at *
      have HO := HOn
      clear HOn
      refine hK _ _ ⟨_, fun _ h => h, HX1.out, ?_⟩
      clear hK K
      try simp only [Act.put, List.setIfInBounds_toArray, List.set_cons_zero, List.set_cons_succ]
      refine wpG_seg [] [6] 1 (by kernel_rfl) (by intro c a d v w h; cases d <;> exact h) (by kernel_rfl) HX1.out ?_
      try simp only [maskRows]
      refine wpQuiet_nil ?_
      refine List.forall_mem_singleton.2 ?_
      refine segt_run rfl (by rfl) (fun K hK => ?_)
      go_simp
      refine (HC.out _ _ _ _).mono ?_
      rintro e w5 ⟨rfl, hb⟩
      dsimp only
      replace HX1 := Lib.hid ((hb.block _ (Array.getElem?_eq_some_iff.1 HX1.out).1).trans HX1.out)
      replace HB0 := Lib.hid (HB0.out.trans (hb.mono HB0.out.size))
      replace HRES := Lib.hid ((hb.block _ (Array.getElem?_eq_some_iff.1 HRES.out).1).trans HRES.out)
      replace HSZ := Lib.hid (Nat.le_trans HSZ.out hb.size)
      replace HO := Lib.hid (own_below HO.out hb)
      clear hb
      obtain ⟨c0, c1, f0, f1⟩ := row2_of HRES.out
      have hlt := (Array.getElem?_eq_some_iff.1 HRES.out).1
      have HF := Lib.hid (And.intro (cd_res HRES.out (.slice (some ⟨b3, 0, none⟩) 1 1) y) (And.intro (own_base (own_set2 HO.out (by omega : w.heap.size + 1 < w.heap.size + 2) (.slice (some ⟨b3, 0, none⟩) 1 1) (.string y)) (by omega : w.heap.size ≤ w.heap.size + 2)) (below2 HB0.out (by omega : w.heap.size ≤ w.heap.size + 1) (.slice (some ⟨b3, 0, none⟩) 1 1) (.string y))))
      have HX2 := Lib.hid (row_set2 HX1.out (by omega : w.heap.size ≠ w.heap.size + 1) (.slice (some ⟨b3, 0, none⟩) 1 1) (.string y))
      refine hK _ _ ⟨_, fun _ h => h, HX1.out, ?_⟩
      clear hK K
      try simp only [Act.put, List.setIfInBounds_toArray, List.set_cons_zero, List.set_cons_succ]
      refine wpG_seg [] [7] 0 (by kernel_rfl) (by intro c a d v w h; cases d <;> exact h) (by kernel_rfl) HX1.out ?_
      try simp only [maskRows]
      refine wpQuiet_nil ?_
      refine List.forall_mem_singleton.2 ?_
      refine segt_run rfl (by rfl) (fun K hK => ?_)
      go_simp
      replace HX1 := HX2
      clear HX2 HRES HO HB0 c0 c1 f0 f1 hlt
      refine hK _ _ ⟨_, fun _ h => h, HX1.out, ?_⟩
      clear hK K
      try simp only [Act.put, List.setIfInBounds_toArray, List.set_cons_zero, List.set_cons_succ]
      refine wpG_end [] (by kernel_rfl) (by intro c a d v w h; cases d <;> exact h) (by kernel_rfl) HX1.out ?_
      try simp only [maskRows]
      refine wpQuiet_nil ?_
      go_wp2_with fail
      refine bodyPost_ret (v := .agg #[.slice (some ⟨b3, 0, none⟩) 1 1, .string y]) ?_ rfl ⟨_, by rw [HS.out]; rfl, by rw [HS.out]; exact HF.out.2.1, HF.out.2.2⟩
      rw [results_cell (p := 2) (ty := 26) (by kernel_rfl)]
      have l2 := HF.out.1
      simp [asAddr, Result.andThen, l2]
end Go.Proofs.YtnknfmjpkphbpaaDoor
/- A word drawn, a reading drawn; a word's text: the law on drawn words, walked. -/
namespace Go.Proofs.YtnknfmjpkphbpaaDoor
open Go.ChangeShapes Go.WideShapes Go.ChangeAt Go.RowKit Go.BigFrame
set_option linter.unusedVariables false

set_option maxRecDepth 100000 in
set_option maxHeartbeats 1000000 in
theorem drawcodetext_any (n₀ len cap : Nat) (a : Option Addr) (zs : List Int) (w : World) (hc : CodeAt n₀ w a len zs) (hw : n₀ ≤ w.heap.size) :
    Calls Tryd.prog 6 #[.slice a len cap] w fun e w' => ∃ (v : Value) (ks : List K2) (y : ByteArray), e = .returned (.agg #[v, .string y]) ∧ ks.length ≤ 7 ∧ y.size ≤ 5 ∧ w'.ownsRow w.heap.size 32 2 v ks.length (keyCells ks) ∧ Below w.heap.size w w' := by
  have HB0 := Lib.hid ((Below.refl w.heap.size w).alloc (Nat.le_refl _) (.cells #[.slice none 0 0, .string ⟨#[]⟩] 26))
  have HX0 := Lib.hid (heap_alloc_new w (.cells #[.slice none 0 0, .string ⟨#[]⟩] 26))
  have hc1 := hc.below ((Below.refl n₀ w).alloc hw (.cells #[.slice none 0 0, .string ⟨#[]⟩] 26))
  have hz0 : (w.alloc (.cells #[.slice none 0 0, .string ⟨#[]⟩] 26)).heap.size = w.heap.size + 1 := by simp
  go_enter Tryd.func6, Tryd.ntmps6
  go_wp2_with fail
  generalize w.alloc (.cells #[.slice none 0 0, .string ⟨#[]⟩] 26) = W at *
  refine (new_any n₀ len cap a zs _ hc1 (by omega)).mono ?_
  rintro e w1 ⟨g, rfl, hg, hst, hbn, hgrn⟩
  have hgw : w.heap.size < g := by omega
  have hg1 := hst.lt
  have HB1 := Lib.hid (HB0.out.grown hgrn HB0.out.size (by simp))
  have HX1 := Lib.hid ((hgrn.block _ (Array.getElem?_eq_some_iff.1 HX0.out).1 (by simp)).trans HX0.out)
  have hz1 : w.heap.size + 1 ≤ w1.heap.size := by have := hgrn.size; omega
  clear hbn hgrn hg HX0 HB0 hc1 hz0
  go_wp2_with fail
  refine (l05odd_any n₀ g len cap a zs _ _ hst).mono ?_
  rintro e w2 ⟨v, ks, y, c2, rfl, hl, -, hy, ho, hd⟩
  obtain ⟨a2, m2, k2, rfl⟩ := own_shape ho
  have hx2 := hd.keeps HX1.out (by omega)
  have HB2 := HB1.out.grown hd.grown HB1.out.size (fun j e => by cases e; omega)
  obtain ⟨c0, c1, f0, f1⟩ := row2_of hx2
  have hlt := (Array.getElem?_eq_some_iff.1 hx2).1
  have HF := Lib.hid (And.intro (cd_res hx2 (.slice a2 m2 k2) y) (And.intro (own_base (own_set2 ho (by omega : w.heap.size < w1.heap.size) (.slice a2 m2 k2) (.string y)) (by omega : w.heap.size ≤ w1.heap.size)) (below2 HB2 (Nat.le_refl w.heap.size) (.slice a2 m2 k2) (.string y))))
  clear hd HX1 HB1 hx2 HB2 ho hst
  go_wp2_with fail
  refine bodyPost_ret (v := .agg #[.slice a2 m2 k2, .string y]) ?_ rfl ⟨_, ks, y, rfl, hl, hy, HF.out.2.1, HF.out.2.2⟩
  rw [results_cell (p := 2) (ty := 26) (by kernel_rfl)]
  have l2 := HF.out.1
  simp [asAddr, Result.andThen, l2]
set_option maxRecDepth 100000 in
set_option maxHeartbeats 1000000 in
theorem drawsingle_any (n₀ len cap : Nat) (a : Option Addr) (zs : List Int) (w : World) (hc : CodeAt n₀ w a len zs) (hw : n₀ ≤ w.heap.size) :
    Calls Tryd.prog 12 #[.slice a len cap] w fun e w' => ∃ (r : R3) (c' : Cu), e = .returned (rv r) ∧ r.2.size ≤ 5 ∧ OddRel zs len (newC zs len) r c' ∧ Below w.heap.size w w' := by
  have HB0 := Lib.hid ((Below.refl w.heap.size w).alloc (Nat.le_refl _) (.cells #[.int .i64 0, .int .i64 0, .string ⟨#[]⟩] 34))
  have HX0 := Lib.hid (heap_alloc_new w (.cells #[.int .i64 0, .int .i64 0, .string ⟨#[]⟩] 34))
  have hc1 := hc.below ((Below.refl n₀ w).alloc hw (.cells #[.int .i64 0, .int .i64 0, .string ⟨#[]⟩] 34))
  have hz0 : (w.alloc (.cells #[.int .i64 0, .int .i64 0, .string ⟨#[]⟩] 34)).heap.size = w.heap.size + 1 := by simp
  go_enter Tryd.func12, Tryd.ntmps12
  go_wp2_with fail
  generalize w.alloc (.cells #[.int .i64 0, .int .i64 0, .string ⟨#[]⟩] 34) = W at *
  refine (new_any n₀ len cap a zs _ hc1 (by omega)).mono ?_
  rintro e w1 ⟨g, rfl, hg, hst, hbn, hgrn⟩
  have hgw : w.heap.size < g := by omega
  have hg1 := hst.lt
  have HB1 := Lib.hid (HB0.out.grown hgrn HB0.out.size (by simp))
  have HX1 := Lib.hid ((hgrn.block _ (Array.getElem?_eq_some_iff.1 HX0.out).1 (by simp)).trans HX0.out)
  clear hbn hgrn hg HX0 HB0 hc1 hz0
  go_wp2_with fail
  refine (l04odd_rel n₀ g len cap a zs _ _ hst).mono ?_
  rintro e w2 ⟨⟨⟨p, q⟩, y⟩, c2, rfl, -, hy, hrel, hd⟩
  have HREL := Lib.hid hrel
  have hx2 := hd.keeps HX1.out (by omega)
  have HB2 := HB1.out.grown hd.grown HB1.out.size (fun j e => by cases e; omega)
  obtain ⟨x0, x1, x2, f0, f1, f2⟩ := row3_of hx2
  have hlt := (Array.getElem?_eq_some_iff.1 hx2).1
  have HF := Lib.hid (((HB2.setCell (p := ⟨w.heap.size, 0, none⟩) (Nat.le_refl _) (.int .i64 p)).setCell (p := ⟨w.heap.size, 1, none⟩) (Nat.le_refl _) (.int .i64 q)).setCell (p := ⟨w.heap.size, 2, none⟩) (Nat.le_refl _) (.string y))
  have L2 := Lib.hid (run_loadVar_row (P := Tryd.prog) _ w.heap.size 34 34 #[.int .i64 p, .int .i64 q, .string y] (0, 0) _ (set3 (.int .i64 p) (.int .i64 q) (.string y) hx2) Tryd.underlying34 rfl (by kernel_rfl))
  unfold rv
  dsimp only at *
  clear hd HX1 HB1 hx2 HB2 hst hrel
  go_wp2_with fail
  refine bodyPost_ret (v := .agg #[.int .i64 p, .int .i64 q, .string y]) ?_ rfl ⟨((p, q), y), c2, rfl, hy, HREL.out, HF.out⟩
  rw [results_cell (p := 2) (ty := 34) (by kernel_rfl)]
  simp [asAddr, Result.andThen, L2.out]
theorem cdT_len {ks : List K2} {y : ByteArray} (h : codeOkB (ks, y) = true) : (cdT (ks, y)).size = (tB (keyTextL ks)).size + 9 := by
  have h4 := ((codeOk_iff (ks, y)).1 h).2.2.1
  unfold cdT
  rw [if_pos h, ByteArray.size_append, ByteArray.size_append, hex_size y h4]
  rfl
set_option maxRecDepth 100000 in
set_option maxHeartbeats 4000000 in
theorem fncodetext_walk (a0 : Option Addr) (len0 cap0 : Nat) (z0 : List Int) (w : World) (w0 : IsRow .u8 w a0 len0 cap0 z0) (hT : Lib.TabIs Tryd.prog w "internal/strconv.uint64pow10" IntKind.u64 Lib.pow10Tab) :
    Calls Tryd.prog 3 #[.slice a0 len0 cap0] w fun e w' => e = .returned (.bool true) ∧ Below w.heap.size w w' := by
  by_cases hbig : len0 ≤ 1048576
  · have hcode := codeAt_of w0 hbig
    clear w0
    have HC := Lib.hid hcode
    clear hcode
    have HT := Lib.hid (fun w' (hb : Below w.heap.size w w') => tab_below hT hb)
    clear hT
    go_enter Tryd.func3, Tryd.ntmps3
    go_wp2_with fail
    refine (big_any _ _ _ _ hbig).mono ?_
    rintro e w1 ⟨rfl, rfl⟩
    go_wp2_with fail
    refine (drawcodetext_any w1.heap.size len0 cap0 a0 z0 w1 HC.out (Nat.le_refl _)).mono ?_
    rintro e w2 ⟨va, ks, y, rfl, hl7, hy5, hoa, hb⟩
    obtain ⟨saa, sna, ska, rfl⟩ := own_shape hoa
    have HB := Lib.hid hb
    have Oa := Lib.hid hoa
    clear hoa hb
    have IC := Lib.hid (fun w' v' (h : keysAt w' v' ks) (hb : Below w1.heap.size w1 w') => icodetext_any v' ks y w' h (by omega) (HT.out w' hb))
    have SC := Lib.hid (fun w' v' (h : keysAt w' v' ks) => scodetext_any v' ks y w' h (by omega))
    have IO := Lib.hid (fun w' v' (h : keysAt w' v' ks) => icodeok_any v' ks y w' h (by omega))
    have SO := Lib.hid (fun w' v' (h : keysAt w' v' ks) => scodeok_any v' ks y w' h (by omega))
    have hno : codeOkB (ks, y) = false → cdT (ks, y) = ByteArray.empty := fun h => by unfold cdT; rw [h]; rfl
    have hyes := cdT_len (ks := ks) (y := y)
    have hin : codeOkB (ks, y) = true → ∀ k ∈ ks, kIn k := fun h => keys_in ((codeOk_iff (ks, y)).1 h).2.1
    generalize cdT (ks, y) = B at *
    generalize codeOkB (ks, y) = bo at *
    have HNO := Lib.hid hno
    have HYES := Lib.hid hyes
    have HIN := Lib.hid hin
    clear hno hyes hin
    have eB : (B.toList != B.toList) = false := by simp
    have eo : (bo != bo) = false := by simp
    replace HB := Lib.hid (HB.out.alloc HB.out.size (.cells #[.slice saa sna ska, .string y] 26))
    replace Oa := Lib.hid (Oa.out.alloc (.cells #[.slice saa sna ska, .string y] 26))
    have RA := Lib.hid (heap_alloc_new (w2) (.cells #[.slice saa sna ska, .string y] 26))
    obtain ⟨Ac0, Ac1, -, -⟩ := row2_of RA.out
    go_wp2_with fail
    generalize World.alloc (w2) (.cells #[.slice saa sna ska, .string y] 26) = w1_ at *
    generalize (w2).heap.size = bA at *
    refine (IC.out _ _ (keysAt_own Oa.out) HB.out).mono ?_
    rintro e w2_ ⟨rfl, hb⟩
    replace HB := Lib.hid (HB.out.trans (hb.mono HB.out.size))
    replace Oa := Lib.hid (own_below Oa.out hb)
    replace RA := Lib.hid ((hb.block _ (Array.getElem?_eq_some_iff.1 RA.out).1).trans RA.out)
    clear hb
    clear Ac0 Ac1
    go_wp2_with fail
    have LA : ∀ w', Below w2_.heap.size w2_ w' → (loadVar 26 ⟨bA, 0, none⟩).run Tryd.prog w' = .ok (.agg #[.slice saa sna ska, .string y]) w' := fun w' hb => cd_load RA.out hb
    have K1 := Lib.hid (fun w' (hb : Below w2_.heap.size w2_ w') => SC.out w' _ (keysAt_own (own_below Oa.out hb)))
    have K2 := Lib.hid (fun w' (hb : Below w2_.heap.size w2_ w') => IO.out w' _ (keysAt_own (own_below Oa.out hb)))
    have K3 := Lib.hid (fun w' (hb : Below w2_.heap.size w2_ w') => SO.out w' _ (keysAt_own (own_below Oa.out hb)))
    refine wp_region_below w2_ (by kernel_rfl) (by kernel_rfl) (Below.refl _ _) ?_
    repeat (first
      | go_big_quiet_skip
      | (go_big_quiet_want
         first
           | (go_big_quiet_op; go_big_quiet_on)
           | (refine q_load 26 _ _ _ rfl rfl LA ?_; simp only [Act.put, List.setIfInBounds_toArray, List.set_cons_zero, List.set_cons_succ]; go_big_quiet_on)
           | (go_big_quiet_op; refine ⟨_, fun _ _ => rfl, ?_⟩; go_big_quiet_on)
           | (go_big_quiet_op; apply Exists.intro; refine ⟨fun w' hw' => ?_, ?_⟩
              · first
                | (with_reducible refine (K1.out w' hw').mono ?_
                   rintro e w2 ⟨rfl, hb2⟩
                   exact ⟨rfl, hw'.trans (hb2.mono hw'.size)⟩)
                | (with_reducible refine (K2.out w' hw').mono ?_
                   rintro e w2 ⟨rfl, hb2⟩
                   exact ⟨rfl, hw'.trans (hb2.mono hw'.size)⟩)
                | (with_reducible refine (K3.out w' hw').mono ?_
                   rintro e w2 ⟨rfl, hb2⟩
                   exact ⟨rfl, hw'.trans (hb2.mono hw'.size)⟩)
              go_big_quiet_on)))
    refine wpQuiet_nil ?_
    intro w3_ hb
    clear LA K1 K2 K3
    replace HB := Lib.hid (HB.out.trans (hb.mono HB.out.size))
    replace Oa := Lib.hid (own_below Oa.out hb)
    replace RA := Lib.hid ((hb.block _ (Array.getElem?_eq_some_iff.1 RA.out).1).trans RA.out)
    clear hb
    obtain ⟨Ac0, Ac1, -, -⟩ := row2_of RA.out
    go_wp2_with fail
    refine (SO.out _ _ (keysAt_own Oa.out)).mono ?_
    rintro e w4_ ⟨rfl, hb⟩
    replace HB := Lib.hid (HB.out.trans (hb.mono HB.out.size))
    replace Oa := Lib.hid (own_below Oa.out hb)
    replace RA := Lib.hid ((hb.block _ (Array.getElem?_eq_some_iff.1 RA.out).1).trans RA.out)
    clear hb
    clear Ac0 Ac1
    cases bo with
    | false =>
      have hBe := HNO.out rfl
      subst hBe
      go_wp2
      go_ret
      exact ⟨rfl, HB.out⟩
    | true =>
      have hBl := HYES.out rfl
      have hki := HIN.out rfl
      have HCW := Lib.hid (fun w' (hb : Below w1.heap.size w1 w') => HC.out.below hb)
      have KT := Lib.hid (fun w' (hb : Below w1.heap.size w1 w') v' (h : keysAt w' v' ks) => ikeytext_any v' ks w' h (by omega) hki (HT.out w' hb))
      have hA9 : (tB (keyTextL ks)).size ≤ 308 := by rw [tB_size]; have := keyText_len ks.length ks rfl hki; omega
      generalize tB (keyTextL ks) = A9 at *
      go_wp2_with fail
      refine (drawsingle_any w1.heap.size len0 cap0 a0 z0 _ (HCW.out _ HB.out) HB.out.size).mono ?_
      rintro e w5_ ⟨r, cr, rfl, hr5, hrel, hb⟩
      replace HB := Lib.hid (HB.out.trans (hb.mono HB.out.size))
      replace Oa := Lib.hid (own_below Oa.out hb)
      replace RA := Lib.hid ((hb.block _ (Array.getElem?_eq_some_iff.1 RA.out).1).trans RA.out)
      clear hb
      have DS := Lib.hid (fun w' (hb : Below w1.heap.size w1 w') => (drawsingle_any w1.heap.size len0 cap0 a0 z0 w' (HCW.out w' hb) hb.size).mono (fun e w'' ⟨r', c', h1, _, h3, h4⟩ => (⟨by rw [h1, h3.det hrel], h4⟩ : e = Ending.returned (rv r) ∧ Below w'.heap.size w' w'')))
      have hsl : (singM r).1.length ≤ 1 := by unfold singM; split <;> simp [blankC]
      have hso := sing_ok r
      go_wp2_with fail
      refine (isingle_any r _).mono ?_
      rintro e w6_ ⟨vo, rfl, ho, hb⟩
      obtain ⟨sao, sno, sko, rfl⟩ := own_shape ho
      have Oo := Lib.hid (own_base ho HB.out.size)
      clear ho
      replace HB := Lib.hid (HB.out.trans (hb.mono HB.out.size))
      replace Oa := Lib.hid (own_below Oa.out hb)
      replace RA := Lib.hid ((hb.block _ (Array.getElem?_eq_some_iff.1 RA.out).1).trans RA.out)
      clear hb
      have SS := Lib.hid (fun w => ssingle_any r w)
      have CO := Lib.hid (fun w' v' (h : keysAt w' v' (singM r).1) => (hso ▸ icodeok_any v' (singM r).1 (singM r).2 w' h (by omega) : Calls Tryd.prog 9 #[.agg #[v', .string (singM r).2]] w' fun e w'' => e = .returned (.bool true) ∧ Below w'.heap.size w' w''))
      clear hso hrel
      generalize (singM r).1 = M1 at *
      generalize (singM r).2 = Y1 at *
      obtain ⟨⟨p, q⟩, yr⟩ := r
      unfold rv at *
      dsimp only at *
      replace HB := Lib.hid (HB.out.alloc HB.out.size (.cells #[.slice sao sno sko, .string Y1] 26))
      replace Oa := Lib.hid (Oa.out.alloc (.cells #[.slice sao sno sko, .string Y1] 26))
      replace RA := Lib.hid ((Below.heap_alloc _ (.cells #[.slice sao sno sko, .string Y1] 26) _ (Array.getElem?_eq_some_iff.1 RA.out).1).trans RA.out)
      replace Oo := Lib.hid (Oo.out.alloc (.cells #[.slice sao sno sko, .string Y1] 26))
      have RO := Lib.hid (heap_alloc_new (w6_) (.cells #[.slice sao sno sko, .string Y1] 26))
      have ewr : IntKind.i64.wrap ((A9.size : Int) + 9) = (A9.size : Int) + 9 := IntWalk.i64_in _ (by omega)
      have ez : (B.size : Int) = (A9.size : Int) + 9 := by omega
      have ez2 : ((B.size : Int) == (A9.size : Int) + 9) = true := by simp [ez]
      go_wp2_with fail
      generalize World.alloc (w6_) (.cells #[.slice sao sno sko, .string Y1] 26) = w7_ at *
      generalize (w6_).heap.size = bO at *
      have LA : ∀ w' : World, w'.heap[bA]? = some (.cells #[.slice saa sna ska, .string y] 26) ∧ w'.heap[bO]? = some (.cells #[.slice sao sno sko, .string Y1] 26) → (loadVar 24 ⟨bA, 0, none⟩).run Tryd.prog w' = .ok (.slice saa sna ska) w' := fun w' h => cd_loadk h.1 (Below.refl _ _)
      have LO : ∀ w' : World, w'.heap[bA]? = some (.cells #[.slice saa sna ska, .string y] 26) ∧ w'.heap[bO]? = some (.cells #[.slice sao sno sko, .string Y1] 26) → (loadVar 26 ⟨bO, 0, none⟩).run Tryd.prog w' = .ok (.agg #[.slice sao sno sko, .string Y1]) w' := fun w' h => cd_load h.2 (Below.refl _ _)
      refine wp_region_G (fun w' => w'.heap[bA]? = some (.cells #[.slice saa sna ska, .string y] 26) ∧ w'.heap[bO]? = some (.cells #[.slice sao sno sko, .string Y1] 26)) (by kernel_rfl) ?_
      replace HB := Lib.hid (HB.out.drew)
      replace Oa := Lib.hid (Oa.out.drew)
      replace RA := Lib.hid (show (World.drew _).heap[_]? = _ from RA.out)
      replace Oo := Lib.hid (Oo.out.drew)
      replace RO := Lib.hid (show (World.drew _).heap[_]? = _ from RO.out)
      generalize (w7_).drew = wD7 at *
      refine wpG_seg [true, false, true, true] [1, 4] 16 (by kernel_rfl) (by intro c a d v w h; cases d <;> exact h) (by kernel_rfl) ⟨RA.out, RO.out⟩ ?_
      try simp only [maskRows]
      repeat (first
        | go_big_quiet_skip
        | (go_big_quiet_want
           first
             | (go_big_quiet_op; go_big_quiet_on)
             | (refine q_load 24 _ _ _ rfl rfl LA ?_; simp only [Act.put, List.setIfInBounds_toArray, List.set_cons_zero, List.set_cons_succ]; go_big_quiet_on)
             | (refine q_load 26 _ _ _ rfl rfl LO ?_; simp only [Act.put, List.setIfInBounds_toArray, List.set_cons_zero, List.set_cons_succ]; go_big_quiet_on)
             | (go_big_quiet_op; refine ⟨_, fun _ _ => rfl, ?_⟩; go_big_quiet_on)
             | (go_big_quiet_op; refine ⟨_, fun _ _ _ => rfl, ?_⟩; go_big_quiet_on)))
      refine wpQuiet_nil ?_
      refine List.forall_mem_cons.2 ⟨?_, List.forall_mem_singleton.2 ?_⟩
      · refine segt_run rfl (by rfl) (fun K hK => ?_)
        go_simp
        refine hK _ _ ⟨_, fun _ h => h, ⟨RA.out, RO.out⟩, ?_⟩
        clear hK K
        try simp only [Act.put, List.setIfInBounds_toArray, List.set_cons_zero, List.set_cons_succ]
        refine wpG_seg [] [4] 15 (by kernel_rfl) (by intro c a d v w h; cases d <;> exact h) (by kernel_rfl) ⟨RA.out, RO.out⟩ ?_
        try simp only [maskRows]
        refine wpQuiet_nil ?_
        refine List.forall_mem_singleton.2 ?_
        refine segt_run rfl (by rfl) (fun K hK => ?_)
        go_simp
        refine (KT.out _ HB.out _ (keysAt_own Oa.out)).mono ?_
        rintro e w8_ ⟨rfl, hb⟩
        dsimp only
        replace HB := Lib.hid (HB.out.trans (hb.mono HB.out.size))
        replace Oa := Lib.hid (own_below Oa.out hb)
        replace RA := Lib.hid ((hb.block _ (Array.getElem?_eq_some_iff.1 RA.out).1).trans RA.out)
        replace Oo := Lib.hid (own_below Oo.out hb)
        replace RO := Lib.hid ((hb.block _ (Array.getElem?_eq_some_iff.1 RO.out).1).trans RO.out)
        clear hb
        refine hK _ _ ⟨_, fun _ h => h, ⟨RA.out, RO.out⟩, ?_⟩
        clear hK K
        try simp only [Act.put, List.setIfInBounds_toArray, List.set_cons_zero, List.set_cons_succ]
        refine wpG_seg [] [5] 14 (by kernel_rfl) (by intro c a d v w h; cases d <;> exact h) (by kernel_rfl) ⟨RA.out, RO.out⟩ ?_
        try simp only [maskRows]
        refine wpQuiet_nil ?_
        refine List.forall_mem_singleton.2 ?_
        refine segt_run rfl (by rfl) (fun K hK => ?_)
        go_simp
        refine hK _ _ ⟨_, fun _ h => h, ⟨RA.out, RO.out⟩, ?_⟩
        clear hK K
        try simp only [Act.put, List.setIfInBounds_toArray, List.set_cons_zero, List.set_cons_succ]
        refine wpG_seg [false, false, false, false, false, false, true, true, true, true] [10] 9 (by kernel_rfl) (by intro c a d v w h; cases d <;> exact h) (by kernel_rfl) ⟨RA.out, RO.out⟩ ?_
        try simp only [maskRows]
        repeat (first
          | go_big_quiet_skip
          | (go_big_quiet_want
             first
               | (go_big_quiet_op; go_big_quiet_on)
               | (refine q_load 24 _ _ _ rfl rfl LA ?_; simp only [Act.put, List.setIfInBounds_toArray, List.set_cons_zero, List.set_cons_succ]; go_big_quiet_on)
               | (refine q_load 26 _ _ _ rfl rfl LO ?_; simp only [Act.put, List.setIfInBounds_toArray, List.set_cons_zero, List.set_cons_succ]; go_big_quiet_on)
               | (go_big_quiet_op; refine ⟨_, fun _ _ => rfl, ?_⟩; go_big_quiet_on)
               | (go_big_quiet_op; refine ⟨_, fun _ _ _ => rfl, ?_⟩; go_big_quiet_on)))
        refine wpQuiet_nil ?_
        refine List.forall_mem_singleton.2 ?_
        refine segt_run rfl (by rfl) (fun K hK => ?_)
        go_simp
        refine (CO.out _ _ (keysAt_own Oo.out)).mono ?_
        rintro e w9_ ⟨rfl, hb⟩
        dsimp only
        replace HB := Lib.hid (HB.out.trans (hb.mono HB.out.size))
        replace Oa := Lib.hid (own_below Oa.out hb)
        replace RA := Lib.hid ((hb.block _ (Array.getElem?_eq_some_iff.1 RA.out).1).trans RA.out)
        replace Oo := Lib.hid (own_below Oo.out hb)
        replace RO := Lib.hid ((hb.block _ (Array.getElem?_eq_some_iff.1 RO.out).1).trans RO.out)
        clear hb
        refine hK _ _ ⟨_, fun _ h => h, ⟨RA.out, RO.out⟩, ?_⟩
        clear hK K
        try simp only [Act.put, List.setIfInBounds_toArray, List.set_cons_zero, List.set_cons_succ]
        refine wpG_seg [false, false, false, false, false, false, false, false, false, false, false, true, true, true, true] [15] 4 (by kernel_rfl) (by intro c a d v w h; cases d <;> exact h) (by kernel_rfl) ⟨RA.out, RO.out⟩ ?_
        try simp only [maskRows]
        repeat (first
          | go_big_quiet_skip
          | (go_big_quiet_want
             first
               | (go_big_quiet_op; go_big_quiet_on)
               | (refine q_load 24 _ _ _ rfl rfl LA ?_; simp only [Act.put, List.setIfInBounds_toArray, List.set_cons_zero, List.set_cons_succ]; go_big_quiet_on)
               | (refine q_load 26 _ _ _ rfl rfl LO ?_; simp only [Act.put, List.setIfInBounds_toArray, List.set_cons_zero, List.set_cons_succ]; go_big_quiet_on)
               | (go_big_quiet_op; refine ⟨_, fun _ _ => rfl, ?_⟩; go_big_quiet_on)
               | (go_big_quiet_op; refine ⟨_, fun _ _ _ => rfl, ?_⟩; go_big_quiet_on)))
        refine wpQuiet_nil ?_
        refine List.forall_mem_singleton.2 ?_
        refine segt_run rfl (by rfl) (fun K hK => ?_)
        go_simp
        refine (DS.out _ HB.out).mono ?_
        rintro e w10_ ⟨rfl, hb⟩
        dsimp only
        replace HB := Lib.hid (HB.out.trans (hb.mono HB.out.size))
        replace Oa := Lib.hid (own_below Oa.out hb)
        replace RA := Lib.hid ((hb.block _ (Array.getElem?_eq_some_iff.1 RA.out).1).trans RA.out)
        replace Oo := Lib.hid (own_below Oo.out hb)
        replace RO := Lib.hid ((hb.block _ (Array.getElem?_eq_some_iff.1 RO.out).1).trans RO.out)
        clear hb
        refine hK _ _ ⟨_, fun _ h => h, ⟨RA.out, RO.out⟩, ?_⟩
        clear hK K
        try simp only [Act.put, List.setIfInBounds_toArray, List.set_cons_zero, List.set_cons_succ]
        refine wpG_seg [] [16] 3 (by kernel_rfl) (by intro c a d v w h; cases d <;> exact h) (by kernel_rfl) ⟨RA.out, RO.out⟩ ?_
        try simp only [maskRows]
        refine wpQuiet_nil ?_
        refine List.forall_mem_singleton.2 ?_
        refine segt_run rfl (by rfl) (fun K hK => ?_)
        go_simp
        refine (SS.out _).mono ?_
        rintro e w11_ ⟨vs, rfl, ho, hb⟩
        dsimp only
        obtain ⟨sas, sns, sks, rfl⟩ := own_shape ho
        have Os := Lib.hid (own_base ho HB.out.size)
        clear ho
        replace HB := Lib.hid (HB.out.trans (hb.mono HB.out.size))
        replace Oa := Lib.hid (own_below Oa.out hb)
        replace RA := Lib.hid ((hb.block _ (Array.getElem?_eq_some_iff.1 RA.out).1).trans RA.out)
        replace Oo := Lib.hid (own_below Oo.out hb)
        replace RO := Lib.hid ((hb.block _ (Array.getElem?_eq_some_iff.1 RO.out).1).trans RO.out)
        clear hb
        refine hK _ _ ⟨_, fun _ h => h, ⟨RA.out, RO.out⟩, ?_⟩
        clear hK K
        try simp only [Act.put, List.setIfInBounds_toArray, List.set_cons_zero, List.set_cons_succ]
        refine wpG_seg [] [17] 2 (by kernel_rfl) (by intro c a d v w h; cases d <;> exact h) (by kernel_rfl) ⟨RA.out, RO.out⟩ ?_
        try simp only [maskRows]
        refine wpQuiet_nil ?_
        refine List.forall_mem_singleton.2 ?_
        refine segt_run rfl (by rfl) (fun K hK => ?_)
        go_simp
        refine (samecode_self _ _ M1 Y1 _ (keysAt_own Oo.out) (keysAt_own Os.out) (by omega)).mono ?_
        rintro e w12_ ⟨rfl, hb⟩
        dsimp only
        replace HB := Lib.hid (HB.out.trans (hb.mono HB.out.size))
        replace Oa := Lib.hid (own_below Oa.out hb)
        replace RA := Lib.hid ((hb.block _ (Array.getElem?_eq_some_iff.1 RA.out).1).trans RA.out)
        replace Oo := Lib.hid (own_below Oo.out hb)
        replace RO := Lib.hid ((hb.block _ (Array.getElem?_eq_some_iff.1 RO.out).1).trans RO.out)
        replace Os := Lib.hid (own_below Os.out hb)
        clear hb
        refine hK _ _ ⟨_, fun _ h => h, ⟨RA.out, RO.out⟩, ?_⟩
        clear hK K
        try simp only [Act.put, List.setIfInBounds_toArray, List.set_cons_zero, List.set_cons_succ]
        refine wpG_end [false, false, false, false, false, false, false, false, false, false, false, false, false, false, false, false, false, false, true, true] (by kernel_rfl) (by intro c a d v w h; cases d <;> exact h) (by kernel_rfl) ⟨RA.out, RO.out⟩ ?_
        try simp only [maskRows]
        repeat (first
          | go_big_quiet_skip
          | (go_big_quiet_want
             first
               | (go_big_quiet_op; go_big_quiet_on)
               | (refine q_load 24 _ _ _ rfl rfl LA ?_; simp only [Act.put, List.setIfInBounds_toArray, List.set_cons_zero, List.set_cons_succ]; go_big_quiet_on)
               | (refine q_load 26 _ _ _ rfl rfl LO ?_; simp only [Act.put, List.setIfInBounds_toArray, List.set_cons_zero, List.set_cons_succ]; go_big_quiet_on)
               | (go_big_quiet_op; refine ⟨_, fun _ _ => rfl, ?_⟩; go_big_quiet_on)
               | (go_big_quiet_op; refine ⟨_, fun _ _ _ => rfl, ?_⟩; go_big_quiet_on)))
        refine wpQuiet_nil ?_
        go_wp2
        go_ret
        exact ⟨rfl, HB.out⟩
      · refine segt_run rfl (by rfl) (fun K hK => ?_)
        go_simp
        refine (KT.out _ HB.out _ (keysAt_own Oa.out)).mono ?_
        rintro e w8_ ⟨rfl, hb⟩
        dsimp only
        replace HB := Lib.hid (HB.out.trans (hb.mono HB.out.size))
        replace Oa := Lib.hid (own_below Oa.out hb)
        replace RA := Lib.hid ((hb.block _ (Array.getElem?_eq_some_iff.1 RA.out).1).trans RA.out)
        replace Oo := Lib.hid (own_below Oo.out hb)
        replace RO := Lib.hid ((hb.block _ (Array.getElem?_eq_some_iff.1 RO.out).1).trans RO.out)
        clear hb
        refine hK _ _ ⟨_, fun _ h => h, ⟨RA.out, RO.out⟩, ?_⟩
        clear hK K
        try simp only [Act.put, List.setIfInBounds_toArray, List.set_cons_zero, List.set_cons_succ]
        refine wpG_seg [] [1, 5] 15 (by kernel_rfl) (by intro c a d v w h; cases d <;> exact h) (by kernel_rfl) ⟨RA.out, RO.out⟩ ?_
        try simp only [maskRows]
        refine wpQuiet_nil ?_
        refine List.forall_mem_cons.2 ⟨?_, List.forall_mem_singleton.2 ?_⟩
        · refine segt_run rfl (by rfl) (fun K hK => ?_)
          go_simp
          refine hK _ _ ⟨_, fun _ h => h, ⟨RA.out, RO.out⟩, ?_⟩
          clear hK K
          try simp only [Act.put, List.setIfInBounds_toArray, List.set_cons_zero, List.set_cons_succ]
          refine wpG_seg [] [5] 14 (by kernel_rfl) (by intro c a d v w h; cases d <;> exact h) (by kernel_rfl) ⟨RA.out, RO.out⟩ ?_
          try simp only [maskRows]
          refine wpQuiet_nil ?_
          refine List.forall_mem_singleton.2 ?_
          refine segt_run rfl (by rfl) (fun K hK => ?_)
          go_simp
          refine hK _ _ ⟨_, fun _ h => h, ⟨RA.out, RO.out⟩, ?_⟩
          clear hK K
          try simp only [Act.put, List.setIfInBounds_toArray, List.set_cons_zero, List.set_cons_succ]
          refine wpG_seg [false, false, false, false, false, false, true, true, true, true] [10] 9 (by kernel_rfl) (by intro c a d v w h; cases d <;> exact h) (by kernel_rfl) ⟨RA.out, RO.out⟩ ?_
          try simp only [maskRows]
          repeat (first
            | go_big_quiet_skip
            | (go_big_quiet_want
               first
                 | (go_big_quiet_op; go_big_quiet_on)
                 | (refine q_load 24 _ _ _ rfl rfl LA ?_; simp only [Act.put, List.setIfInBounds_toArray, List.set_cons_zero, List.set_cons_succ]; go_big_quiet_on)
                 | (refine q_load 26 _ _ _ rfl rfl LO ?_; simp only [Act.put, List.setIfInBounds_toArray, List.set_cons_zero, List.set_cons_succ]; go_big_quiet_on)
                 | (go_big_quiet_op; refine ⟨_, fun _ _ => rfl, ?_⟩; go_big_quiet_on)
                 | (go_big_quiet_op; refine ⟨_, fun _ _ _ => rfl, ?_⟩; go_big_quiet_on)))
          refine wpQuiet_nil ?_
          refine List.forall_mem_singleton.2 ?_
          refine segt_run rfl (by rfl) (fun K hK => ?_)
          go_simp
          refine (CO.out _ _ (keysAt_own Oo.out)).mono ?_
          rintro e w9_ ⟨rfl, hb⟩
          dsimp only
          replace HB := Lib.hid (HB.out.trans (hb.mono HB.out.size))
          replace Oa := Lib.hid (own_below Oa.out hb)
          replace RA := Lib.hid ((hb.block _ (Array.getElem?_eq_some_iff.1 RA.out).1).trans RA.out)
          replace Oo := Lib.hid (own_below Oo.out hb)
          replace RO := Lib.hid ((hb.block _ (Array.getElem?_eq_some_iff.1 RO.out).1).trans RO.out)
          clear hb
          refine hK _ _ ⟨_, fun _ h => h, ⟨RA.out, RO.out⟩, ?_⟩
          clear hK K
          try simp only [Act.put, List.setIfInBounds_toArray, List.set_cons_zero, List.set_cons_succ]
          refine wpG_seg [false, false, false, false, false, false, false, false, false, false, false, true, true, true, true] [15] 4 (by kernel_rfl) (by intro c a d v w h; cases d <;> exact h) (by kernel_rfl) ⟨RA.out, RO.out⟩ ?_
          try simp only [maskRows]
          repeat (first
            | go_big_quiet_skip
            | (go_big_quiet_want
               first
                 | (go_big_quiet_op; go_big_quiet_on)
                 | (refine q_load 24 _ _ _ rfl rfl LA ?_; simp only [Act.put, List.setIfInBounds_toArray, List.set_cons_zero, List.set_cons_succ]; go_big_quiet_on)
                 | (refine q_load 26 _ _ _ rfl rfl LO ?_; simp only [Act.put, List.setIfInBounds_toArray, List.set_cons_zero, List.set_cons_succ]; go_big_quiet_on)
                 | (go_big_quiet_op; refine ⟨_, fun _ _ => rfl, ?_⟩; go_big_quiet_on)
                 | (go_big_quiet_op; refine ⟨_, fun _ _ _ => rfl, ?_⟩; go_big_quiet_on)))
          refine wpQuiet_nil ?_
          refine List.forall_mem_singleton.2 ?_
          refine segt_run rfl (by rfl) (fun K hK => ?_)
          go_simp
          refine (DS.out _ HB.out).mono ?_
          rintro e w10_ ⟨rfl, hb⟩
          dsimp only
          replace HB := Lib.hid (HB.out.trans (hb.mono HB.out.size))
          replace Oa := Lib.hid (own_below Oa.out hb)
          replace RA := Lib.hid ((hb.block _ (Array.getElem?_eq_some_iff.1 RA.out).1).trans RA.out)
          replace Oo := Lib.hid (own_below Oo.out hb)
          replace RO := Lib.hid ((hb.block _ (Array.getElem?_eq_some_iff.1 RO.out).1).trans RO.out)
          clear hb
          refine hK _ _ ⟨_, fun _ h => h, ⟨RA.out, RO.out⟩, ?_⟩
          clear hK K
          try simp only [Act.put, List.setIfInBounds_toArray, List.set_cons_zero, List.set_cons_succ]
          refine wpG_seg [] [16] 3 (by kernel_rfl) (by intro c a d v w h; cases d <;> exact h) (by kernel_rfl) ⟨RA.out, RO.out⟩ ?_
          try simp only [maskRows]
          refine wpQuiet_nil ?_
          refine List.forall_mem_singleton.2 ?_
          refine segt_run rfl (by rfl) (fun K hK => ?_)
          go_simp
          refine (SS.out _).mono ?_
          rintro e w11_ ⟨vs, rfl, ho, hb⟩
          dsimp only
          obtain ⟨sas, sns, sks, rfl⟩ := own_shape ho
          have Os := Lib.hid (own_base ho HB.out.size)
          clear ho
          replace HB := Lib.hid (HB.out.trans (hb.mono HB.out.size))
          replace Oa := Lib.hid (own_below Oa.out hb)
          replace RA := Lib.hid ((hb.block _ (Array.getElem?_eq_some_iff.1 RA.out).1).trans RA.out)
          replace Oo := Lib.hid (own_below Oo.out hb)
          replace RO := Lib.hid ((hb.block _ (Array.getElem?_eq_some_iff.1 RO.out).1).trans RO.out)
          clear hb
          refine hK _ _ ⟨_, fun _ h => h, ⟨RA.out, RO.out⟩, ?_⟩
          clear hK K
          try simp only [Act.put, List.setIfInBounds_toArray, List.set_cons_zero, List.set_cons_succ]
          refine wpG_seg [] [17] 2 (by kernel_rfl) (by intro c a d v w h; cases d <;> exact h) (by kernel_rfl) ⟨RA.out, RO.out⟩ ?_
          try simp only [maskRows]
          refine wpQuiet_nil ?_
          refine List.forall_mem_singleton.2 ?_
          refine segt_run rfl (by rfl) (fun K hK => ?_)
          go_simp
          refine (samecode_self _ _ M1 Y1 _ (keysAt_own Oo.out) (keysAt_own Os.out) (by omega)).mono ?_
          rintro e w12_ ⟨rfl, hb⟩
          dsimp only
          replace HB := Lib.hid (HB.out.trans (hb.mono HB.out.size))
          replace Oa := Lib.hid (own_below Oa.out hb)
          replace RA := Lib.hid ((hb.block _ (Array.getElem?_eq_some_iff.1 RA.out).1).trans RA.out)
          replace Oo := Lib.hid (own_below Oo.out hb)
          replace RO := Lib.hid ((hb.block _ (Array.getElem?_eq_some_iff.1 RO.out).1).trans RO.out)
          replace Os := Lib.hid (own_below Os.out hb)
          clear hb
          refine hK _ _ ⟨_, fun _ h => h, ⟨RA.out, RO.out⟩, ?_⟩
          clear hK K
          try simp only [Act.put, List.setIfInBounds_toArray, List.set_cons_zero, List.set_cons_succ]
          refine wpG_end [false, false, false, false, false, false, false, false, false, false, false, false, false, false, false, false, false, false, true, true] (by kernel_rfl) (by intro c a d v w h; cases d <;> exact h) (by kernel_rfl) ⟨RA.out, RO.out⟩ ?_
          try simp only [maskRows]
          repeat (first
            | go_big_quiet_skip
            | (go_big_quiet_want
               first
                 | (go_big_quiet_op; go_big_quiet_on)
                 | (refine q_load 24 _ _ _ rfl rfl LA ?_; simp only [Act.put, List.setIfInBounds_toArray, List.set_cons_zero, List.set_cons_succ]; go_big_quiet_on)
                 | (refine q_load 26 _ _ _ rfl rfl LO ?_; simp only [Act.put, List.setIfInBounds_toArray, List.set_cons_zero, List.set_cons_succ]; go_big_quiet_on)
                 | (go_big_quiet_op; refine ⟨_, fun _ _ => rfl, ?_⟩; go_big_quiet_on)
                 | (go_big_quiet_op; refine ⟨_, fun _ _ _ => rfl, ?_⟩; go_big_quiet_on)))
          refine wpQuiet_nil ?_
          go_wp2
          go_ret
          exact ⟨rfl, HB.out⟩
        · refine segt_run rfl (by rfl) (fun K hK => ?_)
          go_simp
          refine hK _ _ ⟨_, fun _ h => h, ⟨RA.out, RO.out⟩, ?_⟩
          clear hK K
          try simp only [Act.put, List.setIfInBounds_toArray, List.set_cons_zero, List.set_cons_succ]
          refine wpG_seg [false, false, false, false, false, false, true] [1] 13 (by kernel_rfl) (by intro c a d v w h; cases d <;> exact h) (by kernel_rfl) ⟨RA.out, RO.out⟩ ?_
          try simp only [maskRows]
          repeat (first
            | go_big_quiet_skip
            | (go_big_quiet_want
               first
                 | (go_big_quiet_op; go_big_quiet_on)
                 | (refine q_load 24 _ _ _ rfl rfl LA ?_; simp only [Act.put, List.setIfInBounds_toArray, List.set_cons_zero, List.set_cons_succ]; go_big_quiet_on)
                 | (refine q_load 26 _ _ _ rfl rfl LO ?_; simp only [Act.put, List.setIfInBounds_toArray, List.set_cons_zero, List.set_cons_succ]; go_big_quiet_on)
                 | (go_big_quiet_op; refine ⟨_, fun _ _ => rfl, ?_⟩; go_big_quiet_on)
                 | (go_big_quiet_op; refine ⟨_, fun _ _ _ => rfl, ?_⟩; go_big_quiet_on)))
          refine wpQuiet_nil ?_
          refine List.forall_mem_singleton.2 ?_
          refine segt_run rfl (by rfl) (fun K hK => ?_)
          go_simp
          refine hK _ _ ⟨_, fun _ h => h, ⟨RA.out, RO.out⟩, ?_⟩
          clear hK K
          try simp only [Act.put, List.setIfInBounds_toArray, List.set_cons_zero, List.set_cons_succ]
          refine wpG_seg [false, false, false, false, false, false, false, true, true, true] [10] 9 (by kernel_rfl) (by intro c a d v w h; cases d <;> exact h) (by kernel_rfl) ⟨RA.out, RO.out⟩ ?_
          try simp only [maskRows]
          repeat (first
            | go_big_quiet_skip
            | (go_big_quiet_want
               first
                 | (go_big_quiet_op; go_big_quiet_on)
                 | (refine q_load 24 _ _ _ rfl rfl LA ?_; simp only [Act.put, List.setIfInBounds_toArray, List.set_cons_zero, List.set_cons_succ]; go_big_quiet_on)
                 | (refine q_load 26 _ _ _ rfl rfl LO ?_; simp only [Act.put, List.setIfInBounds_toArray, List.set_cons_zero, List.set_cons_succ]; go_big_quiet_on)
                 | (go_big_quiet_op; refine ⟨_, fun _ _ => rfl, ?_⟩; go_big_quiet_on)
                 | (go_big_quiet_op; refine ⟨_, fun _ _ _ => rfl, ?_⟩; go_big_quiet_on)))
          refine wpQuiet_nil ?_
          refine List.forall_mem_singleton.2 ?_
          refine segt_run rfl (by rfl) (fun K hK => ?_)
          go_simp
          refine (CO.out _ _ (keysAt_own Oo.out)).mono ?_
          rintro e w9_ ⟨rfl, hb⟩
          dsimp only
          replace HB := Lib.hid (HB.out.trans (hb.mono HB.out.size))
          replace Oa := Lib.hid (own_below Oa.out hb)
          replace RA := Lib.hid ((hb.block _ (Array.getElem?_eq_some_iff.1 RA.out).1).trans RA.out)
          replace Oo := Lib.hid (own_below Oo.out hb)
          replace RO := Lib.hid ((hb.block _ (Array.getElem?_eq_some_iff.1 RO.out).1).trans RO.out)
          clear hb
          refine hK _ _ ⟨_, fun _ h => h, ⟨RA.out, RO.out⟩, ?_⟩
          clear hK K
          try simp only [Act.put, List.setIfInBounds_toArray, List.set_cons_zero, List.set_cons_succ]
          refine wpG_seg [false, false, false, false, false, false, false, false, false, false, false, true, true, true, true] [15] 4 (by kernel_rfl) (by intro c a d v w h; cases d <;> exact h) (by kernel_rfl) ⟨RA.out, RO.out⟩ ?_
          try simp only [maskRows]
          repeat (first
            | go_big_quiet_skip
            | (go_big_quiet_want
               first
                 | (go_big_quiet_op; go_big_quiet_on)
                 | (refine q_load 24 _ _ _ rfl rfl LA ?_; simp only [Act.put, List.setIfInBounds_toArray, List.set_cons_zero, List.set_cons_succ]; go_big_quiet_on)
                 | (refine q_load 26 _ _ _ rfl rfl LO ?_; simp only [Act.put, List.setIfInBounds_toArray, List.set_cons_zero, List.set_cons_succ]; go_big_quiet_on)
                 | (go_big_quiet_op; refine ⟨_, fun _ _ => rfl, ?_⟩; go_big_quiet_on)
                 | (go_big_quiet_op; refine ⟨_, fun _ _ _ => rfl, ?_⟩; go_big_quiet_on)))
          refine wpQuiet_nil ?_
          refine List.forall_mem_singleton.2 ?_
          refine segt_run rfl (by rfl) (fun K hK => ?_)
          go_simp
          refine (DS.out _ HB.out).mono ?_
          rintro e w10_ ⟨rfl, hb⟩
          dsimp only
          replace HB := Lib.hid (HB.out.trans (hb.mono HB.out.size))
          replace Oa := Lib.hid (own_below Oa.out hb)
          replace RA := Lib.hid ((hb.block _ (Array.getElem?_eq_some_iff.1 RA.out).1).trans RA.out)
          replace Oo := Lib.hid (own_below Oo.out hb)
          replace RO := Lib.hid ((hb.block _ (Array.getElem?_eq_some_iff.1 RO.out).1).trans RO.out)
          clear hb
          refine hK _ _ ⟨_, fun _ h => h, ⟨RA.out, RO.out⟩, ?_⟩
          clear hK K
          try simp only [Act.put, List.setIfInBounds_toArray, List.set_cons_zero, List.set_cons_succ]
          refine wpG_seg [] [16] 3 (by kernel_rfl) (by intro c a d v w h; cases d <;> exact h) (by kernel_rfl) ⟨RA.out, RO.out⟩ ?_
          try simp only [maskRows]
          refine wpQuiet_nil ?_
          refine List.forall_mem_singleton.2 ?_
          refine segt_run rfl (by rfl) (fun K hK => ?_)
          go_simp
          refine (SS.out _).mono ?_
          rintro e w11_ ⟨vs, rfl, ho, hb⟩
          dsimp only
          obtain ⟨sas, sns, sks, rfl⟩ := own_shape ho
          have Os := Lib.hid (own_base ho HB.out.size)
          clear ho
          replace HB := Lib.hid (HB.out.trans (hb.mono HB.out.size))
          replace Oa := Lib.hid (own_below Oa.out hb)
          replace RA := Lib.hid ((hb.block _ (Array.getElem?_eq_some_iff.1 RA.out).1).trans RA.out)
          replace Oo := Lib.hid (own_below Oo.out hb)
          replace RO := Lib.hid ((hb.block _ (Array.getElem?_eq_some_iff.1 RO.out).1).trans RO.out)
          clear hb
          refine hK _ _ ⟨_, fun _ h => h, ⟨RA.out, RO.out⟩, ?_⟩
          clear hK K
          try simp only [Act.put, List.setIfInBounds_toArray, List.set_cons_zero, List.set_cons_succ]
          refine wpG_seg [] [17] 2 (by kernel_rfl) (by intro c a d v w h; cases d <;> exact h) (by kernel_rfl) ⟨RA.out, RO.out⟩ ?_
          try simp only [maskRows]
          refine wpQuiet_nil ?_
          refine List.forall_mem_singleton.2 ?_
          refine segt_run rfl (by rfl) (fun K hK => ?_)
          go_simp
          refine (samecode_self _ _ M1 Y1 _ (keysAt_own Oo.out) (keysAt_own Os.out) (by omega)).mono ?_
          rintro e w12_ ⟨rfl, hb⟩
          dsimp only
          replace HB := Lib.hid (HB.out.trans (hb.mono HB.out.size))
          replace Oa := Lib.hid (own_below Oa.out hb)
          replace RA := Lib.hid ((hb.block _ (Array.getElem?_eq_some_iff.1 RA.out).1).trans RA.out)
          replace Oo := Lib.hid (own_below Oo.out hb)
          replace RO := Lib.hid ((hb.block _ (Array.getElem?_eq_some_iff.1 RO.out).1).trans RO.out)
          replace Os := Lib.hid (own_below Os.out hb)
          clear hb
          refine hK _ _ ⟨_, fun _ h => h, ⟨RA.out, RO.out⟩, ?_⟩
          clear hK K
          try simp only [Act.put, List.setIfInBounds_toArray, List.set_cons_zero, List.set_cons_succ]
          refine wpG_end [false, false, false, false, false, false, false, false, false, false, false, false, false, false, false, false, false, false, true, true] (by kernel_rfl) (by intro c a d v w h; cases d <;> exact h) (by kernel_rfl) ⟨RA.out, RO.out⟩ ?_
          try simp only [maskRows]
          repeat (first
            | go_big_quiet_skip
            | (go_big_quiet_want
               first
                 | (go_big_quiet_op; go_big_quiet_on)
                 | (refine q_load 24 _ _ _ rfl rfl LA ?_; simp only [Act.put, List.setIfInBounds_toArray, List.set_cons_zero, List.set_cons_succ]; go_big_quiet_on)
                 | (refine q_load 26 _ _ _ rfl rfl LO ?_; simp only [Act.put, List.setIfInBounds_toArray, List.set_cons_zero, List.set_cons_succ]; go_big_quiet_on)
                 | (go_big_quiet_op; refine ⟨_, fun _ _ => rfl, ?_⟩; go_big_quiet_on)
                 | (go_big_quiet_op; refine ⟨_, fun _ _ _ => rfl, ?_⟩; go_big_quiet_on)))
          refine wpQuiet_nil ?_
          go_wp2
          go_ret
          exact ⟨rfl, HB.out⟩
  · go_enter Tryd.func3, Tryd.ntmps3
    go_wp2_with fail
    refine (big_true _ _ _ _ hbig).mono ?_
    rintro e w1 ⟨rfl, rfl⟩
    go_wp2
    go_ret
    exact ⟨rfl, Below.refl _ _⟩
end Go.Proofs.YtnknfmjpkphbpaaDoor
/- A word's text: the exact law, walked. -/
namespace Go.Proofs.YtnknfmjpkphbpaaDoor
open Go.ChangeShapes Go.WideShapes Go.ChangeAt Go.RowKit Go.BigFrame
set_option linter.unusedVariables false

set_option maxRecDepth 100000 in
set_option maxHeartbeats 4000000 in
theorem excodetext_walk (v : Value) (ks : List K2) (y : ByteArray) (w : World) (h : keysAt w v ks) (hn : ks.length ≤ maxLen) (hy : y.size ≤ maxLen) (hV : Lib.TabIs Tryd.prog w "internal/strconv.uint64pow10" IntKind.u64 Lib.pow10Tab) : Calls Tryd.prog 4 #[.agg #[v, .string y]] w fun e w' => e = .returned (.bool true) ∧ Below w.heap.size w w' := by
  unfold maxLen at hn hy
  have HB := Lib.hid ((Below.refl w.heap.size w).alloc (Nat.le_refl _) (.cells #[v, .string y] 40))
  have RA := Lib.hid (heap_alloc_new w (.cells #[v, .string y] 40))
  have TC := Lib.hid (fun w' (hb : Below w.heap.size w w') (hl : ks.length ≤ 1048576) => tocode_any v ks y w' (keysAt_below h hb) (by omega))
  have IC := Lib.hid (fun w' v' (h : keysAt w' v' ks) (hl : ks.length ≤ 1048576) (hb : Below w.heap.size w w') => icodetext_any v' ks y w' h (by omega) (tab_below hV hb))
  clear hV
  obtain ⟨a, cap, rfl, -, -⟩ := h
  have SZ := Lib.hid (fun w' => szcode_any (.slice a ks.length cap) ks y 1048576 w' ⟨a, cap, rfl⟩ (by omega) hn hy)
  go_enter Tryd.func4, Tryd.ntmps4
  obtain ⟨Ac0, Ac1, -, -⟩ := row2_of RA.out
  go_wp2_with fail
  generalize w.alloc (.cells #[.slice a ks.length cap, .string y] 40) = W at *
  refine (SZ.out _).mono ?_
  rintro e w1 ⟨rfl, hb⟩
  replace HB := Lib.hid (HB.out.trans (hb.mono HB.out.size))
  replace RA := Lib.hid ((hb.block _ (Array.getElem?_eq_some_iff.1 RA.out).1).trans RA.out)
  clear hb SZ Ac0 Ac1
  rcases szC_cases 1048576 ks.length y.size (by omega) with hneg | ⟨hneg, h0, h1, hl0, hy0⟩
  · generalize szC 1048576 ks.length y.size = x at *
    go_wp2
    go_ret
    exact ⟨rfl, HB.out⟩
  have hl : ks.length ≤ 1048576 := by omega
  have hy2 : y.size ≤ 1048576 := by omega
  clear hl0 hy0
  generalize szC 1048576 ks.length y.size = x at *
  have SC := Lib.hid (fun w' v' (h : keysAt w' v' ks) => scodetext_any v' ks y w' h (by omega))
  generalize cdT (ks, y) = B at *
  have e1 : (B.toList == B.toList) = true := beq_self_eq_true _
  have e2 : (B.toList != B.toList) = false := by simp
  obtain ⟨Ac0, Ac1, -, -⟩ := row2_of RA.out
  go_wp2_with fail
  refine (TC.out _ HB.out hl).mono ?_
  rintro e w1_ ⟨vs, rfl, ho, hb⟩
  obtain ⟨sas, sns, sks, rfl⟩ := own_shape ho
  have NEsA := Lib.hid (own_ne_row (b := w.heap.size) ho (Array.getElem?_eq_some_iff.1 RA.out).1)
  have Os := Lib.hid (own_base ho HB.out.size)
  clear ho
  replace HB := Lib.hid (HB.out.trans (hb.mono HB.out.size))
  replace RA := Lib.hid ((hb.block _ (Array.getElem?_eq_some_iff.1 RA.out).1).trans RA.out)
  replace NEsA := Lib.hid (NEsA.out)
  clear hb
  clear Ac0 Ac1
  go_wp2_with fail
  refine (SC.out _ _ (keysAt_own Os.out)).mono ?_
  rintro e w2_ ⟨rfl, hb⟩
  replace HB := Lib.hid (HB.out.trans (hb.mono HB.out.size))
  replace RA := Lib.hid ((hb.block _ (Array.getElem?_eq_some_iff.1 RA.out).1).trans RA.out)
  replace NEsA := Lib.hid (NEsA.out)
  replace Os := Lib.hid (own_below Os.out hb)
  clear hb
  clear Os NEsA
  obtain ⟨Ac0, Ac1, -, -⟩ := row2_of RA.out
  go_wp2_with fail
  refine (TC.out _ HB.out hl).mono ?_
  rintro e w3_ ⟨vx, rfl, ho, hb⟩
  obtain ⟨sax, snx, skx, rfl⟩ := own_shape ho
  have NExA := Lib.hid (own_ne_row (b := w.heap.size) ho (Array.getElem?_eq_some_iff.1 RA.out).1)
  have Ox := Lib.hid (own_base ho HB.out.size)
  clear ho
  replace HB := Lib.hid (HB.out.trans (hb.mono HB.out.size))
  replace RA := Lib.hid ((hb.block _ (Array.getElem?_eq_some_iff.1 RA.out).1).trans RA.out)
  replace NExA := Lib.hid (NExA.out)
  clear hb
  clear Ac0 Ac1
  have NExX := Lib.hid (own_ne_new Ox.out)
  replace HB := Lib.hid (HB.out.alloc HB.out.size (.cells #[.slice sax snx skx, .string y] 26))
  replace RA := Lib.hid ((Below.heap_alloc _ (.cells #[.slice sax snx skx, .string y] 26) _ (Array.getElem?_eq_some_iff.1 RA.out).1).trans RA.out)
  replace NExA := Lib.hid (NExA.out)
  replace Ox := Lib.hid (Ox.out.alloc (.cells #[.slice sax snx skx, .string y] 26))
  replace NExX := Lib.hid (NExX.out)
  have RX := Lib.hid (heap_alloc_new (w3_) (.cells #[.slice sax snx skx, .string y] 26))
  obtain ⟨Xc0, Xc1, -, -⟩ := row2_of RX.out
  go_wp2_with fail
  generalize World.alloc (w3_) (.cells #[.slice sax snx skx, .string y] 26) = w4_ at *
  generalize (w3_).heap.size = bX at *
  refine (IC.out _ _ (keysAt_own Ox.out) hl HB.out).mono ?_
  rintro e w5_ ⟨rfl, hb⟩
  replace HB := Lib.hid (HB.out.trans (hb.mono HB.out.size))
  replace RA := Lib.hid ((hb.block _ (Array.getElem?_eq_some_iff.1 RA.out).1).trans RA.out)
  replace NExA := Lib.hid (NExA.out)
  replace Ox := Lib.hid (own_below Ox.out hb)
  replace NExX := Lib.hid (NExX.out)
  replace RX := Lib.hid ((hb.block _ (Array.getElem?_eq_some_iff.1 RX.out).1).trans RX.out)
  clear hb
  clear Xc0 Xc1
  go_wp2_with fail
  have LX : ∀ w' : World, w'.heap[bX]? = some (.cells #[.slice sax snx skx, .string y] 26) ∧ w'.heap[w.heap.size]? = some (.cells #[.slice a ks.length cap, .string y] 40) → (loadVar 26 ⟨bX, 0, none⟩).run Tryd.prog w' = .ok (.agg #[.slice sax snx skx, .string y]) w' := fun w' h => cd_load h.1 (Below.refl _ _)
  have LA : ∀ w' : World, w'.heap[bX]? = some (.cells #[.slice sax snx skx, .string y] 26) ∧ w'.heap[w.heap.size]? = some (.cells #[.slice a ks.length cap, .string y] 40) → (loadVar 40 ⟨w.heap.size, 0, none⟩).run Tryd.prog w' = .ok (.agg #[.slice a ks.length cap, .string y]) w' := fun w' h => lcd_load h.2
  refine wp_region_G (fun w' => w'.heap[bX]? = some (.cells #[.slice sax snx skx, .string y] 26) ∧ w'.heap[w.heap.size]? = some (.cells #[.slice a ks.length cap, .string y] 40)) (by kernel_rfl) ?_
  replace HB := Lib.hid (HB.out.drew)
  replace RA := Lib.hid (show (World.drew _).heap[_]? = _ from RA.out)
  replace NExA := Lib.hid (NExA.out)
  replace Ox := Lib.hid (Ox.out.drew)
  replace NExX := Lib.hid (NExX.out)
  replace RX := Lib.hid (show (World.drew _).heap[_]? = _ from RX.out)
  generalize (w5_).drew = wD5 at *
  refine wpG_seg [true, true] [2] 2 (by kernel_rfl) (by intro c a d v w h; cases d <;> exact h) (by kernel_rfl) ⟨RX.out, RA.out⟩ ?_
  try simp only [maskRows]
  repeat (first
    | go_big_quiet_skip
    | (go_big_quiet_want
       first
         | (go_big_quiet_op; go_big_quiet_on)
         | (refine q_load 26 _ _ _ rfl rfl LX ?_; simp only [Act.put, List.setIfInBounds_toArray, List.set_cons_zero, List.set_cons_succ]; go_big_quiet_on)
         | (refine q_load 40 _ _ _ rfl rfl LA ?_; simp only [Act.put, List.setIfInBounds_toArray, List.set_cons_zero, List.set_cons_succ]; go_big_quiet_on)
         | (go_big_quiet_op; refine ⟨_, fun _ _ => rfl, ?_⟩; go_big_quiet_on)
         | (go_big_quiet_op; refine ⟨_, fun _ _ _ => rfl, ?_⟩; go_big_quiet_on)))
  refine wpQuiet_nil ?_
  refine List.forall_mem_singleton.2 ?_
  refine segt_run rfl (by rfl) (fun K hK => ?_)
  go_simp
  refine (TC.out _ HB.out hl).mono ?_
  rintro e w6_ ⟨vz, rfl, ho, hb⟩
  dsimp only
  obtain ⟨saz, snz, skz, rfl⟩ := own_shape ho
  have NEzA := Lib.hid (own_ne_row (b := w.heap.size) ho (Array.getElem?_eq_some_iff.1 RA.out).1)
  have NEzX := Lib.hid (own_ne_row (b := bX) ho (Array.getElem?_eq_some_iff.1 RX.out).1)
  have Oz := Lib.hid (own_base ho HB.out.size)
  clear ho
  replace HB := Lib.hid (HB.out.trans (hb.mono HB.out.size))
  replace RA := Lib.hid ((hb.block _ (Array.getElem?_eq_some_iff.1 RA.out).1).trans RA.out)
  replace NExA := Lib.hid (NExA.out)
  replace Ox := Lib.hid (own_below Ox.out hb)
  replace NExX := Lib.hid (NExX.out)
  replace RX := Lib.hid ((hb.block _ (Array.getElem?_eq_some_iff.1 RX.out).1).trans RX.out)
  replace NEzA := Lib.hid (NEzA.out)
  replace NEzX := Lib.hid (NEzX.out)
  clear hb
  refine hK _ _ ⟨_, fun _ h => h, ⟨RX.out, RA.out⟩, ?_⟩
  clear hK K
  try simp only [Act.put, List.setIfInBounds_toArray, List.set_cons_zero, List.set_cons_succ]
  refine wpG_seg [] [3] 1 (by kernel_rfl) (by intro c a d v w h; cases d <;> exact h) (by kernel_rfl) ⟨RX.out, RA.out⟩ ?_
  try simp only [maskRows]
  refine wpQuiet_nil ?_
  refine List.forall_mem_singleton.2 ?_
  refine segt_run rfl (by rfl) (fun K hK => ?_)
  go_simp
  refine (eqcode_self _ _ ks y _ (keysAt_own Ox.out) (keysAt_own Oz.out) (by omega)).mono ?_
  rintro e w7_ ⟨rfl, hb⟩
  dsimp only
  replace HB := Lib.hid (HB.out.trans (hb.mono HB.out.size))
  replace RA := Lib.hid ((hb.block _ (Array.getElem?_eq_some_iff.1 RA.out).1).trans RA.out)
  replace NExA := Lib.hid (NExA.out)
  replace Ox := Lib.hid (own_below Ox.out hb)
  replace NExX := Lib.hid (NExX.out)
  replace RX := Lib.hid ((hb.block _ (Array.getElem?_eq_some_iff.1 RX.out).1).trans RX.out)
  replace NEzA := Lib.hid (NEzA.out)
  replace NEzX := Lib.hid (NEzX.out)
  replace Oz := Lib.hid (own_below Oz.out hb)
  clear hb
  refine hK _ _ ⟨_, fun _ h => h, ⟨RX.out, RA.out⟩, ?_⟩
  clear hK K
  try simp only [Act.put, List.setIfInBounds_toArray, List.set_cons_zero, List.set_cons_succ]
  refine wpG_end [false, false, false, false, true] (by kernel_rfl) (by intro c a d v w h; cases d <;> exact h) (by kernel_rfl) ⟨RX.out, RA.out⟩ ?_
  try simp only [maskRows]
  repeat (first
    | go_big_quiet_skip
    | (go_big_quiet_want
       first
         | (go_big_quiet_op; go_big_quiet_on)
         | (refine q_load 26 _ _ _ rfl rfl LX ?_; simp only [Act.put, List.setIfInBounds_toArray, List.set_cons_zero, List.set_cons_succ]; go_big_quiet_on)
         | (refine q_load 40 _ _ _ rfl rfl LA ?_; simp only [Act.put, List.setIfInBounds_toArray, List.set_cons_zero, List.set_cons_succ]; go_big_quiet_on)
         | (go_big_quiet_op; refine ⟨_, fun _ _ => rfl, ?_⟩; go_big_quiet_on)
         | (go_big_quiet_op; refine ⟨_, fun _ _ _ => rfl, ?_⟩; go_big_quiet_on)))
  refine wpQuiet_nil ?_
  clear LX LA
  clear Oz NEzA NEzX
  go_wp2
  go_ret
  exact ⟨rfl, HB.out⟩
end Go.Proofs.YtnknfmjpkphbpaaDoor
/- Words that came in as arguments, opened, with the range of their keys. -/
namespace Go.Proofs.YtnknfmjpkphbpaaDoor
open Go.ChangeShapes Go.WideShapes Go.ChangeAt Go.RowKit Go.Deep
set_option linter.unusedVariables false

theorem keys_cells {H : Type} {enc : TypeId × Value → H} {W : World} {base : Nat} {sp : Nat → Bool} {held : Bool} {n : Nat} {cs : List Value} {y : DataW H × List MemPlace}
    (h : DataW.trod enc Tryd.prog W base sp held n 38 cs = some y) : ∃ (v : Value) (ks : List K2), cs = [v] ∧ keysAt W v ks ∧ ks.length ≤ maxLen ∧ ∀ k ∈ ks, kIn k := by
  rcases open_slice_pairs Tryd.underlying38 Tryd.underlying81 (by kernel_rfl) rfl rfl (by kernel_rfl) (by kernel_rfl) h with ⟨hcs, -⟩ | ⟨x, len, cap, m, n, V0, V1, D0, D1, P0, P1, hcs, -, hl, hm, hmm, -, hx⟩
  · exact ⟨_, [], hcs, ⟨none, 0, rfl, by simp, .inl rfl⟩, by simp, by simp⟩
  · have hmc : len ≤ m := by
      rw [hmm]
      split <;> omega
    have hev : ∀ i, i < len → ∃ k : K2, (W.cell? (x.add (i * 2)) = some (.int .i64 k.1) ∧ W.cell? (x.add (i * 2 + 1)) = some (.int .i64 k.2)) ∧ kIn k := by
      intro i hi
      obtain ⟨h0, h1, t0, t1⟩ := hx i (by omega)
      obtain ⟨z0, e0, -, q0⟩ := DataW.trod_int Tryd.underlying3 t0
      obtain ⟨z1, e1, -, q1⟩ := DataW.trod_int Tryd.underlying3 t1
      have e0 : V0 i = .int .i64 z0 := (List.cons.inj e0).1
      have e1 : V1 i = .int .i64 z1 := (List.cons.inj e1).1
      exact ⟨(z0, z1), ⟨by rw [h0, e0], by rw [h1, e1]⟩, bounds_i64 q0, bounds_i64 q1⟩
    obtain ⟨f, hf2⟩ := choose_lt hev
    refine ⟨_, (List.range len).map f, hcs, ⟨some x, cap, by simp, by simpa using hl, ?_⟩, by simp; omega, fun k hk => by
      obtain ⟨i, hi, rfl⟩ := List.mem_map.1 hk
      exact (hf2 i (List.mem_range.1 hi)).2⟩
    simp only [List.length_map, List.length_range]
    rcases Nat.eq_zero_or_pos len with h0 | h0
    · exact .inl h0
    · obtain ⟨b, off, spot⟩ := x
      have hc := (hf2 0 h0).1.1
      have hs : spot = none := by simpa [Addr.add] using World.cell?_spot hc
      subst hs
      have hadd : ∀ j, (⟨b, off, none⟩ : Addr).add j = ⟨b, off + j, none⟩ := by
        intro j
        unfold Addr.add
        split
        · rename_i h; simp [h]
        · rfl
      refine .inr ⟨b, off, rfl, World.block_lt_of_cell? W ⟨b, off, none⟩ (by simpa [Addr.add] using hc), fun i hi => ?_⟩
      have e : ((List.range len).map f).getD i (0, 0) = f i := by simp [List.getD, hi]
      have := (hf2 i hi).1
      rw [hadd, hadd] at this
      rw [e]
      exact this
set_option maxRecDepth 10000 in
theorem cd_cells_read {H : Type} {enc : TypeId × Value → H} {W : World} {base : Nat} {sp : Nat → Bool} {held : Bool} {n : Nat} {cs : List Value} {x : DataW H × List MemPlace} (hl : cs.length = 2)
    (h : DataW.trod enc Tryd.prog W base sp held n 40 cs = some x) : ∃ (v : Value) (ks : List K2) (y : ByteArray), cs = [v, .string y] ∧ keysAt W v ks ∧ ks.length ≤ maxLen ∧ (∀ k ∈ ks, kIn k) ∧ y.size ≤ maxLen := by
  have c0 : Tryd.prog.cellsOf 38 = 1 := by kernel_rfl
  have c1 : Tryd.prog.cellsOf 9 = 1 := by kernel_rfl
  match cs, hl with
  | [a, b], _ =>
    obtain ⟨xs, k, hk, hxy, _, hxl, hf⟩ := DataW.trod_struct Tryd.underlying40 h
    match xs, hxl with
    | [y0, y1], _ =>
      have g0 := hf 0 _ rfl
      have g1 := hf 1 _ rfl
      simp [c0, c1] at g0 g1
      obtain ⟨v, ks, hv, hks, hkl, hki⟩ := keys_cells g0
      obtain ⟨s, e2, -, hs⟩ := DataW.trod_string Tryd.underlying9 g1
      cases hv; cases e2
      exact ⟨_, ks, s, rfl, hks, hkl, hki, hs⟩
set_option maxRecDepth 10000 in
theorem open_codeW {H : Type} {enc : TypeId × Value → H} {W : World} {r : Reach} {b0 : Nat} {v : Value} {d : DataW H} {p : List MemPlace} (hv : Value.okWide Tryd.prog W r b0 40 v) (h : DataW.Trod enc Tryd.prog W 0 (fun _ => true) true 40 v d p) :
    ∃ (a : Value) (ks : List K2) (y : ByteArray), v = .agg #[a, .string y] ∧ keysAt W a ks ∧ ks.length ≤ maxLen ∧ (∀ k ∈ ks, kIn k) ∧ y.size ≤ maxLen := by
  obtain ⟨cs, rfl, hsz⟩ := okWide_struct Tryd.underlying40 hv
  have hC : Tryd.prog.cellsOf 40 = 2 := by kernel_rfl
  obtain ⟨fuel, hf⟩ := h
  obtain ⟨a, ks, y, hq, hk, hl, hki, hy⟩ := cd_cells_read (by simpa [Value.cells] using hsz.trans hC) hf
  refine ⟨a, ks, y, ?_, hk, hl, hki, hy⟩
  simp only [Value.cells] at hq
  rw [← Array.toArray_toList (xs := cs), hq]
end Go.Proofs.YtnknfmjpkphbpaaDoor
