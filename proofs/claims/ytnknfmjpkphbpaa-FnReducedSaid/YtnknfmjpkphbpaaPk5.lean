/- Texts of this seat, one behind the other (part 5): what the laws of chapter 5 lean on. -/
import Derived.Test.YtnknfmjpkphbpaaPk4
import Derived.Lib.Hide
import Derived.Lib.Bytealg
import Derived.Deep.QuietTactic
import Derived.BigQuiet

set_option linter.unusedVariables false
set_option linter.unusedSimpArgs false

/- Two words put together: the law on drawn words, walked. -/
namespace Go.Proofs.Ytnknfmjpkphbpaa
open Go.ChangeShapes Go.WideShapes Go.ChangeAt Go.RowKit Go.BigFrame
set_option linter.unusedVariables false

set_option maxRecDepth 100000 in
set_option maxHeartbeats 4000000 in
theorem fncombine_walk (a0 : Option Addr) (len0 cap0 : Nat) (z0 : List Int) (w : World) (w0 : IsRow .u8 w a0 len0 cap0 z0) :
    Calls Try.prog 3 #[.slice a0 len0 cap0] w fun e w' => e = .returned (.bool true) ∧ Below w.heap.size w w' := by
  by_cases hbig : len0 ≤ 1048576
  · have hcode := codeAt_of w0 hbig
    clear w0
    have HC := Lib.hid hcode
    clear hcode
    go_enter Try.func3, Try.ntmps3
    go_wp2_with fail
    refine (big_any _ _ _ _ hbig).mono ?_
    rintro e w1 ⟨rfl, rfl⟩
    go_wp2_with fail
    refine (drawcombine_any w1.heap.size len0 cap0 a0 z0 w1 HC.out (Nat.le_refl _)).mono ?_
    rintro e w2 ⟨va, A, ya, vb, B, yb, rfl, ⟨hA, hB, hya, hyb⟩, hoa, hob, hb⟩
    obtain ⟨saa, sna, ska, rfl⟩ := own_shape hoa
    obtain ⟨sab, snb, skb, rfl⟩ := own_shape hob
    have HB := Lib.hid hb
    have Oa := Lib.hid hoa
    have Ob := Lib.hid hob
    clear HC hoa hob hb
    have IC := Lib.hid (fun w' va vb (A : List K2) ya (B : List K2) yb x (ha : keysAt w' va A) (hb : keysAt w' vb B) (hl : A.length ≤ 7) (hl2 : B.length ≤ 7) (e : combM (A, ya) (B, yb) = x) => (show Calls Try.prog 14 #[.agg #[va, .string ya], .agg #[vb, .string yb]] w' fun e w'' => ∃ v', e = .returned (.tuple #[.agg #[v', .string x.1.2], .bool x.2]) ∧
      w''.ownsRow w'.heap.size 41 2 v' x.1.1.length (keyCells x.1.1) ∧ Below w'.heap.size w' w'' from e ▸ icombine_any iparted_any va A ya vb B yb w' ha hb (by omega) (by omega)))
    have SC := Lib.hid (fun w' va vb (ha : keysAt w' va A) (hb : keysAt w' vb B) => scombine_any va A ya vb B yb w' ha hb (by omega) (by omega) (by omega) (by omega))
    have hl6 := comb_len (A, ya) (B, yb)
    generalize hcm : combM (A, ya) (B, yb) = cm at *
    obtain ⟨⟨M, Y⟩, C⟩ := cm
    dsimp only at SC hl6
    have HCM := Lib.hid hcm
    clear hcm
    replace HB := Lib.hid (HB.out.alloc HB.out.size (.cells #[.slice saa sna ska, .string ya] 26))
    replace Oa := Lib.hid (Oa.out.alloc (.cells #[.slice saa sna ska, .string ya] 26))
    replace Ob := Lib.hid (Ob.out.alloc (.cells #[.slice saa sna ska, .string ya] 26))
    have RA := Lib.hid (heap_alloc_new (w2) (.cells #[.slice saa sna ska, .string ya] 26))
    replace HB := Lib.hid (HB.out.alloc HB.out.size (.cells #[.slice sab snb skb, .string yb] 26))
    replace Oa := Lib.hid (Oa.out.alloc (.cells #[.slice sab snb skb, .string yb] 26))
    replace Ob := Lib.hid (Ob.out.alloc (.cells #[.slice sab snb skb, .string yb] 26))
    replace RA := Lib.hid ((Below.heap_alloc _ (.cells #[.slice sab snb skb, .string yb] 26) _ (Array.getElem?_eq_some_iff.1 RA.out).1).trans RA.out)
    have rb := heap_alloc_new (World.alloc (w2) (.cells #[.slice saa sna ska, .string ya] 26)) (.cells #[.slice sab snb skb, .string yb] 26)
    rw [show (World.alloc (w2) (.cells #[.slice saa sna ska, .string ya] 26)).heap.size = (w2).heap.size + 1 by simp] at rb
    have RB := Lib.hid rb
    clear rb
    obtain ⟨Ac0, Ac1, -, -⟩ := row2_of RA.out
    obtain ⟨Bc0, Bc1, -, -⟩ := row2_of RB.out
    go_wp2_with fail
    generalize (World.alloc (World.alloc (w2) (.cells #[.slice saa sna ska, .string ya] 26)) (.cells #[.slice sab snb skb, .string yb] 26)) = w1_ at *
    generalize (w2).heap.size = bA at *
    clear Ac0 Ac1 Bc0 Bc1
    refine (IC.out _ _ _ A ya B yb _ (keysAt_own Oa.out) (keysAt_own Ob.out) hA hB HCM.out).mono ?_
    rintro e w2_ ⟨vx, rfl, ho, hb⟩
    dsimp only at ho ⊢
    obtain ⟨sax, snx, skx, rfl⟩ := own_shape ho
    have Ox := Lib.hid (own_base ho HB.out.size)
    clear ho
    replace HB := Lib.hid (HB.out.trans (hb.mono HB.out.size))
    replace Oa := Lib.hid (own_below Oa.out hb)
    replace Ob := Lib.hid (own_below Ob.out hb)
    replace RA := Lib.hid ((hb.block _ (Array.getElem?_eq_some_iff.1 RA.out).1).trans RA.out)
    replace RB := Lib.hid ((hb.block _ (Array.getElem?_eq_some_iff.1 RB.out).1).trans RB.out)
    clear hb
    replace HB := Lib.hid (HB.out.alloc HB.out.size (.cells #[.slice sax snx skx, .string Y] 26))
    replace Oa := Lib.hid (Oa.out.alloc (.cells #[.slice sax snx skx, .string Y] 26))
    replace Ob := Lib.hid (Ob.out.alloc (.cells #[.slice sax snx skx, .string Y] 26))
    replace RA := Lib.hid ((Below.heap_alloc _ (.cells #[.slice sax snx skx, .string Y] 26) _ (Array.getElem?_eq_some_iff.1 RA.out).1).trans RA.out)
    replace RB := Lib.hid ((Below.heap_alloc _ (.cells #[.slice sax snx skx, .string Y] 26) _ (Array.getElem?_eq_some_iff.1 RB.out).1).trans RB.out)
    replace Ox := Lib.hid (Ox.out.alloc (.cells #[.slice sax snx skx, .string Y] 26))
    have RX := Lib.hid (heap_alloc_new (w2_) (.cells #[.slice sax snx skx, .string Y] 26))
    obtain ⟨Ac0, Ac1, -, -⟩ := row2_of RA.out
    obtain ⟨Bc0, Bc1, -, -⟩ := row2_of RB.out
    go_wp2_with fail
    generalize World.alloc (w2_) (.cells #[.slice sax snx skx, .string Y] 26) = w3_ at *
    generalize (w2_).heap.size = bX at *
    refine (SC.out _ _ _ (keysAt_own Oa.out) (keysAt_own Ob.out)).mono ?_
    rintro e w4_ ⟨vs, rfl, ho, hb⟩
    dsimp only at ho ⊢
    obtain ⟨sas, sns, sks, rfl⟩ := own_shape ho
    have Os := Lib.hid (own_base ho HB.out.size)
    clear ho
    replace HB := Lib.hid (HB.out.trans (hb.mono HB.out.size))
    replace Oa := Lib.hid (own_below Oa.out hb)
    replace Ob := Lib.hid (own_below Ob.out hb)
    replace RA := Lib.hid ((hb.block _ (Array.getElem?_eq_some_iff.1 RA.out).1).trans RA.out)
    replace RB := Lib.hid ((hb.block _ (Array.getElem?_eq_some_iff.1 RB.out).1).trans RB.out)
    replace Ox := Lib.hid (own_below Ox.out hb)
    replace RX := Lib.hid ((hb.block _ (Array.getElem?_eq_some_iff.1 RX.out).1).trans RX.out)
    clear hb
    clear Ac0 Ac1 Bc0 Bc1
    replace HB := Lib.hid (HB.out.alloc HB.out.size (.cells #[.slice sas sns sks, .string Y] 26))
    replace Oa := Lib.hid (Oa.out.alloc (.cells #[.slice sas sns sks, .string Y] 26))
    replace Ob := Lib.hid (Ob.out.alloc (.cells #[.slice sas sns sks, .string Y] 26))
    replace RA := Lib.hid ((Below.heap_alloc _ (.cells #[.slice sas sns sks, .string Y] 26) _ (Array.getElem?_eq_some_iff.1 RA.out).1).trans RA.out)
    replace RB := Lib.hid ((Below.heap_alloc _ (.cells #[.slice sas sns sks, .string Y] 26) _ (Array.getElem?_eq_some_iff.1 RB.out).1).trans RB.out)
    replace Ox := Lib.hid (Ox.out.alloc (.cells #[.slice sas sns sks, .string Y] 26))
    replace RX := Lib.hid ((Below.heap_alloc _ (.cells #[.slice sas sns sks, .string Y] 26) _ (Array.getElem?_eq_some_iff.1 RX.out).1).trans RX.out)
    replace Os := Lib.hid (Os.out.alloc (.cells #[.slice sas sns sks, .string Y] 26))
    have RS := Lib.hid (heap_alloc_new (w4_) (.cells #[.slice sas sns sks, .string Y] 26))
    have hcc : (C != C) = false := by simp
    obtain ⟨Xc0, Xc1, -, -⟩ := row2_of RX.out
    obtain ⟨Sc0, Sc1, -, -⟩ := row2_of RS.out
    go_wp2_with fail
    generalize World.alloc (w4_) (.cells #[.slice sas sns sks, .string Y] 26) = w5_ at *
    generalize (w4_).heap.size = bS at *
    refine (samecode_self _ _ M Y _ (keysAt_own Ox.out) (keysAt_own Os.out) (by omega)).mono ?_
    rintro e w6_ ⟨rfl, hb⟩
    replace HB := Lib.hid (HB.out.trans (hb.mono HB.out.size))
    replace Oa := Lib.hid (own_below Oa.out hb)
    replace Ob := Lib.hid (own_below Ob.out hb)
    replace RA := Lib.hid ((hb.block _ (Array.getElem?_eq_some_iff.1 RA.out).1).trans RA.out)
    replace RB := Lib.hid ((hb.block _ (Array.getElem?_eq_some_iff.1 RB.out).1).trans RB.out)
    replace Ox := Lib.hid (own_below Ox.out hb)
    replace RX := Lib.hid ((hb.block _ (Array.getElem?_eq_some_iff.1 RX.out).1).trans RX.out)
    replace Os := Lib.hid (own_below Os.out hb)
    replace RS := Lib.hid ((hb.block _ (Array.getElem?_eq_some_iff.1 RS.out).1).trans RS.out)
    clear hb
    clear Xc0 Xc1 Sc0 Sc1
    clear hcc
    cases C with
    | false =>
      have hno := comb_no (A, ya) (B, yb) (by rw [HCM.out])
      rw [HCM.out] at hno
      obtain ⟨rfl, rfl⟩ : M = [] ∧ Y = z4 := by injection hno with h1 h2; injection h1 with h3 h4; exact ⟨h3, h4⟩
      clear hno
      go_wp2_with fail
      have LX : ∀ w' : World, w'.heap[bX]? = some (.cells #[.slice sax snx skx, .string z4] 26) ∧ w'.heap[bA]? = some (.cells #[.slice saa sna ska, .string ya] 26) → (loadVar 26 ⟨bX, 0, none⟩).run Try.prog w' = .ok (.agg #[.slice sax snx skx, .string z4]) w' := fun w' h => cd_load h.1 (Below.refl _ _)
      have LA : ∀ w' : World, w'.heap[bX]? = some (.cells #[.slice sax snx skx, .string z4] 26) ∧ w'.heap[bA]? = some (.cells #[.slice saa sna ska, .string ya] 26) → (loadVar 26 ⟨bA, 0, none⟩).run Try.prog w' = .ok (.agg #[.slice saa sna ska, .string ya]) w' := fun w' h => cd_load h.2 (Below.refl _ _)
      refine wp_region_G (fun w' => w'.heap[bX]? = some (.cells #[.slice sax snx skx, .string z4] 26) ∧ w'.heap[bA]? = some (.cells #[.slice saa sna ska, .string ya] 26)) (by kernel_rfl) ?_
      replace HB := Lib.hid (HB.out.drew)
      replace Oa := Lib.hid (Oa.out.drew)
      replace Ob := Lib.hid (Ob.out.drew)
      replace RA := Lib.hid (show (World.drew _).heap[_]? = _ from RA.out)
      replace RB := Lib.hid (show (World.drew _).heap[_]? = _ from RB.out)
      replace Ox := Lib.hid (Ox.out.drew)
      replace RX := Lib.hid (show (World.drew _).heap[_]? = _ from RX.out)
      replace Os := Lib.hid (Os.out.drew)
      replace RS := Lib.hid (show (World.drew _).heap[_]? = _ from RS.out)
      generalize (w6_).drew = wD6 at *
      refine wpG_seg [true, true] [2] 2 (by kernel_rfl) (by intro c a d v w h; cases d <;> exact h) (by kernel_rfl) ⟨RX.out, RA.out⟩ ?_
      try simp only [maskRows]
      repeat (first
        | go_big_quiet_skip
        | (go_big_quiet_want
           first
             | (go_big_quiet_op; go_big_quiet_on)
             | (refine q_load 26 _ _ _ rfl rfl LX ?_; simp only [Act.put, List.setIfInBounds_toArray, List.set_cons_zero, List.set_cons_succ]; go_big_quiet_on)
             | (refine q_load 26 _ _ _ rfl rfl LA ?_; simp only [Act.put, List.setIfInBounds_toArray, List.set_cons_zero, List.set_cons_succ]; go_big_quiet_on)
             | (go_big_quiet_op; refine ⟨_, fun _ _ => rfl, ?_⟩; go_big_quiet_on)
             | (go_big_quiet_op; refine ⟨_, fun _ _ _ => rfl, ?_⟩; go_big_quiet_on)))
      refine wpQuiet_nil ?_
      refine List.forall_mem_singleton.2 ?_
      refine segt_run rfl (by rfl) (fun K hK => ?_)
      go_simp
      refine (sblank_any _ _ _).mono ?_
      rintro e w7_ ⟨vk, rfl, ho, hb⟩
      dsimp only
      obtain ⟨sak, snk, skk, rfl⟩ := own_shape ho
      have Ok := Lib.hid (own_base ho HB.out.size)
      clear ho
      replace HB := Lib.hid (HB.out.trans (hb.mono HB.out.size))
      replace Oa := Lib.hid (own_below Oa.out hb)
      replace Ob := Lib.hid (own_below Ob.out hb)
      replace RA := Lib.hid ((hb.block _ (Array.getElem?_eq_some_iff.1 RA.out).1).trans RA.out)
      replace RB := Lib.hid ((hb.block _ (Array.getElem?_eq_some_iff.1 RB.out).1).trans RB.out)
      replace Ox := Lib.hid (own_below Ox.out hb)
      replace RX := Lib.hid ((hb.block _ (Array.getElem?_eq_some_iff.1 RX.out).1).trans RX.out)
      replace Os := Lib.hid (own_below Os.out hb)
      replace RS := Lib.hid ((hb.block _ (Array.getElem?_eq_some_iff.1 RS.out).1).trans RS.out)
      clear hb
      refine hK _ _ ⟨_, fun _ h => h, ⟨RX.out, RA.out⟩, ?_⟩
      clear hK K
      try simp only [Act.put, List.setIfInBounds_toArray, List.set_cons_zero, List.set_cons_succ]
      refine wpG_seg [] [3] 1 (by kernel_rfl) (by intro c a d v w h; cases d <;> exact h) (by kernel_rfl) ⟨RX.out, RA.out⟩ ?_
      try simp only [maskRows]
      refine wpQuiet_nil ?_
      refine List.forall_mem_singleton.2 ?_
      refine segt_run rfl (by rfl) (fun K hK => ?_)
      go_simp
      refine (samecode_self _ _ [] z4 _ (keysAt_own Ox.out) (keysAt_own Ok.out) (by simp)).mono ?_
      rintro e w8_ ⟨rfl, hb⟩
      dsimp only
      replace HB := Lib.hid (HB.out.trans (hb.mono HB.out.size))
      replace Oa := Lib.hid (own_below Oa.out hb)
      replace Ob := Lib.hid (own_below Ob.out hb)
      replace RA := Lib.hid ((hb.block _ (Array.getElem?_eq_some_iff.1 RA.out).1).trans RA.out)
      replace RB := Lib.hid ((hb.block _ (Array.getElem?_eq_some_iff.1 RB.out).1).trans RB.out)
      replace Ox := Lib.hid (own_below Ox.out hb)
      replace RX := Lib.hid ((hb.block _ (Array.getElem?_eq_some_iff.1 RX.out).1).trans RX.out)
      replace Os := Lib.hid (own_below Os.out hb)
      replace RS := Lib.hid ((hb.block _ (Array.getElem?_eq_some_iff.1 RS.out).1).trans RS.out)
      replace Ok := Lib.hid (own_below Ok.out hb)
      clear hb
      refine hK _ _ ⟨_, fun _ h => h, ⟨RX.out, RA.out⟩, ?_⟩
      clear hK K
      try simp only [Act.put, List.setIfInBounds_toArray, List.set_cons_zero, List.set_cons_succ]
      refine wpG_end [false, false, false, false, true] (by kernel_rfl) (by intro c a d v w h; cases d <;> exact h) (by kernel_rfl) ⟨RX.out, RA.out⟩ ?_
      try simp only [maskRows]
      repeat (first
        | go_big_quiet_skip
        | (go_big_quiet_want
           first
             | (go_big_quiet_op; go_big_quiet_on)
             | (refine q_load 26 _ _ _ rfl rfl LX ?_; simp only [Act.put, List.setIfInBounds_toArray, List.set_cons_zero, List.set_cons_succ]; go_big_quiet_on)
             | (refine q_load 26 _ _ _ rfl rfl LA ?_; simp only [Act.put, List.setIfInBounds_toArray, List.set_cons_zero, List.set_cons_succ]; go_big_quiet_on)
             | (go_big_quiet_op; refine ⟨_, fun _ _ => rfl, ?_⟩; go_big_quiet_on)
             | (go_big_quiet_op; refine ⟨_, fun _ _ _ => rfl, ?_⟩; go_big_quiet_on)))
      refine wpQuiet_nil ?_
      go_wp2
      go_ret
      exact ⟨rfl, HB.out⟩
    | true =>
      have hx := (comb_iff.1 HCM.out).2.2.1
      have ha := (comb_iff.1 HCM.out).1
      have CB := Lib.hid (comb_back HCM.out)
      have CS := Lib.hid (show combM (A, ya) (A, ya) = (([], z4), true) from comb_self ha)
      have CC := Lib.hid (comb_comm HCM.out)
      obtain ⟨Xc0, Xc1, -, -⟩ := row2_of RX.out
      obtain ⟨Bc0, Bc1, -, -⟩ := row2_of RB.out
      go_wp2_with fail
      refine (IC.out _ _ _ M Y B yb _ (keysAt_own Ox.out) (keysAt_own Ob.out) (by omega) hB CB.out).mono ?_
      rintro e w7_ ⟨vy, rfl, ho, hb⟩
      dsimp only at ho ⊢
      obtain ⟨say, sny, sky, rfl⟩ := own_shape ho
      have Oy := Lib.hid (own_base ho HB.out.size)
      clear ho
      replace HB := Lib.hid (HB.out.trans (hb.mono HB.out.size))
      replace Oa := Lib.hid (own_below Oa.out hb)
      replace Ob := Lib.hid (own_below Ob.out hb)
      replace RA := Lib.hid ((hb.block _ (Array.getElem?_eq_some_iff.1 RA.out).1).trans RA.out)
      replace RB := Lib.hid ((hb.block _ (Array.getElem?_eq_some_iff.1 RB.out).1).trans RB.out)
      replace Ox := Lib.hid (own_below Ox.out hb)
      replace RX := Lib.hid ((hb.block _ (Array.getElem?_eq_some_iff.1 RX.out).1).trans RX.out)
      replace Os := Lib.hid (own_below Os.out hb)
      replace RS := Lib.hid ((hb.block _ (Array.getElem?_eq_some_iff.1 RS.out).1).trans RS.out)
      clear hb
      clear Xc0 Xc1 Bc0 Bc1
      replace HB := Lib.hid (HB.out.alloc HB.out.size (.cells #[.slice say sny sky, .string ya] 26))
      replace Oa := Lib.hid (Oa.out.alloc (.cells #[.slice say sny sky, .string ya] 26))
      replace Ob := Lib.hid (Ob.out.alloc (.cells #[.slice say sny sky, .string ya] 26))
      replace RA := Lib.hid ((Below.heap_alloc _ (.cells #[.slice say sny sky, .string ya] 26) _ (Array.getElem?_eq_some_iff.1 RA.out).1).trans RA.out)
      replace RB := Lib.hid ((Below.heap_alloc _ (.cells #[.slice say sny sky, .string ya] 26) _ (Array.getElem?_eq_some_iff.1 RB.out).1).trans RB.out)
      replace Ox := Lib.hid (Ox.out.alloc (.cells #[.slice say sny sky, .string ya] 26))
      replace RX := Lib.hid ((Below.heap_alloc _ (.cells #[.slice say sny sky, .string ya] 26) _ (Array.getElem?_eq_some_iff.1 RX.out).1).trans RX.out)
      replace Os := Lib.hid (Os.out.alloc (.cells #[.slice say sny sky, .string ya] 26))
      replace RS := Lib.hid ((Below.heap_alloc _ (.cells #[.slice say sny sky, .string ya] 26) _ (Array.getElem?_eq_some_iff.1 RS.out).1).trans RS.out)
      replace Oy := Lib.hid (Oy.out.alloc (.cells #[.slice say sny sky, .string ya] 26))
      have RP := Lib.hid (heap_alloc_new (w7_) (.cells #[.slice say sny sky, .string ya] 26))
      obtain ⟨Ac0, Ac1, -, -⟩ := row2_of RA.out
      go_wp2_with fail
      generalize World.alloc (w7_) (.cells #[.slice say sny sky, .string ya] 26) = w8_ at *
      generalize (w7_).heap.size = bP at *
      refine (IC.out _ _ _ A ya A ya _ (keysAt_own Oa.out) (keysAt_own Oa.out) hA hA CS.out).mono ?_
      rintro e w9_ ⟨vz, rfl, ho, hb⟩
      dsimp only at ho ⊢
      obtain ⟨saz, snz, skz, rfl⟩ := own_shape ho
      have Oz := Lib.hid (own_base ho HB.out.size)
      clear ho
      replace HB := Lib.hid (HB.out.trans (hb.mono HB.out.size))
      replace Oa := Lib.hid (own_below Oa.out hb)
      replace Ob := Lib.hid (own_below Ob.out hb)
      replace RA := Lib.hid ((hb.block _ (Array.getElem?_eq_some_iff.1 RA.out).1).trans RA.out)
      replace RB := Lib.hid ((hb.block _ (Array.getElem?_eq_some_iff.1 RB.out).1).trans RB.out)
      replace Ox := Lib.hid (own_below Ox.out hb)
      replace RX := Lib.hid ((hb.block _ (Array.getElem?_eq_some_iff.1 RX.out).1).trans RX.out)
      replace Os := Lib.hid (own_below Os.out hb)
      replace RS := Lib.hid ((hb.block _ (Array.getElem?_eq_some_iff.1 RS.out).1).trans RS.out)
      replace Oy := Lib.hid (own_below Oy.out hb)
      replace RP := Lib.hid ((hb.block _ (Array.getElem?_eq_some_iff.1 RP.out).1).trans RP.out)
      clear hb
      clear Ac0 Ac1
      replace HB := Lib.hid (HB.out.alloc HB.out.size (.cells #[.slice saz snz skz, .string z4] 26))
      replace Oa := Lib.hid (Oa.out.alloc (.cells #[.slice saz snz skz, .string z4] 26))
      replace Ob := Lib.hid (Ob.out.alloc (.cells #[.slice saz snz skz, .string z4] 26))
      replace RA := Lib.hid ((Below.heap_alloc _ (.cells #[.slice saz snz skz, .string z4] 26) _ (Array.getElem?_eq_some_iff.1 RA.out).1).trans RA.out)
      replace RB := Lib.hid ((Below.heap_alloc _ (.cells #[.slice saz snz skz, .string z4] 26) _ (Array.getElem?_eq_some_iff.1 RB.out).1).trans RB.out)
      replace Ox := Lib.hid (Ox.out.alloc (.cells #[.slice saz snz skz, .string z4] 26))
      replace RX := Lib.hid ((Below.heap_alloc _ (.cells #[.slice saz snz skz, .string z4] 26) _ (Array.getElem?_eq_some_iff.1 RX.out).1).trans RX.out)
      replace Os := Lib.hid (Os.out.alloc (.cells #[.slice saz snz skz, .string z4] 26))
      replace RS := Lib.hid ((Below.heap_alloc _ (.cells #[.slice saz snz skz, .string z4] 26) _ (Array.getElem?_eq_some_iff.1 RS.out).1).trans RS.out)
      replace Oy := Lib.hid (Oy.out.alloc (.cells #[.slice saz snz skz, .string z4] 26))
      replace RP := Lib.hid ((Below.heap_alloc _ (.cells #[.slice saz snz skz, .string z4] 26) _ (Array.getElem?_eq_some_iff.1 RP.out).1).trans RP.out)
      replace Oz := Lib.hid (Oz.out.alloc (.cells #[.slice saz snz skz, .string z4] 26))
      have RZ := Lib.hid (heap_alloc_new (w9_) (.cells #[.slice saz snz skz, .string z4] 26))
      obtain ⟨Bc0, Bc1, -, -⟩ := row2_of RB.out
      obtain ⟨Ac0, Ac1, -, -⟩ := row2_of RA.out
      go_wp2_with fail
      generalize World.alloc (w9_) (.cells #[.slice saz snz skz, .string z4] 26) = w10_ at *
      generalize (w9_).heap.size = bZ at *
      refine (IC.out _ _ _ B yb A ya _ (keysAt_own Ob.out) (keysAt_own Oa.out) hB hA CC.out).mono ?_
      rintro e w11_ ⟨vq, rfl, ho, hb⟩
      dsimp only at ho ⊢
      obtain ⟨saq, snq, skq, rfl⟩ := own_shape ho
      have Oq := Lib.hid (own_base ho HB.out.size)
      clear ho
      replace HB := Lib.hid (HB.out.trans (hb.mono HB.out.size))
      replace Oa := Lib.hid (own_below Oa.out hb)
      replace Ob := Lib.hid (own_below Ob.out hb)
      replace RA := Lib.hid ((hb.block _ (Array.getElem?_eq_some_iff.1 RA.out).1).trans RA.out)
      replace RB := Lib.hid ((hb.block _ (Array.getElem?_eq_some_iff.1 RB.out).1).trans RB.out)
      replace Ox := Lib.hid (own_below Ox.out hb)
      replace RX := Lib.hid ((hb.block _ (Array.getElem?_eq_some_iff.1 RX.out).1).trans RX.out)
      replace Os := Lib.hid (own_below Os.out hb)
      replace RS := Lib.hid ((hb.block _ (Array.getElem?_eq_some_iff.1 RS.out).1).trans RS.out)
      replace Oy := Lib.hid (own_below Oy.out hb)
      replace RP := Lib.hid ((hb.block _ (Array.getElem?_eq_some_iff.1 RP.out).1).trans RP.out)
      replace Oz := Lib.hid (own_below Oz.out hb)
      replace RZ := Lib.hid ((hb.block _ (Array.getElem?_eq_some_iff.1 RZ.out).1).trans RZ.out)
      clear hb
      clear Bc0 Bc1 Ac0 Ac1
      replace HB := Lib.hid (HB.out.alloc HB.out.size (.cells #[.slice saq snq skq, .string Y] 26))
      replace Oa := Lib.hid (Oa.out.alloc (.cells #[.slice saq snq skq, .string Y] 26))
      replace Ob := Lib.hid (Ob.out.alloc (.cells #[.slice saq snq skq, .string Y] 26))
      replace RA := Lib.hid ((Below.heap_alloc _ (.cells #[.slice saq snq skq, .string Y] 26) _ (Array.getElem?_eq_some_iff.1 RA.out).1).trans RA.out)
      replace RB := Lib.hid ((Below.heap_alloc _ (.cells #[.slice saq snq skq, .string Y] 26) _ (Array.getElem?_eq_some_iff.1 RB.out).1).trans RB.out)
      replace Ox := Lib.hid (Ox.out.alloc (.cells #[.slice saq snq skq, .string Y] 26))
      replace RX := Lib.hid ((Below.heap_alloc _ (.cells #[.slice saq snq skq, .string Y] 26) _ (Array.getElem?_eq_some_iff.1 RX.out).1).trans RX.out)
      replace Os := Lib.hid (Os.out.alloc (.cells #[.slice saq snq skq, .string Y] 26))
      replace RS := Lib.hid ((Below.heap_alloc _ (.cells #[.slice saq snq skq, .string Y] 26) _ (Array.getElem?_eq_some_iff.1 RS.out).1).trans RS.out)
      replace Oy := Lib.hid (Oy.out.alloc (.cells #[.slice saq snq skq, .string Y] 26))
      replace RP := Lib.hid ((Below.heap_alloc _ (.cells #[.slice saq snq skq, .string Y] 26) _ (Array.getElem?_eq_some_iff.1 RP.out).1).trans RP.out)
      replace Oz := Lib.hid (Oz.out.alloc (.cells #[.slice saq snq skq, .string Y] 26))
      replace RZ := Lib.hid ((Below.heap_alloc _ (.cells #[.slice saq snq skq, .string Y] 26) _ (Array.getElem?_eq_some_iff.1 RZ.out).1).trans RZ.out)
      replace Oq := Lib.hid (Oq.out.alloc (.cells #[.slice saq snq skq, .string Y] 26))
      have RQ := Lib.hid (heap_alloc_new (w11_) (.cells #[.slice saq snq skq, .string Y] 26))
      obtain rfl : snz = 0 := by obtain ⟨_, _, e, _⟩ := keysAt_own (ks := []) Oz.out; cases e; rfl
      go_wp2_with fail
      generalize World.alloc (w11_) (.cells #[.slice saq snq skq, .string Y] 26) = w12_ at *
      generalize (w11_).heap.size = bQ at *
      have LX : ∀ w', Below w12_.heap.size w12_ w' → (loadVar 26 ⟨bX, 0, none⟩).run Try.prog w' = .ok (.agg #[.slice sax snx skx, .string Y]) w' := fun w' hb => cd_load RX.out hb
      have LP : ∀ w', Below w12_.heap.size w12_ w' → (loadVar 26 ⟨bP, 0, none⟩).run Try.prog w' = .ok (.agg #[.slice say sny sky, .string ya]) w' := fun w' hb => cd_load RP.out hb
      have LA : ∀ w', Below w12_.heap.size w12_ w' → (loadVar 26 ⟨bA, 0, none⟩).run Try.prog w' = .ok (.agg #[.slice saa sna ska, .string ya]) w' := fun w' hb => cd_load RA.out hb
      have LZ : ∀ w', Below w12_.heap.size w12_ w' → (loadVar 26 ⟨bZ, 0, none⟩).run Try.prog w' = .ok (.agg #[.slice saz 0 skz, .string z4]) w' := fun w' hb => cd_load RZ.out hb
      have LQ : ∀ w', Below w12_.heap.size w12_ w' → (loadVar 26 ⟨bQ, 0, none⟩).run Try.prog w' = .ok (.agg #[.slice saq snq skq, .string Y]) w' := fun w' hb => cd_load RQ.out hb
      have LK : ∀ w', Below w12_.heap.size w12_ w' → (loadVar 24 ⟨bZ, 0, none⟩).run Try.prog w' = .ok (.slice saz 0 skz) w' := fun w' hb => cd_loadk RZ.out hb
      have K1 := Lib.hid (fun w' (hb : Below w12_.heap.size w12_ w') => hx ▸ icodeok_any _ M Y w' (keysAt_own (own_below Ox.out hb)) (by omega))
      have K2 := Lib.hid (fun w' (hb : Below w12_.heap.size w12_ w') => samecode_self _ _ A ya w' (keysAt_own (own_below Oy.out hb)) (keysAt_own (own_below Oa.out hb)) (by omega))
      have K3 := Lib.hid (fun w' (hb : Below w12_.heap.size w12_ w') => iblank_any (.slice saz 0 skz) z4 w')
      have K4 := Lib.hid (fun w' (hb : Below w12_.heap.size w12_ w') => samecode_self _ _ [] z4 w' (keysAt_own (ks := []) (own_below Oz.out hb)) (keysAt_nil w') (by simp))
      have K5 := Lib.hid (fun w' (hb : Below w12_.heap.size w12_ w') => samecode_self _ _ M Y w' (keysAt_own (own_below Oq.out hb)) (keysAt_own (own_below Ox.out hb)) (by omega))
      clear Oa Ob Ox Os Oy Oz Oq RA RB RX RS RP RZ RQ
      refine wp_region_below w12_ (by kernel_rfl) (by kernel_rfl) (Below.refl _ _) ?_
      repeat (first
        | go_big_quiet_skip
        | (go_big_quiet_want
           first
             | (go_big_quiet_op; go_big_quiet_on)
             | (refine q_load 26 _ _ _ rfl rfl LX ?_; simp only [Act.put, List.setIfInBounds_toArray, List.set_cons_zero, List.set_cons_succ]; go_big_quiet_on)
             | (refine q_load 26 _ _ _ rfl rfl LP ?_; simp only [Act.put, List.setIfInBounds_toArray, List.set_cons_zero, List.set_cons_succ]; go_big_quiet_on)
             | (refine q_load 26 _ _ _ rfl rfl LA ?_; simp only [Act.put, List.setIfInBounds_toArray, List.set_cons_zero, List.set_cons_succ]; go_big_quiet_on)
             | (refine q_load 26 _ _ _ rfl rfl LZ ?_; simp only [Act.put, List.setIfInBounds_toArray, List.set_cons_zero, List.set_cons_succ]; go_big_quiet_on)
             | (refine q_load 26 _ _ _ rfl rfl LQ ?_; simp only [Act.put, List.setIfInBounds_toArray, List.set_cons_zero, List.set_cons_succ]; go_big_quiet_on)
             | (refine q_load 24 _ _ _ rfl rfl LK ?_; simp only [Act.put, List.setIfInBounds_toArray, List.set_cons_zero, List.set_cons_succ]; go_big_quiet_on)
             | (go_big_quiet_op; refine ⟨_, fun _ _ => rfl, ?_⟩; go_big_quiet_on)
             | (go_big_quiet_op; apply Exists.intro; refine ⟨fun w' hw' => ?_, ?_⟩
                · first
                  | (with_reducible refine (K1.out w' hw').mono ?_
                     rintro e w2 ⟨rfl, hb2⟩
                     exact ⟨rfl, hw'.trans (hb2.mono hw'.size)⟩)
                  | (with_reducible refine (K2.out w' hw').mono ?_
                     rintro e w2 ⟨rfl, hb2⟩
                     exact ⟨rfl, hw'.trans (hb2.mono hw'.size)⟩)
                  | (with_reducible refine (K3.out w' hw').mono ?_
                     rintro e w2 ⟨rfl, hb2⟩
                     exact ⟨rfl, hw'.trans (hb2.mono hw'.size)⟩)
                  | (with_reducible refine (K4.out w' hw').mono ?_
                     rintro e w2 ⟨rfl, hb2⟩
                     exact ⟨rfl, hw'.trans (hb2.mono hw'.size)⟩)
                  | (with_reducible refine (K5.out w' hw').mono ?_
                     rintro e w2 ⟨rfl, hb2⟩
                     exact ⟨rfl, hw'.trans (hb2.mono hw'.size)⟩)
                go_big_quiet_on)))
      refine wpQuiet_nil ?_
      intro w9 hb9
      have HB9 := Lib.hid (HB.out.trans (hb9.mono HB.out.size))
      clear LX LP LA LZ LQ LK hb9
      go_wp2
      go_ret
      exact ⟨rfl, HB9.out⟩
  · go_enter Try.func3, Try.ntmps3
    go_wp2_with fail
    refine (big_true _ _ _ _ hbig).mono ?_
    rintro e w1 ⟨rfl, rfl⟩
    go_wp2
    go_ret
    exact ⟨rfl, Below.refl _ _⟩
end Go.Proofs.Ytnknfmjpkphbpaa
/- The program's chapter 5, walked: what is known is taken out of a word. -/
namespace Go.Proofs.Ytnknfmjpkphbpaa
open Go.ChangeShapes Go.WideShapes Go.ChangeAt Go.RowKit Go.BigFrame Go.Shelf
attribute [local go_sem] Oper.semAt_some
set_option linter.unusedVariables false

/-- the loads of keys that are known, put to y -/
def accR (T : List R3) (y : ByteArray) (l : List K2) : ByteArray := l.foldl (fun y k => match loadO T k with | some z => xorS y z | none => y) y
theorem accR_snoc (T : List R3) (y : ByteArray) (l : List K2) (k : K2) : accR T y (l ++ [k]) = match loadO T k with | some z => xorS (accR T y l) z | none => accR T y l := by
  unfold accR; rw [List.foldl_append]; rfl
theorem accR_size {T : List R3} (h : ∀ r ∈ T, r.2.size = 4) : ∀ (l : List K2) {y : ByteArray}, y.size = 4 → (accR T y l).size = 4
  | [], _, hy => hy
  | k :: l, y, hy => by
    show (accR T (match loadO T k with | some z => xorS y z | none => y) l).size = 4
    cases hz : loadO T k with
    | none => exact accR_size h l hy
    | some z => exact accR_size h l (by rw [xorS_size _ _ (by rw [hy, loadO_four h hz])]; exact hy)
theorem accR_form {T : List R3} (h : ∀ r ∈ T, r.2.size = 4) {y : ByteArray} (hy : y.size = 4) : ∀ (l : List K2), accR T y l = xorS y (sumX T (inK T l)) := by
  intro l
  induction l generalizing y with
  | nil => show y = xorS y z4; rw [xorS_z4 _ hy]
  | cons k l ih =>
    show accR T (match loadO T k with | some z => xorS y z | none => y) l = _
    cases hz : loadO T k with
    | none =>
      dsimp only
      rw [ih hy]
      simp [inK, hz]
    | some z =>
      have z4' := loadO_four h hz
      have hxy : (xorS y z).size = 4 := by rw [xorS_size _ _ (by omega)]; exact hy
      dsimp only
      rw [ih hxy]
      have e : inK T (k :: l) = k :: inK T l := by simp [inK, hz]
      have sz := sumX_size (inK_all h l)
      rw [e, sumX_cons, hz, Option.getD_some, xorS_assoc y z _ (by omega) (by omega)]
theorem outK_snoc (T : List R3) (l : List K2) (k : K2) : outK T (l ++ [k]) = match loadO T k with | some _ => outK T l | none => outK T l ++ [k] := by
  unfold outK
  rw [List.filter_append]
  cases hz : loadO T k <;> simp [hz]
set_option maxRecDepth 100000 in
set_option maxHeartbeats 4000000 in
theorem ireduced_no (vx : Value) (ks : List K2) (y : ByteArray) (vT : Value) (T : List R3) (w : World) (hx : keysAt w vx ks) (hT : rdAt w vT T) (hs : ks.length ≤ 1048576) (hsT : T.length ≤ 1048576) (hy : y.size ≤ 2000000) (hno : ¬ (codeOkB (ks, y) = true ∧ rdsOkR T = true)) :
    Calls Try.prog 26 #[.agg #[vx, .string y], vT] w fun e w' => ∃ v', e = .returned (.agg #[v', .string y]) ∧ w'.ownsRow w.heap.size 41 2 v' ks.length (keyCells ks) ∧ Below w.heap.size w w' := by
  have CX := Lib.hid (fun w' (hb : Below w.heap.size w w') => icodeok_any vx ks y w' (keysAt_below hx hb) (by omega))
  have CT := Lib.hid (fun w' (hb : Below w.heap.size w w') => ireadingsok_any vT T w' (rdAt_below hT hb) (by omega))
  have CC := Lib.hid (fun w' (hb : Below w.heap.size w w') => icopy_any vx ks y w' (keysAt_below hx hb) (by omega) hy)
  have hb1 := (Below.refl w.heap.size w).alloc (Nat.le_refl _) (.cells #[vx, .string y] 26)
  have hb2 := hb1.alloc hb1.size (.cells #[vT] 34)
  have HB := Lib.hid (hb2.alloc hb2.size (.cells #[.slice none 0 0, .string ⟨#[]⟩] 26))
  have RX := Lib.hid ((Below.heap_alloc ((w.alloc (.cells #[vx, .string y] 26)).alloc (.cells #[vT] 34)) (.cells #[.slice none 0 0, .string ⟨#[]⟩] 26) w.heap.size (by simp; omega)).trans (heap_first w (.cells #[vT] 34) (.cells #[vx, .string y] 26)))
  have RT := Lib.hid (heap_mid w (.cells #[vx, .string y] 26) (.cells #[vT] 34) (.cells #[.slice none 0 0, .string ⟨#[]⟩] 26))
  have rr := heap_alloc_new ((w.alloc (.cells #[vx, .string y] 26)).alloc (.cells #[vT] 34)) (.cells #[.slice none 0 0, .string ⟨#[]⟩] 26)
  rw [show ((w.alloc (.cells #[vx, .string y] 26)).alloc (.cells #[vT] 34)).heap.size = w.heap.size + 2 by simp] at rr
  have RR := Lib.hid rr
  have hz : w.heap.size + 3 ≤ (((w.alloc (.cells #[vx, .string y] 26)).alloc (.cells #[vT] 34)).alloc (.cells #[.slice none 0 0, .string ⟨#[]⟩] 26)).heap.size := by simp
  clear hb1 hb2 rr
  obtain ⟨ax, cx, rfl, -, -⟩ := hx
  obtain ⟨aT, cT, rfl, -, -⟩ := hT
  generalize codeOkB (ks, y) = p at *
  generalize rdsOkR T = q at *
  go_enter Try.func26, Try.ntmps26
  obtain ⟨x0, x1, -, -⟩ := row2_of RX.out
  go_wp2_with fail
  generalize (((w.alloc (.cells #[.slice ax ks.length cx, .string y] 26)).alloc (.cells #[.slice aT T.length cT] 34)).alloc (.cells #[.slice none 0 0, .string ⟨#[]⟩] 26)) = W at *
  refine (CX.out _ HB.out).mono ?_
  rintro e w1 ⟨rfl, hb⟩
  replace HB := Lib.hid (HB.out.trans (hb.mono HB.out.size))
  replace RX := Lib.hid ((hb.block _ (Array.getElem?_eq_some_iff.1 RX.out).1).trans RX.out)
  replace RT := Lib.hid ((hb.block _ (Array.getElem?_eq_some_iff.1 RT.out).1).trans RT.out)
  replace RR := Lib.hid ((hb.block _ (Array.getElem?_eq_some_iff.1 RR.out).1).trans RR.out)
  have hz1 := Nat.le_trans hz hb.size
  clear hb x0 x1 CX hz
  cases p with
  | false =>
    obtain ⟨x0, x1, -, -⟩ := row2_of RX.out
    go_wp2_with fail
    refine (CC.out _ HB.out).mono ?_
    rintro e w2 ⟨v', rfl, ho, hb⟩
    obtain ⟨a3, n3, k3, rfl⟩ := own_shape ho
    have hR := (hb.block _ (Array.getElem?_eq_some_iff.1 RR.out).1).trans RR.out
    obtain ⟨c0, c1, f0, f1⟩ := row2_of hR
    have hlt := (Array.getElem?_eq_some_iff.1 hR).1
    have HF := Lib.hid (And.intro (cd_res hR (.slice a3 n3 k3) y) (And.intro (own_base (own_set2 ho (by omega : w.heap.size + 2 < w1.heap.size) (.slice a3 n3 k3) (.string y)) (by omega : w.heap.size ≤ w1.heap.size)) (below2 (HB.out.trans (hb.mono HB.out.size)) (by omega : w.heap.size ≤ w.heap.size + 2) (.slice a3 n3 k3) (.string y))))
    clear hb ho hR RX RT RR HB x0 x1
    go_wp2_with fail
    refine bodyPost_ret (v := .agg #[.slice a3 n3 k3, .string y]) ?_ rfl ⟨_, rfl, HF.out.2.1, HF.out.2.2⟩
    rw [results_cell (p := 4) (ty := 26) (by kernel_rfl)]
    have l2 := HF.out.1
    simp [asAddr, Result.andThen, l2]
  | true =>
    cases q with
    | true => exact absurd ⟨rfl, rfl⟩ hno
    | false =>
      have t0 : w1.cell? ⟨w.heap.size + 1, 0, none⟩ = some (.slice aT T.length cT) := by rw [cell_of_row _ _ 0 _ _ _ RT.out]; rfl
      go_wp2_with fail
      refine (CT.out _ HB.out).mono ?_
      rintro e w2 ⟨rfl, hb⟩
      replace HB := Lib.hid (HB.out.trans (hb.mono HB.out.size))
      replace RX := Lib.hid ((hb.block _ (Array.getElem?_eq_some_iff.1 RX.out).1).trans RX.out)
      replace RR := Lib.hid ((hb.block _ (Array.getElem?_eq_some_iff.1 RR.out).1).trans RR.out)
      have hz2 := Nat.le_trans hz1 hb.size
      clear hb t0 CT
      obtain ⟨x0, x1, -, -⟩ := row2_of RX.out
      go_wp2_with fail
      refine (CC.out _ HB.out).mono ?_
      rintro e w3 ⟨v', rfl, ho, hb⟩
      obtain ⟨a3, n3, k3, rfl⟩ := own_shape ho
      have hR := (hb.block _ (Array.getElem?_eq_some_iff.1 RR.out).1).trans RR.out
      obtain ⟨c0, c1, f0, f1⟩ := row2_of hR
      have hlt := (Array.getElem?_eq_some_iff.1 hR).1
      have HF := Lib.hid (And.intro (cd_res hR (.slice a3 n3 k3) y) (And.intro (own_base (own_set2 ho (by omega : w.heap.size + 2 < w2.heap.size) (.slice a3 n3 k3) (.string y)) (by omega : w.heap.size ≤ w2.heap.size)) (below2 (HB.out.trans (hb.mono HB.out.size)) (by omega : w.heap.size ≤ w.heap.size + 2) (.slice a3 n3 k3) (.string y))))
      clear hb ho hR RX RT RR HB x0 x1
      go_wp2_with fail
      refine bodyPost_ret (v := .agg #[.slice a3 n3 k3, .string y]) ?_ rfl ⟨_, rfl, HF.out.2.1, HF.out.2.2⟩
      rw [results_cell (p := 4) (ty := 26) (by kernel_rfl)]
      have l2 := HF.out.1
      simp [asAddr, Result.andThen, l2]
end Go.Proofs.Ytnknfmjpkphbpaa
/- As SegT; the last operation may write what was read. -/
namespace Go.Proofs.Ytnknfmjpkphbpaa
open Go
section
variable {P : Program} {ops : Array Oper} {Q : Exit → Act → World → Prop} {md : Region.Mode} {S : World → Prop}
/-- an operation that waits for all others -/
def lastP (md : Region.Mode) (ops : Array Oper) (i : Nat) : Prop := ∃ o, ops[i]? = some o ∧ ∀ k, k < ops.size → k ≠ i → ∃ e ∈ o.after, Region.binds md e = true ∧ e.on = k
def lastB (md : Region.Mode) (ops : Array Oper) (i : Nat) : Bool := match ops[i]? with
  | some o => (List.range ops.size).all fun k => k == i || o.after.any fun e => Region.binds md e && e.on == k
  | none => false
theorem lastP_of {i : Nat} (h : lastB md ops i = true) : lastP md ops i := by
  unfold lastB at h
  split at h
  · rename_i o ho
    refine ⟨o, ho, fun k hk hne => ?_⟩
    have h1 := List.all_eq_true.1 h k (List.mem_range.2 hk)
    simp only [Bool.or_eq_true, beq_iff_eq] at h1
    rcases h1 with h1 | h1
    · exact absurd h1 hne
    · obtain ⟨j, hj, h2⟩ := Array.any_eq_true.1 h1
      simp only [Bool.and_eq_true, beq_iff_eq] at h2
      exact ⟨_, Array.getElem_mem hj, h2.1, h2.2⟩
  · cases h
/-- whatever order is picked from here on; behind each operation a sharper condition holds -/
def wpH (P : Program) (md : Region.Mode) (ops : Array Oper) (Q : Exit → Act → World → Prop) : Nat → (World → Prop) → Array Bool → Act → World → Prop
  | 0, _, listed, a, w => Region.ready md ops listed = [] ∧ Q .normal a w
  | fuel + 1, S, listed, a, w =>
    (Region.ready md ops listed = [] → Q .normal a w) ∧
    ∀ i ∈ Region.ready md ops listed, wpOp P ops Q i (fun a' w' => ((lastP md ops i ∧ Region.ready md ops (listed.setIfInBounds i true) = []) ∧ Q .normal a' w') ∨ ∃ S' : World → Prop, (∀ x, S' x → S x) ∧ S' w' ∧ wpH P md ops Q fuel S' (listed.setIfInBounds i true) a' w') a w

theorem wpAny_done {listed : Array Bool} {a : Act} {w : World} (hr : Region.ready md ops listed = []) (h : Q .normal a w) : ∀ fuel, wpAny P md ops Q fuel listed a w
  | 0 => ⟨hr, h⟩
  | _ + 1 => ⟨fun _ => h, by rw [hr]; simp⟩
theorem wpAny_of_H : ∀ (fuel : Nat) (S : World → Prop) (listed : Array Bool) (a : Act) (w : World), wpH P md ops Q fuel S listed a w → wpAny P md ops Q fuel listed a w
  | 0, _, _, _, _, h => h
  | fuel + 1, S, _, _, _, h => ⟨h.1, fun i hi => wpOp_mono (fun a' w' h' => by
      rcases h' with ⟨⟨_, h1⟩, h2⟩ | ⟨S', _, _, h'⟩
      · exact wpAny_done h1 h2 fuel
      · exact wpAny_of_H fuel S' _ a' w' h') (h.2 i hi)⟩

theorem wpH_first {i : Nat} {oi : Oper} {v : Value} (hi : ops[i]? = some oi) (hsel : ∀ (j : Nat) (o : Oper) cs b, ops[j]? = some o → o.op ≠ .select cs b)
    (hQ : ∀ c a w, Q (.panic c) (a.put oi.dst v) w → Q (.panic c) a w) :
    ∀ (fuel : Nat) (S : World → Prop) (listed : Array Bool) (a : Act) (w : World),
      (∀ j oj, ops[j]? = some oj → j ≠ i → listed.getD j true = false → (∀ e ∈ oj.after, Region.binds md e = true → e.on ≠ i) → oi.apart ops oj = true) →
      i ∈ Region.ready md ops listed → YieldsIf P ops S oi v a → S w →
      wpH P md ops Q fuel S (listed.setIfInBounds i true) (a.put oi.dst v) w → wpH P md ops Q (fuel + 1) S listed a w := by
  intro fuel
  induction fuel with
  | zero =>
    intro S listed a w _ hr hy hS H
    refine ⟨fun h => (by rw [h] at hr; cases hr), fun j hj => ?_⟩
    by_cases hji : j = i
    · subst hji; exact hy.wpOp hi hS (.inr ⟨S, fun _ h => h, hS, H⟩)
    · have := ready_mono hj hji
      rw [H.1] at this
      cases this
  | succ fuel ih =>
    intro S listed a w hfree hr hy hS H
    refine ⟨fun h => (by rw [h] at hr; cases hr), fun j hj => ?_⟩
    by_cases hji : j = i
    · subst hji; exact hy.wpOp hi hS (.inr ⟨S, fun _ h => h, hS, H⟩)
    · have h1 := H.2 j (ready_mono hj hji)
      obtain ⟨hjun, oj, hoj, hall⟩ := mem_ready.1 hj
      have hnot : ∀ e ∈ oj.after, Region.binds md e = true → e.on ≠ i := fun e he hb heq => by
        have h1 := hall e he hb
        have h0 := (mem_ready.1 hr).1
        rw [heq] at h1
        rcases Nat.lt_or_ge i listed.size with h' | h'
        · simp [h'] at h0 h1; rw [h0] at h1; cases h1
        · simp [Array.getElem?_eq_none h'] at h1
      have h2 := wpOp_putIf hoj (hfree j oj hoj hji hjun hnot) (fun cs b => hsel i oi cs b hi) (fun cs b => hsel j oj cs b hoj) hQ hy h1
      have hfree' : ∀ k ok, ops[k]? = some ok → k ≠ i → (listed.setIfInBounds j true).getD k true = false →
          (∀ e ∈ ok.after, Region.binds md e = true → e.on ≠ i) → oi.apart ops ok = true := fun k ok hk hki hun hno => by
        refine hfree k ok hk hki ?_ hno
        by_cases hjk : j = k
        · subst hjk; exact hjun
        · rw [getD_set_ne true hjk] at hun; exact hun
      refine wpOp_mono (fun a' w' h3 => ?_) h2
      obtain ⟨hy3, h3⟩ := h3
      rcases h3 with ⟨⟨⟨o5, h5, h6⟩, _⟩, _⟩ | ⟨S', hs, hs2, h4⟩
      · rw [hoj] at h5
        cases h5
        obtain ⟨e, he, hb, heq⟩ := h6 i (Array.getElem?_eq_some_iff.1 hi).1 (Ne.symm hji)
        exact absurd heq (hnot e he hb)
      refine .inr ⟨S', hs, hs2, ih S' (listed.setIfInBounds j true) a' w' hfree' (ready_mono hr (Ne.symm hji)) (YieldsIf.sharper hs hy3) hs2 ?_⟩
      rw [Array.setIfInBounds_comm _ _ hji]
      exact h4

theorem takes_H {l : List Oper} (hs : Region.noSelect l.toArray = true) (hQ : ∀ c a d v w, Q (.panic c) (Act.put a d v) w → Q (.panic c) a w) {S : World → Prop} {w : World} (hS : S w) {R : Act → Prop} :
    ∀ (m : List Bool) (i fuel : Nat) (listed : Array Bool) (a : Act), takesB md l m i listed = true → m.length + i ≤ l.length →
      (∀ a', R a' → wpH P md l.toArray Q fuel S (takenL m i listed) a' w) → wpQuiet P l.toArray S R (maskRows m (l.drop i)) a → wpH P md l.toArray Q (fuel + countT m) S listed a w
  | [], i, fuel, listed, a, _, _, hk, h => hk a (by simpa [maskRows, wpQuiet] using h)
  | false :: m, i, fuel, listed, a, hb, hl, hk, h => by
    have hlt : i < l.length := by simp only [List.length_cons] at hl; omega
    rw [List.drop_eq_getElem_cons hlt] at h
    exact takes_H hs hQ hS m (i + 1) fuel listed a hb (by simp only [List.length_cons] at hl; omega) hk h
  | true :: m, i, fuel, listed, a, hb, hl, hk, h => by
    have hlt : i < l.length := by simp only [List.length_cons] at hl; omega
    rw [List.drop_eq_getElem_cons hlt] at h
    simp only [takesB, Bool.and_eq_true] at hb
    obtain ⟨⟨⟨hv, hf⟩, hr⟩, hb⟩ := hb
    have ho : l.toArray[i]? = some l[i] := by simp [hlt]
    rw [show l[i]? = some l[i] from by simp [hlt]] at hv
    dsimp only at hv
    simp only [maskRows, wpQuiet] at h
    have hin : i ∈ Region.ready md l.toArray listed := by simpa using hr
    show wpH P md l.toArray Q (fuel + countT m + 1) S listed a w
    by_cases hw : Region.wanted l[i] (yielded l.toArray a.tmps) = true
    · rw [if_pos hw] at h
      obtain ⟨v, h1, h2⟩ := h
      exact wpH_first ho (Region.noSelect_spec hs) (fun c a w => hQ c a _ _ w) _ S listed a w (Region.free_spec ho hf) hin (yields_of_quiet hv hw h1) hS
        (takes_H hs hQ hS m (i + 1) fuel _ _ hb (by simp only [List.length_cons] at hl; omega) hk h2)
    · rw [if_neg hw] at h
      exact wpH_first ho (Region.noSelect_spec hs) (fun c a w => hQ c a _ _ w) _ S listed a w (Region.free_spec ho hf) hin (.inr ⟨by simpa using hw, rfl⟩) hS
        (takes_H hs hQ hS m (i + 1) fuel _ _ hb (by simp only [List.length_cons] at hl; omega) hk h)
theorem wpH_done {listed : Array Bool} {a : Act} {w : World} (hr : Region.ready md ops listed = []) (h : Q .normal a w) : ∀ fuel, wpH P md ops Q fuel S listed a w
  | 0 => ⟨hr, h⟩
  | _ + 1 => ⟨fun _ => h, by rw [hr]; simp⟩
/-- what reads is taken; then one after another of what is ready is tried -/
theorem wpH_seg {l : List Oper} (m : List Bool) (rd : List Nat) (fuel' : Nat) {fuel : Nat} {listed : Array Bool} {a : Act} {w : World} (hs : Region.noSelect l.toArray = true)
    (hQ : ∀ c a d v w, Q (.panic c) (Act.put a d v) w → Q (.panic c) a w) (hb : segtB md l m rd fuel fuel' listed = true) (hS : S w)
    (h : wpQuiet P l.toArray S (fun a' => ∀ i ∈ rd, wpOp P l.toArray Q i (fun a'' w'' => ((lastP md l.toArray i ∧ Region.ready md l.toArray ((takenL m 0 listed).setIfInBounds i true) = []) ∧ Q .normal a'' w'') ∨ ∃ S' : World → Prop, (∀ x, S' x → S x) ∧ S' w'' ∧ wpH P md l.toArray Q fuel' S' ((takenL m 0 listed).setIfInBounds i true) a'' w'') a' w) (maskRows m l) a) :
    wpH P md l.toArray Q fuel S listed a w := by
  simp only [segtB, Bool.and_eq_true, decide_eq_true_eq, Bool.not_eq_true'] at hb
  obtain ⟨⟨⟨⟨h1, h2⟩, h3⟩, h4⟩, h5⟩ := hb
  subst h1
  refine takes_H (P := P) (md := md) hs hQ hS (R := fun a' => ∀ i ∈ rd, wpOp P l.toArray Q i (fun a'' w'' => ((lastP md l.toArray i ∧ Region.ready md l.toArray ((takenL m 0 listed).setIfInBounds i true) = []) ∧ Q .normal a'' w'') ∨ ∃ S' : World → Prop, (∀ x, S' x → S x) ∧ S' w'' ∧ wpH P md l.toArray Q fuel' S' ((takenL m 0 listed).setIfInBounds i true) a'' w'') a' w) m 0 (fuel' + 1) listed a h3 (by omega) (fun a' hq => ?_) (by simpa using h)
  refine ⟨fun h0 => (by rw [h4] at h0; rw [h0] at h5; cases h5), fun j hj => ?_⟩
  rw [h4] at hj
  exact hq j hj
theorem wpH_end {l : List Oper} (m : List Bool) {fuel : Nat} {listed : Array Bool} {a : Act} {w : World} (hs : Region.noSelect l.toArray = true)
    (hQ : ∀ c a d v w, Q (.panic c) (Act.put a d v) w → Q (.panic c) a w) (hb : segeB md l m fuel listed = true) (hS : S w)
    (h : wpQuiet P l.toArray S (fun a' => Q .normal a' w) (maskRows m l) a) : wpH P md l.toArray Q fuel S listed a w := by
  simp only [segeB, Bool.and_eq_true, decide_eq_true_eq] at hb
  obtain ⟨⟨⟨h1, h2⟩, h3⟩, h4⟩ := hb
  have := takes_H (P := P) (md := md) hs hQ hS (R := fun a' => Q .normal a' w) m 0 (fuel - countT m) listed a h3 (by omega) (fun a' hq => wpH_done h4 hq _) (by simpa using h)
  rwa [Nat.sub_add_cancel h1] at this
theorem wp_region_H {id : Nat} {a : Act} {w : World} {l : List Oper} (S : World → Prop) (hm : P.follows .mixedOrders = true) (h : wpH P .any l.toArray Q l.length S (Array.replicate l.length false) a w.drew) :
    (Code.region id l.toArray true).wp P Q a w := wp_region_any hm (wpAny_of_H _ _ _ _ _ (by simpa using h))
/-- the same in a round of a range over a function, at the wide fence -/
theorem wpIn_region_H {id l0 k : Nat} {a : Act} {w : World} {l : List Oper} (S : World → Prop) (hm : P.follows .mixedOrders = true) (hd : noDefer l.toArray = true) (h : wpH P .any l.toArray (OnlyNormal Q) l.length S (Array.replicate l.length false) a w.drew) :
    (Code.region id l.toArray true).wpIn (Fence.wide.inRound l0) k P Q a w := by
  refine wpIn_region_draw fun t => wpOps_in hd _ _ _ ?_
  simp only [Region.schedule, hm, Bool.true_or, if_true]
  exact wpAny_sound l.toArray.size t _ a _ (wpAny_of_H _ _ _ _ _ (by simpa using h))
/-- one that is carried out -/
theorem segh_run {l : List Oper} {fuel : Nat} {R : Act → World → Prop} {listed : Array Bool} {i : Nat} {o : Oper} {a : Act} {w : World} (ho : l.toArray[i]? = some o) (hw : Region.wanted o (yielded l.toArray a.tmps) = true)
    (h : ∀ K : Act → World → Prop, (∀ a' w', (R a' w' ∨ ∃ S' : World → Prop, (∀ x, S' x → S x) ∧ S' w' ∧ wpH P md l.toArray Q fuel S' listed a' w') → K a' w') → o.wp P a w K Q) :
    wpOp P l.toArray Q i (fun a'' w'' => R a'' w'' ∨ ∃ S' : World → Prop, (∀ x, S' x → S x) ∧ S' w'' ∧ wpH P md l.toArray Q fuel S' listed a'' w'') a w := by
  unfold wpOp
  simp only [ho, hw, if_true]
  exact .inl (h _ fun _ _ h => h)
end
end Go.Proofs.Ytnknfmjpkphbpaa
/- The program's chapter 5, walked: what is known is taken out of a word; a range over a function. -/
namespace Go.Proofs.Ytnknfmjpkphbpaa
open Go.ChangeShapes Go.WideShapes Go.ChangeAt Go.RowKit Go.BigFrame Go.Shelf
attribute [local go_sem] Oper.semAt_some
set_option linter.unusedVariables false

theorem cells_own {β : Type} (B : Nat) (f : β → Array Value) (t : TypeId) : Own (fun (s : β) W => W.heap[B]? = some (.cells (f s) t (0, 0))) := by
  intro s X Y row h hg hr
  refine (hg.block B (Array.getElem?_eq_some_iff.1 h).1 (fun e => ?_)).trans h
  obtain ⟨o, ho, hc⟩ := hr B e.symm
  rw [h] at ho; cases ho; cases hc
def rowA (y : ByteArray) : Array Value := (Lib.byteCells y.data.toList).toArray
theorem rowA_four (y : ByteArray) (h : y.size = 4) : ∃ p q r s : Int, rowA y = #[.int .u8 p, .int .u8 q, .int .u8 r, .int .u8 s] ∧ arr4 y = .agg #[.int .u8 p, .int .u8 q, .int .u8 r, .int .u8 s] := by
  obtain ⟨a, b, c, d, hd⟩ := four_bytes y h
  exact ⟨a.toNat, b.toNat, c.toNat, d.toNat, by unfold rowA; rw [hd]; rfl, by unfold arr4; rw [hd]; rfl⟩
theorem rowA_set {W : World} {b : Nat} {y z : ByteArray} (hy : y.size = 4) {p q r s : Int} (hz : rowA z = #[.int .u8 p, .int .u8 q, .int .u8 r, .int .u8 s]) (h : W.heap[b]? = some (.cells (rowA y) 73 (0, 0))) :
    ((((W.setCell ⟨b, 0, none⟩ (.int .u8 p)).setCell ⟨b, 1, none⟩ (.int .u8 q)).setCell ⟨b, 2, none⟩ (.int .u8 r)).setCell ⟨b, 3, none⟩ (.int .u8 s)).heap[b]? = some (.cells (rowA z) 73 (0, 0)) := by
  obtain ⟨a0, a1, a2, a3, h1, -⟩ := rowA_four y hy
  rw [h1] at h
  rw [hz]
  exact set4 _ _ _ _ h
theorem grown4 (w : World) (b : Nat) (p q r s : Value) : w.grownBy ((((w.setCell ⟨b, 0, none⟩ p).setCell ⟨b, 1, none⟩ q).setCell ⟨b, 2, none⟩ r).setCell ⟨b, 3, none⟩ s) (some b) :=
  grownT (grownT (grownT (Lib.grownBy_setCell w b 0 p) (Lib.grownBy_setCell _ b 1 q)) (Lib.grownBy_setCell _ b 2 r)) (Lib.grownBy_setCell _ b 3 s)
theorem size4 (w : World) (b : Nat) (p q r s : Value) : ((((w.setCell ⟨b, 0, none⟩ p).setCell ⟨b, 1, none⟩ q).setCell ⟨b, 2, none⟩ r).setCell ⟨b, 3, none⟩ s).heap.size = w.heap.size := by simp [World.setCell]
set_option maxRecDepth 100000 in
set_option maxHeartbeats 8000000 in
theorem ireduced_yes (vx : Value) (ks : List K2) (y : ByteArray) (vT : Value) (T : List R3) (w : World) (hx : keysAt w vx ks) (hT : rdAt w vT T) (hs : ks.length ≤ 1048576) (hsT : T.length ≤ 1048576) (hok : codeOkB (ks, y) = true) (hokT : rdsOkR T = true) :
    Calls Try.prog 26 #[.agg #[vx, .string y], vT] w fun e w' => ∃ v', e = .returned (.agg #[v', .string (accR T y ks)]) ∧ w'.ownsRow w.heap.size 41 2 v' (outK T ks).length (keyCells (outK T ks)) ∧ Below w.heap.size w w' := by
  refine (callsIn_wide (n := 9)).1 ?_
  obtain ⟨i0, hi, hz0, hz1, hz2⟩ := info_parts infoK
  have hy : y.size = 4 := ((codeOk_iff (ks, y)).1 hok).2.2.1
  have h4 : ∀ r ∈ T, r.2.size = 4 := rds_four hokT
  have hx0 := keysIn0_of hx
  have CX := Lib.hid (fun w' (hb : Below w.heap.size w w') => icodeok_any vx ks y w' (keysAt_below hx hb) (by omega))
  have CT := Lib.hid (fun w' (hb : Below w.heap.size w w') => ireadingsok_any vT T w' (rdAt_below hT hb) (by omega))
  have CL := Lib.hid (fun w' k (hb : Below w.heap.size w w') => iloadof_any vT T k w' (rdAt_below hT hb) (by omega) (fun r hr => by rw [h4 r hr]; omega))
  rw [hok] at CX
  rw [hokT] at CT
  have hb1 := (Below.refl w.heap.size w).alloc (Nat.le_refl _) (.cells #[vx, .string y] 26)
  have hb2 := hb1.alloc hb1.size (.cells #[vT] 34)
  have HB := Lib.hid (hb2.alloc hb2.size (.cells #[.slice none 0 0, .string ⟨#[]⟩] 26))
  have RX := Lib.hid ((Below.heap_alloc ((w.alloc (.cells #[vx, .string y] 26)).alloc (.cells #[vT] 34)) (.cells #[.slice none 0 0, .string ⟨#[]⟩] 26) w.heap.size (by simp; omega)).trans (heap_first w (.cells #[vT] 34) (.cells #[vx, .string y] 26)))
  have RT := Lib.hid (heap_mid w (.cells #[vx, .string y] 26) (.cells #[vT] 34) (.cells #[.slice none 0 0, .string ⟨#[]⟩] 26))
  have rr := heap_alloc_new ((w.alloc (.cells #[vx, .string y] 26)).alloc (.cells #[vT] 34)) (.cells #[.slice none 0 0, .string ⟨#[]⟩] 26)
  rw [show ((w.alloc (.cells #[vx, .string y] 26)).alloc (.cells #[vT] 34)).heap.size = w.heap.size + 2 by simp] at rr
  have RR := Lib.hid rr
  have hqz : w.heap.size + 3 ≤ (((w.alloc (.cells #[vx, .string y] 26)).alloc (.cells #[vT] 34)).alloc (.cells #[.slice none 0 0, .string ⟨#[]⟩] 26)).heap.size := by simp
  clear hb1 hb2 rr
  obtain ⟨ax, cx, rfl, -, -⟩ := hx
  obtain ⟨aT, cT, rfl, -, -⟩ := hT
  refine callsIn_of_wp_marks Try.func26 rfl trivial ?_ rfl
  simp only [Try.ntmps26, List.size_toArray, List.length_cons, List.length_nil, Nat.reduceAdd, Nat.reduceSub, Array.replicate_succ, Array.replicate_zero, List.push_toArray, List.append_toArray, List.nil_append, List.cons_append]
  obtain ⟨x0, x1, -, -⟩ := row2_of RX.out
  gi_wp2
  generalize (((w.alloc (.cells #[.slice ax ks.length cx, .string y] 26)).alloc (.cells #[.slice aT T.length cT] 34)).alloc (.cells #[.slice none 0 0, .string ⟨#[]⟩] 26)) = W at *
  refine ⟨trivial, (callsIn_wide.2 (CX.out _ HB.out)).mono ?_⟩
  rintro e w1 ⟨rfl, hb⟩
  replace HB := Lib.hid (HB.out.trans (hb.mono HB.out.size))
  replace RX := Lib.hid ((hb.block _ (Array.getElem?_eq_some_iff.1 RX.out).1).trans RX.out)
  replace RT := Lib.hid ((hb.block _ (Array.getElem?_eq_some_iff.1 RT.out).1).trans RT.out)
  replace RR := Lib.hid ((hb.block _ (Array.getElem?_eq_some_iff.1 RR.out).1).trans RR.out)
  have hq1z := Nat.le_trans hqz hb.size
  clear hb x0 x1 CX hqz
  have t0 : w1.cell? ⟨w.heap.size + 1, 0, none⟩ = some (.slice aT T.length cT) := by rw [cell_of_row _ _ 0 _ _ _ RT.out]; rfl
  gi_wp2
  refine ⟨trivial, (callsIn_wide.2 (CT.out _ HB.out)).mono ?_⟩
  rintro e w2 ⟨rfl, hb⟩
  replace HB := Lib.hid (HB.out.trans (hb.mono HB.out.size))
  replace RX := Lib.hid ((hb.block _ (Array.getElem?_eq_some_iff.1 RX.out).1).trans RX.out)
  replace RT := Lib.hid ((hb.block _ (Array.getElem?_eq_some_iff.1 RT.out).1).trans RT.out)
  replace RR := Lib.hid ((hb.block _ (Array.getElem?_eq_some_iff.1 RR.out).1).trans RR.out)
  have hq2z := Nat.le_trans hq1z hb.size
  clear hb t0 CT
  -- the box of the keys that are left
  have bK := Boxed.new w2 24 (.slice none 0 0)
  replace RX := Lib.hid ((Below.heap_alloc w2 (.cells #[.slice none 0 0] 24) _ (Array.getElem?_eq_some_iff.1 RX.out).1).trans RX.out)
  replace RT := Lib.hid ((Below.heap_alloc w2 (.cells #[.slice none 0 0] 24) _ (Array.getElem?_eq_some_iff.1 RT.out).1).trans RT.out)
  replace RR := Lib.hid ((Below.heap_alloc w2 (.cells #[.slice none 0 0] 24) _ (Array.getElem?_eq_some_iff.1 RR.out).1).trans RR.out)
  replace HB := Lib.hid (HB.out.alloc HB.out.size (.cells #[.slice none 0 0] 24))
  have hq3z : w2.heap.size + 1 = (w2.alloc (.cells #[.slice none 0 0] 24)).heap.size := by simp
  obtain ⟨x0, x1, -, -⟩ := row2_of RX.out
  gi_wp2
  generalize w2.alloc (.cells #[.slice none 0 0] 24) = W3 at *
  have hzz : w.heap.size + 3 ≤ w2.heap.size := by omega
  generalize w2.heap.size = nK at *
  refine ⟨trivial, (callsIn_wide.2 (iloadbytes_any y _ hy)).mono ?_⟩
  rintro e w4 ⟨rfl, hb⟩
  obtain ⟨p0, p1, p2, p3, hrow, harr⟩ := rowA_four y hy
  rw [harr]
  replace HB := Lib.hid (HB.out.trans (hb.mono HB.out.size))
  replace RX := Lib.hid ((hb.block _ (Array.getElem?_eq_some_iff.1 RX.out).1).trans RX.out)
  replace RT := Lib.hid ((hb.block _ (Array.getElem?_eq_some_iff.1 RT.out).1).trans RT.out)
  replace RR := Lib.hid ((hb.block _ (Array.getElem?_eq_some_iff.1 RR.out).1).trans RR.out)
  have bK : Boxed w4 nK 24 (.slice none 0 0) := (hb.block _ bK.lt).trans bK
  have hq4z := hb.size
  clear hb x0 x1
  have RL := heap_alloc_new w4 (.cells #[.int .u8 p0, .int .u8 p1, .int .u8 p2, .int .u8 p3] 73)
  have bK := bK.alloc (.cells #[.int .u8 p0, .int .u8 p1, .int .u8 p2, .int .u8 p3] 73)
  replace RX := Lib.hid ((Below.heap_alloc w4 (.cells #[.int .u8 p0, .int .u8 p1, .int .u8 p2, .int .u8 p3] 73) _ (Array.getElem?_eq_some_iff.1 RX.out).1).trans RX.out)
  replace RT := Lib.hid ((Below.heap_alloc w4 (.cells #[.int .u8 p0, .int .u8 p1, .int .u8 p2, .int .u8 p3] 73) _ (Array.getElem?_eq_some_iff.1 RT.out).1).trans RT.out)
  replace RR := Lib.hid ((Below.heap_alloc w4 (.cells #[.int .u8 p0, .int .u8 p1, .int .u8 p2, .int .u8 p3] 73) _ (Array.getElem?_eq_some_iff.1 RR.out).1).trans RR.out)
  replace HB := Lib.hid (HB.out.alloc HB.out.size (.cells #[.int .u8 p0, .int .u8 p1, .int .u8 p2, .int .u8 p3] 73))
  have hq5z : (w4.alloc (.cells #[.int .u8 p0, .int .u8 p1, .int .u8 p2, .int .u8 p3] 73)).heap.size = w4.heap.size + 1 := by simp
  obtain ⟨x0, x1, -, -⟩ := row2_of RX.out
  gi_wp2
  generalize w4.alloc (.cells #[.int .u8 p0, .int .u8 p1, .int .u8 p2, .int .u8 p3] 73) = W5 at *
  have hlz : nK < w4.heap.size := by omega
  generalize w4.heap.size = nL at *
  refine ⟨trivial, (callsIn_wide.2 (kin_any _ _ _ _)).mono ?_⟩
  rintro e w6 ⟨rfl, rfl⟩
  have bS := Boxed.new W5 24 (.slice ax ks.length cx)
  have bK := bK.alloc (.cells #[.slice ax ks.length cx] 24)
  have RL := (Below.heap_alloc W5 (.cells #[.slice ax ks.length cx] 24) _ (Array.getElem?_eq_some_iff.1 RL).1).trans RL
  have bT : Boxed (W5.alloc (.cells #[.slice ax ks.length cx] 24)) (w.heap.size + 1) 34 (.slice aT T.length cT) := (Below.heap_alloc W5 (.cells #[.slice ax ks.length cx] 24) _ (Array.getElem?_eq_some_iff.1 RT.out).1).trans RT.out
  have hRR := (Below.heap_alloc W5 (.cells #[.slice ax ks.length cx] 24) _ (Array.getElem?_eq_some_iff.1 RR.out).1).trans RR.out
  have hB0 := HB.out.alloc HB.out.size (.cells #[.slice ax ks.length cx] 24)
  have hsz : (W5.alloc (.cells #[.slice ax ks.length cx] 24)).heap.size = nL + 2 := by simp; omega
  have hnS : W5.heap.size = nL + 1 := by omega
  rw [hnS] at bS
  clear RX RT RR HB x0 x1
  gi_wp2
  generalize W5.alloc (.cells #[.slice ax ks.length cx] 24) = W0 at *
  have hlen : ∀ l, (outK T l).length ≤ l.length := fun l => List.length_filter_le _ _
  refine wpIn_rangeFunc_ownH (n := 9) rfl (by omega) (gf := 89) (lb := #[.pointer (some ⟨nL + 1, 0, none⟩)]) rfl trivial (enters_of Try.func89 (by kernel_rfl) rfl)
    (kin_stops 8 (nL + 1) w.heap.size (.slice ax ks.length cx) ks (by omega) (by omega) W0 (by omega) (by omega) bS.cell (hx0.below hB0)) belowK_t (belowK_b (by omega)) (Below.refl _ _) (fun _ => rfl)
    (fun pre W => (∃ v, Boxed W nK 24 v ∧ W.ownsRow w.heap.size 41 2 v (outK T pre).length (keyCells (outK T pre)) ∧ True) ∧ W.heap[nL]? = some (.cells (rowA (accR T y pre)) 73 (0, 0)) ∧ Boxed W (w.heap.size + 1) 34 (.slice aT T.length cT) ∧ W.heap[w.heap.size + 2]? = some (.cells #[.slice none 0 0, .string ⟨#[]⟩] 26 (0, 0)) ∧ Below w.heap.size w W)
    (fun _ _ _ => False)
    (OwnFrom.and (Own.from (holdsRow_own w.heap.size nK 24 41 2 (fun pre : List K2 => (outK T pre).length) (fun pre => keyCells (outK T pre)) (fun pre v => True)) _) (OwnFrom.and (Own.from (cells_own nL (fun pre : List K2 => rowA (accR T y pre)) 73) _) (OwnFrom.and (Own.from (boxed_own _ _ (fun _ => .slice aT T.length cT)) _) (OwnFrom.and (Own.from (cells_own (w.heap.size + 2) (fun _ => #[.slice none 0 0, .string ⟨#[]⟩]) 26) _) (ownFrom_below (Nat.le_refl _) (by omega))))))
    (fun _ _ _ _ _ hs _ _ => hs)
    ⟨⟨_, bK, World.ownsRow_nil _ _ _ _, trivial⟩, by rw [← hrow] at RL; exact RL, bT, hRR, hB0⟩
    (fun x a' W => ∃ Bx, nL < Bx ∧ KBoxed W Bx x ∧ (∃ v, Boxed W nK 24 v ∧ v.ownBlock ≠ some Bx) ∧ a' = { tmps := #[.agg #[.slice ax ks.length cx, .string y], .slice aT T.length cT, .pointer (some ⟨w.heap.size, 0, none⟩), .pointer (some ⟨w.heap.size + 1, 0, none⟩), .pointer (some ⟨w.heap.size + 1 + 1, 0, none⟩), .pointer (some ⟨nK, 0, none⟩), .pointer (some ⟨nL, 0, none⟩), .pointer (some ⟨Bx, 0, none⟩), undef, undef, .agg #[.slice ax ks.length cx, .string y], .bool true, .bool false, .bool false, .slice aT T.length cT, .bool true, .bool false, .bool false, undef, undef, .pointer (some ⟨w.heap.size, 1, none⟩), .string y, .agg #[.int .u8 p0, .int .u8 p1, .int .u8 p2, .int .u8 p3], .pointer (some ⟨w.heap.size, 0, none⟩), .slice ax ks.length cx, .func (.func 89) #[] #[.pointer (some ⟨nL + 1, 0, none⟩)], kv x, undef, undef, undef, undef, undef, undef, undef, undef, undef, undef, undef, undef, undef, undef, undef, undef, undef, undef], defers := [] })
    (fun x a' _ X Y row hs hg hr => by
      obtain ⟨Bx, e1, e2, e3, e4⟩ := hs
      exact ⟨Bx, e1, kboxed_own Bx x () X Y row e2 hg (fun r e => (hr r e).2), boxG_own nK 24 (fun (_ : Unit) v => v.ownBlock ≠ some Bx) () X Y row e3 hg (fun r e => (hr r e).2), e4⟩)
    ?assign ?body ?done ?stop
  case assign =>
    rintro l pre ⟨p, q⟩ W K ⟨⟨v, hv, hrow, -⟩, hRL, hTb, hRes, hB⟩ hK
    unfold kv at *
    dsimp only at *
    gi_wp2
    exact hK _ _ ((KeepsOthers.alloc _ _).from _) ((Below.refl _ W).alloc hB.size _) ⟨⟨_, hv.alloc _, (hrow.alloc _), trivial⟩, (Below.heap_alloc _ _ _ (Array.getElem?_eq_some_iff.1 hRL).1).trans hRL, hTb.alloc _, (Below.heap_alloc _ _ _ (Array.getElem?_eq_some_iff.1 hRes).1).trans hRes, hB.alloc hB.size _⟩ ⟨W.heap.size, (Array.getElem?_eq_some_iff.1 hRL).1, KBoxed.new W (p, q), ⟨_, hv.alloc _, fun e => by have := (hrow.lt _ e).2; omega⟩, rfl⟩
  case body =>
    rintro l pre ⟨p, q⟩ a' W hl ⟨r, hr⟩ ⟨⟨v, hv, hrw, -⟩, hRL, hTb, hRes, hB⟩ ⟨Bx, hBx, bX, ⟨v2, hv2, hne⟩, rfl⟩ hlt
    obtain rfl := boxed_uniq hv hv2
    clear hv2
    have hsn := outK_snoc T pre (p, q)
    have han := accR_snoc T y pre (p, q)
    have hsz1 := accR_size h4 pre hy
    have hl1 := hlen pre
    have hsW := hB.size
    generalize hM : outK T pre = M at *
    generalize hA : accR T y pre = A at *
    have HSN := Lib.hid hsn
    have HAN := Lib.hid han
    clear hsn han
    have CLx := Lib.hid (CL.out W (p, q) hB)
    unfold kv at *
    dsimp only at *
    have cX0 := bX.cell0
    have cX1 := bX.cell1
    have cTb := hTb.cell
    dsimp only at cX0 cX1
    cases hlo : loadO T (p, q) with
    | some z =>
      rw [hlo] at CLx HSN HAN
      have hz4 := loadO_four h4 hlo
      dsimp only at HSN HAN
      rw [show loadV (some z) = .tuple #[.string z, .bool true] from rfl] at CLx
      gi_wp2
      refine ⟨trivial, (CallsIn.inRound l (callsIn_wide.2 CLx.out)).mono ?_⟩
      rintro e W1 ⟨rfl, hb1⟩
      have g1 := grownN hb1
      have hv1 := hv.kept g1 (by simp)
      have hRL1 := (hb1.block _ (Array.getElem?_eq_some_iff.1 hRL).1).trans hRL
      have hTb1 := hTb.kept g1 (by simp)
      have hRes1 := (hb1.block _ (Array.getElem?_eq_some_iff.1 hRes).1).trans hRes
      have bX1 := bX.kept g1 (by simp)
      have hrw1 := own_below hrw hb1
      have hs1 := Nat.le_trans hsW hb1.size
      have hk1 : KeepsOthers W W1 := KeepsOthers.of_grownBy g1 (fun j o e => by cases e)
      have hB1 := hB.trans (hb1.mono hsW)
      have HBP1 := Lib.hid (hb1.mono hsW)
      have HK1 := Lib.hid hk1
      clear hv hRL hTb hRes bX hrw hb1 g1 hk1 hB CLx cX0 cX1 cTb
      obtain ⟨a0, a1, a2, a3, hrA, haA⟩ := rowA_four A hsz1
      have hxz : (xorS A z).size = 4 := by rw [xorS_size A z (by omega)]; exact hsz1
      obtain ⟨b0, b1, b2, b3, hrZ, haZ⟩ := rowA_four (xorS A z) hxz
      have HLB := Lib.hid (fun w => iloadbytes_any z w hz4)
      have HOR := Lib.hid (fun w => iorof_any A z hsz1 hz4 w)
      rw [haA, haZ] at HOR
      have HRL := Lib.hid (hrA ▸ hRL1 : W1.heap[nL]? = some (.cells #[.int .u8 a0, .int .u8 a1, .int .u8 a2, .int .u8 a3] 73 (0, 0)))
      have HV := Lib.hid hv1
      have HT := Lib.hid hTb1
      have HRE := Lib.hid hRes1
      have HO := Lib.hid hrw1
      have HBB := Lib.hid hB1
      have HSZ := Lib.hid hs1
      have hnlW : nL < W1.heap.size := (Array.getElem?_eq_some_iff.1 hRL1).1
      clear hRL1 hv1 hTb1 hRes1 hrw1 hB1 bX1
      gi_wp2
      have LA : ∀ w' : World, w'.heap[nL]? = some (.cells #[.int .u8 a0, .int .u8 a1, .int .u8 a2, .int .u8 a3] 73 (0, 0)) → (loadVar 73 ⟨nL, 0, none⟩).run Try.prog w' = .ok (.agg #[.int .u8 a0, .int .u8 a1, .int .u8 a2, .int .u8 a3]) w' := fun w' h => arr4_load h (Below.refl _ _)
      refine wpIn_region_H (fun w' => w'.heap[nL]? = some (.cells #[.int .u8 a0, .int .u8 a1, .int .u8 a2, .int .u8 a3] 73 (0, 0))) (by kernel_rfl) (by kernel_rfl) ?_
      have hb := (Below.refl W1.heap.size W1).drew
      have g2 := grownN hb
      replace HRL := Lib.hid ((hb.block _ (Array.getElem?_eq_some_iff.1 HRL.out).1).trans HRL.out)
      replace HV := Lib.hid (HV.out.kept g2 (by simp))
      replace HT := Lib.hid (HT.out.kept g2 (by simp))
      replace HRE := Lib.hid ((hb.block _ (Array.getElem?_eq_some_iff.1 HRE.out).1).trans HRE.out)
      replace HO := Lib.hid (own_below HO.out hb)
      replace HBP1 := Lib.hid (HBP1.out.trans (hb.mono HSZ.out))
      replace HBB := Lib.hid (HBB.out.trans (hb.mono HSZ.out))
      replace HK1 := Lib.hid (HK1.out.trans (KeepsOthers.of_grownBy g2 (fun j o e => by cases e)))
      replace HSZ := Lib.hid (Nat.le_trans HSZ.out hb.size)
      clear hb g2
      generalize W1.drew = w2 at *
      refine wpH_seg [true, true] [2] 2 (by kernel_rfl) (fun _ _ _ _ _ h => h) (by kernel_rfl) HRL.out ?_
      try simp only [maskRows]
      repeat (first
        | go_big_quiet_skip
        | (go_big_quiet_want
           first
             | (go_big_quiet_op; go_big_quiet_on)
             | (refine q_load 73 _ _ _ rfl rfl LA ?_; simp only [Act.put, List.setIfInBounds_toArray, List.set_cons_zero, List.set_cons_succ]; go_big_quiet_on)
             | (go_big_quiet_op; refine ⟨_, fun _ _ => rfl, ?_⟩; go_big_quiet_on)
             | (go_big_quiet_op; refine ⟨_, fun _ _ _ => rfl, ?_⟩; go_big_quiet_on)))
      refine wpQuiet_nil ?_
      refine List.forall_mem_singleton.2 ?_
      refine segh_run rfl (by rfl) (fun K hK => ?_)
      go_simp
      refine (HLB.out _).mono ?_
      rintro e w3 ⟨rfl, hb⟩
      dsimp only
      have g3 := grownN hb
      replace HRL := Lib.hid ((hb.block _ (Array.getElem?_eq_some_iff.1 HRL.out).1).trans HRL.out)
      replace HV := Lib.hid (HV.out.kept g3 (by simp))
      replace HT := Lib.hid (HT.out.kept g3 (by simp))
      replace HRE := Lib.hid ((hb.block _ (Array.getElem?_eq_some_iff.1 HRE.out).1).trans HRE.out)
      replace HO := Lib.hid (own_below HO.out hb)
      replace HBP1 := Lib.hid (HBP1.out.trans (hb.mono HSZ.out))
      replace HBB := Lib.hid (HBB.out.trans (hb.mono HSZ.out))
      replace HK1 := Lib.hid (HK1.out.trans (KeepsOthers.of_grownBy g3 (fun j o e => by cases e)))
      replace HSZ := Lib.hid (Nat.le_trans HSZ.out hb.size)
      clear hb g3
      refine hK _ _ (.inr ⟨_, fun _ h => h, HRL.out, ?_⟩)
      clear hK K
      try simp only [Act.put, List.setIfInBounds_toArray, List.set_cons_zero, List.set_cons_succ]
      refine wpH_seg [] [3] 1 (by kernel_rfl) (fun _ _ _ _ _ h => h) (by kernel_rfl) HRL.out ?_
      try simp only [maskRows]
      refine wpQuiet_nil ?_
      refine List.forall_mem_singleton.2 ?_
      refine segh_run rfl (by rfl) (fun K hK => ?_)
      go_simp
      refine (HOR.out _).mono ?_
      rintro e w4 ⟨rfl, hb⟩
      dsimp only
      have g4 := grownN hb
      replace HRL := Lib.hid ((hb.block _ (Array.getElem?_eq_some_iff.1 HRL.out).1).trans HRL.out)
      replace HV := Lib.hid (HV.out.kept g4 (by simp))
      replace HT := Lib.hid (HT.out.kept g4 (by simp))
      replace HRE := Lib.hid ((hb.block _ (Array.getElem?_eq_some_iff.1 HRE.out).1).trans HRE.out)
      replace HO := Lib.hid (own_below HO.out hb)
      replace HBP1 := Lib.hid (HBP1.out.trans (hb.mono HSZ.out))
      replace HBB := Lib.hid (HBB.out.trans (hb.mono HSZ.out))
      replace HK1 := Lib.hid (HK1.out.trans (KeepsOthers.of_grownBy g4 (fun j o e => by cases e)))
      replace HSZ := Lib.hid (Nat.le_trans HSZ.out hb.size)
      clear hb g4
      refine hK _ _ (.inr ⟨_, fun _ h => h, HRL.out, ?_⟩)
      clear hK K
      try simp only [Act.put, List.setIfInBounds_toArray, List.set_cons_zero, List.set_cons_succ]
      refine wpH_seg [] [4] 0 (by kernel_rfl) (fun _ _ _ _ _ h => h) (by kernel_rfl) HRL.out ?_
      try simp only [maskRows]
      refine wpQuiet_nil ?_
      refine List.forall_mem_singleton.2 ?_
      obtain ⟨c0, c1, c2, c3, f0, f1, f2, f3⟩ := row4_of HRL.out
      have hlt := (Array.getElem?_eq_some_iff.1 HRL.out).1
      refine segh_run rfl (by rfl) (fun K hK => ?_)
      go_simp
      have hRL2 := set4 (.int .u8 b0) (.int .u8 b1) (.int .u8 b2) (.int .u8 b3) HRL.out
      have g9 := grown4 w4 nL (.int .u8 b0) (.int .u8 b1) (.int .u8 b2) (.int .u8 b3)
      have hne9 : ∀ B, B ≠ nL → some B ≠ some nL := fun B h e => h (Option.some.inj e)
      have HV2 := Lib.hid (HV.out.kept g9 (hne9 _ (by omega)))
      have HT2 := Lib.hid (HT.out.kept g9 (hne9 _ (by omega)))
      have HRE2 := Lib.hid ((g9.block _ (Array.getElem?_eq_some_iff.1 HRE.out).1 (hne9 _ (by omega))).trans HRE.out)
      have HO2 := Lib.hid (HO.out.kept g9 (.inr fun e => by
        rcases HO.out.2 with ⟨h, _⟩ | ⟨g', cap', cur', h, _, hgb, _⟩
        · rw [h] at e; cases e
        · rw [h] at e
          have e2 : g' = nL := Option.some.inj e
          subst e2
          rw [HRL.out] at hgb
          injection hgb with h1
          injection h1 with h2 h3
          revert h3
          decide))
      have HBP2 := Lib.hid (below4 HBP1.out (by omega : w.heap.size ≤ nL) (.int .u8 b0) (.int .u8 b1) (.int .u8 b2) (.int .u8 b3))
      have HBB2 := Lib.hid (below4 HBB.out (by omega : w.heap.size ≤ nL) (.int .u8 b0) (.int .u8 b1) (.int .u8 b2) (.int .u8 b3))
      have HK2 := Lib.hid (HK1.out.trans (KeepsOthers.of_grownBy g9 (fun j o e ho => by cases e; rw [HRL.out] at ho; cases ho; rfl)))
      have HRL3 := Lib.hid hRL2
      clear HV HT HRE HO HBP1 HBB HK1 HSZ c0 c1 c2 c3 f0 f1 f2 f3 hlt g9 hne9 hRL2
      replace HRL := HRL3
      clear HRL3
      refine hK _ _ (.inl ⟨⟨lastP_of (by kernel_rfl), by kernel_rfl⟩, ?_⟩)
      clear hK K
      try simp only [Act.put, List.setIfInBounds_toArray, List.set_cons_zero, List.set_cons_succ]
      simp only [OnlyNormal]
      have HRF := Lib.hid (show _ = some (Obj.cells (rowA (xorS A z)) 73 (0, 0)) from hrZ ▸ HRL.out)
      clear HRL
      gi_wp2
      exact ⟨HK2.out.from _, HBP2.out, ⟨_, HV2.out, by rw [HSN.out]; exact HO2.out, trivial⟩, by rw [HAN.out]; exact HRF.out, HT2.out, HRE2.out, HBB2.out⟩
    | none =>
      rw [hlo] at CLx HSN HAN
      dsimp only at HSN HAN
      rw [show loadV (none : Option ByteArray) = .tuple #[.string ⟨#[]⟩, .bool false] from rfl] at CLx
      gi_wp2
      refine ⟨trivial, (CallsIn.inRound l (callsIn_wide.2 CLx.out)).mono ?_⟩
      rintro e W1 ⟨rfl, hb1⟩
      have g1 := grownN hb1
      have hv1 := hv.kept g1 (by simp)
      have hRL1 := (hb1.block _ (Array.getElem?_eq_some_iff.1 hRL).1).trans hRL
      have hTb1 := hTb.kept g1 (by simp)
      have hRes1 := (hb1.block _ (Array.getElem?_eq_some_iff.1 hRes).1).trans hRes
      have bX1 := bX.kept g1 (by simp)
      have hrw1 := own_below hrw hb1
      have hs1 := Nat.le_trans hsW hb1.size
      have hk1 : KeepsOthers W W1 := KeepsOthers.of_grownBy g1 (fun j o e => by cases e)
      have hB1 := hB.trans (hb1.mono hsW)
      have HBP1 := Lib.hid (hb1.mono hsW)
      have HK1 := Lib.hid hk1
      clear hv hRL hTb hRes bX hrw hb1 g1 hk1 hB CLx cX0 cX1 cTb
      have cL1 := hv1.cell
      have cX0 := bX1.cell0
      have cX1 := bX1.cell1
      dsimp only at cX0 cX1
      have hnlW := (Array.getElem?_eq_some_iff.1 hRL1).1
      have HRL1 := Lib.hid hRL1
      have HT1 := Lib.hid hTb1
      have HRE1 := Lib.hid hRes1
      clear hRL1 hTb1 hRes1
      gi_wp2_with (gi_at_builtin; refine wpListIn_append_own_at _ rfl (.tmp 38) (.tmp 40) 24 rfl w.heap.size 41 i0 (.agg #[.int .i64 0, .int .i64 0]) 2 16 Try.underlying24 hi hz0 hz1 hz2 rfl (by decide) _ _ _ rfl (hrw1.alloc _) ⟨W1.heap.size, 0, none⟩ 1 1 [.int .i64 p, .int .i64 q] rfl rfl (cell_two_new _ _ _ _) (by intro u hu; simp at hu; rcases hu with rfl | rfl <;> rfl) (by unfold maxLen; omega) (by omega) (by rw [World.size_alloc]; omega) ?_; intro v5 w5 hown5 hgrow5 _ hat5; obtain ⟨g5, cap5, rfl⟩ := ownsRow_succ hown5; obtain ⟨hvx, hvy, hrz, hkz, hbz⟩ := hv1.appended (by decide) hrw1 hs1 (by omega) hown5 hgrow5; have hc5 := hvx.cell; have hf5 := hvx.frozen)
      have hal := (Below.heap_alloc W1 (.cells #[.int .i64 p, .int .i64 q] 41) nL hnlW).trans HRL1.out
      have hrl5 := (hgrow5.block nL (by simp; omega) (fun e => by
        rcases hrw1.2 with ⟨h, _⟩ | ⟨g', cap', cur', h, _, hgb, _⟩
        · rw [h] at e; cases e
        · rw [h] at e
          have e2 : g' = nL := (Option.some.inj e).symm
          subst e2
          rw [HRL1.out] at hgb
          injection hgb with h1
          injection h1 with h2 h3
          revert h3
          decide)).trans hal
      have hre := (Below.heap_alloc W1 (.cells #[.int .i64 p, .int .i64 q] 41) _ (Array.getElem?_eq_some_iff.1 HRE1.out).1).trans HRE1.out
      have hre5 := (hgrow5.block (w.heap.size + 2) (by simp; omega) (fun e => by
        rcases hrw1.2 with ⟨h, _⟩ | ⟨g', cap', cur', h, _, hgb, _⟩
        · rw [h] at e; cases e
        · rw [h] at e
          have e2 : g' = w.heap.size + 2 := (Option.some.inj e).symm
          subst e2
          rw [HRE1.out] at hgb
          injection hgb with h1
          injection h1 with h2 h3
          revert h3
          decide)).trans hre
      have HF := Lib.hid (And.intro ((Below.heap_setCell _ ⟨nK, 0, none⟩ (.slice (some ⟨g5, 0, none⟩) (M.length + 1) cap5) nL (by simp; omega)).trans hrl5) ((Below.heap_setCell _ ⟨nK, 0, none⟩ (.slice (some ⟨g5, 0, none⟩) (M.length + 1) cap5) (w.heap.size + 2) (by simp; omega)).trans hre5))
      clear hal hrl5 hre hre5
      exact ⟨(HK1.out.trans hkz).from _, HBP1.out.trans hbz, ⟨_, hvy, by rw [HSN.out, keyCells_snoc]; simpa using hrz, trivial⟩, by rw [HAN.out]; exact HF.out.1, boxed_app HT1.out (by decide) hrw1 hgrow5 (by omega) _, HF.out.2, hB1.trans hbz⟩
  case done =>
    rintro D ys W hD hys ⟨⟨v, hv, hrow, -⟩, hRL, hTb, hRes, hB⟩ hK
    subst hys
    have hll := hlen ys
    have h4y := accR_size h4 ys hy
    obtain ⟨a3, n3, k3, rfl⟩ := own_shape hrow
    obtain ⟨a0, a1, a2, a3', hrA, haA⟩ := rowA_four (accR T y ys) h4y
    rw [hrA] at hRL
    have HC := Lib.hid (fun w => icodeof_any a3 n3 k3 (accR T y ys) h4y w)
    rw [haA] at HC
    have cK := hv.cell
    obtain ⟨d0, d1, d2, d3, -, -, -, -⟩ := row4_of hRL
    have hsW := hB.size
    gi_wp2
    refine ⟨trivial, (callsIn_wide.2 (HC.out _)).mono ?_⟩
    rintro e W1 ⟨rfl, hb⟩
    have hR1 := (hb.block _ (Array.getElem?_eq_some_iff.1 hRes).1).trans hRes
    have hK1 := (hb.block D (Array.getElem?_eq_some_iff.1 hK).1).trans hK
    have ho1 := own_below hrow hb
    have hB1 := hB.trans (hb.mono hsW)
    obtain ⟨c0, c1, f0, f1⟩ := row2_of hR1
    have hlt := (Array.getElem?_eq_some_iff.1 hR1).1
    have hD2 : w.heap.size + 2 ≠ D := by omega
    have hR2 := set2 (.slice a3 n3 k3) (.string (accR T y ys)) hR1
    have hK2 := row_set2 hK1 (b := w.heap.size + 2) (by omega) (.slice a3 n3 k3) (.string (accR T y ys))
    have ho2 := ho1.kept (grown2 W1 (w.heap.size + 2) (.slice a3 n3 k3) (.string (accR T y ys))) (.inr fun e => by
      rcases ho1.2 with ⟨h, _⟩ | ⟨g', cap', cur', h, _, hgb, _⟩
      · rw [h] at e; cases e
      · rw [h] at e
        have e2 : g' = w.heap.size + 2 := Option.some.inj e
        subst e2
        rw [hR1] at hgb
        injection hgb with h1
        injection h1 with h2 h3
        revert h3
        decide)
    have hB2 := below2 hB1 (by omega : w.heap.size ≤ w.heap.size + 2) (.slice a3 n3 k3) (.string (accR T y ys))
    have HF := Lib.hid (And.intro hR2 (And.intro hK2 (And.intro ho2 hB2)))
    clear hR1 hK1 ho1 hB1 hR2 hK2 ho2 hB2 hb hv hRL hTb hRes hrow hB cK d0 d1 d2 d3 hK
    gi_wp2
    obtain ⟨hR2, hK2, ho2, hB2⟩ := HF.out
    try rw [Exit.noGoto_ret]
    refine ⟨by simp, .inl ⟨_, _, rfl, run_takeDeferred hK2, ?_⟩⟩
    have hR3 := (World.putObj_heap_other (w := (World.setCell (World.setCell W1 ⟨w.heap.size + 2, 0, none⟩ (.slice a3 n3 k3)) ⟨w.heap.size + 2, 1, none⟩ (.string (accR T y ys)))) (r := D) (o := .deferred none) hD2).trans hR2
    have l3 := cd_load hR3 (Below.refl _ _)
    refine ⟨.agg #[.slice a3 n3 k3, .string (accR T y ys)], ?_, _, rfl, ownsRow_putObj ho2 (.deferred none) hK2 rfl, hB2.trans (belowK_b (w := w) (Nat.le_refl _) _ D _ _ (by omega) hK2 rfl rfl)⟩
    rw [results_cell (p := 4) (ty := 26) (by kernel_rfl)]
    simp [asAddr, Result.andThen, l3]
  case stop =>
    rintro D c pre W _ _ h _
    exact h.elim
theorem ireduced_any (vx : Value) (ks : List K2) (y : ByteArray) (vT : Value) (T : List R3) (w : World) (hx : keysAt w vx ks) (hT : rdAt w vT T) (hs : ks.length ≤ 1048576) (hsT : T.length ≤ 1048576) (hy : y.size ≤ 2000000) :
    Calls Try.prog 26 #[.agg #[vx, .string y], vT] w fun e w' => ∃ v', e = .returned (.agg #[v', .string (redM (ks, y) T).2]) ∧ w'.ownsRow w.heap.size 41 2 v' (redM (ks, y) T).1.length (keyCells (redM (ks, y) T).1) ∧ Below w.heap.size w w' := by
  by_cases h : codeOkB (ks, y) = true ∧ rdsOkR T = true
  · have h4y : y.size = 4 := ((codeOk_iff (ks, y)).1 h.1).2.2.1
    rw [redM_form h.1 h.2]
    dsimp only
    rw [← accR_form (rds_four h.2) h4y ks]
    exact ireduced_yes vx ks y vT T w hx hT hs hsT h.1 h.2
  · have e : redM (ks, y) T = (ks, y) := by unfold redM; rw [if_neg h]
    rw [e]
    exact ireduced_no vx ks y vT T w hx hT hs hsT hy h
end Go.Proofs.Ytnknfmjpkphbpaa
/- Words of several readings: the model's Holds, walked. -/
namespace Go.Proofs.Ytnknfmjpkphbpaa
open Go.ChangeShapes Go.WideShapes Go.ChangeAt Go.RowKit Go.BigFrame
set_option linter.unusedVariables false

theorem accO_cons (T : List R3) (y : ByteArray) (k : K2) (l : List K2) : accO T y (k :: l) = match loadO T k with | some z => if z.size = 4 then accO T (xorS y z) l else none | none => none := rfl
theorem accO_append (T : List R3) : ∀ (a b : List K2) (y : ByteArray), accO T y (a ++ b) = (accO T y a).bind fun x => accO T x b
  | [], b, y => rfl
  | k :: a, b, y => by
    rw [List.cons_append, accO_cons, accO_cons]
    cases loadO T k with
    | none => rfl
    | some z =>
      dsimp only
      split
      · exact accO_append T a b _
      · rfl
theorem accO_step {T : List R3} {ks : List K2} {k : Nat} {X : ByteArray} (hk : k < ks.length) (h : accO T z4 (ks.take k) = some X) :
    accO T z4 (ks.take (k + 1)) = accO T X [ks.getD k (0, 0)] ∧ accO T z4 ks = (accO T X [ks.getD k (0, 0)]).bind fun x => accO T x (ks.drop (k + 1)) := by
  have e : ks.take (k + 1) = ks.take k ++ [ks.getD k (0, 0)] := by
    rw [List.take_succ_eq_append_getElem hk]; simp [List.getD, List.getElem?_eq_getElem hk]
  have e1 : accO T z4 (ks.take (k + 1)) = accO T X [ks.getD k (0, 0)] := by rw [e, accO_append, h]; rfl
  refine ⟨e1, ?_⟩
  rw [← e1, ← accO_append, List.take_append_drop]
set_option maxRecDepth 100000 in
set_option maxHeartbeats 2000000 in
theorem sholds_any (v : Value) (ks : List K2) (y : ByteArray) (vt : Value) (T : List R3) (w : World) (h : keysAt w v ks) (ht : rdAt w vt T) (hs : ks.length ≤ 1048576) (hT : T.length ≤ 1048576) :
    Calls Try.prog 22 #[.agg #[v, .string y], vt] w fun e w' => e = .returned (.bool (holdsM (ks, y) T)) ∧ Below w.heap.size w w' := by
  have hb := (Below.refl w.heap.size w).alloc (Nat.le_refl _) (.cells #[v, .string y] 26)
  have HX := Lib.hid (heap_alloc_new w (.cells #[v, .string y] 26))
  have SL := Lib.hid (fun w' (hb' : Below w.heap.size w w') (k : K2) => sloadof_any vt T k w' (rdAt_below ht hb') (by omega))
  have SX := Lib.hid (fun w' (a b : ByteArray) (ha : a.size = 4) (hb : b.size = 4) => sxor_any a b w' (by omega) (by omega))
  have HB := Lib.hid hb
  obtain ⟨a, cap, rfl, hcap, hcells⟩ := h
  clear hb ht
  go_enter Try.func22, Try.ntmps22
  go_wp2_with fail
  generalize hW : w.alloc (.cells #[.slice a ks.length cap, .string y] 26) = W at *
  refine (szero_any _).mono ?_
  rintro e w1 ⟨rfl, rfl⟩
  go_wp2_with fail
  go_loopw [5, 6] (fun x i wr => ∃ (k : Nat) (X : ByteArray), k ≤ ks.length ∧ i = .int .i64 k ∧ x = .string X ∧ X.size = 4 ∧ accO T z4 (ks.take k) = some X ∧ Below w1.heap.size w1 wr) (fun _ i _ => ks.length - (intOf i).toNat)
  case atStart => exact ⟨0, z4, Nat.zero_le _, rfl, rfl, rfl, rfl, Below.refl _ _⟩
  case round =>
    obtain ⟨k, X, hk, rfl, rfl, hX, hacc, hbr⟩ := hrel
    obtain ⟨x0, x1⟩ := cd_cells HX.out hbr
    by_cases hlt : k < ks.length
    · obtain ⟨g, off, rfl, hg, hcs⟩ := hcells.resolve_left (by omega)
      have z0 : (0 : Int) ≤ (k : Int) := by omega
      have z1 : (k : Int) < (ks.length : Int) := by omega
      have c1 := hcs k hlt
      obtain ⟨t1, t2⟩ := accO_step hlt hacc
      rename_i wr
      have HBR := HB.out.trans (hbr.mono HB.out.size)
      have k0 : wr.cell? ⟨g, off + k * 2, none⟩ = some (.int .i64 (ks.getD k (0, 0)).1) := (HBR.cell (p := ⟨g, off + k * 2, none⟩) hg).trans c1.1
      have k1 : wr.cell? ⟨g, off + k * 2 + 1, none⟩ = some (.int .i64 (ks.getD k (0, 0)).2) := (HBR.cell (p := ⟨g, off + k * 2 + 1, none⟩) hg).trans c1.2
      have Z := SL.out wr HBR (ks.getD k (0, 0))
      have HBR := Lib.hid hbr
      have HF := Lib.hid (show accO T X [ks.getD k (0, 0)] = none → holdsM (ks, y) T = false from fun h => by unfold holdsM; rw [t2, h]; rfl)
      have hA : accO T X [ks.getD k (0, 0)] = match loadO T (ks.getD k (0, 0)) with | some z => if z.size = 4 then some (xorS X z) else none | none => none := by
        rw [accO_cons]
        cases loadO T (ks.getD k (0, 0)) <;> rfl
      clear hcells hcs c1 hg hbr hacc t2
      generalize ks.getD k (0, 0) = kx at *
      obtain ⟨p, q⟩ := kx
      unfold kv at Z
      dsimp only at Z k0 k1
      cases hl : loadO T (p, q) with
      | none =>
        rw [hl] at Z hA
        rw [show loadV (none : Option ByteArray) = .tuple #[.string ⟨#[]⟩, .bool false] from rfl] at Z
        have HZ := Lib.hid Z
        have HFF := Lib.hid (HF.out hA)
        clear Z hA HF t1 hl
        go_wp2_with fail
        refine HZ.out.mono ?_
        rintro e w2 ⟨rfl, hb2⟩
        have HB2 := Lib.hid (HBR.out.trans (hb2.mono HBR.out.size))
        clear hb2 x0 x1 k0 k1
        go_wp2
        go_ret
        exact ⟨by rw [HFF.out]; rfl, HB.out.trans (HB2.out.mono HB.out.size)⟩
      | some z =>
        rw [hl] at Z hA
        rw [show loadV (some z) = .tuple #[.string z, .bool true] from rfl] at Z
        have HZ := Lib.hid Z
        dsimp only at hA
        clear Z hl
        by_cases h4 : z.size = 4
        · rw [if_pos h4] at hA
          rw [hA] at t1
          have HT := Lib.hid t1
          have i4 : (z.size : Int) = 4 := by omega
          have b4 : ((z.size : Int) != 4) = false := by simp [i4]
          have XX := Lib.hid (fun w' => SX.out w' X z hX h4)
          have X4 : (xorS X z).size = 4 := by rw [xorS_size X z (by omega)]; exact hX
          clear hA HF t1
          go_wp2_with fail
          refine HZ.out.mono ?_
          rintro e w2 ⟨rfl, hb2⟩
          have HB2 := Lib.hid (HBR.out.trans (hb2.mono HBR.out.size))
          clear hb2 x0 x1 k0 k1
          go_wp2_with fail
          refine (XX.out _).mono ?_
          rintro e w3 ⟨rfl, hb3⟩
          have HB3 := Lib.hid (HB2.out.trans (hb3.mono HB2.out.size))
          clear hb3 HB2
          go_wp2
          exact ⟨⟨k + 1, xorS X z, by omega, by go_num, rfl, X4, HT.out, HB3.out⟩, by simp [intOf]; omega⟩
        · rw [if_neg h4] at hA
          have HFF := Lib.hid (HF.out hA)
          have i4 : ¬ (z.size : Int) = 4 := by omega
          have b4 : ((z.size : Int) != 4) = true := by simp [i4]
          clear hA HF t1
          go_wp2_with fail
          refine HZ.out.mono ?_
          rintro e w2 ⟨rfl, hb2⟩
          have HB2 := Lib.hid (HBR.out.trans (hb2.mono HBR.out.size))
          clear hb2 x0 x1 k0 k1
          go_wp2
          go_ret
          exact ⟨by rw [HFF.out]; rfl, HB.out.trans (HB2.out.mono HB.out.size)⟩
    · obtain rfl : k = ks.length := by omega
      rw [List.take_length] at hacc
      have hfin : holdsM (ks, y) T = (X.toList == y.toList) := by
        unfold holdsM
        rw [hacc]
        rw [Bool.eq_iff_iff, decide_eq_true_eq, beq_iff_eq, bytes_toList_iff]
      have HFI := Lib.hid hfin
      clear hcells hfin hacc
      go_wp2
      go_ret
      exact ⟨by rw [HFI.out]; rfl, HB.out.trans (hbr.mono HB.out.size)⟩
end Go.Proofs.Ytnknfmjpkphbpaa
/- The program's chapter 5, walked: whether a word holds; a range over a function. -/
namespace Go.Proofs.Ytnknfmjpkphbpaa
open Go.ChangeShapes Go.WideShapes Go.ChangeAt Go.RowKit Go.BigFrame Go.Shelf
attribute [local go_sem] Oper.semAt_some
set_option linter.unusedVariables false

def accX (T : List R3) (l : List K2) : ByteArray := (accO T z4 l).getD z4
theorem accO_size {T : List R3} : ∀ (l : List K2) {y X : ByteArray}, y.size = 4 → accO T y l = some X → X.size = 4
  | [], _, _, hy, h => by cases h; exact hy
  | k :: l, y, X, hy, h => by
    rw [accO_cons] at h
    cases hz : loadO T k with
    | none => rw [hz] at h; cases h
    | some z =>
      rw [hz] at h
      dsimp only at h
      split at h
      · rename_i h4
        exact accO_size l (by rw [xorS_size _ _ (by omega)]; exact hy) h
      · cases h
theorem accO_snoc (T : List R3) (l : List K2) (k : K2) : accO T z4 (l ++ [k]) = (accO T z4 l).bind fun X => match loadO T k with | some z => if z.size = 4 then some (xorS X z) else none | none => none := by
  rw [accO_append]
  try rfl
theorem accO_pre {T : List R3} {l ks : List K2} (hp : l <+: ks) (h : accO T z4 l = none) : accO T z4 ks = none := by
  obtain ⟨r, rfl⟩ := hp
  rw [accO_append, h]; rfl
theorem eq_lists (a b : ByteArray) : (a.data.toList == b.data.toList) = decide (a = b) := by
  rw [Bool.eq_iff_iff, decide_eq_true_eq, beq_iff_eq]
  constructor
  · intro h
    apply ByteArray.ext
    exact Array.toList_inj.1 h
  · rintro rfl; rfl
theorem bool_load {w : World} {b : Nat} {x : Bool} (h : w.heap[b]? = some (.cells #[.bool x] 4 (0, 0))) : (loadVar 4 ⟨b, 0, none⟩).run Try.prog w = .ok (.bool x) w :=
  load_one (fun w => by simp [isAgg, underlying, Try.underlying4]) (by rw [cell_of_row _ _ 0 _ _ _ h]; rfl)
set_option maxRecDepth 100000 in
set_option maxHeartbeats 8000000 in
theorem iholds_four (vx : Value) (ks : List K2) (y : ByteArray) (vT : Value) (T : List R3) (w : World) (hx : keysAt w vx ks) (hT : rdAt w vT T) (hs : ks.length ≤ 1048576) (hsT : T.length ≤ 1048576) (hz : ∀ r ∈ T, r.2.size ≤ 2000000) (hy : y.size = 4) :
    Calls Try.prog 21 #[.agg #[vx, .string y], vT] w fun e w' => e = .returned (.bool (holdsM (ks, y) T)) ∧ Below w.heap.size w w' := by
  refine (callsIn_wide (n := 9)).1 ?_
  have hx0 := keysIn0_of hx
  have CL := Lib.hid (fun w' k (hb : Below w.heap.size w w') => iloadof_any vT T k w' (rdAt_below hT hb) (by omega) hz)
  obtain ⟨ax, cx, rfl, -, -⟩ := hx
  obtain ⟨aT, cT, rfl, -, -⟩ := hT
  have i4 : (y.size : Int) = 4 := by omega
  have b4 : ((y.size : Int) != 4) = false := by simp [i4]
  have hb1 := (Below.refl w.heap.size w).alloc (Nat.le_refl _) (.cells #[.slice ax ks.length cx, .string y] 26)
  have hb2 := hb1.alloc hb1.size (.cells #[.slice aT T.length cT] 34)
  have hb3 := hb2.alloc hb2.size (.cells #[.bool false] 4)
  have hb4 := hb3.alloc hb3.size (.cells #[.int .u8 0, .int .u8 0, .int .u8 0, .int .u8 0] 73)
  have rX := (Below.heap_alloc (((w.alloc (.cells #[.slice ax ks.length cx, .string y] 26)).alloc (.cells #[.slice aT T.length cT] 34)).alloc (.cells #[.bool false] 4)) (.cells #[.int .u8 0, .int .u8 0, .int .u8 0, .int .u8 0] 73) w.heap.size (by first | (simp; done) | (simp; omega))).trans ((Below.heap_alloc ((w.alloc (.cells #[.slice ax ks.length cx, .string y] 26)).alloc (.cells #[.slice aT T.length cT] 34)) (.cells #[.bool false] 4) w.heap.size (by first | (simp; done) | (simp; omega))).trans (heap_first w (.cells #[.slice aT T.length cT] 34) (.cells #[.slice ax ks.length cx, .string y] 26)))
  have rT := (Below.heap_alloc (((w.alloc (.cells #[.slice ax ks.length cx, .string y] 26)).alloc (.cells #[.slice aT T.length cT] 34)).alloc (.cells #[.bool false] 4)) (.cells #[.int .u8 0, .int .u8 0, .int .u8 0, .int .u8 0] 73) (w.heap.size + 1) (by first | (simp; done) | (simp; omega))).trans (heap_mid w (.cells #[.slice ax ks.length cx, .string y] 26) (.cells #[.slice aT T.length cT] 34) (.cells #[.bool false] 4))
  have rR := heap_alloc_new ((w.alloc (.cells #[.slice ax ks.length cx, .string y] 26)).alloc (.cells #[.slice aT T.length cT] 34)) (.cells #[.bool false] 4)
  rw [show ((w.alloc (.cells #[.slice ax ks.length cx, .string y] 26)).alloc (.cells #[.slice aT T.length cT] 34)).heap.size = w.heap.size + 2 by simp] at rR
  have rR := (Below.heap_alloc (((w.alloc (.cells #[.slice ax ks.length cx, .string y] 26)).alloc (.cells #[.slice aT T.length cT] 34)).alloc (.cells #[.bool false] 4)) (.cells #[.int .u8 0, .int .u8 0, .int .u8 0, .int .u8 0] 73) (w.heap.size + 2) (by simp)).trans rR
  have rL := heap_alloc_new (((w.alloc (.cells #[.slice ax ks.length cx, .string y] 26)).alloc (.cells #[.slice aT T.length cT] 34)).alloc (.cells #[.bool false] 4)) (.cells #[.int .u8 0, .int .u8 0, .int .u8 0, .int .u8 0] 73)
  rw [show (((w.alloc (.cells #[.slice ax ks.length cx, .string y] 26)).alloc (.cells #[.slice aT T.length cT] 34)).alloc (.cells #[.bool false] 4)).heap.size = w.heap.size + 3 by simp] at rL
  have hw4 : ((((w.alloc (.cells #[.slice ax ks.length cx, .string y] 26)).alloc (.cells #[.slice aT T.length cT] 34)).alloc (.cells #[.bool false] 4)).alloc (.cells #[.int .u8 0, .int .u8 0, .int .u8 0, .int .u8 0] 73)).heap.size = w.heap.size + 4 := by simp
  clear hb1 hb2 hb3
  refine callsIn_of_wp_marks Try.func21 rfl trivial ?_ rfl
  simp only [Try.ntmps21, List.size_toArray, List.length_cons, List.length_nil, Nat.reduceAdd, Nat.reduceSub, Array.replicate_succ, Array.replicate_zero, List.push_toArray, List.append_toArray, List.nil_append, List.cons_append]
  obtain ⟨x0, x1, -, -⟩ := row2_of rX
  gi_wp2
  generalize (((w.alloc (.cells #[.slice ax ks.length cx, .string y] 26)).alloc (.cells #[.slice aT T.length cT] 34)).alloc (.cells #[.bool false] 4)).alloc (.cells #[.int .u8 0, .int .u8 0, .int .u8 0, .int .u8 0] 73) = W4 at *
  refine ⟨trivial, (callsIn_wide.2 (kin_any _ _ _ _)).mono ?_⟩
  rintro e w6 ⟨rfl, rfl⟩
  have bS := Boxed.new W4 24 (.slice ax ks.length cx)
  rw [hw4] at bS
  have RXr := (Below.heap_alloc W4 (.cells #[.slice ax ks.length cx] 24) _ (Array.getElem?_eq_some_iff.1 rX).1).trans rX
  have bT : Boxed (W4.alloc (.cells #[.slice ax ks.length cx] 24)) (w.heap.size + 1) 34 (.slice aT T.length cT) := (Below.heap_alloc W4 (.cells #[.slice ax ks.length cx] 24) _ (Array.getElem?_eq_some_iff.1 rT).1).trans rT
  have hRR := (Below.heap_alloc W4 (.cells #[.slice ax ks.length cx] 24) _ (Array.getElem?_eq_some_iff.1 rR).1).trans rR
  have RLr := (Below.heap_alloc W4 (.cells #[.slice ax ks.length cx] 24) _ (Array.getElem?_eq_some_iff.1 rL).1).trans rL
  have hB0 := hb4.alloc hb4.size (.cells #[.slice ax ks.length cx] 24)
  have hsz : (W4.alloc (.cells #[.slice ax ks.length cx] 24)).heap.size = w.heap.size + 5 := by simp; omega
  clear rX rT rR rL hb4 x0 x1
  gi_wp2
  generalize W4.alloc (.cells #[.slice ax ks.length cx] 24) = W0 at *
  refine wpIn_rangeFunc_ownH (n := 9) rfl (by omega) (gf := 89) (lb := #[.pointer (some ⟨w.heap.size + 4, 0, none⟩)]) rfl trivial (enters_of Try.func89 (by kernel_rfl) rfl)
    (kin_stops 8 (w.heap.size + 4) w.heap.size (.slice ax ks.length cx) ks (by omega) (by omega) W0 (by omega) (by omega) bS.cell (hx0.below hB0)) belowK_t (belowK_b (by omega)) (Below.refl _ _) (fun _ => rfl)
    (fun pre W => accO T z4 pre = some (accX T pre) ∧ W.heap[w.heap.size + 3]? = some (.cells (rowA (accX T pre)) 73 (0, 0)) ∧ Boxed W (w.heap.size + 1) 34 (.slice aT T.length cT) ∧ W.heap[w.heap.size + 2]? = some (.cells #[.bool false] 4 (0, 0)) ∧ W.heap[w.heap.size]? = some (.cells #[.slice ax ks.length cx, .string y] 26 (0, 0)) ∧ Below w.heap.size w W)
    (fun c pre W => (c = .ret ∧ accO T z4 pre = none) ∧ W.heap[w.heap.size + 2]? = some (.cells #[.bool false] 4 (0, 0)) ∧ Below w.heap.size w W)
    (OwnFrom.and (ownFrom_pure _ (fun pre : List K2 => accO T z4 pre = some (accX T pre))) (OwnFrom.and (Own.from (cells_own (w.heap.size + 3) (fun pre : List K2 => rowA (accX T pre)) 73) _) (OwnFrom.and (Own.from (boxed_own _ _ (fun _ => .slice aT T.length cT)) _) (OwnFrom.and (Own.from (cells_own (w.heap.size + 2) (fun _ => #[.bool false]) 4) _) (OwnFrom.and (Own.from (cells_own w.heap.size (fun _ => #[.slice ax ks.length cx, .string y]) 26) _) (ownFrom_below (Nat.le_refl _) (by omega)))))))
    (fun c => OwnFrom.and (ownFrom_pure _ (fun pre : List K2 => c = .ret ∧ accO T z4 pre = none)) (OwnFrom.and (Own.from (cells_own (w.heap.size + 2) (fun _ => #[.bool false]) 4) _) (ownFrom_below (Nat.le_refl _) (by omega))))
    ⟨rfl, RLr, bT, hRR, RXr, hB0⟩
    (fun x a' W => ∃ Bx, w.heap.size + 3 < Bx ∧ KBoxed W Bx x ∧ a' = { tmps := #[.agg #[.slice ax ks.length cx, .string y], .slice aT T.length cT, .pointer (some ⟨w.heap.size, 0, none⟩), .pointer (some ⟨w.heap.size + 1, 0, none⟩), .pointer (some ⟨w.heap.size + 1 + 1, 0, none⟩), .pointer (some ⟨w.heap.size + 1 + 1 + 1, 0, none⟩), .pointer (some ⟨Bx, 0, none⟩), undef, undef, .pointer (some ⟨w.heap.size, 1, none⟩), .string y, .int .i64 4, .bool false, .pointer (some ⟨w.heap.size, 0, none⟩), .slice ax ks.length cx, .func (.func 89) #[] #[.pointer (some ⟨w.heap.size + 4, 0, none⟩)], kv x, undef, undef, undef, undef, undef, undef, undef, undef, undef, undef, undef, undef, undef, undef, undef, undef, undef, undef, undef, undef, undef, undef], defers := [] })
    (fun x a' _ X Y row hs hg hr => by
      obtain ⟨Bx, e1, e2, e4⟩ := hs
      exact ⟨Bx, e1, kboxed_own Bx x () X Y row e2 hg (fun r e => (hr r e).2), e4⟩)
    ?assign ?body ?done ?stop
  case assign =>
    rintro l pre ⟨p, q⟩ W K ⟨hacc, hRL, hTb, hRes, hRX, hB⟩ hK
    unfold kv at *
    dsimp only at *
    gi_wp2
    exact hK _ _ ((KeepsOthers.alloc _ _).from _) ((Below.refl _ W).alloc hB.size _) ⟨hacc, (Below.heap_alloc _ _ _ (Array.getElem?_eq_some_iff.1 hRL).1).trans hRL, hTb.alloc _, (Below.heap_alloc _ _ _ (Array.getElem?_eq_some_iff.1 hRes).1).trans hRes, (Below.heap_alloc _ _ _ (Array.getElem?_eq_some_iff.1 hRX).1).trans hRX, hB.alloc hB.size _⟩ ⟨W.heap.size, (Array.getElem?_eq_some_iff.1 hRL).1, KBoxed.new W (p, q), rfl⟩
  case body =>
    rintro l pre ⟨p, q⟩ a' W hl ⟨r, hr⟩ ⟨hacc, hRL, hTb, hRes, hRX, hB⟩ ⟨Bx, hBx, bX, rfl⟩ hlt
    have hsn := accO_snoc T pre (p, q)
    rw [hacc, Option.bind_some] at hsn
    have hsz1 := accO_size pre rfl hacc
    have hsW := hB.size
    have hax : accX T (pre ++ [(p, q)]) = (accO T z4 (pre ++ [(p, q)])).getD z4 := rfl
    generalize hA : accX T pre = A at *
    have HSN := Lib.hid hsn
    have HAX := Lib.hid hax
    clear hsn hax
    have CLx := Lib.hid (CL.out W (p, q) hB)
    unfold kv at *
    dsimp only at *
    have cX0 := bX.cell0
    have cX1 := bX.cell1
    have cTb := hTb.cell
    dsimp only at cX0 cX1
    cases hlo : loadO T (p, q) with
    | none =>
      rw [hlo] at CLx HSN
      rw [show loadV (none : Option ByteArray) = .tuple #[.string ⟨#[]⟩, .bool false] from rfl] at CLx
      dsimp only at HSN
      gi_wp2
      refine ⟨trivial, (CallsIn.inRound l (callsIn_wide.2 CLx.out)).mono ?_⟩
      rintro e W1 ⟨rfl, hb⟩
      have g1 := grownN hb
      have HRL := Lib.hid ((hb.block _ (Array.getElem?_eq_some_iff.1 hRL).1).trans hRL)
      have HT := Lib.hid (hTb.kept g1 (by simp))
      have HRE := Lib.hid ((hb.block _ (Array.getElem?_eq_some_iff.1 hRes).1).trans hRes)
      have HRX := Lib.hid ((hb.block _ (Array.getElem?_eq_some_iff.1 hRX).1).trans hRX)
      have HSZ := Lib.hid (Nat.le_trans hsW hb.size)
      have HBP1 := Lib.hid (hb.mono hsW)
      have HBB := Lib.hid (hB.trans (hb.mono hsW))
      have HK1 := Lib.hid (KeepsOthers.of_grownBy g1 (fun j o e => by cases e) : KeepsOthers W W1)
      clear hRL hTb hRes hRX bX hb g1 hB CLx cX0 cX1 cTb
      have e0 : W1.cell? ⟨w.heap.size + 2, 0, none⟩ = some (.bool false) := by rw [cell_of_row _ _ 0 _ _ _ HRE.out]; rfl
      have ef : W1.frozen? ⟨w.heap.size + 2, 0, none⟩ = false := by simp [World.frozen?, HRE.out]
      have el := (Array.getElem?_eq_some_iff.1 HRE.out).1
      have HR2 := Lib.hid (show (W1.setCell ⟨w.heap.size + 2, 0, none⟩ (.bool false)).heap[w.heap.size + 2]? = some (.cells #[.bool false] 4 (0, 0)) from set_cellsR (.bool false) HRE.out)
      have HB2 := Lib.hid (HBB.out.setCell (p := ⟨w.heap.size + 2, 0, none⟩) (by simp only []; omega) (.bool false))
      have HK2 := Lib.hid (HK1.out.trans (KeepsOthers.setCell W1 ⟨w.heap.size + 2, 0, none⟩ (.bool false)))
      gi_wp2
      exact ⟨HK2.out.from _, ⟨rfl, HSN.out⟩, HR2.out, HB2.out⟩
    | some z =>
      rw [hlo] at CLx HSN
      rw [show loadV (some z) = .tuple #[.string z, .bool true] from rfl] at CLx
      dsimp only at HSN
      by_cases hz4 : z.size = 4
      · rw [if_pos hz4] at HSN
        have j4 : (z.size : Int) = 4 := by omega
        have k4 : ((z.size : Int) != 4) = false := by simp [j4]
        gi_wp2
        refine ⟨trivial, (CallsIn.inRound l (callsIn_wide.2 CLx.out)).mono ?_⟩
        rintro e W1 ⟨rfl, hb⟩
        have g1 := grownN hb
        have HRL := Lib.hid ((hb.block _ (Array.getElem?_eq_some_iff.1 hRL).1).trans hRL)
        have HT := Lib.hid (hTb.kept g1 (by simp))
        have HRE := Lib.hid ((hb.block _ (Array.getElem?_eq_some_iff.1 hRes).1).trans hRes)
        have HRX := Lib.hid ((hb.block _ (Array.getElem?_eq_some_iff.1 hRX).1).trans hRX)
        have HSZ := Lib.hid (Nat.le_trans hsW hb.size)
        have HBP1 := Lib.hid (hb.mono hsW)
        have HBB := Lib.hid (hB.trans (hb.mono hsW))
        have HK1 := Lib.hid (KeepsOthers.of_grownBy g1 (fun j o e => by cases e) : KeepsOthers W W1)
        clear hRL hTb hRes hRX bX hb g1 hB CLx cX0 cX1 cTb
        obtain ⟨a0, a1, a2, a3, hrA, haA⟩ := rowA_four A hsz1
        have hxz : (xorS A z).size = 4 := by rw [xorS_size A z (by omega)]; exact hsz1
        obtain ⟨b0, b1, b2, b3, hrZ, haZ⟩ := rowA_four (xorS A z) hxz
        have HLB := Lib.hid (fun w => iloadbytes_any z w hz4)
        have HOR := Lib.hid (fun w => iorof_any A z hsz1 hz4 w)
        rw [haA, haZ] at HOR
        rw [hrA] at HRL
        have hnlW : w.heap.size + 3 < W1.heap.size := (Array.getElem?_eq_some_iff.1 HRL.out).1
        gi_wp2
        have LA : ∀ w' : World, w'.heap[w.heap.size + 3]? = some (.cells #[.int .u8 a0, .int .u8 a1, .int .u8 a2, .int .u8 a3] 73 (0, 0)) → (loadVar 73 ⟨w.heap.size + 3, 0, none⟩).run Try.prog w' = .ok (.agg #[.int .u8 a0, .int .u8 a1, .int .u8 a2, .int .u8 a3]) w' := fun w' h => arr4_load h (Below.refl _ _)
        refine wpIn_region_H (fun w' => w'.heap[w.heap.size + 3]? = some (.cells #[.int .u8 a0, .int .u8 a1, .int .u8 a2, .int .u8 a3] 73 (0, 0))) (by kernel_rfl) (by kernel_rfl) ?_
        have hb := (Below.refl W1.heap.size W1).drew
        have g2 := grownN hb
        replace HRL := Lib.hid ((hb.block _ (Array.getElem?_eq_some_iff.1 HRL.out).1).trans HRL.out)
        replace HT := Lib.hid (HT.out.kept g2 (by simp))
        replace HRE := Lib.hid ((hb.block _ (Array.getElem?_eq_some_iff.1 HRE.out).1).trans HRE.out)
        replace HRX := Lib.hid ((hb.block _ (Array.getElem?_eq_some_iff.1 HRX.out).1).trans HRX.out)
        replace HBP1 := Lib.hid (HBP1.out.trans (hb.mono HSZ.out))
        replace HBB := Lib.hid (HBB.out.trans (hb.mono HSZ.out))
        replace HK1 := Lib.hid (HK1.out.trans (KeepsOthers.of_grownBy g2 (fun j o e => by cases e)))
        replace HSZ := Lib.hid (Nat.le_trans HSZ.out hb.size)
        clear hb g2
        generalize W1.drew = w2 at *
        refine wpH_seg [true, true] [2] 2 (by kernel_rfl) (fun _ _ _ _ _ h => h) (by kernel_rfl) HRL.out ?_
        try simp only [maskRows]
        repeat (first
          | go_big_quiet_skip
          | (go_big_quiet_want
             first
               | (go_big_quiet_op; go_big_quiet_on)
               | (refine q_load 73 _ _ _ rfl rfl LA ?_; simp only [Act.put, List.setIfInBounds_toArray, List.set_cons_zero, List.set_cons_succ]; go_big_quiet_on)
               | (go_big_quiet_op; refine ⟨_, fun _ _ => rfl, ?_⟩; go_big_quiet_on)
               | (go_big_quiet_op; refine ⟨_, fun _ _ _ => rfl, ?_⟩; go_big_quiet_on)))
        refine wpQuiet_nil ?_
        refine List.forall_mem_singleton.2 ?_
        refine segh_run rfl (by rfl) (fun K hK => ?_)
        go_simp
        refine (HLB.out _).mono ?_
        rintro e w3 ⟨rfl, hb⟩
        dsimp only
        have g3 := grownN hb
        replace HRL := Lib.hid ((hb.block _ (Array.getElem?_eq_some_iff.1 HRL.out).1).trans HRL.out)
        replace HT := Lib.hid (HT.out.kept g3 (by simp))
        replace HRE := Lib.hid ((hb.block _ (Array.getElem?_eq_some_iff.1 HRE.out).1).trans HRE.out)
        replace HRX := Lib.hid ((hb.block _ (Array.getElem?_eq_some_iff.1 HRX.out).1).trans HRX.out)
        replace HBP1 := Lib.hid (HBP1.out.trans (hb.mono HSZ.out))
        replace HBB := Lib.hid (HBB.out.trans (hb.mono HSZ.out))
        replace HK1 := Lib.hid (HK1.out.trans (KeepsOthers.of_grownBy g3 (fun j o e => by cases e)))
        replace HSZ := Lib.hid (Nat.le_trans HSZ.out hb.size)
        clear hb g3
        refine hK _ _ (.inr ⟨_, fun _ h => h, HRL.out, ?_⟩)
        clear hK K
        try simp only [Act.put, List.setIfInBounds_toArray, List.set_cons_zero, List.set_cons_succ]
        refine wpH_seg [] [3] 1 (by kernel_rfl) (fun _ _ _ _ _ h => h) (by kernel_rfl) HRL.out ?_
        try simp only [maskRows]
        refine wpQuiet_nil ?_
        refine List.forall_mem_singleton.2 ?_
        refine segh_run rfl (by rfl) (fun K hK => ?_)
        go_simp
        refine (HOR.out _).mono ?_
        rintro e w4 ⟨rfl, hb⟩
        dsimp only
        have g4 := grownN hb
        replace HRL := Lib.hid ((hb.block _ (Array.getElem?_eq_some_iff.1 HRL.out).1).trans HRL.out)
        replace HT := Lib.hid (HT.out.kept g4 (by simp))
        replace HRE := Lib.hid ((hb.block _ (Array.getElem?_eq_some_iff.1 HRE.out).1).trans HRE.out)
        replace HRX := Lib.hid ((hb.block _ (Array.getElem?_eq_some_iff.1 HRX.out).1).trans HRX.out)
        replace HBP1 := Lib.hid (HBP1.out.trans (hb.mono HSZ.out))
        replace HBB := Lib.hid (HBB.out.trans (hb.mono HSZ.out))
        replace HK1 := Lib.hid (HK1.out.trans (KeepsOthers.of_grownBy g4 (fun j o e => by cases e)))
        replace HSZ := Lib.hid (Nat.le_trans HSZ.out hb.size)
        clear hb g4
        refine hK _ _ (.inr ⟨_, fun _ h => h, HRL.out, ?_⟩)
        clear hK K
        try simp only [Act.put, List.setIfInBounds_toArray, List.set_cons_zero, List.set_cons_succ]
        refine wpH_seg [] [4] 0 (by kernel_rfl) (fun _ _ _ _ _ h => h) (by kernel_rfl) HRL.out ?_
        try simp only [maskRows]
        refine wpQuiet_nil ?_
        refine List.forall_mem_singleton.2 ?_
        obtain ⟨c0, c1, c2, c3, f0, f1, f2, f3⟩ := row4_of HRL.out
        have hlt4 := (Array.getElem?_eq_some_iff.1 HRL.out).1
        refine segh_run rfl (by rfl) (fun K hK => ?_)
        go_simp
        have g9 := grown4 w4 (w.heap.size + 3) (.int .u8 b0) (.int .u8 b1) (.int .u8 b2) (.int .u8 b3)
        have hne9 : ∀ B, B ≠ w.heap.size + 3 → some B ≠ some (w.heap.size + 3) := fun B h e => h (Option.some.inj e)
        have HT2 := Lib.hid (HT.out.kept g9 (hne9 _ (by omega)))
        have HRE2 := Lib.hid ((g9.block _ (Array.getElem?_eq_some_iff.1 HRE.out).1 (hne9 _ (by omega))).trans HRE.out)
        have HRX2 := Lib.hid ((g9.block _ (Array.getElem?_eq_some_iff.1 HRX.out).1 (hne9 _ (by omega))).trans HRX.out)
        have HBP2 := Lib.hid (below4 HBP1.out (by omega : w.heap.size ≤ w.heap.size + 3) (.int .u8 b0) (.int .u8 b1) (.int .u8 b2) (.int .u8 b3))
        have HBB2 := Lib.hid (below4 HBB.out (by omega : w.heap.size ≤ w.heap.size + 3) (.int .u8 b0) (.int .u8 b1) (.int .u8 b2) (.int .u8 b3))
        have HK2 := Lib.hid (HK1.out.trans (KeepsOthers.of_grownBy g9 (fun j o e ho => by cases e; rw [HRL.out] at ho; cases ho; rfl)))
        have HRL3 := Lib.hid (set4 (.int .u8 b0) (.int .u8 b1) (.int .u8 b2) (.int .u8 b3) HRL.out)
        clear HT HRE HRX HBP1 HBB HK1 HSZ c0 c1 c2 c3 f0 f1 f2 f3 hlt4 g9 hne9 HRL
        refine hK _ _ (.inl ⟨⟨lastP_of (by kernel_rfl), by kernel_rfl⟩, ?_⟩)
        clear hK K
        try simp only [Act.put, List.setIfInBounds_toArray, List.set_cons_zero, List.set_cons_succ]
        simp only [OnlyNormal]
        have HRF := Lib.hid (show _ = some (Obj.cells (rowA (xorS A z)) 73 (0, 0)) from hrZ ▸ HRL3.out)
        clear HRL3
        gi_wp2
        exact ⟨HK2.out.from _, HBP2.out, by rw [HAX.out, HSN.out]; rfl, by rw [HAX.out, HSN.out]; exact HRF.out, HT2.out, HRE2.out, HRX2.out, HBB2.out⟩
      · rw [if_neg hz4] at HSN
        have j4 : ¬ (z.size : Int) = 4 := by omega
        have k4 : ((z.size : Int) != 4) = true := by simp [j4]
        gi_wp2
        refine ⟨trivial, (CallsIn.inRound l (callsIn_wide.2 CLx.out)).mono ?_⟩
        rintro e W1 ⟨rfl, hb⟩
        have g1 := grownN hb
        have HRL := Lib.hid ((hb.block _ (Array.getElem?_eq_some_iff.1 hRL).1).trans hRL)
        have HT := Lib.hid (hTb.kept g1 (by simp))
        have HRE := Lib.hid ((hb.block _ (Array.getElem?_eq_some_iff.1 hRes).1).trans hRes)
        have HRX := Lib.hid ((hb.block _ (Array.getElem?_eq_some_iff.1 hRX).1).trans hRX)
        have HSZ := Lib.hid (Nat.le_trans hsW hb.size)
        have HBP1 := Lib.hid (hb.mono hsW)
        have HBB := Lib.hid (hB.trans (hb.mono hsW))
        have HK1 := Lib.hid (KeepsOthers.of_grownBy g1 (fun j o e => by cases e) : KeepsOthers W W1)
        clear hRL hTb hRes hRX bX hb g1 hB CLx cX0 cX1 cTb
        have e0 : W1.cell? ⟨w.heap.size + 2, 0, none⟩ = some (.bool false) := by rw [cell_of_row _ _ 0 _ _ _ HRE.out]; rfl
        have ef : W1.frozen? ⟨w.heap.size + 2, 0, none⟩ = false := by simp [World.frozen?, HRE.out]
        have el := (Array.getElem?_eq_some_iff.1 HRE.out).1
        have HR2 := Lib.hid (show (W1.setCell ⟨w.heap.size + 2, 0, none⟩ (.bool false)).heap[w.heap.size + 2]? = some (.cells #[.bool false] 4 (0, 0)) from set_cellsR (.bool false) HRE.out)
        have HB2 := Lib.hid (HBB.out.setCell (p := ⟨w.heap.size + 2, 0, none⟩) (by simp only []; omega) (.bool false))
        have HK2 := Lib.hid (HK1.out.trans (KeepsOthers.setCell W1 ⟨w.heap.size + 2, 0, none⟩ (.bool false)))
        gi_wp2
        exact ⟨HK2.out.from _, ⟨rfl, HSN.out⟩, HR2.out, HB2.out⟩
  case done =>
    rintro D ys W hD hys ⟨hacc, hRL, hTb, hRes, hRX, hB⟩ hK
    subst hys
    have hsz1 := accO_size ys rfl hacc
    have hfin : holdsM (ys, y) T = decide (accX T ys = y) := by unfold holdsM; rw [hacc]
    generalize accX T ys = A at *
    obtain ⟨a0, a1, a2, a3, hrA, haA⟩ := rowA_four A hsz1
    obtain ⟨b0, b1, b2, b3, hrY, haY⟩ := rowA_four y hy
    rw [hrA] at hRL
    have AE := fun w => arr_eql A y hsz1 hy w
    have AG := fun op x z w => arr_guard op x z A y w
    rw [eq_lists, haA, haY] at AE
    rw [haA, haY] at AG
    have HLB := Lib.hid (fun w => iloadbytes_any y w hy)
    rw [haY] at HLB
    have HFIN := Lib.hid hfin
    clear hfin
    generalize decide (A = y) = bo at *
    have HRL := Lib.hid hRL
    have HRX := Lib.hid hRX
    have HRE := Lib.hid hRes
    have HKD := Lib.hid hK
    have HBB := Lib.hid hB
    have HSZ := Lib.hid hB.size
    clear hRL hRX hRes hTb hB hK
    gi_wp2
    have LA : ∀ w' : World, w'.heap[w.heap.size + 3]? = some (.cells #[.int .u8 a0, .int .u8 a1, .int .u8 a2, .int .u8 a3] 73 (0, 0)) ∧ w'.heap[w.heap.size]? = some (.cells #[.slice ax ys.length cx, .string y] 26 (0, 0)) → (loadVar 73 ⟨w.heap.size + 3, 0, none⟩).run Try.prog w' = .ok (.agg #[.int .u8 a0, .int .u8 a1, .int .u8 a2, .int .u8 a3]) w' := fun w' h => arr4_load h.1 (Below.refl _ _)
    have LY : ∀ w' : World, w'.heap[w.heap.size + 3]? = some (.cells #[.int .u8 a0, .int .u8 a1, .int .u8 a2, .int .u8 a3] 73 (0, 0)) ∧ w'.heap[w.heap.size]? = some (.cells #[.slice ax ys.length cx, .string y] 26 (0, 0)) → (loadVar 9 ⟨w.heap.size, 1, none⟩).run Try.prog w' = .ok (.string y) w' := fun w' h => cd_loads h.2 (Below.refl _ _)
    refine wpIn_wide.2 (Code.wp_mono OnlyNormal.imp ?_)
    refine wp_region_H (fun w' => w'.heap[w.heap.size + 3]? = some (.cells #[.int .u8 a0, .int .u8 a1, .int .u8 a2, .int .u8 a3] 73 (0, 0)) ∧ w'.heap[w.heap.size]? = some (.cells #[.slice ax ys.length cx, .string y] 26 (0, 0))) (by kernel_rfl) ?_
    have hb := (Below.refl W.heap.size W).drew
    replace HRL := Lib.hid ((hb.block _ (Array.getElem?_eq_some_iff.1 HRL.out).1).trans HRL.out)
    replace HRX := Lib.hid ((hb.block _ (Array.getElem?_eq_some_iff.1 HRX.out).1).trans HRX.out)
    replace HRE := Lib.hid ((hb.block _ (Array.getElem?_eq_some_iff.1 HRE.out).1).trans HRE.out)
    replace HKD := Lib.hid ((hb.block _ (Array.getElem?_eq_some_iff.1 HKD.out).1).trans HKD.out)
    replace HBB := Lib.hid (HBB.out.trans (hb.mono HSZ.out))
    replace HSZ := Lib.hid (Nat.le_trans HSZ.out hb.size)
    clear hb
    generalize W.drew = wD at *
    refine wpH_seg [true, true, true] [3] 2 (by kernel_rfl) (fun _ _ _ _ _ h => h) (by kernel_rfl) ⟨HRL.out, HRX.out⟩ ?_
    try simp only [maskRows]
    repeat (first
      | go_big_quiet_skip
      | (go_big_quiet_want
         first
           | (go_big_quiet_op; go_big_quiet_on)
           | (refine q_load 73 _ _ _ rfl rfl LA ?_; simp only [Act.put, List.setIfInBounds_toArray, List.set_cons_zero, List.set_cons_succ]; go_big_quiet_on)
           | (refine q_load 9 _ _ _ rfl rfl LY ?_; simp only [Act.put, List.setIfInBounds_toArray, List.set_cons_zero, List.set_cons_succ]; go_big_quiet_on)
           | (refine q_bin _ 73 _ _ _ _ _ _ rfl rfl rfl (fun w => AG _ _ _ w) (fun w => AE w) ?_; simp only [Act.put, List.setIfInBounds_toArray, List.set_cons_zero, List.set_cons_succ]; go_big_quiet_on)
           | (go_big_quiet_op; refine ⟨_, fun _ _ => rfl, ?_⟩; go_big_quiet_on)
           | (go_big_quiet_op; refine ⟨_, fun _ _ _ => rfl, ?_⟩; go_big_quiet_on)))
    refine wpQuiet_nil ?_
    refine List.forall_mem_singleton.2 ?_
    refine segh_run rfl (by rfl) (fun K hK => ?_)
    go_simp
    refine (HLB.out _).mono ?_
    rintro e w3 ⟨rfl, hb⟩
    dsimp only
    replace HRL := Lib.hid ((hb.block _ (Array.getElem?_eq_some_iff.1 HRL.out).1).trans HRL.out)
    replace HRX := Lib.hid ((hb.block _ (Array.getElem?_eq_some_iff.1 HRX.out).1).trans HRX.out)
    replace HRE := Lib.hid ((hb.block _ (Array.getElem?_eq_some_iff.1 HRE.out).1).trans HRE.out)
    replace HKD := Lib.hid ((hb.block _ (Array.getElem?_eq_some_iff.1 HKD.out).1).trans HKD.out)
    replace HBB := Lib.hid (HBB.out.trans (hb.mono HSZ.out))
    replace HSZ := Lib.hid (Nat.le_trans HSZ.out hb.size)
    clear hb
    refine hK _ _ (.inr ⟨_, fun _ h => h, ⟨HRL.out, HRX.out⟩, ?_⟩)
    clear hK K
    try simp only [Act.put, List.setIfInBounds_toArray, List.set_cons_zero, List.set_cons_succ]
    refine wpH_seg [false, false, false, false, true] [5] 0 (by kernel_rfl) (fun _ _ _ _ _ h => h) (by kernel_rfl) ⟨HRL.out, HRX.out⟩ ?_
    try simp only [maskRows]
    repeat (first
      | go_big_quiet_skip
      | (go_big_quiet_want
         first
           | (go_big_quiet_op; go_big_quiet_on)
           | (refine q_load 73 _ _ _ rfl rfl LA ?_; simp only [Act.put, List.setIfInBounds_toArray, List.set_cons_zero, List.set_cons_succ]; go_big_quiet_on)
           | (refine q_load 9 _ _ _ rfl rfl LY ?_; simp only [Act.put, List.setIfInBounds_toArray, List.set_cons_zero, List.set_cons_succ]; go_big_quiet_on)
           | (refine q_bin _ 73 _ _ _ _ _ _ rfl rfl rfl (fun w => AG _ _ _ w) (fun w => AE w) ?_; simp only [Act.put, List.setIfInBounds_toArray, List.set_cons_zero, List.set_cons_succ]; go_big_quiet_on)
           | (go_big_quiet_op; refine ⟨_, fun _ _ => rfl, ?_⟩; go_big_quiet_on)
           | (go_big_quiet_op; refine ⟨_, fun _ _ _ => rfl, ?_⟩; go_big_quiet_on)))
    refine wpQuiet_nil ?_
    refine List.forall_mem_singleton.2 ?_
    have e0 : w3.cell? ⟨w.heap.size + 2, 0, none⟩ = some (.bool false) := by rw [cell_of_row _ _ 0 _ _ _ HRE.out]; rfl
    have ef : w3.frozen? ⟨w.heap.size + 2, 0, none⟩ = false := by simp [World.frozen?, HRE.out]
    have el := (Array.getElem?_eq_some_iff.1 HRE.out).1
    refine segh_run rfl (by rfl) (fun K hK => ?_)
    go_simp
    have HR2 := Lib.hid (show (w3.setCell ⟨w.heap.size + 2, 0, none⟩ (.bool bo)).heap[w.heap.size + 2]? = some (.cells #[.bool bo] 4 (0, 0)) from set_cellsR (.bool bo) HRE.out)
    have HK2 := Lib.hid ((Below.heap_setCell w3 ⟨w.heap.size + 2, 0, none⟩ (.bool bo) D (by simp only []; omega)).trans HKD.out)
    have HB2 := Lib.hid (HBB.out.setCell (p := ⟨w.heap.size + 2, 0, none⟩) (by simp only []; omega) (.bool bo))
    clear HRL HRX HRE HKD HBB HSZ e0 ef el
    refine hK _ _ (.inl ⟨⟨lastP_of (by kernel_rfl), by kernel_rfl⟩, ?_⟩)
    clear hK K
    try simp only [Act.put, List.setIfInBounds_toArray, List.set_cons_zero, List.set_cons_succ]
    try simp only [OnlyNormal]
    generalize (World.setCell w3 ⟨w.heap.size + 2, 0, none⟩ (.bool bo)) = wF at *
    gi_wp2
    try rw [Exit.noGoto_ret]
    refine ⟨by simp, .inl ⟨_, _, rfl, run_takeDeferred HK2.out, ?_⟩⟩
    have hR3 := (World.putObj_heap_other (w := wF) (r := D) (o := .deferred none) (show w.heap.size + 2 ≠ D by omega)).trans HR2.out
    have l3 := bool_load hR3
    refine ⟨.bool bo, ?_, by rw [HFIN.out], HB2.out.trans (belowK_b (w := w) (Nat.le_refl _) _ D _ _ (by omega) HK2.out rfl rfl)⟩
    rw [results_cell (p := 4) (ty := 4) (by kernel_rfl)]
    simp [asAddr, Result.andThen, l3]
  case stop =>
    rintro D c pre W hD hpre ⟨⟨rfl, hno⟩, hRes, hB⟩ hK
    gi_wp2
    try rw [Exit.noGoto_ret]
    refine ⟨by simp, .inl ⟨_, _, rfl, run_takeDeferred hK, ?_⟩⟩
    have hR3 := (World.putObj_heap_other (w := W) (r := D) (o := .deferred none) (show w.heap.size + 2 ≠ D by omega)).trans hRes
    have l3 := bool_load hR3
    have hfin : holdsM (ks, y) T = false := by unfold holdsM; rw [accO_pre hpre hno]
    refine ⟨.bool false, ?_, by rw [hfin], hB.trans (belowK_b (w := w) (Nat.le_refl _) W D _ _ (by omega) hK rfl rfl)⟩
    rw [results_cell (p := 4) (ty := 4) (by kernel_rfl)]
    simp [asAddr, Result.andThen, l3]
set_option maxRecDepth 100000 in
set_option maxHeartbeats 1000000 in
theorem iholds_any (vx : Value) (ks : List K2) (y : ByteArray) (vT : Value) (T : List R3) (w : World) (hx : keysAt w vx ks) (hT : rdAt w vT T) (hs : ks.length ≤ 1048576) (hsT : T.length ≤ 1048576) (hz : ∀ r ∈ T, r.2.size ≤ 2000000) :
    Calls Try.prog 21 #[.agg #[vx, .string y], vT] w fun e w' => e = .returned (.bool (holdsM (ks, y) T)) ∧ Below w.heap.size w w' := by
  by_cases hy : y.size = 4
  · exact iholds_four vx ks y vT T w hx hT hs hsT hz hy
  · have hfin : holdsM (ks, y) T = false := by
      unfold holdsM
      cases ha : accO T z4 ks with
      | none => rfl
      | some X =>
        have h4 := accO_size ks rfl ha
        exact decide_eq_false (fun e => hy ((congrArg ByteArray.size e).symm.trans h4))
    rw [hfin]
    obtain ⟨ax, cx, rfl, -, -⟩ := hx
    obtain ⟨aT, cT, rfl, -, -⟩ := hT
    have i4 : ¬ (y.size : Int) = 4 := by omega
    have b4 : ((y.size : Int) != 4) = true := by simp [i4]
    have hb1 := (Below.refl w.heap.size w).alloc (Nat.le_refl _) (.cells #[.slice ax ks.length cx, .string y] 26)
    have hb2 := hb1.alloc hb1.size (.cells #[.slice aT T.length cT] 34)
    have HB := Lib.hid (hb2.alloc hb2.size (.cells #[.bool false] 4))
    have rX := (Below.heap_alloc ((w.alloc (.cells #[.slice ax ks.length cx, .string y] 26)).alloc (.cells #[.slice aT T.length cT] 34)) (.cells #[.bool false] 4) w.heap.size (by first | (simp; done) | (simp; omega))).trans (heap_first w (.cells #[.slice aT T.length cT] 34) (.cells #[.slice ax ks.length cx, .string y] 26))
    have rR := heap_alloc_new ((w.alloc (.cells #[.slice ax ks.length cx, .string y] 26)).alloc (.cells #[.slice aT T.length cT] 34)) (.cells #[.bool false] 4)
    rw [show ((w.alloc (.cells #[.slice ax ks.length cx, .string y] 26)).alloc (.cells #[.slice aT T.length cT] 34)).heap.size = w.heap.size + 2 by simp] at rR
    have l3 := Lib.hid (bool_load rR)
    clear hb1 hb2 rR
    go_enter Try.func21, Try.ntmps21
    obtain ⟨x0, x1, -, -⟩ := row2_of rX
    clear rX
    go_wp2_with fail
    refine bodyPost_ret (v := .bool false) ?_ rfl ⟨rfl, HB.out⟩
    rw [results_cell (p := 4) (ty := 4) (by kernel_rfl)]
    have l2 := l3.out
    simp [asAddr, Result.andThen, l2]
end Go.Proofs.Ytnknfmjpkphbpaa
/- The model's chapter 3, walked: whether a key is there. -/
namespace Go.Proofs.Ytnknfmjpkphbpaa
open Go.ChangeShapes Go.WideShapes Go.ChangeAt Go.RowKit Go.BigFrame
set_option linter.unusedVariables false

set_option maxRecDepth 100000 in
set_option maxHeartbeats 2000000 in
theorem shaskey_any (v : Value) (ks : List K2) (x : K2) (w : World) (h : keysAt w v ks) (hs : ks.length ≤ 2000000) : Calls Try.prog 66 #[v, kv x] w fun e w' => e = .returned (.bool (hasKeyB ks x)) ∧ Below w.heap.size w w' := by
  obtain ⟨a, cap, rfl, hcap, hcells⟩ := h
  obtain ⟨n, s⟩ := x
  unfold kv
  dsimp only
  have hW : ∀ w' : World, Below (w.heap.size + 1) (w.alloc (.cells #[.int .i64 n, .int .i64 s] 41)) w' → (loadVar 41 ⟨w.heap.size, 0, none⟩).run Try.prog w' = .ok (kv (n, s)) w' := fun w' hb' =>
    key_load (k := (n, s)) (w := w.alloc (.cells #[.int .i64 n, .int .i64 s] 41)) (g := w.heap.size) (o := 0) ⟨by simp, by simp⟩ (by simp) (by simpa using hb')
  have hB0 : Below w.heap.size w (w.alloc (.cells #[.int .i64 n, .int .i64 s] 41)) := (Below.refl _ _).alloc (Nat.le_refl _) _
  have hsz0 : (w.alloc (.cells #[.int .i64 n, .int .i64 s] 41)).heap.size = w.heap.size + 1 := by simp
  have HW := Lib.hid hW; have HB0 := Lib.hid hB0; have HSZ := Lib.hid hsz0; clear hW hB0 hsz0
  go_enter Try.func66, Try.ntmps66
  go_wp2
  generalize w.alloc (.cells #[.int .i64 n, .int .i64 s] 41) = W at *
  go_loopw [5] (fun i wr => ∃ k : Nat, k ≤ ks.length ∧ i = .int .i64 k ∧ (∀ j, j < k → (ks.getD j (0, 0) == (n, s)) = false) ∧ Below W.heap.size W wr) (fun i _ => ks.length - (intOf i).toNat)
  case atStart => exact ⟨0, Nat.zero_le _, rfl, fun j hj => by omega, Below.refl _ _⟩
  case round =>
    obtain ⟨k, hk, rfl, hall, hb⟩ := hrel
    by_cases hlt : k < ks.length
    · obtain ⟨g, off, rfl, hg, hcs⟩ := hcells.resolve_left (by omega)
      have z0 : (0 : Int) ≤ (k : Int) := by omega
      have z1 : (k : Int) < (ks.length : Int) := by omega
      have c1 := hcs k hlt
      have L1 : ∀ w', Below W.heap.size W w' → (loadVar 41 ⟨g, off + k * 2, none⟩).run Try.prog w' = .ok (kv (ks.getD k (0, 0))) w' := fun w' hb' =>
        key_load c1 (w' := w') hg (HB0.out.trans (hb'.mono (by rw [HSZ.out]; omega)))
      have L2 : ∀ w', Below W.heap.size W w' → (loadVar 41 ⟨w.heap.size, 0, none⟩).run Try.prog w' = .ok (kv (n, s)) w' := fun w' hb' => HW.out w' (by rw [← HSZ.out]; exact hb')
      clear hcells hcs c1
      generalize hkx : ks.getD k (0, 0) = kx at *
      obtain ⟨p, q⟩ := kx
      cases he : ((p, q) == (n, s)) with
      | true =>
        have hh : hasKeyB ks (n, s) = true := by
          unfold hasKeyB
          rw [List.any_eq_true]
          refine ⟨ks[k], List.getElem_mem hlt, ?_⟩
          have : ks[k] = (p, q) := by rw [← hkx]; simp [List.getD, hlt]
          rw [this, he]
        have HH := Lib.hid hh
        clear hall hkx hh
        go_wp2
        refine wp_region_below W (by kernel_rfl) (by kernel_rfl) hb ?_
        repeat (first
          | go_big_quiet_skip
          | (go_big_quiet_want
             first
               | (go_big_quiet_op; go_big_quiet_on)
               | (refine q_load 41 _ _ _ rfl rfl L1 ?_; simp only [Act.put, List.setIfInBounds_toArray, List.set_cons_zero, List.set_cons_succ]; go_big_quiet_on)
               | (refine q_load 41 _ _ _ rfl rfl L2 ?_; simp only [Act.put, List.setIfInBounds_toArray, List.set_cons_zero, List.set_cons_succ]; go_big_quiet_on)
               | (refine q_bin _ 41 _ _ _ _ _ _ rfl rfl rfl (fun w => key_guard _ _ _ _ _ w) (fun w => key_eql _ _ w) ?_; simp only [Act.put, List.setIfInBounds_toArray, List.set_cons_zero, List.set_cons_succ]; go_big_quiet_on)
               | (refine q_bin _ 41 _ _ _ _ _ _ rfl rfl rfl (fun w => key_guard _ _ _ _ _ w) (fun w => key_neq _ _ w) ?_; simp only [Act.put, List.setIfInBounds_toArray, List.set_cons_zero, List.set_cons_succ]; go_big_quiet_on)
               | (go_big_quiet_op; refine ⟨_, fun _ _ => rfl, ?_⟩; go_big_quiet_on)
               | (go_big_quiet_op; go_big_quiet_on)))
        refine wpQuiet_nil ?_
        intro w2 hb2
        rw [he]
        clear L1 L2 hb
        go_wp2
        go_ret
        exact ⟨by rw [HH.out]; rfl, HB0.out.trans (hb2.mono (by rw [HSZ.out]; omega))⟩
      | false =>
        have hn : ∀ j, j < k + 1 → (ks.getD j (0, 0) == (n, s)) = false := by
          intro j hj
          rcases (by omega : j < k ∨ j = k) with h1 | rfl
          · exact hall j h1
          · rw [hkx, he]
        have HN := Lib.hid hn
        clear hall hkx hn
        go_wp2
        refine wp_region_below W (by kernel_rfl) (by kernel_rfl) hb ?_
        repeat (first
          | go_big_quiet_skip
          | (go_big_quiet_want
             first
               | (go_big_quiet_op; go_big_quiet_on)
               | (refine q_load 41 _ _ _ rfl rfl L1 ?_; simp only [Act.put, List.setIfInBounds_toArray, List.set_cons_zero, List.set_cons_succ]; go_big_quiet_on)
               | (refine q_load 41 _ _ _ rfl rfl L2 ?_; simp only [Act.put, List.setIfInBounds_toArray, List.set_cons_zero, List.set_cons_succ]; go_big_quiet_on)
               | (refine q_bin _ 41 _ _ _ _ _ _ rfl rfl rfl (fun w => key_guard _ _ _ _ _ w) (fun w => key_eql _ _ w) ?_; simp only [Act.put, List.setIfInBounds_toArray, List.set_cons_zero, List.set_cons_succ]; go_big_quiet_on)
               | (refine q_bin _ 41 _ _ _ _ _ _ rfl rfl rfl (fun w => key_guard _ _ _ _ _ w) (fun w => key_neq _ _ w) ?_; simp only [Act.put, List.setIfInBounds_toArray, List.set_cons_zero, List.set_cons_succ]; go_big_quiet_on)
               | (go_big_quiet_op; refine ⟨_, fun _ _ => rfl, ?_⟩; go_big_quiet_on)
               | (go_big_quiet_op; go_big_quiet_on)))
        refine wpQuiet_nil ?_
        intro w2 hb2
        rw [he]
        clear L1 L2 hb
        go_wp2
        exact ⟨⟨k + 1, by omega, by go_num, HN.out, hb2⟩, by simp [intOf]; omega⟩
    · obtain rfl : k = ks.length := by omega
      have hh : hasKeyB ks (n, s) = false := by
        unfold hasKeyB
        rw [List.any_eq_false]
        intro x hx
        obtain ⟨i, hi, rfl⟩ := List.getElem_of_mem hx
        have := hall i hi
        simp only [List.getD, List.getElem?_eq_getElem hi, Option.getD_some] at this
        simp [this]
      have HH := Lib.hid hh
      clear hall hh
      go_wp2
      go_ret
      exact ⟨by rw [HH.out]; rfl, HB0.out.trans (hb.mono (by rw [HSZ.out]; omega))⟩
end Go.Proofs.Ytnknfmjpkphbpaa
/- Words of several readings: the model's Reduced, walked. -/
namespace Go.Proofs.Ytnknfmjpkphbpaa
open Go.ChangeShapes Go.WideShapes Go.ChangeAt Go.RowKit Go.BigFrame
set_option linter.unusedVariables false

/-- a word on its way to be reduced, in its box -/
structure RdC (w W : World) (b5 : Nat) (X : C2) (vX : Value) : Prop where
  below : Below w.heap.size w W
  box : W.heap[b5]? = some (.cells #[vX, .string X.2] 26)
  own : W.ownsRow w.heap.size 41 2 vX X.1.length (keyCells X.1)
  ne : vX.ownBlock ≠ some b5
  res : W.heap[w.heap.size + 1]? = some (.cells #[.slice none 0 0, .string ⟨#[]⟩] 26)
  lt : w.heap.size + 1 < b5
theorem RdC.next {w W W' : World} {b5 : Nat} {X : C2} {vX : Value} (h : RdC w W b5 X vX) (hb : Below W.heap.size W W') : RdC w W' b5 X vX :=
  ⟨h.below.trans (hb.mono h.below.size), (hb.block _ (Array.getElem?_eq_some_iff.1 h.box).1).trans h.box, own_below h.own hb, h.ne, (hb.block _ (Array.getElem?_eq_some_iff.1 h.res).1).trans h.res, h.lt⟩
theorem RdC.setk {w W : World} {b5 : Nat} {X : C2} {vX : Value} {v : Value} {ks : List K2} (h : RdC w W b5 X vX) (ho : W.ownsRow (b5 + 1) 41 2 v ks.length (keyCells ks)) : RdC w (W.setCell ⟨b5, 0, none⟩ v) b5 (ks, X.2) v := by
  have hl := h.lt
  have hne : v.ownBlock ≠ some b5 := fun e => by have := (ho.lt _ e).1; omega
  refine ⟨h.below.setCell (p := ⟨b5, 0, none⟩) (by show w.heap.size ≤ b5; omega) v, set_cellsD (j := 0) v h.box, own_base (ho.kept (Lib.grownBy_setCell W b5 0 v) (.inr fun e => hne e)) (by omega), hne, ?_, hl⟩
  rw [Below.heap_setCell _ _ _ _ (by simp; omega)]
  exact h.res
theorem RdC.sets {w W : World} {b5 : Nat} {X : C2} {vX : Value} (h : RdC w W b5 X vX) (y : ByteArray) : RdC w (W.setCell ⟨b5, 1, none⟩ (.string y)) b5 (X.1, y) vX := by
  have hl := h.lt
  refine ⟨h.below.setCell (p := ⟨b5, 1, none⟩) (by show w.heap.size ≤ b5; omega) _, set_cellsD (j := 1) _ h.box, h.own.kept (Lib.grownBy_setCell W b5 1 _) (.inr fun e => h.ne e), h.ne, ?_, hl⟩
  rw [Below.heap_setCell _ _ _ _ (by simp; omega)]
  exact h.res
structure RdF (w W : World) (b5 : Nat) (ks : List K2) (y : ByteArray) (v : Value) : Prop where
  c0 : W.cell? ⟨b5, 0, none⟩ = some v
  c1 : W.cell? ⟨b5, 1, none⟩ = some (.string y)
  d0 : W.cell? ⟨w.heap.size + 1, 0, none⟩ = some (.slice none 0 0)
  d1 : W.cell? ⟨w.heap.size + 1, 1, none⟩ = some (.string ⟨#[]⟩)
  g0 : W.frozen? ⟨w.heap.size + 1, 0, none⟩ = false
  g1 : W.frozen? ⟨w.heap.size + 1, 1, none⟩ = false
  load : (loadVar 26 ⟨w.heap.size + 1, 0, none⟩).run Try.prog ((W.setCell ⟨w.heap.size + 1, 0, none⟩ v).setCell ⟨w.heap.size + 1, 1, none⟩ (.string y)) = .ok (.agg #[v, .string y]) ((W.setCell ⟨w.heap.size + 1, 0, none⟩ v).setCell ⟨w.heap.size + 1, 1, none⟩ (.string y))
  fin : ((W.setCell ⟨w.heap.size + 1, 0, none⟩ v).setCell ⟨w.heap.size + 1, 1, none⟩ (.string y)).ownsRow w.heap.size 41 2 v ks.length (keyCells ks) ∧ Below w.heap.size w ((W.setCell ⟨w.heap.size + 1, 0, none⟩ v).setCell ⟨w.heap.size + 1, 1, none⟩ (.string y))
/-- what is owned stands elsewhere than the result's place -/
structure RdE (w W : World) (b5 : Nat) (X : C2) (vX : Value) : Prop where
  c : RdC w W b5 X vX
  ner : vX.ownBlock ≠ some (w.heap.size + 1)
theorem RdE.next {w W W' : World} {b5 : Nat} {X : C2} {vX : Value} (h : RdE w W b5 X vX) (hb : Below W.heap.size W W') : RdE w W' b5 X vX := ⟨h.c.next hb, h.ner⟩
theorem RdE.setk {w W : World} {b5 : Nat} {X : C2} {vX : Value} {v : Value} {ks : List K2} (h : RdE w W b5 X vX) (ho : W.ownsRow (b5 + 1) 41 2 v ks.length (keyCells ks)) : RdE w (W.setCell ⟨b5, 0, none⟩ v) b5 (ks, X.2) v :=
  ⟨h.c.setk ho, fun e => by have := (ho.lt _ e).1; have := h.c.lt; omega⟩
theorem RdE.sets {w W : World} {b5 : Nat} {X : C2} {vX : Value} (h : RdE w W b5 X vX) (y : ByteArray) : RdE w (W.setCell ⟨b5, 1, none⟩ (.string y)) b5 (X.1, y) vX := ⟨h.c.sets y, h.ner⟩
theorem RdE.fin {w W : World} {b5 : Nat} {X : C2} {vX : Value} (h : RdE w W b5 X vX) : RdF w W b5 X.1 X.2 vX := by
  obtain ⟨c0, c1, -, -⟩ := row2_of h.c.box
  obtain ⟨d0, d1, g0, g1⟩ := row2_of h.c.res
  exact ⟨c0, c1, d0, d1, g0, g1, cd_res h.c.res vX X.2, h.c.own.kept (grown2 W _ _ _) (.inr fun e => h.ner e), below2 h.c.below (by omega) vX (.string X.2)⟩
theorem redF_bd {x : C2} {T : List R3} (hx : codeOkB x = true) (hT : rdsOkR T = true) (k : Nat) : (redF x (T.take k)).1.length ≤ x.1.length ∧ (redF x (T.take k)).2.size = 4 := by
  have h := (codeOk_iff x).1 hx
  obtain ⟨h1, h2⟩ := rds_parts hT
  have hd : ((T.take k).map (·.1)).Nodup := by rw [List.map_take]; exact h2.sublist (List.take_sublist _ _)
  have hk : ∀ r ∈ T.take k, rdOkB r = true := fun r hr => h1 r (List.mem_of_mem_take hr)
  have hf : ∀ r ∈ T.take k, r.2.size = 4 := fun r hr => rds_four hT r (List.mem_of_mem_take hr)
  rw [redF_form x h.2.1 h.2.2.1 _ _ rfl hk hd]
  refine ⟨List.length_filter_le _ _, ?_⟩
  rw [xorS_size _ _ (by rw [sumX_size (inK_all hf x.1)]; exact h.2.2.1)]
  exact h.2.2.1
set_option maxRecDepth 100000 in
set_option maxHeartbeats 3000000 in
theorem sreduced_any (v : Value) (ks : List K2) (y : ByteArray) (vt : Value) (T : List R3) (w : World) (h : keysAt w v ks) (ht : rdAt w vt T) (hs : ks.length ≤ 1048576) (hT : T.length ≤ 1048576) :
    Calls Try.prog 28 #[.agg #[v, .string y], vt] w fun e w' => ∃ v', e = .returned (.agg #[v', .string (redM (ks, y) T).2]) ∧ w'.ownsRow w.heap.size 41 2 v' (redM (ks, y) T).1.length (keyCells (redM (ks, y) T).1) ∧ Below w.heap.size w w' := by
  have HP := Lib.hid (cpc_new w v y)
  have e2 : ((w.alloc (.cells #[v, .string y] 26)).alloc (.cells #[.slice none 0 0, .string ⟨#[]⟩] 26)).heap.size = w.heap.size + 2 := by simp
  have HZ := Lib.hid e2
  have SC := Lib.hid (fun w' (hb : Below w.heap.size w w') => scopy_any v ks y w' (keysAt_below h hb) (by omega))
  have SO := Lib.hid (fun w' (hb : Below w.heap.size w w') => scodeok_any v ks y w' (keysAt_below h hb) (by omega))
  have SR := Lib.hid (fun w' (hb : Below w.heap.size w w') => sreadingsok_any vt T w' (rdAt_below ht hb) (by omega))
  obtain ⟨at0, ct0, hvt, hcapt, hcells⟩ := ht
  subst hvt
  obtain ⟨x0, x1, -, -⟩ := row2_of HP.out.row
  clear h e2
  go_enter Try.func28, Try.ntmps28
  go_wp2_with fail
  generalize (w.alloc (.cells #[v, .string y] 26)).alloc (.cells #[.slice none 0 0, .string ⟨#[]⟩] 26) = W at *
  refine (SC.out _ HP.out.below).mono ?_
  rintro e w1 ⟨v1, rfl, ho1, hb1⟩
  obtain ⟨a1, n1, k1, rfl⟩ := own_shape ho1
  have hp1 : CpC w w1 v y := ⟨HP.out.below.trans (hb1.mono HP.out.below.size), (hb1.block _ (Array.getElem?_eq_some_iff.1 HP.out.row).1).trans HP.out.row, (hb1.block _ (Array.getElem?_eq_some_iff.1 HP.out.res).1).trans HP.out.res⟩
  have hz1 : w.heap.size + 2 ≤ w1.heap.size := by have := hb1.size; have := HZ.out; omega
  have hbA := (Below.refl w1.heap.size w1).alloc (Nat.le_refl _) (.cells #[.slice a1 n1 k1, .string y] 26)
  -- the copy in its box: a world made and stored into, as one that was made so
  have HP1 := Lib.hid hp1
  have HZ1 := Lib.hid hz1
  have HO1 := Lib.hid (own_base ho1 (by have := HZ.out; omega : w.heap.size ≤ W.heap.size))
  have hn2 : (Value.slice a1 n1 k1).ownBlock ≠ some (w.heap.size + 1) := fun e => by have := (ho1.lt _ e).1; have := HZ.out; omega
  have HN2 := Lib.hid hn2
  clear hn2
  have HN1 := Lib.hid (fun (e : (Value.slice a1 n1 k1).ownBlock = some w1.heap.size) => Nat.lt_irrefl _ (ho1.lt _ e).2)
  clear hb1 ho1 hp1 hbA x0 x1 HP HZ
  obtain ⟨x0, x1, -, -⟩ := row2_of HP1.out.row
  have hlx := (Array.getElem?_eq_some_iff.1 HP1.out.row).1
  go_wp2_with fail
  have hE2 : RdE w (w1.alloc (.cells #[.slice a1 n1 k1, .string y] 26)) w1.heap.size (ks, y) (.slice a1 n1 k1) :=
    ⟨⟨HP1.out.below.alloc HP1.out.below.size _, heap_alloc_new w1 _, HO1.out.alloc _, HN1.out, (Below.heap_alloc w1 _ _ (Array.getElem?_eq_some_iff.1 HP1.out.res).1).trans HP1.out.res, by have := HZ1.out; omega⟩, HN2.out⟩
  have HE2 := Lib.hid hE2
  clear hE2 HP1 HO1 HN1 HN2 x0 x1 hlx
  generalize w1.alloc (.cells #[.slice a1 n1 k1, .string y] 26) = W2 at *
  have hlt5 := HE2.out.c.lt
  generalize w1.heap.size = b5 at *
  refine (SO.out _ HE2.out.c.below).mono ?_
  rintro e w3 ⟨rfl, hb3⟩
  have HE3 := Lib.hid (HE2.out.next hb3)
  clear hb3 SO SC HE2
  cases hck : codeOkB (ks, y) with
  | false =>
    have HM := Lib.hid (redM_no (x := (ks, y)) (T := T) (fun h => by rw [hck] at h; cases h.1))
    clear hck
    have HF := Lib.hid HE3.out.fin
    have hF := HF.out
    obtain ⟨c0, c1, d0, d1, g0, g1, -, -⟩ := hF
    have hl5 := (Array.getElem?_eq_some_iff.1 HE3.out.c.box).1
    have hlr := (Array.getElem?_eq_some_iff.1 HE3.out.c.res).1
    go_wp2_with fail
    refine bodyPost_ret (v := .agg #[.slice a1 n1 k1, .string y]) ?_ rfl ⟨_, by rw [HM.out], by rw [HM.out]; exact HF.out.fin.1, HF.out.fin.2⟩
    rw [results_cell (p := 4) (ty := 26) (by kernel_rfl)]
    have l2 := HF.out.load
    simp [asAddr, Result.andThen, l2]
  | true =>
    go_wp2_with fail
    refine (SR.out _ HE3.out.c.below).mono ?_
    rintro e w4 ⟨rfl, hb4⟩
    have HE4 := Lib.hid (HE3.out.next hb4)
    clear hb4 SR HE3
    cases hrk : rdsOkR T with
    | false =>
      have HM := Lib.hid (redM_no (x := (ks, y)) (T := T) (fun h => by rw [hrk] at h; cases h.2))
      clear hck hrk
      have HF := Lib.hid HE4.out.fin
      have hF := HF.out
      obtain ⟨c0, c1, d0, d1, g0, g1, -, -⟩ := hF
      have hl5 := (Array.getElem?_eq_some_iff.1 HE4.out.c.box).1
      have hlr := (Array.getElem?_eq_some_iff.1 HE4.out.c.res).1
      go_wp2_with fail
      refine bodyPost_ret (v := .agg #[.slice a1 n1 k1, .string y]) ?_ rfl ⟨_, by rw [HM.out], by rw [HM.out]; exact HF.out.fin.1, HF.out.fin.2⟩
      rw [results_cell (p := 4) (ty := 26) (by kernel_rfl)]
      have l2 := HF.out.load
      simp [asAddr, Result.andThen, l2]
    | true =>
      have hbd := fun k => redF_bd hck hrk k
      have hfo := rds_four hrk
      have hMF : redM (ks, y) T = redF (ks, y) T := by unfold redM; rw [if_pos ⟨hck, hrk⟩]
      have HM := Lib.hid hMF
      clear hck hrk hMF hlt5
      go_wp2_with fail
      go_loopw [6] (fun i wr => ∃ (k : Nat) (a n c : _), k ≤ T.length ∧ i = .int .i64 k ∧ RdE w wr b5 (redF (ks, y) (T.take k)) (.slice a n c)) (fun i _ => T.length - (intOf i).toNat)
      case atStart => exact ⟨0, a1, n1, k1, Nat.zero_le _, rfl, HE4.out⟩
      case round =>
        obtain ⟨k, aX, nX, cX, hk, rfl, hE⟩ := hrel
        have HE := Lib.hid hE
        clear hE HE4
        by_cases hlt : k < T.length
        · obtain ⟨g, off, rfl, hg, hcs⟩ := hcells.resolve_left (by omega)
          have z0 : (0 : Int) ≤ (k : Int) := by omega
          have z1 : (k : Int) < (T.length : Int) := by omega
          have c1 := hcs k hlt
          have hq4 : (T.getD k r0).2.size = 4 := hfo _ (by rw [List.getD, List.getElem?_eq_getElem hlt]; exact List.getElem_mem hlt)
          have hst : redF (ks, y) (T.take (k + 1)) = redStep (redF (ks, y) (T.take k)) (T.getD k r0) := by
            rw [← redF_snoc, List.take_succ_eq_append_getElem hlt]; simp [List.getD, List.getElem?_eq_getElem hlt]
          obtain ⟨hb1, hb2⟩ := hbd k
          have HST := Lib.hid hst
          clear hcells hcs hbd hfo HM hst
          generalize redF (ks, y) (T.take k) = X at *
          generalize T.getD k r0 = qq at *
          obtain ⟨⟨p, q⟩, z⟩ := qq
          obtain ⟨Xk, Xy⟩ := X
          dsimp only at hb1 hb2 c1 hq4
          rename_i wr
          have HB := HE.out.c.below
          have L0 := fun w' (h : Below wr.heap.size wr w') => cd_loadk HE.out.c.box h
          have LK : ∀ w', Below wr.heap.size wr w' → (loadVar 41 ⟨g, off + k * 3, none⟩).run Try.prog w' = .ok (.agg #[.int .i64 p, .int .i64 q]) w' := fun w' h => rdk_load (r := ((p, q), z)) c1 (w' := w') hg (HB.trans (h.mono HB.size))
          have HK := fun w' (h : Below wr.heap.size wr w') => shaskey_any (.slice aX nX cX) Xk (p, q) w' (keysAt_own (HE.out.next h).c.own) (by omega)
          unfold kv at HK
          have HKH := Lib.hid HK
          have C1 := Lib.hid c1
          have HG := Lib.hid hg
          clear HK c1 HB hg
          go_wp2
          refine wp_region_below wr (by kernel_rfl) (by kernel_rfl) (Below.refl _ _) ?_
          repeat (first
            | go_big_quiet_skip
            | (go_big_quiet_want
               first
                 | (go_big_quiet_op; go_big_quiet_on)
                 | (refine q_load 24 _ _ _ rfl rfl L0 ?_; simp only [Act.put, List.setIfInBounds_toArray, List.set_cons_zero, List.set_cons_succ]; go_big_quiet_on)
                 | (refine q_load 41 _ _ _ rfl rfl LK ?_; simp only [Act.put, List.setIfInBounds_toArray, List.set_cons_zero, List.set_cons_succ]; go_big_quiet_on)
                 | (go_big_quiet_op; refine ⟨_, fun _ _ => rfl, ?_⟩; go_big_quiet_on)
                 | (go_big_quiet_op; apply Exists.intro; refine ⟨fun w' hw' => ?_, ?_⟩
                    · first
                      | (with_reducible refine (HKH.out w' hw').mono ?_
                         rintro e w2 ⟨rfl, hb2⟩
                         exact ⟨rfl, hw'.trans (hb2.mono hw'.size)⟩)
                    go_big_quiet_on)))
          refine wpQuiet_nil ?_
          intro w5 hb5
          have HE5 := Lib.hid (HE.out.next hb5)
          clear hb5 L0 LK HKH HE
          have hss : redStep (Xk, Xy) ((p, q), z) = if hasKeyB Xk (p, q) then (mergeV false Xk [(p, q)], xorS Xy z) else (Xk, Xy) := rfl
          cases hhk : hasKeyB Xk (p, q) with
          | false =>
            have hs2 := HST.out
            rw [hss, hhk] at hs2
            have HS2 := Lib.hid hs2
            clear hs2 hss hhk HST
            go_wp2
            exact ⟨⟨k + 1, aX, nX, cX, by omega, by go_num, by rw [HS2.out]; exact HE5.out⟩, by simp [intOf]; omega⟩
          | true =>
            have hs2 := HST.out
            rw [hss, hhk] at hs2
            have HS2 := Lib.hid hs2
            clear hs2 hss hhk HST
            have hB5 := HE5.out.c.below
            obtain ⟨b0, b1, bf0, bf1⟩ := row2_of HE5.out.c.box
            have k0 : w5.cell? ⟨g, off + k * 3, none⟩ = some (.int .i64 p) := (hB5.cell (p := ⟨g, off + k * 3, none⟩) HG.out).trans C1.out.1
            have k1 : w5.cell? ⟨g, off + k * 3 + 1, none⟩ = some (.int .i64 q) := (hB5.cell (p := ⟨g, off + k * 3 + 1, none⟩) HG.out).trans C1.out.2.1
            have hgl : g < w5.heap.size := Nat.lt_of_lt_of_le HG.out hB5.size
            have hl5 := (Array.getElem?_eq_some_iff.1 HE5.out.c.box).1
            have hk5 := HE5.out.next ((Below.refl w5.heap.size w5).alloc (Nat.le_refl _) (.cells #[.int .i64 p, .int .i64 q] 41)).drew
            have ho5 := (own_one (w := w5) (base := w5.heap.size) p q (Nat.le_refl _)).drew
            have SP := Lib.hid (sparted_any (.slice aX nX cX) (.slice (some ⟨w5.heap.size, 0, none⟩) 1 1) Xk [(p, q)] _ (keysAt_own hk5.c.own) (keysAt_own ho5) (by omega) (by simp))
            have HE6 := Lib.hid hk5
            have HL6 := Lib.hid (show b5 + 1 ≤ ((w5.alloc (.cells #[.int .i64 p, .int .i64 q] 41)).drew).heap.size by show b5 + 1 ≤ (w5.alloc _).heap.size; simp; omega)
            generalize mergeV false Xk [(p, q)] = M at *
            clear hB5 hk5 ho5
            go_wp2_with fail
            go_region_law (first
              | (go_simp
                 go_at_call 49
                 refine SP.out.mono ?_
                 rintro e w6 ⟨v6, rfl, ho6, hb6⟩
                 dsimp only
                 have HE7 := Lib.hid (HE6.out.next hb6)
                 have HO7 := Lib.hid (own_base ho6 HL6.out)
                 obtain ⟨a6, n6, k6, rfl⟩ := own_shape ho6
                 have hr7 := row2_of HE7.out.c.box
                 obtain ⟨d0, d1, df0, df1⟩ := hr7
                 have hl7 := (Array.getElem?_eq_some_iff.1 HE7.out.c.box).1
                 clear ho6 hb6 b0 b1 bf0 bf1 k0 k1 hgl hl5 SP HE6 HL6))
            all_goals
              have HE8 := Lib.hid (RdE.setk (X := (Xk, Xy)) HE7.out HO7.out)
              clear HE7 HO7 d0 d1 df0 df1 hl7
              generalize w6.setCell ⟨b5, 0, none⟩ (.slice a6 n6 k6) = w7 at *
              obtain ⟨e0, e1, ef0, ef1⟩ := row2_of HE8.out.c.box
              have k2 : w7.cell? ⟨g, off + k * 3 + 2, none⟩ = some (.string z) := (HE8.out.c.below.cell (p := ⟨g, off + k * 3 + 2, none⟩) HG.out).trans C1.out.2.2
              have hl8 := (Array.getElem?_eq_some_iff.1 HE8.out.c.box).1
              have SX := Lib.hid (fun w' => sxor_any Xy z w' (by omega) (by omega))
              generalize xorS Xy z = Yn at *
              go_wp2_with fail
              go_region_law (first
                | (go_simp
                   go_at_call 50
                   refine (SX.out _).mono ?_
                   rintro e w8 ⟨rfl, hb8⟩
                   dsimp only
                   have HE9 := Lib.hid (RdE.next (RdE.next HE8.out (by first | exact Below.refl _ _ | exact (Below.refl _ _).drew)) hb8)
                   have hr9 := row2_of HE9.out.c.box
                   obtain ⟨d0, d1, df0, df1⟩ := hr9
                   have hl9 := (Array.getElem?_eq_some_iff.1 HE9.out.c.box).1
                   clear hb8 e0 e1 ef0 ef1 k2 hl8 SX HE8))
              all_goals
                have HE10 := Lib.hid (RdE.sets (X := (M, Xy)) HE9.out Yn)
                clear HE9 d0 d1 df0 df1 hl9
                go_wp2
                exact ⟨⟨k + 1, a6, n6, k6, by omega, by go_num, by rw [HS2.out]; exact HE10.out⟩, by simp [intOf]; omega⟩
        · obtain rfl : k = T.length := by omega
          rw [List.take_length] at HE
          clear hcells hbd hfo
          generalize redF (ks, y) T = X at *
          obtain ⟨Xk, Xy⟩ := X
          try dsimp only at *
          have HF := Lib.hid HE.out.fin
          have hF := HF.out
          obtain ⟨c0, c1, d0, d1, g0, g1, -, -⟩ := hF
          have hl5 := (Array.getElem?_eq_some_iff.1 HE.out.c.box).1
          have hlr := (Array.getElem?_eq_some_iff.1 HE.out.c.res).1
          go_wp2_with fail
          refine bodyPost_ret (v := .agg #[.slice aX nX cX, .string Xy]) ?_ rfl ⟨_, by rw [HM.out], by rw [HM.out]; exact HF.out.fin.1, HF.out.fin.2⟩
          rw [results_cell (p := 4) (ty := 26) (by kernel_rfl)]
          have l2 := HF.out.load
          simp [asAddr, Result.andThen, l2]
end Go.Proofs.Ytnknfmjpkphbpaa
/- Readings in the laws: two, and lists of them, held against each other. -/
namespace Go.Proofs.Ytnknfmjpkphbpaa
open Go.ChangeShapes Go.WideShapes Go.ChangeAt Go.RowKit Go.BigFrame
set_option linter.unusedVariables false

set_option maxHeartbeats 1000000 in
theorem eqreading_any (p q : R3) (w : World) : Calls Try.prog 75 #[rv p, rv q] w fun e w' => e = .returned (.bool (decide (p = q))) ∧ Below w.heap.size w w' := by
  obtain ⟨⟨a, b⟩, s⟩ := p; obtain ⟨⟨c, d⟩, t⟩ := q
  unfold rv
  dsimp only
  have hb : Below w.heap.size w ((w.alloc (.cells #[.int .i64 a, .int .i64 b, .string s] 43)).alloc (.cells #[.int .i64 c, .int .i64 d, .string t] 43)) := ((Below.refl _ _).alloc (Nat.le_refl _) _).alloc (by simp) _
  have f1 := heap_first w (.cells #[.int .i64 c, .int .i64 d, .string t] 43) (.cells #[.int .i64 a, .int .i64 b, .string s] 43)
  have f2 : ((w.alloc (.cells #[.int .i64 a, .int .i64 b, .string s] 43)).alloc (.cells #[.int .i64 c, .int .i64 d, .string t] 43)).heap[w.heap.size + 1]? = some (.cells #[.int .i64 c, .int .i64 d, .string t] 43) := by
    have := heap_alloc_new (w.alloc (.cells #[.int .i64 a, .int .i64 b, .string s] 43)) (.cells #[.int .i64 c, .int .i64 d, .string t] 43)
    simpa using this
  have hz : ((w.alloc (.cells #[.int .i64 a, .int .i64 b, .string s] 43)).alloc (.cells #[.int .i64 c, .int .i64 d, .string t] 43)).heap.size = w.heap.size + 1 + 1 := by simp
  have HE := fun w => eqkey_any (a, b) (c, d) w
  go_enter Try.func75, Try.ntmps75
  go_wp2_with fail
  generalize ((w.alloc (.cells #[.int .i64 a, .int .i64 b, .string s] 43)).alloc (.cells #[.int .i64 c, .int .i64 d, .string t] 43)) = W at *
  have cs : W.cell? ⟨w.heap.size, 2, none⟩ = some (.string s) := by rw [cell_of_row _ _ 2 _ _ _ f1]; rfl
  have ct : W.cell? ⟨w.heap.size + 1, 2, none⟩ = some (.string t) := by rw [cell_of_row _ _ 2 _ _ _ f2]; rfl
  refine (HE _).mono ?_
  rintro e w1 ⟨rfl, hb1⟩
  have cs1 := (hb1.cell (p := ⟨w.heap.size, 2, none⟩) (by rw [hz]; dsimp only; omega)).trans cs
  have ct1 := (hb1.cell (p := ⟨w.heap.size + 1, 2, none⟩) (by rw [hz]; dsimp only; omega)).trans ct
  have hB := hb.trans (hb1.mono hb.size)
  clear f1 f2 cs ct HE hb hb1 hz
  by_cases hk : (a, b) = (c, d)
  · have e1 : ((a, b) == (c, d)) = true := by rw [hk]; exact beq_self_eq_true _
    rw [e1]
    by_cases h3 : s = t
    · have e2 : s.toList = t.toList := by rw [h3]
      have e3 : decide (((a, b), s) = ((c, d), t)) = true := by rw [hk, h3]; simp
      have e4 : (s == t) = true := by rw [Go.beq_toListBytes, e2]; simp
      have E3 := Lib.hid e3
      clear e1 hk h3 e3
      go_wp2
      go_ret
      exact ⟨by rw [E3.out]; rfl, hB⟩
    · have e2 : ¬ s.toList = t.toList := fun h => h3 ((bytes_toList_iff _ _).1 h)
      have e3 : decide (((a, b), s) = ((c, d), t)) = false := by simp [h3]
      have e4 : (s.toList == t.toList) = false := beq_eq_false_iff_ne.2 e2
      have E3 := Lib.hid e3
      clear e1 hk h3 e3
      go_wp2
      go_ret
      exact ⟨by rw [E3.out]; rfl, hB⟩
  · have e1 : ((a, b) == (c, d)) = false := beq_eq_false_iff_ne.2 hk
    have e3 : decide (((a, b), s) = ((c, d), t)) = false := by
      rw [decide_eq_false_iff_not]; intro h; exact hk (Prod.mk.inj h).1
    rw [e1]
    have E3 := Lib.hid e3
    clear e1 e3 hk
    go_wp2
    go_ret
    exact ⟨by rw [E3.out]; rfl, hB⟩
set_option maxRecDepth 100000 in
set_option maxHeartbeats 1000000 in
theorem eqreadings_any (va vb : Value) (A B : List R3) (w : World) (ha : rdAt w va A) (hb : rdAt w vb B) (hsA : A.length ≤ 4000000) (hsB : B.length ≤ 4000000) :
    Calls Try.prog 41 #[va, vb] w fun e w' => e = .returned (.bool (decide (A = B))) ∧ Below w.heap.size w w' := by
  obtain ⟨aa, ca, rfl, hca, hcA⟩ := ha
  obtain ⟨ab, cb, rfl, hcb, hcB⟩ := hb
  by_cases hl : A.length = B.length
  · have e0 : (A.length : Int) = (B.length : Int) := by omega
    go_enter Try.func41, Try.ntmps41
    rw [hl] at hca hcA ⊢
    go_wp2
    go_loopw [5] (fun i wr => ∃ k : Nat, k ≤ B.length ∧ i = .int .i64 k ∧ (∀ j, j < k → A.getD j r0 = B.getD j r0) ∧ Below w.heap.size w wr) (fun i _ => B.length - (intOf i).toNat)
    case atStart => exact ⟨0, Nat.zero_le _, rfl, fun j hj => by omega, Below.refl _ _⟩
    case round =>
      obtain ⟨k, hk, rfl, hall, hbr⟩ := hrel
      by_cases hlt : k < B.length
      · obtain ⟨ga, offa, rfl, hga, hcsA⟩ := hcA.resolve_left (by omega)
        obtain ⟨gb, offb, rfl, hgb, hcsB⟩ := hcB.resolve_left (by omega)
        have cA := hcsA k hlt
        have cB := hcsB k hlt
        have z0 : (0 : Int) ≤ (k : Int) := by omega
        have z1 : (k : Int) < (B.length : Int) := by omega
        clear hcsA hcsB hcA hcB
        have L1 : ∀ w', Below w.heap.size w w' → (loadVar 43 ⟨ga, offa + k * 3, none⟩).run Try.prog w' = .ok (rv (A.getD k r0)) w' := fun w' h => rd_load cA hga h
        have L2 : ∀ w', Below w.heap.size w w' → (loadVar 43 ⟨gb, offb + k * 3, none⟩).run Try.prog w' = .ok (rv (B.getD k r0)) w' := fun w' h => rd_load cB hgb h
        have HE := Lib.hid (fun w => eqreading_any (A.getD k r0) (B.getD k r0) w)
        clear cA cB
        cases he : decide (A.getD k r0 = B.getD k r0) with
        | true =>
          have hn : ∀ j, j < k + 1 → A.getD j r0 = B.getD j r0 := by
            intro j hj
            rcases (by omega : j < k ∨ j = k) with h1 | rfl
            · exact hall j h1
            · exact of_decide_eq_true he
          have HN := Lib.hid hn
          rw [he] at HE
          clear hall hn
          generalize A.getD k r0 = kx at *
          generalize B.getD k r0 = ky at *
          go_wp2
          refine wp_region_below w (by kernel_rfl) (by kernel_rfl) hbr ?_
          repeat (first
            | go_big_quiet_skip
            | (go_big_quiet_want
               first
                 | (go_big_quiet_op; go_big_quiet_on)
                 | (refine q_load 43 _ _ _ rfl rfl L1 ?_; simp only [Act.put, List.setIfInBounds_toArray, List.set_cons_zero, List.set_cons_succ]; go_big_quiet_on)
                 | (refine q_load 43 _ _ _ rfl rfl L2 ?_; simp only [Act.put, List.setIfInBounds_toArray, List.set_cons_zero, List.set_cons_succ]; go_big_quiet_on)
                 | (go_big_quiet_op; refine ⟨_, fun _ _ => rfl, ?_⟩; go_big_quiet_on)
                 | (go_big_quiet_op; apply Exists.intro; refine ⟨fun w' hw' => ?_, ?_⟩
                    · first
                      | (refine (HE.out w').mono ?_
                         rintro e w2 ⟨rfl, hb2⟩
                         exact ⟨rfl, hw'.trans (hb2.mono hw'.size)⟩)
                    go_big_quiet_on)))
          refine wpQuiet_nil ?_
          intro w2 hb2
          clear L1 L2 HE hbr
          go_wp2
          exact ⟨⟨k + 1, by omega, by go_num, HN.out, hb2⟩, by simp [intOf]; omega⟩
        | false =>
          have hne : decide (A = B) = false := by
            simp only [decide_eq_false_iff_not]
            intro e
            subst e
            simp at he
          have HD := Lib.hid hne
          rw [he] at HE
          clear hall hne
          generalize A.getD k r0 = kx at *
          generalize B.getD k r0 = ky at *
          go_wp2
          refine wp_region_below w (by kernel_rfl) (by kernel_rfl) hbr ?_
          repeat (first
            | go_big_quiet_skip
            | (go_big_quiet_want
               first
                 | (go_big_quiet_op; go_big_quiet_on)
                 | (refine q_load 43 _ _ _ rfl rfl L1 ?_; simp only [Act.put, List.setIfInBounds_toArray, List.set_cons_zero, List.set_cons_succ]; go_big_quiet_on)
                 | (refine q_load 43 _ _ _ rfl rfl L2 ?_; simp only [Act.put, List.setIfInBounds_toArray, List.set_cons_zero, List.set_cons_succ]; go_big_quiet_on)
                 | (go_big_quiet_op; refine ⟨_, fun _ _ => rfl, ?_⟩; go_big_quiet_on)
                 | (go_big_quiet_op; apply Exists.intro; refine ⟨fun w' hw' => ?_, ?_⟩
                    · first
                      | (refine (HE.out w').mono ?_
                         rintro e w2 ⟨rfl, hb2⟩
                         exact ⟨rfl, hw'.trans (hb2.mono hw'.size)⟩)
                    go_big_quiet_on)))
          refine wpQuiet_nil ?_
          intro w2 hb2
          clear L1 L2 HE hbr
          go_wp2
          go_ret
          exact ⟨by rw [HD.out]; rfl, hb2⟩
      · obtain rfl : k = B.length := by omega
        have he : decide (A = B) = true := by
          simp only [decide_eq_true_eq]
          apply List.ext_getElem hl
          intro i h1 h2
          have := hall i h2
          simpa [List.getD, h1, h2] using this
        have HD := Lib.hid he
        clear hall he
        go_wp2
        go_ret
        exact ⟨by rw [HD.out]; rfl, hbr⟩
  · have hne : decide (A = B) = false := by simp only [decide_eq_false_iff_not]; intro e; subst e; exact hl rfl
    have HD := Lib.hid hne
    have e0 : ¬ (A.length : Int) = (B.length : Int) := by omega
    clear hne
    go_enter Try.func41, Try.ntmps41
    go_wp2
    go_ret
    exact ⟨by rw [HD.out]; rfl, Below.refl _ _⟩
end Go.Proofs.Ytnknfmjpkphbpaa
/- Lists of readings in the laws: held against themselves. -/
namespace Go.Proofs.Ytnknfmjpkphbpaa
open Go.ChangeShapes Go.WideShapes Go.ChangeAt Go.RowKit Go.BigFrame
set_option linter.unusedVariables false

theorem eqrds_self (va vb : Value) (A : List R3) (w : World) (ha : rdAt w va A) (hb : rdAt w vb A) (hs : A.length ≤ 4000000) : Calls Try.prog 41 #[va, vb] w fun e w' => e = .returned (.bool true) ∧ Below w.heap.size w w' := by
  have h := eqreadings_any va vb A A w ha hb hs hs
  rw [show decide (A = A) = true from decide_eq_true rfl] at h
  exact h
theorem rd_sizes {rs : List R3} {m : Nat} (h : ∀ j, j < rs.length → ((rs.getD j r0).2.size : Int) ≤ m) : ∀ r ∈ rs, r.2.size ≤ m := by
  intro r hr
  obtain ⟨i, hi, rfl⟩ := List.getElem_of_mem hr
  have := h i hi
  simp [List.getD, hi] at this
  exact this
end Go.Proofs.Ytnknfmjpkphbpaa
/- The laws' marks: a number's text. -/
namespace Go.Proofs.Ytnknfmjpkphbpaa
open Go.ChangeShapes Go.WideShapes Go.ChangeAt Go.RowKit
set_option linter.unusedVariables false

/-- the digits of a mark, by as many rounds as are left -/
def mloop : Nat → Nat → List UInt8 → List UInt8
  | 0, _, o => o
  | f + 1, k, o => if k = 0 then o else mloop f (k / 10) (UInt8.ofNat (48 + k % 10) :: o)
def mtext (k : Nat) : ByteArray := ⟨(109 :: mloop k k []).toArray⟩
theorem mloop_len : ∀ (f k : Nat) (o : List UInt8), (mloop f k o).length ≤ f + o.length
  | 0, _, o => by simp [mloop]
  | f + 1, k, o => by
    unfold mloop; split
    · omega
    · have := mloop_len f (k / 10) (UInt8.ofNat (48 + k % 10) :: o); rw [List.length_cons] at this; omega

theorem str_add (a : List UInt8) (b : List UInt8) : (⟨a.toArray⟩ : ByteArray) ++ (⟨b.toArray⟩ : ByteArray) = ⟨(a ++ b).toArray⟩ := by
  apply ByteArray.ext; simp

theorem strOne (n : Nat) (l : List UInt8) : strOfNums [48 + (n : Int) % 10] ++ (⟨l.toArray⟩ : ByteArray) = ⟨(UInt8.ofNat (48 + n % 10) :: l).toArray⟩ := by
  have e : (48 + (n : Int) % 10).toNat = 48 + n % 10 := by omega
  have : strOfNums [48 + (n : Int) % 10] = ⟨[UInt8.ofNat (48 + n % 10)].toArray⟩ := by unfold strOfNums; rw [List.map_cons, e]; rfl
  rw [this, str_add]; rfl
theorem mloop_step {f n : Nat} (l : List UInt8) (hf : 1 ≤ f) (h0 : n ≠ 0) : mloop (f - 1) (n / 10) (UInt8.ofNat (48 + n % 10) :: l) = mloop f n l := by
  obtain ⟨g, rfl⟩ : ∃ g, f = g + 1 := ⟨f - 1, by omega⟩
  simp only [Nat.add_sub_cancel]
  conv => rhs; unfold mloop
  rw [if_neg h0]
set_option maxHeartbeats 400000 in
theorem mtext_any (k : Nat) (w : World) (h1 : 1 ≤ k) (h2 : k ≤ 4000000) :
    Calls Try.prog 76 #[.int .i64 k] w fun e w' => e = .returned (.string (mtext k)) ∧ Below w.heap.size w w' := by
  go_enter Try.func76, Try.ntmps76
  go_wp2
  go_loopw [0, 3] (fun q o wr => ∃ (f n : Nat) (l : List UInt8), q = .int .i64 n ∧ o = .string ⟨l.toArray⟩ ∧ n ≤ f ∧ n ≤ k ∧ l.length + f ≤ 4000000 ∧ mloop f n l = mloop k k [] ∧ Below w.heap.size w wr)
    (fun q _ _ => (intOf q).toNat)
  case atStart => exact ⟨k, k, [], rfl, rfl, Nat.le_refl _, Nat.le_refl _, by simpa using h2, rfl, Below.refl _ _⟩
  case round =>
    obtain ⟨f, n, l, rfl, rfl, hnf, hnk, hll, hm, hnx⟩ := hrel
    have HM := Lib.hid hm; clear hm
    by_cases h0 : n = 0
    · subst h0
      have hl : mloop k k [] = l := by rw [← HM.out]; cases f <;> simp [mloop]
      have HL := Lib.hid hl; clear hl
      go_wp2
      go_ret
      exact ⟨by rw [show mtext k = ⟨(109 :: mloop k k []).toArray⟩ from rfl, HL.out]; rfl, hnx⟩
    · have hf : 1 ≤ f := by omega
      have hcv := fun (X : Int) => run_convert_bytes_arg (P := Try.prog) (wr.alloc (.cells #[.int .u8 X] 5)) 22 5 Try.underlying22 Try.underlying5 wr.heap.size 0 1 1 [X] rfl (fun i hi => by
        obtain rfl : i = 0 := by omega
        simp) 9 Try.underlying9
      have hs1 : ∀ X, (strOfNums [X]).size = 1 := fun X => rfl
      have hs2 : (⟨l.toArray⟩ : ByteArray).size = l.length := by simp [ByteArray.size]
      go_wp2
      exact ⟨⟨f - 1, n / 10, UInt8.ofNat (48 + n % 10) :: l, by go_num, by rw [strOne], by omega, by omega, by rw [List.length_cons]; omega, by rw [mloop_step l hf h0]; exact HM.out, hnx.alloc hnx.size _⟩, by simp [intOf]; omega⟩

end Go.Proofs.Ytnknfmjpkphbpaa
/- Readings in the laws: lists marked, and held. -/
namespace Go.Proofs.Ytnknfmjpkphbpaa
open Go.ChangeShapes Go.WideShapes Go.ChangeAt Go.RowKit Go.BigFrame
set_option linter.unusedVariables false

def rdMark (m i : Nat) : R3 := ((((m + 3 * i : Nat) : Int), ((m + 3 * i + 1 : Nat) : Int)), mtext (m + 3 * i + 2))
def rdMarked (n m : Nat) : List R3 := (List.range n).map (rdMark m)
theorem rdMarked_len (n m : Nat) : (rdMarked n m).length = n := by simp [rdMarked]
theorem rdMarked_get (n m i : Nat) (h : i < n) : (rdMarked n m).getD i r0 = rdMark m i := by
  simp [rdMarked, List.getD, h]
theorem rdMarked_succ (k m : Nat) : rdMarked (k + 1) m = rdMarked k m ++ [rdMark m k] := by
  simp [rdMarked, List.range_succ]
theorem set_rdmark (k m : Nat) (u1 u2 u3 : Value) (rest : List Value) :
    (((rdCells (rdMarked k m) ++ u1 :: u2 :: u3 :: rest).set (k * 3) (.int .i64 ((m + 3 * k : Nat) : Int))).set (k * 3 + 1) (.int .i64 ((m + 3 * k + 1 : Nat) : Int))).set (k * 3 + 2) (.string (mtext (m + 3 * k + 2))) = rdCells (rdMarked (k + 1) m) ++ rest := by
  have hl := rdCells_len (rdMarked k m)
  rw [rdMarked_len] at hl
  rw [rdMarked_succ, rdCells_snoc]
  rw [List.set_append_right _ _ (by omega), hl, Nat.sub_self, List.set_cons_zero, List.set_append_right _ _ (by omega), hl, show k * 3 + 1 - k * 3 = 1 by omega, List.set_append_right _ _ (by omega), hl, show k * 3 + 2 - k * 3 = 2 by omega]
  simp [rdMark]
set_option maxRecDepth 100000 in
set_option maxHeartbeats 1000000 in
theorem markreadings_any (base : Nat) (v : Value) (n : Nat) (xs : List Value) (m : Nat) (w : World) (h : w.ownsRow base 43 3 v n xs) (hm : 1 ≤ m ∧ m + 3 * n ≤ 4000000) (hb0 : base ≤ w.heap.size) :
    Calls Try.prog 42 #[v, .int .i64 m] w fun e w' => e = .returned (.int .i64 ((m + 3 * n : Nat) : Int)) ∧ w'.ownsRow base 43 3 v n (rdCells (rdMarked n m)) ∧ w.grownBy w' v.ownBlock := by
  rcases ownsRowK_shape h with ⟨rfl, rfl⟩ | ⟨g, cap, rfl, hnc, hcm, hbg, hgs⟩
  · have ho : w.ownsRow base 43 3 (.slice none 0 0) 0 (rdCells (rdMarked 0 m)) := ⟨by simp [rdMarked, rdCells], .inl ⟨rfl, rfl⟩⟩
    go_enter Try.func42, Try.ntmps42
    go_wp2
    go_loopw [1, 5] (fun c i wr => c = .int .i64 m ∧ i = .int .i64 0 ∧ wr = w) (fun _ _ _ => 0)
    case atStart => exact ⟨rfl, rfl, rfl⟩
    case round =>
      obtain ⟨rfl, rfl, rfl⟩ := hrel
      go_wp2
      go_ret
      exact ⟨rfl, ho, World.grownBy.refl _ _⟩
  · have hxl := h.1
    go_enter Try.func42, Try.ntmps42
    go_wp2
    go_loopw [1, 5] (fun c i wr => ∃ (k : Nat) (rest : List Value), k ≤ n ∧ i = .int .i64 k ∧ c = .int .i64 ((m + 3 * k : Nat) : Int) ∧ wr.ownsRow base 43 3 (.slice (some ⟨g, 0, none⟩) n cap) n (rdCells (rdMarked k m) ++ rest) ∧ w.grownBy wr (some g))
      (fun _ i _ => n - (intOf i).toNat)
    case atStart => exact ⟨0, xs, Nat.zero_le _, rfl, rfl, by simpa [rdMarked, rdCells] using h, World.grownBy.refl _ _⟩
    case round =>
      obtain ⟨k, rest, hk, rfl, rfl, hown, hgr⟩ := hrel
      clear h
      by_cases hlt : k < n
      · have z0 : (0 : Int) ≤ (k : Int) := by omega
        have z1 : (k : Int) < (n : Int) := by omega
        have hkl := rdCells_len (rdMarked k m)
        rw [rdMarked_len] at hkl
        have hrl : rest.length = (n - k) * 3 := by
          have := hown.1
          rw [List.length_append, hkl] at this
          omega
        obtain ⟨u1, u2, u3, rest2, rfl⟩ : ∃ u1 u2 u3 r, rest = u1 :: u2 :: u3 :: r := by
          match rest, hrl with
          | [], h => simp at h; omega
          | [_], h => simp at h; omega
          | [_, _], h => simp at h; omega
          | a :: b :: c :: r, _ => exact ⟨a, b, c, r, rfl⟩
        have e1 : ((m + 3 * k : Nat) : Int) + 1 = ((m + 3 * k + 1 : Nat) : Int) := by omega
        have e2 : ((m + 3 * k + 1 : Nat) : Int) + 1 = ((m + 3 * k + 2 : Nat) : Int) := by omega
        have b1 : ((m + 3 * k + 2 : Nat) : Int) ≤ 4000000 := by omega
        have MT := Lib.hid (fun w => mtext_any (m + 3 * k + 2) w (by omega) (by omega))
        have hq := set_rdmark k m u1 u2 u3 rest2
        generalize hc1 : ((m + 3 * k : Nat) : Int) = C1 at *
        generalize hc2 : ((m + 3 * k + 1 : Nat) : Int) = C2 at *
        generalize hc3 : ((m + 3 * k + 2 : Nat) : Int) = C3 at *
        obtain ⟨s1, s2⟩ := own_cell hown (k * 3) (by omega)
        have st1 := hown.stored (k * 3) (.int .i64 C1)
        obtain ⟨s3, s4⟩ := own_cell st1.1 (k * 3 + 1) (by omega)
        have st2 := st1.1.stored (k * 3 + 1) (.int .i64 C2)
        have R1 := Lib.hid (And.intro st2.1 (grown_trans hgr (grown_trans st1.2 st2.2)))
        have HQ := Lib.hid hq
        have bq : 0 ≤ C1 ∧ C1 ≤ 4000000 := by omega
        clear st1 st2 hown hgr hrl hkl hq
        go_wp2_with fail
        first
          | refine (MT.out _).mono ?_
          | (rw [e1, e2]; refine (MT.out _).mono ?_)
        rintro e w2 ⟨rfl, hb2⟩
        have hown2 := own_below R1.out.1 hb2
        have st3 := hown2.stored (k * 3 + 2) (.string (mtext (m + 3 * k + 2)))
        obtain ⟨s5, s6⟩ := own_cell hown2 (k * 3 + 2) (by omega)
        rw [HQ.out] at st3
        have hg2 := grown_trans R1.out.2 (grown_trans (grown_of_below' hb2 (some g)) st3.2)
        have R2 := Lib.hid (And.intro st3.1 hg2)
        have e3 : C3 + 1 = ((m + 3 * (k + 1) : Nat) : Int) := by omega
        have e4 : C1 + 1 + 1 + 1 = ((m + 3 * (k + 1) : Nat) : Int) := by omega
        generalize hc4 : ((m + 3 * (k + 1) : Nat) : Int) = C4 at *
        clear st3 hown2 hg2 hb2 R1 HQ MT s1 s2 s3 s4
        go_wp2
        exact ⟨⟨k + 1, rest2, by omega, by go_num, by rw [hc4], R2.out.1, R2.out.2⟩, by simp [intOf]; omega⟩
      · obtain rfl : k = n := by omega
        have hr0 : rest = [] := by
          have h1 := hown.1
          rw [List.length_append, rdCells_len, rdMarked_len] at h1
          exact List.eq_nil_of_length_eq_zero (by omega)
        subst hr0
        rw [List.append_nil] at hown
        go_wp2
        go_ret
        exact ⟨rfl, hown, hgr⟩
end Go.Proofs.Ytnknfmjpkphbpaa
/- Words and readings: the exact laws of Holds and Reduced, walked. -/
namespace Go.Proofs.Ytnknfmjpkphbpaa
open Go.ChangeShapes Go.WideShapes Go.ChangeAt Go.RowKit Go.BigFrame
set_option linter.unusedVariables false

theorem red_len2 (x : C2) (T : List R3) : (redM x T).1.length ≤ x.1.length := by
  by_cases h : codeOkB x = true ∧ rdsOkR T = true
  · exact red_len h.1 h.2
  · unfold redM; rw [if_neg h]; exact Nat.le_refl _
theorem szC_eq (left : Int) (n m : Nat) : 0 ≤ szC left n m → szC left n m = left - (n : Int) - (m : Int) := by
  unfold szC
  split
  · intro h; omega
  · split
    · intro h; omega
    · intro _; rfl
set_option maxRecDepth 100000 in
set_option maxHeartbeats 4000000 in
theorem exholds_walk (v : Value) (ks : List K2) (y : ByteArray) (vt : Value) (T : List R3) (w : World) (h : keysAt w v ks) (hn : ks.length ≤ maxLen) (hy : y.size ≤ maxLen) (h2 : rdAt w vt T) (hn2 : T.length ≤ maxLen) (hx2 : ∀ j, j < T.length → (T.getD j r0).2.size ≤ maxLen) :
    Calls Try.prog 11 #[.agg #[v, .string y], vt] w fun e w' => e = .returned (.bool true) ∧ Below w.heap.size w w' := by
  unfold maxLen at hn hy hn2 hx2
  have HB := Lib.hid ((Below.refl w.heap.size w).alloc (Nat.le_refl _) (.cells #[v, .string y] 50))
  have RA := Lib.hid (heap_alloc_new w (.cells #[v, .string y] 50))
  have TC := Lib.hid (fun w' (hb : Below w.heap.size w w') (hl : ks.length ≤ 1048576) => tocode_any v ks y w' (keysAt_below h hb) (by omega))
  have TR := Lib.hid (fun w' (hb : Below w.heap.size w w') (hl : T.length ≤ 1048576) => toreadings_any vt T w' (rdAt_below h2 hb) (by omega))
  have SZ2 := Lib.hid (fun w' (hb : Below w.heap.size w w') x (hx : 0 ≤ x ∧ x ≤ 1000000000) => szreadings_any vt T x w' (rdAt_below h2 hb) hx hn2 hx2)
  obtain ⟨a, cap, rfl, -, -⟩ := h
  have SZ := Lib.hid (fun w' => szcode_any (.slice a ks.length cap) ks y 1048576 w' ⟨a, cap, rfl⟩ (by omega) hn hy)
  obtain ⟨at2, cap2, rfl, -, -⟩ := h2
  go_enter Try.func11, Try.ntmps11
  obtain ⟨Ac0, Ac1, -, -⟩ := row2_of RA.out
  go_wp2_with fail
  generalize w.alloc (.cells #[.slice a ks.length cap, .string y] 50) = W at *
  refine (SZ.out _).mono ?_
  rintro e w1 ⟨rfl, hb⟩
  replace HB := Lib.hid (HB.out.trans (hb.mono HB.out.size))
  replace RA := Lib.hid ((hb.block _ (Array.getElem?_eq_some_iff.1 RA.out).1).trans RA.out)
  clear hb SZ Ac0 Ac1
  have hse := szC_eq 1048576 ks.length y.size
  rcases szC_cases 1048576 ks.length y.size (by omega) with hneg | ⟨hneg, h0, h1, hl0, hy0⟩
  · generalize szC 1048576 ks.length y.size = x at *
    clear hse
    go_wp2
    go_ret
    exact ⟨rfl, HB.out⟩
  have HSE := Lib.hid (hse h0)
  clear hse
  generalize szC 1048576 ks.length y.size = x at *
  have HXX := Lib.hid (show 0 ≤ x ∧ x ≤ 1000000000 by omega)
  go_wp2_with fail
  refine (SZ2.out _ HB.out x HXX.out).mono ?_
  rintro e w2 ⟨x2, rfl, hr, hb⟩
  replace HB := Lib.hid (HB.out.trans (hb.mono HB.out.size))
  replace RA := Lib.hid ((hb.block _ (Array.getElem?_eq_some_iff.1 RA.out).1).trans RA.out)
  clear hb SZ2
  by_cases hneg2 : x2 < 0
  · clear hr
    go_wp2
    go_ret
    exact ⟨rfl, HB.out⟩
  have hl : ks.length ≤ 1048576 := by omega
  have hy2 : y.size ≤ 1048576 := by omega
  have hse := HSE.out
  have hlT : T.length ≤ 1048576 := by rcases hr with rfl | ⟨h1, h2, h3⟩ <;> omega
  have hlS : ks.length + T.length ≤ 1048576 := by rcases hr with rfl | ⟨h1, h2, h3⟩ <;> omega
  have hzT : ∀ r ∈ T, r.2.size ≤ 1048576 := by
    rcases hr with rfl | ⟨h1, h2, h3⟩
    · omega
    · exact rd_sizes (m := 1048576) (fun j hj => by have := h3 j hj; omega)
  have HZT := Lib.hid hzT
  clear hr hzT hse hl0 hy0 HSE HXX
  have SC := Lib.hid (fun w' va vb (ha : keysAt w' va ks) (hb : rdAt w' vb T) => sholds_any va ks y vb T w' ha hb (by omega) (by omega))
  have IC := Lib.hid (fun w' va vb (ha : keysAt w' va ks) (hb : rdAt w' vb T) => iholds_any va ks y vb T w' ha hb (by omega) (by omega) (fun r hr => by have := HZT.out r hr; omega))
  generalize holdsM (ks, y) T = bo at *
  obtain ⟨Ac0, Ac1, -, -⟩ := row2_of RA.out
  go_wp2_with fail
  refine (TC.out _ HB.out hl).mono ?_
  rintro e w1_ ⟨vs, rfl, ho, hb⟩
  obtain ⟨sas, sns, sks, rfl⟩ := own_shape ho
  have NEsA := Lib.hid (own_ne_row (b := w.heap.size) ho (Array.getElem?_eq_some_iff.1 RA.out).1)
  have Os := Lib.hid (own_base ho HB.out.size)
  clear ho
  replace HB := Lib.hid (HB.out.trans (hb.mono HB.out.size))
  replace RA := Lib.hid ((hb.block _ (Array.getElem?_eq_some_iff.1 RA.out).1).trans RA.out)
  replace NEsA := Lib.hid (NEsA.out)
  clear hb
  clear Ac0 Ac1
  go_wp2_with fail
  refine (TR.out _ HB.out hlT).mono ?_
  rintro e w2_ ⟨gt, rfl, -, ho, hb⟩
  have NEtA := Lib.hid (own_ne_row (b := w.heap.size) ho (Array.getElem?_eq_some_iff.1 RA.out).1)
  have Ot := Lib.hid (own_base ho HB.out.size)
  clear ho
  replace HB := Lib.hid (HB.out.trans (hb.mono HB.out.size))
  replace RA := Lib.hid ((hb.block _ (Array.getElem?_eq_some_iff.1 RA.out).1).trans RA.out)
  replace NEsA := Lib.hid (NEsA.out)
  replace Os := Lib.hid (own_below Os.out hb)
  replace NEtA := Lib.hid (NEtA.out)
  clear hb
  go_wp2_with fail
  refine (SC.out _ _ _ (keysAt_own Os.out) (rdAt_own Ot.out)).mono ?_
  rintro e w3_ ⟨rfl, hb⟩
  replace HB := Lib.hid (HB.out.trans (hb.mono HB.out.size))
  replace RA := Lib.hid ((hb.block _ (Array.getElem?_eq_some_iff.1 RA.out).1).trans RA.out)
  replace NEsA := Lib.hid (NEsA.out)
  replace Os := Lib.hid (own_below Os.out hb)
  replace NEtA := Lib.hid (NEtA.out)
  replace Ot := Lib.hid (own_below Ot.out hb)
  clear hb
  clear Os NEsA
  clear Ot NEtA
  obtain ⟨Ac0, Ac1, -, -⟩ := row2_of RA.out
  go_wp2_with fail
  refine (TC.out _ HB.out hl).mono ?_
  rintro e w4_ ⟨vx, rfl, ho, hb⟩
  obtain ⟨sax, snx, skx, rfl⟩ := own_shape ho
  have NExA := Lib.hid (own_ne_row (b := w.heap.size) ho (Array.getElem?_eq_some_iff.1 RA.out).1)
  have Ox := Lib.hid (own_base ho HB.out.size)
  clear ho
  replace HB := Lib.hid (HB.out.trans (hb.mono HB.out.size))
  replace RA := Lib.hid ((hb.block _ (Array.getElem?_eq_some_iff.1 RA.out).1).trans RA.out)
  replace NExA := Lib.hid (NExA.out)
  clear hb
  clear Ac0 Ac1
  have NExX := Lib.hid (own_ne_new Ox.out)
  replace HB := Lib.hid (HB.out.alloc HB.out.size (.cells #[.slice sax snx skx, .string y] 26))
  replace RA := Lib.hid ((Below.heap_alloc _ (.cells #[.slice sax snx skx, .string y] 26) _ (Array.getElem?_eq_some_iff.1 RA.out).1).trans RA.out)
  replace NExA := Lib.hid (NExA.out)
  replace Ox := Lib.hid (Ox.out.alloc (.cells #[.slice sax snx skx, .string y] 26))
  replace NExX := Lib.hid (NExX.out)
  have RX := Lib.hid (heap_alloc_new (w4_) (.cells #[.slice sax snx skx, .string y] 26))
  go_wp2_with fail
  generalize World.alloc (w4_) (.cells #[.slice sax snx skx, .string y] 26) = w5_ at *
  generalize (w4_).heap.size = bX at *
  refine (TR.out _ HB.out hlT).mono ?_
  rintro e w6_ ⟨gu, rfl, -, ho, hb⟩
  have NEuA := Lib.hid (own_ne_row (b := w.heap.size) ho (Array.getElem?_eq_some_iff.1 RA.out).1)
  have NEuX := Lib.hid (own_ne_row (b := bX) ho (Array.getElem?_eq_some_iff.1 RX.out).1)
  have Ou := Lib.hid (own_base ho HB.out.size)
  clear ho
  replace HB := Lib.hid (HB.out.trans (hb.mono HB.out.size))
  replace RA := Lib.hid ((hb.block _ (Array.getElem?_eq_some_iff.1 RA.out).1).trans RA.out)
  replace NExA := Lib.hid (NExA.out)
  replace Ox := Lib.hid (own_below Ox.out hb)
  replace NExX := Lib.hid (NExX.out)
  replace RX := Lib.hid ((hb.block _ (Array.getElem?_eq_some_iff.1 RX.out).1).trans RX.out)
  replace NEuA := Lib.hid (NEuA.out)
  replace NEuX := Lib.hid (NEuX.out)
  clear hb
  obtain ⟨Xc0, Xc1, -, -⟩ := row2_of RX.out
  go_wp2_with fail
  refine (IC.out _ _ _ (keysAt_own Ox.out) (rdAt_own Ou.out)).mono ?_
  rintro e w7_ ⟨rfl, hb⟩
  replace HB := Lib.hid (HB.out.trans (hb.mono HB.out.size))
  replace RA := Lib.hid ((hb.block _ (Array.getElem?_eq_some_iff.1 RA.out).1).trans RA.out)
  replace NExA := Lib.hid (NExA.out)
  replace Ox := Lib.hid (own_below Ox.out hb)
  replace NExX := Lib.hid (NExX.out)
  replace RX := Lib.hid ((hb.block _ (Array.getElem?_eq_some_iff.1 RX.out).1).trans RX.out)
  replace NEuA := Lib.hid (NEuA.out)
  replace NEuX := Lib.hid (NEuX.out)
  replace Ou := Lib.hid (own_below Ou.out hb)
  clear hb
  clear Xc0 Xc1
  have hcc : (bo != bo) = false := by simp
  go_wp2_with fail
  have LX : ∀ w' : World, w'.heap[bX]? = some (.cells #[.slice sax snx skx, .string y] 26) ∧ w'.heap[w.heap.size]? = some (.cells #[.slice a ks.length cap, .string y] 50) → (loadVar 26 ⟨bX, 0, none⟩).run Try.prog w' = .ok (.agg #[.slice sax snx skx, .string y]) w' := fun w' h => cd_load h.1 (Below.refl _ _)
  have LA : ∀ w' : World, w'.heap[bX]? = some (.cells #[.slice sax snx skx, .string y] 26) ∧ w'.heap[w.heap.size]? = some (.cells #[.slice a ks.length cap, .string y] 50) → (loadVar 50 ⟨w.heap.size, 0, none⟩).run Try.prog w' = .ok (.agg #[.slice a ks.length cap, .string y]) w' := fun w' h => lcd_load h.2
  refine wp_region_G (fun w' => w'.heap[bX]? = some (.cells #[.slice sax snx skx, .string y] 26) ∧ w'.heap[w.heap.size]? = some (.cells #[.slice a ks.length cap, .string y] 50)) (by kernel_rfl) ?_
  replace HB := Lib.hid (HB.out.drew)
  replace RA := Lib.hid (show (World.drew _).heap[_]? = _ from RA.out)
  replace NExA := Lib.hid (NExA.out)
  replace Ox := Lib.hid (Ox.out.drew)
  replace NExX := Lib.hid (NExX.out)
  replace RX := Lib.hid (show (World.drew _).heap[_]? = _ from RX.out)
  replace NEuA := Lib.hid (NEuA.out)
  replace NEuX := Lib.hid (NEuX.out)
  replace Ou := Lib.hid (Ou.out.drew)
  generalize (w7_).drew = wD7 at *
  refine wpG_seg [true, true] [2] 2 (by kernel_rfl) (by intro c a d v w h; cases d <;> exact h) (by kernel_rfl) ⟨RX.out, RA.out⟩ ?_
  try simp only [maskRows]
  repeat (first
    | go_big_quiet_skip
    | (go_big_quiet_want
       first
         | (go_big_quiet_op; go_big_quiet_on)
         | (refine q_load 26 _ _ _ rfl rfl LX ?_; simp only [Act.put, List.setIfInBounds_toArray, List.set_cons_zero, List.set_cons_succ]; go_big_quiet_on)
         | (refine q_load 50 _ _ _ rfl rfl LA ?_; simp only [Act.put, List.setIfInBounds_toArray, List.set_cons_zero, List.set_cons_succ]; go_big_quiet_on)
         | (go_big_quiet_op; refine ⟨_, fun _ _ => rfl, ?_⟩; go_big_quiet_on)
         | (go_big_quiet_op; refine ⟨_, fun _ _ _ => rfl, ?_⟩; go_big_quiet_on)))
  refine wpQuiet_nil ?_
  refine List.forall_mem_singleton.2 ?_
  refine segt_run rfl (by rfl) (fun K hK => ?_)
  go_simp
  refine (TC.out _ HB.out hl).mono ?_
  rintro e w8_ ⟨vz, rfl, ho, hb⟩
  dsimp only
  obtain ⟨saz, snz, skz, rfl⟩ := own_shape ho
  have NEzA := Lib.hid (own_ne_row (b := w.heap.size) ho (Array.getElem?_eq_some_iff.1 RA.out).1)
  have NEzX := Lib.hid (own_ne_row (b := bX) ho (Array.getElem?_eq_some_iff.1 RX.out).1)
  have Oz := Lib.hid (own_base ho HB.out.size)
  clear ho
  replace HB := Lib.hid (HB.out.trans (hb.mono HB.out.size))
  replace RA := Lib.hid ((hb.block _ (Array.getElem?_eq_some_iff.1 RA.out).1).trans RA.out)
  replace NExA := Lib.hid (NExA.out)
  replace Ox := Lib.hid (own_below Ox.out hb)
  replace NExX := Lib.hid (NExX.out)
  replace RX := Lib.hid ((hb.block _ (Array.getElem?_eq_some_iff.1 RX.out).1).trans RX.out)
  replace NEuA := Lib.hid (NEuA.out)
  replace NEuX := Lib.hid (NEuX.out)
  replace Ou := Lib.hid (own_below Ou.out hb)
  replace NEzA := Lib.hid (NEzA.out)
  replace NEzX := Lib.hid (NEzX.out)
  clear hb
  refine hK _ _ ⟨_, fun _ h => h, ⟨RX.out, RA.out⟩, ?_⟩
  clear hK K
  try simp only [Act.put, List.setIfInBounds_toArray, List.set_cons_zero, List.set_cons_succ]
  refine wpG_seg [] [3] 1 (by kernel_rfl) (by intro c a d v w h; cases d <;> exact h) (by kernel_rfl) ⟨RX.out, RA.out⟩ ?_
  try simp only [maskRows]
  refine wpQuiet_nil ?_
  refine List.forall_mem_singleton.2 ?_
  refine segt_run rfl (by rfl) (fun K hK => ?_)
  go_simp
  refine (eqcode_self _ _ ks y _ (keysAt_own Ox.out) (keysAt_own Oz.out) (by omega)).mono ?_
  rintro e w9_ ⟨rfl, hb⟩
  dsimp only
  replace HB := Lib.hid (HB.out.trans (hb.mono HB.out.size))
  replace RA := Lib.hid ((hb.block _ (Array.getElem?_eq_some_iff.1 RA.out).1).trans RA.out)
  replace NExA := Lib.hid (NExA.out)
  replace Ox := Lib.hid (own_below Ox.out hb)
  replace NExX := Lib.hid (NExX.out)
  replace RX := Lib.hid ((hb.block _ (Array.getElem?_eq_some_iff.1 RX.out).1).trans RX.out)
  replace NEuA := Lib.hid (NEuA.out)
  replace NEuX := Lib.hid (NEuX.out)
  replace Ou := Lib.hid (own_below Ou.out hb)
  replace NEzA := Lib.hid (NEzA.out)
  replace NEzX := Lib.hid (NEzX.out)
  replace Oz := Lib.hid (own_below Oz.out hb)
  clear hb
  refine hK _ _ ⟨_, fun _ h => h, ⟨RX.out, RA.out⟩, ?_⟩
  clear hK K
  try simp only [Act.put, List.setIfInBounds_toArray, List.set_cons_zero, List.set_cons_succ]
  refine wpG_end [false, false, false, false, true] (by kernel_rfl) (by intro c a d v w h; cases d <;> exact h) (by kernel_rfl) ⟨RX.out, RA.out⟩ ?_
  try simp only [maskRows]
  repeat (first
    | go_big_quiet_skip
    | (go_big_quiet_want
       first
         | (go_big_quiet_op; go_big_quiet_on)
         | (refine q_load 26 _ _ _ rfl rfl LX ?_; simp only [Act.put, List.setIfInBounds_toArray, List.set_cons_zero, List.set_cons_succ]; go_big_quiet_on)
         | (refine q_load 50 _ _ _ rfl rfl LA ?_; simp only [Act.put, List.setIfInBounds_toArray, List.set_cons_zero, List.set_cons_succ]; go_big_quiet_on)
         | (go_big_quiet_op; refine ⟨_, fun _ _ => rfl, ?_⟩; go_big_quiet_on)
         | (go_big_quiet_op; refine ⟨_, fun _ _ _ => rfl, ?_⟩; go_big_quiet_on)))
  refine wpQuiet_nil ?_
  clear LX LA
  clear Oz NEzA NEzX
  go_wp2_with fail
  refine (TR.out _ HB.out hlT).mono ?_
  rintro e w10_ ⟨gv, rfl, -, ho, hb⟩
  have NEvA := Lib.hid (own_ne_row (b := w.heap.size) ho (Array.getElem?_eq_some_iff.1 RA.out).1)
  have NEvX := Lib.hid (own_ne_row (b := bX) ho (Array.getElem?_eq_some_iff.1 RX.out).1)
  have Ov := Lib.hid (own_base ho HB.out.size)
  clear ho
  replace HB := Lib.hid (HB.out.trans (hb.mono HB.out.size))
  replace RA := Lib.hid ((hb.block _ (Array.getElem?_eq_some_iff.1 RA.out).1).trans RA.out)
  replace NExA := Lib.hid (NExA.out)
  replace Ox := Lib.hid (own_below Ox.out hb)
  replace NExX := Lib.hid (NExX.out)
  replace RX := Lib.hid ((hb.block _ (Array.getElem?_eq_some_iff.1 RX.out).1).trans RX.out)
  replace NEuA := Lib.hid (NEuA.out)
  replace NEuX := Lib.hid (NEuX.out)
  replace Ou := Lib.hid (own_below Ou.out hb)
  replace NEvA := Lib.hid (NEvA.out)
  replace NEvX := Lib.hid (NEvX.out)
  clear hb
  go_wp2_with fail
  refine (eqrds_self _ _ T _ (rdAt_own Ou.out) (rdAt_own Ov.out) (by omega)).mono ?_
  rintro e w11_ ⟨rfl, hb⟩
  replace HB := Lib.hid (HB.out.trans (hb.mono HB.out.size))
  replace RA := Lib.hid ((hb.block _ (Array.getElem?_eq_some_iff.1 RA.out).1).trans RA.out)
  replace NExA := Lib.hid (NExA.out)
  replace Ox := Lib.hid (own_below Ox.out hb)
  replace NExX := Lib.hid (NExX.out)
  replace RX := Lib.hid ((hb.block _ (Array.getElem?_eq_some_iff.1 RX.out).1).trans RX.out)
  replace NEuA := Lib.hid (NEuA.out)
  replace NEuX := Lib.hid (NEuX.out)
  replace Ou := Lib.hid (own_below Ou.out hb)
  replace NEvA := Lib.hid (NEvA.out)
  replace NEvX := Lib.hid (NEvX.out)
  replace Ov := Lib.hid (own_below Ov.out hb)
  clear hb
  go_wp2
  go_ret
  exact ⟨rfl, HB.out⟩
set_option maxRecDepth 100000 in
set_option maxHeartbeats 4000000 in
theorem exreduced_walk (v : Value) (ks : List K2) (y : ByteArray) (vt : Value) (T : List R3) (w : World) (h : keysAt w v ks) (hn : ks.length ≤ maxLen) (hy : y.size ≤ maxLen) (h2 : rdAt w vt T) (hn2 : T.length ≤ maxLen) (hx2 : ∀ j, j < T.length → (T.getD j r0).2.size ≤ maxLen) :
    Calls Try.prog 10 #[.agg #[v, .string y], vt] w fun e w' => e = .returned (.bool true) ∧ Below w.heap.size w w' := by
  unfold maxLen at hn hy hn2 hx2
  have HB := Lib.hid ((Below.refl w.heap.size w).alloc (Nat.le_refl _) (.cells #[v, .string y] 50))
  have RA := Lib.hid (heap_alloc_new w (.cells #[v, .string y] 50))
  have TC := Lib.hid (fun w' (hb : Below w.heap.size w w') (hl : ks.length ≤ 1048576) => tocode_any v ks y w' (keysAt_below h hb) (by omega))
  have TR := Lib.hid (fun w' (hb : Below w.heap.size w w') (hl : T.length ≤ 1048576) => toreadings_any vt T w' (rdAt_below h2 hb) (by omega))
  have SZ2 := Lib.hid (fun w' (hb : Below w.heap.size w w') x (hx : 0 ≤ x ∧ x ≤ 1000000000) => szreadings_any vt T x w' (rdAt_below h2 hb) hx hn2 hx2)
  obtain ⟨a, cap, rfl, -, -⟩ := h
  have SZ := Lib.hid (fun w' => szcode_any (.slice a ks.length cap) ks y 1048576 w' ⟨a, cap, rfl⟩ (by omega) hn hy)
  obtain ⟨at2, cap2, rfl, -, -⟩ := h2
  go_enter Try.func10, Try.ntmps10
  obtain ⟨Ac0, Ac1, -, -⟩ := row2_of RA.out
  go_wp2_with fail
  generalize w.alloc (.cells #[.slice a ks.length cap, .string y] 50) = W at *
  refine (SZ.out _).mono ?_
  rintro e w1 ⟨rfl, hb⟩
  replace HB := Lib.hid (HB.out.trans (hb.mono HB.out.size))
  replace RA := Lib.hid ((hb.block _ (Array.getElem?_eq_some_iff.1 RA.out).1).trans RA.out)
  clear hb SZ Ac0 Ac1
  have hse := szC_eq 1048576 ks.length y.size
  rcases szC_cases 1048576 ks.length y.size (by omega) with hneg | ⟨hneg, h0, h1, hl0, hy0⟩
  · generalize szC 1048576 ks.length y.size = x at *
    clear hse
    go_wp2
    go_ret
    exact ⟨rfl, HB.out⟩
  have HSE := Lib.hid (hse h0)
  clear hse
  generalize szC 1048576 ks.length y.size = x at *
  have HXX := Lib.hid (show 0 ≤ x ∧ x ≤ 1000000000 by omega)
  go_wp2_with fail
  refine (SZ2.out _ HB.out x HXX.out).mono ?_
  rintro e w2 ⟨x2, rfl, hr, hb⟩
  replace HB := Lib.hid (HB.out.trans (hb.mono HB.out.size))
  replace RA := Lib.hid ((hb.block _ (Array.getElem?_eq_some_iff.1 RA.out).1).trans RA.out)
  clear hb SZ2
  by_cases hneg2 : x2 < 0
  · clear hr
    go_wp2
    go_ret
    exact ⟨rfl, HB.out⟩
  have hl : ks.length ≤ 1048576 := by omega
  have hy2 : y.size ≤ 1048576 := by omega
  have hse := HSE.out
  have hlT : T.length ≤ 1048576 := by rcases hr with rfl | ⟨h1, h2, h3⟩ <;> omega
  have hlS : ks.length + T.length ≤ 1048576 := by rcases hr with rfl | ⟨h1, h2, h3⟩ <;> omega
  have hzT : ∀ r ∈ T, r.2.size ≤ 1048576 := by
    rcases hr with rfl | ⟨h1, h2, h3⟩
    · omega
    · exact rd_sizes (m := 1048576) (fun j hj => by have := h3 j hj; omega)
  have HZT := Lib.hid hzT
  clear hr hzT hse hl0 hy0 HSE HXX
  have SC := Lib.hid (fun w' va vb (ha : keysAt w' va ks) (hb : rdAt w' vb T) => sreduced_any va ks y vb T w' ha hb (by omega) (by omega))
  have IC := Lib.hid (fun w' va vb (ha : keysAt w' va ks) (hb : rdAt w' vb T) => ireduced_any va ks y vb T w' ha hb (by omega) (by omega) (by omega))
  have hM := red_len2 (ks, y) T
  dsimp only at hM
  generalize (redM (ks, y) T).2 = Y at *
  generalize (redM (ks, y) T).1 = M at *
  obtain ⟨Ac0, Ac1, -, -⟩ := row2_of RA.out
  go_wp2_with fail
  refine (TC.out _ HB.out hl).mono ?_
  rintro e w1_ ⟨vta, rfl, ho, hb⟩
  obtain ⟨sata, snta, skta, rfl⟩ := own_shape ho
  have NEtaA := Lib.hid (own_ne_row (b := w.heap.size) ho (Array.getElem?_eq_some_iff.1 RA.out).1)
  have Ota := Lib.hid (own_base ho HB.out.size)
  clear ho
  replace HB := Lib.hid (HB.out.trans (hb.mono HB.out.size))
  replace RA := Lib.hid ((hb.block _ (Array.getElem?_eq_some_iff.1 RA.out).1).trans RA.out)
  replace NEtaA := Lib.hid (NEtaA.out)
  clear hb
  clear Ac0 Ac1
  go_wp2_with fail
  refine (TR.out _ HB.out hlT).mono ?_
  rintro e w2_ ⟨gtb, rfl, -, ho, hb⟩
  have NEtbA := Lib.hid (own_ne_row (b := w.heap.size) ho (Array.getElem?_eq_some_iff.1 RA.out).1)
  have Otb := Lib.hid (own_base ho HB.out.size)
  clear ho
  replace HB := Lib.hid (HB.out.trans (hb.mono HB.out.size))
  replace RA := Lib.hid ((hb.block _ (Array.getElem?_eq_some_iff.1 RA.out).1).trans RA.out)
  replace NEtaA := Lib.hid (NEtaA.out)
  replace Ota := Lib.hid (own_below Ota.out hb)
  replace NEtbA := Lib.hid (NEtbA.out)
  clear hb
  go_wp2_with fail
  refine (SC.out _ _ _ (keysAt_own Ota.out) (rdAt_own Otb.out)).mono ?_
  rintro e w3_ ⟨vs, rfl, ho, hb⟩
  obtain ⟨sas, sns, sks, rfl⟩ := own_shape ho
  have NEsA := Lib.hid (own_ne_row (b := w.heap.size) ho (Array.getElem?_eq_some_iff.1 RA.out).1)
  have Os := Lib.hid (own_base ho HB.out.size)
  clear ho
  replace HB := Lib.hid (HB.out.trans (hb.mono HB.out.size))
  replace RA := Lib.hid ((hb.block _ (Array.getElem?_eq_some_iff.1 RA.out).1).trans RA.out)
  replace NEtaA := Lib.hid (NEtaA.out)
  replace Ota := Lib.hid (own_below Ota.out hb)
  replace NEtbA := Lib.hid (NEtbA.out)
  replace Otb := Lib.hid (own_below Otb.out hb)
  replace NEsA := Lib.hid (NEsA.out)
  clear hb
  clear Ota NEtaA
  clear Otb NEtbA
  have NEsW := Lib.hid (own_ne_new Os.out)
  replace HB := Lib.hid (HB.out.alloc HB.out.size (.cells #[.slice sas sns sks, .string Y] 26))
  replace RA := Lib.hid ((Below.heap_alloc _ (.cells #[.slice sas sns sks, .string Y] 26) _ (Array.getElem?_eq_some_iff.1 RA.out).1).trans RA.out)
  replace NEsA := Lib.hid (NEsA.out)
  replace Os := Lib.hid (Os.out.alloc (.cells #[.slice sas sns sks, .string Y] 26))
  replace NEsW := Lib.hid (NEsW.out)
  have RW := Lib.hid (heap_alloc_new (w3_) (.cells #[.slice sas sns sks, .string Y] 26))
  obtain ⟨Ac0, Ac1, -, -⟩ := row2_of RA.out
  go_wp2_with fail
  generalize World.alloc (w3_) (.cells #[.slice sas sns sks, .string Y] 26) = w4_ at *
  generalize (w3_).heap.size = bW at *
  refine (TC.out _ HB.out hl).mono ?_
  rintro e w5_ ⟨vx, rfl, ho, hb⟩
  obtain ⟨sax, snx, skx, rfl⟩ := own_shape ho
  have NExA := Lib.hid (own_ne_row (b := w.heap.size) ho (Array.getElem?_eq_some_iff.1 RA.out).1)
  have NExW := Lib.hid (own_ne_row (b := bW) ho (Array.getElem?_eq_some_iff.1 RW.out).1)
  have NEsx := Lib.hid (own_ne Os.out ho)
  have NExs := Lib.hid (own_ne' Os.out ho)
  have Ox := Lib.hid (own_base ho HB.out.size)
  clear ho
  replace HB := Lib.hid (HB.out.trans (hb.mono HB.out.size))
  replace RA := Lib.hid ((hb.block _ (Array.getElem?_eq_some_iff.1 RA.out).1).trans RA.out)
  replace NEsA := Lib.hid (NEsA.out)
  replace Os := Lib.hid (own_below Os.out hb)
  replace NEsW := Lib.hid (NEsW.out)
  replace RW := Lib.hid ((hb.block _ (Array.getElem?_eq_some_iff.1 RW.out).1).trans RW.out)
  replace NExA := Lib.hid (NExA.out)
  replace NExW := Lib.hid (NExW.out)
  replace NEsx := Lib.hid (NEsx.out)
  replace NExs := Lib.hid (NExs.out)
  clear hb
  clear Ac0 Ac1
  have NEsX := Lib.hid (own_ne_new Os.out)
  have NExX := Lib.hid (own_ne_new Ox.out)
  replace HB := Lib.hid (HB.out.alloc HB.out.size (.cells #[.slice sax snx skx, .string y] 26))
  replace RA := Lib.hid ((Below.heap_alloc _ (.cells #[.slice sax snx skx, .string y] 26) _ (Array.getElem?_eq_some_iff.1 RA.out).1).trans RA.out)
  replace NEsA := Lib.hid (NEsA.out)
  replace Os := Lib.hid (Os.out.alloc (.cells #[.slice sax snx skx, .string y] 26))
  replace NEsW := Lib.hid (NEsW.out)
  replace RW := Lib.hid ((Below.heap_alloc _ (.cells #[.slice sax snx skx, .string y] 26) _ (Array.getElem?_eq_some_iff.1 RW.out).1).trans RW.out)
  replace NExA := Lib.hid (NExA.out)
  replace NExW := Lib.hid (NExW.out)
  replace NEsx := Lib.hid (NEsx.out)
  replace NExs := Lib.hid (NExs.out)
  replace Ox := Lib.hid (Ox.out.alloc (.cells #[.slice sax snx skx, .string y] 26))
  replace NEsX := Lib.hid (NEsX.out)
  replace NExX := Lib.hid (NExX.out)
  have RX := Lib.hid (heap_alloc_new (w5_) (.cells #[.slice sax snx skx, .string y] 26))
  go_wp2_with fail
  generalize World.alloc (w5_) (.cells #[.slice sax snx skx, .string y] 26) = w6_ at *
  generalize (w5_).heap.size = bX at *
  refine (TR.out _ HB.out hlT).mono ?_
  rintro e w7_ ⟨gu, rfl, -, ho, hb⟩
  have NEuA := Lib.hid (own_ne_row (b := w.heap.size) ho (Array.getElem?_eq_some_iff.1 RA.out).1)
  have NEuW := Lib.hid (own_ne_row (b := bW) ho (Array.getElem?_eq_some_iff.1 RW.out).1)
  have NEuX := Lib.hid (own_ne_row (b := bX) ho (Array.getElem?_eq_some_iff.1 RX.out).1)
  have NEsu := Lib.hid (own_ne Os.out ho)
  have NEus := Lib.hid (own_ne' Os.out ho)
  have NExu := Lib.hid (own_ne Ox.out ho)
  have NEux := Lib.hid (own_ne' Ox.out ho)
  have Ou := Lib.hid (own_base ho HB.out.size)
  clear ho
  replace HB := Lib.hid (HB.out.trans (hb.mono HB.out.size))
  replace RA := Lib.hid ((hb.block _ (Array.getElem?_eq_some_iff.1 RA.out).1).trans RA.out)
  replace NEsA := Lib.hid (NEsA.out)
  replace Os := Lib.hid (own_below Os.out hb)
  replace NEsW := Lib.hid (NEsW.out)
  replace RW := Lib.hid ((hb.block _ (Array.getElem?_eq_some_iff.1 RW.out).1).trans RW.out)
  replace NExA := Lib.hid (NExA.out)
  replace NExW := Lib.hid (NExW.out)
  replace NEsx := Lib.hid (NEsx.out)
  replace NExs := Lib.hid (NExs.out)
  replace Ox := Lib.hid (own_below Ox.out hb)
  replace NEsX := Lib.hid (NEsX.out)
  replace NExX := Lib.hid (NExX.out)
  replace RX := Lib.hid ((hb.block _ (Array.getElem?_eq_some_iff.1 RX.out).1).trans RX.out)
  replace NEuA := Lib.hid (NEuA.out)
  replace NEuW := Lib.hid (NEuW.out)
  replace NEuX := Lib.hid (NEuX.out)
  replace NEsu := Lib.hid (NEsu.out)
  replace NEus := Lib.hid (NEus.out)
  replace NExu := Lib.hid (NExu.out)
  replace NEux := Lib.hid (NEux.out)
  clear hb
  obtain ⟨Xc0, Xc1, -, -⟩ := row2_of RX.out
  go_wp2_with fail
  refine (IC.out _ _ _ (keysAt_own Ox.out) (rdAt_own Ou.out)).mono ?_
  rintro e w8_ ⟨vg, rfl, ho, hb⟩
  obtain ⟨sag, sng, skg, rfl⟩ := own_shape ho
  have NEgA := Lib.hid (own_ne_row (b := w.heap.size) ho (Array.getElem?_eq_some_iff.1 RA.out).1)
  have NEgW := Lib.hid (own_ne_row (b := bW) ho (Array.getElem?_eq_some_iff.1 RW.out).1)
  have NEgX := Lib.hid (own_ne_row (b := bX) ho (Array.getElem?_eq_some_iff.1 RX.out).1)
  have NEsg := Lib.hid (own_ne Os.out ho)
  have NEgs := Lib.hid (own_ne' Os.out ho)
  have NExg := Lib.hid (own_ne Ox.out ho)
  have NEgx := Lib.hid (own_ne' Ox.out ho)
  have NEug := Lib.hid (own_ne Ou.out ho)
  have NEgu := Lib.hid (own_ne' Ou.out ho)
  have Og := Lib.hid (own_base ho HB.out.size)
  clear ho
  replace HB := Lib.hid (HB.out.trans (hb.mono HB.out.size))
  replace RA := Lib.hid ((hb.block _ (Array.getElem?_eq_some_iff.1 RA.out).1).trans RA.out)
  replace NEsA := Lib.hid (NEsA.out)
  replace Os := Lib.hid (own_below Os.out hb)
  replace NEsW := Lib.hid (NEsW.out)
  replace RW := Lib.hid ((hb.block _ (Array.getElem?_eq_some_iff.1 RW.out).1).trans RW.out)
  replace NExA := Lib.hid (NExA.out)
  replace NExW := Lib.hid (NExW.out)
  replace NEsx := Lib.hid (NEsx.out)
  replace NExs := Lib.hid (NExs.out)
  replace Ox := Lib.hid (own_below Ox.out hb)
  replace NEsX := Lib.hid (NEsX.out)
  replace NExX := Lib.hid (NExX.out)
  replace RX := Lib.hid ((hb.block _ (Array.getElem?_eq_some_iff.1 RX.out).1).trans RX.out)
  replace NEuA := Lib.hid (NEuA.out)
  replace NEuW := Lib.hid (NEuW.out)
  replace NEuX := Lib.hid (NEuX.out)
  replace NEsu := Lib.hid (NEsu.out)
  replace NEus := Lib.hid (NEus.out)
  replace NExu := Lib.hid (NExu.out)
  replace NEux := Lib.hid (NEux.out)
  replace Ou := Lib.hid (own_below Ou.out hb)
  replace NEgA := Lib.hid (NEgA.out)
  replace NEgW := Lib.hid (NEgW.out)
  replace NEgX := Lib.hid (NEgX.out)
  replace NEsg := Lib.hid (NEsg.out)
  replace NEgs := Lib.hid (NEgs.out)
  replace NExg := Lib.hid (NExg.out)
  replace NEgx := Lib.hid (NEgx.out)
  replace NEug := Lib.hid (NEug.out)
  replace NEgu := Lib.hid (NEgu.out)
  clear hb
  clear Xc0 Xc1
  have NEsG := Lib.hid (own_ne_new Os.out)
  have NExG := Lib.hid (own_ne_new Ox.out)
  have NEuG := Lib.hid (own_ne_new Ou.out)
  have NEgG := Lib.hid (own_ne_new Og.out)
  replace HB := Lib.hid (HB.out.alloc HB.out.size (.cells #[.slice sag sng skg, .string Y] 26))
  replace RA := Lib.hid ((Below.heap_alloc _ (.cells #[.slice sag sng skg, .string Y] 26) _ (Array.getElem?_eq_some_iff.1 RA.out).1).trans RA.out)
  replace NEsA := Lib.hid (NEsA.out)
  replace Os := Lib.hid (Os.out.alloc (.cells #[.slice sag sng skg, .string Y] 26))
  replace NEsW := Lib.hid (NEsW.out)
  replace RW := Lib.hid ((Below.heap_alloc _ (.cells #[.slice sag sng skg, .string Y] 26) _ (Array.getElem?_eq_some_iff.1 RW.out).1).trans RW.out)
  replace NExA := Lib.hid (NExA.out)
  replace NExW := Lib.hid (NExW.out)
  replace NEsx := Lib.hid (NEsx.out)
  replace NExs := Lib.hid (NExs.out)
  replace Ox := Lib.hid (Ox.out.alloc (.cells #[.slice sag sng skg, .string Y] 26))
  replace NEsX := Lib.hid (NEsX.out)
  replace NExX := Lib.hid (NExX.out)
  replace RX := Lib.hid ((Below.heap_alloc _ (.cells #[.slice sag sng skg, .string Y] 26) _ (Array.getElem?_eq_some_iff.1 RX.out).1).trans RX.out)
  replace NEuA := Lib.hid (NEuA.out)
  replace NEuW := Lib.hid (NEuW.out)
  replace NEuX := Lib.hid (NEuX.out)
  replace NEsu := Lib.hid (NEsu.out)
  replace NEus := Lib.hid (NEus.out)
  replace NExu := Lib.hid (NExu.out)
  replace NEux := Lib.hid (NEux.out)
  replace Ou := Lib.hid (Ou.out.alloc (.cells #[.slice sag sng skg, .string Y] 26))
  replace NEgA := Lib.hid (NEgA.out)
  replace NEgW := Lib.hid (NEgW.out)
  replace NEgX := Lib.hid (NEgX.out)
  replace NEsg := Lib.hid (NEsg.out)
  replace NEgs := Lib.hid (NEgs.out)
  replace NExg := Lib.hid (NExg.out)
  replace NEgx := Lib.hid (NEgx.out)
  replace NEug := Lib.hid (NEug.out)
  replace NEgu := Lib.hid (NEgu.out)
  replace Og := Lib.hid (Og.out.alloc (.cells #[.slice sag sng skg, .string Y] 26))
  replace NEsG := Lib.hid (NEsG.out)
  replace NExG := Lib.hid (NExG.out)
  replace NEuG := Lib.hid (NEuG.out)
  replace NEgG := Lib.hid (NEgG.out)
  have RG := Lib.hid (heap_alloc_new (w8_) (.cells #[.slice sag sng skg, .string Y] 26))
  obtain ⟨Gc0, Gc1, -, -⟩ := row2_of RG.out
  obtain ⟨Wc0, Wc1, -, -⟩ := row2_of RW.out
  go_wp2_with fail
  generalize World.alloc (w8_) (.cells #[.slice sag sng skg, .string Y] 26) = w9_ at *
  generalize (w8_).heap.size = bG at *
  refine (eqcode_self _ _ M Y _ (keysAt_own Og.out) (keysAt_own Os.out) (by first | omega | (simp; omega) | simp)).mono ?_
  rintro e w10_ ⟨rfl, hb⟩
  replace HB := Lib.hid (HB.out.trans (hb.mono HB.out.size))
  replace RA := Lib.hid ((hb.block _ (Array.getElem?_eq_some_iff.1 RA.out).1).trans RA.out)
  replace NEsA := Lib.hid (NEsA.out)
  replace Os := Lib.hid (own_below Os.out hb)
  replace NEsW := Lib.hid (NEsW.out)
  replace RW := Lib.hid ((hb.block _ (Array.getElem?_eq_some_iff.1 RW.out).1).trans RW.out)
  replace NExA := Lib.hid (NExA.out)
  replace NExW := Lib.hid (NExW.out)
  replace NEsx := Lib.hid (NEsx.out)
  replace NExs := Lib.hid (NExs.out)
  replace Ox := Lib.hid (own_below Ox.out hb)
  replace NEsX := Lib.hid (NEsX.out)
  replace NExX := Lib.hid (NExX.out)
  replace RX := Lib.hid ((hb.block _ (Array.getElem?_eq_some_iff.1 RX.out).1).trans RX.out)
  replace NEuA := Lib.hid (NEuA.out)
  replace NEuW := Lib.hid (NEuW.out)
  replace NEuX := Lib.hid (NEuX.out)
  replace NEsu := Lib.hid (NEsu.out)
  replace NEus := Lib.hid (NEus.out)
  replace NExu := Lib.hid (NExu.out)
  replace NEux := Lib.hid (NEux.out)
  replace Ou := Lib.hid (own_below Ou.out hb)
  replace NEgA := Lib.hid (NEgA.out)
  replace NEgW := Lib.hid (NEgW.out)
  replace NEgX := Lib.hid (NEgX.out)
  replace NEsg := Lib.hid (NEsg.out)
  replace NEgs := Lib.hid (NEgs.out)
  replace NExg := Lib.hid (NExg.out)
  replace NEgx := Lib.hid (NEgx.out)
  replace NEug := Lib.hid (NEug.out)
  replace NEgu := Lib.hid (NEgu.out)
  replace Og := Lib.hid (own_below Og.out hb)
  replace NEsG := Lib.hid (NEsG.out)
  replace NExG := Lib.hid (NExG.out)
  replace NEuG := Lib.hid (NEuG.out)
  replace NEgG := Lib.hid (NEgG.out)
  replace RG := Lib.hid ((hb.block _ (Array.getElem?_eq_some_iff.1 RG.out).1).trans RG.out)
  clear hb
  clear Gc0 Gc1 Wc0 Wc1
  go_wp2_with fail
  have LX : ∀ w' : World, w'.heap[bX]? = some (.cells #[.slice sax snx skx, .string y] 26) ∧ w'.heap[w.heap.size]? = some (.cells #[.slice a ks.length cap, .string y] 50) → (loadVar 26 ⟨bX, 0, none⟩).run Try.prog w' = .ok (.agg #[.slice sax snx skx, .string y]) w' := fun w' h => cd_load h.1 (Below.refl _ _)
  have LA : ∀ w' : World, w'.heap[bX]? = some (.cells #[.slice sax snx skx, .string y] 26) ∧ w'.heap[w.heap.size]? = some (.cells #[.slice a ks.length cap, .string y] 50) → (loadVar 50 ⟨w.heap.size, 0, none⟩).run Try.prog w' = .ok (.agg #[.slice a ks.length cap, .string y]) w' := fun w' h => lcd_load h.2
  refine wp_region_G (fun w' => w'.heap[bX]? = some (.cells #[.slice sax snx skx, .string y] 26) ∧ w'.heap[w.heap.size]? = some (.cells #[.slice a ks.length cap, .string y] 50)) (by kernel_rfl) ?_
  replace HB := Lib.hid (HB.out.drew)
  replace RA := Lib.hid (show (World.drew _).heap[_]? = _ from RA.out)
  replace NEsA := Lib.hid (NEsA.out)
  replace Os := Lib.hid (Os.out.drew)
  replace NEsW := Lib.hid (NEsW.out)
  replace RW := Lib.hid (show (World.drew _).heap[_]? = _ from RW.out)
  replace NExA := Lib.hid (NExA.out)
  replace NExW := Lib.hid (NExW.out)
  replace NEsx := Lib.hid (NEsx.out)
  replace NExs := Lib.hid (NExs.out)
  replace Ox := Lib.hid (Ox.out.drew)
  replace NEsX := Lib.hid (NEsX.out)
  replace NExX := Lib.hid (NExX.out)
  replace RX := Lib.hid (show (World.drew _).heap[_]? = _ from RX.out)
  replace NEuA := Lib.hid (NEuA.out)
  replace NEuW := Lib.hid (NEuW.out)
  replace NEuX := Lib.hid (NEuX.out)
  replace NEsu := Lib.hid (NEsu.out)
  replace NEus := Lib.hid (NEus.out)
  replace NExu := Lib.hid (NExu.out)
  replace NEux := Lib.hid (NEux.out)
  replace Ou := Lib.hid (Ou.out.drew)
  replace NEgA := Lib.hid (NEgA.out)
  replace NEgW := Lib.hid (NEgW.out)
  replace NEgX := Lib.hid (NEgX.out)
  replace NEsg := Lib.hid (NEsg.out)
  replace NEgs := Lib.hid (NEgs.out)
  replace NExg := Lib.hid (NExg.out)
  replace NEgx := Lib.hid (NEgx.out)
  replace NEug := Lib.hid (NEug.out)
  replace NEgu := Lib.hid (NEgu.out)
  replace Og := Lib.hid (Og.out.drew)
  replace NEsG := Lib.hid (NEsG.out)
  replace NExG := Lib.hid (NExG.out)
  replace NEuG := Lib.hid (NEuG.out)
  replace NEgG := Lib.hid (NEgG.out)
  replace RG := Lib.hid (show (World.drew _).heap[_]? = _ from RG.out)
  generalize (w10_).drew = wD10 at *
  refine wpG_seg [true, true] [2] 2 (by kernel_rfl) (by intro c a d v w h; cases d <;> exact h) (by kernel_rfl) ⟨RX.out, RA.out⟩ ?_
  try simp only [maskRows]
  repeat (first
    | go_big_quiet_skip
    | (go_big_quiet_want
       first
         | (go_big_quiet_op; go_big_quiet_on)
         | (refine q_load 26 _ _ _ rfl rfl LX ?_; simp only [Act.put, List.setIfInBounds_toArray, List.set_cons_zero, List.set_cons_succ]; go_big_quiet_on)
         | (refine q_load 50 _ _ _ rfl rfl LA ?_; simp only [Act.put, List.setIfInBounds_toArray, List.set_cons_zero, List.set_cons_succ]; go_big_quiet_on)
         | (go_big_quiet_op; refine ⟨_, fun _ _ => rfl, ?_⟩; go_big_quiet_on)
         | (go_big_quiet_op; refine ⟨_, fun _ _ _ => rfl, ?_⟩; go_big_quiet_on)))
  refine wpQuiet_nil ?_
  refine List.forall_mem_singleton.2 ?_
  refine segt_run rfl (by rfl) (fun K hK => ?_)
  go_simp
  refine (TC.out _ HB.out hl).mono ?_
  rintro e w11_ ⟨vq, rfl, ho, hb⟩
  dsimp only
  obtain ⟨saq, snq, skq, rfl⟩ := own_shape ho
  have NEqA := Lib.hid (own_ne_row (b := w.heap.size) ho (Array.getElem?_eq_some_iff.1 RA.out).1)
  have NEqW := Lib.hid (own_ne_row (b := bW) ho (Array.getElem?_eq_some_iff.1 RW.out).1)
  have NEqX := Lib.hid (own_ne_row (b := bX) ho (Array.getElem?_eq_some_iff.1 RX.out).1)
  have NEqG := Lib.hid (own_ne_row (b := bG) ho (Array.getElem?_eq_some_iff.1 RG.out).1)
  have NExq := Lib.hid (own_ne Ox.out ho)
  have NEqx := Lib.hid (own_ne' Ox.out ho)
  have NEuq := Lib.hid (own_ne Ou.out ho)
  have NEqu := Lib.hid (own_ne' Ou.out ho)
  have NEgq := Lib.hid (own_ne Og.out ho)
  have NEqg := Lib.hid (own_ne' Og.out ho)
  have Oq := Lib.hid (own_base ho HB.out.size)
  clear ho
  replace HB := Lib.hid (HB.out.trans (hb.mono HB.out.size))
  replace RA := Lib.hid ((hb.block _ (Array.getElem?_eq_some_iff.1 RA.out).1).trans RA.out)
  replace NEsA := Lib.hid (NEsA.out)
  replace Os := Lib.hid (own_below Os.out hb)
  replace NEsW := Lib.hid (NEsW.out)
  replace RW := Lib.hid ((hb.block _ (Array.getElem?_eq_some_iff.1 RW.out).1).trans RW.out)
  replace NExA := Lib.hid (NExA.out)
  replace NExW := Lib.hid (NExW.out)
  replace NEsx := Lib.hid (NEsx.out)
  replace NExs := Lib.hid (NExs.out)
  replace Ox := Lib.hid (own_below Ox.out hb)
  replace NEsX := Lib.hid (NEsX.out)
  replace NExX := Lib.hid (NExX.out)
  replace RX := Lib.hid ((hb.block _ (Array.getElem?_eq_some_iff.1 RX.out).1).trans RX.out)
  replace NEuA := Lib.hid (NEuA.out)
  replace NEuW := Lib.hid (NEuW.out)
  replace NEuX := Lib.hid (NEuX.out)
  replace NEsu := Lib.hid (NEsu.out)
  replace NEus := Lib.hid (NEus.out)
  replace NExu := Lib.hid (NExu.out)
  replace NEux := Lib.hid (NEux.out)
  replace Ou := Lib.hid (own_below Ou.out hb)
  replace NEgA := Lib.hid (NEgA.out)
  replace NEgW := Lib.hid (NEgW.out)
  replace NEgX := Lib.hid (NEgX.out)
  replace NEsg := Lib.hid (NEsg.out)
  replace NEgs := Lib.hid (NEgs.out)
  replace NExg := Lib.hid (NExg.out)
  replace NEgx := Lib.hid (NEgx.out)
  replace NEug := Lib.hid (NEug.out)
  replace NEgu := Lib.hid (NEgu.out)
  replace Og := Lib.hid (own_below Og.out hb)
  replace NEsG := Lib.hid (NEsG.out)
  replace NExG := Lib.hid (NExG.out)
  replace NEuG := Lib.hid (NEuG.out)
  replace NEgG := Lib.hid (NEgG.out)
  replace RG := Lib.hid ((hb.block _ (Array.getElem?_eq_some_iff.1 RG.out).1).trans RG.out)
  replace NEqA := Lib.hid (NEqA.out)
  replace NEqW := Lib.hid (NEqW.out)
  replace NEqX := Lib.hid (NEqX.out)
  replace NEqG := Lib.hid (NEqG.out)
  replace NExq := Lib.hid (NExq.out)
  replace NEqx := Lib.hid (NEqx.out)
  replace NEuq := Lib.hid (NEuq.out)
  replace NEqu := Lib.hid (NEqu.out)
  replace NEgq := Lib.hid (NEgq.out)
  replace NEqg := Lib.hid (NEqg.out)
  clear hb
  refine hK _ _ ⟨_, fun _ h => h, ⟨RX.out, RA.out⟩, ?_⟩
  clear hK K
  try simp only [Act.put, List.setIfInBounds_toArray, List.set_cons_zero, List.set_cons_succ]
  refine wpG_seg [] [3] 1 (by kernel_rfl) (by intro c a d v w h; cases d <;> exact h) (by kernel_rfl) ⟨RX.out, RA.out⟩ ?_
  try simp only [maskRows]
  refine wpQuiet_nil ?_
  refine List.forall_mem_singleton.2 ?_
  refine segt_run rfl (by rfl) (fun K hK => ?_)
  go_simp
  refine (eqcode_self _ _ ks y _ (keysAt_own Ox.out) (keysAt_own Oq.out) (by omega)).mono ?_
  rintro e w12_ ⟨rfl, hb⟩
  dsimp only
  replace HB := Lib.hid (HB.out.trans (hb.mono HB.out.size))
  replace RA := Lib.hid ((hb.block _ (Array.getElem?_eq_some_iff.1 RA.out).1).trans RA.out)
  replace NEsA := Lib.hid (NEsA.out)
  replace Os := Lib.hid (own_below Os.out hb)
  replace NEsW := Lib.hid (NEsW.out)
  replace RW := Lib.hid ((hb.block _ (Array.getElem?_eq_some_iff.1 RW.out).1).trans RW.out)
  replace NExA := Lib.hid (NExA.out)
  replace NExW := Lib.hid (NExW.out)
  replace NEsx := Lib.hid (NEsx.out)
  replace NExs := Lib.hid (NExs.out)
  replace Ox := Lib.hid (own_below Ox.out hb)
  replace NEsX := Lib.hid (NEsX.out)
  replace NExX := Lib.hid (NExX.out)
  replace RX := Lib.hid ((hb.block _ (Array.getElem?_eq_some_iff.1 RX.out).1).trans RX.out)
  replace NEuA := Lib.hid (NEuA.out)
  replace NEuW := Lib.hid (NEuW.out)
  replace NEuX := Lib.hid (NEuX.out)
  replace NEsu := Lib.hid (NEsu.out)
  replace NEus := Lib.hid (NEus.out)
  replace NExu := Lib.hid (NExu.out)
  replace NEux := Lib.hid (NEux.out)
  replace Ou := Lib.hid (own_below Ou.out hb)
  replace NEgA := Lib.hid (NEgA.out)
  replace NEgW := Lib.hid (NEgW.out)
  replace NEgX := Lib.hid (NEgX.out)
  replace NEsg := Lib.hid (NEsg.out)
  replace NEgs := Lib.hid (NEgs.out)
  replace NExg := Lib.hid (NExg.out)
  replace NEgx := Lib.hid (NEgx.out)
  replace NEug := Lib.hid (NEug.out)
  replace NEgu := Lib.hid (NEgu.out)
  replace Og := Lib.hid (own_below Og.out hb)
  replace NEsG := Lib.hid (NEsG.out)
  replace NExG := Lib.hid (NExG.out)
  replace NEuG := Lib.hid (NEuG.out)
  replace NEgG := Lib.hid (NEgG.out)
  replace RG := Lib.hid ((hb.block _ (Array.getElem?_eq_some_iff.1 RG.out).1).trans RG.out)
  replace NEqA := Lib.hid (NEqA.out)
  replace NEqW := Lib.hid (NEqW.out)
  replace NEqX := Lib.hid (NEqX.out)
  replace NEqG := Lib.hid (NEqG.out)
  replace NExq := Lib.hid (NExq.out)
  replace NEqx := Lib.hid (NEqx.out)
  replace NEuq := Lib.hid (NEuq.out)
  replace NEqu := Lib.hid (NEqu.out)
  replace NEgq := Lib.hid (NEgq.out)
  replace NEqg := Lib.hid (NEqg.out)
  replace Oq := Lib.hid (own_below Oq.out hb)
  clear hb
  refine hK _ _ ⟨_, fun _ h => h, ⟨RX.out, RA.out⟩, ?_⟩
  clear hK K
  try simp only [Act.put, List.setIfInBounds_toArray, List.set_cons_zero, List.set_cons_succ]
  refine wpG_end [false, false, false, false, true] (by kernel_rfl) (by intro c a d v w h; cases d <;> exact h) (by kernel_rfl) ⟨RX.out, RA.out⟩ ?_
  try simp only [maskRows]
  repeat (first
    | go_big_quiet_skip
    | (go_big_quiet_want
       first
         | (go_big_quiet_op; go_big_quiet_on)
         | (refine q_load 26 _ _ _ rfl rfl LX ?_; simp only [Act.put, List.setIfInBounds_toArray, List.set_cons_zero, List.set_cons_succ]; go_big_quiet_on)
         | (refine q_load 50 _ _ _ rfl rfl LA ?_; simp only [Act.put, List.setIfInBounds_toArray, List.set_cons_zero, List.set_cons_succ]; go_big_quiet_on)
         | (go_big_quiet_op; refine ⟨_, fun _ _ => rfl, ?_⟩; go_big_quiet_on)
         | (go_big_quiet_op; refine ⟨_, fun _ _ _ => rfl, ?_⟩; go_big_quiet_on)))
  refine wpQuiet_nil ?_
  clear LX LA
  clear Oq NEqA NEqW NEqX NEqG NExq NEqx NEuq NEqu NEgq NEqg
  go_wp2_with fail
  refine (TR.out _ HB.out hlT).mono ?_
  rintro e w13_ ⟨gv, rfl, -, ho, hb⟩
  have NEvA := Lib.hid (own_ne_row (b := w.heap.size) ho (Array.getElem?_eq_some_iff.1 RA.out).1)
  have NEvW := Lib.hid (own_ne_row (b := bW) ho (Array.getElem?_eq_some_iff.1 RW.out).1)
  have NEvX := Lib.hid (own_ne_row (b := bX) ho (Array.getElem?_eq_some_iff.1 RX.out).1)
  have NEvG := Lib.hid (own_ne_row (b := bG) ho (Array.getElem?_eq_some_iff.1 RG.out).1)
  have NExv := Lib.hid (own_ne Ox.out ho)
  have NEvx := Lib.hid (own_ne' Ox.out ho)
  have NEuv := Lib.hid (own_ne Ou.out ho)
  have NEvu := Lib.hid (own_ne' Ou.out ho)
  have NEgv := Lib.hid (own_ne Og.out ho)
  have NEvg := Lib.hid (own_ne' Og.out ho)
  have Ov := Lib.hid (own_base ho HB.out.size)
  clear ho
  replace HB := Lib.hid (HB.out.trans (hb.mono HB.out.size))
  replace RA := Lib.hid ((hb.block _ (Array.getElem?_eq_some_iff.1 RA.out).1).trans RA.out)
  replace NEsA := Lib.hid (NEsA.out)
  replace Os := Lib.hid (own_below Os.out hb)
  replace NEsW := Lib.hid (NEsW.out)
  replace RW := Lib.hid ((hb.block _ (Array.getElem?_eq_some_iff.1 RW.out).1).trans RW.out)
  replace NExA := Lib.hid (NExA.out)
  replace NExW := Lib.hid (NExW.out)
  replace NEsx := Lib.hid (NEsx.out)
  replace NExs := Lib.hid (NExs.out)
  replace Ox := Lib.hid (own_below Ox.out hb)
  replace NEsX := Lib.hid (NEsX.out)
  replace NExX := Lib.hid (NExX.out)
  replace RX := Lib.hid ((hb.block _ (Array.getElem?_eq_some_iff.1 RX.out).1).trans RX.out)
  replace NEuA := Lib.hid (NEuA.out)
  replace NEuW := Lib.hid (NEuW.out)
  replace NEuX := Lib.hid (NEuX.out)
  replace NEsu := Lib.hid (NEsu.out)
  replace NEus := Lib.hid (NEus.out)
  replace NExu := Lib.hid (NExu.out)
  replace NEux := Lib.hid (NEux.out)
  replace Ou := Lib.hid (own_below Ou.out hb)
  replace NEgA := Lib.hid (NEgA.out)
  replace NEgW := Lib.hid (NEgW.out)
  replace NEgX := Lib.hid (NEgX.out)
  replace NEsg := Lib.hid (NEsg.out)
  replace NEgs := Lib.hid (NEgs.out)
  replace NExg := Lib.hid (NExg.out)
  replace NEgx := Lib.hid (NEgx.out)
  replace NEug := Lib.hid (NEug.out)
  replace NEgu := Lib.hid (NEgu.out)
  replace Og := Lib.hid (own_below Og.out hb)
  replace NEsG := Lib.hid (NEsG.out)
  replace NExG := Lib.hid (NExG.out)
  replace NEuG := Lib.hid (NEuG.out)
  replace NEgG := Lib.hid (NEgG.out)
  replace RG := Lib.hid ((hb.block _ (Array.getElem?_eq_some_iff.1 RG.out).1).trans RG.out)
  replace NEvA := Lib.hid (NEvA.out)
  replace NEvW := Lib.hid (NEvW.out)
  replace NEvX := Lib.hid (NEvX.out)
  replace NEvG := Lib.hid (NEvG.out)
  replace NExv := Lib.hid (NExv.out)
  replace NEvx := Lib.hid (NEvx.out)
  replace NEuv := Lib.hid (NEuv.out)
  replace NEvu := Lib.hid (NEvu.out)
  replace NEgv := Lib.hid (NEgv.out)
  replace NEvg := Lib.hid (NEvg.out)
  clear hb
  go_wp2_with fail
  refine (eqrds_self _ _ T _ (rdAt_own Ou.out) (rdAt_own Ov.out) (by omega)).mono ?_
  rintro e w14_ ⟨rfl, hb⟩
  replace HB := Lib.hid (HB.out.trans (hb.mono HB.out.size))
  replace RA := Lib.hid ((hb.block _ (Array.getElem?_eq_some_iff.1 RA.out).1).trans RA.out)
  replace NEsA := Lib.hid (NEsA.out)
  replace Os := Lib.hid (own_below Os.out hb)
  replace NEsW := Lib.hid (NEsW.out)
  replace RW := Lib.hid ((hb.block _ (Array.getElem?_eq_some_iff.1 RW.out).1).trans RW.out)
  replace NExA := Lib.hid (NExA.out)
  replace NExW := Lib.hid (NExW.out)
  replace NEsx := Lib.hid (NEsx.out)
  replace NExs := Lib.hid (NExs.out)
  replace Ox := Lib.hid (own_below Ox.out hb)
  replace NEsX := Lib.hid (NEsX.out)
  replace NExX := Lib.hid (NExX.out)
  replace RX := Lib.hid ((hb.block _ (Array.getElem?_eq_some_iff.1 RX.out).1).trans RX.out)
  replace NEuA := Lib.hid (NEuA.out)
  replace NEuW := Lib.hid (NEuW.out)
  replace NEuX := Lib.hid (NEuX.out)
  replace NEsu := Lib.hid (NEsu.out)
  replace NEus := Lib.hid (NEus.out)
  replace NExu := Lib.hid (NExu.out)
  replace NEux := Lib.hid (NEux.out)
  replace Ou := Lib.hid (own_below Ou.out hb)
  replace NEgA := Lib.hid (NEgA.out)
  replace NEgW := Lib.hid (NEgW.out)
  replace NEgX := Lib.hid (NEgX.out)
  replace NEsg := Lib.hid (NEsg.out)
  replace NEgs := Lib.hid (NEgs.out)
  replace NExg := Lib.hid (NExg.out)
  replace NEgx := Lib.hid (NEgx.out)
  replace NEug := Lib.hid (NEug.out)
  replace NEgu := Lib.hid (NEgu.out)
  replace Og := Lib.hid (own_below Og.out hb)
  replace NEsG := Lib.hid (NEsG.out)
  replace NExG := Lib.hid (NExG.out)
  replace NEuG := Lib.hid (NEuG.out)
  replace NEgG := Lib.hid (NEgG.out)
  replace RG := Lib.hid ((hb.block _ (Array.getElem?_eq_some_iff.1 RG.out).1).trans RG.out)
  replace NEvA := Lib.hid (NEvA.out)
  replace NEvW := Lib.hid (NEvW.out)
  replace NEvX := Lib.hid (NEvX.out)
  replace NEvG := Lib.hid (NEvG.out)
  replace NExv := Lib.hid (NExv.out)
  replace NEvx := Lib.hid (NEvx.out)
  replace NEuv := Lib.hid (NEuv.out)
  replace NEvu := Lib.hid (NEvu.out)
  replace NEgv := Lib.hid (NEgv.out)
  replace NEvg := Lib.hid (NEvg.out)
  replace Ov := Lib.hid (own_below Ov.out hb)
  clear hb
  clear Ov NEvA NEvW NEvX NEvG NExv NEvx NEuv NEvu NEgv NEvg
  obtain ⟨Xc0, Xc1, -, -⟩ := row2_of RX.out
  go_wp2_with fail
  refine (markcode_any _ _ ks.length _ y 1 _ Ox.out (by omega) (by omega) HB.out.size).mono ?_
  rintro e w15_ ⟨rfl, hom, hgr⟩
  replace HB := Lib.hid (HB.out.grown hgr HB.out.size (fun g e => (Ox.out.lt g e).1))
  replace Os := Lib.hid (Os.out.kept hgr NEsx.out)
  replace Ou := Lib.hid (Ou.out.kept hgr NEux.out)
  replace Og := Lib.hid (Og.out.kept hgr NEgx.out)
  replace RA := Lib.hid ((hgr.block _ (Array.getElem?_eq_some_iff.1 RA.out).1 (fun e => NExA.out e.symm)).trans RA.out)
  replace RW := Lib.hid ((hgr.block _ (Array.getElem?_eq_some_iff.1 RW.out).1 (fun e => NExW.out e.symm)).trans RW.out)
  replace RX := Lib.hid ((hgr.block _ (Array.getElem?_eq_some_iff.1 RX.out).1 (fun e => NExX.out e.symm)).trans RX.out)
  replace RG := Lib.hid ((hgr.block _ (Array.getElem?_eq_some_iff.1 RG.out).1 (fun e => NExG.out e.symm)).trans RG.out)
  replace Ox := Lib.hid hom
  clear hom hgr
  clear Xc0 Xc1
  have em : (1 : Int) + 2 * (ks.length : Int) = ((1 + 2 * ks.length : Nat) : Int) := by omega
  rw [em]
  clear em
  go_wp2_with fail
  refine (markreadings_any _ _ T.length _ (1 + 2 * ks.length) _ Ou.out (by omega) HB.out.size).mono ?_
  rintro e w16_ ⟨rfl, hom, hgr⟩
  replace HB := Lib.hid (HB.out.grown hgr HB.out.size (fun g e => (Ou.out.lt g e).1))
  replace Os := Lib.hid (Os.out.kept hgr NEsu.out)
  replace Ox := Lib.hid (Ox.out.kept hgr NExu.out)
  replace Og := Lib.hid (Og.out.kept hgr NEgu.out)
  replace RA := Lib.hid ((hgr.block _ (Array.getElem?_eq_some_iff.1 RA.out).1 (fun e => NEuA.out e.symm)).trans RA.out)
  replace RW := Lib.hid ((hgr.block _ (Array.getElem?_eq_some_iff.1 RW.out).1 (fun e => NEuW.out e.symm)).trans RW.out)
  replace RX := Lib.hid ((hgr.block _ (Array.getElem?_eq_some_iff.1 RX.out).1 (fun e => NEuX.out e.symm)).trans RX.out)
  replace RG := Lib.hid ((hgr.block _ (Array.getElem?_eq_some_iff.1 RG.out).1 (fun e => NEuG.out e.symm)).trans RG.out)
  clear Ou hom hgr
  have q3 : ¬ ((1 + 2 * ks.length + 3 * T.length : Nat) : Int) < 0 := by omega
  obtain ⟨Gc0, Gc1, -, -⟩ := row2_of RG.out
  obtain ⟨Wc0, Wc1, -, -⟩ := row2_of RW.out
  go_wp2_with fail
  refine (eqcode_self _ _ M Y _ (keysAt_own Og.out) (keysAt_own Os.out) (by first | omega | (simp; omega) | simp)).mono ?_
  rintro e w17_ ⟨rfl, hb⟩
  replace HB := Lib.hid (HB.out.trans (hb.mono HB.out.size))
  replace RA := Lib.hid ((hb.block _ (Array.getElem?_eq_some_iff.1 RA.out).1).trans RA.out)
  replace NEsA := Lib.hid (NEsA.out)
  replace Os := Lib.hid (own_below Os.out hb)
  replace NEsW := Lib.hid (NEsW.out)
  replace RW := Lib.hid ((hb.block _ (Array.getElem?_eq_some_iff.1 RW.out).1).trans RW.out)
  replace NExA := Lib.hid (NExA.out)
  replace NExW := Lib.hid (NExW.out)
  replace NEsx := Lib.hid (NEsx.out)
  replace NExs := Lib.hid (NExs.out)
  replace Ox := Lib.hid (own_below Ox.out hb)
  replace NEsX := Lib.hid (NEsX.out)
  replace NExX := Lib.hid (NExX.out)
  replace RX := Lib.hid ((hb.block _ (Array.getElem?_eq_some_iff.1 RX.out).1).trans RX.out)
  replace NEuA := Lib.hid (NEuA.out)
  replace NEuW := Lib.hid (NEuW.out)
  replace NEuX := Lib.hid (NEuX.out)
  replace NEsu := Lib.hid (NEsu.out)
  replace NEus := Lib.hid (NEus.out)
  replace NExu := Lib.hid (NExu.out)
  replace NEux := Lib.hid (NEux.out)
  replace NEgA := Lib.hid (NEgA.out)
  replace NEgW := Lib.hid (NEgW.out)
  replace NEgX := Lib.hid (NEgX.out)
  replace NEsg := Lib.hid (NEsg.out)
  replace NEgs := Lib.hid (NEgs.out)
  replace NExg := Lib.hid (NExg.out)
  replace NEgx := Lib.hid (NEgx.out)
  replace NEug := Lib.hid (NEug.out)
  replace NEgu := Lib.hid (NEgu.out)
  replace Og := Lib.hid (own_below Og.out hb)
  replace NEsG := Lib.hid (NEsG.out)
  replace NExG := Lib.hid (NExG.out)
  replace NEuG := Lib.hid (NEuG.out)
  replace NEgG := Lib.hid (NEgG.out)
  replace RG := Lib.hid ((hb.block _ (Array.getElem?_eq_some_iff.1 RG.out).1).trans RG.out)
  clear hb
  clear Gc0 Gc1 Wc0 Wc1
  clear Ox NExA NExW NEsx NExs NExX NExu NEux NExg NEgx NExG
  obtain ⟨Gc0, Gc1, -, -⟩ := row2_of RG.out
  go_wp2_with fail
  refine (markcode_any _ _ M.length _ Y 1 _ Og.out (by omega) (by omega) HB.out.size).mono ?_
  rintro e w18_ ⟨rfl, hom, hgr⟩
  replace HB := Lib.hid (HB.out.grown hgr HB.out.size (fun g e => (Og.out.lt g e).1))
  replace Os := Lib.hid (Os.out.kept hgr NEsg.out)
  replace RA := Lib.hid ((hgr.block _ (Array.getElem?_eq_some_iff.1 RA.out).1 (fun e => NEgA.out e.symm)).trans RA.out)
  replace RW := Lib.hid ((hgr.block _ (Array.getElem?_eq_some_iff.1 RW.out).1 (fun e => NEgW.out e.symm)).trans RW.out)
  replace RX := Lib.hid ((hgr.block _ (Array.getElem?_eq_some_iff.1 RX.out).1 (fun e => NEgX.out e.symm)).trans RX.out)
  replace RG := Lib.hid ((hgr.block _ (Array.getElem?_eq_some_iff.1 RG.out).1 (fun e => NEgG.out e.symm)).trans RG.out)
  replace Og := Lib.hid hom
  clear hom hgr
  clear Gc0 Gc1
  have q4 : ¬ (1 : Int) + 2 * (M.length : Int) < 0 := by omega
  obtain ⟨Gc0, Gc1, -, -⟩ := row2_of RG.out
  go_wp2_with fail
  refine (heldcode_any _ M.length Y 1 _ (keysAt_marked Og.out) (by omega) (by omega)).mono ?_
  rintro e w19_ ⟨rfl, hb⟩
  replace HB := Lib.hid (HB.out.trans (hb.mono HB.out.size))
  replace RA := Lib.hid ((hb.block _ (Array.getElem?_eq_some_iff.1 RA.out).1).trans RA.out)
  replace NEsA := Lib.hid (NEsA.out)
  replace Os := Lib.hid (own_below Os.out hb)
  replace NEsW := Lib.hid (NEsW.out)
  replace RW := Lib.hid ((hb.block _ (Array.getElem?_eq_some_iff.1 RW.out).1).trans RW.out)
  replace NEsX := Lib.hid (NEsX.out)
  replace RX := Lib.hid ((hb.block _ (Array.getElem?_eq_some_iff.1 RX.out).1).trans RX.out)
  replace NEuA := Lib.hid (NEuA.out)
  replace NEuW := Lib.hid (NEuW.out)
  replace NEuX := Lib.hid (NEuX.out)
  replace NEsu := Lib.hid (NEsu.out)
  replace NEus := Lib.hid (NEus.out)
  replace NEgA := Lib.hid (NEgA.out)
  replace NEgW := Lib.hid (NEgW.out)
  replace NEgX := Lib.hid (NEgX.out)
  replace NEsg := Lib.hid (NEsg.out)
  replace NEgs := Lib.hid (NEgs.out)
  replace NEug := Lib.hid (NEug.out)
  replace NEgu := Lib.hid (NEgu.out)
  replace Og := Lib.hid (own_below Og.out hb)
  replace NEsG := Lib.hid (NEsG.out)
  replace NEuG := Lib.hid (NEuG.out)
  replace NEgG := Lib.hid (NEgG.out)
  replace RG := Lib.hid ((hb.block _ (Array.getElem?_eq_some_iff.1 RG.out).1).trans RG.out)
  clear hb
  clear Gc0 Gc1
  obtain ⟨Ac0, Ac1, -, -⟩ := row2_of RA.out
  go_wp2_with fail
  refine (TC.out _ HB.out hl).mono ?_
  rintro e w20_ ⟨vtc, rfl, ho, hb⟩
  obtain ⟨satc, sntc, sktc, rfl⟩ := own_shape ho
  have NEtcA := Lib.hid (own_ne_row (b := w.heap.size) ho (Array.getElem?_eq_some_iff.1 RA.out).1)
  have NEtcW := Lib.hid (own_ne_row (b := bW) ho (Array.getElem?_eq_some_iff.1 RW.out).1)
  have NEtcX := Lib.hid (own_ne_row (b := bX) ho (Array.getElem?_eq_some_iff.1 RX.out).1)
  have NEtcG := Lib.hid (own_ne_row (b := bG) ho (Array.getElem?_eq_some_iff.1 RG.out).1)
  have NEgtc := Lib.hid (own_ne Og.out ho)
  have NEtcg := Lib.hid (own_ne' Og.out ho)
  have Otc := Lib.hid (own_base ho HB.out.size)
  clear ho
  replace HB := Lib.hid (HB.out.trans (hb.mono HB.out.size))
  replace RA := Lib.hid ((hb.block _ (Array.getElem?_eq_some_iff.1 RA.out).1).trans RA.out)
  replace NEsA := Lib.hid (NEsA.out)
  replace Os := Lib.hid (own_below Os.out hb)
  replace NEsW := Lib.hid (NEsW.out)
  replace RW := Lib.hid ((hb.block _ (Array.getElem?_eq_some_iff.1 RW.out).1).trans RW.out)
  replace NEsX := Lib.hid (NEsX.out)
  replace RX := Lib.hid ((hb.block _ (Array.getElem?_eq_some_iff.1 RX.out).1).trans RX.out)
  replace NEuA := Lib.hid (NEuA.out)
  replace NEuW := Lib.hid (NEuW.out)
  replace NEuX := Lib.hid (NEuX.out)
  replace NEsu := Lib.hid (NEsu.out)
  replace NEus := Lib.hid (NEus.out)
  replace NEgA := Lib.hid (NEgA.out)
  replace NEgW := Lib.hid (NEgW.out)
  replace NEgX := Lib.hid (NEgX.out)
  replace NEsg := Lib.hid (NEsg.out)
  replace NEgs := Lib.hid (NEgs.out)
  replace NEug := Lib.hid (NEug.out)
  replace NEgu := Lib.hid (NEgu.out)
  replace Og := Lib.hid (own_below Og.out hb)
  replace NEsG := Lib.hid (NEsG.out)
  replace NEuG := Lib.hid (NEuG.out)
  replace NEgG := Lib.hid (NEgG.out)
  replace RG := Lib.hid ((hb.block _ (Array.getElem?_eq_some_iff.1 RG.out).1).trans RG.out)
  replace NEtcA := Lib.hid (NEtcA.out)
  replace NEtcW := Lib.hid (NEtcW.out)
  replace NEtcX := Lib.hid (NEtcX.out)
  replace NEtcG := Lib.hid (NEtcG.out)
  replace NEgtc := Lib.hid (NEgtc.out)
  replace NEtcg := Lib.hid (NEtcg.out)
  clear hb
  clear Ac0 Ac1
  go_wp2_with fail
  refine (TR.out _ HB.out hlT).mono ?_
  rintro e w21_ ⟨gtd, rfl, -, ho, hb⟩
  have NEtdA := Lib.hid (own_ne_row (b := w.heap.size) ho (Array.getElem?_eq_some_iff.1 RA.out).1)
  have NEtdW := Lib.hid (own_ne_row (b := bW) ho (Array.getElem?_eq_some_iff.1 RW.out).1)
  have NEtdX := Lib.hid (own_ne_row (b := bX) ho (Array.getElem?_eq_some_iff.1 RX.out).1)
  have NEtdG := Lib.hid (own_ne_row (b := bG) ho (Array.getElem?_eq_some_iff.1 RG.out).1)
  have NEgtd := Lib.hid (own_ne Og.out ho)
  have NEtdg := Lib.hid (own_ne' Og.out ho)
  have Otd := Lib.hid (own_base ho HB.out.size)
  clear ho
  replace HB := Lib.hid (HB.out.trans (hb.mono HB.out.size))
  replace RA := Lib.hid ((hb.block _ (Array.getElem?_eq_some_iff.1 RA.out).1).trans RA.out)
  replace NEsA := Lib.hid (NEsA.out)
  replace Os := Lib.hid (own_below Os.out hb)
  replace NEsW := Lib.hid (NEsW.out)
  replace RW := Lib.hid ((hb.block _ (Array.getElem?_eq_some_iff.1 RW.out).1).trans RW.out)
  replace NEsX := Lib.hid (NEsX.out)
  replace RX := Lib.hid ((hb.block _ (Array.getElem?_eq_some_iff.1 RX.out).1).trans RX.out)
  replace NEuA := Lib.hid (NEuA.out)
  replace NEuW := Lib.hid (NEuW.out)
  replace NEuX := Lib.hid (NEuX.out)
  replace NEsu := Lib.hid (NEsu.out)
  replace NEus := Lib.hid (NEus.out)
  replace NEgA := Lib.hid (NEgA.out)
  replace NEgW := Lib.hid (NEgW.out)
  replace NEgX := Lib.hid (NEgX.out)
  replace NEsg := Lib.hid (NEsg.out)
  replace NEgs := Lib.hid (NEgs.out)
  replace NEug := Lib.hid (NEug.out)
  replace NEgu := Lib.hid (NEgu.out)
  replace Og := Lib.hid (own_below Og.out hb)
  replace NEsG := Lib.hid (NEsG.out)
  replace NEuG := Lib.hid (NEuG.out)
  replace NEgG := Lib.hid (NEgG.out)
  replace RG := Lib.hid ((hb.block _ (Array.getElem?_eq_some_iff.1 RG.out).1).trans RG.out)
  replace NEtcA := Lib.hid (NEtcA.out)
  replace NEtcW := Lib.hid (NEtcW.out)
  replace NEtcX := Lib.hid (NEtcX.out)
  replace NEtcG := Lib.hid (NEtcG.out)
  replace NEgtc := Lib.hid (NEgtc.out)
  replace NEtcg := Lib.hid (NEtcg.out)
  replace Otc := Lib.hid (own_below Otc.out hb)
  replace NEtdA := Lib.hid (NEtdA.out)
  replace NEtdW := Lib.hid (NEtdW.out)
  replace NEtdX := Lib.hid (NEtdX.out)
  replace NEtdG := Lib.hid (NEtdG.out)
  replace NEgtd := Lib.hid (NEgtd.out)
  replace NEtdg := Lib.hid (NEtdg.out)
  clear hb
  go_wp2_with fail
  refine (IC.out _ _ _ (keysAt_own Otc.out) (rdAt_own Otd.out)).mono ?_
  rintro e w22_ ⟨vh, rfl, ho, hb⟩
  obtain ⟨sah, snh, skh, rfl⟩ := own_shape ho
  have NEhA := Lib.hid (own_ne_row (b := w.heap.size) ho (Array.getElem?_eq_some_iff.1 RA.out).1)
  have NEhW := Lib.hid (own_ne_row (b := bW) ho (Array.getElem?_eq_some_iff.1 RW.out).1)
  have NEhX := Lib.hid (own_ne_row (b := bX) ho (Array.getElem?_eq_some_iff.1 RX.out).1)
  have NEhG := Lib.hid (own_ne_row (b := bG) ho (Array.getElem?_eq_some_iff.1 RG.out).1)
  have NEgh := Lib.hid (own_ne Og.out ho)
  have NEhg := Lib.hid (own_ne' Og.out ho)
  have Oh := Lib.hid (own_base ho HB.out.size)
  clear ho
  replace HB := Lib.hid (HB.out.trans (hb.mono HB.out.size))
  replace RA := Lib.hid ((hb.block _ (Array.getElem?_eq_some_iff.1 RA.out).1).trans RA.out)
  replace NEsA := Lib.hid (NEsA.out)
  replace Os := Lib.hid (own_below Os.out hb)
  replace NEsW := Lib.hid (NEsW.out)
  replace RW := Lib.hid ((hb.block _ (Array.getElem?_eq_some_iff.1 RW.out).1).trans RW.out)
  replace NEsX := Lib.hid (NEsX.out)
  replace RX := Lib.hid ((hb.block _ (Array.getElem?_eq_some_iff.1 RX.out).1).trans RX.out)
  replace NEuA := Lib.hid (NEuA.out)
  replace NEuW := Lib.hid (NEuW.out)
  replace NEuX := Lib.hid (NEuX.out)
  replace NEsu := Lib.hid (NEsu.out)
  replace NEus := Lib.hid (NEus.out)
  replace NEgA := Lib.hid (NEgA.out)
  replace NEgW := Lib.hid (NEgW.out)
  replace NEgX := Lib.hid (NEgX.out)
  replace NEsg := Lib.hid (NEsg.out)
  replace NEgs := Lib.hid (NEgs.out)
  replace NEug := Lib.hid (NEug.out)
  replace NEgu := Lib.hid (NEgu.out)
  replace Og := Lib.hid (own_below Og.out hb)
  replace NEsG := Lib.hid (NEsG.out)
  replace NEuG := Lib.hid (NEuG.out)
  replace NEgG := Lib.hid (NEgG.out)
  replace RG := Lib.hid ((hb.block _ (Array.getElem?_eq_some_iff.1 RG.out).1).trans RG.out)
  replace NEtcA := Lib.hid (NEtcA.out)
  replace NEtcW := Lib.hid (NEtcW.out)
  replace NEtcX := Lib.hid (NEtcX.out)
  replace NEtcG := Lib.hid (NEtcG.out)
  replace NEgtc := Lib.hid (NEgtc.out)
  replace NEtcg := Lib.hid (NEtcg.out)
  replace Otc := Lib.hid (own_below Otc.out hb)
  replace NEtdA := Lib.hid (NEtdA.out)
  replace NEtdW := Lib.hid (NEtdW.out)
  replace NEtdX := Lib.hid (NEtdX.out)
  replace NEtdG := Lib.hid (NEtdG.out)
  replace NEgtd := Lib.hid (NEgtd.out)
  replace NEtdg := Lib.hid (NEtdg.out)
  replace Otd := Lib.hid (own_below Otd.out hb)
  replace NEhA := Lib.hid (NEhA.out)
  replace NEhW := Lib.hid (NEhW.out)
  replace NEhX := Lib.hid (NEhX.out)
  replace NEhG := Lib.hid (NEhG.out)
  replace NEgh := Lib.hid (NEgh.out)
  replace NEhg := Lib.hid (NEhg.out)
  clear hb
  clear Otc NEtcA NEtcW NEtcX NEtcG NEgtc NEtcg
  clear Otd NEtdA NEtdW NEtdX NEtdG NEgtd NEtdg
  have NEsH := Lib.hid (own_ne_new Os.out)
  have NEgH := Lib.hid (own_ne_new Og.out)
  have NEhH := Lib.hid (own_ne_new Oh.out)
  replace HB := Lib.hid (HB.out.alloc HB.out.size (.cells #[.slice sah snh skh, .string Y] 26))
  replace RA := Lib.hid ((Below.heap_alloc _ (.cells #[.slice sah snh skh, .string Y] 26) _ (Array.getElem?_eq_some_iff.1 RA.out).1).trans RA.out)
  replace NEsA := Lib.hid (NEsA.out)
  replace Os := Lib.hid (Os.out.alloc (.cells #[.slice sah snh skh, .string Y] 26))
  replace NEsW := Lib.hid (NEsW.out)
  replace RW := Lib.hid ((Below.heap_alloc _ (.cells #[.slice sah snh skh, .string Y] 26) _ (Array.getElem?_eq_some_iff.1 RW.out).1).trans RW.out)
  replace NEsX := Lib.hid (NEsX.out)
  replace RX := Lib.hid ((Below.heap_alloc _ (.cells #[.slice sah snh skh, .string Y] 26) _ (Array.getElem?_eq_some_iff.1 RX.out).1).trans RX.out)
  replace NEuA := Lib.hid (NEuA.out)
  replace NEuW := Lib.hid (NEuW.out)
  replace NEuX := Lib.hid (NEuX.out)
  replace NEsu := Lib.hid (NEsu.out)
  replace NEus := Lib.hid (NEus.out)
  replace NEgA := Lib.hid (NEgA.out)
  replace NEgW := Lib.hid (NEgW.out)
  replace NEgX := Lib.hid (NEgX.out)
  replace NEsg := Lib.hid (NEsg.out)
  replace NEgs := Lib.hid (NEgs.out)
  replace NEug := Lib.hid (NEug.out)
  replace NEgu := Lib.hid (NEgu.out)
  replace Og := Lib.hid (Og.out.alloc (.cells #[.slice sah snh skh, .string Y] 26))
  replace NEsG := Lib.hid (NEsG.out)
  replace NEuG := Lib.hid (NEuG.out)
  replace NEgG := Lib.hid (NEgG.out)
  replace RG := Lib.hid ((Below.heap_alloc _ (.cells #[.slice sah snh skh, .string Y] 26) _ (Array.getElem?_eq_some_iff.1 RG.out).1).trans RG.out)
  replace NEhA := Lib.hid (NEhA.out)
  replace NEhW := Lib.hid (NEhW.out)
  replace NEhX := Lib.hid (NEhX.out)
  replace NEhG := Lib.hid (NEhG.out)
  replace NEgh := Lib.hid (NEgh.out)
  replace NEhg := Lib.hid (NEhg.out)
  replace Oh := Lib.hid (Oh.out.alloc (.cells #[.slice sah snh skh, .string Y] 26))
  replace NEsH := Lib.hid (NEsH.out)
  replace NEgH := Lib.hid (NEgH.out)
  replace NEhH := Lib.hid (NEhH.out)
  have RH := Lib.hid (heap_alloc_new (w22_) (.cells #[.slice sah snh skh, .string Y] 26))
  obtain ⟨Hc0, Hc1, -, -⟩ := row2_of RH.out
  obtain ⟨Wc0, Wc1, -, -⟩ := row2_of RW.out
  go_wp2_with fail
  generalize World.alloc (w22_) (.cells #[.slice sah snh skh, .string Y] 26) = w23_ at *
  generalize (w22_).heap.size = bH at *
  refine (eqcode_self _ _ M Y _ (keysAt_own Oh.out) (keysAt_own Os.out) (by first | omega | (simp; omega) | simp)).mono ?_
  rintro e w24_ ⟨rfl, hb⟩
  replace HB := Lib.hid (HB.out.trans (hb.mono HB.out.size))
  replace RA := Lib.hid ((hb.block _ (Array.getElem?_eq_some_iff.1 RA.out).1).trans RA.out)
  replace NEsA := Lib.hid (NEsA.out)
  replace Os := Lib.hid (own_below Os.out hb)
  replace NEsW := Lib.hid (NEsW.out)
  replace RW := Lib.hid ((hb.block _ (Array.getElem?_eq_some_iff.1 RW.out).1).trans RW.out)
  replace NEsX := Lib.hid (NEsX.out)
  replace RX := Lib.hid ((hb.block _ (Array.getElem?_eq_some_iff.1 RX.out).1).trans RX.out)
  replace NEuA := Lib.hid (NEuA.out)
  replace NEuW := Lib.hid (NEuW.out)
  replace NEuX := Lib.hid (NEuX.out)
  replace NEsu := Lib.hid (NEsu.out)
  replace NEus := Lib.hid (NEus.out)
  replace NEgA := Lib.hid (NEgA.out)
  replace NEgW := Lib.hid (NEgW.out)
  replace NEgX := Lib.hid (NEgX.out)
  replace NEsg := Lib.hid (NEsg.out)
  replace NEgs := Lib.hid (NEgs.out)
  replace NEug := Lib.hid (NEug.out)
  replace NEgu := Lib.hid (NEgu.out)
  replace Og := Lib.hid (own_below Og.out hb)
  replace NEsG := Lib.hid (NEsG.out)
  replace NEuG := Lib.hid (NEuG.out)
  replace NEgG := Lib.hid (NEgG.out)
  replace RG := Lib.hid ((hb.block _ (Array.getElem?_eq_some_iff.1 RG.out).1).trans RG.out)
  replace NEhA := Lib.hid (NEhA.out)
  replace NEhW := Lib.hid (NEhW.out)
  replace NEhX := Lib.hid (NEhX.out)
  replace NEhG := Lib.hid (NEhG.out)
  replace NEgh := Lib.hid (NEgh.out)
  replace NEhg := Lib.hid (NEhg.out)
  replace Oh := Lib.hid (own_below Oh.out hb)
  replace NEsH := Lib.hid (NEsH.out)
  replace NEgH := Lib.hid (NEgH.out)
  replace NEhH := Lib.hid (NEhH.out)
  replace RH := Lib.hid ((hb.block _ (Array.getElem?_eq_some_iff.1 RH.out).1).trans RH.out)
  clear hb
  clear Hc0 Hc1 Wc0 Wc1
  obtain ⟨Gc0, Gc1, -, -⟩ := row2_of RG.out
  go_wp2_with fail
  refine (heldcode_any _ M.length Y 1 _ (keysAt_marked Og.out) (by omega) (by omega)).mono ?_
  rintro e w25_ ⟨rfl, hb⟩
  replace HB := Lib.hid (HB.out.trans (hb.mono HB.out.size))
  replace RA := Lib.hid ((hb.block _ (Array.getElem?_eq_some_iff.1 RA.out).1).trans RA.out)
  replace NEsA := Lib.hid (NEsA.out)
  replace Os := Lib.hid (own_below Os.out hb)
  replace NEsW := Lib.hid (NEsW.out)
  replace RW := Lib.hid ((hb.block _ (Array.getElem?_eq_some_iff.1 RW.out).1).trans RW.out)
  replace NEsX := Lib.hid (NEsX.out)
  replace RX := Lib.hid ((hb.block _ (Array.getElem?_eq_some_iff.1 RX.out).1).trans RX.out)
  replace NEuA := Lib.hid (NEuA.out)
  replace NEuW := Lib.hid (NEuW.out)
  replace NEuX := Lib.hid (NEuX.out)
  replace NEsu := Lib.hid (NEsu.out)
  replace NEus := Lib.hid (NEus.out)
  replace NEgA := Lib.hid (NEgA.out)
  replace NEgW := Lib.hid (NEgW.out)
  replace NEgX := Lib.hid (NEgX.out)
  replace NEsg := Lib.hid (NEsg.out)
  replace NEgs := Lib.hid (NEgs.out)
  replace NEug := Lib.hid (NEug.out)
  replace NEgu := Lib.hid (NEgu.out)
  replace Og := Lib.hid (own_below Og.out hb)
  replace NEsG := Lib.hid (NEsG.out)
  replace NEuG := Lib.hid (NEuG.out)
  replace NEgG := Lib.hid (NEgG.out)
  replace RG := Lib.hid ((hb.block _ (Array.getElem?_eq_some_iff.1 RG.out).1).trans RG.out)
  replace NEhA := Lib.hid (NEhA.out)
  replace NEhW := Lib.hid (NEhW.out)
  replace NEhX := Lib.hid (NEhX.out)
  replace NEhG := Lib.hid (NEhG.out)
  replace NEgh := Lib.hid (NEgh.out)
  replace NEhg := Lib.hid (NEhg.out)
  replace Oh := Lib.hid (own_below Oh.out hb)
  replace NEsH := Lib.hid (NEsH.out)
  replace NEgH := Lib.hid (NEgH.out)
  replace NEhH := Lib.hid (NEhH.out)
  replace RH := Lib.hid ((hb.block _ (Array.getElem?_eq_some_iff.1 RH.out).1).trans RH.out)
  clear hb
  clear Gc0 Gc1
  go_wp2
  go_ret
  exact ⟨rfl, HB.out⟩
end Go.Proofs.Ytnknfmjpkphbpaa
