/- Texts of this seat, one behind the other (part 3): what the laws of chapter 5 lean on. -/
import Derived.Test.YtnknfmjpkphbpaaPk2
import Derived.Deep.SlicePairs
import Derived.Lib.SmallJoins
import Derived.Deep.QuietTactic
import Derived.BigQuiet
import Derived.RangeFuncBox
import Derived.RangeFuncNested
import Derived.RangeFuncLeaves
import Derived.Shelf.Abstract
import Derived.WalkKit
import Derived.OwnWalkIn
import Derived.TacticsInMore
import Derived.LoopNIn
import Derived.LoopIn
import Derived.Maps.AppendAt
import Derived.WalkLawsBesides
import Derived.Lib.Hide
import Derived.Maps.OwnIn

set_option linter.unusedVariables false
set_option linter.unusedSimpArgs false

/- Words of several readings: the exact laws of the small functions, walked. -/
namespace Go.Proofs.Ytnknfmjpkphbpaa
open Go.ChangeShapes Go.WideShapes Go.ChangeAt Go.RowKit Go.BigFrame
set_option linter.unusedVariables false

theorem keysAt_nil (w : World) : keysAt w (.slice none 0 0) [] := ⟨none, 0, rfl, by simp, .inl rfl⟩
set_option maxRecDepth 100000 in
set_option maxHeartbeats 4000000 in
theorem excodeok_walk (v : Value) (ks : List K2) (y : ByteArray) (w : World) (h : keysAt w v ks) (hn : ks.length ≤ maxLen) (hy : y.size ≤ maxLen) : Calls Try.prog 6 #[.agg #[v, .string y]] w fun e w' => e = .returned (.bool true) ∧ Below w.heap.size w w' := by
  unfold maxLen at hn hy
  have HB := Lib.hid ((Below.refl w.heap.size w).alloc (Nat.le_refl _) (.cells #[v, .string y] 50))
  have RA := Lib.hid (heap_alloc_new w (.cells #[v, .string y] 50))
  have TC := Lib.hid (fun w' (hb : Below w.heap.size w w') (hl : ks.length ≤ 1048576) => tocode_any v ks y w' (keysAt_below h hb) (by omega))
  obtain ⟨a, cap, rfl, -, -⟩ := h
  have SZ := Lib.hid (fun w' => szcode_any (.slice a ks.length cap) ks y 1048576 w' ⟨a, cap, rfl⟩ (by omega) hn hy)
  go_enter Try.func6, Try.ntmps6
  obtain ⟨Ac0, Ac1, -, -⟩ := row2_of RA.out
  go_wp2_with fail
  generalize w.alloc (.cells #[.slice a ks.length cap, .string y] 50) = W at *
  refine (SZ.out _).mono ?_
  rintro e w1 ⟨rfl, hb⟩
  replace HB := Lib.hid (HB.out.trans (hb.mono HB.out.size))
  replace RA := Lib.hid ((hb.block _ (Array.getElem?_eq_some_iff.1 RA.out).1).trans RA.out)
  clear hb SZ Ac0 Ac1
  rcases szC_cases 1048576 ks.length y.size (by omega) with hneg | ⟨hneg, h0, h1, hl0, hy0⟩
  · generalize szC 1048576 ks.length y.size = x at *
    go_wp2
    go_ret
    exact ⟨rfl, HB.out⟩
  have hl : ks.length ≤ 1048576 := by omega
  have hy2 : y.size ≤ 1048576 := by omega
  clear hl0 hy0
  generalize szC 1048576 ks.length y.size = x at *
  have SC := Lib.hid (fun w' v' (h : keysAt w' v' ks) => scodeok_any v' ks y w' h (by omega))
  have IC := Lib.hid (fun w' v' (h : keysAt w' v' ks) => icodeok_any v' ks y w' h (by omega))
  generalize codeOkB (ks, y) = bo at *
  obtain ⟨Ac0, Ac1, -, -⟩ := row2_of RA.out
  go_wp2_with fail
  refine (TC.out _ HB.out hl).mono ?_
  rintro e w1_ ⟨vs, rfl, ho, hb⟩
  obtain ⟨sas, sns, sks, rfl⟩ := own_shape ho
  have NEsA := Lib.hid (own_ne_row (b := w.heap.size) ho (Array.getElem?_eq_some_iff.1 RA.out).1)
  have Os := Lib.hid (own_base ho HB.out.size)
  clear ho
  replace HB := Lib.hid (HB.out.trans (hb.mono HB.out.size))
  replace RA := Lib.hid ((hb.block _ (Array.getElem?_eq_some_iff.1 RA.out).1).trans RA.out)
  replace NEsA := Lib.hid (NEsA.out)
  clear hb
  clear Ac0 Ac1
  go_wp2_with fail
  refine (SC.out _ _ (keysAt_own Os.out)).mono ?_
  rintro e w2_ ⟨rfl, hb⟩
  replace HB := Lib.hid (HB.out.trans (hb.mono HB.out.size))
  replace RA := Lib.hid ((hb.block _ (Array.getElem?_eq_some_iff.1 RA.out).1).trans RA.out)
  replace NEsA := Lib.hid (NEsA.out)
  replace Os := Lib.hid (own_below Os.out hb)
  clear hb
  clear Os NEsA
  obtain ⟨Ac0, Ac1, -, -⟩ := row2_of RA.out
  go_wp2_with fail
  refine (TC.out _ HB.out hl).mono ?_
  rintro e w3_ ⟨vx, rfl, ho, hb⟩
  obtain ⟨sax, snx, skx, rfl⟩ := own_shape ho
  have NExA := Lib.hid (own_ne_row (b := w.heap.size) ho (Array.getElem?_eq_some_iff.1 RA.out).1)
  have Ox := Lib.hid (own_base ho HB.out.size)
  clear ho
  replace HB := Lib.hid (HB.out.trans (hb.mono HB.out.size))
  replace RA := Lib.hid ((hb.block _ (Array.getElem?_eq_some_iff.1 RA.out).1).trans RA.out)
  replace NExA := Lib.hid (NExA.out)
  clear hb
  clear Ac0 Ac1
  have NExX := Lib.hid (own_ne_new Ox.out)
  replace HB := Lib.hid (HB.out.alloc HB.out.size (.cells #[.slice sax snx skx, .string y] 26))
  replace RA := Lib.hid ((Below.heap_alloc _ (.cells #[.slice sax snx skx, .string y] 26) _ (Array.getElem?_eq_some_iff.1 RA.out).1).trans RA.out)
  replace NExA := Lib.hid (NExA.out)
  replace Ox := Lib.hid (Ox.out.alloc (.cells #[.slice sax snx skx, .string y] 26))
  replace NExX := Lib.hid (NExX.out)
  have RX := Lib.hid (heap_alloc_new (w3_) (.cells #[.slice sax snx skx, .string y] 26))
  obtain ⟨Xc0, Xc1, -, -⟩ := row2_of RX.out
  go_wp2_with fail
  generalize World.alloc (w3_) (.cells #[.slice sax snx skx, .string y] 26) = w4_ at *
  generalize (w3_).heap.size = bX at *
  refine (IC.out _ _ (keysAt_own Ox.out)).mono ?_
  rintro e w5_ ⟨rfl, hb⟩
  replace HB := Lib.hid (HB.out.trans (hb.mono HB.out.size))
  replace RA := Lib.hid ((hb.block _ (Array.getElem?_eq_some_iff.1 RA.out).1).trans RA.out)
  replace NExA := Lib.hid (NExA.out)
  replace Ox := Lib.hid (own_below Ox.out hb)
  replace NExX := Lib.hid (NExX.out)
  replace RX := Lib.hid ((hb.block _ (Array.getElem?_eq_some_iff.1 RX.out).1).trans RX.out)
  clear hb
  clear Xc0 Xc1
  go_wp2_with fail
  have LX : ∀ w' : World, w'.heap[bX]? = some (.cells #[.slice sax snx skx, .string y] 26) ∧ w'.heap[w.heap.size]? = some (.cells #[.slice a ks.length cap, .string y] 50) → (loadVar 26 ⟨bX, 0, none⟩).run Try.prog w' = .ok (.agg #[.slice sax snx skx, .string y]) w' := fun w' h => cd_load h.1 (Below.refl _ _)
  have LA : ∀ w' : World, w'.heap[bX]? = some (.cells #[.slice sax snx skx, .string y] 26) ∧ w'.heap[w.heap.size]? = some (.cells #[.slice a ks.length cap, .string y] 50) → (loadVar 50 ⟨w.heap.size, 0, none⟩).run Try.prog w' = .ok (.agg #[.slice a ks.length cap, .string y]) w' := fun w' h => lcd_load h.2
  refine wp_region_G (fun w' => w'.heap[bX]? = some (.cells #[.slice sax snx skx, .string y] 26) ∧ w'.heap[w.heap.size]? = some (.cells #[.slice a ks.length cap, .string y] 50)) (by kernel_rfl) ?_
  replace HB := Lib.hid (HB.out.drew)
  replace RA := Lib.hid (show (World.drew _).heap[_]? = _ from RA.out)
  replace NExA := Lib.hid (NExA.out)
  replace Ox := Lib.hid (Ox.out.drew)
  replace NExX := Lib.hid (NExX.out)
  replace RX := Lib.hid (show (World.drew _).heap[_]? = _ from RX.out)
  generalize (w5_).drew = wD5 at *
  refine wpG_seg [true, true] [2] 2 (by kernel_rfl) (by intro c a d v w h; cases d <;> exact h) (by kernel_rfl) ⟨RX.out, RA.out⟩ ?_
  try simp only [maskRows]
  repeat (first
    | go_big_quiet_skip
    | (go_big_quiet_want
       first
         | (go_big_quiet_op; go_big_quiet_on)
         | (refine q_load 26 _ _ _ rfl rfl LX ?_; simp only [Act.put, List.setIfInBounds_toArray, List.set_cons_zero, List.set_cons_succ]; go_big_quiet_on)
         | (refine q_load 50 _ _ _ rfl rfl LA ?_; simp only [Act.put, List.setIfInBounds_toArray, List.set_cons_zero, List.set_cons_succ]; go_big_quiet_on)
         | (go_big_quiet_op; refine ⟨_, fun _ _ => rfl, ?_⟩; go_big_quiet_on)
         | (go_big_quiet_op; refine ⟨_, fun _ _ _ => rfl, ?_⟩; go_big_quiet_on)))
  refine wpQuiet_nil ?_
  refine List.forall_mem_singleton.2 ?_
  refine segt_run rfl (by rfl) (fun K hK => ?_)
  go_simp
  refine (TC.out _ HB.out hl).mono ?_
  rintro e w6_ ⟨vz, rfl, ho, hb⟩
  dsimp only
  obtain ⟨saz, snz, skz, rfl⟩ := own_shape ho
  have NEzA := Lib.hid (own_ne_row (b := w.heap.size) ho (Array.getElem?_eq_some_iff.1 RA.out).1)
  have NEzX := Lib.hid (own_ne_row (b := bX) ho (Array.getElem?_eq_some_iff.1 RX.out).1)
  have Oz := Lib.hid (own_base ho HB.out.size)
  clear ho
  replace HB := Lib.hid (HB.out.trans (hb.mono HB.out.size))
  replace RA := Lib.hid ((hb.block _ (Array.getElem?_eq_some_iff.1 RA.out).1).trans RA.out)
  replace NExA := Lib.hid (NExA.out)
  replace Ox := Lib.hid (own_below Ox.out hb)
  replace NExX := Lib.hid (NExX.out)
  replace RX := Lib.hid ((hb.block _ (Array.getElem?_eq_some_iff.1 RX.out).1).trans RX.out)
  replace NEzA := Lib.hid (NEzA.out)
  replace NEzX := Lib.hid (NEzX.out)
  clear hb
  refine hK _ _ ⟨_, fun _ h => h, ⟨RX.out, RA.out⟩, ?_⟩
  clear hK K
  try simp only [Act.put, List.setIfInBounds_toArray, List.set_cons_zero, List.set_cons_succ]
  refine wpG_seg [] [3] 1 (by kernel_rfl) (by intro c a d v w h; cases d <;> exact h) (by kernel_rfl) ⟨RX.out, RA.out⟩ ?_
  try simp only [maskRows]
  refine wpQuiet_nil ?_
  refine List.forall_mem_singleton.2 ?_
  refine segt_run rfl (by rfl) (fun K hK => ?_)
  go_simp
  refine (eqcode_self _ _ ks y _ (keysAt_own Ox.out) (keysAt_own Oz.out) (by omega)).mono ?_
  rintro e w7_ ⟨rfl, hb⟩
  dsimp only
  replace HB := Lib.hid (HB.out.trans (hb.mono HB.out.size))
  replace RA := Lib.hid ((hb.block _ (Array.getElem?_eq_some_iff.1 RA.out).1).trans RA.out)
  replace NExA := Lib.hid (NExA.out)
  replace Ox := Lib.hid (own_below Ox.out hb)
  replace NExX := Lib.hid (NExX.out)
  replace RX := Lib.hid ((hb.block _ (Array.getElem?_eq_some_iff.1 RX.out).1).trans RX.out)
  replace NEzA := Lib.hid (NEzA.out)
  replace NEzX := Lib.hid (NEzX.out)
  replace Oz := Lib.hid (own_below Oz.out hb)
  clear hb
  refine hK _ _ ⟨_, fun _ h => h, ⟨RX.out, RA.out⟩, ?_⟩
  clear hK K
  try simp only [Act.put, List.setIfInBounds_toArray, List.set_cons_zero, List.set_cons_succ]
  refine wpG_end [false, false, false, false, true] (by kernel_rfl) (by intro c a d v w h; cases d <;> exact h) (by kernel_rfl) ⟨RX.out, RA.out⟩ ?_
  try simp only [maskRows]
  repeat (first
    | go_big_quiet_skip
    | (go_big_quiet_want
       first
         | (go_big_quiet_op; go_big_quiet_on)
         | (refine q_load 26 _ _ _ rfl rfl LX ?_; simp only [Act.put, List.setIfInBounds_toArray, List.set_cons_zero, List.set_cons_succ]; go_big_quiet_on)
         | (refine q_load 50 _ _ _ rfl rfl LA ?_; simp only [Act.put, List.setIfInBounds_toArray, List.set_cons_zero, List.set_cons_succ]; go_big_quiet_on)
         | (go_big_quiet_op; refine ⟨_, fun _ _ => rfl, ?_⟩; go_big_quiet_on)
         | (go_big_quiet_op; refine ⟨_, fun _ _ _ => rfl, ?_⟩; go_big_quiet_on)))
  refine wpQuiet_nil ?_
  clear LX LA
  clear Oz NEzA NEzX
  go_wp2
  go_ret
  exact ⟨rfl, HB.out⟩
set_option maxRecDepth 100000 in
set_option maxHeartbeats 4000000 in
theorem exblank_walk (v : Value) (ks : List K2) (y : ByteArray) (w : World) (h : keysAt w v ks) (hn : ks.length ≤ maxLen) (hy : y.size ≤ maxLen) : Calls Try.prog 7 #[.agg #[v, .string y]] w fun e w' => e = .returned (.bool true) ∧ Below w.heap.size w w' := by
  unfold maxLen at hn hy
  have HB := Lib.hid ((Below.refl w.heap.size w).alloc (Nat.le_refl _) (.cells #[v, .string y] 50))
  have RA := Lib.hid (heap_alloc_new w (.cells #[v, .string y] 50))
  have TC := Lib.hid (fun w' (hb : Below w.heap.size w w') (hl : ks.length ≤ 1048576) => tocode_any v ks y w' (keysAt_below h hb) (by omega))
  obtain ⟨a, cap, rfl, -, -⟩ := h
  have SZ := Lib.hid (fun w' => szcode_any (.slice a ks.length cap) ks y 1048576 w' ⟨a, cap, rfl⟩ (by omega) hn hy)
  go_enter Try.func7, Try.ntmps7
  obtain ⟨Ac0, Ac1, -, -⟩ := row2_of RA.out
  go_wp2_with fail
  generalize w.alloc (.cells #[.slice a ks.length cap, .string y] 50) = W at *
  refine (SZ.out _).mono ?_
  rintro e w1 ⟨rfl, hb⟩
  replace HB := Lib.hid (HB.out.trans (hb.mono HB.out.size))
  replace RA := Lib.hid ((hb.block _ (Array.getElem?_eq_some_iff.1 RA.out).1).trans RA.out)
  clear hb SZ Ac0 Ac1
  rcases szC_cases 1048576 ks.length y.size (by omega) with hneg | ⟨hneg, h0, h1, hl0, hy0⟩
  · generalize szC 1048576 ks.length y.size = x at *
    go_wp2
    go_ret
    exact ⟨rfl, HB.out⟩
  have hl : ks.length ≤ 1048576 := by omega
  have hy2 : y.size ≤ 1048576 := by omega
  clear hl0 hy0
  generalize szC 1048576 ks.length y.size = x at *
  obtain ⟨Ac0, Ac1, -, -⟩ := row2_of RA.out
  go_wp2_with fail
  refine (TC.out _ HB.out hl).mono ?_
  rintro e w1_ ⟨vt, rfl, ho, hb⟩
  obtain ⟨sat, snt, skt, rfl⟩ := own_shape ho
  have NEtA := Lib.hid (own_ne_row (b := w.heap.size) ho (Array.getElem?_eq_some_iff.1 RA.out).1)
  have Ot := Lib.hid (own_base ho HB.out.size)
  clear ho
  replace HB := Lib.hid (HB.out.trans (hb.mono HB.out.size))
  replace RA := Lib.hid ((hb.block _ (Array.getElem?_eq_some_iff.1 RA.out).1).trans RA.out)
  replace NEtA := Lib.hid (NEtA.out)
  clear hb
  clear Ac0 Ac1
  go_wp2_with fail
  refine (sblank_any _ _ _).mono ?_
  rintro e w2_ ⟨vs, rfl, ho, hb⟩
  obtain ⟨sas, sns, sks, rfl⟩ := own_shape ho
  have NEsA := Lib.hid (own_ne_row (b := w.heap.size) ho (Array.getElem?_eq_some_iff.1 RA.out).1)
  have Os := Lib.hid (own_base ho HB.out.size)
  clear ho
  replace HB := Lib.hid (HB.out.trans (hb.mono HB.out.size))
  replace RA := Lib.hid ((hb.block _ (Array.getElem?_eq_some_iff.1 RA.out).1).trans RA.out)
  replace NEtA := Lib.hid (NEtA.out)
  replace Ot := Lib.hid (own_below Ot.out hb)
  replace NEsA := Lib.hid (NEsA.out)
  clear hb
  clear Ot NEtA
  have NEsW := Lib.hid (own_ne_new Os.out)
  replace HB := Lib.hid (HB.out.alloc HB.out.size (.cells #[.slice sas sns sks, .string z4] 26))
  replace RA := Lib.hid ((Below.heap_alloc _ (.cells #[.slice sas sns sks, .string z4] 26) _ (Array.getElem?_eq_some_iff.1 RA.out).1).trans RA.out)
  replace NEsA := Lib.hid (NEsA.out)
  replace Os := Lib.hid (Os.out.alloc (.cells #[.slice sas sns sks, .string z4] 26))
  replace NEsW := Lib.hid (NEsW.out)
  have RW := Lib.hid (heap_alloc_new (w2_) (.cells #[.slice sas sns sks, .string z4] 26))
  obtain ⟨Ac0, Ac1, -, -⟩ := row2_of RA.out
  go_wp2_with fail
  generalize World.alloc (w2_) (.cells #[.slice sas sns sks, .string z4] 26) = w3_ at *
  generalize (w2_).heap.size = bW at *
  refine (TC.out _ HB.out hl).mono ?_
  rintro e w4_ ⟨vx, rfl, ho, hb⟩
  obtain ⟨sax, snx, skx, rfl⟩ := own_shape ho
  have NExA := Lib.hid (own_ne_row (b := w.heap.size) ho (Array.getElem?_eq_some_iff.1 RA.out).1)
  have NExW := Lib.hid (own_ne_row (b := bW) ho (Array.getElem?_eq_some_iff.1 RW.out).1)
  have NEsx := Lib.hid (own_ne Os.out ho)
  have NExs := Lib.hid (own_ne' Os.out ho)
  have Ox := Lib.hid (own_base ho HB.out.size)
  clear ho
  replace HB := Lib.hid (HB.out.trans (hb.mono HB.out.size))
  replace RA := Lib.hid ((hb.block _ (Array.getElem?_eq_some_iff.1 RA.out).1).trans RA.out)
  replace NEsA := Lib.hid (NEsA.out)
  replace Os := Lib.hid (own_below Os.out hb)
  replace NEsW := Lib.hid (NEsW.out)
  replace RW := Lib.hid ((hb.block _ (Array.getElem?_eq_some_iff.1 RW.out).1).trans RW.out)
  replace NExA := Lib.hid (NExA.out)
  replace NExW := Lib.hid (NExW.out)
  replace NEsx := Lib.hid (NEsx.out)
  replace NExs := Lib.hid (NExs.out)
  clear hb
  clear Ac0 Ac1
  have NEsX := Lib.hid (own_ne_new Os.out)
  have NExX := Lib.hid (own_ne_new Ox.out)
  replace HB := Lib.hid (HB.out.alloc HB.out.size (.cells #[.slice sax snx skx, .string y] 26))
  replace RA := Lib.hid ((Below.heap_alloc _ (.cells #[.slice sax snx skx, .string y] 26) _ (Array.getElem?_eq_some_iff.1 RA.out).1).trans RA.out)
  replace NEsA := Lib.hid (NEsA.out)
  replace Os := Lib.hid (Os.out.alloc (.cells #[.slice sax snx skx, .string y] 26))
  replace NEsW := Lib.hid (NEsW.out)
  replace RW := Lib.hid ((Below.heap_alloc _ (.cells #[.slice sax snx skx, .string y] 26) _ (Array.getElem?_eq_some_iff.1 RW.out).1).trans RW.out)
  replace NExA := Lib.hid (NExA.out)
  replace NExW := Lib.hid (NExW.out)
  replace NEsx := Lib.hid (NEsx.out)
  replace NExs := Lib.hid (NExs.out)
  replace Ox := Lib.hid (Ox.out.alloc (.cells #[.slice sax snx skx, .string y] 26))
  replace NEsX := Lib.hid (NEsX.out)
  replace NExX := Lib.hid (NExX.out)
  have RX := Lib.hid (heap_alloc_new (w4_) (.cells #[.slice sax snx skx, .string y] 26))
  obtain ⟨Xc0, Xc1, -, -⟩ := row2_of RX.out
  go_wp2_with fail
  generalize World.alloc (w4_) (.cells #[.slice sax snx skx, .string y] 26) = w5_ at *
  generalize (w4_).heap.size = bX at *
  refine (iblank_any _ _ _).mono ?_
  rintro e w6_ ⟨rfl, hb⟩
  replace HB := Lib.hid (HB.out.trans (hb.mono HB.out.size))
  replace RA := Lib.hid ((hb.block _ (Array.getElem?_eq_some_iff.1 RA.out).1).trans RA.out)
  replace NEsA := Lib.hid (NEsA.out)
  replace Os := Lib.hid (own_below Os.out hb)
  replace NEsW := Lib.hid (NEsW.out)
  replace RW := Lib.hid ((hb.block _ (Array.getElem?_eq_some_iff.1 RW.out).1).trans RW.out)
  replace NExA := Lib.hid (NExA.out)
  replace NExW := Lib.hid (NExW.out)
  replace NEsx := Lib.hid (NEsx.out)
  replace NExs := Lib.hid (NExs.out)
  replace Ox := Lib.hid (own_below Ox.out hb)
  replace NEsX := Lib.hid (NEsX.out)
  replace NExX := Lib.hid (NExX.out)
  replace RX := Lib.hid ((hb.block _ (Array.getElem?_eq_some_iff.1 RX.out).1).trans RX.out)
  clear hb
  clear Xc0 Xc1
  have NEsG := Lib.hid (own_ne_new Os.out)
  have NExG := Lib.hid (own_ne_new Ox.out)
  replace HB := Lib.hid (HB.out.alloc HB.out.size (.cells #[.slice none 0 0, .string z4] 26))
  replace RA := Lib.hid ((Below.heap_alloc _ (.cells #[.slice none 0 0, .string z4] 26) _ (Array.getElem?_eq_some_iff.1 RA.out).1).trans RA.out)
  replace NEsA := Lib.hid (NEsA.out)
  replace Os := Lib.hid (Os.out.alloc (.cells #[.slice none 0 0, .string z4] 26))
  replace NEsW := Lib.hid (NEsW.out)
  replace RW := Lib.hid ((Below.heap_alloc _ (.cells #[.slice none 0 0, .string z4] 26) _ (Array.getElem?_eq_some_iff.1 RW.out).1).trans RW.out)
  replace NExA := Lib.hid (NExA.out)
  replace NExW := Lib.hid (NExW.out)
  replace NEsx := Lib.hid (NEsx.out)
  replace NExs := Lib.hid (NExs.out)
  replace Ox := Lib.hid (Ox.out.alloc (.cells #[.slice none 0 0, .string z4] 26))
  replace NEsX := Lib.hid (NEsX.out)
  replace NExX := Lib.hid (NExX.out)
  replace RX := Lib.hid ((Below.heap_alloc _ (.cells #[.slice none 0 0, .string z4] 26) _ (Array.getElem?_eq_some_iff.1 RX.out).1).trans RX.out)
  replace NEsG := Lib.hid (NEsG.out)
  replace NExG := Lib.hid (NExG.out)
  have RG := Lib.hid (heap_alloc_new (w6_) (.cells #[.slice none 0 0, .string z4] 26))
  obtain ⟨Gc0, Gc1, -, -⟩ := row2_of RG.out
  obtain ⟨Wc0, Wc1, -, -⟩ := row2_of RW.out
  go_wp2_with fail
  generalize World.alloc (w6_) (.cells #[.slice none 0 0, .string z4] 26) = w7_ at *
  generalize (w6_).heap.size = bG at *
  refine (eqcode_self _ _ [] z4 _ (keysAt_nil _) (keysAt_own Os.out) (by first | omega | (simp; omega) | simp)).mono ?_
  rintro e w8_ ⟨rfl, hb⟩
  replace HB := Lib.hid (HB.out.trans (hb.mono HB.out.size))
  replace RA := Lib.hid ((hb.block _ (Array.getElem?_eq_some_iff.1 RA.out).1).trans RA.out)
  replace NEsA := Lib.hid (NEsA.out)
  replace Os := Lib.hid (own_below Os.out hb)
  replace NEsW := Lib.hid (NEsW.out)
  replace RW := Lib.hid ((hb.block _ (Array.getElem?_eq_some_iff.1 RW.out).1).trans RW.out)
  replace NExA := Lib.hid (NExA.out)
  replace NExW := Lib.hid (NExW.out)
  replace NEsx := Lib.hid (NEsx.out)
  replace NExs := Lib.hid (NExs.out)
  replace Ox := Lib.hid (own_below Ox.out hb)
  replace NEsX := Lib.hid (NEsX.out)
  replace NExX := Lib.hid (NExX.out)
  replace RX := Lib.hid ((hb.block _ (Array.getElem?_eq_some_iff.1 RX.out).1).trans RX.out)
  replace NEsG := Lib.hid (NEsG.out)
  replace NExG := Lib.hid (NExG.out)
  replace RG := Lib.hid ((hb.block _ (Array.getElem?_eq_some_iff.1 RG.out).1).trans RG.out)
  clear hb
  clear Gc0 Gc1 Wc0 Wc1
  go_wp2_with fail
  have LX : ∀ w' : World, w'.heap[bX]? = some (.cells #[.slice sax snx skx, .string y] 26) ∧ w'.heap[w.heap.size]? = some (.cells #[.slice a ks.length cap, .string y] 50) → (loadVar 26 ⟨bX, 0, none⟩).run Try.prog w' = .ok (.agg #[.slice sax snx skx, .string y]) w' := fun w' h => cd_load h.1 (Below.refl _ _)
  have LA : ∀ w' : World, w'.heap[bX]? = some (.cells #[.slice sax snx skx, .string y] 26) ∧ w'.heap[w.heap.size]? = some (.cells #[.slice a ks.length cap, .string y] 50) → (loadVar 50 ⟨w.heap.size, 0, none⟩).run Try.prog w' = .ok (.agg #[.slice a ks.length cap, .string y]) w' := fun w' h => lcd_load h.2
  refine wp_region_G (fun w' => w'.heap[bX]? = some (.cells #[.slice sax snx skx, .string y] 26) ∧ w'.heap[w.heap.size]? = some (.cells #[.slice a ks.length cap, .string y] 50)) (by kernel_rfl) ?_
  replace HB := Lib.hid (HB.out.drew)
  replace RA := Lib.hid (show (World.drew _).heap[_]? = _ from RA.out)
  replace NEsA := Lib.hid (NEsA.out)
  replace Os := Lib.hid (Os.out.drew)
  replace NEsW := Lib.hid (NEsW.out)
  replace RW := Lib.hid (show (World.drew _).heap[_]? = _ from RW.out)
  replace NExA := Lib.hid (NExA.out)
  replace NExW := Lib.hid (NExW.out)
  replace NEsx := Lib.hid (NEsx.out)
  replace NExs := Lib.hid (NExs.out)
  replace Ox := Lib.hid (Ox.out.drew)
  replace NEsX := Lib.hid (NEsX.out)
  replace NExX := Lib.hid (NExX.out)
  replace RX := Lib.hid (show (World.drew _).heap[_]? = _ from RX.out)
  replace NEsG := Lib.hid (NEsG.out)
  replace NExG := Lib.hid (NExG.out)
  replace RG := Lib.hid (show (World.drew _).heap[_]? = _ from RG.out)
  generalize (w8_).drew = wD8 at *
  refine wpG_seg [true, true] [2] 2 (by kernel_rfl) (by intro c a d v w h; cases d <;> exact h) (by kernel_rfl) ⟨RX.out, RA.out⟩ ?_
  try simp only [maskRows]
  repeat (first
    | go_big_quiet_skip
    | (go_big_quiet_want
       first
         | (go_big_quiet_op; go_big_quiet_on)
         | (refine q_load 26 _ _ _ rfl rfl LX ?_; simp only [Act.put, List.setIfInBounds_toArray, List.set_cons_zero, List.set_cons_succ]; go_big_quiet_on)
         | (refine q_load 50 _ _ _ rfl rfl LA ?_; simp only [Act.put, List.setIfInBounds_toArray, List.set_cons_zero, List.set_cons_succ]; go_big_quiet_on)
         | (go_big_quiet_op; refine ⟨_, fun _ _ => rfl, ?_⟩; go_big_quiet_on)
         | (go_big_quiet_op; refine ⟨_, fun _ _ _ => rfl, ?_⟩; go_big_quiet_on)))
  refine wpQuiet_nil ?_
  refine List.forall_mem_singleton.2 ?_
  refine segt_run rfl (by rfl) (fun K hK => ?_)
  go_simp
  refine (TC.out _ HB.out hl).mono ?_
  rintro e w9_ ⟨vz, rfl, ho, hb⟩
  dsimp only
  obtain ⟨saz, snz, skz, rfl⟩ := own_shape ho
  have NEzA := Lib.hid (own_ne_row (b := w.heap.size) ho (Array.getElem?_eq_some_iff.1 RA.out).1)
  have NEzW := Lib.hid (own_ne_row (b := bW) ho (Array.getElem?_eq_some_iff.1 RW.out).1)
  have NEzX := Lib.hid (own_ne_row (b := bX) ho (Array.getElem?_eq_some_iff.1 RX.out).1)
  have NEzG := Lib.hid (own_ne_row (b := bG) ho (Array.getElem?_eq_some_iff.1 RG.out).1)
  have NExz := Lib.hid (own_ne Ox.out ho)
  have NEzx := Lib.hid (own_ne' Ox.out ho)
  have Oz := Lib.hid (own_base ho HB.out.size)
  clear ho
  replace HB := Lib.hid (HB.out.trans (hb.mono HB.out.size))
  replace RA := Lib.hid ((hb.block _ (Array.getElem?_eq_some_iff.1 RA.out).1).trans RA.out)
  replace NEsA := Lib.hid (NEsA.out)
  replace Os := Lib.hid (own_below Os.out hb)
  replace NEsW := Lib.hid (NEsW.out)
  replace RW := Lib.hid ((hb.block _ (Array.getElem?_eq_some_iff.1 RW.out).1).trans RW.out)
  replace NExA := Lib.hid (NExA.out)
  replace NExW := Lib.hid (NExW.out)
  replace NEsx := Lib.hid (NEsx.out)
  replace NExs := Lib.hid (NExs.out)
  replace Ox := Lib.hid (own_below Ox.out hb)
  replace NEsX := Lib.hid (NEsX.out)
  replace NExX := Lib.hid (NExX.out)
  replace RX := Lib.hid ((hb.block _ (Array.getElem?_eq_some_iff.1 RX.out).1).trans RX.out)
  replace NEsG := Lib.hid (NEsG.out)
  replace NExG := Lib.hid (NExG.out)
  replace RG := Lib.hid ((hb.block _ (Array.getElem?_eq_some_iff.1 RG.out).1).trans RG.out)
  replace NEzA := Lib.hid (NEzA.out)
  replace NEzW := Lib.hid (NEzW.out)
  replace NEzX := Lib.hid (NEzX.out)
  replace NEzG := Lib.hid (NEzG.out)
  replace NExz := Lib.hid (NExz.out)
  replace NEzx := Lib.hid (NEzx.out)
  clear hb
  refine hK _ _ ⟨_, fun _ h => h, ⟨RX.out, RA.out⟩, ?_⟩
  clear hK K
  try simp only [Act.put, List.setIfInBounds_toArray, List.set_cons_zero, List.set_cons_succ]
  refine wpG_seg [] [3] 1 (by kernel_rfl) (by intro c a d v w h; cases d <;> exact h) (by kernel_rfl) ⟨RX.out, RA.out⟩ ?_
  try simp only [maskRows]
  refine wpQuiet_nil ?_
  refine List.forall_mem_singleton.2 ?_
  refine segt_run rfl (by rfl) (fun K hK => ?_)
  go_simp
  refine (eqcode_self _ _ ks y _ (keysAt_own Ox.out) (keysAt_own Oz.out) (by omega)).mono ?_
  rintro e w10_ ⟨rfl, hb⟩
  dsimp only
  replace HB := Lib.hid (HB.out.trans (hb.mono HB.out.size))
  replace RA := Lib.hid ((hb.block _ (Array.getElem?_eq_some_iff.1 RA.out).1).trans RA.out)
  replace NEsA := Lib.hid (NEsA.out)
  replace Os := Lib.hid (own_below Os.out hb)
  replace NEsW := Lib.hid (NEsW.out)
  replace RW := Lib.hid ((hb.block _ (Array.getElem?_eq_some_iff.1 RW.out).1).trans RW.out)
  replace NExA := Lib.hid (NExA.out)
  replace NExW := Lib.hid (NExW.out)
  replace NEsx := Lib.hid (NEsx.out)
  replace NExs := Lib.hid (NExs.out)
  replace Ox := Lib.hid (own_below Ox.out hb)
  replace NEsX := Lib.hid (NEsX.out)
  replace NExX := Lib.hid (NExX.out)
  replace RX := Lib.hid ((hb.block _ (Array.getElem?_eq_some_iff.1 RX.out).1).trans RX.out)
  replace NEsG := Lib.hid (NEsG.out)
  replace NExG := Lib.hid (NExG.out)
  replace RG := Lib.hid ((hb.block _ (Array.getElem?_eq_some_iff.1 RG.out).1).trans RG.out)
  replace NEzA := Lib.hid (NEzA.out)
  replace NEzW := Lib.hid (NEzW.out)
  replace NEzX := Lib.hid (NEzX.out)
  replace NEzG := Lib.hid (NEzG.out)
  replace NExz := Lib.hid (NExz.out)
  replace NEzx := Lib.hid (NEzx.out)
  replace Oz := Lib.hid (own_below Oz.out hb)
  clear hb
  refine hK _ _ ⟨_, fun _ h => h, ⟨RX.out, RA.out⟩, ?_⟩
  clear hK K
  try simp only [Act.put, List.setIfInBounds_toArray, List.set_cons_zero, List.set_cons_succ]
  refine wpG_end [false, false, false, false, true] (by kernel_rfl) (by intro c a d v w h; cases d <;> exact h) (by kernel_rfl) ⟨RX.out, RA.out⟩ ?_
  try simp only [maskRows]
  repeat (first
    | go_big_quiet_skip
    | (go_big_quiet_want
       first
         | (go_big_quiet_op; go_big_quiet_on)
         | (refine q_load 26 _ _ _ rfl rfl LX ?_; simp only [Act.put, List.setIfInBounds_toArray, List.set_cons_zero, List.set_cons_succ]; go_big_quiet_on)
         | (refine q_load 50 _ _ _ rfl rfl LA ?_; simp only [Act.put, List.setIfInBounds_toArray, List.set_cons_zero, List.set_cons_succ]; go_big_quiet_on)
         | (go_big_quiet_op; refine ⟨_, fun _ _ => rfl, ?_⟩; go_big_quiet_on)
         | (go_big_quiet_op; refine ⟨_, fun _ _ _ => rfl, ?_⟩; go_big_quiet_on)))
  refine wpQuiet_nil ?_
  clear LX LA
  clear Oz NEzA NEzW NEzX NEzG NExz NEzx
  obtain ⟨Xc0, Xc1, -, -⟩ := row2_of RX.out
  go_wp2_with fail
  refine (markcode_any _ _ ks.length _ y 1 _ Ox.out (by omega) (by omega) HB.out.size).mono ?_
  rintro e w11_ ⟨rfl, hom, hgr⟩
  replace HB := Lib.hid (HB.out.grown hgr HB.out.size (fun g e => (Ox.out.lt g e).1))
  replace Os := Lib.hid (Os.out.kept hgr NEsx.out)
  replace RA := Lib.hid ((hgr.block _ (Array.getElem?_eq_some_iff.1 RA.out).1 (fun e => NExA.out e.symm)).trans RA.out)
  replace RW := Lib.hid ((hgr.block _ (Array.getElem?_eq_some_iff.1 RW.out).1 (fun e => NExW.out e.symm)).trans RW.out)
  replace RX := Lib.hid ((hgr.block _ (Array.getElem?_eq_some_iff.1 RX.out).1 (fun e => NExX.out e.symm)).trans RX.out)
  replace RG := Lib.hid ((hgr.block _ (Array.getElem?_eq_some_iff.1 RG.out).1 (fun e => NExG.out e.symm)).trans RG.out)
  replace Ox := Lib.hid hom
  clear hom hgr
  clear Xc0 Xc1
  have q3 : ¬ (1 : Int) + 2 * (ks.length : Int) < 0 := by omega
  obtain ⟨Gc0, Gc1, -, -⟩ := row2_of RG.out
  obtain ⟨Wc0, Wc1, -, -⟩ := row2_of RW.out
  go_wp2_with fail
  refine (eqcode_self _ _ [] z4 _ (keysAt_nil _) (keysAt_own Os.out) (by first | omega | (simp; omega) | simp)).mono ?_
  rintro e w12_ ⟨rfl, hb⟩
  replace HB := Lib.hid (HB.out.trans (hb.mono HB.out.size))
  replace RA := Lib.hid ((hb.block _ (Array.getElem?_eq_some_iff.1 RA.out).1).trans RA.out)
  replace NEsA := Lib.hid (NEsA.out)
  replace Os := Lib.hid (own_below Os.out hb)
  replace NEsW := Lib.hid (NEsW.out)
  replace RW := Lib.hid ((hb.block _ (Array.getElem?_eq_some_iff.1 RW.out).1).trans RW.out)
  replace NExA := Lib.hid (NExA.out)
  replace NExW := Lib.hid (NExW.out)
  replace NEsx := Lib.hid (NEsx.out)
  replace NExs := Lib.hid (NExs.out)
  replace Ox := Lib.hid (own_below Ox.out hb)
  replace NEsX := Lib.hid (NEsX.out)
  replace NExX := Lib.hid (NExX.out)
  replace RX := Lib.hid ((hb.block _ (Array.getElem?_eq_some_iff.1 RX.out).1).trans RX.out)
  replace NEsG := Lib.hid (NEsG.out)
  replace NExG := Lib.hid (NExG.out)
  replace RG := Lib.hid ((hb.block _ (Array.getElem?_eq_some_iff.1 RG.out).1).trans RG.out)
  clear hb
  clear Gc0 Gc1 Wc0 Wc1
  clear Ox NExA NExW NEsx NExs NExX NExG
  obtain ⟨Gc0, Gc1, -, -⟩ := row2_of RG.out
  go_wp2_with fail
  refine (markcode_any w.heap.size _ 0 [] z4 1 _ (World.ownsRow_nil _ _ _ _) (by omega) (by omega) HB.out.size).mono ?_
  rintro e w13_ ⟨rfl, -, hgr⟩
  have hb := below_of_grown hgr
  replace HB := Lib.hid (HB.out.trans (hb.mono HB.out.size))
  replace RA := Lib.hid ((hb.block _ (Array.getElem?_eq_some_iff.1 RA.out).1).trans RA.out)
  replace NEsA := Lib.hid (NEsA.out)
  replace Os := Lib.hid (own_below Os.out hb)
  replace NEsW := Lib.hid (NEsW.out)
  replace RW := Lib.hid ((hb.block _ (Array.getElem?_eq_some_iff.1 RW.out).1).trans RW.out)
  replace NEsX := Lib.hid (NEsX.out)
  replace RX := Lib.hid ((hb.block _ (Array.getElem?_eq_some_iff.1 RX.out).1).trans RX.out)
  replace NEsG := Lib.hid (NEsG.out)
  replace RG := Lib.hid ((hb.block _ (Array.getElem?_eq_some_iff.1 RG.out).1).trans RG.out)
  clear hb hgr
  clear Gc0 Gc1
  obtain ⟨Gc0, Gc1, -, -⟩ := row2_of RG.out
  go_wp2_with fail
  refine (heldcode_any _ 0 z4 1 _ (keysAt_nil _) (by omega) (by omega)).mono ?_
  rintro e w14_ ⟨rfl, hb⟩
  replace HB := Lib.hid (HB.out.trans (hb.mono HB.out.size))
  replace RA := Lib.hid ((hb.block _ (Array.getElem?_eq_some_iff.1 RA.out).1).trans RA.out)
  replace NEsA := Lib.hid (NEsA.out)
  replace Os := Lib.hid (own_below Os.out hb)
  replace NEsW := Lib.hid (NEsW.out)
  replace RW := Lib.hid ((hb.block _ (Array.getElem?_eq_some_iff.1 RW.out).1).trans RW.out)
  replace NEsX := Lib.hid (NEsX.out)
  replace RX := Lib.hid ((hb.block _ (Array.getElem?_eq_some_iff.1 RX.out).1).trans RX.out)
  replace NEsG := Lib.hid (NEsG.out)
  replace RG := Lib.hid ((hb.block _ (Array.getElem?_eq_some_iff.1 RG.out).1).trans RG.out)
  clear hb
  clear Gc0 Gc1
  obtain ⟨Ac0, Ac1, -, -⟩ := row2_of RA.out
  go_wp2_with fail
  refine (TC.out _ HB.out hl).mono ?_
  rintro e w15_ ⟨vu, rfl, ho, hb⟩
  obtain ⟨sau, snu, sku, rfl⟩ := own_shape ho
  have NEuA := Lib.hid (own_ne_row (b := w.heap.size) ho (Array.getElem?_eq_some_iff.1 RA.out).1)
  have NEuW := Lib.hid (own_ne_row (b := bW) ho (Array.getElem?_eq_some_iff.1 RW.out).1)
  have NEuX := Lib.hid (own_ne_row (b := bX) ho (Array.getElem?_eq_some_iff.1 RX.out).1)
  have NEuG := Lib.hid (own_ne_row (b := bG) ho (Array.getElem?_eq_some_iff.1 RG.out).1)
  have Ou := Lib.hid (own_base ho HB.out.size)
  clear ho
  replace HB := Lib.hid (HB.out.trans (hb.mono HB.out.size))
  replace RA := Lib.hid ((hb.block _ (Array.getElem?_eq_some_iff.1 RA.out).1).trans RA.out)
  replace NEsA := Lib.hid (NEsA.out)
  replace Os := Lib.hid (own_below Os.out hb)
  replace NEsW := Lib.hid (NEsW.out)
  replace RW := Lib.hid ((hb.block _ (Array.getElem?_eq_some_iff.1 RW.out).1).trans RW.out)
  replace NEsX := Lib.hid (NEsX.out)
  replace RX := Lib.hid ((hb.block _ (Array.getElem?_eq_some_iff.1 RX.out).1).trans RX.out)
  replace NEsG := Lib.hid (NEsG.out)
  replace RG := Lib.hid ((hb.block _ (Array.getElem?_eq_some_iff.1 RG.out).1).trans RG.out)
  replace NEuA := Lib.hid (NEuA.out)
  replace NEuW := Lib.hid (NEuW.out)
  replace NEuX := Lib.hid (NEuX.out)
  replace NEuG := Lib.hid (NEuG.out)
  clear hb
  clear Ac0 Ac1
  go_wp2_with fail
  refine (iblank_any _ _ _).mono ?_
  rintro e w16_ ⟨rfl, hb⟩
  replace HB := Lib.hid (HB.out.trans (hb.mono HB.out.size))
  replace RA := Lib.hid ((hb.block _ (Array.getElem?_eq_some_iff.1 RA.out).1).trans RA.out)
  replace NEsA := Lib.hid (NEsA.out)
  replace Os := Lib.hid (own_below Os.out hb)
  replace NEsW := Lib.hid (NEsW.out)
  replace RW := Lib.hid ((hb.block _ (Array.getElem?_eq_some_iff.1 RW.out).1).trans RW.out)
  replace NEsX := Lib.hid (NEsX.out)
  replace RX := Lib.hid ((hb.block _ (Array.getElem?_eq_some_iff.1 RX.out).1).trans RX.out)
  replace NEsG := Lib.hid (NEsG.out)
  replace RG := Lib.hid ((hb.block _ (Array.getElem?_eq_some_iff.1 RG.out).1).trans RG.out)
  replace NEuA := Lib.hid (NEuA.out)
  replace NEuW := Lib.hid (NEuW.out)
  replace NEuX := Lib.hid (NEuX.out)
  replace NEuG := Lib.hid (NEuG.out)
  replace Ou := Lib.hid (own_below Ou.out hb)
  clear hb
  clear Ou NEuA NEuW NEuX NEuG
  have NEsH := Lib.hid (own_ne_new Os.out)
  replace HB := Lib.hid (HB.out.alloc HB.out.size (.cells #[.slice none 0 0, .string z4] 26))
  replace RA := Lib.hid ((Below.heap_alloc _ (.cells #[.slice none 0 0, .string z4] 26) _ (Array.getElem?_eq_some_iff.1 RA.out).1).trans RA.out)
  replace NEsA := Lib.hid (NEsA.out)
  replace Os := Lib.hid (Os.out.alloc (.cells #[.slice none 0 0, .string z4] 26))
  replace NEsW := Lib.hid (NEsW.out)
  replace RW := Lib.hid ((Below.heap_alloc _ (.cells #[.slice none 0 0, .string z4] 26) _ (Array.getElem?_eq_some_iff.1 RW.out).1).trans RW.out)
  replace NEsX := Lib.hid (NEsX.out)
  replace RX := Lib.hid ((Below.heap_alloc _ (.cells #[.slice none 0 0, .string z4] 26) _ (Array.getElem?_eq_some_iff.1 RX.out).1).trans RX.out)
  replace NEsG := Lib.hid (NEsG.out)
  replace RG := Lib.hid ((Below.heap_alloc _ (.cells #[.slice none 0 0, .string z4] 26) _ (Array.getElem?_eq_some_iff.1 RG.out).1).trans RG.out)
  replace NEsH := Lib.hid (NEsH.out)
  have RH := Lib.hid (heap_alloc_new (w16_) (.cells #[.slice none 0 0, .string z4] 26))
  obtain ⟨Hc0, Hc1, -, -⟩ := row2_of RH.out
  obtain ⟨Wc0, Wc1, -, -⟩ := row2_of RW.out
  go_wp2_with fail
  generalize World.alloc (w16_) (.cells #[.slice none 0 0, .string z4] 26) = w17_ at *
  generalize (w16_).heap.size = bH at *
  refine (eqcode_self _ _ [] z4 _ (keysAt_nil _) (keysAt_own Os.out) (by first | omega | (simp; omega) | simp)).mono ?_
  rintro e w18_ ⟨rfl, hb⟩
  replace HB := Lib.hid (HB.out.trans (hb.mono HB.out.size))
  replace RA := Lib.hid ((hb.block _ (Array.getElem?_eq_some_iff.1 RA.out).1).trans RA.out)
  replace NEsA := Lib.hid (NEsA.out)
  replace Os := Lib.hid (own_below Os.out hb)
  replace NEsW := Lib.hid (NEsW.out)
  replace RW := Lib.hid ((hb.block _ (Array.getElem?_eq_some_iff.1 RW.out).1).trans RW.out)
  replace NEsX := Lib.hid (NEsX.out)
  replace RX := Lib.hid ((hb.block _ (Array.getElem?_eq_some_iff.1 RX.out).1).trans RX.out)
  replace NEsG := Lib.hid (NEsG.out)
  replace RG := Lib.hid ((hb.block _ (Array.getElem?_eq_some_iff.1 RG.out).1).trans RG.out)
  replace NEsH := Lib.hid (NEsH.out)
  replace RH := Lib.hid ((hb.block _ (Array.getElem?_eq_some_iff.1 RH.out).1).trans RH.out)
  clear hb
  clear Hc0 Hc1 Wc0 Wc1
  obtain ⟨Gc0, Gc1, -, -⟩ := row2_of RG.out
  go_wp2_with fail
  refine (heldcode_any _ 0 z4 1 _ (keysAt_nil _) (by omega) (by omega)).mono ?_
  rintro e w19_ ⟨rfl, hb⟩
  replace HB := Lib.hid (HB.out.trans (hb.mono HB.out.size))
  replace RA := Lib.hid ((hb.block _ (Array.getElem?_eq_some_iff.1 RA.out).1).trans RA.out)
  replace NEsA := Lib.hid (NEsA.out)
  replace Os := Lib.hid (own_below Os.out hb)
  replace NEsW := Lib.hid (NEsW.out)
  replace RW := Lib.hid ((hb.block _ (Array.getElem?_eq_some_iff.1 RW.out).1).trans RW.out)
  replace NEsX := Lib.hid (NEsX.out)
  replace RX := Lib.hid ((hb.block _ (Array.getElem?_eq_some_iff.1 RX.out).1).trans RX.out)
  replace NEsG := Lib.hid (NEsG.out)
  replace RG := Lib.hid ((hb.block _ (Array.getElem?_eq_some_iff.1 RG.out).1).trans RG.out)
  replace NEsH := Lib.hid (NEsH.out)
  replace RH := Lib.hid ((hb.block _ (Array.getElem?_eq_some_iff.1 RH.out).1).trans RH.out)
  clear hb
  clear Gc0 Gc1
  go_wp2
  go_ret
  exact ⟨rfl, HB.out⟩
set_option maxRecDepth 100000 in
set_option maxHeartbeats 4000000 in
theorem exsingle_walk (r : R3) (w : World) (hrx : r.2.size ≤ maxLen) : Calls Try.prog 8 #[rv r] w fun e w' => e = .returned (.bool true) ∧ Below w.heap.size w w' := by
  unfold maxLen at hrx
  have SZ := Lib.hid (fun w => szreading_any r 1048576 w (by omega) hrx)
  have TK := Lib.hid (fun w => toreading_any r w)
  have SS := Lib.hid (fun w => ssingle_any r w)
  have IS := Lib.hid (fun w => isingle_any r w)
  have hM1 : (singM r).1.length ≤ 1 := by unfold singM; split <;> simp [blankC]
  generalize (singM r).1 = M at *
  generalize (singM r).2 = Y at *
  obtain ⟨⟨n, s⟩, y⟩ := r
  unfold rv at *
  dsimp only at *
  have HB := Lib.hid ((Below.refl w.heap.size w).alloc (Nat.le_refl _) (.cells #[.int .i64 n, .int .i64 s, .string y] 57))
  have RA := Lib.hid (heap_alloc_new w (.cells #[.int .i64 n, .int .i64 s, .string y] 57))
  obtain ⟨Ac0, Ac1, Ac2, -, -, -⟩ := row3_of RA.out
  go_enter Try.func8, Try.ntmps8
  go_wp2_with fail
  generalize w.alloc (.cells #[.int .i64 n, .int .i64 s, .string y] 57) = W at *
  refine (SZ.out _).mono ?_
  rintro e w1 ⟨rfl, hb⟩
  replace HB := Lib.hid (HB.out.trans (hb.mono HB.out.size))
  replace RA := Lib.hid ((hb.block _ (Array.getElem?_eq_some_iff.1 RA.out).1).trans RA.out)
  clear hb SZ Ac0 Ac1 Ac2
  by_cases hneg : (1048576 : Int) - (y.size : Int) < 0
  · rw [if_pos hneg]
    go_wp2
    go_ret
    exact ⟨rfl, HB.out⟩
  rw [if_neg hneg]
  obtain ⟨Ac0, Ac1, Ac2, -, -, -⟩ := row3_of RA.out
  go_wp2_with fail
  refine (TK.out _).mono ?_
  rintro e w1_ ⟨rfl, hb⟩
  replace HB := Lib.hid (HB.out.trans (hb.mono HB.out.size))
  replace RA := Lib.hid ((hb.block _ (Array.getElem?_eq_some_iff.1 RA.out).1).trans RA.out)
  clear hb
  clear Ac0 Ac1 Ac2
  go_wp2_with fail
  refine (SS.out _).mono ?_
  rintro e w2_ ⟨vs, rfl, ho, hb⟩
  obtain ⟨sas, sns, sks, rfl⟩ := own_shape ho
  have NEsA := Lib.hid (own_ne_row (b := w.heap.size) ho (Array.getElem?_eq_some_iff.1 RA.out).1)
  have Os := Lib.hid (own_base ho HB.out.size)
  clear ho
  replace HB := Lib.hid (HB.out.trans (hb.mono HB.out.size))
  replace RA := Lib.hid ((hb.block _ (Array.getElem?_eq_some_iff.1 RA.out).1).trans RA.out)
  replace NEsA := Lib.hid (NEsA.out)
  clear hb
  have NEsW := Lib.hid (own_ne_new Os.out)
  replace HB := Lib.hid (HB.out.alloc HB.out.size (.cells #[.slice sas sns sks, .string Y] 26))
  replace RA := Lib.hid ((Below.heap_alloc _ (.cells #[.slice sas sns sks, .string Y] 26) _ (Array.getElem?_eq_some_iff.1 RA.out).1).trans RA.out)
  replace NEsA := Lib.hid (NEsA.out)
  replace Os := Lib.hid (Os.out.alloc (.cells #[.slice sas sns sks, .string Y] 26))
  replace NEsW := Lib.hid (NEsW.out)
  have RW := Lib.hid (heap_alloc_new (w2_) (.cells #[.slice sas sns sks, .string Y] 26))
  obtain ⟨Ac0, Ac1, Ac2, -, -, -⟩ := row3_of RA.out
  go_wp2_with fail
  generalize World.alloc (w2_) (.cells #[.slice sas sns sks, .string Y] 26) = w3_ at *
  generalize (w2_).heap.size = bW at *
  refine (TK.out _).mono ?_
  rintro e w4_ ⟨rfl, hb⟩
  replace HB := Lib.hid (HB.out.trans (hb.mono HB.out.size))
  replace RA := Lib.hid ((hb.block _ (Array.getElem?_eq_some_iff.1 RA.out).1).trans RA.out)
  replace NEsA := Lib.hid (NEsA.out)
  replace Os := Lib.hid (own_below Os.out hb)
  replace NEsW := Lib.hid (NEsW.out)
  replace RW := Lib.hid ((hb.block _ (Array.getElem?_eq_some_iff.1 RW.out).1).trans RW.out)
  clear hb
  clear Ac0 Ac1 Ac2
  go_wp2_with fail
  refine (IS.out _).mono ?_
  rintro e w5_ ⟨vg, rfl, ho, hb⟩
  obtain ⟨sag, sng, skg, rfl⟩ := own_shape ho
  have NEgA := Lib.hid (own_ne_row (b := w.heap.size) ho (Array.getElem?_eq_some_iff.1 RA.out).1)
  have NEgW := Lib.hid (own_ne_row (b := bW) ho (Array.getElem?_eq_some_iff.1 RW.out).1)
  have NEsg := Lib.hid (own_ne Os.out ho)
  have NEgs := Lib.hid (own_ne' Os.out ho)
  have Og := Lib.hid (own_base ho HB.out.size)
  clear ho
  replace HB := Lib.hid (HB.out.trans (hb.mono HB.out.size))
  replace RA := Lib.hid ((hb.block _ (Array.getElem?_eq_some_iff.1 RA.out).1).trans RA.out)
  replace NEsA := Lib.hid (NEsA.out)
  replace Os := Lib.hid (own_below Os.out hb)
  replace NEsW := Lib.hid (NEsW.out)
  replace RW := Lib.hid ((hb.block _ (Array.getElem?_eq_some_iff.1 RW.out).1).trans RW.out)
  replace NEgA := Lib.hid (NEgA.out)
  replace NEgW := Lib.hid (NEgW.out)
  replace NEsg := Lib.hid (NEsg.out)
  replace NEgs := Lib.hid (NEgs.out)
  clear hb
  have NEsG := Lib.hid (own_ne_new Os.out)
  have NEgG := Lib.hid (own_ne_new Og.out)
  replace HB := Lib.hid (HB.out.alloc HB.out.size (.cells #[.slice sag sng skg, .string Y] 26))
  replace RA := Lib.hid ((Below.heap_alloc _ (.cells #[.slice sag sng skg, .string Y] 26) _ (Array.getElem?_eq_some_iff.1 RA.out).1).trans RA.out)
  replace NEsA := Lib.hid (NEsA.out)
  replace Os := Lib.hid (Os.out.alloc (.cells #[.slice sag sng skg, .string Y] 26))
  replace NEsW := Lib.hid (NEsW.out)
  replace RW := Lib.hid ((Below.heap_alloc _ (.cells #[.slice sag sng skg, .string Y] 26) _ (Array.getElem?_eq_some_iff.1 RW.out).1).trans RW.out)
  replace NEgA := Lib.hid (NEgA.out)
  replace NEgW := Lib.hid (NEgW.out)
  replace NEsg := Lib.hid (NEsg.out)
  replace NEgs := Lib.hid (NEgs.out)
  replace Og := Lib.hid (Og.out.alloc (.cells #[.slice sag sng skg, .string Y] 26))
  replace NEsG := Lib.hid (NEsG.out)
  replace NEgG := Lib.hid (NEgG.out)
  have RG := Lib.hid (heap_alloc_new (w5_) (.cells #[.slice sag sng skg, .string Y] 26))
  obtain ⟨Gc0, Gc1, -, -⟩ := row2_of RG.out
  obtain ⟨Wc0, Wc1, -, -⟩ := row2_of RW.out
  go_wp2_with fail
  generalize World.alloc (w5_) (.cells #[.slice sag sng skg, .string Y] 26) = w6_ at *
  generalize (w5_).heap.size = bG at *
  refine (eqcode_self _ _ M Y _ (keysAt_own Og.out) (keysAt_own Os.out) (by first | omega | (simp; omega) | simp)).mono ?_
  rintro e w7_ ⟨rfl, hb⟩
  replace HB := Lib.hid (HB.out.trans (hb.mono HB.out.size))
  replace RA := Lib.hid ((hb.block _ (Array.getElem?_eq_some_iff.1 RA.out).1).trans RA.out)
  replace NEsA := Lib.hid (NEsA.out)
  replace Os := Lib.hid (own_below Os.out hb)
  replace NEsW := Lib.hid (NEsW.out)
  replace RW := Lib.hid ((hb.block _ (Array.getElem?_eq_some_iff.1 RW.out).1).trans RW.out)
  replace NEgA := Lib.hid (NEgA.out)
  replace NEgW := Lib.hid (NEgW.out)
  replace NEsg := Lib.hid (NEsg.out)
  replace NEgs := Lib.hid (NEgs.out)
  replace Og := Lib.hid (own_below Og.out hb)
  replace NEsG := Lib.hid (NEsG.out)
  replace NEgG := Lib.hid (NEgG.out)
  replace RG := Lib.hid ((hb.block _ (Array.getElem?_eq_some_iff.1 RG.out).1).trans RG.out)
  clear hb
  clear Gc0 Gc1 Wc0 Wc1
  obtain ⟨Gc0, Gc1, -, -⟩ := row2_of RG.out
  go_wp2_with fail
  refine (markcode_any _ _ M.length _ Y 1 _ Og.out (by omega) (by omega) HB.out.size).mono ?_
  rintro e w8_ ⟨rfl, hom, hgr⟩
  replace HB := Lib.hid (HB.out.grown hgr HB.out.size (fun g e => (Og.out.lt g e).1))
  replace Os := Lib.hid (Os.out.kept hgr NEsg.out)
  replace RA := Lib.hid ((hgr.block _ (Array.getElem?_eq_some_iff.1 RA.out).1 (fun e => NEgA.out e.symm)).trans RA.out)
  replace RW := Lib.hid ((hgr.block _ (Array.getElem?_eq_some_iff.1 RW.out).1 (fun e => NEgW.out e.symm)).trans RW.out)
  replace RG := Lib.hid ((hgr.block _ (Array.getElem?_eq_some_iff.1 RG.out).1 (fun e => NEgG.out e.symm)).trans RG.out)
  replace Og := Lib.hid hom
  clear hom hgr
  clear Gc0 Gc1
  have q3 : ¬ (1 : Int) + 2 * (M.length : Int) < 0 := by omega
  obtain ⟨Gc0, Gc1, -, -⟩ := row2_of RG.out
  go_wp2_with fail
  refine (heldcode_any _ M.length Y 1 _ (keysAt_marked Og.out) (by omega) (by omega)).mono ?_
  rintro e w9_ ⟨rfl, hb⟩
  replace HB := Lib.hid (HB.out.trans (hb.mono HB.out.size))
  replace RA := Lib.hid ((hb.block _ (Array.getElem?_eq_some_iff.1 RA.out).1).trans RA.out)
  replace NEsA := Lib.hid (NEsA.out)
  replace Os := Lib.hid (own_below Os.out hb)
  replace NEsW := Lib.hid (NEsW.out)
  replace RW := Lib.hid ((hb.block _ (Array.getElem?_eq_some_iff.1 RW.out).1).trans RW.out)
  replace NEgA := Lib.hid (NEgA.out)
  replace NEgW := Lib.hid (NEgW.out)
  replace NEsg := Lib.hid (NEsg.out)
  replace NEgs := Lib.hid (NEgs.out)
  replace Og := Lib.hid (own_below Og.out hb)
  replace NEsG := Lib.hid (NEsG.out)
  replace NEgG := Lib.hid (NEgG.out)
  replace RG := Lib.hid ((hb.block _ (Array.getElem?_eq_some_iff.1 RG.out).1).trans RG.out)
  clear hb
  clear Gc0 Gc1
  obtain ⟨Ac0, Ac1, Ac2, -, -, -⟩ := row3_of RA.out
  go_wp2_with fail
  refine (TK.out _).mono ?_
  rintro e w10_ ⟨rfl, hb⟩
  replace HB := Lib.hid (HB.out.trans (hb.mono HB.out.size))
  replace RA := Lib.hid ((hb.block _ (Array.getElem?_eq_some_iff.1 RA.out).1).trans RA.out)
  replace NEsA := Lib.hid (NEsA.out)
  replace Os := Lib.hid (own_below Os.out hb)
  replace NEsW := Lib.hid (NEsW.out)
  replace RW := Lib.hid ((hb.block _ (Array.getElem?_eq_some_iff.1 RW.out).1).trans RW.out)
  replace NEgA := Lib.hid (NEgA.out)
  replace NEgW := Lib.hid (NEgW.out)
  replace NEsg := Lib.hid (NEsg.out)
  replace NEgs := Lib.hid (NEgs.out)
  replace Og := Lib.hid (own_below Og.out hb)
  replace NEsG := Lib.hid (NEsG.out)
  replace NEgG := Lib.hid (NEgG.out)
  replace RG := Lib.hid ((hb.block _ (Array.getElem?_eq_some_iff.1 RG.out).1).trans RG.out)
  clear hb
  clear Ac0 Ac1 Ac2
  go_wp2_with fail
  refine (IS.out _).mono ?_
  rintro e w11_ ⟨vh, rfl, ho, hb⟩
  obtain ⟨sah, snh, skh, rfl⟩ := own_shape ho
  have NEhA := Lib.hid (own_ne_row (b := w.heap.size) ho (Array.getElem?_eq_some_iff.1 RA.out).1)
  have NEhW := Lib.hid (own_ne_row (b := bW) ho (Array.getElem?_eq_some_iff.1 RW.out).1)
  have NEhG := Lib.hid (own_ne_row (b := bG) ho (Array.getElem?_eq_some_iff.1 RG.out).1)
  have NEgh := Lib.hid (own_ne Og.out ho)
  have NEhg := Lib.hid (own_ne' Og.out ho)
  have Oh := Lib.hid (own_base ho HB.out.size)
  clear ho
  replace HB := Lib.hid (HB.out.trans (hb.mono HB.out.size))
  replace RA := Lib.hid ((hb.block _ (Array.getElem?_eq_some_iff.1 RA.out).1).trans RA.out)
  replace NEsA := Lib.hid (NEsA.out)
  replace Os := Lib.hid (own_below Os.out hb)
  replace NEsW := Lib.hid (NEsW.out)
  replace RW := Lib.hid ((hb.block _ (Array.getElem?_eq_some_iff.1 RW.out).1).trans RW.out)
  replace NEgA := Lib.hid (NEgA.out)
  replace NEgW := Lib.hid (NEgW.out)
  replace NEsg := Lib.hid (NEsg.out)
  replace NEgs := Lib.hid (NEgs.out)
  replace Og := Lib.hid (own_below Og.out hb)
  replace NEsG := Lib.hid (NEsG.out)
  replace NEgG := Lib.hid (NEgG.out)
  replace RG := Lib.hid ((hb.block _ (Array.getElem?_eq_some_iff.1 RG.out).1).trans RG.out)
  replace NEhA := Lib.hid (NEhA.out)
  replace NEhW := Lib.hid (NEhW.out)
  replace NEhG := Lib.hid (NEhG.out)
  replace NEgh := Lib.hid (NEgh.out)
  replace NEhg := Lib.hid (NEhg.out)
  clear hb
  have NEsH := Lib.hid (own_ne_new Os.out)
  have NEgH := Lib.hid (own_ne_new Og.out)
  have NEhH := Lib.hid (own_ne_new Oh.out)
  replace HB := Lib.hid (HB.out.alloc HB.out.size (.cells #[.slice sah snh skh, .string Y] 26))
  replace RA := Lib.hid ((Below.heap_alloc _ (.cells #[.slice sah snh skh, .string Y] 26) _ (Array.getElem?_eq_some_iff.1 RA.out).1).trans RA.out)
  replace NEsA := Lib.hid (NEsA.out)
  replace Os := Lib.hid (Os.out.alloc (.cells #[.slice sah snh skh, .string Y] 26))
  replace NEsW := Lib.hid (NEsW.out)
  replace RW := Lib.hid ((Below.heap_alloc _ (.cells #[.slice sah snh skh, .string Y] 26) _ (Array.getElem?_eq_some_iff.1 RW.out).1).trans RW.out)
  replace NEgA := Lib.hid (NEgA.out)
  replace NEgW := Lib.hid (NEgW.out)
  replace NEsg := Lib.hid (NEsg.out)
  replace NEgs := Lib.hid (NEgs.out)
  replace Og := Lib.hid (Og.out.alloc (.cells #[.slice sah snh skh, .string Y] 26))
  replace NEsG := Lib.hid (NEsG.out)
  replace NEgG := Lib.hid (NEgG.out)
  replace RG := Lib.hid ((Below.heap_alloc _ (.cells #[.slice sah snh skh, .string Y] 26) _ (Array.getElem?_eq_some_iff.1 RG.out).1).trans RG.out)
  replace NEhA := Lib.hid (NEhA.out)
  replace NEhW := Lib.hid (NEhW.out)
  replace NEhG := Lib.hid (NEhG.out)
  replace NEgh := Lib.hid (NEgh.out)
  replace NEhg := Lib.hid (NEhg.out)
  replace Oh := Lib.hid (Oh.out.alloc (.cells #[.slice sah snh skh, .string Y] 26))
  replace NEsH := Lib.hid (NEsH.out)
  replace NEgH := Lib.hid (NEgH.out)
  replace NEhH := Lib.hid (NEhH.out)
  have RH := Lib.hid (heap_alloc_new (w11_) (.cells #[.slice sah snh skh, .string Y] 26))
  obtain ⟨Hc0, Hc1, -, -⟩ := row2_of RH.out
  obtain ⟨Wc0, Wc1, -, -⟩ := row2_of RW.out
  go_wp2_with fail
  generalize World.alloc (w11_) (.cells #[.slice sah snh skh, .string Y] 26) = w12_ at *
  generalize (w11_).heap.size = bH at *
  refine (eqcode_self _ _ M Y _ (keysAt_own Oh.out) (keysAt_own Os.out) (by first | omega | (simp; omega) | simp)).mono ?_
  rintro e w13_ ⟨rfl, hb⟩
  replace HB := Lib.hid (HB.out.trans (hb.mono HB.out.size))
  replace RA := Lib.hid ((hb.block _ (Array.getElem?_eq_some_iff.1 RA.out).1).trans RA.out)
  replace NEsA := Lib.hid (NEsA.out)
  replace Os := Lib.hid (own_below Os.out hb)
  replace NEsW := Lib.hid (NEsW.out)
  replace RW := Lib.hid ((hb.block _ (Array.getElem?_eq_some_iff.1 RW.out).1).trans RW.out)
  replace NEgA := Lib.hid (NEgA.out)
  replace NEgW := Lib.hid (NEgW.out)
  replace NEsg := Lib.hid (NEsg.out)
  replace NEgs := Lib.hid (NEgs.out)
  replace Og := Lib.hid (own_below Og.out hb)
  replace NEsG := Lib.hid (NEsG.out)
  replace NEgG := Lib.hid (NEgG.out)
  replace RG := Lib.hid ((hb.block _ (Array.getElem?_eq_some_iff.1 RG.out).1).trans RG.out)
  replace NEhA := Lib.hid (NEhA.out)
  replace NEhW := Lib.hid (NEhW.out)
  replace NEhG := Lib.hid (NEhG.out)
  replace NEgh := Lib.hid (NEgh.out)
  replace NEhg := Lib.hid (NEhg.out)
  replace Oh := Lib.hid (own_below Oh.out hb)
  replace NEsH := Lib.hid (NEsH.out)
  replace NEgH := Lib.hid (NEgH.out)
  replace NEhH := Lib.hid (NEhH.out)
  replace RH := Lib.hid ((hb.block _ (Array.getElem?_eq_some_iff.1 RH.out).1).trans RH.out)
  clear hb
  clear Hc0 Hc1 Wc0 Wc1
  obtain ⟨Gc0, Gc1, -, -⟩ := row2_of RG.out
  go_wp2_with fail
  refine (heldcode_any _ M.length Y 1 _ (keysAt_marked Og.out) (by omega) (by omega)).mono ?_
  rintro e w14_ ⟨rfl, hb⟩
  replace HB := Lib.hid (HB.out.trans (hb.mono HB.out.size))
  replace RA := Lib.hid ((hb.block _ (Array.getElem?_eq_some_iff.1 RA.out).1).trans RA.out)
  replace NEsA := Lib.hid (NEsA.out)
  replace Os := Lib.hid (own_below Os.out hb)
  replace NEsW := Lib.hid (NEsW.out)
  replace RW := Lib.hid ((hb.block _ (Array.getElem?_eq_some_iff.1 RW.out).1).trans RW.out)
  replace NEgA := Lib.hid (NEgA.out)
  replace NEgW := Lib.hid (NEgW.out)
  replace NEsg := Lib.hid (NEsg.out)
  replace NEgs := Lib.hid (NEgs.out)
  replace Og := Lib.hid (own_below Og.out hb)
  replace NEsG := Lib.hid (NEsG.out)
  replace NEgG := Lib.hid (NEgG.out)
  replace RG := Lib.hid ((hb.block _ (Array.getElem?_eq_some_iff.1 RG.out).1).trans RG.out)
  replace NEhA := Lib.hid (NEhA.out)
  replace NEhW := Lib.hid (NEhW.out)
  replace NEhG := Lib.hid (NEhG.out)
  replace NEgh := Lib.hid (NEgh.out)
  replace NEhg := Lib.hid (NEhg.out)
  replace Oh := Lib.hid (own_below Oh.out hb)
  replace NEsH := Lib.hid (NEsH.out)
  replace NEgH := Lib.hid (NEgH.out)
  replace NEhH := Lib.hid (NEhH.out)
  replace RH := Lib.hid ((hb.block _ (Array.getElem?_eq_some_iff.1 RH.out).1).trans RH.out)
  clear hb
  clear Gc0 Gc1
  go_wp2
  go_ret
  exact ⟨rfl, HB.out⟩
end Go.Proofs.Ytnknfmjpkphbpaa
/- Words that came in as arguments, opened. -/
namespace Go.Proofs.Ytnknfmjpkphbpaa
open Go.ChangeShapes Go.WideShapes Go.ChangeAt Go.RowKit Go.Deep
set_option linter.unusedVariables false

theorem keys_cells {H : Type} {enc : TypeId × Value → H} {W : World} {base : Nat} {sp : Nat → Bool} {held : Bool} {n : Nat} {cs : List Value} {y : DataW H × List MemPlace}
    (h : DataW.trod enc Try.prog W base sp held n 48 cs = some y) : ∃ (v : Value) (ks : List K2), cs = [v] ∧ keysAt W v ks ∧ ks.length ≤ maxLen := by
  rcases open_slice_pairs Try.underlying48 Try.underlying55 (by kernel_rfl) rfl rfl (by kernel_rfl) (by kernel_rfl) h with ⟨hcs, -⟩ | ⟨x, len, cap, m, n, V0, V1, D0, D1, P0, P1, hcs, -, hl, hm, hmm, -, hx⟩
  · exact ⟨_, [], hcs, ⟨none, 0, rfl, by simp, .inl rfl⟩, by simp⟩
  · have hmc : len ≤ m := by
      rw [hmm]
      split <;> omega
    have hev : ∀ i, i < len → ∃ k : K2, W.cell? (x.add (i * 2)) = some (.int .i64 k.1) ∧ W.cell? (x.add (i * 2 + 1)) = some (.int .i64 k.2) := by
      intro i hi
      obtain ⟨h0, h1, t0, t1⟩ := hx i (by omega)
      obtain ⟨z0, e0, -, -⟩ := DataW.trod_int Try.underlying3 t0
      obtain ⟨z1, e1, -, -⟩ := DataW.trod_int Try.underlying3 t1
      have e0 : V0 i = .int .i64 z0 := (List.cons.inj e0).1
      have e1 : V1 i = .int .i64 z1 := (List.cons.inj e1).1
      exact ⟨(z0, z1), by rw [h0, e0], by rw [h1, e1]⟩
    obtain ⟨f, hf2⟩ := choose_lt hev
    refine ⟨_, (List.range len).map f, hcs, ⟨some x, cap, by simp, by simpa using hl, ?_⟩, by simp; omega⟩
    simp only [List.length_map, List.length_range]
    rcases Nat.eq_zero_or_pos len with h0 | h0
    · exact .inl h0
    · obtain ⟨b, off, spot⟩ := x
      have hc := (hf2 0 h0).1
      have hs : spot = none := by simpa [Addr.add] using World.cell?_spot hc
      subst hs
      have hadd : ∀ j, (⟨b, off, none⟩ : Addr).add j = ⟨b, off + j, none⟩ := by
        intro j
        unfold Addr.add
        split
        · rename_i h; simp [h]
        · rfl
      refine .inr ⟨b, off, rfl, World.block_lt_of_cell? W ⟨b, off, none⟩ (by simpa [Addr.add] using hc), fun i hi => ?_⟩
      have e : ((List.range len).map f).getD i (0, 0) = f i := by simp [List.getD, hi]
      have := hf2 i hi
      rw [hadd, hadd] at this
      rw [e]
      exact this
set_option maxRecDepth 10000 in
theorem cd_cells_read {H : Type} {enc : TypeId × Value → H} {W : World} {base : Nat} {sp : Nat → Bool} {held : Bool} {n : Nat} {cs : List Value} {x : DataW H × List MemPlace} (hl : cs.length = 2)
    (h : DataW.trod enc Try.prog W base sp held n 50 cs = some x) : ∃ (v : Value) (ks : List K2) (y : ByteArray), cs = [v, .string y] ∧ keysAt W v ks ∧ ks.length ≤ maxLen ∧ y.size ≤ maxLen := by
  have c0 : Try.prog.cellsOf 48 = 1 := by kernel_rfl
  have c1 : Try.prog.cellsOf 9 = 1 := by kernel_rfl
  match cs, hl with
  | [a, b], _ =>
    obtain ⟨xs, k, hk, hxy, _, hxl, hf⟩ := DataW.trod_struct Try.underlying50 h
    match xs, hxl with
    | [y0, y1], _ =>
      have g0 := hf 0 _ rfl
      have g1 := hf 1 _ rfl
      simp [c0, c1] at g0 g1
      obtain ⟨v, ks, hv, hks, hkl⟩ := keys_cells g0
      obtain ⟨s, e2, -, hs⟩ := DataW.trod_string Try.underlying9 g1
      cases hv; cases e2
      exact ⟨_, ks, s, rfl, hks, hkl, hs⟩
set_option maxRecDepth 10000 in
theorem open_code {H : Type} {enc : TypeId × Value → H} {W : World} {r : Reach} {b0 : Nat} {v : Value} {d : DataW H} {p : List MemPlace} (hv : Value.okWide Try.prog W r b0 50 v) (h : DataW.Trod enc Try.prog W 0 (fun _ => true) true 50 v d p) :
    ∃ (a : Value) (ks : List K2) (y : ByteArray), v = .agg #[a, .string y] ∧ keysAt W a ks ∧ ks.length ≤ maxLen ∧ y.size ≤ maxLen := by
  obtain ⟨cs, rfl, hsz⟩ := okWide_struct Try.underlying50 hv
  have hC : Try.prog.cellsOf 50 = 2 := by kernel_rfl
  obtain ⟨fuel, hf⟩ := h
  obtain ⟨a, ks, y, hq, hk, hl, hy⟩ := cd_cells_read (by simpa [Value.cells] using hsz.trans hC) hf
  refine ⟨a, ks, y, ?_, hk, hl, hy⟩
  simp only [Value.cells] at hq
  rw [← Array.toArray_toList (xs := cs), hq]
end Go.Proofs.Ytnknfmjpkphbpaa
/- Readings and lists of readings that came in as arguments, opened. -/
namespace Go.Proofs.Ytnknfmjpkphbpaa
open Go.ChangeShapes Go.WideShapes Go.ChangeAt Go.RowKit Go.Deep
set_option linter.unusedVariables false

set_option maxRecDepth 20000 in
theorem rd_cells_read {H : Type} {enc : TypeId × Value → H} {W : World} {base : Nat} {sp : Nat → Bool} {held : Bool} {n : Nat} {cs : List Value} {x : DataW H × List MemPlace} (hl : cs.length = 3)
    (h : DataW.trod enc Try.prog W base sp held n 57 cs = some x) : ∃ r : R3, cs = [.int .i64 r.1.1, .int .i64 r.1.2, .string r.2] ∧ r.2.size ≤ maxLen := by
  have c0 : Try.prog.cellsOf 55 = 2 := by kernel_rfl
  have c1 : Try.prog.cellsOf 9 = 1 := by kernel_rfl
  have c2 : Try.prog.cellsOf 3 = 1 := by kernel_rfl
  match cs, hl with
  | [a, b, c], _ =>
    obtain ⟨xs, k, hk, hxy, _, hxl, hf⟩ := DataW.trod_struct Try.underlying57 h
    match xs, hxl with
    | [y0, y1], _ =>
      have g0 := hf 0 _ rfl
      have g1 := hf 1 _ rfl
      simp [c0, c1] at g0 g1
      obtain ⟨zs, k2, hk2, hzy, _, hzl, hg⟩ := DataW.trod_struct Try.underlying55 g0
      match zs, hzl with
      | [u0, u1], _ =>
        have i0 := hg 0 _ rfl
        have i1 := hg 1 _ rfl
        simp [c2] at i0 i1
        obtain ⟨z0, e0, -, -⟩ := DataW.trod_int Try.underlying3 i0
        obtain ⟨z1, e1, -, -⟩ := DataW.trod_int Try.underlying3 i1
        obtain ⟨s, e2, -, hs⟩ := DataW.trod_string Try.underlying9 g1
        cases e0; cases e1; cases e2
        exact ⟨((z0, z1), s), rfl, hs⟩
set_option maxRecDepth 20000 in
theorem open_reading {H : Type} {enc : TypeId × Value → H} {W : World} {r : Reach} {b0 : Nat} {v : Value} {d : DataW H} {p : List MemPlace} (hv : Value.okWide Try.prog W r b0 57 v) (h : DataW.Trod enc Try.prog W 0 (fun _ => true) true 57 v d p) : ∃ q : R3, v = rv q ∧ q.2.size ≤ maxLen := by
  obtain ⟨cs, rfl, hsz⟩ := okWide_struct Try.underlying57 hv
  have hC : Try.prog.cellsOf 57 = 3 := by kernel_rfl
  obtain ⟨fuel, hf⟩ := h
  obtain ⟨q, hq, hs⟩ := rd_cells_read (by simpa [Value.cells] using hsz.trans hC) hf
  refine ⟨q, ?_, hs⟩
  simp only [Value.cells] at hq
  unfold rv
  rw [← Array.toArray_toList (xs := cs), hq]
set_option maxRecDepth 20000 in
theorem open_readings {H : Type} {enc : TypeId × Value → H} {W : World} {r : Reach} {b0 : Nat} {v : Value} {d : DataW H} {p : List MemPlace} (hv : Value.okWide Try.prog W r b0 62 v) (h : DataW.Trod enc Try.prog W 0 (fun _ => true) true 62 v d p) :
    ∃ rs : List R3, rdAt W v rs ∧ rs.length ≤ maxLen ∧ ∀ j, j < rs.length → (rs.getD j r0).2.size ≤ maxLen := by
  have hC : Try.prog.cellsOf 57 = 3 := by kernel_rfl
  obtain ⟨a, len, cap, rfl⟩ := okWide_slice Try.underlying62 hv
  obtain ⟨fuel, hf⟩ := h
  rcases open_slice Try.underlying62 hf with ⟨hcs, -⟩ | ⟨x, l, c, m, n, D, Pl, hcs, -, hl, hm, hmm, -, hx⟩
  · simp [Value.cells] at hcs
    obtain ⟨rfl, rfl, rfl⟩ := hcs
    exact ⟨[], ⟨none, 0, rfl, by simp, .inl rfl⟩, by simp, fun j hj => by simp at hj⟩
  · simp [Value.cells] at hcs
    obtain ⟨rfl, rfl, rfl⟩ := hcs
    have hmc : len ≤ m := by rw [hmm]; simp; omega
    have hev : ∀ i, i < len → ∃ q : R3, (W.cell? (x.add (i * 3)) = some (.int .i64 q.1.1) ∧ W.cell? (x.add (i * 3 + 1)) = some (.int .i64 q.1.2) ∧ W.cell? (x.add (i * 3 + 2)) = some (.string q.2)) ∧ q.2.size ≤ maxLen := by
      intro i hi
      obtain ⟨cs', h1, h2⟩ := hx i (by omega)
      rw [hC] at h1
      obtain ⟨_, hlen, hcell⟩ := World.cells?_some h1
      obtain ⟨q, rfl, hs⟩ := rd_cells_read hlen h2
      have e0 := hcell 0 (by omega)
      have e1 := hcell 1 (by omega)
      have e2 := hcell 2 (by omega)
      rw [add_add] at e0 e1 e2
      exact ⟨q, ⟨by simpa using e0, by simpa using e1, by simpa using e2⟩, hs⟩
    obtain ⟨f, hf2⟩ := choose_lt hev
    have hfd : ∀ i, i < len → ((List.range len).map f).getD i r0 = f i := fun i hi => by simp [List.getD, hi]
    refine ⟨(List.range len).map f, ⟨some x, cap, by simp, by simpa using hl, ?_⟩, by simp; omega, fun j hj => ?_⟩
    · simp only [List.length_map, List.length_range]
      rcases Nat.eq_zero_or_pos len with h0 | h0
      · exact .inl h0
      · obtain ⟨b, off, spot⟩ := x
        have hc := (hf2 0 h0).1.1
        have hs : spot = none := by simpa [Addr.add] using World.cell?_spot hc
        subst hs
        have hadd : ∀ j, (⟨b, off, none⟩ : Addr).add j = ⟨b, off + j, none⟩ := by
          intro j
          unfold Addr.add
          split
          · rename_i h; simp [h]
          · rfl
        refine .inr ⟨b, off, rfl, World.block_lt_of_cell? W ⟨b, off, none⟩ (by simpa [Addr.add] using hc), fun i hi => ?_⟩
        have := (hf2 i hi).1
        rw [hadd, hadd, hadd] at this
        rw [hfd i hi]
        exact this
    · have hj2 : j < len := by simpa using hj
      rw [hfd j hj2]
      exact (hf2 j hj2).2
end Go.Proofs.Ytnknfmjpkphbpaa
/- The model's Parted, walked. -/
namespace Go.Proofs.Ytnknfmjpkphbpaa
open Go.ChangeShapes Go.WideShapes Go.ChangeAt Go.RowKit Go.BigFrame
set_option linter.unusedVariables false

theorem sparted_any (va vb : Value) (A B : List K2) (w : World) (ha : keysAt w va A) (hb : keysAt w vb B) (hsA : A.length ≤ 2000000) (hsB : B.length ≤ 2000000) :
    Calls Try.prog 49 #[va, vb] w fun e w' => ∃ v, e = .returned v ∧ w'.ownsRow w.heap.size 41 2 v (mergeV false A B).length (keyCells (mergeV false A B)) ∧ Below w.heap.size w w' := by
  have H := Lib.hid (smerge_any va vb A B false w ha hb hsA hsB)
  go_enter Try.func49, Try.ntmps49
  go_wp2_with fail
  refine H.out.mono ?_
  rintro e w1 ⟨v, rfl, ho, hB⟩
  go_wp2
  go_ret
  exact ⟨v, rfl, ho, hB⟩
end Go.Proofs.Ytnknfmjpkphbpaa
/- The model's texts by or (exclusively), walked. -/
namespace Go.Proofs.Ytnknfmjpkphbpaa
open Go.ChangeShapes Go.WideShapes Go.ChangeAt Go.RowKit
set_option linter.unusedVariables false

set_option maxRecDepth 100000 in
theorem sxor_any (s t : ByteArray) (w : World) (hs : s.size ≤ 2000000) (ht : t.size ≤ 2000000) :
    Calls Try.prog 50 #[.string s, .string t] w fun e w' => e = .returned (.string (xorS s t)) ∧ Below w.heap.size w w' := by
  by_cases hst : s.size = t.size
  · obtain ⟨i0, hi, hz0, hz1, hz2⟩ := info_parts info5
    have hx : xorS s t = ⟨(xorL s.data.toList t.data.toList).toArray⟩ := by unfold xorS; rw [if_pos hst]
    have hxl := xorL_len s t hst
    have htk := xorL_take s t hst
    have e0 : (s.size : Int) = (t.size : Int) := by omega
    generalize xorL s.data.toList t.data.toList = X at *
    have HX := Lib.hid hx; have HTK := Lib.hid htk; clear hx htk
    go_enter Try.func50, Try.ntmps50
    go_wp2
    have hown0 := World.ownsRow_made (base := w.heap.size) (e := 5) (size := 1) w #[] 0 (Nat.le_refl _) (by unfold maxLen; omega) rfl
    have hb0 := (Below.refl w.heap.size w).alloc (Nat.le_refl _) (.cells #[] 5)
    go_loopw [5, 6] (fun v i wr => ∃ k : Nat, k ≤ s.size ∧ i = .int .i64 k ∧ wr.ownsRow w.heap.size 5 1 v k ((numsOf (X.take k)).map (Value.int .u8)) ∧ Below w.heap.size w wr)
      (fun _ i _ => s.size - (intOf i).toNat)
    case atStart => exact ⟨0, Nat.zero_le _, rfl, hown0, hb0⟩
    case round =>
      obtain ⟨k, hk, rfl, hown, hnx⟩ := hrel
      clear hown0 hb0
      by_cases hlt : k < s.size
      · have h0 : (0 : Int) ≤ (k : Int) := Int.natCast_nonneg _
        have h1 : (k : Int) < (s.size : Int) := by omega
        have h2 : (k : Int) < (t.size : Int) := by omega
        have hk2 : k < t.size := by omega
        have hc := s[k].toNat_lt
        have hd := t[k].toNat_lt
        have hxx := u8_xor s[k] t[k]
        have hns := hnx.size
        go_wp2
        refine wp_region_plan [0] [false, true, true, true, true, true, true, true] 8 (by kernel_rfl) (by kernel_rfl) (by kernel_rfl) ?_
        simp only [maskRows, movesA, moveOf, List.getElem?_toArray, List.getElem?_cons_zero, List.drop_succ_cons, List.drop_zero]
        repeat still_step
        refine wpStill_nil ?_
        intro K1 hK1
        go_wp2_with (at_builtin; refine wpList_append_own _ rfl (.tmp 19) (.tmp 27) 22 rfl w.heap.size 5 i0 (.int .u8 0) 1 1 Try.underlying22 hi hz0 hz1 hz2 rfl (by decide) _ _ _ rfl ((hown.alloc _).drew) ⟨wr.heap.size, 0, none⟩ 1 1 [.int .u8 ((s[k] ^^^ t[k]).toNat : Int)] rfl rfl (cell_one_new _ _ _) (by intro u hu; simp at hu; subst hu; rfl) (by unfold maxLen; omega) (by omega) (by simp; omega) ?_; intro v' w1 hown' hgrow _)
        have R : w1.ownsRow w.heap.size 5 1 v' (k + 1) ((numsOf (X.take (k + 1))).map (Value.int .u8)) ∧ Below w.heap.size w w1 := by
          refine ⟨?_, ((hnx.alloc hnx.size _).drew).grown hgrow (by have := hnx.size; simp; omega) (fun g hg => (hown.lt g hg).1)⟩
          rw [HTK.out k hlt]
          simpa [numsOf] using hown'
        clear hown' hgrow hown
        go_wp2
        go_roundw
        case rel => exact ⟨k + 1, by omega, by go_num, R.1, R.2⟩
        case measure => simp [intOf]; omega
      · obtain rfl : k = s.size := by omega
        rw [List.take_of_length_le (by omega)] at hown
        have hcv := run_string_own (P := Try.prog) 22 5 9 Try.underlying22 Try.underlying5 Try.underlying9 hown
        rw [nums_back] at hcv
        clear hown
        go_wp2
        go_ret
        exact ⟨by rw [HX.out]; rfl, hnx⟩
  · have hx : xorS s t = ByteArray.empty := by unfold xorS; rw [if_neg hst]
    have HX := Lib.hid hx; clear hx
    have e1 : ¬ (s.size : Int) = (t.size : Int) := by omega
    go_enter Try.func50, Try.ntmps50
    go_wp2
    go_ret
    exact ⟨by rw [HX.out]; rfl, Below.refl _ _⟩
end Go.Proofs.Ytnknfmjpkphbpaa
/- Words of several readings: the model's Combine, walked. -/
namespace Go.Proofs.Ytnknfmjpkphbpaa
open Go.ChangeShapes Go.WideShapes Go.ChangeAt Go.RowKit Go.BigFrame
set_option linter.unusedVariables false

set_option maxRecDepth 100000 in
set_option maxHeartbeats 4000000 in
theorem scombine_any (va : Value) (A : List K2) (ya : ByteArray) (vb : Value) (B : List K2) (yb : ByteArray) (w : World) (ha : keysAt w va A) (hb : keysAt w vb B) (hsA : A.length ≤ 1048576) (hsB : B.length ≤ 1048576) (hya : ya.size ≤ 2000000) (hyb : yb.size ≤ 2000000) :
    Calls Try.prog 15 #[.agg #[va, .string ya], .agg #[vb, .string yb]] w fun e w' => ∃ v', e = .returned (.tuple #[.agg #[v', .string (combM (A, ya) (B, yb)).1.2], .bool (combM (A, ya) (B, yb)).2]) ∧
      w'.ownsRow w.heap.size 41 2 v' (combM (A, ya) (B, yb)).1.1.length (keyCells (combM (A, ya) (B, yb)).1.1) ∧ Below w.heap.size w w' := by
  have HP := Lib.hid (cbc_new w va ya vb yb)
  have CA := Lib.hid (fun w' (h : Below w.heap.size w w') => scodeok_any va A ya w' (keysAt_below ha h) (by omega))
  have CB := Lib.hid (fun w' (h : Below w.heap.size w w') => scodeok_any vb B yb w' (keysAt_below hb h) (by omega))
  have SP := Lib.hid (fun w' (h : Below w.heap.size w w') => sparted_any va vb A B w' (keysAt_below ha h) (keysAt_below hb h) (by omega) (by omega))
  have SX := Lib.hid (fun w' => sxor_any ya yb w' hya hyb)
  have hml := mergeV_ln false A B
  obtain ⟨aa, ca, hva, -, -⟩ := ha
  obtain ⟨ab, cb, hvb, -, -⟩ := hb
  subst hva; subst hvb
  have hA6 := Lib.hid (show codeOkB (A, ya) = true → A.length ≤ 6 from fun h => ((codeOk_iff (A, ya)).1 h).1)
  have hB6 := Lib.hid (show codeOkB (B, yb) = true → B.length ≤ 6 from fun h => ((codeOk_iff (B, yb)).1 h).1)
  have nA := comb_noA (a := (A, ya)) (b := (B, yb))
  have nB := comb_noB (a := (A, ya)) (b := (B, yb))
  have nX := comb_noX (a := (A, ya)) (b := (B, yb))
  have nY := comb_yes (a := (A, ya)) (b := (B, yb))
  have HMX := Lib.hid (show mixC (A, ya) (B, yb) = (mergeV false A B, xorS ya yb) from rfl)
  rw [HMX.out] at nX nY
  have CX := Lib.hid (fun v w (h : keysAt w v (mergeV false A B)) (hl : (mergeV false A B).length ≤ 2000000) => scodeok_any v (mergeV false A B) (xorS ya yb) w h hl)
  have HML := Lib.hid hml
  clear hml HMX
  go_enter Try.func15, Try.ntmps15
  go_wp2_with fail
  generalize ((w.alloc (.cells #[.slice aa A.length ca, .string ya] 26)).alloc (.cells #[.slice ab B.length cb, .string yb] 26)).alloc (.cells #[.slice none 0 0, .string ⟨#[]⟩] 26) = W at *
  generalize mergeV false A B = M at *
  generalize xorS ya yb = Y at *
  have L1 : ∀ w' : World, w'.heap[w.heap.size]? = some (.cells #[.slice aa A.length ca, .string ya] 26) ∧ w'.heap[w.heap.size + 1]? = some (.cells #[.slice ab B.length cb, .string yb] 26) → (loadVar 24 ⟨w.heap.size, 0, none⟩).run Try.prog w' = .ok (.slice aa A.length ca) w' := fun w' h => cd_loadk h.1 (Below.refl _ _)
  have L2 : ∀ w' : World, w'.heap[w.heap.size]? = some (.cells #[.slice aa A.length ca, .string ya] 26) ∧ w'.heap[w.heap.size + 1]? = some (.cells #[.slice ab B.length cb, .string yb] 26) → (loadVar 9 ⟨w.heap.size, 1, none⟩).run Try.prog w' = .ok (.string ya) w' := fun w' h => cd_loads h.1 (Below.refl _ _)
  have L3 : ∀ w' : World, w'.heap[w.heap.size]? = some (.cells #[.slice aa A.length ca, .string ya] 26) ∧ w'.heap[w.heap.size + 1]? = some (.cells #[.slice ab B.length cb, .string yb] 26) → (loadVar 24 ⟨w.heap.size + 1, 0, none⟩).run Try.prog w' = .ok (.slice ab B.length cb) w' := fun w' h => cd_loadk h.2 (Below.refl _ _)
  have L4 : ∀ w' : World, w'.heap[w.heap.size]? = some (.cells #[.slice aa A.length ca, .string ya] 26) ∧ w'.heap[w.heap.size + 1]? = some (.cells #[.slice ab B.length cb, .string yb] 26) → (loadVar 9 ⟨w.heap.size + 1, 1, none⟩).run Try.prog w' = .ok (.string yb) w' := fun w' h => cd_loads h.2 (Below.refl _ _)
  have HRA := Lib.hid HP.out.rowa
  have HRB := Lib.hid HP.out.rowb
  have HRES := Lib.hid HP.out.res
  have HB0 := Lib.hid HP.out.below
  have HSZ := Lib.hid HP.out.size
  clear HP
  refine wp_region_G (fun w' => w'.heap[w.heap.size]? = some (.cells #[.slice aa A.length ca, .string ya] 26) ∧ w'.heap[w.heap.size + 1]? = some (.cells #[.slice ab B.length cb, .string yb] 26)) (by kernel_rfl) ?_
  replace HRA := Lib.hid (show (World.drew _).heap[_]? = _ from HRA.out)
  replace HRB := Lib.hid (show (World.drew _).heap[_]? = _ from HRB.out)
  replace HB0 := Lib.hid (HB0.out.drew)
  replace HRES := Lib.hid (show (World.drew _).heap[_]? = _ from HRES.out)
  replace HSZ := Lib.hid (show _ ≤ (World.drew _).heap.size from HSZ.out)
  generalize (W).drew = wD at *
  refine wpG_seg [true, true, true, true, false, true, true, true, true] [4, 11] 4 (by kernel_rfl) (by intro c a d v w h; cases d <;> exact h) (by kernel_rfl) ⟨HRA.out, HRB.out⟩ ?_
  try simp only [maskRows]
  repeat (first
    | go_big_quiet_skip
    | (go_big_quiet_want
       first
         | (go_big_quiet_op; go_big_quiet_on)
         | (refine q_load 24 _ _ _ rfl rfl L1 ?_; simp only [Act.put, List.setIfInBounds_toArray, List.set_cons_zero, List.set_cons_succ]; go_big_quiet_on)
         | (refine q_load 9 _ _ _ rfl rfl L2 ?_; simp only [Act.put, List.setIfInBounds_toArray, List.set_cons_zero, List.set_cons_succ]; go_big_quiet_on)
         | (refine q_load 24 _ _ _ rfl rfl L3 ?_; simp only [Act.put, List.setIfInBounds_toArray, List.set_cons_zero, List.set_cons_succ]; go_big_quiet_on)
         | (refine q_load 9 _ _ _ rfl rfl L4 ?_; simp only [Act.put, List.setIfInBounds_toArray, List.set_cons_zero, List.set_cons_succ]; go_big_quiet_on)
         | (go_big_quiet_op; refine ⟨_, fun _ _ => rfl, ?_⟩; go_big_quiet_on)
         | (go_big_quiet_op; refine ⟨_, fun _ _ _ => rfl, ?_⟩; go_big_quiet_on)))
  refine wpQuiet_nil ?_
  refine List.forall_mem_cons.2 ⟨?_, List.forall_mem_singleton.2 ?_⟩
  · refine segt_run rfl (by rfl) (fun K hK => ?_)
    go_simp
    refine (SP.out _ HB0.out).mono ?_
    rintro e w3 ⟨v3, rfl, ho3, hb⟩
    dsimp only
    have HSZo := Lib.hid HSZ.out
    have hNE := fun (b6 : Nat) (hl : b6 < wD.heap.size) (e : v3.ownBlock = some b6) => (absurd (ho3.lt b6 e).1 (Nat.not_le.2 hl) : False)
    replace HRA := Lib.hid ((hb.block _ (Array.getElem?_eq_some_iff.1 HRA.out).1).trans HRA.out)
    replace HRB := Lib.hid ((hb.block _ (Array.getElem?_eq_some_iff.1 HRB.out).1).trans HRB.out)
    replace HB0 := Lib.hid (HB0.out.trans (hb.mono HB0.out.size))
    replace HRES := Lib.hid ((hb.block _ (Array.getElem?_eq_some_iff.1 HRES.out).1).trans HRES.out)
    replace HSZ := Lib.hid (Nat.le_trans HSZ.out hb.size)
    clear hNE
    obtain ⟨a3, n3, k3, rfl⟩ := own_shape ho3
    have HO := Lib.hid (own_base ho3 HSZo.out)
    clear ho3 HSZo
    clear hb
    refine hK _ _ ⟨_, fun _ h => h, ⟨HRA.out, HRB.out⟩, ?_⟩
    clear hK K
    try simp only [Act.put, List.setIfInBounds_toArray, List.set_cons_zero, List.set_cons_succ]
    refine wpG_seg [] [9, 11] 3 (by kernel_rfl) (by intro c a d v w h; cases d <;> exact h) (by kernel_rfl) ⟨HRA.out, HRB.out⟩ ?_
    try simp only [maskRows]
    refine wpQuiet_nil ?_
    refine List.forall_mem_cons.2 ⟨?_, List.forall_mem_singleton.2 ?_⟩
    · refine segt_run rfl (by rfl) (fun K hK => ?_)
      go_simp
      refine (SX.out _).mono ?_
      rintro e w4 ⟨rfl, hb⟩
      dsimp only
      replace HRA := Lib.hid ((hb.block _ (Array.getElem?_eq_some_iff.1 HRA.out).1).trans HRA.out)
      replace HRB := Lib.hid ((hb.block _ (Array.getElem?_eq_some_iff.1 HRB.out).1).trans HRB.out)
      replace HB0 := Lib.hid (HB0.out.trans (hb.mono HB0.out.size))
      replace HRES := Lib.hid ((hb.block _ (Array.getElem?_eq_some_iff.1 HRES.out).1).trans HRES.out)
      replace HSZ := Lib.hid (Nat.le_trans HSZ.out hb.size)
      replace HO := Lib.hid (own_below HO.out hb)
      clear hb
      refine hK _ _ ⟨_, fun _ h => h, ⟨HRA.out, HRB.out⟩, ?_⟩
      clear hK K
      try simp only [Act.put, List.setIfInBounds_toArray, List.set_cons_zero, List.set_cons_succ]
      refine wpG_seg [] [10, 11] 2 (by kernel_rfl) (by intro c a d v w h; cases d <;> exact h) (by kernel_rfl) ⟨HRA.out, HRB.out⟩ ?_
      try simp only [maskRows]
      refine wpQuiet_nil ?_
      refine List.forall_mem_cons.2 ⟨?_, List.forall_mem_singleton.2 ?_⟩
      · refine segt_run rfl (by rfl) (fun K hK => ?_)
        go_simp
        refine hK _ _ ⟨_, fun _ h => h, ⟨HRA.out, HRB.out⟩, ?_⟩
        clear hK K
        try simp only [Act.put, List.setIfInBounds_toArray, List.set_cons_zero, List.set_cons_succ]
        refine wpG_seg [] [11] 1 (by kernel_rfl) (by intro c a d v w h; cases d <;> exact h) (by kernel_rfl) ⟨HRA.out, HRB.out⟩ ?_
        try simp only [maskRows]
        refine wpQuiet_nil ?_
        refine List.forall_mem_singleton.2 ?_
        refine segt_run rfl (by rfl) (fun K hK => ?_)
        go_simp
        have HB6 := Lib.hid HSZ.out
        have HNE := Lib.hid (fun (e : (Value.slice a3 n3 k3).ownBlock = some w4.heap.size) => (absurd (HO.out.lt _ e).2 (Nat.lt_irrefl _) : False))
        have HNn := Lib.hid (heap_alloc_new (w4) (.cells #[.slice none 0 0, .string ⟨#[]⟩] 26))
        replace HRA := Lib.hid ((Below.heap_alloc _ (.cells #[.slice none 0 0, .string ⟨#[]⟩] 26) _ (Array.getElem?_eq_some_iff.1 HRA.out).1).trans HRA.out)
        replace HRB := Lib.hid ((Below.heap_alloc _ (.cells #[.slice none 0 0, .string ⟨#[]⟩] 26) _ (Array.getElem?_eq_some_iff.1 HRB.out).1).trans HRB.out)
        replace HB0 := Lib.hid (HB0.out.alloc HB0.out.size (.cells #[.slice none 0 0, .string ⟨#[]⟩] 26))
        replace HRES := Lib.hid ((Below.heap_alloc _ (.cells #[.slice none 0 0, .string ⟨#[]⟩] 26) _ (Array.getElem?_eq_some_iff.1 HRES.out).1).trans HRES.out)
        replace HSZ := Lib.hid (Nat.le_trans HSZ.out (size_le_alloc _ (.cells #[.slice none 0 0, .string ⟨#[]⟩] 26)))
        replace HO := Lib.hid (HO.out.alloc (.cells #[.slice none 0 0, .string ⟨#[]⟩] 26))
        have HN := HNn
        clear HNn
        generalize World.alloc (w4) (.cells #[.slice none 0 0, .string ⟨#[]⟩] 26) = w6 at *
        generalize (w4).heap.size = b6 at *
        refine hK _ _ ⟨_, fun _ h => h, ⟨HRA.out, HRB.out⟩, ?_⟩
        clear hK K
        try simp only [Act.put, List.setIfInBounds_toArray, List.set_cons_zero, List.set_cons_succ]
        refine wpG_seg [] [12] 0 (by kernel_rfl) (by intro c a d v w h; cases d <;> exact h) (by kernel_rfl) ⟨HRA.out, HRB.out⟩ ?_
        try simp only [maskRows]
        refine wpQuiet_nil ?_
        refine List.forall_mem_singleton.2 ?_
        have hb6 := HB6.out
        obtain ⟨c0, c1, f0, f1⟩ := row2_of HN.out
        have hlt := (Array.getElem?_eq_some_iff.1 HN.out).1
        have HN' := Lib.hid (set2 (.slice a3 n3 k3) (.string Y) HN.out)
        have HRA' := Lib.hid (row_set2 HRA.out (by omega : w.heap.size ≠ b6) (.slice a3 n3 k3) (.string Y))
        have HRB' := Lib.hid (row_set2 HRB.out (by omega : w.heap.size + 1 ≠ b6) (.slice a3 n3 k3) (.string Y))
        have HRES' := Lib.hid (row_set2 HRES.out (by omega : w.heap.size + 2 ≠ b6) (.slice a3 n3 k3) (.string Y))
        have HB0' := Lib.hid (below2 HB0.out (by omega : w.heap.size ≤ b6) (.slice a3 n3 k3) (.string Y))
        have HO' := Lib.hid (HO.out.kept (grown2 _ b6 (.slice a3 n3 k3) (.string Y)) (.inr HNE.out))
        have HSZ' := Lib.hid (Nat.le_trans HSZ.out (Nat.le_of_eq (size_set2 _ b6 (.slice a3 n3 k3) (.string Y)).symm))
        clear hb6
        refine segt_run rfl (by rfl) (fun K hK => ?_)
        go_simp
        replace HN := HN'
        replace HRA := HRA'
        replace HRB := HRB'
        replace HRES := HRES'
        replace HB0 := HB0'
        replace HO := HO'
        replace HSZ := HSZ'
        clear HN' HRA' HRB' HRES' HB0' HO' HSZ' c0 c1 f0 f1 hlt
        generalize (World.setCell (World.setCell w6 ⟨b6, 0, none⟩ (.slice a3 n3 k3)) ⟨b6, 1, none⟩ (.string Y)) = wS at *
        refine hK _ _ ⟨_, fun _ h => h, ⟨HRA.out, HRB.out⟩, ?_⟩
        clear hK K
        try simp only [Act.put, List.setIfInBounds_toArray, List.set_cons_zero, List.set_cons_succ]
        refine wpG_end [] (by kernel_rfl) (by intro c a d v w h; cases d <;> exact h) (by kernel_rfl) ⟨HRA.out, HRB.out⟩ ?_
        try simp only [maskRows]
        refine wpQuiet_nil ?_
        obtain ⟨x0, x1, -, -⟩ := row2_of HRA.out
        go_wp2_with fail
        refine (CA.out _ HB0.out).mono ?_
        rintro e wP ⟨rfl, hb⟩
        replace HRA := Lib.hid ((hb.block _ (Array.getElem?_eq_some_iff.1 HRA.out).1).trans HRA.out)
        replace HRB := Lib.hid ((hb.block _ (Array.getElem?_eq_some_iff.1 HRB.out).1).trans HRB.out)
        replace HB0 := Lib.hid (HB0.out.trans (hb.mono HB0.out.size))
        replace HRES := Lib.hid ((hb.block _ (Array.getElem?_eq_some_iff.1 HRES.out).1).trans HRES.out)
        replace HSZ := Lib.hid (Nat.le_trans HSZ.out hb.size)
        replace HO := Lib.hid (own_below HO.out hb)
        replace HN := Lib.hid ((hb.block _ (Array.getElem?_eq_some_iff.1 HN.out).1).trans HN.out)
        clear hb x0 x1 CA
        generalize codeOkB (A, ya) = okA at *
        cases okA with
        | false =>
          have HM := Lib.hid (nA rfl)
          clear nA nB nX nY
          obtain ⟨x0, x1, -, -⟩ := row2_of HN.out
          go_wp2_with fail
          refine (sblank_any _ _ _).mono ?_
          rintro e wB ⟨v2, rfl, ho2, hb⟩
          obtain ⟨a2, n2, k2, rfl⟩ := own_shape ho2
          have ho2 := own_base ho2 HSZ.out
          replace HRA := Lib.hid ((hb.block _ (Array.getElem?_eq_some_iff.1 HRA.out).1).trans HRA.out)
          replace HRB := Lib.hid ((hb.block _ (Array.getElem?_eq_some_iff.1 HRB.out).1).trans HRB.out)
          replace HB0 := Lib.hid (HB0.out.trans (hb.mono HB0.out.size))
          replace HRES := Lib.hid ((hb.block _ (Array.getElem?_eq_some_iff.1 HRES.out).1).trans HRES.out)
          replace HSZ := Lib.hid (Nat.le_trans HSZ.out hb.size)
          replace HO := Lib.hid (own_below HO.out hb)
          replace HN := Lib.hid ((hb.block _ (Array.getElem?_eq_some_iff.1 HN.out).1).trans HN.out)
          obtain ⟨c0, c1, f0, f1⟩ := row2_of HRES.out
          have hlt := (Array.getElem?_eq_some_iff.1 HRES.out).1
          have HF := Lib.hid (And.intro (cd_res HRES.out (.slice a2 n2 k2) z4) (And.intro (own_base (own_set2 ho2 (by omega : w.heap.size + 2 < w.heap.size + 3) (.slice a2 n2 k2) (.string z4)) (by omega : w.heap.size ≤ w.heap.size + 3)) (below2 HB0.out (by omega : w.heap.size ≤ w.heap.size + 2) (.slice a2 n2 k2) (.string z4))))
          clear hb ho2 HRA HRB HRES HO HB0 HN x0 x1
          go_wp2_with fail
          refine bodyPost_ret (v := .tuple #[.agg #[.slice a2 n2 k2, .string z4], .bool false]) ?_ rfl ⟨_, by rw [HM.out]; rfl, by rw [HM.out]; exact HF.out.2.1, HF.out.2.2⟩
          rw [results_cell_slot (p := 4) (u := 5) (ty := 26) (by kernel_rfl)]
          have l2 := HF.out.1
          simp [asAddr, Result.andThen, l2]
        | true =>
          obtain ⟨x0, x1, -, -⟩ := row2_of HRB.out
          go_wp2_with fail
          refine (CB.out _ HB0.out).mono ?_
          rintro e wQ ⟨rfl, hb⟩
          replace HRA := Lib.hid ((hb.block _ (Array.getElem?_eq_some_iff.1 HRA.out).1).trans HRA.out)
          replace HRB := Lib.hid ((hb.block _ (Array.getElem?_eq_some_iff.1 HRB.out).1).trans HRB.out)
          replace HB0 := Lib.hid (HB0.out.trans (hb.mono HB0.out.size))
          replace HRES := Lib.hid ((hb.block _ (Array.getElem?_eq_some_iff.1 HRES.out).1).trans HRES.out)
          replace HSZ := Lib.hid (Nat.le_trans HSZ.out hb.size)
          replace HO := Lib.hid (own_below HO.out hb)
          replace HN := Lib.hid ((hb.block _ (Array.getElem?_eq_some_iff.1 HN.out).1).trans HN.out)
          clear hb x0 x1 CB
          generalize codeOkB (B, yb) = okB at *
          cases okB with
          | false =>
            have HM := Lib.hid (nB rfl)
            clear nA nB nX nY
            obtain ⟨x0, x1, -, -⟩ := row2_of HN.out
            go_wp2_with fail
            refine (sblank_any _ _ _).mono ?_
            rintro e wB ⟨v2, rfl, ho2, hb⟩
            obtain ⟨a2, n2, k2, rfl⟩ := own_shape ho2
            have ho2 := own_base ho2 HSZ.out
            replace HRA := Lib.hid ((hb.block _ (Array.getElem?_eq_some_iff.1 HRA.out).1).trans HRA.out)
            replace HRB := Lib.hid ((hb.block _ (Array.getElem?_eq_some_iff.1 HRB.out).1).trans HRB.out)
            replace HB0 := Lib.hid (HB0.out.trans (hb.mono HB0.out.size))
            replace HRES := Lib.hid ((hb.block _ (Array.getElem?_eq_some_iff.1 HRES.out).1).trans HRES.out)
            replace HSZ := Lib.hid (Nat.le_trans HSZ.out hb.size)
            replace HO := Lib.hid (own_below HO.out hb)
            replace HN := Lib.hid ((hb.block _ (Array.getElem?_eq_some_iff.1 HN.out).1).trans HN.out)
            obtain ⟨c0, c1, f0, f1⟩ := row2_of HRES.out
            have hlt := (Array.getElem?_eq_some_iff.1 HRES.out).1
            have HF := Lib.hid (And.intro (cd_res HRES.out (.slice a2 n2 k2) z4) (And.intro (own_base (own_set2 ho2 (by omega : w.heap.size + 2 < w.heap.size + 3) (.slice a2 n2 k2) (.string z4)) (by omega : w.heap.size ≤ w.heap.size + 3)) (below2 HB0.out (by omega : w.heap.size ≤ w.heap.size + 2) (.slice a2 n2 k2) (.string z4))))
            clear hb ho2 HRA HRB HRES HO HB0 HN x0 x1
            go_wp2_with fail
            refine bodyPost_ret (v := .tuple #[.agg #[.slice a2 n2 k2, .string z4], .bool false]) ?_ rfl ⟨_, by rw [HM.out]; rfl, by rw [HM.out]; exact HF.out.2.1, HF.out.2.2⟩
            rw [results_cell_slot (p := 4) (u := 5) (ty := 26) (by kernel_rfl)]
            have l2 := HF.out.1
            simp [asAddr, Result.andThen, l2]
          | true =>
            obtain ⟨x0, x1, -, -⟩ := row2_of HN.out
            go_wp2_with fail
            refine (CX.out _ _ (keysAt_own HO.out) (by have h1 := hA6.out (by simp); have h2 := hB6.out (by simp); have h3 := HML.out; omega)).mono ?_
            rintro e wX ⟨rfl, hb⟩
            replace HRA := Lib.hid ((hb.block _ (Array.getElem?_eq_some_iff.1 HRA.out).1).trans HRA.out)
            replace HRB := Lib.hid ((hb.block _ (Array.getElem?_eq_some_iff.1 HRB.out).1).trans HRB.out)
            replace HB0 := Lib.hid (HB0.out.trans (hb.mono HB0.out.size))
            replace HRES := Lib.hid ((hb.block _ (Array.getElem?_eq_some_iff.1 HRES.out).1).trans HRES.out)
            replace HSZ := Lib.hid (Nat.le_trans HSZ.out hb.size)
            replace HO := Lib.hid (own_below HO.out hb)
            replace HN := Lib.hid ((hb.block _ (Array.getElem?_eq_some_iff.1 HN.out).1).trans HN.out)
            clear hb x0 x1 CX
            generalize codeOkB (M, Y) = okX at *
            cases okX with
            | false =>
              have HM := Lib.hid (nX rfl)
              clear nA nB nX nY
              obtain ⟨x0, x1, -, -⟩ := row2_of HN.out
              go_wp2_with fail
              refine (sblank_any _ _ _).mono ?_
              rintro e wB ⟨v2, rfl, ho2, hb⟩
              obtain ⟨a2, n2, k2, rfl⟩ := own_shape ho2
              have ho2 := own_base ho2 HSZ.out
              replace HRA := Lib.hid ((hb.block _ (Array.getElem?_eq_some_iff.1 HRA.out).1).trans HRA.out)
              replace HRB := Lib.hid ((hb.block _ (Array.getElem?_eq_some_iff.1 HRB.out).1).trans HRB.out)
              replace HB0 := Lib.hid (HB0.out.trans (hb.mono HB0.out.size))
              replace HRES := Lib.hid ((hb.block _ (Array.getElem?_eq_some_iff.1 HRES.out).1).trans HRES.out)
              replace HSZ := Lib.hid (Nat.le_trans HSZ.out hb.size)
              replace HO := Lib.hid (own_below HO.out hb)
              replace HN := Lib.hid ((hb.block _ (Array.getElem?_eq_some_iff.1 HN.out).1).trans HN.out)
              obtain ⟨c0, c1, f0, f1⟩ := row2_of HRES.out
              have hlt := (Array.getElem?_eq_some_iff.1 HRES.out).1
              have HF := Lib.hid (And.intro (cd_res HRES.out (.slice a2 n2 k2) z4) (And.intro (own_base (own_set2 ho2 (by omega : w.heap.size + 2 < w.heap.size + 3) (.slice a2 n2 k2) (.string z4)) (by omega : w.heap.size ≤ w.heap.size + 3)) (below2 HB0.out (by omega : w.heap.size ≤ w.heap.size + 2) (.slice a2 n2 k2) (.string z4))))
              clear hb ho2 HRA HRB HRES HO HB0 HN x0 x1
              go_wp2_with fail
              refine bodyPost_ret (v := .tuple #[.agg #[.slice a2 n2 k2, .string z4], .bool false]) ?_ rfl ⟨_, by rw [HM.out]; rfl, by rw [HM.out]; exact HF.out.2.1, HF.out.2.2⟩
              rw [results_cell_slot (p := 4) (u := 5) (ty := 26) (by kernel_rfl)]
              have l2 := HF.out.1
              simp [asAddr, Result.andThen, l2]
            | true =>
              have HM := Lib.hid (nY (by simp) (by simp) (by simp))
              clear nA nB nX nY
              obtain ⟨x0, x1, -, -⟩ := row2_of HN.out
              obtain ⟨c0, c1, f0, f1⟩ := row2_of HRES.out
              have hlt := (Array.getElem?_eq_some_iff.1 HRES.out).1
              have HF := Lib.hid (And.intro (cd_res HRES.out (.slice a3 n3 k3) Y) (And.intro (own_base (own_set2 HO.out (by omega : w.heap.size + 2 < w.heap.size + 3) (.slice a3 n3 k3) (.string Y)) (by omega : w.heap.size ≤ w.heap.size + 3)) (below2 HB0.out (by omega : w.heap.size ≤ w.heap.size + 2) (.slice a3 n3 k3) (.string Y))))
              clear HRA HRB HRES HO HB0 HN
              go_wp2_with fail
              refine bodyPost_ret (v := .tuple #[.agg #[.slice a3 n3 k3, .string Y], .bool true]) ?_ rfl ⟨_, by rw [HM.out], by rw [HM.out]; exact HF.out.2.1, HF.out.2.2⟩
              rw [results_cell_slot (p := 4) (u := 5) (ty := 26) (by kernel_rfl)]
              have l2 := HF.out.1
              simp [asAddr, Result.andThen, l2]
      · refine segt_run rfl (by rfl) (fun K hK => ?_)
        go_simp
        have HB6 := Lib.hid HSZ.out
        have HNE := Lib.hid (fun (e : (Value.slice a3 n3 k3).ownBlock = some w4.heap.size) => (absurd (HO.out.lt _ e).2 (Nat.lt_irrefl _) : False))
        have HNn := Lib.hid (heap_alloc_new (w4) (.cells #[.slice none 0 0, .string ⟨#[]⟩] 26))
        replace HRA := Lib.hid ((Below.heap_alloc _ (.cells #[.slice none 0 0, .string ⟨#[]⟩] 26) _ (Array.getElem?_eq_some_iff.1 HRA.out).1).trans HRA.out)
        replace HRB := Lib.hid ((Below.heap_alloc _ (.cells #[.slice none 0 0, .string ⟨#[]⟩] 26) _ (Array.getElem?_eq_some_iff.1 HRB.out).1).trans HRB.out)
        replace HB0 := Lib.hid (HB0.out.alloc HB0.out.size (.cells #[.slice none 0 0, .string ⟨#[]⟩] 26))
        replace HRES := Lib.hid ((Below.heap_alloc _ (.cells #[.slice none 0 0, .string ⟨#[]⟩] 26) _ (Array.getElem?_eq_some_iff.1 HRES.out).1).trans HRES.out)
        replace HSZ := Lib.hid (Nat.le_trans HSZ.out (size_le_alloc _ (.cells #[.slice none 0 0, .string ⟨#[]⟩] 26)))
        replace HO := Lib.hid (HO.out.alloc (.cells #[.slice none 0 0, .string ⟨#[]⟩] 26))
        have HN := HNn
        clear HNn
        generalize World.alloc (w4) (.cells #[.slice none 0 0, .string ⟨#[]⟩] 26) = w5 at *
        generalize (w4).heap.size = b6 at *
        refine hK _ _ ⟨_, fun _ h => h, ⟨HRA.out, HRB.out⟩, ?_⟩
        clear hK K
        try simp only [Act.put, List.setIfInBounds_toArray, List.set_cons_zero, List.set_cons_succ]
        refine wpG_seg [] [10] 1 (by kernel_rfl) (by intro c a d v w h; cases d <;> exact h) (by kernel_rfl) ⟨HRA.out, HRB.out⟩ ?_
        try simp only [maskRows]
        refine wpQuiet_nil ?_
        refine List.forall_mem_singleton.2 ?_
        refine segt_run rfl (by rfl) (fun K hK => ?_)
        go_simp
        refine hK _ _ ⟨_, fun _ h => h, ⟨HRA.out, HRB.out⟩, ?_⟩
        clear hK K
        try simp only [Act.put, List.setIfInBounds_toArray, List.set_cons_zero, List.set_cons_succ]
        refine wpG_seg [] [12] 0 (by kernel_rfl) (by intro c a d v w h; cases d <;> exact h) (by kernel_rfl) ⟨HRA.out, HRB.out⟩ ?_
        try simp only [maskRows]
        refine wpQuiet_nil ?_
        refine List.forall_mem_singleton.2 ?_
        have hb6 := HB6.out
        obtain ⟨c0, c1, f0, f1⟩ := row2_of HN.out
        have hlt := (Array.getElem?_eq_some_iff.1 HN.out).1
        have HN' := Lib.hid (set2 (.slice a3 n3 k3) (.string Y) HN.out)
        have HRA' := Lib.hid (row_set2 HRA.out (by omega : w.heap.size ≠ b6) (.slice a3 n3 k3) (.string Y))
        have HRB' := Lib.hid (row_set2 HRB.out (by omega : w.heap.size + 1 ≠ b6) (.slice a3 n3 k3) (.string Y))
        have HRES' := Lib.hid (row_set2 HRES.out (by omega : w.heap.size + 2 ≠ b6) (.slice a3 n3 k3) (.string Y))
        have HB0' := Lib.hid (below2 HB0.out (by omega : w.heap.size ≤ b6) (.slice a3 n3 k3) (.string Y))
        have HO' := Lib.hid (HO.out.kept (grown2 _ b6 (.slice a3 n3 k3) (.string Y)) (.inr HNE.out))
        have HSZ' := Lib.hid (Nat.le_trans HSZ.out (Nat.le_of_eq (size_set2 _ b6 (.slice a3 n3 k3) (.string Y)).symm))
        clear hb6
        refine segt_run rfl (by rfl) (fun K hK => ?_)
        go_simp
        replace HN := HN'
        replace HRA := HRA'
        replace HRB := HRB'
        replace HRES := HRES'
        replace HB0 := HB0'
        replace HO := HO'
        replace HSZ := HSZ'
        clear HN' HRA' HRB' HRES' HB0' HO' HSZ' c0 c1 f0 f1 hlt
        generalize (World.setCell (World.setCell w5 ⟨b6, 0, none⟩ (.slice a3 n3 k3)) ⟨b6, 1, none⟩ (.string Y)) = wS at *
        refine hK _ _ ⟨_, fun _ h => h, ⟨HRA.out, HRB.out⟩, ?_⟩
        clear hK K
        try simp only [Act.put, List.setIfInBounds_toArray, List.set_cons_zero, List.set_cons_succ]
        refine wpG_end [] (by kernel_rfl) (by intro c a d v w h; cases d <;> exact h) (by kernel_rfl) ⟨HRA.out, HRB.out⟩ ?_
        try simp only [maskRows]
        refine wpQuiet_nil ?_
        obtain ⟨x0, x1, -, -⟩ := row2_of HRA.out
        go_wp2_with fail
        refine (CA.out _ HB0.out).mono ?_
        rintro e wP ⟨rfl, hb⟩
        replace HRA := Lib.hid ((hb.block _ (Array.getElem?_eq_some_iff.1 HRA.out).1).trans HRA.out)
        replace HRB := Lib.hid ((hb.block _ (Array.getElem?_eq_some_iff.1 HRB.out).1).trans HRB.out)
        replace HB0 := Lib.hid (HB0.out.trans (hb.mono HB0.out.size))
        replace HRES := Lib.hid ((hb.block _ (Array.getElem?_eq_some_iff.1 HRES.out).1).trans HRES.out)
        replace HSZ := Lib.hid (Nat.le_trans HSZ.out hb.size)
        replace HO := Lib.hid (own_below HO.out hb)
        replace HN := Lib.hid ((hb.block _ (Array.getElem?_eq_some_iff.1 HN.out).1).trans HN.out)
        clear hb x0 x1 CA
        generalize codeOkB (A, ya) = okA at *
        cases okA with
        | false =>
          have HM := Lib.hid (nA rfl)
          clear nA nB nX nY
          obtain ⟨x0, x1, -, -⟩ := row2_of HN.out
          go_wp2_with fail
          refine (sblank_any _ _ _).mono ?_
          rintro e wB ⟨v2, rfl, ho2, hb⟩
          obtain ⟨a2, n2, k2, rfl⟩ := own_shape ho2
          have ho2 := own_base ho2 HSZ.out
          replace HRA := Lib.hid ((hb.block _ (Array.getElem?_eq_some_iff.1 HRA.out).1).trans HRA.out)
          replace HRB := Lib.hid ((hb.block _ (Array.getElem?_eq_some_iff.1 HRB.out).1).trans HRB.out)
          replace HB0 := Lib.hid (HB0.out.trans (hb.mono HB0.out.size))
          replace HRES := Lib.hid ((hb.block _ (Array.getElem?_eq_some_iff.1 HRES.out).1).trans HRES.out)
          replace HSZ := Lib.hid (Nat.le_trans HSZ.out hb.size)
          replace HO := Lib.hid (own_below HO.out hb)
          replace HN := Lib.hid ((hb.block _ (Array.getElem?_eq_some_iff.1 HN.out).1).trans HN.out)
          obtain ⟨c0, c1, f0, f1⟩ := row2_of HRES.out
          have hlt := (Array.getElem?_eq_some_iff.1 HRES.out).1
          have HF := Lib.hid (And.intro (cd_res HRES.out (.slice a2 n2 k2) z4) (And.intro (own_base (own_set2 ho2 (by omega : w.heap.size + 2 < w.heap.size + 3) (.slice a2 n2 k2) (.string z4)) (by omega : w.heap.size ≤ w.heap.size + 3)) (below2 HB0.out (by omega : w.heap.size ≤ w.heap.size + 2) (.slice a2 n2 k2) (.string z4))))
          clear hb ho2 HRA HRB HRES HO HB0 HN x0 x1
          go_wp2_with fail
          refine bodyPost_ret (v := .tuple #[.agg #[.slice a2 n2 k2, .string z4], .bool false]) ?_ rfl ⟨_, by rw [HM.out]; rfl, by rw [HM.out]; exact HF.out.2.1, HF.out.2.2⟩
          rw [results_cell_slot (p := 4) (u := 5) (ty := 26) (by kernel_rfl)]
          have l2 := HF.out.1
          simp [asAddr, Result.andThen, l2]
        | true =>
          obtain ⟨x0, x1, -, -⟩ := row2_of HRB.out
          go_wp2_with fail
          refine (CB.out _ HB0.out).mono ?_
          rintro e wQ ⟨rfl, hb⟩
          replace HRA := Lib.hid ((hb.block _ (Array.getElem?_eq_some_iff.1 HRA.out).1).trans HRA.out)
          replace HRB := Lib.hid ((hb.block _ (Array.getElem?_eq_some_iff.1 HRB.out).1).trans HRB.out)
          replace HB0 := Lib.hid (HB0.out.trans (hb.mono HB0.out.size))
          replace HRES := Lib.hid ((hb.block _ (Array.getElem?_eq_some_iff.1 HRES.out).1).trans HRES.out)
          replace HSZ := Lib.hid (Nat.le_trans HSZ.out hb.size)
          replace HO := Lib.hid (own_below HO.out hb)
          replace HN := Lib.hid ((hb.block _ (Array.getElem?_eq_some_iff.1 HN.out).1).trans HN.out)
          clear hb x0 x1 CB
          generalize codeOkB (B, yb) = okB at *
          cases okB with
          | false =>
            have HM := Lib.hid (nB rfl)
            clear nA nB nX nY
            obtain ⟨x0, x1, -, -⟩ := row2_of HN.out
            go_wp2_with fail
            refine (sblank_any _ _ _).mono ?_
            rintro e wB ⟨v2, rfl, ho2, hb⟩
            obtain ⟨a2, n2, k2, rfl⟩ := own_shape ho2
            have ho2 := own_base ho2 HSZ.out
            replace HRA := Lib.hid ((hb.block _ (Array.getElem?_eq_some_iff.1 HRA.out).1).trans HRA.out)
            replace HRB := Lib.hid ((hb.block _ (Array.getElem?_eq_some_iff.1 HRB.out).1).trans HRB.out)
            replace HB0 := Lib.hid (HB0.out.trans (hb.mono HB0.out.size))
            replace HRES := Lib.hid ((hb.block _ (Array.getElem?_eq_some_iff.1 HRES.out).1).trans HRES.out)
            replace HSZ := Lib.hid (Nat.le_trans HSZ.out hb.size)
            replace HO := Lib.hid (own_below HO.out hb)
            replace HN := Lib.hid ((hb.block _ (Array.getElem?_eq_some_iff.1 HN.out).1).trans HN.out)
            obtain ⟨c0, c1, f0, f1⟩ := row2_of HRES.out
            have hlt := (Array.getElem?_eq_some_iff.1 HRES.out).1
            have HF := Lib.hid (And.intro (cd_res HRES.out (.slice a2 n2 k2) z4) (And.intro (own_base (own_set2 ho2 (by omega : w.heap.size + 2 < w.heap.size + 3) (.slice a2 n2 k2) (.string z4)) (by omega : w.heap.size ≤ w.heap.size + 3)) (below2 HB0.out (by omega : w.heap.size ≤ w.heap.size + 2) (.slice a2 n2 k2) (.string z4))))
            clear hb ho2 HRA HRB HRES HO HB0 HN x0 x1
            go_wp2_with fail
            refine bodyPost_ret (v := .tuple #[.agg #[.slice a2 n2 k2, .string z4], .bool false]) ?_ rfl ⟨_, by rw [HM.out]; rfl, by rw [HM.out]; exact HF.out.2.1, HF.out.2.2⟩
            rw [results_cell_slot (p := 4) (u := 5) (ty := 26) (by kernel_rfl)]
            have l2 := HF.out.1
            simp [asAddr, Result.andThen, l2]
          | true =>
            obtain ⟨x0, x1, -, -⟩ := row2_of HN.out
            go_wp2_with fail
            refine (CX.out _ _ (keysAt_own HO.out) (by have h1 := hA6.out (by simp); have h2 := hB6.out (by simp); have h3 := HML.out; omega)).mono ?_
            rintro e wX ⟨rfl, hb⟩
            replace HRA := Lib.hid ((hb.block _ (Array.getElem?_eq_some_iff.1 HRA.out).1).trans HRA.out)
            replace HRB := Lib.hid ((hb.block _ (Array.getElem?_eq_some_iff.1 HRB.out).1).trans HRB.out)
            replace HB0 := Lib.hid (HB0.out.trans (hb.mono HB0.out.size))
            replace HRES := Lib.hid ((hb.block _ (Array.getElem?_eq_some_iff.1 HRES.out).1).trans HRES.out)
            replace HSZ := Lib.hid (Nat.le_trans HSZ.out hb.size)
            replace HO := Lib.hid (own_below HO.out hb)
            replace HN := Lib.hid ((hb.block _ (Array.getElem?_eq_some_iff.1 HN.out).1).trans HN.out)
            clear hb x0 x1 CX
            generalize codeOkB (M, Y) = okX at *
            cases okX with
            | false =>
              have HM := Lib.hid (nX rfl)
              clear nA nB nX nY
              obtain ⟨x0, x1, -, -⟩ := row2_of HN.out
              go_wp2_with fail
              refine (sblank_any _ _ _).mono ?_
              rintro e wB ⟨v2, rfl, ho2, hb⟩
              obtain ⟨a2, n2, k2, rfl⟩ := own_shape ho2
              have ho2 := own_base ho2 HSZ.out
              replace HRA := Lib.hid ((hb.block _ (Array.getElem?_eq_some_iff.1 HRA.out).1).trans HRA.out)
              replace HRB := Lib.hid ((hb.block _ (Array.getElem?_eq_some_iff.1 HRB.out).1).trans HRB.out)
              replace HB0 := Lib.hid (HB0.out.trans (hb.mono HB0.out.size))
              replace HRES := Lib.hid ((hb.block _ (Array.getElem?_eq_some_iff.1 HRES.out).1).trans HRES.out)
              replace HSZ := Lib.hid (Nat.le_trans HSZ.out hb.size)
              replace HO := Lib.hid (own_below HO.out hb)
              replace HN := Lib.hid ((hb.block _ (Array.getElem?_eq_some_iff.1 HN.out).1).trans HN.out)
              obtain ⟨c0, c1, f0, f1⟩ := row2_of HRES.out
              have hlt := (Array.getElem?_eq_some_iff.1 HRES.out).1
              have HF := Lib.hid (And.intro (cd_res HRES.out (.slice a2 n2 k2) z4) (And.intro (own_base (own_set2 ho2 (by omega : w.heap.size + 2 < w.heap.size + 3) (.slice a2 n2 k2) (.string z4)) (by omega : w.heap.size ≤ w.heap.size + 3)) (below2 HB0.out (by omega : w.heap.size ≤ w.heap.size + 2) (.slice a2 n2 k2) (.string z4))))
              clear hb ho2 HRA HRB HRES HO HB0 HN x0 x1
              go_wp2_with fail
              refine bodyPost_ret (v := .tuple #[.agg #[.slice a2 n2 k2, .string z4], .bool false]) ?_ rfl ⟨_, by rw [HM.out]; rfl, by rw [HM.out]; exact HF.out.2.1, HF.out.2.2⟩
              rw [results_cell_slot (p := 4) (u := 5) (ty := 26) (by kernel_rfl)]
              have l2 := HF.out.1
              simp [asAddr, Result.andThen, l2]
            | true =>
              have HM := Lib.hid (nY (by simp) (by simp) (by simp))
              clear nA nB nX nY
              obtain ⟨x0, x1, -, -⟩ := row2_of HN.out
              obtain ⟨c0, c1, f0, f1⟩ := row2_of HRES.out
              have hlt := (Array.getElem?_eq_some_iff.1 HRES.out).1
              have HF := Lib.hid (And.intro (cd_res HRES.out (.slice a3 n3 k3) Y) (And.intro (own_base (own_set2 HO.out (by omega : w.heap.size + 2 < w.heap.size + 3) (.slice a3 n3 k3) (.string Y)) (by omega : w.heap.size ≤ w.heap.size + 3)) (below2 HB0.out (by omega : w.heap.size ≤ w.heap.size + 2) (.slice a3 n3 k3) (.string Y))))
              clear HRA HRB HRES HO HB0 HN
              go_wp2_with fail
              refine bodyPost_ret (v := .tuple #[.agg #[.slice a3 n3 k3, .string Y], .bool true]) ?_ rfl ⟨_, by rw [HM.out], by rw [HM.out]; exact HF.out.2.1, HF.out.2.2⟩
              rw [results_cell_slot (p := 4) (u := 5) (ty := 26) (by kernel_rfl)]
              have l2 := HF.out.1
              simp [asAddr, Result.andThen, l2]
    · refine segt_run rfl (by rfl) (fun K hK => ?_)
      go_simp
      have HB6 := Lib.hid HSZ.out
      have HNE := Lib.hid (fun (e : (Value.slice a3 n3 k3).ownBlock = some w3.heap.size) => (absurd (HO.out.lt _ e).2 (Nat.lt_irrefl _) : False))
      have HNn := Lib.hid (heap_alloc_new (w3) (.cells #[.slice none 0 0, .string ⟨#[]⟩] 26))
      replace HRA := Lib.hid ((Below.heap_alloc _ (.cells #[.slice none 0 0, .string ⟨#[]⟩] 26) _ (Array.getElem?_eq_some_iff.1 HRA.out).1).trans HRA.out)
      replace HRB := Lib.hid ((Below.heap_alloc _ (.cells #[.slice none 0 0, .string ⟨#[]⟩] 26) _ (Array.getElem?_eq_some_iff.1 HRB.out).1).trans HRB.out)
      replace HB0 := Lib.hid (HB0.out.alloc HB0.out.size (.cells #[.slice none 0 0, .string ⟨#[]⟩] 26))
      replace HRES := Lib.hid ((Below.heap_alloc _ (.cells #[.slice none 0 0, .string ⟨#[]⟩] 26) _ (Array.getElem?_eq_some_iff.1 HRES.out).1).trans HRES.out)
      replace HSZ := Lib.hid (Nat.le_trans HSZ.out (size_le_alloc _ (.cells #[.slice none 0 0, .string ⟨#[]⟩] 26)))
      replace HO := Lib.hid (HO.out.alloc (.cells #[.slice none 0 0, .string ⟨#[]⟩] 26))
      have HN := HNn
      clear HNn
      generalize World.alloc (w3) (.cells #[.slice none 0 0, .string ⟨#[]⟩] 26) = w4 at *
      generalize (w3).heap.size = b6 at *
      refine hK _ _ ⟨_, fun _ h => h, ⟨HRA.out, HRB.out⟩, ?_⟩
      clear hK K
      try simp only [Act.put, List.setIfInBounds_toArray, List.set_cons_zero, List.set_cons_succ]
      refine wpG_seg [] [9] 2 (by kernel_rfl) (by intro c a d v w h; cases d <;> exact h) (by kernel_rfl) ⟨HRA.out, HRB.out⟩ ?_
      try simp only [maskRows]
      refine wpQuiet_nil ?_
      refine List.forall_mem_singleton.2 ?_
      refine segt_run rfl (by rfl) (fun K hK => ?_)
      go_simp
      refine (SX.out _).mono ?_
      rintro e w5 ⟨rfl, hb⟩
      dsimp only
      replace HRA := Lib.hid ((hb.block _ (Array.getElem?_eq_some_iff.1 HRA.out).1).trans HRA.out)
      replace HRB := Lib.hid ((hb.block _ (Array.getElem?_eq_some_iff.1 HRB.out).1).trans HRB.out)
      replace HB0 := Lib.hid (HB0.out.trans (hb.mono HB0.out.size))
      replace HRES := Lib.hid ((hb.block _ (Array.getElem?_eq_some_iff.1 HRES.out).1).trans HRES.out)
      replace HSZ := Lib.hid (Nat.le_trans HSZ.out hb.size)
      replace HO := Lib.hid (own_below HO.out hb)
      replace HN := Lib.hid ((hb.block _ (Array.getElem?_eq_some_iff.1 HN.out).1).trans HN.out)
      replace HB6 := Lib.hid (HB6.out)
      replace HNE := Lib.hid (HNE.out)
      clear hb
      refine hK _ _ ⟨_, fun _ h => h, ⟨HRA.out, HRB.out⟩, ?_⟩
      clear hK K
      try simp only [Act.put, List.setIfInBounds_toArray, List.set_cons_zero, List.set_cons_succ]
      refine wpG_seg [] [10] 1 (by kernel_rfl) (by intro c a d v w h; cases d <;> exact h) (by kernel_rfl) ⟨HRA.out, HRB.out⟩ ?_
      try simp only [maskRows]
      refine wpQuiet_nil ?_
      refine List.forall_mem_singleton.2 ?_
      refine segt_run rfl (by rfl) (fun K hK => ?_)
      go_simp
      refine hK _ _ ⟨_, fun _ h => h, ⟨HRA.out, HRB.out⟩, ?_⟩
      clear hK K
      try simp only [Act.put, List.setIfInBounds_toArray, List.set_cons_zero, List.set_cons_succ]
      refine wpG_seg [] [12] 0 (by kernel_rfl) (by intro c a d v w h; cases d <;> exact h) (by kernel_rfl) ⟨HRA.out, HRB.out⟩ ?_
      try simp only [maskRows]
      refine wpQuiet_nil ?_
      refine List.forall_mem_singleton.2 ?_
      have hb6 := HB6.out
      obtain ⟨c0, c1, f0, f1⟩ := row2_of HN.out
      have hlt := (Array.getElem?_eq_some_iff.1 HN.out).1
      have HN' := Lib.hid (set2 (.slice a3 n3 k3) (.string Y) HN.out)
      have HRA' := Lib.hid (row_set2 HRA.out (by omega : w.heap.size ≠ b6) (.slice a3 n3 k3) (.string Y))
      have HRB' := Lib.hid (row_set2 HRB.out (by omega : w.heap.size + 1 ≠ b6) (.slice a3 n3 k3) (.string Y))
      have HRES' := Lib.hid (row_set2 HRES.out (by omega : w.heap.size + 2 ≠ b6) (.slice a3 n3 k3) (.string Y))
      have HB0' := Lib.hid (below2 HB0.out (by omega : w.heap.size ≤ b6) (.slice a3 n3 k3) (.string Y))
      have HO' := Lib.hid (HO.out.kept (grown2 _ b6 (.slice a3 n3 k3) (.string Y)) (.inr HNE.out))
      have HSZ' := Lib.hid (Nat.le_trans HSZ.out (Nat.le_of_eq (size_set2 _ b6 (.slice a3 n3 k3) (.string Y)).symm))
      clear hb6
      refine segt_run rfl (by rfl) (fun K hK => ?_)
      go_simp
      replace HN := HN'
      replace HRA := HRA'
      replace HRB := HRB'
      replace HRES := HRES'
      replace HB0 := HB0'
      replace HO := HO'
      replace HSZ := HSZ'
      clear HN' HRA' HRB' HRES' HB0' HO' HSZ' c0 c1 f0 f1 hlt
      generalize (World.setCell (World.setCell w5 ⟨b6, 0, none⟩ (.slice a3 n3 k3)) ⟨b6, 1, none⟩ (.string Y)) = wS at *
      refine hK _ _ ⟨_, fun _ h => h, ⟨HRA.out, HRB.out⟩, ?_⟩
      clear hK K
      try simp only [Act.put, List.setIfInBounds_toArray, List.set_cons_zero, List.set_cons_succ]
      refine wpG_end [] (by kernel_rfl) (by intro c a d v w h; cases d <;> exact h) (by kernel_rfl) ⟨HRA.out, HRB.out⟩ ?_
      try simp only [maskRows]
      refine wpQuiet_nil ?_
      obtain ⟨x0, x1, -, -⟩ := row2_of HRA.out
      go_wp2_with fail
      refine (CA.out _ HB0.out).mono ?_
      rintro e wP ⟨rfl, hb⟩
      replace HRA := Lib.hid ((hb.block _ (Array.getElem?_eq_some_iff.1 HRA.out).1).trans HRA.out)
      replace HRB := Lib.hid ((hb.block _ (Array.getElem?_eq_some_iff.1 HRB.out).1).trans HRB.out)
      replace HB0 := Lib.hid (HB0.out.trans (hb.mono HB0.out.size))
      replace HRES := Lib.hid ((hb.block _ (Array.getElem?_eq_some_iff.1 HRES.out).1).trans HRES.out)
      replace HSZ := Lib.hid (Nat.le_trans HSZ.out hb.size)
      replace HO := Lib.hid (own_below HO.out hb)
      replace HN := Lib.hid ((hb.block _ (Array.getElem?_eq_some_iff.1 HN.out).1).trans HN.out)
      clear hb x0 x1 CA
      generalize codeOkB (A, ya) = okA at *
      cases okA with
      | false =>
        have HM := Lib.hid (nA rfl)
        clear nA nB nX nY
        obtain ⟨x0, x1, -, -⟩ := row2_of HN.out
        go_wp2_with fail
        refine (sblank_any _ _ _).mono ?_
        rintro e wB ⟨v2, rfl, ho2, hb⟩
        obtain ⟨a2, n2, k2, rfl⟩ := own_shape ho2
        have ho2 := own_base ho2 HSZ.out
        replace HRA := Lib.hid ((hb.block _ (Array.getElem?_eq_some_iff.1 HRA.out).1).trans HRA.out)
        replace HRB := Lib.hid ((hb.block _ (Array.getElem?_eq_some_iff.1 HRB.out).1).trans HRB.out)
        replace HB0 := Lib.hid (HB0.out.trans (hb.mono HB0.out.size))
        replace HRES := Lib.hid ((hb.block _ (Array.getElem?_eq_some_iff.1 HRES.out).1).trans HRES.out)
        replace HSZ := Lib.hid (Nat.le_trans HSZ.out hb.size)
        replace HO := Lib.hid (own_below HO.out hb)
        replace HN := Lib.hid ((hb.block _ (Array.getElem?_eq_some_iff.1 HN.out).1).trans HN.out)
        obtain ⟨c0, c1, f0, f1⟩ := row2_of HRES.out
        have hlt := (Array.getElem?_eq_some_iff.1 HRES.out).1
        have HF := Lib.hid (And.intro (cd_res HRES.out (.slice a2 n2 k2) z4) (And.intro (own_base (own_set2 ho2 (by omega : w.heap.size + 2 < w.heap.size + 3) (.slice a2 n2 k2) (.string z4)) (by omega : w.heap.size ≤ w.heap.size + 3)) (below2 HB0.out (by omega : w.heap.size ≤ w.heap.size + 2) (.slice a2 n2 k2) (.string z4))))
        clear hb ho2 HRA HRB HRES HO HB0 HN x0 x1
        go_wp2_with fail
        refine bodyPost_ret (v := .tuple #[.agg #[.slice a2 n2 k2, .string z4], .bool false]) ?_ rfl ⟨_, by rw [HM.out]; rfl, by rw [HM.out]; exact HF.out.2.1, HF.out.2.2⟩
        rw [results_cell_slot (p := 4) (u := 5) (ty := 26) (by kernel_rfl)]
        have l2 := HF.out.1
        simp [asAddr, Result.andThen, l2]
      | true =>
        obtain ⟨x0, x1, -, -⟩ := row2_of HRB.out
        go_wp2_with fail
        refine (CB.out _ HB0.out).mono ?_
        rintro e wQ ⟨rfl, hb⟩
        replace HRA := Lib.hid ((hb.block _ (Array.getElem?_eq_some_iff.1 HRA.out).1).trans HRA.out)
        replace HRB := Lib.hid ((hb.block _ (Array.getElem?_eq_some_iff.1 HRB.out).1).trans HRB.out)
        replace HB0 := Lib.hid (HB0.out.trans (hb.mono HB0.out.size))
        replace HRES := Lib.hid ((hb.block _ (Array.getElem?_eq_some_iff.1 HRES.out).1).trans HRES.out)
        replace HSZ := Lib.hid (Nat.le_trans HSZ.out hb.size)
        replace HO := Lib.hid (own_below HO.out hb)
        replace HN := Lib.hid ((hb.block _ (Array.getElem?_eq_some_iff.1 HN.out).1).trans HN.out)
        clear hb x0 x1 CB
        generalize codeOkB (B, yb) = okB at *
        cases okB with
        | false =>
          have HM := Lib.hid (nB rfl)
          clear nA nB nX nY
          obtain ⟨x0, x1, -, -⟩ := row2_of HN.out
          go_wp2_with fail
          refine (sblank_any _ _ _).mono ?_
          rintro e wB ⟨v2, rfl, ho2, hb⟩
          obtain ⟨a2, n2, k2, rfl⟩ := own_shape ho2
          have ho2 := own_base ho2 HSZ.out
          replace HRA := Lib.hid ((hb.block _ (Array.getElem?_eq_some_iff.1 HRA.out).1).trans HRA.out)
          replace HRB := Lib.hid ((hb.block _ (Array.getElem?_eq_some_iff.1 HRB.out).1).trans HRB.out)
          replace HB0 := Lib.hid (HB0.out.trans (hb.mono HB0.out.size))
          replace HRES := Lib.hid ((hb.block _ (Array.getElem?_eq_some_iff.1 HRES.out).1).trans HRES.out)
          replace HSZ := Lib.hid (Nat.le_trans HSZ.out hb.size)
          replace HO := Lib.hid (own_below HO.out hb)
          replace HN := Lib.hid ((hb.block _ (Array.getElem?_eq_some_iff.1 HN.out).1).trans HN.out)
          obtain ⟨c0, c1, f0, f1⟩ := row2_of HRES.out
          have hlt := (Array.getElem?_eq_some_iff.1 HRES.out).1
          have HF := Lib.hid (And.intro (cd_res HRES.out (.slice a2 n2 k2) z4) (And.intro (own_base (own_set2 ho2 (by omega : w.heap.size + 2 < w.heap.size + 3) (.slice a2 n2 k2) (.string z4)) (by omega : w.heap.size ≤ w.heap.size + 3)) (below2 HB0.out (by omega : w.heap.size ≤ w.heap.size + 2) (.slice a2 n2 k2) (.string z4))))
          clear hb ho2 HRA HRB HRES HO HB0 HN x0 x1
          go_wp2_with fail
          refine bodyPost_ret (v := .tuple #[.agg #[.slice a2 n2 k2, .string z4], .bool false]) ?_ rfl ⟨_, by rw [HM.out]; rfl, by rw [HM.out]; exact HF.out.2.1, HF.out.2.2⟩
          rw [results_cell_slot (p := 4) (u := 5) (ty := 26) (by kernel_rfl)]
          have l2 := HF.out.1
          simp [asAddr, Result.andThen, l2]
        | true =>
          obtain ⟨x0, x1, -, -⟩ := row2_of HN.out
          go_wp2_with fail
          refine (CX.out _ _ (keysAt_own HO.out) (by have h1 := hA6.out (by simp); have h2 := hB6.out (by simp); have h3 := HML.out; omega)).mono ?_
          rintro e wX ⟨rfl, hb⟩
          replace HRA := Lib.hid ((hb.block _ (Array.getElem?_eq_some_iff.1 HRA.out).1).trans HRA.out)
          replace HRB := Lib.hid ((hb.block _ (Array.getElem?_eq_some_iff.1 HRB.out).1).trans HRB.out)
          replace HB0 := Lib.hid (HB0.out.trans (hb.mono HB0.out.size))
          replace HRES := Lib.hid ((hb.block _ (Array.getElem?_eq_some_iff.1 HRES.out).1).trans HRES.out)
          replace HSZ := Lib.hid (Nat.le_trans HSZ.out hb.size)
          replace HO := Lib.hid (own_below HO.out hb)
          replace HN := Lib.hid ((hb.block _ (Array.getElem?_eq_some_iff.1 HN.out).1).trans HN.out)
          clear hb x0 x1 CX
          generalize codeOkB (M, Y) = okX at *
          cases okX with
          | false =>
            have HM := Lib.hid (nX rfl)
            clear nA nB nX nY
            obtain ⟨x0, x1, -, -⟩ := row2_of HN.out
            go_wp2_with fail
            refine (sblank_any _ _ _).mono ?_
            rintro e wB ⟨v2, rfl, ho2, hb⟩
            obtain ⟨a2, n2, k2, rfl⟩ := own_shape ho2
            have ho2 := own_base ho2 HSZ.out
            replace HRA := Lib.hid ((hb.block _ (Array.getElem?_eq_some_iff.1 HRA.out).1).trans HRA.out)
            replace HRB := Lib.hid ((hb.block _ (Array.getElem?_eq_some_iff.1 HRB.out).1).trans HRB.out)
            replace HB0 := Lib.hid (HB0.out.trans (hb.mono HB0.out.size))
            replace HRES := Lib.hid ((hb.block _ (Array.getElem?_eq_some_iff.1 HRES.out).1).trans HRES.out)
            replace HSZ := Lib.hid (Nat.le_trans HSZ.out hb.size)
            replace HO := Lib.hid (own_below HO.out hb)
            replace HN := Lib.hid ((hb.block _ (Array.getElem?_eq_some_iff.1 HN.out).1).trans HN.out)
            obtain ⟨c0, c1, f0, f1⟩ := row2_of HRES.out
            have hlt := (Array.getElem?_eq_some_iff.1 HRES.out).1
            have HF := Lib.hid (And.intro (cd_res HRES.out (.slice a2 n2 k2) z4) (And.intro (own_base (own_set2 ho2 (by omega : w.heap.size + 2 < w.heap.size + 3) (.slice a2 n2 k2) (.string z4)) (by omega : w.heap.size ≤ w.heap.size + 3)) (below2 HB0.out (by omega : w.heap.size ≤ w.heap.size + 2) (.slice a2 n2 k2) (.string z4))))
            clear hb ho2 HRA HRB HRES HO HB0 HN x0 x1
            go_wp2_with fail
            refine bodyPost_ret (v := .tuple #[.agg #[.slice a2 n2 k2, .string z4], .bool false]) ?_ rfl ⟨_, by rw [HM.out]; rfl, by rw [HM.out]; exact HF.out.2.1, HF.out.2.2⟩
            rw [results_cell_slot (p := 4) (u := 5) (ty := 26) (by kernel_rfl)]
            have l2 := HF.out.1
            simp [asAddr, Result.andThen, l2]
          | true =>
            have HM := Lib.hid (nY (by simp) (by simp) (by simp))
            clear nA nB nX nY
            obtain ⟨x0, x1, -, -⟩ := row2_of HN.out
            obtain ⟨c0, c1, f0, f1⟩ := row2_of HRES.out
            have hlt := (Array.getElem?_eq_some_iff.1 HRES.out).1
            have HF := Lib.hid (And.intro (cd_res HRES.out (.slice a3 n3 k3) Y) (And.intro (own_base (own_set2 HO.out (by omega : w.heap.size + 2 < w.heap.size + 3) (.slice a3 n3 k3) (.string Y)) (by omega : w.heap.size ≤ w.heap.size + 3)) (below2 HB0.out (by omega : w.heap.size ≤ w.heap.size + 2) (.slice a3 n3 k3) (.string Y))))
            clear HRA HRB HRES HO HB0 HN
            go_wp2_with fail
            refine bodyPost_ret (v := .tuple #[.agg #[.slice a3 n3 k3, .string Y], .bool true]) ?_ rfl ⟨_, by rw [HM.out], by rw [HM.out]; exact HF.out.2.1, HF.out.2.2⟩
            rw [results_cell_slot (p := 4) (u := 5) (ty := 26) (by kernel_rfl)]
            have l2 := HF.out.1
            simp [asAddr, Result.andThen, l2]
  · refine segt_run rfl (by rfl) (fun K hK => ?_)
    go_simp
    have HB6 := Lib.hid HSZ.out
    have HNn := Lib.hid (heap_alloc_new (wD) (.cells #[.slice none 0 0, .string ⟨#[]⟩] 26))
    replace HRA := Lib.hid ((Below.heap_alloc _ (.cells #[.slice none 0 0, .string ⟨#[]⟩] 26) _ (Array.getElem?_eq_some_iff.1 HRA.out).1).trans HRA.out)
    replace HRB := Lib.hid ((Below.heap_alloc _ (.cells #[.slice none 0 0, .string ⟨#[]⟩] 26) _ (Array.getElem?_eq_some_iff.1 HRB.out).1).trans HRB.out)
    replace HB0 := Lib.hid (HB0.out.alloc HB0.out.size (.cells #[.slice none 0 0, .string ⟨#[]⟩] 26))
    replace HRES := Lib.hid ((Below.heap_alloc _ (.cells #[.slice none 0 0, .string ⟨#[]⟩] 26) _ (Array.getElem?_eq_some_iff.1 HRES.out).1).trans HRES.out)
    replace HSZ := Lib.hid (Nat.le_trans HSZ.out (size_le_alloc _ (.cells #[.slice none 0 0, .string ⟨#[]⟩] 26)))
    have HN := HNn
    clear HNn
    generalize World.alloc (wD) (.cells #[.slice none 0 0, .string ⟨#[]⟩] 26) = w3 at *
    generalize (wD).heap.size = b6 at *
    refine hK _ _ ⟨_, fun _ h => h, ⟨HRA.out, HRB.out⟩, ?_⟩
    clear hK K
    try simp only [Act.put, List.setIfInBounds_toArray, List.set_cons_zero, List.set_cons_succ]
    refine wpG_seg [] [4] 3 (by kernel_rfl) (by intro c a d v w h; cases d <;> exact h) (by kernel_rfl) ⟨HRA.out, HRB.out⟩ ?_
    try simp only [maskRows]
    refine wpQuiet_nil ?_
    refine List.forall_mem_singleton.2 ?_
    refine segt_run rfl (by rfl) (fun K hK => ?_)
    go_simp
    refine (SP.out _ HB0.out).mono ?_
    rintro e w4 ⟨v3, rfl, ho3, hb⟩
    dsimp only
    have HSZo := Lib.hid HSZ.out
    have HBL := Lib.hid (Array.getElem?_eq_some_iff.1 HN.out).1
    have hNE := fun (b6 : Nat) (hl : b6 < w3.heap.size) (e : v3.ownBlock = some b6) => (absurd (ho3.lt b6 e).1 (Nat.not_le.2 hl) : False)
    replace HRA := Lib.hid ((hb.block _ (Array.getElem?_eq_some_iff.1 HRA.out).1).trans HRA.out)
    replace HRB := Lib.hid ((hb.block _ (Array.getElem?_eq_some_iff.1 HRB.out).1).trans HRB.out)
    replace HB0 := Lib.hid (HB0.out.trans (hb.mono HB0.out.size))
    replace HRES := Lib.hid ((hb.block _ (Array.getElem?_eq_some_iff.1 HRES.out).1).trans HRES.out)
    replace HSZ := Lib.hid (Nat.le_trans HSZ.out hb.size)
    replace HN := Lib.hid ((hb.block _ (Array.getElem?_eq_some_iff.1 HN.out).1).trans HN.out)
    replace HB6 := Lib.hid (HB6.out)
    have HNE := Lib.hid (hNE b6 HBL.out)
    clear hNE
    obtain ⟨a3, n3, k3, rfl⟩ := own_shape ho3
    have HO := Lib.hid (own_base ho3 HSZo.out)
    clear ho3 HSZo
    clear hb
    clear HBL
    refine hK _ _ ⟨_, fun _ h => h, ⟨HRA.out, HRB.out⟩, ?_⟩
    clear hK K
    try simp only [Act.put, List.setIfInBounds_toArray, List.set_cons_zero, List.set_cons_succ]
    refine wpG_seg [] [9] 2 (by kernel_rfl) (by intro c a d v w h; cases d <;> exact h) (by kernel_rfl) ⟨HRA.out, HRB.out⟩ ?_
    try simp only [maskRows]
    refine wpQuiet_nil ?_
    refine List.forall_mem_singleton.2 ?_
    refine segt_run rfl (by rfl) (fun K hK => ?_)
    go_simp
    refine (SX.out _).mono ?_
    rintro e w5 ⟨rfl, hb⟩
    dsimp only
    replace HRA := Lib.hid ((hb.block _ (Array.getElem?_eq_some_iff.1 HRA.out).1).trans HRA.out)
    replace HRB := Lib.hid ((hb.block _ (Array.getElem?_eq_some_iff.1 HRB.out).1).trans HRB.out)
    replace HB0 := Lib.hid (HB0.out.trans (hb.mono HB0.out.size))
    replace HRES := Lib.hid ((hb.block _ (Array.getElem?_eq_some_iff.1 HRES.out).1).trans HRES.out)
    replace HSZ := Lib.hid (Nat.le_trans HSZ.out hb.size)
    replace HN := Lib.hid ((hb.block _ (Array.getElem?_eq_some_iff.1 HN.out).1).trans HN.out)
    replace HB6 := Lib.hid (HB6.out)
    replace HO := Lib.hid (own_below HO.out hb)
    replace HNE := Lib.hid (HNE.out)
    clear hb
    refine hK _ _ ⟨_, fun _ h => h, ⟨HRA.out, HRB.out⟩, ?_⟩
    clear hK K
    try simp only [Act.put, List.setIfInBounds_toArray, List.set_cons_zero, List.set_cons_succ]
    refine wpG_seg [] [10] 1 (by kernel_rfl) (by intro c a d v w h; cases d <;> exact h) (by kernel_rfl) ⟨HRA.out, HRB.out⟩ ?_
    try simp only [maskRows]
    refine wpQuiet_nil ?_
    refine List.forall_mem_singleton.2 ?_
    refine segt_run rfl (by rfl) (fun K hK => ?_)
    go_simp
    refine hK _ _ ⟨_, fun _ h => h, ⟨HRA.out, HRB.out⟩, ?_⟩
    clear hK K
    try simp only [Act.put, List.setIfInBounds_toArray, List.set_cons_zero, List.set_cons_succ]
    refine wpG_seg [] [12] 0 (by kernel_rfl) (by intro c a d v w h; cases d <;> exact h) (by kernel_rfl) ⟨HRA.out, HRB.out⟩ ?_
    try simp only [maskRows]
    refine wpQuiet_nil ?_
    refine List.forall_mem_singleton.2 ?_
    have hb6 := HB6.out
    obtain ⟨c0, c1, f0, f1⟩ := row2_of HN.out
    have hlt := (Array.getElem?_eq_some_iff.1 HN.out).1
    have HN' := Lib.hid (set2 (.slice a3 n3 k3) (.string Y) HN.out)
    have HRA' := Lib.hid (row_set2 HRA.out (by omega : w.heap.size ≠ b6) (.slice a3 n3 k3) (.string Y))
    have HRB' := Lib.hid (row_set2 HRB.out (by omega : w.heap.size + 1 ≠ b6) (.slice a3 n3 k3) (.string Y))
    have HRES' := Lib.hid (row_set2 HRES.out (by omega : w.heap.size + 2 ≠ b6) (.slice a3 n3 k3) (.string Y))
    have HB0' := Lib.hid (below2 HB0.out (by omega : w.heap.size ≤ b6) (.slice a3 n3 k3) (.string Y))
    have HO' := Lib.hid (HO.out.kept (grown2 _ b6 (.slice a3 n3 k3) (.string Y)) (.inr HNE.out))
    have HSZ' := Lib.hid (Nat.le_trans HSZ.out (Nat.le_of_eq (size_set2 _ b6 (.slice a3 n3 k3) (.string Y)).symm))
    clear hb6
    refine segt_run rfl (by rfl) (fun K hK => ?_)
    go_simp
    replace HN := HN'
    replace HRA := HRA'
    replace HRB := HRB'
    replace HRES := HRES'
    replace HB0 := HB0'
    replace HO := HO'
    replace HSZ := HSZ'
    clear HN' HRA' HRB' HRES' HB0' HO' HSZ' c0 c1 f0 f1 hlt
    generalize (World.setCell (World.setCell w5 ⟨b6, 0, none⟩ (.slice a3 n3 k3)) ⟨b6, 1, none⟩ (.string Y)) = wS at *
    refine hK _ _ ⟨_, fun _ h => h, ⟨HRA.out, HRB.out⟩, ?_⟩
    clear hK K
    try simp only [Act.put, List.setIfInBounds_toArray, List.set_cons_zero, List.set_cons_succ]
    refine wpG_end [] (by kernel_rfl) (by intro c a d v w h; cases d <;> exact h) (by kernel_rfl) ⟨HRA.out, HRB.out⟩ ?_
    try simp only [maskRows]
    refine wpQuiet_nil ?_
    obtain ⟨x0, x1, -, -⟩ := row2_of HRA.out
    go_wp2_with fail
    refine (CA.out _ HB0.out).mono ?_
    rintro e wP ⟨rfl, hb⟩
    replace HRA := Lib.hid ((hb.block _ (Array.getElem?_eq_some_iff.1 HRA.out).1).trans HRA.out)
    replace HRB := Lib.hid ((hb.block _ (Array.getElem?_eq_some_iff.1 HRB.out).1).trans HRB.out)
    replace HB0 := Lib.hid (HB0.out.trans (hb.mono HB0.out.size))
    replace HRES := Lib.hid ((hb.block _ (Array.getElem?_eq_some_iff.1 HRES.out).1).trans HRES.out)
    replace HSZ := Lib.hid (Nat.le_trans HSZ.out hb.size)
    replace HO := Lib.hid (own_below HO.out hb)
    replace HN := Lib.hid ((hb.block _ (Array.getElem?_eq_some_iff.1 HN.out).1).trans HN.out)
    clear hb x0 x1 CA
    generalize codeOkB (A, ya) = okA at *
    cases okA with
    | false =>
      have HM := Lib.hid (nA rfl)
      clear nA nB nX nY
      obtain ⟨x0, x1, -, -⟩ := row2_of HN.out
      go_wp2_with fail
      refine (sblank_any _ _ _).mono ?_
      rintro e wB ⟨v2, rfl, ho2, hb⟩
      obtain ⟨a2, n2, k2, rfl⟩ := own_shape ho2
      have ho2 := own_base ho2 HSZ.out
      replace HRA := Lib.hid ((hb.block _ (Array.getElem?_eq_some_iff.1 HRA.out).1).trans HRA.out)
      replace HRB := Lib.hid ((hb.block _ (Array.getElem?_eq_some_iff.1 HRB.out).1).trans HRB.out)
      replace HB0 := Lib.hid (HB0.out.trans (hb.mono HB0.out.size))
      replace HRES := Lib.hid ((hb.block _ (Array.getElem?_eq_some_iff.1 HRES.out).1).trans HRES.out)
      replace HSZ := Lib.hid (Nat.le_trans HSZ.out hb.size)
      replace HO := Lib.hid (own_below HO.out hb)
      replace HN := Lib.hid ((hb.block _ (Array.getElem?_eq_some_iff.1 HN.out).1).trans HN.out)
      obtain ⟨c0, c1, f0, f1⟩ := row2_of HRES.out
      have hlt := (Array.getElem?_eq_some_iff.1 HRES.out).1
      have HF := Lib.hid (And.intro (cd_res HRES.out (.slice a2 n2 k2) z4) (And.intro (own_base (own_set2 ho2 (by omega : w.heap.size + 2 < w.heap.size + 3) (.slice a2 n2 k2) (.string z4)) (by omega : w.heap.size ≤ w.heap.size + 3)) (below2 HB0.out (by omega : w.heap.size ≤ w.heap.size + 2) (.slice a2 n2 k2) (.string z4))))
      clear hb ho2 HRA HRB HRES HO HB0 HN x0 x1
      go_wp2_with fail
      refine bodyPost_ret (v := .tuple #[.agg #[.slice a2 n2 k2, .string z4], .bool false]) ?_ rfl ⟨_, by rw [HM.out]; rfl, by rw [HM.out]; exact HF.out.2.1, HF.out.2.2⟩
      rw [results_cell_slot (p := 4) (u := 5) (ty := 26) (by kernel_rfl)]
      have l2 := HF.out.1
      simp [asAddr, Result.andThen, l2]
    | true =>
      obtain ⟨x0, x1, -, -⟩ := row2_of HRB.out
      go_wp2_with fail
      refine (CB.out _ HB0.out).mono ?_
      rintro e wQ ⟨rfl, hb⟩
      replace HRA := Lib.hid ((hb.block _ (Array.getElem?_eq_some_iff.1 HRA.out).1).trans HRA.out)
      replace HRB := Lib.hid ((hb.block _ (Array.getElem?_eq_some_iff.1 HRB.out).1).trans HRB.out)
      replace HB0 := Lib.hid (HB0.out.trans (hb.mono HB0.out.size))
      replace HRES := Lib.hid ((hb.block _ (Array.getElem?_eq_some_iff.1 HRES.out).1).trans HRES.out)
      replace HSZ := Lib.hid (Nat.le_trans HSZ.out hb.size)
      replace HO := Lib.hid (own_below HO.out hb)
      replace HN := Lib.hid ((hb.block _ (Array.getElem?_eq_some_iff.1 HN.out).1).trans HN.out)
      clear hb x0 x1 CB
      generalize codeOkB (B, yb) = okB at *
      cases okB with
      | false =>
        have HM := Lib.hid (nB rfl)
        clear nA nB nX nY
        obtain ⟨x0, x1, -, -⟩ := row2_of HN.out
        go_wp2_with fail
        refine (sblank_any _ _ _).mono ?_
        rintro e wB ⟨v2, rfl, ho2, hb⟩
        obtain ⟨a2, n2, k2, rfl⟩ := own_shape ho2
        have ho2 := own_base ho2 HSZ.out
        replace HRA := Lib.hid ((hb.block _ (Array.getElem?_eq_some_iff.1 HRA.out).1).trans HRA.out)
        replace HRB := Lib.hid ((hb.block _ (Array.getElem?_eq_some_iff.1 HRB.out).1).trans HRB.out)
        replace HB0 := Lib.hid (HB0.out.trans (hb.mono HB0.out.size))
        replace HRES := Lib.hid ((hb.block _ (Array.getElem?_eq_some_iff.1 HRES.out).1).trans HRES.out)
        replace HSZ := Lib.hid (Nat.le_trans HSZ.out hb.size)
        replace HO := Lib.hid (own_below HO.out hb)
        replace HN := Lib.hid ((hb.block _ (Array.getElem?_eq_some_iff.1 HN.out).1).trans HN.out)
        obtain ⟨c0, c1, f0, f1⟩ := row2_of HRES.out
        have hlt := (Array.getElem?_eq_some_iff.1 HRES.out).1
        have HF := Lib.hid (And.intro (cd_res HRES.out (.slice a2 n2 k2) z4) (And.intro (own_base (own_set2 ho2 (by omega : w.heap.size + 2 < w.heap.size + 3) (.slice a2 n2 k2) (.string z4)) (by omega : w.heap.size ≤ w.heap.size + 3)) (below2 HB0.out (by omega : w.heap.size ≤ w.heap.size + 2) (.slice a2 n2 k2) (.string z4))))
        clear hb ho2 HRA HRB HRES HO HB0 HN x0 x1
        go_wp2_with fail
        refine bodyPost_ret (v := .tuple #[.agg #[.slice a2 n2 k2, .string z4], .bool false]) ?_ rfl ⟨_, by rw [HM.out]; rfl, by rw [HM.out]; exact HF.out.2.1, HF.out.2.2⟩
        rw [results_cell_slot (p := 4) (u := 5) (ty := 26) (by kernel_rfl)]
        have l2 := HF.out.1
        simp [asAddr, Result.andThen, l2]
      | true =>
        obtain ⟨x0, x1, -, -⟩ := row2_of HN.out
        go_wp2_with fail
        refine (CX.out _ _ (keysAt_own HO.out) (by have h1 := hA6.out (by simp); have h2 := hB6.out (by simp); have h3 := HML.out; omega)).mono ?_
        rintro e wX ⟨rfl, hb⟩
        replace HRA := Lib.hid ((hb.block _ (Array.getElem?_eq_some_iff.1 HRA.out).1).trans HRA.out)
        replace HRB := Lib.hid ((hb.block _ (Array.getElem?_eq_some_iff.1 HRB.out).1).trans HRB.out)
        replace HB0 := Lib.hid (HB0.out.trans (hb.mono HB0.out.size))
        replace HRES := Lib.hid ((hb.block _ (Array.getElem?_eq_some_iff.1 HRES.out).1).trans HRES.out)
        replace HSZ := Lib.hid (Nat.le_trans HSZ.out hb.size)
        replace HO := Lib.hid (own_below HO.out hb)
        replace HN := Lib.hid ((hb.block _ (Array.getElem?_eq_some_iff.1 HN.out).1).trans HN.out)
        clear hb x0 x1 CX
        generalize codeOkB (M, Y) = okX at *
        cases okX with
        | false =>
          have HM := Lib.hid (nX rfl)
          clear nA nB nX nY
          obtain ⟨x0, x1, -, -⟩ := row2_of HN.out
          go_wp2_with fail
          refine (sblank_any _ _ _).mono ?_
          rintro e wB ⟨v2, rfl, ho2, hb⟩
          obtain ⟨a2, n2, k2, rfl⟩ := own_shape ho2
          have ho2 := own_base ho2 HSZ.out
          replace HRA := Lib.hid ((hb.block _ (Array.getElem?_eq_some_iff.1 HRA.out).1).trans HRA.out)
          replace HRB := Lib.hid ((hb.block _ (Array.getElem?_eq_some_iff.1 HRB.out).1).trans HRB.out)
          replace HB0 := Lib.hid (HB0.out.trans (hb.mono HB0.out.size))
          replace HRES := Lib.hid ((hb.block _ (Array.getElem?_eq_some_iff.1 HRES.out).1).trans HRES.out)
          replace HSZ := Lib.hid (Nat.le_trans HSZ.out hb.size)
          replace HO := Lib.hid (own_below HO.out hb)
          replace HN := Lib.hid ((hb.block _ (Array.getElem?_eq_some_iff.1 HN.out).1).trans HN.out)
          obtain ⟨c0, c1, f0, f1⟩ := row2_of HRES.out
          have hlt := (Array.getElem?_eq_some_iff.1 HRES.out).1
          have HF := Lib.hid (And.intro (cd_res HRES.out (.slice a2 n2 k2) z4) (And.intro (own_base (own_set2 ho2 (by omega : w.heap.size + 2 < w.heap.size + 3) (.slice a2 n2 k2) (.string z4)) (by omega : w.heap.size ≤ w.heap.size + 3)) (below2 HB0.out (by omega : w.heap.size ≤ w.heap.size + 2) (.slice a2 n2 k2) (.string z4))))
          clear hb ho2 HRA HRB HRES HO HB0 HN x0 x1
          go_wp2_with fail
          refine bodyPost_ret (v := .tuple #[.agg #[.slice a2 n2 k2, .string z4], .bool false]) ?_ rfl ⟨_, by rw [HM.out]; rfl, by rw [HM.out]; exact HF.out.2.1, HF.out.2.2⟩
          rw [results_cell_slot (p := 4) (u := 5) (ty := 26) (by kernel_rfl)]
          have l2 := HF.out.1
          simp [asAddr, Result.andThen, l2]
        | true =>
          have HM := Lib.hid (nY (by simp) (by simp) (by simp))
          clear nA nB nX nY
          obtain ⟨x0, x1, -, -⟩ := row2_of HN.out
          obtain ⟨c0, c1, f0, f1⟩ := row2_of HRES.out
          have hlt := (Array.getElem?_eq_some_iff.1 HRES.out).1
          have HF := Lib.hid (And.intro (cd_res HRES.out (.slice a3 n3 k3) Y) (And.intro (own_base (own_set2 HO.out (by omega : w.heap.size + 2 < w.heap.size + 3) (.slice a3 n3 k3) (.string Y)) (by omega : w.heap.size ≤ w.heap.size + 3)) (below2 HB0.out (by omega : w.heap.size ≤ w.heap.size + 2) (.slice a3 n3 k3) (.string Y))))
          clear HRA HRB HRES HO HB0 HN
          go_wp2_with fail
          refine bodyPost_ret (v := .tuple #[.agg #[.slice a3 n3 k3, .string Y], .bool true]) ?_ rfl ⟨_, by rw [HM.out], by rw [HM.out]; exact HF.out.2.1, HF.out.2.2⟩
          rw [results_cell_slot (p := 4) (u := 5) (ty := 26) (by kernel_rfl)]
          have l2 := HF.out.1
          simp [asAddr, Result.andThen, l2]
end Go.Proofs.Ytnknfmjpkphbpaa
/- What the program's Parted answers. -/
namespace Go.Proofs.Ytnknfmjpkphbpaa
open Go.ChangeShapes Go.WideShapes Go.ChangeAt Go.RowKit Go.BigFrame
set_option linter.unusedVariables false

def IParted : Prop := ∀ (va vb : Value) (A B : List K2) (w : World), keysAt w va A → keysAt w vb B → A.length ≤ 2000000 → B.length ≤ 2000000 →
    Calls Try.prog 46 #[va, vb] w fun e w' => ∃ v, e = .returned v ∧ w'.ownsRow w.heap.size 41 2 v (mergeV false A B).length (keyCells (mergeV false A B)) ∧ Below w.heap.size w w'
end Go.Proofs.Ytnknfmjpkphbpaa
/- The program's chapter 5, walked: two words put together. -/
namespace Go.Proofs.Ytnknfmjpkphbpaa
open Go.ChangeShapes Go.WideShapes Go.ChangeAt Go.RowKit Go.BigFrame
set_option linter.unusedVariables false

set_option maxRecDepth 100000 in
set_option maxHeartbeats 4000000 in
theorem icombine_any (IP : IParted) (va : Value) (A : List K2) (ya : ByteArray) (vb : Value) (B : List K2) (yb : ByteArray) (w : World) (ha : keysAt w va A) (hb : keysAt w vb B) (hsA : A.length ≤ 1048576) (hsB : B.length ≤ 1048576) :
    Calls Try.prog 14 #[.agg #[va, .string ya], .agg #[vb, .string yb]] w fun e w' => ∃ v', e = .returned (.tuple #[.agg #[v', .string (combM (A, ya) (B, yb)).1.2], .bool (combM (A, ya) (B, yb)).2]) ∧
      w'.ownsRow w.heap.size 41 2 v' (combM (A, ya) (B, yb)).1.1.length (keyCells (combM (A, ya) (B, yb)).1.1) ∧ Below w.heap.size w w' := by
  have HP := Lib.hid (cbc_new w va ya vb yb)
  have CA := Lib.hid (fun w' (h : Below w.heap.size w w') => icodeok_any va A ya w' (keysAt_below ha h) (by omega))
  have CB := Lib.hid (fun w' (h : Below w.heap.size w w') => icodeok_any vb B yb w' (keysAt_below hb h) (by omega))
  have SP := Lib.hid (fun w' (h : Below w.heap.size w w') => IP va vb A B w' (keysAt_below ha h) (keysAt_below hb h) (by omega) (by omega))
  have hml := mergeV_ln false A B
  obtain ⟨aa, ca, hva, -, -⟩ := ha
  obtain ⟨ab, cb, hvb, -, -⟩ := hb
  subst hva; subst hvb
  obtain ⟨x0, x1, -, -⟩ := row2_of HP.out.rowa
  have hA := Lib.hid (show codeOkB (A, ya) = true → ya.size = 4 from fun h => ((codeOk_iff (A, ya)).1 h).2.2.1)
  have hB := Lib.hid (show codeOkB (B, yb) = true → yb.size = 4 from fun h => ((codeOk_iff (B, yb)).1 h).2.2.1)
  have hA6 := Lib.hid (show codeOkB (A, ya) = true → A.length ≤ 6 from fun h => ((codeOk_iff (A, ya)).1 h).1)
  have hB6 := Lib.hid (show codeOkB (B, yb) = true → B.length ≤ 6 from fun h => ((codeOk_iff (B, yb)).1 h).1)
  have nA := comb_noA (a := (A, ya)) (b := (B, yb))
  have nB := comb_noB (a := (A, ya)) (b := (B, yb))
  have nX := comb_noX (a := (A, ya)) (b := (B, yb))
  have nY := comb_yes (a := (A, ya)) (b := (B, yb))
  go_enter Try.func14, Try.ntmps14
  go_wp2_with fail
  generalize ((w.alloc (.cells #[.slice aa A.length ca, .string ya] 26)).alloc (.cells #[.slice ab B.length cb, .string yb] 26)).alloc (.cells #[.slice none 0 0, .string ⟨#[]⟩] 26) = W at *
  refine (CA.out _ HP.out.below).mono ?_
  rintro e w1 ⟨rfl, hb1⟩
  have HP1 := Lib.hid (HP.out.next hb1)
  clear hb1 HP x0 x1 CA
  generalize codeOkB (A, ya) = okA at *
  cases okA with
  | false =>
    have HM := Lib.hid (nA rfl)
    clear nA nB nX nY hA hB hA6 hB6 hml SP CB
    obtain ⟨x0, x1, -, -⟩ := row2_of HP1.out.rowa
    go_wp2_with fail
    refine (iblank_any _ _ _).mono ?_
    rintro e wB ⟨rfl, hbB⟩
    have HPB := Lib.hid (HP1.out.next hbB)
    obtain ⟨c0, c1, f0, f1⟩ := row2_of HPB.out.res
    have hlt := (Array.getElem?_eq_some_iff.1 HPB.out.res).1
    have HF := Lib.hid (And.intro (cd_res HPB.out.res (.slice none 0 0) z4) (below2 HPB.out.below (by omega : w.heap.size ≤ w.heap.size + 2) (.slice none 0 0) (.string z4)))
    clear hbB HPB x0 x1 HP1
    go_wp2_with fail
    refine bodyPost_ret (v := .tuple #[.agg #[.slice none 0 0, .string z4], .bool false]) ?_ rfl ⟨_, by rw [HM.out]; rfl, by rw [HM.out]; exact World.ownsRow_nil _ _ _ _, HF.out.2⟩
    rw [results_cell_slot (p := 4) (u := 5) (ty := 26) (by kernel_rfl)]
    have l2 := HF.out.1
    simp [asAddr, Result.andThen, l2]
  | true =>
    obtain ⟨y0, y1, -, -⟩ := row2_of HP1.out.rowb
    go_wp2_with fail
    refine (CB.out _ HP1.out.below).mono ?_
    rintro e w2 ⟨rfl, hb2⟩
    have HP2 := Lib.hid (HP1.out.next hb2)
    clear hb2 HP1 y0 y1 CB
    generalize codeOkB (B, yb) = okB at *
    cases okB with
    | false =>
      have HM := Lib.hid (nB rfl)
      clear nA nB nX nY hA hB hA6 hB6 hml SP
      obtain ⟨x0, x1, -, -⟩ := row2_of HP2.out.rowa
      go_wp2_with fail
      refine (iblank_any _ _ _).mono ?_
      rintro e wB ⟨rfl, hbB⟩
      have HPB := Lib.hid (HP2.out.next hbB)
      obtain ⟨c0, c1, f0, f1⟩ := row2_of HPB.out.res
      have hlt := (Array.getElem?_eq_some_iff.1 HPB.out.res).1
      have HF := Lib.hid (And.intro (cd_res HPB.out.res (.slice none 0 0) z4) (below2 HPB.out.below (by omega : w.heap.size ≤ w.heap.size + 2) (.slice none 0 0) (.string z4)))
      clear hbB HPB x0 x1 HP2
      go_wp2_with fail
      refine bodyPost_ret (v := .tuple #[.agg #[.slice none 0 0, .string z4], .bool false]) ?_ rfl ⟨_, by rw [HM.out]; rfl, by rw [HM.out]; exact World.ownsRow_nil _ _ _ _, HF.out.2⟩
      rw [results_cell_slot (p := 4) (u := 5) (ty := 26) (by kernel_rfl)]
      have l2 := HF.out.1
      simp [asAddr, Result.andThen, l2]
    | true =>
      have h4a : ya.size = 4 := hA.out (by simp)
      have h4b : yb.size = 4 := hB.out (by simp)
      have h6a := hA6.out (by simp)
      have h6b := hB6.out (by simp)
      have h4y : (xorS ya yb).size = 4 := by rw [xorS_size ya yb (by omega)]; exact h4a
      have HLa := Lib.hid (fun w => iloadbytes_any ya w h4a)
      have HLb := Lib.hid (fun w => iloadbytes_any yb w h4b)
      have HOR := Lib.hid (fun w => iorof_any ya yb h4a h4b w)
      have HC := Lib.hid (fun a n c w => icodeof_any a n c (xorS ya yb) h4y w)
      have HMX := Lib.hid (show mixC (A, ya) (B, yb) = (mergeV false A B, xorS ya yb) from rfl)
      rw [HMX.out] at nX nY
      have CX := Lib.hid (fun v w (h : keysAt w v (mergeV false A B)) => icodeok_any v (mergeV false A B) (xorS ya yb) w h (by omega))
      clear nA nB hA hB hA6 hB6 hml HMX h6a h6b
      generalize mergeV false A B = M at *
      generalize xorS ya yb = Y at *
      have L1 : ∀ w' : World, w'.heap[w.heap.size]? = some (.cells #[.slice aa A.length ca, .string ya] 26) ∧ w'.heap[w.heap.size + 1]? = some (.cells #[.slice ab B.length cb, .string yb] 26) → (loadVar 24 ⟨w.heap.size, 0, none⟩).run Try.prog w' = .ok (.slice aa A.length ca) w' := fun w' h => cd_loadk h.1 (Below.refl _ _)
      have L2 : ∀ w' : World, w'.heap[w.heap.size]? = some (.cells #[.slice aa A.length ca, .string ya] 26) ∧ w'.heap[w.heap.size + 1]? = some (.cells #[.slice ab B.length cb, .string yb] 26) → (loadVar 9 ⟨w.heap.size, 1, none⟩).run Try.prog w' = .ok (.string ya) w' := fun w' h => cd_loads h.1 (Below.refl _ _)
      have L3 : ∀ w' : World, w'.heap[w.heap.size]? = some (.cells #[.slice aa A.length ca, .string ya] 26) ∧ w'.heap[w.heap.size + 1]? = some (.cells #[.slice ab B.length cb, .string yb] 26) → (loadVar 24 ⟨w.heap.size + 1, 0, none⟩).run Try.prog w' = .ok (.slice ab B.length cb) w' := fun w' h => cd_loadk h.2 (Below.refl _ _)
      have L4 : ∀ w' : World, w'.heap[w.heap.size]? = some (.cells #[.slice aa A.length ca, .string ya] 26) ∧ w'.heap[w.heap.size + 1]? = some (.cells #[.slice ab B.length cb, .string yb] 26) → (loadVar 9 ⟨w.heap.size + 1, 1, none⟩).run Try.prog w' = .ok (.string yb) w' := fun w' h => cd_loads h.2 (Below.refl _ _)
      have HRA := Lib.hid HP2.out.rowa
      have HRB := Lib.hid HP2.out.rowb
      have HRES := Lib.hid HP2.out.res
      have HB0 := Lib.hid HP2.out.below
      have HSZ := Lib.hid HP2.out.size
      clear HP2
      go_wp2_with fail
      refine wp_region_G (fun w' => w'.heap[w.heap.size]? = some (.cells #[.slice aa A.length ca, .string ya] 26) ∧ w'.heap[w.heap.size + 1]? = some (.cells #[.slice ab B.length cb, .string yb] 26)) (by kernel_rfl) ?_
      replace HRA := Lib.hid (show (World.drew _).heap[_]? = _ from HRA.out)
      replace HRB := Lib.hid (show (World.drew _).heap[_]? = _ from HRB.out)
      replace HB0 := Lib.hid (HB0.out.drew)
      replace HRES := Lib.hid (show (World.drew _).heap[_]? = _ from HRES.out)
      replace HSZ := Lib.hid (show _ ≤ (World.drew _).heap.size from HSZ.out)
      generalize (w2).drew = wD at *
      refine wpG_seg [true, true, true, true, false, true, true, false, true, true] [4, 13] 6 (by kernel_rfl) (by intro c a d v w h; cases d <;> exact h) (by kernel_rfl) ⟨HRA.out, HRB.out⟩ ?_
      try simp only [maskRows]
      repeat (first
        | go_big_quiet_skip
        | (go_big_quiet_want
           first
             | (go_big_quiet_op; go_big_quiet_on)
             | (refine q_load 24 _ _ _ rfl rfl L1 ?_; simp only [Act.put, List.setIfInBounds_toArray, List.set_cons_zero, List.set_cons_succ]; go_big_quiet_on)
             | (refine q_load 9 _ _ _ rfl rfl L2 ?_; simp only [Act.put, List.setIfInBounds_toArray, List.set_cons_zero, List.set_cons_succ]; go_big_quiet_on)
             | (refine q_load 24 _ _ _ rfl rfl L3 ?_; simp only [Act.put, List.setIfInBounds_toArray, List.set_cons_zero, List.set_cons_succ]; go_big_quiet_on)
             | (refine q_load 9 _ _ _ rfl rfl L4 ?_; simp only [Act.put, List.setIfInBounds_toArray, List.set_cons_zero, List.set_cons_succ]; go_big_quiet_on)
             | (go_big_quiet_op; refine ⟨_, fun _ _ => rfl, ?_⟩; go_big_quiet_on)
             | (go_big_quiet_op; refine ⟨_, fun _ _ _ => rfl, ?_⟩; go_big_quiet_on)))
      refine wpQuiet_nil ?_
      refine List.forall_mem_cons.2 ⟨?_, List.forall_mem_singleton.2 ?_⟩
      · refine segt_run rfl (by rfl) (fun K hK => ?_)
        go_simp
        refine (SP.out _ HB0.out).mono ?_
        rintro e w3 ⟨v3, rfl, ho3, hb⟩
        dsimp only
        have HSZo := Lib.hid HSZ.out
        have hNE := fun (b6 : Nat) (hl : b6 < wD.heap.size) (e : v3.ownBlock = some b6) => (absurd (ho3.lt b6 e).1 (Nat.not_le.2 hl) : False)
        replace HRA := Lib.hid ((hb.block _ (Array.getElem?_eq_some_iff.1 HRA.out).1).trans HRA.out)
        replace HRB := Lib.hid ((hb.block _ (Array.getElem?_eq_some_iff.1 HRB.out).1).trans HRB.out)
        replace HB0 := Lib.hid (HB0.out.trans (hb.mono HB0.out.size))
        replace HRES := Lib.hid ((hb.block _ (Array.getElem?_eq_some_iff.1 HRES.out).1).trans HRES.out)
        replace HSZ := Lib.hid (Nat.le_trans HSZ.out hb.size)
        clear hNE
        obtain ⟨a3, n3, k3, rfl⟩ := own_shape ho3
        have HO := Lib.hid (own_base ho3 HSZo.out)
        clear ho3 HSZo
        clear hb
        refine hK _ _ ⟨_, fun _ h => h, ⟨HRA.out, HRB.out⟩, ?_⟩
        clear hK K
        try simp only [Act.put, List.setIfInBounds_toArray, List.set_cons_zero, List.set_cons_succ]
        refine wpG_seg [] [7, 13] 5 (by kernel_rfl) (by intro c a d v w h; cases d <;> exact h) (by kernel_rfl) ⟨HRA.out, HRB.out⟩ ?_
        try simp only [maskRows]
        refine wpQuiet_nil ?_
        refine List.forall_mem_cons.2 ⟨?_, List.forall_mem_singleton.2 ?_⟩
        · refine segt_run rfl (by rfl) (fun K hK => ?_)
          go_simp
          refine (HLa.out _).mono ?_
          rintro e w4 ⟨rfl, hb⟩
          dsimp only
          replace HRA := Lib.hid ((hb.block _ (Array.getElem?_eq_some_iff.1 HRA.out).1).trans HRA.out)
          replace HRB := Lib.hid ((hb.block _ (Array.getElem?_eq_some_iff.1 HRB.out).1).trans HRB.out)
          replace HB0 := Lib.hid (HB0.out.trans (hb.mono HB0.out.size))
          replace HRES := Lib.hid ((hb.block _ (Array.getElem?_eq_some_iff.1 HRES.out).1).trans HRES.out)
          replace HSZ := Lib.hid (Nat.le_trans HSZ.out hb.size)
          replace HO := Lib.hid (own_below HO.out hb)
          clear hb
          refine hK _ _ ⟨_, fun _ h => h, ⟨HRA.out, HRB.out⟩, ?_⟩
          clear hK K
          try simp only [Act.put, List.setIfInBounds_toArray, List.set_cons_zero, List.set_cons_succ]
          refine wpG_seg [] [10, 13] 4 (by kernel_rfl) (by intro c a d v w h; cases d <;> exact h) (by kernel_rfl) ⟨HRA.out, HRB.out⟩ ?_
          try simp only [maskRows]
          refine wpQuiet_nil ?_
          refine List.forall_mem_cons.2 ⟨?_, List.forall_mem_singleton.2 ?_⟩
          · refine segt_run rfl (by rfl) (fun K hK => ?_)
            go_simp
            refine (HLb.out _).mono ?_
            rintro e w5 ⟨rfl, hb⟩
            dsimp only
            replace HRA := Lib.hid ((hb.block _ (Array.getElem?_eq_some_iff.1 HRA.out).1).trans HRA.out)
            replace HRB := Lib.hid ((hb.block _ (Array.getElem?_eq_some_iff.1 HRB.out).1).trans HRB.out)
            replace HB0 := Lib.hid (HB0.out.trans (hb.mono HB0.out.size))
            replace HRES := Lib.hid ((hb.block _ (Array.getElem?_eq_some_iff.1 HRES.out).1).trans HRES.out)
            replace HSZ := Lib.hid (Nat.le_trans HSZ.out hb.size)
            replace HO := Lib.hid (own_below HO.out hb)
            clear hb
            refine hK _ _ ⟨_, fun _ h => h, ⟨HRA.out, HRB.out⟩, ?_⟩
            clear hK K
            try simp only [Act.put, List.setIfInBounds_toArray, List.set_cons_zero, List.set_cons_succ]
            refine wpG_seg [] [11, 13] 3 (by kernel_rfl) (by intro c a d v w h; cases d <;> exact h) (by kernel_rfl) ⟨HRA.out, HRB.out⟩ ?_
            try simp only [maskRows]
            refine wpQuiet_nil ?_
            refine List.forall_mem_cons.2 ⟨?_, List.forall_mem_singleton.2 ?_⟩
            · refine segt_run rfl (by rfl) (fun K hK => ?_)
              go_simp
              refine (HOR.out _).mono ?_
              rintro e w6 ⟨rfl, hb⟩
              dsimp only
              replace HRA := Lib.hid ((hb.block _ (Array.getElem?_eq_some_iff.1 HRA.out).1).trans HRA.out)
              replace HRB := Lib.hid ((hb.block _ (Array.getElem?_eq_some_iff.1 HRB.out).1).trans HRB.out)
              replace HB0 := Lib.hid (HB0.out.trans (hb.mono HB0.out.size))
              replace HRES := Lib.hid ((hb.block _ (Array.getElem?_eq_some_iff.1 HRES.out).1).trans HRES.out)
              replace HSZ := Lib.hid (Nat.le_trans HSZ.out hb.size)
              replace HO := Lib.hid (own_below HO.out hb)
              clear hb
              refine hK _ _ ⟨_, fun _ h => h, ⟨HRA.out, HRB.out⟩, ?_⟩
              clear hK K
              try simp only [Act.put, List.setIfInBounds_toArray, List.set_cons_zero, List.set_cons_succ]
              refine wpG_seg [] [12, 13] 2 (by kernel_rfl) (by intro c a d v w h; cases d <;> exact h) (by kernel_rfl) ⟨HRA.out, HRB.out⟩ ?_
              try simp only [maskRows]
              refine wpQuiet_nil ?_
              refine List.forall_mem_cons.2 ⟨?_, List.forall_mem_singleton.2 ?_⟩
              · refine segt_run rfl (by rfl) (fun K hK => ?_)
                go_simp
                refine (HC.out _ _ _ _).mono ?_
                rintro e w7 ⟨rfl, hb⟩
                dsimp only
                replace HRA := Lib.hid ((hb.block _ (Array.getElem?_eq_some_iff.1 HRA.out).1).trans HRA.out)
                replace HRB := Lib.hid ((hb.block _ (Array.getElem?_eq_some_iff.1 HRB.out).1).trans HRB.out)
                replace HB0 := Lib.hid (HB0.out.trans (hb.mono HB0.out.size))
                replace HRES := Lib.hid ((hb.block _ (Array.getElem?_eq_some_iff.1 HRES.out).1).trans HRES.out)
                replace HSZ := Lib.hid (Nat.le_trans HSZ.out hb.size)
                replace HO := Lib.hid (own_below HO.out hb)
                clear hb
                refine hK _ _ ⟨_, fun _ h => h, ⟨HRA.out, HRB.out⟩, ?_⟩
                clear hK K
                try simp only [Act.put, List.setIfInBounds_toArray, List.set_cons_zero, List.set_cons_succ]
                refine wpG_seg [] [13] 1 (by kernel_rfl) (by intro c a d v w h; cases d <;> exact h) (by kernel_rfl) ⟨HRA.out, HRB.out⟩ ?_
                try simp only [maskRows]
                refine wpQuiet_nil ?_
                refine List.forall_mem_singleton.2 ?_
                refine segt_run rfl (by rfl) (fun K hK => ?_)
                go_simp
                have HB6 := Lib.hid HSZ.out
                have HNE := Lib.hid (fun (e : (Value.slice a3 n3 k3).ownBlock = some w7.heap.size) => (absurd (HO.out.lt _ e).2 (Nat.lt_irrefl _) : False))
                have HNn := Lib.hid (heap_alloc_new (w7) (.cells #[.slice none 0 0, .string ⟨#[]⟩] 26))
                replace HRA := Lib.hid ((Below.heap_alloc _ (.cells #[.slice none 0 0, .string ⟨#[]⟩] 26) _ (Array.getElem?_eq_some_iff.1 HRA.out).1).trans HRA.out)
                replace HRB := Lib.hid ((Below.heap_alloc _ (.cells #[.slice none 0 0, .string ⟨#[]⟩] 26) _ (Array.getElem?_eq_some_iff.1 HRB.out).1).trans HRB.out)
                replace HB0 := Lib.hid (HB0.out.alloc HB0.out.size (.cells #[.slice none 0 0, .string ⟨#[]⟩] 26))
                replace HRES := Lib.hid ((Below.heap_alloc _ (.cells #[.slice none 0 0, .string ⟨#[]⟩] 26) _ (Array.getElem?_eq_some_iff.1 HRES.out).1).trans HRES.out)
                replace HSZ := Lib.hid (Nat.le_trans HSZ.out (size_le_alloc _ (.cells #[.slice none 0 0, .string ⟨#[]⟩] 26)))
                replace HO := Lib.hid (HO.out.alloc (.cells #[.slice none 0 0, .string ⟨#[]⟩] 26))
                have HN := HNn
                clear HNn
                generalize World.alloc (w7) (.cells #[.slice none 0 0, .string ⟨#[]⟩] 26) = w8 at *
                generalize (w7).heap.size = b6 at *
                refine hK _ _ ⟨_, fun _ h => h, ⟨HRA.out, HRB.out⟩, ?_⟩
                clear hK K
                try simp only [Act.put, List.setIfInBounds_toArray, List.set_cons_zero, List.set_cons_succ]
                refine wpG_seg [] [14] 0 (by kernel_rfl) (by intro c a d v w h; cases d <;> exact h) (by kernel_rfl) ⟨HRA.out, HRB.out⟩ ?_
                try simp only [maskRows]
                refine wpQuiet_nil ?_
                refine List.forall_mem_singleton.2 ?_
                have hb6 := HB6.out
                obtain ⟨c0, c1, f0, f1⟩ := row2_of HN.out
                have hlt := (Array.getElem?_eq_some_iff.1 HN.out).1
                have HN' := Lib.hid (set2 (.slice a3 n3 k3) (.string Y) HN.out)
                have HRA' := Lib.hid (row_set2 HRA.out (by omega : w.heap.size ≠ b6) (.slice a3 n3 k3) (.string Y))
                have HRB' := Lib.hid (row_set2 HRB.out (by omega : w.heap.size + 1 ≠ b6) (.slice a3 n3 k3) (.string Y))
                have HRES' := Lib.hid (row_set2 HRES.out (by omega : w.heap.size + 2 ≠ b6) (.slice a3 n3 k3) (.string Y))
                have HB0' := Lib.hid (below2 HB0.out (by omega : w.heap.size ≤ b6) (.slice a3 n3 k3) (.string Y))
                have HO' := Lib.hid (HO.out.kept (grown2 _ b6 (.slice a3 n3 k3) (.string Y)) (.inr HNE.out))
                have HSZ' := Lib.hid (Nat.le_trans HSZ.out (Nat.le_of_eq (size_set2 _ b6 (.slice a3 n3 k3) (.string Y)).symm))
                clear hb6
                refine segt_run rfl (by rfl) (fun K hK => ?_)
                go_simp
                replace HN := HN'
                replace HRA := HRA'
                replace HRB := HRB'
                replace HRES := HRES'
                replace HB0 := HB0'
                replace HO := HO'
                replace HSZ := HSZ'
                clear HN' HRA' HRB' HRES' HB0' HO' HSZ' c0 c1 f0 f1 hlt
                generalize (World.setCell (World.setCell w8 ⟨b6, 0, none⟩ (.slice a3 n3 k3)) ⟨b6, 1, none⟩ (.string Y)) = wS at *
                refine hK _ _ ⟨_, fun _ h => h, ⟨HRA.out, HRB.out⟩, ?_⟩
                clear hK K
                try simp only [Act.put, List.setIfInBounds_toArray, List.set_cons_zero, List.set_cons_succ]
                refine wpG_end [] (by kernel_rfl) (by intro c a d v w h; cases d <;> exact h) (by kernel_rfl) ⟨HRA.out, HRB.out⟩ ?_
                try simp only [maskRows]
                refine wpQuiet_nil ?_
                obtain ⟨x0, x1, -, -⟩ := row2_of HN.out
                go_wp2_with fail
                refine (CX.out _ _ (keysAt_own HO.out)).mono ?_
                rintro e wX ⟨rfl, hb⟩
                replace HRA := Lib.hid ((hb.block _ (Array.getElem?_eq_some_iff.1 HRA.out).1).trans HRA.out)
                replace HRB := Lib.hid ((hb.block _ (Array.getElem?_eq_some_iff.1 HRB.out).1).trans HRB.out)
                replace HB0 := Lib.hid (HB0.out.trans (hb.mono HB0.out.size))
                replace HRES := Lib.hid ((hb.block _ (Array.getElem?_eq_some_iff.1 HRES.out).1).trans HRES.out)
                replace HSZ := Lib.hid (Nat.le_trans HSZ.out hb.size)
                replace HO := Lib.hid (own_below HO.out hb)
                replace HN := Lib.hid ((hb.block _ (Array.getElem?_eq_some_iff.1 HN.out).1).trans HN.out)
                clear hb x0 x1 CX
                generalize codeOkB (M, Y) = okX at *
                cases okX with
                | false =>
                  have HM := Lib.hid (nX rfl)
                  clear nX nY
                  obtain ⟨x0, x1, -, -⟩ := row2_of HRA.out
                  go_wp2_with fail
                  refine (iblank_any _ _ _).mono ?_
                  rintro e wB ⟨rfl, hb⟩
                  replace HRA := Lib.hid ((hb.block _ (Array.getElem?_eq_some_iff.1 HRA.out).1).trans HRA.out)
                  replace HRB := Lib.hid ((hb.block _ (Array.getElem?_eq_some_iff.1 HRB.out).1).trans HRB.out)
                  replace HB0 := Lib.hid (HB0.out.trans (hb.mono HB0.out.size))
                  replace HRES := Lib.hid ((hb.block _ (Array.getElem?_eq_some_iff.1 HRES.out).1).trans HRES.out)
                  replace HSZ := Lib.hid (Nat.le_trans HSZ.out hb.size)
                  replace HO := Lib.hid (own_below HO.out hb)
                  replace HN := Lib.hid ((hb.block _ (Array.getElem?_eq_some_iff.1 HN.out).1).trans HN.out)
                  obtain ⟨c0, c1, f0, f1⟩ := row2_of HRES.out
                  have hlt := (Array.getElem?_eq_some_iff.1 HRES.out).1
                  have HF := Lib.hid (And.intro (cd_res HRES.out (.slice none 0 0) z4) (below2 HB0.out (by omega : w.heap.size ≤ w.heap.size + 2) (.slice none 0 0) (.string z4)))
                  clear hb HRA HRB HRES HO HB0 HN x0 x1
                  go_wp2_with fail
                  refine bodyPost_ret (v := .tuple #[.agg #[.slice none 0 0, .string z4], .bool false]) ?_ rfl ⟨_, by rw [HM.out]; rfl, by rw [HM.out]; exact World.ownsRow_nil _ _ _ _, HF.out.2⟩
                  rw [results_cell_slot (p := 4) (u := 5) (ty := 26) (by kernel_rfl)]
                  have l2 := HF.out.1
                  simp [asAddr, Result.andThen, l2]
                | true =>
                  have HM := Lib.hid (nY (by simp) (by simp) (by simp))
                  clear nX nY
                  obtain ⟨x0, x1, -, -⟩ := row2_of HN.out
                  obtain ⟨c0, c1, f0, f1⟩ := row2_of HRES.out
                  have hlt := (Array.getElem?_eq_some_iff.1 HRES.out).1
                  have HF := Lib.hid (And.intro (cd_res HRES.out (.slice a3 n3 k3) Y) (And.intro (own_base (own_set2 HO.out (by omega : w.heap.size + 2 < w.heap.size + 3) (.slice a3 n3 k3) (.string Y)) (by omega : w.heap.size ≤ w.heap.size + 3)) (below2 HB0.out (by omega : w.heap.size ≤ w.heap.size + 2) (.slice a3 n3 k3) (.string Y))))
                  clear HRA HRB HRES HO HB0 HN
                  go_wp2_with fail
                  refine bodyPost_ret (v := .tuple #[.agg #[.slice a3 n3 k3, .string Y], .bool true]) ?_ rfl ⟨_, by rw [HM.out], by rw [HM.out]; exact HF.out.2.1, HF.out.2.2⟩
                  rw [results_cell_slot (p := 4) (u := 5) (ty := 26) (by kernel_rfl)]
                  have l2 := HF.out.1
                  simp [asAddr, Result.andThen, l2]
              · refine segt_run rfl (by rfl) (fun K hK => ?_)
                go_simp
                have HB6 := Lib.hid HSZ.out
                have HNE := Lib.hid (fun (e : (Value.slice a3 n3 k3).ownBlock = some w6.heap.size) => (absurd (HO.out.lt _ e).2 (Nat.lt_irrefl _) : False))
                have HNn := Lib.hid (heap_alloc_new (w6) (.cells #[.slice none 0 0, .string ⟨#[]⟩] 26))
                replace HRA := Lib.hid ((Below.heap_alloc _ (.cells #[.slice none 0 0, .string ⟨#[]⟩] 26) _ (Array.getElem?_eq_some_iff.1 HRA.out).1).trans HRA.out)
                replace HRB := Lib.hid ((Below.heap_alloc _ (.cells #[.slice none 0 0, .string ⟨#[]⟩] 26) _ (Array.getElem?_eq_some_iff.1 HRB.out).1).trans HRB.out)
                replace HB0 := Lib.hid (HB0.out.alloc HB0.out.size (.cells #[.slice none 0 0, .string ⟨#[]⟩] 26))
                replace HRES := Lib.hid ((Below.heap_alloc _ (.cells #[.slice none 0 0, .string ⟨#[]⟩] 26) _ (Array.getElem?_eq_some_iff.1 HRES.out).1).trans HRES.out)
                replace HSZ := Lib.hid (Nat.le_trans HSZ.out (size_le_alloc _ (.cells #[.slice none 0 0, .string ⟨#[]⟩] 26)))
                replace HO := Lib.hid (HO.out.alloc (.cells #[.slice none 0 0, .string ⟨#[]⟩] 26))
                have HN := HNn
                clear HNn
                generalize World.alloc (w6) (.cells #[.slice none 0 0, .string ⟨#[]⟩] 26) = w7 at *
                generalize (w6).heap.size = b6 at *
                refine hK _ _ ⟨_, fun _ h => h, ⟨HRA.out, HRB.out⟩, ?_⟩
                clear hK K
                try simp only [Act.put, List.setIfInBounds_toArray, List.set_cons_zero, List.set_cons_succ]
                refine wpG_seg [] [12] 1 (by kernel_rfl) (by intro c a d v w h; cases d <;> exact h) (by kernel_rfl) ⟨HRA.out, HRB.out⟩ ?_
                try simp only [maskRows]
                refine wpQuiet_nil ?_
                refine List.forall_mem_singleton.2 ?_
                refine segt_run rfl (by rfl) (fun K hK => ?_)
                go_simp
                refine (HC.out _ _ _ _).mono ?_
                rintro e w8 ⟨rfl, hb⟩
                dsimp only
                replace HRA := Lib.hid ((hb.block _ (Array.getElem?_eq_some_iff.1 HRA.out).1).trans HRA.out)
                replace HRB := Lib.hid ((hb.block _ (Array.getElem?_eq_some_iff.1 HRB.out).1).trans HRB.out)
                replace HB0 := Lib.hid (HB0.out.trans (hb.mono HB0.out.size))
                replace HRES := Lib.hid ((hb.block _ (Array.getElem?_eq_some_iff.1 HRES.out).1).trans HRES.out)
                replace HSZ := Lib.hid (Nat.le_trans HSZ.out hb.size)
                replace HO := Lib.hid (own_below HO.out hb)
                replace HN := Lib.hid ((hb.block _ (Array.getElem?_eq_some_iff.1 HN.out).1).trans HN.out)
                replace HB6 := Lib.hid (HB6.out)
                replace HNE := Lib.hid (HNE.out)
                clear hb
                refine hK _ _ ⟨_, fun _ h => h, ⟨HRA.out, HRB.out⟩, ?_⟩
                clear hK K
                try simp only [Act.put, List.setIfInBounds_toArray, List.set_cons_zero, List.set_cons_succ]
                refine wpG_seg [] [14] 0 (by kernel_rfl) (by intro c a d v w h; cases d <;> exact h) (by kernel_rfl) ⟨HRA.out, HRB.out⟩ ?_
                try simp only [maskRows]
                refine wpQuiet_nil ?_
                refine List.forall_mem_singleton.2 ?_
                have hb6 := HB6.out
                obtain ⟨c0, c1, f0, f1⟩ := row2_of HN.out
                have hlt := (Array.getElem?_eq_some_iff.1 HN.out).1
                have HN' := Lib.hid (set2 (.slice a3 n3 k3) (.string Y) HN.out)
                have HRA' := Lib.hid (row_set2 HRA.out (by omega : w.heap.size ≠ b6) (.slice a3 n3 k3) (.string Y))
                have HRB' := Lib.hid (row_set2 HRB.out (by omega : w.heap.size + 1 ≠ b6) (.slice a3 n3 k3) (.string Y))
                have HRES' := Lib.hid (row_set2 HRES.out (by omega : w.heap.size + 2 ≠ b6) (.slice a3 n3 k3) (.string Y))
                have HB0' := Lib.hid (below2 HB0.out (by omega : w.heap.size ≤ b6) (.slice a3 n3 k3) (.string Y))
                have HO' := Lib.hid (HO.out.kept (grown2 _ b6 (.slice a3 n3 k3) (.string Y)) (.inr HNE.out))
                have HSZ' := Lib.hid (Nat.le_trans HSZ.out (Nat.le_of_eq (size_set2 _ b6 (.slice a3 n3 k3) (.string Y)).symm))
                clear hb6
                refine segt_run rfl (by rfl) (fun K hK => ?_)
                go_simp
                replace HN := HN'
                replace HRA := HRA'
                replace HRB := HRB'
                replace HRES := HRES'
                replace HB0 := HB0'
                replace HO := HO'
                replace HSZ := HSZ'
                clear HN' HRA' HRB' HRES' HB0' HO' HSZ' c0 c1 f0 f1 hlt
                generalize (World.setCell (World.setCell w8 ⟨b6, 0, none⟩ (.slice a3 n3 k3)) ⟨b6, 1, none⟩ (.string Y)) = wS at *
                refine hK _ _ ⟨_, fun _ h => h, ⟨HRA.out, HRB.out⟩, ?_⟩
                clear hK K
                try simp only [Act.put, List.setIfInBounds_toArray, List.set_cons_zero, List.set_cons_succ]
                refine wpG_end [] (by kernel_rfl) (by intro c a d v w h; cases d <;> exact h) (by kernel_rfl) ⟨HRA.out, HRB.out⟩ ?_
                try simp only [maskRows]
                refine wpQuiet_nil ?_
                obtain ⟨x0, x1, -, -⟩ := row2_of HN.out
                go_wp2_with fail
                refine (CX.out _ _ (keysAt_own HO.out)).mono ?_
                rintro e wX ⟨rfl, hb⟩
                replace HRA := Lib.hid ((hb.block _ (Array.getElem?_eq_some_iff.1 HRA.out).1).trans HRA.out)
                replace HRB := Lib.hid ((hb.block _ (Array.getElem?_eq_some_iff.1 HRB.out).1).trans HRB.out)
                replace HB0 := Lib.hid (HB0.out.trans (hb.mono HB0.out.size))
                replace HRES := Lib.hid ((hb.block _ (Array.getElem?_eq_some_iff.1 HRES.out).1).trans HRES.out)
                replace HSZ := Lib.hid (Nat.le_trans HSZ.out hb.size)
                replace HO := Lib.hid (own_below HO.out hb)
                replace HN := Lib.hid ((hb.block _ (Array.getElem?_eq_some_iff.1 HN.out).1).trans HN.out)
                clear hb x0 x1 CX
                generalize codeOkB (M, Y) = okX at *
                cases okX with
                | false =>
                  have HM := Lib.hid (nX rfl)
                  clear nX nY
                  obtain ⟨x0, x1, -, -⟩ := row2_of HRA.out
                  go_wp2_with fail
                  refine (iblank_any _ _ _).mono ?_
                  rintro e wB ⟨rfl, hb⟩
                  replace HRA := Lib.hid ((hb.block _ (Array.getElem?_eq_some_iff.1 HRA.out).1).trans HRA.out)
                  replace HRB := Lib.hid ((hb.block _ (Array.getElem?_eq_some_iff.1 HRB.out).1).trans HRB.out)
                  replace HB0 := Lib.hid (HB0.out.trans (hb.mono HB0.out.size))
                  replace HRES := Lib.hid ((hb.block _ (Array.getElem?_eq_some_iff.1 HRES.out).1).trans HRES.out)
                  replace HSZ := Lib.hid (Nat.le_trans HSZ.out hb.size)
                  replace HO := Lib.hid (own_below HO.out hb)
                  replace HN := Lib.hid ((hb.block _ (Array.getElem?_eq_some_iff.1 HN.out).1).trans HN.out)
                  obtain ⟨c0, c1, f0, f1⟩ := row2_of HRES.out
                  have hlt := (Array.getElem?_eq_some_iff.1 HRES.out).1
                  have HF := Lib.hid (And.intro (cd_res HRES.out (.slice none 0 0) z4) (below2 HB0.out (by omega : w.heap.size ≤ w.heap.size + 2) (.slice none 0 0) (.string z4)))
                  clear hb HRA HRB HRES HO HB0 HN x0 x1
                  go_wp2_with fail
                  refine bodyPost_ret (v := .tuple #[.agg #[.slice none 0 0, .string z4], .bool false]) ?_ rfl ⟨_, by rw [HM.out]; rfl, by rw [HM.out]; exact World.ownsRow_nil _ _ _ _, HF.out.2⟩
                  rw [results_cell_slot (p := 4) (u := 5) (ty := 26) (by kernel_rfl)]
                  have l2 := HF.out.1
                  simp [asAddr, Result.andThen, l2]
                | true =>
                  have HM := Lib.hid (nY (by simp) (by simp) (by simp))
                  clear nX nY
                  obtain ⟨x0, x1, -, -⟩ := row2_of HN.out
                  obtain ⟨c0, c1, f0, f1⟩ := row2_of HRES.out
                  have hlt := (Array.getElem?_eq_some_iff.1 HRES.out).1
                  have HF := Lib.hid (And.intro (cd_res HRES.out (.slice a3 n3 k3) Y) (And.intro (own_base (own_set2 HO.out (by omega : w.heap.size + 2 < w.heap.size + 3) (.slice a3 n3 k3) (.string Y)) (by omega : w.heap.size ≤ w.heap.size + 3)) (below2 HB0.out (by omega : w.heap.size ≤ w.heap.size + 2) (.slice a3 n3 k3) (.string Y))))
                  clear HRA HRB HRES HO HB0 HN
                  go_wp2_with fail
                  refine bodyPost_ret (v := .tuple #[.agg #[.slice a3 n3 k3, .string Y], .bool true]) ?_ rfl ⟨_, by rw [HM.out], by rw [HM.out]; exact HF.out.2.1, HF.out.2.2⟩
                  rw [results_cell_slot (p := 4) (u := 5) (ty := 26) (by kernel_rfl)]
                  have l2 := HF.out.1
                  simp [asAddr, Result.andThen, l2]
            · refine segt_run rfl (by rfl) (fun K hK => ?_)
              go_simp
              have HB6 := Lib.hid HSZ.out
              have HNE := Lib.hid (fun (e : (Value.slice a3 n3 k3).ownBlock = some w5.heap.size) => (absurd (HO.out.lt _ e).2 (Nat.lt_irrefl _) : False))
              have HNn := Lib.hid (heap_alloc_new (w5) (.cells #[.slice none 0 0, .string ⟨#[]⟩] 26))
              replace HRA := Lib.hid ((Below.heap_alloc _ (.cells #[.slice none 0 0, .string ⟨#[]⟩] 26) _ (Array.getElem?_eq_some_iff.1 HRA.out).1).trans HRA.out)
              replace HRB := Lib.hid ((Below.heap_alloc _ (.cells #[.slice none 0 0, .string ⟨#[]⟩] 26) _ (Array.getElem?_eq_some_iff.1 HRB.out).1).trans HRB.out)
              replace HB0 := Lib.hid (HB0.out.alloc HB0.out.size (.cells #[.slice none 0 0, .string ⟨#[]⟩] 26))
              replace HRES := Lib.hid ((Below.heap_alloc _ (.cells #[.slice none 0 0, .string ⟨#[]⟩] 26) _ (Array.getElem?_eq_some_iff.1 HRES.out).1).trans HRES.out)
              replace HSZ := Lib.hid (Nat.le_trans HSZ.out (size_le_alloc _ (.cells #[.slice none 0 0, .string ⟨#[]⟩] 26)))
              replace HO := Lib.hid (HO.out.alloc (.cells #[.slice none 0 0, .string ⟨#[]⟩] 26))
              have HN := HNn
              clear HNn
              generalize World.alloc (w5) (.cells #[.slice none 0 0, .string ⟨#[]⟩] 26) = w6 at *
              generalize (w5).heap.size = b6 at *
              refine hK _ _ ⟨_, fun _ h => h, ⟨HRA.out, HRB.out⟩, ?_⟩
              clear hK K
              try simp only [Act.put, List.setIfInBounds_toArray, List.set_cons_zero, List.set_cons_succ]
              refine wpG_seg [] [11] 2 (by kernel_rfl) (by intro c a d v w h; cases d <;> exact h) (by kernel_rfl) ⟨HRA.out, HRB.out⟩ ?_
              try simp only [maskRows]
              refine wpQuiet_nil ?_
              refine List.forall_mem_singleton.2 ?_
              refine segt_run rfl (by rfl) (fun K hK => ?_)
              go_simp
              refine (HOR.out _).mono ?_
              rintro e w7 ⟨rfl, hb⟩
              dsimp only
              replace HRA := Lib.hid ((hb.block _ (Array.getElem?_eq_some_iff.1 HRA.out).1).trans HRA.out)
              replace HRB := Lib.hid ((hb.block _ (Array.getElem?_eq_some_iff.1 HRB.out).1).trans HRB.out)
              replace HB0 := Lib.hid (HB0.out.trans (hb.mono HB0.out.size))
              replace HRES := Lib.hid ((hb.block _ (Array.getElem?_eq_some_iff.1 HRES.out).1).trans HRES.out)
              replace HSZ := Lib.hid (Nat.le_trans HSZ.out hb.size)
              replace HO := Lib.hid (own_below HO.out hb)
              replace HN := Lib.hid ((hb.block _ (Array.getElem?_eq_some_iff.1 HN.out).1).trans HN.out)
              replace HB6 := Lib.hid (HB6.out)
              replace HNE := Lib.hid (HNE.out)
              clear hb
              refine hK _ _ ⟨_, fun _ h => h, ⟨HRA.out, HRB.out⟩, ?_⟩
              clear hK K
              try simp only [Act.put, List.setIfInBounds_toArray, List.set_cons_zero, List.set_cons_succ]
              refine wpG_seg [] [12] 1 (by kernel_rfl) (by intro c a d v w h; cases d <;> exact h) (by kernel_rfl) ⟨HRA.out, HRB.out⟩ ?_
              try simp only [maskRows]
              refine wpQuiet_nil ?_
              refine List.forall_mem_singleton.2 ?_
              refine segt_run rfl (by rfl) (fun K hK => ?_)
              go_simp
              refine (HC.out _ _ _ _).mono ?_
              rintro e w8 ⟨rfl, hb⟩
              dsimp only
              replace HRA := Lib.hid ((hb.block _ (Array.getElem?_eq_some_iff.1 HRA.out).1).trans HRA.out)
              replace HRB := Lib.hid ((hb.block _ (Array.getElem?_eq_some_iff.1 HRB.out).1).trans HRB.out)
              replace HB0 := Lib.hid (HB0.out.trans (hb.mono HB0.out.size))
              replace HRES := Lib.hid ((hb.block _ (Array.getElem?_eq_some_iff.1 HRES.out).1).trans HRES.out)
              replace HSZ := Lib.hid (Nat.le_trans HSZ.out hb.size)
              replace HO := Lib.hid (own_below HO.out hb)
              replace HN := Lib.hid ((hb.block _ (Array.getElem?_eq_some_iff.1 HN.out).1).trans HN.out)
              replace HB6 := Lib.hid (HB6.out)
              replace HNE := Lib.hid (HNE.out)
              clear hb
              refine hK _ _ ⟨_, fun _ h => h, ⟨HRA.out, HRB.out⟩, ?_⟩
              clear hK K
              try simp only [Act.put, List.setIfInBounds_toArray, List.set_cons_zero, List.set_cons_succ]
              refine wpG_seg [] [14] 0 (by kernel_rfl) (by intro c a d v w h; cases d <;> exact h) (by kernel_rfl) ⟨HRA.out, HRB.out⟩ ?_
              try simp only [maskRows]
              refine wpQuiet_nil ?_
              refine List.forall_mem_singleton.2 ?_
              have hb6 := HB6.out
              obtain ⟨c0, c1, f0, f1⟩ := row2_of HN.out
              have hlt := (Array.getElem?_eq_some_iff.1 HN.out).1
              have HN' := Lib.hid (set2 (.slice a3 n3 k3) (.string Y) HN.out)
              have HRA' := Lib.hid (row_set2 HRA.out (by omega : w.heap.size ≠ b6) (.slice a3 n3 k3) (.string Y))
              have HRB' := Lib.hid (row_set2 HRB.out (by omega : w.heap.size + 1 ≠ b6) (.slice a3 n3 k3) (.string Y))
              have HRES' := Lib.hid (row_set2 HRES.out (by omega : w.heap.size + 2 ≠ b6) (.slice a3 n3 k3) (.string Y))
              have HB0' := Lib.hid (below2 HB0.out (by omega : w.heap.size ≤ b6) (.slice a3 n3 k3) (.string Y))
              have HO' := Lib.hid (HO.out.kept (grown2 _ b6 (.slice a3 n3 k3) (.string Y)) (.inr HNE.out))
              have HSZ' := Lib.hid (Nat.le_trans HSZ.out (Nat.le_of_eq (size_set2 _ b6 (.slice a3 n3 k3) (.string Y)).symm))
              clear hb6
              refine segt_run rfl (by rfl) (fun K hK => ?_)
              go_simp
              replace HN := HN'
              replace HRA := HRA'
              replace HRB := HRB'
              replace HRES := HRES'
              replace HB0 := HB0'
              replace HO := HO'
              replace HSZ := HSZ'
              clear HN' HRA' HRB' HRES' HB0' HO' HSZ' c0 c1 f0 f1 hlt
              generalize (World.setCell (World.setCell w8 ⟨b6, 0, none⟩ (.slice a3 n3 k3)) ⟨b6, 1, none⟩ (.string Y)) = wS at *
              refine hK _ _ ⟨_, fun _ h => h, ⟨HRA.out, HRB.out⟩, ?_⟩
              clear hK K
              try simp only [Act.put, List.setIfInBounds_toArray, List.set_cons_zero, List.set_cons_succ]
              refine wpG_end [] (by kernel_rfl) (by intro c a d v w h; cases d <;> exact h) (by kernel_rfl) ⟨HRA.out, HRB.out⟩ ?_
              try simp only [maskRows]
              refine wpQuiet_nil ?_
              obtain ⟨x0, x1, -, -⟩ := row2_of HN.out
              go_wp2_with fail
              refine (CX.out _ _ (keysAt_own HO.out)).mono ?_
              rintro e wX ⟨rfl, hb⟩
              replace HRA := Lib.hid ((hb.block _ (Array.getElem?_eq_some_iff.1 HRA.out).1).trans HRA.out)
              replace HRB := Lib.hid ((hb.block _ (Array.getElem?_eq_some_iff.1 HRB.out).1).trans HRB.out)
              replace HB0 := Lib.hid (HB0.out.trans (hb.mono HB0.out.size))
              replace HRES := Lib.hid ((hb.block _ (Array.getElem?_eq_some_iff.1 HRES.out).1).trans HRES.out)
              replace HSZ := Lib.hid (Nat.le_trans HSZ.out hb.size)
              replace HO := Lib.hid (own_below HO.out hb)
              replace HN := Lib.hid ((hb.block _ (Array.getElem?_eq_some_iff.1 HN.out).1).trans HN.out)
              clear hb x0 x1 CX
              generalize codeOkB (M, Y) = okX at *
              cases okX with
              | false =>
                have HM := Lib.hid (nX rfl)
                clear nX nY
                obtain ⟨x0, x1, -, -⟩ := row2_of HRA.out
                go_wp2_with fail
                refine (iblank_any _ _ _).mono ?_
                rintro e wB ⟨rfl, hb⟩
                replace HRA := Lib.hid ((hb.block _ (Array.getElem?_eq_some_iff.1 HRA.out).1).trans HRA.out)
                replace HRB := Lib.hid ((hb.block _ (Array.getElem?_eq_some_iff.1 HRB.out).1).trans HRB.out)
                replace HB0 := Lib.hid (HB0.out.trans (hb.mono HB0.out.size))
                replace HRES := Lib.hid ((hb.block _ (Array.getElem?_eq_some_iff.1 HRES.out).1).trans HRES.out)
                replace HSZ := Lib.hid (Nat.le_trans HSZ.out hb.size)
                replace HO := Lib.hid (own_below HO.out hb)
                replace HN := Lib.hid ((hb.block _ (Array.getElem?_eq_some_iff.1 HN.out).1).trans HN.out)
                obtain ⟨c0, c1, f0, f1⟩ := row2_of HRES.out
                have hlt := (Array.getElem?_eq_some_iff.1 HRES.out).1
                have HF := Lib.hid (And.intro (cd_res HRES.out (.slice none 0 0) z4) (below2 HB0.out (by omega : w.heap.size ≤ w.heap.size + 2) (.slice none 0 0) (.string z4)))
                clear hb HRA HRB HRES HO HB0 HN x0 x1
                go_wp2_with fail
                refine bodyPost_ret (v := .tuple #[.agg #[.slice none 0 0, .string z4], .bool false]) ?_ rfl ⟨_, by rw [HM.out]; rfl, by rw [HM.out]; exact World.ownsRow_nil _ _ _ _, HF.out.2⟩
                rw [results_cell_slot (p := 4) (u := 5) (ty := 26) (by kernel_rfl)]
                have l2 := HF.out.1
                simp [asAddr, Result.andThen, l2]
              | true =>
                have HM := Lib.hid (nY (by simp) (by simp) (by simp))
                clear nX nY
                obtain ⟨x0, x1, -, -⟩ := row2_of HN.out
                obtain ⟨c0, c1, f0, f1⟩ := row2_of HRES.out
                have hlt := (Array.getElem?_eq_some_iff.1 HRES.out).1
                have HF := Lib.hid (And.intro (cd_res HRES.out (.slice a3 n3 k3) Y) (And.intro (own_base (own_set2 HO.out (by omega : w.heap.size + 2 < w.heap.size + 3) (.slice a3 n3 k3) (.string Y)) (by omega : w.heap.size ≤ w.heap.size + 3)) (below2 HB0.out (by omega : w.heap.size ≤ w.heap.size + 2) (.slice a3 n3 k3) (.string Y))))
                clear HRA HRB HRES HO HB0 HN
                go_wp2_with fail
                refine bodyPost_ret (v := .tuple #[.agg #[.slice a3 n3 k3, .string Y], .bool true]) ?_ rfl ⟨_, by rw [HM.out], by rw [HM.out]; exact HF.out.2.1, HF.out.2.2⟩
                rw [results_cell_slot (p := 4) (u := 5) (ty := 26) (by kernel_rfl)]
                have l2 := HF.out.1
                simp [asAddr, Result.andThen, l2]
          · refine segt_run rfl (by rfl) (fun K hK => ?_)
            go_simp
            have HB6 := Lib.hid HSZ.out
            have HNE := Lib.hid (fun (e : (Value.slice a3 n3 k3).ownBlock = some w4.heap.size) => (absurd (HO.out.lt _ e).2 (Nat.lt_irrefl _) : False))
            have HNn := Lib.hid (heap_alloc_new (w4) (.cells #[.slice none 0 0, .string ⟨#[]⟩] 26))
            replace HRA := Lib.hid ((Below.heap_alloc _ (.cells #[.slice none 0 0, .string ⟨#[]⟩] 26) _ (Array.getElem?_eq_some_iff.1 HRA.out).1).trans HRA.out)
            replace HRB := Lib.hid ((Below.heap_alloc _ (.cells #[.slice none 0 0, .string ⟨#[]⟩] 26) _ (Array.getElem?_eq_some_iff.1 HRB.out).1).trans HRB.out)
            replace HB0 := Lib.hid (HB0.out.alloc HB0.out.size (.cells #[.slice none 0 0, .string ⟨#[]⟩] 26))
            replace HRES := Lib.hid ((Below.heap_alloc _ (.cells #[.slice none 0 0, .string ⟨#[]⟩] 26) _ (Array.getElem?_eq_some_iff.1 HRES.out).1).trans HRES.out)
            replace HSZ := Lib.hid (Nat.le_trans HSZ.out (size_le_alloc _ (.cells #[.slice none 0 0, .string ⟨#[]⟩] 26)))
            replace HO := Lib.hid (HO.out.alloc (.cells #[.slice none 0 0, .string ⟨#[]⟩] 26))
            have HN := HNn
            clear HNn
            generalize World.alloc (w4) (.cells #[.slice none 0 0, .string ⟨#[]⟩] 26) = w5 at *
            generalize (w4).heap.size = b6 at *
            refine hK _ _ ⟨_, fun _ h => h, ⟨HRA.out, HRB.out⟩, ?_⟩
            clear hK K
            try simp only [Act.put, List.setIfInBounds_toArray, List.set_cons_zero, List.set_cons_succ]
            refine wpG_seg [] [10] 3 (by kernel_rfl) (by intro c a d v w h; cases d <;> exact h) (by kernel_rfl) ⟨HRA.out, HRB.out⟩ ?_
            try simp only [maskRows]
            refine wpQuiet_nil ?_
            refine List.forall_mem_singleton.2 ?_
            refine segt_run rfl (by rfl) (fun K hK => ?_)
            go_simp
            refine (HLb.out _).mono ?_
            rintro e w6 ⟨rfl, hb⟩
            dsimp only
            replace HRA := Lib.hid ((hb.block _ (Array.getElem?_eq_some_iff.1 HRA.out).1).trans HRA.out)
            replace HRB := Lib.hid ((hb.block _ (Array.getElem?_eq_some_iff.1 HRB.out).1).trans HRB.out)
            replace HB0 := Lib.hid (HB0.out.trans (hb.mono HB0.out.size))
            replace HRES := Lib.hid ((hb.block _ (Array.getElem?_eq_some_iff.1 HRES.out).1).trans HRES.out)
            replace HSZ := Lib.hid (Nat.le_trans HSZ.out hb.size)
            replace HO := Lib.hid (own_below HO.out hb)
            replace HN := Lib.hid ((hb.block _ (Array.getElem?_eq_some_iff.1 HN.out).1).trans HN.out)
            replace HB6 := Lib.hid (HB6.out)
            replace HNE := Lib.hid (HNE.out)
            clear hb
            refine hK _ _ ⟨_, fun _ h => h, ⟨HRA.out, HRB.out⟩, ?_⟩
            clear hK K
            try simp only [Act.put, List.setIfInBounds_toArray, List.set_cons_zero, List.set_cons_succ]
            refine wpG_seg [] [11] 2 (by kernel_rfl) (by intro c a d v w h; cases d <;> exact h) (by kernel_rfl) ⟨HRA.out, HRB.out⟩ ?_
            try simp only [maskRows]
            refine wpQuiet_nil ?_
            refine List.forall_mem_singleton.2 ?_
            refine segt_run rfl (by rfl) (fun K hK => ?_)
            go_simp
            refine (HOR.out _).mono ?_
            rintro e w7 ⟨rfl, hb⟩
            dsimp only
            replace HRA := Lib.hid ((hb.block _ (Array.getElem?_eq_some_iff.1 HRA.out).1).trans HRA.out)
            replace HRB := Lib.hid ((hb.block _ (Array.getElem?_eq_some_iff.1 HRB.out).1).trans HRB.out)
            replace HB0 := Lib.hid (HB0.out.trans (hb.mono HB0.out.size))
            replace HRES := Lib.hid ((hb.block _ (Array.getElem?_eq_some_iff.1 HRES.out).1).trans HRES.out)
            replace HSZ := Lib.hid (Nat.le_trans HSZ.out hb.size)
            replace HO := Lib.hid (own_below HO.out hb)
            replace HN := Lib.hid ((hb.block _ (Array.getElem?_eq_some_iff.1 HN.out).1).trans HN.out)
            replace HB6 := Lib.hid (HB6.out)
            replace HNE := Lib.hid (HNE.out)
            clear hb
            refine hK _ _ ⟨_, fun _ h => h, ⟨HRA.out, HRB.out⟩, ?_⟩
            clear hK K
            try simp only [Act.put, List.setIfInBounds_toArray, List.set_cons_zero, List.set_cons_succ]
            refine wpG_seg [] [12] 1 (by kernel_rfl) (by intro c a d v w h; cases d <;> exact h) (by kernel_rfl) ⟨HRA.out, HRB.out⟩ ?_
            try simp only [maskRows]
            refine wpQuiet_nil ?_
            refine List.forall_mem_singleton.2 ?_
            refine segt_run rfl (by rfl) (fun K hK => ?_)
            go_simp
            refine (HC.out _ _ _ _).mono ?_
            rintro e w8 ⟨rfl, hb⟩
            dsimp only
            replace HRA := Lib.hid ((hb.block _ (Array.getElem?_eq_some_iff.1 HRA.out).1).trans HRA.out)
            replace HRB := Lib.hid ((hb.block _ (Array.getElem?_eq_some_iff.1 HRB.out).1).trans HRB.out)
            replace HB0 := Lib.hid (HB0.out.trans (hb.mono HB0.out.size))
            replace HRES := Lib.hid ((hb.block _ (Array.getElem?_eq_some_iff.1 HRES.out).1).trans HRES.out)
            replace HSZ := Lib.hid (Nat.le_trans HSZ.out hb.size)
            replace HO := Lib.hid (own_below HO.out hb)
            replace HN := Lib.hid ((hb.block _ (Array.getElem?_eq_some_iff.1 HN.out).1).trans HN.out)
            replace HB6 := Lib.hid (HB6.out)
            replace HNE := Lib.hid (HNE.out)
            clear hb
            refine hK _ _ ⟨_, fun _ h => h, ⟨HRA.out, HRB.out⟩, ?_⟩
            clear hK K
            try simp only [Act.put, List.setIfInBounds_toArray, List.set_cons_zero, List.set_cons_succ]
            refine wpG_seg [] [14] 0 (by kernel_rfl) (by intro c a d v w h; cases d <;> exact h) (by kernel_rfl) ⟨HRA.out, HRB.out⟩ ?_
            try simp only [maskRows]
            refine wpQuiet_nil ?_
            refine List.forall_mem_singleton.2 ?_
            have hb6 := HB6.out
            obtain ⟨c0, c1, f0, f1⟩ := row2_of HN.out
            have hlt := (Array.getElem?_eq_some_iff.1 HN.out).1
            have HN' := Lib.hid (set2 (.slice a3 n3 k3) (.string Y) HN.out)
            have HRA' := Lib.hid (row_set2 HRA.out (by omega : w.heap.size ≠ b6) (.slice a3 n3 k3) (.string Y))
            have HRB' := Lib.hid (row_set2 HRB.out (by omega : w.heap.size + 1 ≠ b6) (.slice a3 n3 k3) (.string Y))
            have HRES' := Lib.hid (row_set2 HRES.out (by omega : w.heap.size + 2 ≠ b6) (.slice a3 n3 k3) (.string Y))
            have HB0' := Lib.hid (below2 HB0.out (by omega : w.heap.size ≤ b6) (.slice a3 n3 k3) (.string Y))
            have HO' := Lib.hid (HO.out.kept (grown2 _ b6 (.slice a3 n3 k3) (.string Y)) (.inr HNE.out))
            have HSZ' := Lib.hid (Nat.le_trans HSZ.out (Nat.le_of_eq (size_set2 _ b6 (.slice a3 n3 k3) (.string Y)).symm))
            clear hb6
            refine segt_run rfl (by rfl) (fun K hK => ?_)
            go_simp
            replace HN := HN'
            replace HRA := HRA'
            replace HRB := HRB'
            replace HRES := HRES'
            replace HB0 := HB0'
            replace HO := HO'
            replace HSZ := HSZ'
            clear HN' HRA' HRB' HRES' HB0' HO' HSZ' c0 c1 f0 f1 hlt
            generalize (World.setCell (World.setCell w8 ⟨b6, 0, none⟩ (.slice a3 n3 k3)) ⟨b6, 1, none⟩ (.string Y)) = wS at *
            refine hK _ _ ⟨_, fun _ h => h, ⟨HRA.out, HRB.out⟩, ?_⟩
            clear hK K
            try simp only [Act.put, List.setIfInBounds_toArray, List.set_cons_zero, List.set_cons_succ]
            refine wpG_end [] (by kernel_rfl) (by intro c a d v w h; cases d <;> exact h) (by kernel_rfl) ⟨HRA.out, HRB.out⟩ ?_
            try simp only [maskRows]
            refine wpQuiet_nil ?_
            obtain ⟨x0, x1, -, -⟩ := row2_of HN.out
            go_wp2_with fail
            refine (CX.out _ _ (keysAt_own HO.out)).mono ?_
            rintro e wX ⟨rfl, hb⟩
            replace HRA := Lib.hid ((hb.block _ (Array.getElem?_eq_some_iff.1 HRA.out).1).trans HRA.out)
            replace HRB := Lib.hid ((hb.block _ (Array.getElem?_eq_some_iff.1 HRB.out).1).trans HRB.out)
            replace HB0 := Lib.hid (HB0.out.trans (hb.mono HB0.out.size))
            replace HRES := Lib.hid ((hb.block _ (Array.getElem?_eq_some_iff.1 HRES.out).1).trans HRES.out)
            replace HSZ := Lib.hid (Nat.le_trans HSZ.out hb.size)
            replace HO := Lib.hid (own_below HO.out hb)
            replace HN := Lib.hid ((hb.block _ (Array.getElem?_eq_some_iff.1 HN.out).1).trans HN.out)
            clear hb x0 x1 CX
            generalize codeOkB (M, Y) = okX at *
            cases okX with
            | false =>
              have HM := Lib.hid (nX rfl)
              clear nX nY
              obtain ⟨x0, x1, -, -⟩ := row2_of HRA.out
              go_wp2_with fail
              refine (iblank_any _ _ _).mono ?_
              rintro e wB ⟨rfl, hb⟩
              replace HRA := Lib.hid ((hb.block _ (Array.getElem?_eq_some_iff.1 HRA.out).1).trans HRA.out)
              replace HRB := Lib.hid ((hb.block _ (Array.getElem?_eq_some_iff.1 HRB.out).1).trans HRB.out)
              replace HB0 := Lib.hid (HB0.out.trans (hb.mono HB0.out.size))
              replace HRES := Lib.hid ((hb.block _ (Array.getElem?_eq_some_iff.1 HRES.out).1).trans HRES.out)
              replace HSZ := Lib.hid (Nat.le_trans HSZ.out hb.size)
              replace HO := Lib.hid (own_below HO.out hb)
              replace HN := Lib.hid ((hb.block _ (Array.getElem?_eq_some_iff.1 HN.out).1).trans HN.out)
              obtain ⟨c0, c1, f0, f1⟩ := row2_of HRES.out
              have hlt := (Array.getElem?_eq_some_iff.1 HRES.out).1
              have HF := Lib.hid (And.intro (cd_res HRES.out (.slice none 0 0) z4) (below2 HB0.out (by omega : w.heap.size ≤ w.heap.size + 2) (.slice none 0 0) (.string z4)))
              clear hb HRA HRB HRES HO HB0 HN x0 x1
              go_wp2_with fail
              refine bodyPost_ret (v := .tuple #[.agg #[.slice none 0 0, .string z4], .bool false]) ?_ rfl ⟨_, by rw [HM.out]; rfl, by rw [HM.out]; exact World.ownsRow_nil _ _ _ _, HF.out.2⟩
              rw [results_cell_slot (p := 4) (u := 5) (ty := 26) (by kernel_rfl)]
              have l2 := HF.out.1
              simp [asAddr, Result.andThen, l2]
            | true =>
              have HM := Lib.hid (nY (by simp) (by simp) (by simp))
              clear nX nY
              obtain ⟨x0, x1, -, -⟩ := row2_of HN.out
              obtain ⟨c0, c1, f0, f1⟩ := row2_of HRES.out
              have hlt := (Array.getElem?_eq_some_iff.1 HRES.out).1
              have HF := Lib.hid (And.intro (cd_res HRES.out (.slice a3 n3 k3) Y) (And.intro (own_base (own_set2 HO.out (by omega : w.heap.size + 2 < w.heap.size + 3) (.slice a3 n3 k3) (.string Y)) (by omega : w.heap.size ≤ w.heap.size + 3)) (below2 HB0.out (by omega : w.heap.size ≤ w.heap.size + 2) (.slice a3 n3 k3) (.string Y))))
              clear HRA HRB HRES HO HB0 HN
              go_wp2_with fail
              refine bodyPost_ret (v := .tuple #[.agg #[.slice a3 n3 k3, .string Y], .bool true]) ?_ rfl ⟨_, by rw [HM.out], by rw [HM.out]; exact HF.out.2.1, HF.out.2.2⟩
              rw [results_cell_slot (p := 4) (u := 5) (ty := 26) (by kernel_rfl)]
              have l2 := HF.out.1
              simp [asAddr, Result.andThen, l2]
        · refine segt_run rfl (by rfl) (fun K hK => ?_)
          go_simp
          have HB6 := Lib.hid HSZ.out
          have HNE := Lib.hid (fun (e : (Value.slice a3 n3 k3).ownBlock = some w3.heap.size) => (absurd (HO.out.lt _ e).2 (Nat.lt_irrefl _) : False))
          have HNn := Lib.hid (heap_alloc_new (w3) (.cells #[.slice none 0 0, .string ⟨#[]⟩] 26))
          replace HRA := Lib.hid ((Below.heap_alloc _ (.cells #[.slice none 0 0, .string ⟨#[]⟩] 26) _ (Array.getElem?_eq_some_iff.1 HRA.out).1).trans HRA.out)
          replace HRB := Lib.hid ((Below.heap_alloc _ (.cells #[.slice none 0 0, .string ⟨#[]⟩] 26) _ (Array.getElem?_eq_some_iff.1 HRB.out).1).trans HRB.out)
          replace HB0 := Lib.hid (HB0.out.alloc HB0.out.size (.cells #[.slice none 0 0, .string ⟨#[]⟩] 26))
          replace HRES := Lib.hid ((Below.heap_alloc _ (.cells #[.slice none 0 0, .string ⟨#[]⟩] 26) _ (Array.getElem?_eq_some_iff.1 HRES.out).1).trans HRES.out)
          replace HSZ := Lib.hid (Nat.le_trans HSZ.out (size_le_alloc _ (.cells #[.slice none 0 0, .string ⟨#[]⟩] 26)))
          replace HO := Lib.hid (HO.out.alloc (.cells #[.slice none 0 0, .string ⟨#[]⟩] 26))
          have HN := HNn
          clear HNn
          generalize World.alloc (w3) (.cells #[.slice none 0 0, .string ⟨#[]⟩] 26) = w4 at *
          generalize (w3).heap.size = b6 at *
          refine hK _ _ ⟨_, fun _ h => h, ⟨HRA.out, HRB.out⟩, ?_⟩
          clear hK K
          try simp only [Act.put, List.setIfInBounds_toArray, List.set_cons_zero, List.set_cons_succ]
          refine wpG_seg [] [7] 4 (by kernel_rfl) (by intro c a d v w h; cases d <;> exact h) (by kernel_rfl) ⟨HRA.out, HRB.out⟩ ?_
          try simp only [maskRows]
          refine wpQuiet_nil ?_
          refine List.forall_mem_singleton.2 ?_
          refine segt_run rfl (by rfl) (fun K hK => ?_)
          go_simp
          refine (HLa.out _).mono ?_
          rintro e w5 ⟨rfl, hb⟩
          dsimp only
          replace HRA := Lib.hid ((hb.block _ (Array.getElem?_eq_some_iff.1 HRA.out).1).trans HRA.out)
          replace HRB := Lib.hid ((hb.block _ (Array.getElem?_eq_some_iff.1 HRB.out).1).trans HRB.out)
          replace HB0 := Lib.hid (HB0.out.trans (hb.mono HB0.out.size))
          replace HRES := Lib.hid ((hb.block _ (Array.getElem?_eq_some_iff.1 HRES.out).1).trans HRES.out)
          replace HSZ := Lib.hid (Nat.le_trans HSZ.out hb.size)
          replace HO := Lib.hid (own_below HO.out hb)
          replace HN := Lib.hid ((hb.block _ (Array.getElem?_eq_some_iff.1 HN.out).1).trans HN.out)
          replace HB6 := Lib.hid (HB6.out)
          replace HNE := Lib.hid (HNE.out)
          clear hb
          refine hK _ _ ⟨_, fun _ h => h, ⟨HRA.out, HRB.out⟩, ?_⟩
          clear hK K
          try simp only [Act.put, List.setIfInBounds_toArray, List.set_cons_zero, List.set_cons_succ]
          refine wpG_seg [] [10] 3 (by kernel_rfl) (by intro c a d v w h; cases d <;> exact h) (by kernel_rfl) ⟨HRA.out, HRB.out⟩ ?_
          try simp only [maskRows]
          refine wpQuiet_nil ?_
          refine List.forall_mem_singleton.2 ?_
          refine segt_run rfl (by rfl) (fun K hK => ?_)
          go_simp
          refine (HLb.out _).mono ?_
          rintro e w6 ⟨rfl, hb⟩
          dsimp only
          replace HRA := Lib.hid ((hb.block _ (Array.getElem?_eq_some_iff.1 HRA.out).1).trans HRA.out)
          replace HRB := Lib.hid ((hb.block _ (Array.getElem?_eq_some_iff.1 HRB.out).1).trans HRB.out)
          replace HB0 := Lib.hid (HB0.out.trans (hb.mono HB0.out.size))
          replace HRES := Lib.hid ((hb.block _ (Array.getElem?_eq_some_iff.1 HRES.out).1).trans HRES.out)
          replace HSZ := Lib.hid (Nat.le_trans HSZ.out hb.size)
          replace HO := Lib.hid (own_below HO.out hb)
          replace HN := Lib.hid ((hb.block _ (Array.getElem?_eq_some_iff.1 HN.out).1).trans HN.out)
          replace HB6 := Lib.hid (HB6.out)
          replace HNE := Lib.hid (HNE.out)
          clear hb
          refine hK _ _ ⟨_, fun _ h => h, ⟨HRA.out, HRB.out⟩, ?_⟩
          clear hK K
          try simp only [Act.put, List.setIfInBounds_toArray, List.set_cons_zero, List.set_cons_succ]
          refine wpG_seg [] [11] 2 (by kernel_rfl) (by intro c a d v w h; cases d <;> exact h) (by kernel_rfl) ⟨HRA.out, HRB.out⟩ ?_
          try simp only [maskRows]
          refine wpQuiet_nil ?_
          refine List.forall_mem_singleton.2 ?_
          refine segt_run rfl (by rfl) (fun K hK => ?_)
          go_simp
          refine (HOR.out _).mono ?_
          rintro e w7 ⟨rfl, hb⟩
          dsimp only
          replace HRA := Lib.hid ((hb.block _ (Array.getElem?_eq_some_iff.1 HRA.out).1).trans HRA.out)
          replace HRB := Lib.hid ((hb.block _ (Array.getElem?_eq_some_iff.1 HRB.out).1).trans HRB.out)
          replace HB0 := Lib.hid (HB0.out.trans (hb.mono HB0.out.size))
          replace HRES := Lib.hid ((hb.block _ (Array.getElem?_eq_some_iff.1 HRES.out).1).trans HRES.out)
          replace HSZ := Lib.hid (Nat.le_trans HSZ.out hb.size)
          replace HO := Lib.hid (own_below HO.out hb)
          replace HN := Lib.hid ((hb.block _ (Array.getElem?_eq_some_iff.1 HN.out).1).trans HN.out)
          replace HB6 := Lib.hid (HB6.out)
          replace HNE := Lib.hid (HNE.out)
          clear hb
          refine hK _ _ ⟨_, fun _ h => h, ⟨HRA.out, HRB.out⟩, ?_⟩
          clear hK K
          try simp only [Act.put, List.setIfInBounds_toArray, List.set_cons_zero, List.set_cons_succ]
          refine wpG_seg [] [12] 1 (by kernel_rfl) (by intro c a d v w h; cases d <;> exact h) (by kernel_rfl) ⟨HRA.out, HRB.out⟩ ?_
          try simp only [maskRows]
          refine wpQuiet_nil ?_
          refine List.forall_mem_singleton.2 ?_
          refine segt_run rfl (by rfl) (fun K hK => ?_)
          go_simp
          refine (HC.out _ _ _ _).mono ?_
          rintro e w8 ⟨rfl, hb⟩
          dsimp only
          replace HRA := Lib.hid ((hb.block _ (Array.getElem?_eq_some_iff.1 HRA.out).1).trans HRA.out)
          replace HRB := Lib.hid ((hb.block _ (Array.getElem?_eq_some_iff.1 HRB.out).1).trans HRB.out)
          replace HB0 := Lib.hid (HB0.out.trans (hb.mono HB0.out.size))
          replace HRES := Lib.hid ((hb.block _ (Array.getElem?_eq_some_iff.1 HRES.out).1).trans HRES.out)
          replace HSZ := Lib.hid (Nat.le_trans HSZ.out hb.size)
          replace HO := Lib.hid (own_below HO.out hb)
          replace HN := Lib.hid ((hb.block _ (Array.getElem?_eq_some_iff.1 HN.out).1).trans HN.out)
          replace HB6 := Lib.hid (HB6.out)
          replace HNE := Lib.hid (HNE.out)
          clear hb
          refine hK _ _ ⟨_, fun _ h => h, ⟨HRA.out, HRB.out⟩, ?_⟩
          clear hK K
          try simp only [Act.put, List.setIfInBounds_toArray, List.set_cons_zero, List.set_cons_succ]
          refine wpG_seg [] [14] 0 (by kernel_rfl) (by intro c a d v w h; cases d <;> exact h) (by kernel_rfl) ⟨HRA.out, HRB.out⟩ ?_
          try simp only [maskRows]
          refine wpQuiet_nil ?_
          refine List.forall_mem_singleton.2 ?_
          have hb6 := HB6.out
          obtain ⟨c0, c1, f0, f1⟩ := row2_of HN.out
          have hlt := (Array.getElem?_eq_some_iff.1 HN.out).1
          have HN' := Lib.hid (set2 (.slice a3 n3 k3) (.string Y) HN.out)
          have HRA' := Lib.hid (row_set2 HRA.out (by omega : w.heap.size ≠ b6) (.slice a3 n3 k3) (.string Y))
          have HRB' := Lib.hid (row_set2 HRB.out (by omega : w.heap.size + 1 ≠ b6) (.slice a3 n3 k3) (.string Y))
          have HRES' := Lib.hid (row_set2 HRES.out (by omega : w.heap.size + 2 ≠ b6) (.slice a3 n3 k3) (.string Y))
          have HB0' := Lib.hid (below2 HB0.out (by omega : w.heap.size ≤ b6) (.slice a3 n3 k3) (.string Y))
          have HO' := Lib.hid (HO.out.kept (grown2 _ b6 (.slice a3 n3 k3) (.string Y)) (.inr HNE.out))
          have HSZ' := Lib.hid (Nat.le_trans HSZ.out (Nat.le_of_eq (size_set2 _ b6 (.slice a3 n3 k3) (.string Y)).symm))
          clear hb6
          refine segt_run rfl (by rfl) (fun K hK => ?_)
          go_simp
          replace HN := HN'
          replace HRA := HRA'
          replace HRB := HRB'
          replace HRES := HRES'
          replace HB0 := HB0'
          replace HO := HO'
          replace HSZ := HSZ'
          clear HN' HRA' HRB' HRES' HB0' HO' HSZ' c0 c1 f0 f1 hlt
          generalize (World.setCell (World.setCell w8 ⟨b6, 0, none⟩ (.slice a3 n3 k3)) ⟨b6, 1, none⟩ (.string Y)) = wS at *
          refine hK _ _ ⟨_, fun _ h => h, ⟨HRA.out, HRB.out⟩, ?_⟩
          clear hK K
          try simp only [Act.put, List.setIfInBounds_toArray, List.set_cons_zero, List.set_cons_succ]
          refine wpG_end [] (by kernel_rfl) (by intro c a d v w h; cases d <;> exact h) (by kernel_rfl) ⟨HRA.out, HRB.out⟩ ?_
          try simp only [maskRows]
          refine wpQuiet_nil ?_
          obtain ⟨x0, x1, -, -⟩ := row2_of HN.out
          go_wp2_with fail
          refine (CX.out _ _ (keysAt_own HO.out)).mono ?_
          rintro e wX ⟨rfl, hb⟩
          replace HRA := Lib.hid ((hb.block _ (Array.getElem?_eq_some_iff.1 HRA.out).1).trans HRA.out)
          replace HRB := Lib.hid ((hb.block _ (Array.getElem?_eq_some_iff.1 HRB.out).1).trans HRB.out)
          replace HB0 := Lib.hid (HB0.out.trans (hb.mono HB0.out.size))
          replace HRES := Lib.hid ((hb.block _ (Array.getElem?_eq_some_iff.1 HRES.out).1).trans HRES.out)
          replace HSZ := Lib.hid (Nat.le_trans HSZ.out hb.size)
          replace HO := Lib.hid (own_below HO.out hb)
          replace HN := Lib.hid ((hb.block _ (Array.getElem?_eq_some_iff.1 HN.out).1).trans HN.out)
          clear hb x0 x1 CX
          generalize codeOkB (M, Y) = okX at *
          cases okX with
          | false =>
            have HM := Lib.hid (nX rfl)
            clear nX nY
            obtain ⟨x0, x1, -, -⟩ := row2_of HRA.out
            go_wp2_with fail
            refine (iblank_any _ _ _).mono ?_
            rintro e wB ⟨rfl, hb⟩
            replace HRA := Lib.hid ((hb.block _ (Array.getElem?_eq_some_iff.1 HRA.out).1).trans HRA.out)
            replace HRB := Lib.hid ((hb.block _ (Array.getElem?_eq_some_iff.1 HRB.out).1).trans HRB.out)
            replace HB0 := Lib.hid (HB0.out.trans (hb.mono HB0.out.size))
            replace HRES := Lib.hid ((hb.block _ (Array.getElem?_eq_some_iff.1 HRES.out).1).trans HRES.out)
            replace HSZ := Lib.hid (Nat.le_trans HSZ.out hb.size)
            replace HO := Lib.hid (own_below HO.out hb)
            replace HN := Lib.hid ((hb.block _ (Array.getElem?_eq_some_iff.1 HN.out).1).trans HN.out)
            obtain ⟨c0, c1, f0, f1⟩ := row2_of HRES.out
            have hlt := (Array.getElem?_eq_some_iff.1 HRES.out).1
            have HF := Lib.hid (And.intro (cd_res HRES.out (.slice none 0 0) z4) (below2 HB0.out (by omega : w.heap.size ≤ w.heap.size + 2) (.slice none 0 0) (.string z4)))
            clear hb HRA HRB HRES HO HB0 HN x0 x1
            go_wp2_with fail
            refine bodyPost_ret (v := .tuple #[.agg #[.slice none 0 0, .string z4], .bool false]) ?_ rfl ⟨_, by rw [HM.out]; rfl, by rw [HM.out]; exact World.ownsRow_nil _ _ _ _, HF.out.2⟩
            rw [results_cell_slot (p := 4) (u := 5) (ty := 26) (by kernel_rfl)]
            have l2 := HF.out.1
            simp [asAddr, Result.andThen, l2]
          | true =>
            have HM := Lib.hid (nY (by simp) (by simp) (by simp))
            clear nX nY
            obtain ⟨x0, x1, -, -⟩ := row2_of HN.out
            obtain ⟨c0, c1, f0, f1⟩ := row2_of HRES.out
            have hlt := (Array.getElem?_eq_some_iff.1 HRES.out).1
            have HF := Lib.hid (And.intro (cd_res HRES.out (.slice a3 n3 k3) Y) (And.intro (own_base (own_set2 HO.out (by omega : w.heap.size + 2 < w.heap.size + 3) (.slice a3 n3 k3) (.string Y)) (by omega : w.heap.size ≤ w.heap.size + 3)) (below2 HB0.out (by omega : w.heap.size ≤ w.heap.size + 2) (.slice a3 n3 k3) (.string Y))))
            clear HRA HRB HRES HO HB0 HN
            go_wp2_with fail
            refine bodyPost_ret (v := .tuple #[.agg #[.slice a3 n3 k3, .string Y], .bool true]) ?_ rfl ⟨_, by rw [HM.out], by rw [HM.out]; exact HF.out.2.1, HF.out.2.2⟩
            rw [results_cell_slot (p := 4) (u := 5) (ty := 26) (by kernel_rfl)]
            have l2 := HF.out.1
            simp [asAddr, Result.andThen, l2]
      · refine segt_run rfl (by rfl) (fun K hK => ?_)
        go_simp
        have HB6 := Lib.hid HSZ.out
        have HNn := Lib.hid (heap_alloc_new (wD) (.cells #[.slice none 0 0, .string ⟨#[]⟩] 26))
        replace HRA := Lib.hid ((Below.heap_alloc _ (.cells #[.slice none 0 0, .string ⟨#[]⟩] 26) _ (Array.getElem?_eq_some_iff.1 HRA.out).1).trans HRA.out)
        replace HRB := Lib.hid ((Below.heap_alloc _ (.cells #[.slice none 0 0, .string ⟨#[]⟩] 26) _ (Array.getElem?_eq_some_iff.1 HRB.out).1).trans HRB.out)
        replace HB0 := Lib.hid (HB0.out.alloc HB0.out.size (.cells #[.slice none 0 0, .string ⟨#[]⟩] 26))
        replace HRES := Lib.hid ((Below.heap_alloc _ (.cells #[.slice none 0 0, .string ⟨#[]⟩] 26) _ (Array.getElem?_eq_some_iff.1 HRES.out).1).trans HRES.out)
        replace HSZ := Lib.hid (Nat.le_trans HSZ.out (size_le_alloc _ (.cells #[.slice none 0 0, .string ⟨#[]⟩] 26)))
        have HN := HNn
        clear HNn
        generalize World.alloc (wD) (.cells #[.slice none 0 0, .string ⟨#[]⟩] 26) = w3 at *
        generalize (wD).heap.size = b6 at *
        refine hK _ _ ⟨_, fun _ h => h, ⟨HRA.out, HRB.out⟩, ?_⟩
        clear hK K
        try simp only [Act.put, List.setIfInBounds_toArray, List.set_cons_zero, List.set_cons_succ]
        refine wpG_seg [] [4] 5 (by kernel_rfl) (by intro c a d v w h; cases d <;> exact h) (by kernel_rfl) ⟨HRA.out, HRB.out⟩ ?_
        try simp only [maskRows]
        refine wpQuiet_nil ?_
        refine List.forall_mem_singleton.2 ?_
        refine segt_run rfl (by rfl) (fun K hK => ?_)
        go_simp
        refine (SP.out _ HB0.out).mono ?_
        rintro e w4 ⟨v3, rfl, ho3, hb⟩
        dsimp only
        have HSZo := Lib.hid HSZ.out
        have HBL := Lib.hid (Array.getElem?_eq_some_iff.1 HN.out).1
        have hNE := fun (b6 : Nat) (hl : b6 < w3.heap.size) (e : v3.ownBlock = some b6) => (absurd (ho3.lt b6 e).1 (Nat.not_le.2 hl) : False)
        replace HRA := Lib.hid ((hb.block _ (Array.getElem?_eq_some_iff.1 HRA.out).1).trans HRA.out)
        replace HRB := Lib.hid ((hb.block _ (Array.getElem?_eq_some_iff.1 HRB.out).1).trans HRB.out)
        replace HB0 := Lib.hid (HB0.out.trans (hb.mono HB0.out.size))
        replace HRES := Lib.hid ((hb.block _ (Array.getElem?_eq_some_iff.1 HRES.out).1).trans HRES.out)
        replace HSZ := Lib.hid (Nat.le_trans HSZ.out hb.size)
        replace HN := Lib.hid ((hb.block _ (Array.getElem?_eq_some_iff.1 HN.out).1).trans HN.out)
        replace HB6 := Lib.hid (HB6.out)
        have HNE := Lib.hid (hNE b6 HBL.out)
        clear hNE
        obtain ⟨a3, n3, k3, rfl⟩ := own_shape ho3
        have HO := Lib.hid (own_base ho3 HSZo.out)
        clear ho3 HSZo
        clear hb
        clear HBL
        refine hK _ _ ⟨_, fun _ h => h, ⟨HRA.out, HRB.out⟩, ?_⟩
        clear hK K
        try simp only [Act.put, List.setIfInBounds_toArray, List.set_cons_zero, List.set_cons_succ]
        refine wpG_seg [] [7] 4 (by kernel_rfl) (by intro c a d v w h; cases d <;> exact h) (by kernel_rfl) ⟨HRA.out, HRB.out⟩ ?_
        try simp only [maskRows]
        refine wpQuiet_nil ?_
        refine List.forall_mem_singleton.2 ?_
        refine segt_run rfl (by rfl) (fun K hK => ?_)
        go_simp
        refine (HLa.out _).mono ?_
        rintro e w5 ⟨rfl, hb⟩
        dsimp only
        replace HRA := Lib.hid ((hb.block _ (Array.getElem?_eq_some_iff.1 HRA.out).1).trans HRA.out)
        replace HRB := Lib.hid ((hb.block _ (Array.getElem?_eq_some_iff.1 HRB.out).1).trans HRB.out)
        replace HB0 := Lib.hid (HB0.out.trans (hb.mono HB0.out.size))
        replace HRES := Lib.hid ((hb.block _ (Array.getElem?_eq_some_iff.1 HRES.out).1).trans HRES.out)
        replace HSZ := Lib.hid (Nat.le_trans HSZ.out hb.size)
        replace HN := Lib.hid ((hb.block _ (Array.getElem?_eq_some_iff.1 HN.out).1).trans HN.out)
        replace HB6 := Lib.hid (HB6.out)
        replace HO := Lib.hid (own_below HO.out hb)
        replace HNE := Lib.hid (HNE.out)
        clear hb
        refine hK _ _ ⟨_, fun _ h => h, ⟨HRA.out, HRB.out⟩, ?_⟩
        clear hK K
        try simp only [Act.put, List.setIfInBounds_toArray, List.set_cons_zero, List.set_cons_succ]
        refine wpG_seg [] [10] 3 (by kernel_rfl) (by intro c a d v w h; cases d <;> exact h) (by kernel_rfl) ⟨HRA.out, HRB.out⟩ ?_
        try simp only [maskRows]
        refine wpQuiet_nil ?_
        refine List.forall_mem_singleton.2 ?_
        refine segt_run rfl (by rfl) (fun K hK => ?_)
        go_simp
        refine (HLb.out _).mono ?_
        rintro e w6 ⟨rfl, hb⟩
        dsimp only
        replace HRA := Lib.hid ((hb.block _ (Array.getElem?_eq_some_iff.1 HRA.out).1).trans HRA.out)
        replace HRB := Lib.hid ((hb.block _ (Array.getElem?_eq_some_iff.1 HRB.out).1).trans HRB.out)
        replace HB0 := Lib.hid (HB0.out.trans (hb.mono HB0.out.size))
        replace HRES := Lib.hid ((hb.block _ (Array.getElem?_eq_some_iff.1 HRES.out).1).trans HRES.out)
        replace HSZ := Lib.hid (Nat.le_trans HSZ.out hb.size)
        replace HN := Lib.hid ((hb.block _ (Array.getElem?_eq_some_iff.1 HN.out).1).trans HN.out)
        replace HB6 := Lib.hid (HB6.out)
        replace HO := Lib.hid (own_below HO.out hb)
        replace HNE := Lib.hid (HNE.out)
        clear hb
        refine hK _ _ ⟨_, fun _ h => h, ⟨HRA.out, HRB.out⟩, ?_⟩
        clear hK K
        try simp only [Act.put, List.setIfInBounds_toArray, List.set_cons_zero, List.set_cons_succ]
        refine wpG_seg [] [11] 2 (by kernel_rfl) (by intro c a d v w h; cases d <;> exact h) (by kernel_rfl) ⟨HRA.out, HRB.out⟩ ?_
        try simp only [maskRows]
        refine wpQuiet_nil ?_
        refine List.forall_mem_singleton.2 ?_
        refine segt_run rfl (by rfl) (fun K hK => ?_)
        go_simp
        refine (HOR.out _).mono ?_
        rintro e w7 ⟨rfl, hb⟩
        dsimp only
        replace HRA := Lib.hid ((hb.block _ (Array.getElem?_eq_some_iff.1 HRA.out).1).trans HRA.out)
        replace HRB := Lib.hid ((hb.block _ (Array.getElem?_eq_some_iff.1 HRB.out).1).trans HRB.out)
        replace HB0 := Lib.hid (HB0.out.trans (hb.mono HB0.out.size))
        replace HRES := Lib.hid ((hb.block _ (Array.getElem?_eq_some_iff.1 HRES.out).1).trans HRES.out)
        replace HSZ := Lib.hid (Nat.le_trans HSZ.out hb.size)
        replace HN := Lib.hid ((hb.block _ (Array.getElem?_eq_some_iff.1 HN.out).1).trans HN.out)
        replace HB6 := Lib.hid (HB6.out)
        replace HO := Lib.hid (own_below HO.out hb)
        replace HNE := Lib.hid (HNE.out)
        clear hb
        refine hK _ _ ⟨_, fun _ h => h, ⟨HRA.out, HRB.out⟩, ?_⟩
        clear hK K
        try simp only [Act.put, List.setIfInBounds_toArray, List.set_cons_zero, List.set_cons_succ]
        refine wpG_seg [] [12] 1 (by kernel_rfl) (by intro c a d v w h; cases d <;> exact h) (by kernel_rfl) ⟨HRA.out, HRB.out⟩ ?_
        try simp only [maskRows]
        refine wpQuiet_nil ?_
        refine List.forall_mem_singleton.2 ?_
        refine segt_run rfl (by rfl) (fun K hK => ?_)
        go_simp
        refine (HC.out _ _ _ _).mono ?_
        rintro e w8 ⟨rfl, hb⟩
        dsimp only
        replace HRA := Lib.hid ((hb.block _ (Array.getElem?_eq_some_iff.1 HRA.out).1).trans HRA.out)
        replace HRB := Lib.hid ((hb.block _ (Array.getElem?_eq_some_iff.1 HRB.out).1).trans HRB.out)
        replace HB0 := Lib.hid (HB0.out.trans (hb.mono HB0.out.size))
        replace HRES := Lib.hid ((hb.block _ (Array.getElem?_eq_some_iff.1 HRES.out).1).trans HRES.out)
        replace HSZ := Lib.hid (Nat.le_trans HSZ.out hb.size)
        replace HN := Lib.hid ((hb.block _ (Array.getElem?_eq_some_iff.1 HN.out).1).trans HN.out)
        replace HB6 := Lib.hid (HB6.out)
        replace HO := Lib.hid (own_below HO.out hb)
        replace HNE := Lib.hid (HNE.out)
        clear hb
        refine hK _ _ ⟨_, fun _ h => h, ⟨HRA.out, HRB.out⟩, ?_⟩
        clear hK K
        try simp only [Act.put, List.setIfInBounds_toArray, List.set_cons_zero, List.set_cons_succ]
        refine wpG_seg [] [14] 0 (by kernel_rfl) (by intro c a d v w h; cases d <;> exact h) (by kernel_rfl) ⟨HRA.out, HRB.out⟩ ?_
        try simp only [maskRows]
        refine wpQuiet_nil ?_
        refine List.forall_mem_singleton.2 ?_
        have hb6 := HB6.out
        obtain ⟨c0, c1, f0, f1⟩ := row2_of HN.out
        have hlt := (Array.getElem?_eq_some_iff.1 HN.out).1
        have HN' := Lib.hid (set2 (.slice a3 n3 k3) (.string Y) HN.out)
        have HRA' := Lib.hid (row_set2 HRA.out (by omega : w.heap.size ≠ b6) (.slice a3 n3 k3) (.string Y))
        have HRB' := Lib.hid (row_set2 HRB.out (by omega : w.heap.size + 1 ≠ b6) (.slice a3 n3 k3) (.string Y))
        have HRES' := Lib.hid (row_set2 HRES.out (by omega : w.heap.size + 2 ≠ b6) (.slice a3 n3 k3) (.string Y))
        have HB0' := Lib.hid (below2 HB0.out (by omega : w.heap.size ≤ b6) (.slice a3 n3 k3) (.string Y))
        have HO' := Lib.hid (HO.out.kept (grown2 _ b6 (.slice a3 n3 k3) (.string Y)) (.inr HNE.out))
        have HSZ' := Lib.hid (Nat.le_trans HSZ.out (Nat.le_of_eq (size_set2 _ b6 (.slice a3 n3 k3) (.string Y)).symm))
        clear hb6
        refine segt_run rfl (by rfl) (fun K hK => ?_)
        go_simp
        replace HN := HN'
        replace HRA := HRA'
        replace HRB := HRB'
        replace HRES := HRES'
        replace HB0 := HB0'
        replace HO := HO'
        replace HSZ := HSZ'
        clear HN' HRA' HRB' HRES' HB0' HO' HSZ' c0 c1 f0 f1 hlt
        generalize (World.setCell (World.setCell w8 ⟨b6, 0, none⟩ (.slice a3 n3 k3)) ⟨b6, 1, none⟩ (.string Y)) = wS at *
        refine hK _ _ ⟨_, fun _ h => h, ⟨HRA.out, HRB.out⟩, ?_⟩
        clear hK K
        try simp only [Act.put, List.setIfInBounds_toArray, List.set_cons_zero, List.set_cons_succ]
        refine wpG_end [] (by kernel_rfl) (by intro c a d v w h; cases d <;> exact h) (by kernel_rfl) ⟨HRA.out, HRB.out⟩ ?_
        try simp only [maskRows]
        refine wpQuiet_nil ?_
        obtain ⟨x0, x1, -, -⟩ := row2_of HN.out
        go_wp2_with fail
        refine (CX.out _ _ (keysAt_own HO.out)).mono ?_
        rintro e wX ⟨rfl, hb⟩
        replace HRA := Lib.hid ((hb.block _ (Array.getElem?_eq_some_iff.1 HRA.out).1).trans HRA.out)
        replace HRB := Lib.hid ((hb.block _ (Array.getElem?_eq_some_iff.1 HRB.out).1).trans HRB.out)
        replace HB0 := Lib.hid (HB0.out.trans (hb.mono HB0.out.size))
        replace HRES := Lib.hid ((hb.block _ (Array.getElem?_eq_some_iff.1 HRES.out).1).trans HRES.out)
        replace HSZ := Lib.hid (Nat.le_trans HSZ.out hb.size)
        replace HO := Lib.hid (own_below HO.out hb)
        replace HN := Lib.hid ((hb.block _ (Array.getElem?_eq_some_iff.1 HN.out).1).trans HN.out)
        clear hb x0 x1 CX
        generalize codeOkB (M, Y) = okX at *
        cases okX with
        | false =>
          have HM := Lib.hid (nX rfl)
          clear nX nY
          obtain ⟨x0, x1, -, -⟩ := row2_of HRA.out
          go_wp2_with fail
          refine (iblank_any _ _ _).mono ?_
          rintro e wB ⟨rfl, hb⟩
          replace HRA := Lib.hid ((hb.block _ (Array.getElem?_eq_some_iff.1 HRA.out).1).trans HRA.out)
          replace HRB := Lib.hid ((hb.block _ (Array.getElem?_eq_some_iff.1 HRB.out).1).trans HRB.out)
          replace HB0 := Lib.hid (HB0.out.trans (hb.mono HB0.out.size))
          replace HRES := Lib.hid ((hb.block _ (Array.getElem?_eq_some_iff.1 HRES.out).1).trans HRES.out)
          replace HSZ := Lib.hid (Nat.le_trans HSZ.out hb.size)
          replace HO := Lib.hid (own_below HO.out hb)
          replace HN := Lib.hid ((hb.block _ (Array.getElem?_eq_some_iff.1 HN.out).1).trans HN.out)
          obtain ⟨c0, c1, f0, f1⟩ := row2_of HRES.out
          have hlt := (Array.getElem?_eq_some_iff.1 HRES.out).1
          have HF := Lib.hid (And.intro (cd_res HRES.out (.slice none 0 0) z4) (below2 HB0.out (by omega : w.heap.size ≤ w.heap.size + 2) (.slice none 0 0) (.string z4)))
          clear hb HRA HRB HRES HO HB0 HN x0 x1
          go_wp2_with fail
          refine bodyPost_ret (v := .tuple #[.agg #[.slice none 0 0, .string z4], .bool false]) ?_ rfl ⟨_, by rw [HM.out]; rfl, by rw [HM.out]; exact World.ownsRow_nil _ _ _ _, HF.out.2⟩
          rw [results_cell_slot (p := 4) (u := 5) (ty := 26) (by kernel_rfl)]
          have l2 := HF.out.1
          simp [asAddr, Result.andThen, l2]
        | true =>
          have HM := Lib.hid (nY (by simp) (by simp) (by simp))
          clear nX nY
          obtain ⟨x0, x1, -, -⟩ := row2_of HN.out
          obtain ⟨c0, c1, f0, f1⟩ := row2_of HRES.out
          have hlt := (Array.getElem?_eq_some_iff.1 HRES.out).1
          have HF := Lib.hid (And.intro (cd_res HRES.out (.slice a3 n3 k3) Y) (And.intro (own_base (own_set2 HO.out (by omega : w.heap.size + 2 < w.heap.size + 3) (.slice a3 n3 k3) (.string Y)) (by omega : w.heap.size ≤ w.heap.size + 3)) (below2 HB0.out (by omega : w.heap.size ≤ w.heap.size + 2) (.slice a3 n3 k3) (.string Y))))
          clear HRA HRB HRES HO HB0 HN
          go_wp2_with fail
          refine bodyPost_ret (v := .tuple #[.agg #[.slice a3 n3 k3, .string Y], .bool true]) ?_ rfl ⟨_, by rw [HM.out], by rw [HM.out]; exact HF.out.2.1, HF.out.2.2⟩
          rw [results_cell_slot (p := 4) (u := 5) (ty := 26) (by kernel_rfl)]
          have l2 := HF.out.1
          simp [asAddr, Result.andThen, l2]
end Go.Proofs.Ytnknfmjpkphbpaa
/- A list's keys told to a yield: the program's iterator, walked. -/
namespace Go.Proofs.Ytnknfmjpkphbpaa
open Go.RowKit Go.Shelf
attribute [local go_sem] Oper.semAt_some
set_option linter.unusedVariables false

/-- the slice value v leads to the keys ks, in blocks below n₀ -/
def keysIn0 (n₀ : Nat) (w : World) (v : Value) (ks : List K2) : Prop :=
  ∃ a cap, v = .slice a ks.length cap ∧ ks.length ≤ cap ∧ (ks.length = 0 ∨ ∃ g off, a = some ⟨g, off, none⟩ ∧ g < n₀ ∧ g < w.heap.size ∧
    ∀ i, i < ks.length → w.cell? ⟨g, off + i * 2, none⟩ = some (.int .i64 (ks.getD i (0, 0)).1) ∧ w.cell? ⟨g, off + i * 2 + 1, none⟩ = some (.int .i64 (ks.getD i (0, 0)).2))
theorem keysIn0.below {n₀ : Nat} {w w' : World} {v : Value} {ks : List K2} (h : keysIn0 n₀ w v ks) (hb : Below n₀ w w') : keysIn0 n₀ w' v ks := by
  obtain ⟨a, cap, h1, h2, h3⟩ := h
  refine ⟨a, cap, h1, h2, h3.imp_right ?_⟩
  rintro ⟨g, off, h4, h0, h5, h6⟩
  refine ⟨g, off, h4, h0, Nat.lt_of_lt_of_le h5 hb.size, fun i hi => ?_⟩
  rw [hb.cell (p := ⟨g, off + i * 2, none⟩) h0, hb.cell (p := ⟨g, off + i * 2 + 1, none⟩) h0]
  exact h6 i hi
theorem keysIn0.at {n₀ : Nat} {w : World} {v : Value} {ks : List K2} (h : keysIn0 n₀ w v ks) : keysAt w v ks := by
  obtain ⟨a, cap, h1, h2, h3⟩ := h
  exact ⟨a, cap, h1, h2, h3.imp_right fun ⟨g, off, h4, _, h5, h6⟩ => ⟨g, off, h4, h5, h6⟩⟩
theorem keysIn0_of {w : World} {v : Value} {ks : List K2} (h : keysAt w v ks) : keysIn0 w.heap.size w v ks := by
  obtain ⟨a, cap, h1, h2, h3⟩ := h
  exact ⟨a, cap, h1, h2, h3.imp_right fun ⟨g, off, h4, h5, h6⟩ => ⟨g, off, h4, h5, h5, h6⟩⟩

set_option maxRecDepth 100000 in
set_option maxHeartbeats 1000000 in
/-- the iterator's closure: every key, in order, or as far as the round says -/
theorem kin_in (n l Bn n₀ : Nat) (v : Value) (ks : List K2) (hs : ks.length ≤ 8000000) (hn : 1 ≤ n) (J Jx : List K2 → World → Prop)
    (hJ : ∀ s W W', J s W → W.grownBy W' none → J s W')
    (hY : ∀ pre x W, J pre W → pre.length < ks.length → YieldAt Fence.wide (n - 1) Try.prog l #[kv x] W fun e W' =>
      (e = .returned (.bool true) ∧ J (pre ++ [x]) W' ∧ Below n₀ W W') ∨ (e = .returned (.bool false) ∧ Jx (pre ++ [x]) W'))
    (W : World) (hBn : W.cell? ⟨Bn, 0, none⟩ = some v) (hk : keysIn0 n₀ W v ks) (hn₀ : n₀ ≤ W.heap.size) (h0 : J [] W) :
    CallsIn Fence.wide n Try.prog 89 #[.func (.yield l) #[] #[], .pointer (some ⟨Bn, 0, none⟩)] W fun e W' => (∃ v, e = .returned v) ∧
      ((∃ ys : List K2, ys = ks ∧ J ys W') ∨ (∃ pre : List K2, pre <+: ks ∧ Jx pre W')) := by
  refine callsIn_of_wp Try.func89 rfl trivial ?_ rfl
  simp only [Try.ntmps89, List.size_toArray, List.length_cons, List.length_nil, Nat.reduceAdd, Nat.reduceSub, Array.replicate_succ, Array.replicate_zero, List.push_toArray, List.append_toArray, List.nil_append, List.cons_append]
  obtain ⟨a, cap, rfl, hcap, hcells⟩ := id hk
  gi_wp2
  gi_loopw [7] (fun p wr => ∃ (k : Nat), p = .int .i64 k ∧ k ≤ ks.length ∧ keysIn0 n₀ wr (.slice a ks.length cap) ks ∧ n₀ ≤ wr.heap.size ∧ J (ks.take k) wr)
    (fun p wr => ks.length + 1 - (intOf p).toNat)
  case atStart => exact ⟨0, rfl, Nat.zero_le _, hk, hn₀, h0⟩
  case round =>
    obtain ⟨k, rfl, hk1, hkw, hnw, hJs⟩ := hrel
    by_cases hlt : k < ks.length
    · have hkw' := hkw
      obtain ⟨a2, cap2, hv2, _, hcs⟩ := hkw
      cases hv2
      obtain ⟨g, off, rfl, hg0, hg, hcs⟩ := hcs.resolve_left (by omega)
      have c1 := hcs k hlt
      have C1 := c1.1
      have C2 := c1.2
      have hks : ks.take (k + 1) = ks.take k ++ [ks.getD k (0, 0)] := by rw [List.take_add_one]; simp [List.getD, hlt]
      have hlen : (ks.take k).length < ks.length := by simp; omega
      have z0 : (0 : Int) ≤ (k : Int) := by omega
      have z1 : (k : Int) < (ks.length : Int) := by omega
      clear hcs c1 hcells
      generalize ks.getD k (0, 0) = kx at *
      obtain ⟨p, q⟩ := kx
      have HKS := Lib.hid hks; clear hks
      dsimp only at C1 C2
      have hJa : J (ks.take k) ((wr.alloc (.cells #[.int .i64 p, .int .i64 q] 41))) := hJ _ _ _ hJs (World.grownBy_alloc wr _ none)
      have hka : keysIn0 n₀ (wr.alloc (.cells #[.int .i64 p, .int .i64 q] 41)) (.slice (some ⟨g, off, none⟩) ks.length cap) ks := hkw'.below ((Below.refl _ _).alloc hnw _)
      have hsa : n₀ ≤ (wr.alloc (.cells #[.int .i64 p, .int .i64 q] 41)).heap.size := by simp; omega
      obtain ⟨fn, tmps, assign, body, hy, hR⟩ := hY (ks.take k) (p, q) _ hJa hlen
      unfold kv at hy
      dsimp only at hy
      clear hY hJa
      gi_wp2
      refine hR.mono ?_
      rintro e W3 (⟨rfl, hJ3, hk3⟩ | ⟨rfl, hJx3⟩)
      · have hk3' := hka.below hk3
        have hsz3 := Nat.le_trans hsa hk3.size
        rw [← HKS.out] at hJ3
        clear hka hsa hkw' C1 C2
        gi_wp2
        exact ⟨⟨k + 1, by go_num, by omega, hk3', hsz3, hJ3⟩, by simp [intOf]; omega⟩
      · rw [← HKS.out] at hJx3
        clear hka hsa hkw' C1 C2
        gi_wp2
        refine bodyPost_ret (results_none rfl _ _ _) rfl ?_
        exact ⟨⟨_, rfl⟩, .inr ⟨_, List.take_prefix _ _, hJx3⟩⟩
    · obtain rfl : k = ks.length := by omega
      rw [List.take_length] at hJs
      gi_wp2
      go_end0
      exact ⟨⟨_, rfl⟩, .inl ⟨_, rfl, hJs⟩⟩

theorem kin_any (a : Option Addr) (n c : Nat) (w : World) :
    Calls Try.prog 57 #[.slice a n c] w fun e w' => e = .returned (.func (.func 89) #[] #[.pointer (some ⟨w.heap.size, 0, none⟩)]) ∧ w' = w.alloc (.cells #[.slice a n c] 24) := by
  go_enter Try.func57, Try.ntmps57
  go_wp2
  go_ret
  exact ⟨rfl, rfl⟩

theorem kin_stops (n Bn n₀ : Nat) (v : Value) (ks : List K2) (hs : ks.length ≤ 8000000) (hn : 1 ≤ n) (w : World) (hBn : Bn < w.heap.size) (hn₀ : n₀ ≤ w.heap.size) (hc : w.cell? ⟨Bn, 0, none⟩ = some v) (hk : keysIn0 n₀ w v ks) :
    SeqStopsK Fence.wide n Try.prog 89 #[.pointer (some ⟨Bn, 0, none⟩)] (fun x : K2 => #[kv x]) (Below n₀) (fun ys => ys = ks) (fun pre => pre <+: ks) ks.length w :=
  fun l J Jx W hW hJ _ hY h0 => kin_in n l Bn n₀ v ks hs hn J Jx (fun s A B h hg => hJ s A B none h hg (fun r e => by cases e)) hY W ((hW.cell (p := ⟨Bn, 0, none⟩) hBn).trans hc) (hk.below (hW.mono hn₀)) (Nat.le_trans hn₀ hW.size) h0
end Go.Proofs.Ytnknfmjpkphbpaa
/- A box that holds a key. -/
namespace Go.Proofs.Ytnknfmjpkphbpaa
open Go.RowKit
set_option linter.unusedVariables false

def KBoxed (W : World) (B : Nat) (k : K2) : Prop := W.heap[B]? = some (.cells #[.int .i64 k.1, .int .i64 k.2] 41 (0, 0))
theorem KBoxed.lt {W : World} {B : Nat} {k : K2} (h : KBoxed W B k) : B < W.heap.size := (Array.getElem?_eq_some_iff.1 h).1
theorem KBoxed.cell0 {W : World} {B : Nat} {k : K2} (h : KBoxed W B k) : W.cell? ⟨B, 0, none⟩ = some (.int .i64 k.1) := by simp [World.cell?, show W.heap[B]? = _ from h]
theorem KBoxed.cell1 {W : World} {B : Nat} {k : K2} (h : KBoxed W B k) : W.cell? ⟨B, 1, none⟩ = some (.int .i64 k.2) := by simp [World.cell?, show W.heap[B]? = _ from h]
theorem KBoxed.new (W : World) (k : K2) : KBoxed (W.alloc (.cells #[.int .i64 k.1, .int .i64 k.2] 41)) W.heap.size k := World.alloc_heap_new W _
theorem KBoxed.kept {W W' : World} {row : Option Nat} {B : Nat} {k : K2} (h : KBoxed W B k) (hg : W.grownBy W' row) (hne : some B ≠ row) : KBoxed W' B k := (hg.block B h.lt hne).trans h
theorem KBoxed.alloc {W : World} {B : Nat} {k : K2} (h : KBoxed W B k) (o : Obj) : KBoxed (W.alloc o) B k := h.kept (World.grownBy_alloc W o none) (by simp)
theorem KBoxed.other {W : World} {B B' : Nat} {k : K2} (h : KBoxed W B k) (hne : B ≠ B') (u : Value) : KBoxed (W.setCell ⟨B', 0, none⟩ u) B k := h.kept (grownBy_setCell' W B' u) (fun e => hne (by cases e; rfl))
theorem KBoxed.load {w : World} {B : Nat} {k : K2} (h : KBoxed w B k) : (loadVar 41 ⟨B, 0, none⟩).run Try.prog w = .ok (kv k) w := key_load (o := 0) ⟨h.cell0, h.cell1⟩ h.lt (Below.refl _ _)
theorem set_cells {w : World} {B j : Nat} {cs : Array Value} {t : TypeId} (u : Value) (h : w.heap[B]? = some (.cells cs t (0, 0))) : (w.setCell ⟨B, j, none⟩ u).heap[B]? = some (.cells (cs.setIfInBounds j u) t (0, 0)) := by
  obtain ⟨hlt, hk⟩ := Array.getElem?_eq_some_iff.1 h
  show (w.heap.modify B _)[B]? = _
  rw [Array.getElem?_eq_getElem (by rw [Array.size_modify]; exact hlt), Array.getElem_modify_self, hk]
  rfl
theorem KBoxed.set {w : World} {B : Nat} {k : K2} (k' : K2) (h : KBoxed w B k) : KBoxed ((w.setCell ⟨B, 0, none⟩ (.int .i64 k'.1)).setCell ⟨B, 1, none⟩ (.int .i64 k'.2)) B k' :=
  set_cells _ (set_cells _ h)
end Go.Proofs.Ytnknfmjpkphbpaa
/- Two lists gone through, one inside the other: what comes of it (no program). -/
namespace Go.Proofs.Ytnknfmjpkphbpaa

/-- what of R stands ahead of x, and isn't it -/
def isBefore (x y : K2) : Bool := !aheadB x y && !(x == y)
def qOf (x : K2) (R : List K2) : List K2 := R.takeWhile (isBefore x)
def rOf (x : K2) (R : List K2) : List K2 := R.dropWhile (isBefore x)
/-- one round of the outer loop, on what is made and what is left -/
def tStep (both : Bool) (s : List K2 × List K2) (x : K2) : List K2 × List K2 :=
  match rOf x s.2 with
  | [] => (s.1 ++ qOf x s.2 ++ [x], [])
  | y :: r => if aheadB x y then (s.1 ++ qOf x s.2 ++ [x], y :: r) else (s.1 ++ qOf x s.2 ++ (if both then [x] else []), r)
def tFold (both : Bool) (B A : List K2) : List K2 × List K2 := A.foldl (tStep both) ([], B)
theorem tFold_snoc (both : Bool) (B pre : List K2) (x : K2) : tFold both B (pre ++ [x]) = tStep both (tFold both B pre) x := by
  simp [tFold, List.foldl_append]
theorem merge_round (both : Bool) (x : K2) (A : List K2) : ∀ (R : List K2), mergeL both (x :: A) R = (tStep both ([], R) x).1 ++ mergeL both A (tStep both ([], R) x).2
  | [] => by simp [tStep, qOf, rOf, mergeL_nil_r]
  | y :: R => by
    rw [mergeL_cons]
    by_cases h1 : aheadB x y = true
    · rw [if_pos h1]
      simp [tStep, qOf, rOf, List.takeWhile_cons, List.dropWhile_cons, isBefore, h1]
    · rw [if_neg h1]
      have h1' := Bool.eq_false_iff.2 h1
      by_cases h2 : x = y
      · subst h2
        rw [if_neg h1]
        simp [tStep, qOf, rOf, List.takeWhile_cons, List.dropWhile_cons, isBefore, h1']
      · have h3 : aheadB y x = true := by
          cases h : aheadB y x with
          | true => rfl
          | false => exact absurd (ahead_total h1' h) h2
        rw [if_pos h3, merge_round both x A R]
        have hb : isBefore x y = true := by simp [isBefore, h1', h2]
        have e1 : qOf x (y :: R) = y :: qOf x R := by simp [qOf, List.takeWhile_cons, hb]
        have e2 : rOf x (y :: R) = rOf x R := by simp [rOf, List.dropWhile_cons, hb]
        unfold tStep
        simp only [e1, e2]
        cases rOf x R with
        | nil => simp
        | cons z r => by_cases h4 : aheadB x z = true <;> simp [h4]
theorem tStep_out (both : Bool) (L R : List K2) (x : K2) : tStep both (L, R) x = (L ++ (tStep both ([], R) x).1, (tStep both ([], R) x).2) := by
  unfold tStep
  dsimp only
  cases rOf x R with
  | nil => simp
  | cons z r => by_cases h4 : aheadB x z = true <;> simp [h4]
theorem fold_merge (both : Bool) : ∀ (A L R : List K2), (A.foldl (tStep both) (L, R)).1 ++ (A.foldl (tStep both) (L, R)).2 = L ++ mergeL both A R
  | [], L, R => by simp [mergeL_nil_l]
  | x :: A, L, R => by
    rw [List.foldl_cons, merge_round, tStep_out, fold_merge both A]
    simp
/-- all rounds over: what was made, and what is left -/
theorem tFold_merge (both : Bool) (A B : List K2) : (tFold both B A).1 ++ (tFold both B A).2 = mergeL both A B := by
  have := fold_merge both A [] B
  simpa [tFold] using this
theorem dropWhile_len {α : Type} (p : α → Bool) (l : List α) : (l.dropWhile p).length ≤ l.length := (List.dropWhile_suffix p).length_le
theorem tFold_len (both : Bool) (B : List K2) (A : List K2) : (tFold both B A).1.length + (tFold both B A).2.length ≤ A.length + B.length := by
  have h := congrArg List.length (tFold_merge both A B)
  rw [List.length_append] at h
  have := mergeL_len both A B
  omega
/-- a round that left at y, q having passed -/
theorem tStep_at {both : Bool} {L q R : List K2} {x y : K2} (hq : ∀ z ∈ q, isBefore x z = true) (hy : isBefore x y = false) :
    tStep both (L, q ++ y :: R) x = if aheadB x y then (L ++ q ++ [x], y :: R) else (L ++ q ++ (if both then [x] else []), R) := by
  have e1 : qOf x (q ++ y :: R) = q := by
    unfold qOf
    rw [List.takeWhile_append_of_pos hq, List.takeWhile_cons, hy]
    simp
  have e2 : rOf x (q ++ y :: R) = y :: R := by
    unfold rOf
    rw [List.dropWhile_append_of_pos hq, List.dropWhile_cons, hy]
    simp
  unfold tStep
  dsimp only
  rw [e1, e2]
theorem takeWhile_all {α : Type} (p : α → Bool) : ∀ (l : List α), (∀ z ∈ l, p z = true) → l.takeWhile p = l ∧ l.dropWhile p = []
  | [], _ => ⟨rfl, rfl⟩
  | a :: l, h => by
    have h1 := h a (by simp)
    have h2 := takeWhile_all p l (fun z hz => h z (by simp [hz]))
    simp [List.takeWhile_cons, List.dropWhile_cons, h1, h2.1, h2.2]
theorem tStep_end {both : Bool} {L q : List K2} {x : K2} (hq : ∀ z ∈ q, isBefore x z = true) : tStep both (L, q) x = (L ++ q ++ [x], []) := by
  have e1 : qOf x q = q := (takeWhile_all _ q hq).1
  have e2 : rOf x q = [] := (takeWhile_all _ q hq).2
  unfold tStep
  dsimp only
  rw [e1, e2]
end Go.Proofs.Ytnknfmjpkphbpaa
/- A box that holds a key; a box that holds a value of which something is said. -/
namespace Go.Proofs.Ytnknfmjpkphbpaa
open Go.RowKit Go.Shelf
set_option linter.unusedVariables false

theorem kboxed_own {β : Type} (B : Nat) (k : K2) : Own (fun (_ : β) W => KBoxed W B k) := by
  intro s X Y row h hg hr
  refine KBoxed.kept h hg (fun e => ?_)
  obtain ⟨o, ho, hc⟩ := hr B e.symm
  rw [show X.heap[B]? = _ from h] at ho; cases ho; cases hc
theorem boxG_own {β : Type} (B : Nat) (t : TypeId) (G : β → Value → Prop) : Own (fun (s : β) W => ∃ v, Boxed W B t v ∧ G s v) := by
  rintro s X Y row ⟨v, h, hG⟩ hg hr
  refine ⟨v, h.kept hg (fun e => ?_), hG⟩
  obtain ⟨o, ho, hc⟩ := hr B e.symm
  rw [show X.heap[B]? = _ from h] at ho; cases ho; cases hc
theorem boxed_uniq {W : World} {B : Nat} {t : TypeId} {v v' : Value} (h : Boxed W B t v) (h' : Boxed W B t v') : v = v' := by
  have := h.cell.symm.trans h'.cell
  exact Option.some.inj this
/-- what the inner rounds left behind, the last one having left -/
def inOut (sh : Bool) (L R : List K2) (x : K2) (pre : List K2) : List K2 × List K2 :=
  if aheadB x (pre.getLastD (0, 0)) then (L ++ pre.dropLast ++ [x], R.drop pre.dropLast.length) else (L ++ pre.dropLast ++ (if sh then [x] else []), R.drop (pre.dropLast.length + 1))
theorem inOut_at (sh : Bool) (L R : List K2) (x : K2) (q : List K2) (y : K2) : inOut sh L R x (q ++ [y]) =
    if aheadB x y then (L ++ q ++ [x], R.drop q.length) else (L ++ q ++ (if sh then [x] else []), R.drop (q.length + 1)) := by
  unfold inOut
  rw [List.dropLast_concat, show (q ++ [y]).getLastD (0, 0) = y by simp [List.getLastD_eq_getLast?]]
theorem inOut_step {sh : Bool} {L R : List K2} {x : K2} {pre : List K2} (hp : pre <+: R) (hn : pre ≠ []) (hq : ∀ z ∈ pre.dropLast, isBefore x z = true) (hy : isBefore x (pre.getLastD (0, 0)) = false) :
    inOut sh L R x pre = tStep sh (L, R) x := by
  obtain ⟨r, rfl⟩ := hp
  obtain ⟨q, y, rfl⟩ : ∃ q y, pre = q ++ [y] := ⟨pre.dropLast, pre.getLast hn, (List.dropLast_concat_getLast hn).symm⟩
  rw [List.dropLast_concat] at hq
  rw [show (q ++ [y]).getLastD (0, 0) = y by simp [List.getLastD_eq_getLast?]] at hy
  rw [inOut_at, show q ++ [y] ++ r = q ++ y :: r by simp, tStep_at hq hy]
  have e1 : (q ++ y :: r).drop q.length = y :: r := by simp
  have e2 : (q ++ y :: r).drop (q.length + 1) = r := by rw [← List.drop_drop, e1]; rfl
  rw [e1, e2]
theorem inOut_len (sh : Bool) (L R : List K2) (x : K2) (pre : List K2) (hn : pre ≠ []) : (inOut sh L R x pre).1.length ≤ L.length + pre.length := by
  obtain ⟨q, y, rfl⟩ : ∃ q y, pre = q ++ [y] := ⟨pre.dropLast, pre.getLast hn, (List.dropLast_concat_getLast hn).symm⟩
  rw [inOut_at]
  by_cases h : aheadB x y = true
  · rw [if_pos h]; simp
  · rw [if_neg h]; cases sh <;> simp
theorem isBefore_false_ahead {x y : K2} (h : aheadB x y = true) : isBefore x y = false := by simp [isBefore, h]
theorem isBefore_false_eq (x : K2) : isBefore x x = false := by simp [isBefore]
theorem isBefore_true {x y : K2} (h : aheadB x y = false) (h2 : (x == y) = false) : isBefore x y = true := by simp only [isBefore, h, h2]; rfl
/-- the slice value without its first key -/
theorem keysIn0_tail {n₀ : Nat} {w : World} {g off c : Nat} {k : K2} {r : List K2} (h : keysIn0 n₀ w (.slice (some ⟨g, off, none⟩) (r.length + 1) c) (k :: r)) (c' : Nat) (hc : r.length ≤ c') :
    keysIn0 n₀ w (.slice (some ⟨g, off + 2, none⟩) r.length c') r := by
  obtain ⟨a, cap, h1, h2, h3⟩ := h
  simp only [List.length_cons, Value.slice.injEq, true_and] at h1
  obtain ⟨rfl, rfl⟩ := h1
  obtain ⟨g2, off2, e, h4, h5, h6⟩ := h3.resolve_left (by simp)
  cases e
  refine ⟨_, c', rfl, hc, .inr ⟨g, off + 2, rfl, h4, h5, fun i hi => ?_⟩⟩
  have := h6 (i + 1) (by simp; omega)
  rw [show off + (i + 1) * 2 = off + 2 + i * 2 by omega] at this
  simpa using this
theorem keyCells_app (a b : List K2) : keyCells (a ++ b) = keyCells a ++ keyCells b := by simp [keyCells]
theorem wpListIn_append_none {F : Fence} {n : Nat} {P : Program} (w : World) {ops : Array Oper} {rest : List Oper} {o : Oper} {a : Act} {Q : Exit → Act → World → Prop}
    (hg : o.guard = none) (s x : Operand) (t : TypeId) (hop : o.op = Op.call { callee := Callee.builtin Builtin.append, args := #[s, x], argTypes := #[t, t] })
    (v u : Value) (hs : a.eval s = v) (hx : a.eval x = u) (hr : (Builtin.append_ #[t, t] o.type #[v, u]).run P w = .ok v w) (hK : wpListIn F n P ops Q rest (a.put o.dst v) w) : wpListIn F n P ops Q (o :: rest) a w := by
  refine wpListIn_plain hg fun K hK' => ?_
  unfold Oper.wpIn
  refine ⟨?_, ?_⟩
  · simp [Oper.about, hop, resolve, Target.leads, Sem.run_pure]
  · rw [Oper.semAt_plain F _ _ (by rw [hop]; intro c hc'; cases hc')]
    simp [execOp, hop, resolve, invoke, builtin, hs, hx, hr, Result.andThen]
    exact hK' _ _ hK
theorem addr_add (g off j : Nat) : (⟨g, off, none⟩ : Addr).add j = ⟨g, off + j, none⟩ := by
  unfold Addr.add
  split
  · rename_i h; simp [h]
  · rfl
theorem append_none {w : World} {base n : Nat} {v : Value} {xs : List Value} (h : w.ownsRow base 41 2 v n xs) (ar : Option Addr) (cr : Nat) (ty : TypeId) :
    (Builtin.append_ #[24, 24] ty #[v, .slice ar 0 cr]).run Try.prog w = .ok v w := by
  obtain ⟨i0, hi, hz0, hz1, hz2⟩ := info_parts infoK
  have u := Try.underlying24
  rcases h.2 with ⟨rfl, h0⟩ | ⟨g, cap, cur, rfl, _, _, hn, _⟩
  · cases ar <;> simp [Builtin.append_, run_underlying u, sizeOf, typeInfo, hi, storeCells, go_sem]
  · cases ar <;> simp [Builtin.append_, run_underlying u, sizeOf, typeInfo, hi, storeCells, hn, go_sem]
theorem keyCells_at {w : World} {g off : Nat} {ks : List K2} (h : ∀ i, i < ks.length → w.cell? ⟨g, off + i * 2, none⟩ = some (.int .i64 (ks.getD i (0, 0)).1) ∧ w.cell? ⟨g, off + i * 2 + 1, none⟩ = some (.int .i64 (ks.getD i (0, 0)).2)) :
    ∀ j u, (keyCells ks)[j]? = some u → w.cell? ((⟨g, off, none⟩ : Addr).add j) = some u := by
  intro j u hu
  have hj : j < ks.length * 2 := by rw [← keyCells_len]; exact (List.getElem?_eq_some_iff.1 hu).1
  have hc := keyCells_get ks (j / 2) (by omega)
  have hw := h (j / 2) (by omega)
  rcases (by omega : j = j / 2 * 2 ∨ j = j / 2 * 2 + 1) with e | e
  · rw [← e] at hc
    rw [show off + j / 2 * 2 = off + j by omega] at hw
    rw [hc.1] at hu; cases hu
    rw [addr_add]; exact hw.1
  · rw [← e] at hc
    rw [show off + j / 2 * 2 + 1 = off + j by omega] at hw
    rw [hc.2] at hu; cases hu
    rw [addr_add]; exact hw.2
theorem keyCells_one (ks : List K2) : ∀ u ∈ keyCells ks, u.oneCell' = true := by
  intro u hu
  simp only [keyCells, List.mem_flatMap, List.mem_cons, List.not_mem_nil, or_false] at hu
  obtain ⟨k, _, rfl | rfl⟩ := hu <;> rfl
theorem keysIn0_tail2 {n₀ : Nat} {w : World} {g o o' c : Nat} {k : K2} {r : List K2} (h : keysIn0 n₀ w (.slice (some ⟨g, o, none⟩) (r.length + 1) c) (k :: r)) (hc : r.length + 1 ≤ c) (ho : (c - 1 = 0 ∧ o' = o) ∨ o' = o + 2) :
    keysIn0 n₀ w (.slice (some ⟨g, o', none⟩) r.length (c - 1)) r := by
  rcases ho with ⟨h0, rfl⟩ | rfl
  · exact ⟨_, c - 1, rfl, by omega, .inl (by omega)⟩
  · exact keysIn0_tail h _ (by omega)
theorem slice_tail_run (g o n c : Nat) (hc : n + 1 ≤ c) (h63 : n ≤ 9000000) : ∃ o', ((c - 1 = 0 ∧ o' = o) ∨ o' = o + 2) ∧ ∀ w : World, (Instr.slice 24 (.slice (some ⟨g, o, none⟩) (n + 1) c) (some (.int .i64 1)) none none).run Try.prog w = .ok (.slice (some ⟨g, o', none⟩) n (c - 1)) w := by
  have u := Try.underlying24
  obtain ⟨i0, hi, hz0, hz1, hz2⟩ := info_parts infoK
  by_cases h : c = 1
  · subst h
    obtain rfl : n = 0 := by omega
    exact ⟨o, .inl ⟨rfl, rfl⟩, fun w => by go_simp⟩
  · refine ⟨o + 2, .inr rfl, fun w => ?_⟩
    have h1 : ¬ c - 1 = 0 := by omega
    have h2 : (1 : Int) ≤ (n : Int) + 1 := by omega
    have h3 : (n : Int) + 1 ≤ (c : Int) := by omega
    go_simp
theorem boxed_app {W w1 : World} {n₀ B B' : Nat} {t e : TypeId} {size : Nat} {u v : Value} {k : Nat} {xs : List Value} {tmp : Obj} (h : Boxed W B' t u) (hte : t ≠ e) (hrow : W.ownsRow n₀ e size v k xs)
    (hgrow : (W.alloc tmp).grownBy w1 v.ownBlock) (hne : B' ≠ B) (u' : Value) : Boxed (w1.setCell ⟨B, 0, none⟩ u') B' t u :=
  ((h.alloc tmp).kept hgrow (h.not_row hte hrow)).other hne u'
theorem kboxed_app {W w1 : World} {B B' : Nat} {v : Value} {k : K2} {tmp : Obj} (h : KBoxed W B' k) (hnr : v.ownBlock ≠ some B')
    (hgrow : (W.alloc tmp).grownBy w1 v.ownBlock) (hne : B' ≠ B) (u' : Value) : KBoxed (w1.setCell ⟨B, 0, none⟩ u') B' k :=
  ((h.alloc tmp).kept hgrow (fun e => hnr e.symm)).other hne u'
end Go.Proofs.Ytnknfmjpkphbpaa
