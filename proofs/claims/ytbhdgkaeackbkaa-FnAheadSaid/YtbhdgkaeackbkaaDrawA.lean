/- Two keys drawn: DrawAhead. -/
import Derived.Test.YtbhdgkaeackbkaaDrawM
import Derived.Test.YtbhdgkaeackbkaaKeyV
import Derived.Test.YtbhdgkaeackbkaaSegs
namespace Go.Proofs.Ytbhdgkaeackbkaa
open Go.ChangeShapes Go.WideShapes Go.ChangeAt Go.RowKit Go.BigFrame
set_option linter.unusedVariables false

theorem KBoxed.load {w : World} {B : Nat} {k : K2} (h : KBoxed w B k) : (loadVar 25 ⟨B, 0, none⟩).run Try.prog w = .ok (kv k) w := key_load (o := 0) ⟨h.cell0, h.cell1⟩ h.lt (Below.refl _ _)
theorem set_cells {w : World} {B j : Nat} {cs : Array Value} {t : TypeId} (u : Value) (h : w.heap[B]? = some (.cells cs t (0, 0))) : (w.setCell ⟨B, j, none⟩ u).heap[B]? = some (.cells (cs.setIfInBounds j u) t (0, 0)) := by
  obtain ⟨hlt, hk⟩ := Array.getElem?_eq_some_iff.1 h
  show (w.heap.modify B _)[B]? = _
  rw [Array.getElem?_eq_getElem (by rw [Array.size_modify]; exact hlt), Array.getElem_modify_self, hk]
  rfl
theorem KBoxed.set {w : World} {B : Nat} {k : K2} (k' : K2) (h : KBoxed w B k) : KBoxed ((w.setCell ⟨B, 0, none⟩ (.int .i64 k'.1)).setCell ⟨B, 1, none⟩ (.int .i64 k'.2)) B k' :=
  set_cells _ (set_cells _ h)
set_option maxRecDepth 100000 in
set_option maxHeartbeats 1000000 in
theorem drawahead_any (n₀ len cap : Nat) (a : Option Addr) (zs : List Int) (w : World) (hc : CodeAt n₀ w a len zs) (hw : n₀ ≤ w.heap.size) :
    Calls Try.prog 13 #[.slice a len cap] w fun e w' => ∃ j k : K2, e = .returned (.tuple #[kv j, kv k]) ∧ Below w.heap.size w w' := by
  have hb00 := Below.refl n₀ w
  have hW0 : Below n₀ w ((w.alloc (.cells #[.int .i64 0, .int .i64 0] 25)).alloc (.cells #[.int .i64 0, .int .i64 0] 25)) := (hb00.alloc (by omega) _).alloc (by simp; omega) _
  have hsz0 : ((w.alloc (.cells #[.int .i64 0, .int .i64 0] 25)).alloc (.cells #[.int .i64 0, .int .i64 0] 25)).heap.size = w.heap.size + 2 := by simp
  have H1 := Lib.hid (new_any n₀ len cap a zs ((w.alloc (.cells #[.int .i64 0, .int .i64 0] 25)).alloc (.cells #[.int .i64 0, .int .i64 0] 25)) (hc.below hW0) (by omega)); clear hc hW0 hb00
  have hq1 : KBoxed ((w.alloc (.cells #[.int .i64 0, .int .i64 0] 25)).alloc (.cells #[.int .i64 0, .int .i64 0] 25)) w.heap.size (0, 0) := (KBoxed.new w (0, 0)).alloc _
  have hq2 : KBoxed ((w.alloc (.cells #[.int .i64 0, .int .i64 0] 25)).alloc (.cells #[.int .i64 0, .int .i64 0] 25)) (w.heap.size + 1) (0, 0) := by
    have := KBoxed.new (w.alloc (.cells #[.int .i64 0, .int .i64 0] 25)) (0, 0)
    rwa [World.size_alloc] at this
  have hBW : Below w.heap.size w ((w.alloc (.cells #[.int .i64 0, .int .i64 0] 25)).alloc (.cells #[.int .i64 0, .int .i64 0] 25)) := ((Below.refl _ _).alloc (Nat.le_refl _) _).alloc (by simp) _
  go_enter Try.func13, Try.ntmps13
  go_wp2_with fail
  generalize ((w.alloc (.cells #[.int .i64 0, .int .i64 0] 25)).alloc (.cells #[.int .i64 0, .int .i64 0] 25)) = W at *
  refine H1.out.mono ?_
  clear H1
  rintro e w1 ⟨g, rfl, hg, hst, hb0, hgr0⟩
  have ha1 := hq1.kept hgr0 (by simp)
  have ha2 := hq2.kept hgr0 (by simp)
  go_wp2_with fail
  refine (key_any n₀ g len cap a zs (newC zs len) w1 hst).mono ?_
  rintro e w2 ⟨⟨p, q⟩, c1, rfl, -, hd⟩
  have he1 := ha1.kept hd.grown (fun e => by cases e; omega)
  have he2 := ha2.kept hd.grown (fun e => by cases e; omega)
  have hgl := hst.lt
  have hN2 := hBW.trans ((new_below hgr0 hg hd.grown).mono (by omega))
  have hsz2 := hN2.size
  have hW1 := hgr0.size
  have hW2 := hd.grown.size
  have hd3 := hd.alloc (.cells #[.int .i64 p, .int .i64 q] 25)
  have hb3 := KBoxed.new w2 (p, q)
  have hr1 := he1.alloc (.cells #[.int .i64 p, .int .i64 q] 25)
  have hr2 := he2.alloc (.cells #[.int .i64 p, .int .i64 q] 25)
  have hN3 := hN2.alloc hN2.size (.cells #[.int .i64 p, .int .i64 q] 25)
  clear ha1 ha2 he1 he2 hd
  have hsz3 : (w2.alloc (.cells #[.int .i64 p, .int .i64 q] 25)).heap.size = w2.heap.size + 1 := by simp
  clear hq1 hq2 hN2
  unfold kv at *
  dsimp only at *
  go_wp2_with fail
  generalize w2.alloc (.cells #[.int .i64 p, .int .i64 q] 25) = W3 at *
  have L1 : ∀ w', KBoxed w' w2.heap.size (p, q) → (loadVar 25 ⟨w2.heap.size, 0, none⟩).run Try.prog w' = .ok (.agg #[.int .i64 p, .int .i64 q]) w' := fun w' h => h.load
  refine wp_region_segs [([true, true], 2), ([], 3), ([], 4)] [] (fun w' => KBoxed w' w2.heap.size (p, q)) (by kernel_rfl) (by kernel_rfl) (by kernel_rfl) (by intro c a d v w h; cases d <;> exact h) hb3 ?_
  rw [wpSegs]
  try simp only [maskRows]
  repeat (first
    | go_big_quiet_skip
    | (go_big_quiet_want
       first
         | (go_big_quiet_op; go_big_quiet_on)
         | (refine q_load 25 _ _ _ rfl rfl L1 ?_; simp only [Act.put, List.setIfInBounds_toArray, List.set_cons_zero, List.set_cons_succ]; go_big_quiet_on)
         | (go_big_quiet_op; refine ⟨_, fun _ _ => rfl, ?_⟩; go_big_quiet_on)
         | (go_big_quiet_op; go_big_quiet_on)))
  refine wpQuiet_nil ?_
  have hdr : W3.grownBy W3.drew none := ⟨rfl, rfl, rfl, Nat.le_refl _, fun _ _ _ => rfl⟩
  have hst3 := (hd3.grow (by omega) hdr (fun b e => by cases e)).st
  refine seg_run rfl (by rfl) (fun K hK => ?_)
  go_simp
  refine (key_any n₀ g len cap a zs c1 W3.drew hst3).mono ?_
  rintro e w4 ⟨⟨p2, q2⟩, c2, rfl, -, hd4⟩
  have hg4 := grownT (row := some g) ⟨hdr.os, hdr.tape, hdr.output, hdr.size, fun j hj _ => hdr.block j hj (by simp)⟩ hd4.grown
  have hb4 := hb3.kept hg4 (fun e => by cases e; omega)
  have hr41 := hr1.kept hg4 (fun e => by cases e; omega)
  have hr42 := hr2.kept hg4 (fun e => by cases e; omega)
  have hN4 := Lib.hid (hN3.grown hg4 hN3.size (fun k e => by cases e; omega))
  obtain ⟨s1, s2, s3, s4, s5, s6⟩ := two_set (.int .i64 0) (.int .i64 0) (.int .i64 p) (.int .i64 q) hr41
  have S56 := Lib.hid (And.intro s5 s6)
  clear s5 s6 hg4 hdr hst3 hd3 hst hgr0 hb0 hN3 hr1 hr2 hb3 hBW hd4
  unfold kv at *
  dsimp only at *
  refine hK _ _ ⟨_, fun _ h => h, hb4, ?_⟩
  clear hK K
  try simp only [Act.put, List.setIfInBounds_toArray, List.set_cons_zero, List.set_cons_succ]
  rw [wpSegs]
  try simp only [maskRows]
  refine wpQuiet_nil ?_
  refine seg_run rfl (by rfl) (fun K hK => ?_)
  go_simp
  have hW5 : KBoxed ((w4.setCell ⟨w.heap.size, 0, none⟩ (.int .i64 p)).setCell ⟨w.heap.size, 1, none⟩ (.int .i64 q)) w2.heap.size (p, q) := hb4.kept (grown_two w4 w.heap.size (.int .i64 p) (.int .i64 q)) (fun e => by have := Option.some.inj e; omega)
  have hr51 := hr41.set (p, q)
  have hr52 := hr42.kept (grown_two w4 w.heap.size (.int .i64 p) (.int .i64 q)) (fun e => by have := Option.some.inj e; omega)
  have hN5 := Lib.hid ((hN4.out.setCell (p := ⟨w.heap.size, 0, none⟩) (Nat.le_refl _) (.int .i64 p)).setCell (p := ⟨w.heap.size, 1, none⟩) (Nat.le_refl _) (.int .i64 q))
  clear hb4 hr41 hr42 s1 s2 s3 s4 S56
  dsimp only at hr51
  generalize ((w4.setCell ⟨w.heap.size, 0, none⟩ (.int .i64 p)).setCell ⟨w.heap.size, 1, none⟩ (.int .i64 q)) = w5 at *
  obtain ⟨t1, t2, t3, t4, -, -⟩ := two_set (.int .i64 0) (.int .i64 0) (.int .i64 p2) (.int .i64 q2) hr52
  refine hK _ _ ⟨_, fun _ h => h, hW5, ?_⟩
  clear hK K
  try simp only [Act.put, List.setIfInBounds_toArray, List.set_cons_zero, List.set_cons_succ]
  rw [wpSegs]
  try simp only [maskRows]
  refine wpQuiet_nil ?_
  refine seg_run rfl (by rfl) (fun K hK => ?_)
  go_simp
  have hr61 := hr51.kept (grown_two w5 (w.heap.size + 1) (.int .i64 p2) (.int .i64 q2)) (fun e => by have := Option.some.inj e; omega)
  have hr62 := hr52.set (p2, q2)
  have hW6 := hW5.kept (grown_two w5 (w.heap.size + 1) (.int .i64 p2) (.int .i64 q2)) (fun e => by have := Option.some.inj e; omega)
  have hN6 := Lib.hid ((hN5.out.setCell (p := ⟨w.heap.size + 1, 0, none⟩) (by simp only []; omega) (.int .i64 p2)).setCell (p := ⟨w.heap.size + 1, 1, none⟩) (by simp only []; omega) (.int .i64 q2))
  clear hr51 hr52 hW5 t1 t2 t3 t4
  dsimp only at hr62
  generalize ((w5.setCell ⟨w.heap.size + 1, 0, none⟩ (.int .i64 p2)).setCell ⟨w.heap.size + 1, 1, none⟩ (.int .i64 q2)) = w6 at *
  refine hK _ _ ⟨_, fun _ h => h, hW6, ?_⟩
  clear hK K
  try simp only [Act.put, List.setIfInBounds_toArray, List.set_cons_zero, List.set_cons_succ]
  rw [wpSegs]
  try simp only [maskRows]
  refine wpQuiet_nil ?_
  go_wp2
  refine bodyPost_ret (v := .tuple #[kv (p, q), kv (p2, q2)]) ?_ rfl ⟨(p, q), (p2, q2), rfl, hN6.out⟩
  rw [results_cell_cell (p := 2) (q := 3) (ty := 25) (tz := 25) (by kernel_rfl)]
  have hl1 := hr61.load
  have hl2 := hr62.load
  simp [asAddr, Result.andThen, hl1, hl2]
end Go.Proofs.Ytbhdgkaeackbkaa
