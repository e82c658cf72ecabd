/- Chapter 4's exact laws on texts, walked. -/
import Derived.Test.YtbkeggklfaepnaaDoorRdRr
import Derived.Test.YtbkeggklfaepnaaDoorRdQ0
import Derived.Test.YtbkeggklfaepnaaDoorRdT0
import Derived.Test.YtbkeggklfaepnaaDoorRdZ0
namespace Go.Proofs.YtbkeggklfaepnaaDoor
open Go.ChangeShapes Go.WideShapes Go.ChangeAt Go.RowKit Go.BigFrame
set_option linter.unusedVariables false

theorem box3 {W w' : World} {b : Nat} {p q : Int} {y : ByteArray} {T : TypeId} (h : W.heap[b]? = some (.cells #[.int .i64 p, .int .i64 q, .string y] T)) (hb : Below W.heap.size W w') :
    w'.cell? ⟨b, 0, none⟩ = some (.int .i64 p) ∧ w'.cell? ⟨b, 1, none⟩ = some (.int .i64 q) ∧ w'.cell? ⟨b, 2, none⟩ = some (.string y) := by
  have h1 := (hb.block _ (Array.getElem?_eq_some_iff.1 h).1).trans h
  exact ⟨by rw [cell_of_row _ _ 0 _ _ _ h1]; rfl, by rw [cell_of_row _ _ 1 _ _ _ h1]; rfl, by rw [cell_of_row _ _ 2 _ _ _ h1]; rfl⟩
set_option maxRecDepth 100000 in
set_option maxHeartbeats 1000000 in
theorem exreadingtext_walk (r : R3) (w : World) (hx : r.2.size ≤ maxLen) (hT : Lib.TabIs Tryd.prog w "internal/strconv.uint64pow10" IntKind.u64 Lib.pow10Tab) : Calls Tryd.prog 4 #[rv r] w fun e w' => e = .returned (.bool true) ∧ Below w.heap.size w w' := by
  unfold maxLen at hx
  have SZ := Lib.hid (fun w => szreading_any r 1048576 w (by omega) hx)
  have TR := Lib.hid (fun w => toreading_any r w)
  have SR := Lib.hid (fun w => sreadingtext_any r w)
  have IR := Lib.hid (fun w' (hb : Below w.heap.size w w') => ireadingtext_any r w' (tab_below hT hb))
  generalize rtB r = B at *
  clear hT
  have e1 : (B.toList == B.toList) = true := beq_self_eq_true _
  obtain ⟨⟨n, s⟩, y⟩ := r
  unfold rv at *
  dsimp only at *
  have HX := Lib.hid (heap_alloc_new w (.cells #[.int .i64 n, .int .i64 s, .string y] 36))
  have HW := Lib.hid ((Below.refl w.heap.size w).alloc (Nat.le_refl _) (.cells #[.int .i64 n, .int .i64 s, .string y] 36))
  go_enter Tryd.func4, Tryd.ntmps4
  go_wp2_with fail
  refine (SZ.out _).mono ?_
  rintro e w1 ⟨rfl, hb1⟩
  have HB1 := Lib.hid hb1
  by_cases hn : 1048576 - (y.size : Int) < 0
  · rw [if_pos hn]
    clear hb1
    go_wp2
    go_ret
    exact ⟨rfl, HW.out.trans (HB1.out.mono HW.out.size)⟩
  · rw [if_neg hn]
    obtain ⟨x0, x1, x2⟩ := box3 HX.out HB1.out
    clear SZ hb1
    go_wp2_with fail
    refine (TR.out _).mono ?_
    rintro e w2 ⟨rfl, hb2⟩
    have HB2 := Lib.hid (HB1.out.trans (hb2.mono HB1.out.size))
    clear x0 x1 x2 hb2
    go_wp2_with fail
    refine (SR.out _).mono ?_
    rintro e w3 ⟨rfl, hb3⟩
    have HB3 := Lib.hid (HB2.out.trans (hb3.mono HB2.out.size))
    obtain ⟨x0, x1, x2⟩ := box3 HX.out HB3.out
    clear hb3 HB1 HB2
    go_wp2_with fail
    refine (TR.out _).mono ?_
    rintro e w4 ⟨rfl, hb4⟩
    have HB4 := Lib.hid (HB3.out.trans (hb4.mono HB3.out.size))
    clear hb4 x0 x1 x2
    go_wp2_with fail
    refine (IR.out _ (HW.out.trans (HB4.out.mono HW.out.size))).mono ?_
    rintro e w5 ⟨rfl, hb5⟩
    have HB5 := Lib.hid (HB4.out.trans (hb5.mono HB4.out.size))
    clear hb5 SR TR IR
    go_wp2
    go_ret
    exact ⟨rfl, HW.out.trans (HB5.out.mono HW.out.size)⟩
set_option maxRecDepth 100000 in
set_option maxHeartbeats 1000000 in
theorem exreadreading_walk (s : ByteArray) (w : World) (hs63 : s.size ≤ maxLen) (hV : ∀ w', Below w.heap.size w w' → DecVars w') (hM : MLen w) :
    Calls Tryd.prog 5 #[.string s] w fun e w' => e = .returned (.bool true) ∧ Below w.heap.size w w' := by
  unfold maxLen at hs63
  by_cases hl : s.size ≤ 1048576
  · have n0 : ¬ (1048576 : Int) < (s.size : Int) := by omega
    have HS := sreadreading_any s w (by omega)
    rw [rr_same] at HS
    have HI := Lib.hid (fun w' (h : Below w.heap.size w w') => ireadreading_any s w' (by omega) (fun w2 h2 => hV w2 (h.trans (h2.mono h.size))) (hM.below h))
    clear hV hM
    unfold rdT at *
    generalize (rrI s).getD ((0, 0), ⟨#[]⟩) = r at *
    generalize (rrI s).isSome = b at *
    have HE := fun w => eqreading_any r r w
    rw [show decide (r = r) = true from decide_eq_true rfl] at HE
    have HE := Lib.hid HE
    obtain ⟨⟨p, q⟩, y⟩ := r
    unfold rv at *
    dsimp only at *
    have HS := Lib.hid HS
    go_enter Tryd.func5, Tryd.ntmps5
    go_wp2_with fail
    refine HS.out.mono ?_
    rintro e w1 ⟨rfl, hb1⟩
    have HB1 := Lib.hid (hb1.alloc hb1.size (.cells #[.int .i64 p, .int .i64 q, .string y] 27))
    have HX1 := Lib.hid (heap_alloc_new w1 (.cells #[.int .i64 p, .int .i64 q, .string y] 27))
    clear hb1 HS
    go_wp2_with fail
    refine (HI.out _ HB1.out).mono ?_
    rintro e w2 ⟨rfl, hb2⟩
    have hb2' := HB1.out.trans (hb2.mono HB1.out.size)
    have hx2 := (hb2.block _ (Array.getElem?_eq_some_iff.1 HX1.out).1).trans HX1.out
    have HB2 := Lib.hid (hb2'.alloc hb2'.size (.cells #[.int .i64 p, .int .i64 q, .string y] 27))
    have x0 : w2.cell? ⟨w1.heap.size, 0, none⟩ = some (.int .i64 p) := by rw [cell_of_row _ _ 0 _ _ _ hx2]; rfl
    have x1 : w2.cell? ⟨w1.heap.size, 1, none⟩ = some (.int .i64 q) := by rw [cell_of_row _ _ 1 _ _ _ hx2]; rfl
    have x2 : w2.cell? ⟨w1.heap.size, 2, none⟩ = some (.string y) := by rw [cell_of_row _ _ 2 _ _ _ hx2]; rfl
    have hlt : w1.heap.size < w2.heap.size := (Array.getElem?_eq_some_iff.1 hx2).1
    clear hb2 hb2' hx2 HI HB1 HX1
    have ebb : (b != b) = false := by cases b <;> rfl
    have ebb2 : (b == b) = true := by cases b <;> rfl
    go_wp2_with fail
    refine (HE.out _).mono ?_
    rintro e w3 ⟨rfl, hb3⟩
    have HB3 := Lib.hid (HB2.out.trans (hb3.mono HB2.out.size))
    clear hb3
    go_wp2
    go_ret
    exact ⟨rfl, HB3.out⟩
  · have n0 : (1048576 : Int) < (s.size : Int) := by omega
    clear hV hM
    go_enter Tryd.func5, Tryd.ntmps5
    go_wp2
    go_ret
    exact ⟨rfl, Below.refl _ _⟩
end Go.Proofs.YtbkeggklfaepnaaDoor
