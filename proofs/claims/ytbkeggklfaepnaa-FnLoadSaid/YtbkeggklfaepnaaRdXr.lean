/- Chapter 4's exact laws but for Learn's, walked. -/
import Derived.Test.YtbkeggklfaepnaaRdJ
import Derived.Test.YtbkeggklfaepnaaRdH
import Derived.Test.YtbkeggklfaepnaaRdQ
import Derived.Test.YtbkeggklfaepnaaRdT
import Derived.Test.YtbkeggklfaepnaaRdZ
namespace Go.Proofs.Ytbkeggklfaepnaa
open Go.ChangeShapes Go.WideShapes Go.ChangeAt Go.RowKit Go.BigFrame
set_option linter.unusedVariables false

theorem box3 {W w' : World} {b : Nat} {p q : Int} {y : ByteArray} {T : TypeId} (h : W.heap[b]? = some (.cells #[.int .i64 p, .int .i64 q, .string y] T)) (hb : Below W.heap.size W w') :
    w'.cell? ⟨b, 0, none⟩ = some (.int .i64 p) ∧ w'.cell? ⟨b, 1, none⟩ = some (.int .i64 q) ∧ w'.cell? ⟨b, 2, none⟩ = some (.string y) := by
  have h1 := (hb.block _ (Array.getElem?_eq_some_iff.1 h).1).trans h
  exact ⟨by rw [cell_of_row _ _ 0 _ _ _ h1]; rfl, by rw [cell_of_row _ _ 1 _ _ _ h1]; rfl, by rw [cell_of_row _ _ 2 _ _ _ h1]; rfl⟩
theorem box2 {W w' : World} {b : Nat} {p q : Int} {T : TypeId} (h : W.heap[b]? = some (.cells #[.int .i64 p, .int .i64 q] T)) (hb : Below W.heap.size W w') :
    w'.cell? ⟨b, 0, none⟩ = some (.int .i64 p) ∧ w'.cell? ⟨b, 1, none⟩ = some (.int .i64 q) := by
  have h1 := (hb.block _ (Array.getElem?_eq_some_iff.1 h).1).trans h
  exact ⟨by rw [cell_of_row _ _ 0 _ _ _ h1]; rfl, by rw [cell_of_row _ _ 1 _ _ _ h1]; rfl⟩
theorem eqrds_self (va vb : Value) (A : List R3) (w : World) (ha : rdAt w va A) (hb : rdAt w vb A) (hs : A.length ≤ 4000000) : Calls Try.prog 27 #[va, vb] w fun e w' => e = .returned (.bool true) ∧ Below w.heap.size w w' := by
  have h := eqreadings_any va vb A A w ha hb hs hs
  rw [show decide (A = A) = true from decide_eq_true rfl] at h
  exact h
set_option maxRecDepth 100000 in
set_option maxHeartbeats 1000000 in
theorem exreadingok_walk (r : R3) (w : World) (hx : r.2.size ≤ maxLen) : Calls Try.prog 5 #[rv r] w fun e w' => e = .returned (.bool true) ∧ Below w.heap.size w w' := by
  unfold maxLen at hx
  have SZ := Lib.hid (fun w => szreading_any r 1048576 w (by omega) hx)
  have TR := Lib.hid (fun w => toreading_any r w)
  have SR := Lib.hid (fun w => sreadingok_any r w)
  have IR := Lib.hid (fun w => ireadingok_any r w)
  generalize rdOkB r = B at *
  obtain ⟨⟨n, s⟩, y⟩ := r
  unfold rv at *
  dsimp only at *
  have HX := Lib.hid (heap_alloc_new w (.cells #[.int .i64 n, .int .i64 s, .string y] 42))
  have HW := Lib.hid ((Below.refl w.heap.size w).alloc (Nat.le_refl _) (.cells #[.int .i64 n, .int .i64 s, .string y] 42))
  go_enter Try.func5, Try.ntmps5
  go_wp2_with fail
  refine (SZ.out _).mono ?_
  rintro e w1 ⟨rfl, hb1⟩
  have HB1 := Lib.hid hb1
  by_cases hn : 1048576 - (y.size : Int) < 0
  · rw [if_pos hn]
    clear hb1
    go_wp2
    go_ret
    exact ⟨rfl, HW.out.trans (HB1.out.mono HW.out.size)⟩
  · rw [if_neg hn]
    obtain ⟨x0, x1, x2⟩ := box3 HX.out HB1.out
    clear SZ hb1
    go_wp2_with fail
    refine (TR.out _).mono ?_
    rintro e w2 ⟨rfl, hb2⟩
    have HB2 := Lib.hid (HB1.out.trans (hb2.mono HB1.out.size))
    clear x0 x1 x2 hb2
    go_wp2_with fail
    refine (SR.out _).mono ?_
    rintro e w3 ⟨rfl, hb3⟩
    have HB3 := Lib.hid (HB2.out.trans (hb3.mono HB2.out.size))
    obtain ⟨x0, x1, x2⟩ := box3 HX.out HB3.out
    clear hb3 HB1 HB2
    go_wp2_with fail
    refine (TR.out _).mono ?_
    rintro e w4 ⟨rfl, hb4⟩
    have HB4 := Lib.hid (HB3.out.trans (hb4.mono HB3.out.size))
    clear hb4 x0 x1 x2
    go_wp2_with fail
    refine (IR.out _).mono ?_
    rintro e w5 ⟨rfl, hb5⟩
    have HB5 := Lib.hid (HB4.out.trans (hb5.mono HB4.out.size))
    clear hb5 SR TR IR
    cases B
    · go_wp2
      go_ret
      exact ⟨rfl, HW.out.trans (HB5.out.mono HW.out.size)⟩
    · go_wp2
      go_ret
      exact ⟨rfl, HW.out.trans (HB5.out.mono HW.out.size)⟩
theorem rd_sizes {rs : List R3} {m : Nat} (h : ∀ j, j < rs.length → ((rs.getD j r0).2.size : Int) ≤ m) : ∀ r ∈ rs, r.2.size ≤ m := by
  intro r hr
  obtain ⟨i, hi, rfl⟩ := List.getElem_of_mem hr
  have := h i hi
  simp [List.getD, hi] at this
  exact this
set_option maxRecDepth 100000 in
set_option maxHeartbeats 1000000 in
theorem exreadingsok_walk (v : Value) (rs : List R3) (w : World) (h : rdAt w v rs) (hn : rs.length ≤ maxLen) (hx : ∀ j, j < rs.length → (rs.getD j r0).2.size ≤ maxLen) : Calls Try.prog 6 #[v] w fun e w' => e = .returned (.bool true) ∧ Below w.heap.size w w' := by
  unfold maxLen at hn hx
  have SZ := Lib.hid (szreadings_any v rs 1048576 w h (by omega) hn hx)
  have TS := Lib.hid (fun w' (hb : Below w.heap.size w w') (hl : rs.length ≤ 1048576) => toreadings_any v rs w' (rdAt_below h hb) (by omega))
  have SR := Lib.hid (fun w' v' (h' : rdAt w' v' rs) (hl : rs.length ≤ 1048576) => sreadingsok_any v' rs w' h' (by omega))
  have IR := Lib.hid (fun w' v' (h' : rdAt w' v' rs) (hl : rs.length ≤ 1048576) => ireadingsok_any v' rs w' h' (by omega))
  have EQ := Lib.hid (fun w' va vb (ha : rdAt w' va rs) (hb : rdAt w' vb rs) (hl : rs.length ≤ 1048576) => eqrds_self va vb rs w' ha hb (by omega))
  generalize rdsOkR rs = B at *
  clear h hx
  go_enter Try.func6, Try.ntmps6
  go_wp2_with fail
  refine SZ.out.mono ?_
  rintro e w1 ⟨x, rfl, hr, hb1⟩
  have HB1 := Lib.hid hb1
  clear hb1 SZ
  by_cases hneg : x < 0
  · clear hr
    go_wp2
    go_ret
    exact ⟨rfl, HB1.out⟩
  · have hl : rs.length ≤ 1048576 := by rcases hr with rfl | ⟨h1, h2, h3⟩ <;> omega
    clear hr
    go_wp2_with fail
    refine (TS.out _ HB1.out hl).mono ?_
    rintro e w2 ⟨g2, rfl, hg2, ho2, hb2⟩
    have HB2 := Lib.hid (HB1.out.trans (hb2.mono HB1.out.size))
    clear hb2
    go_wp2_with fail
    refine (SR.out _ _ (rdAt_own ho2) hl).mono ?_
    rintro e w3 ⟨rfl, hb3⟩
    have HB3 := Lib.hid (HB2.out.trans (hb3.mono HB2.out.size))
    clear hb3 ho2
    go_wp2_with fail
    refine (TS.out _ HB3.out hl).mono ?_
    rintro e w4 ⟨g4, rfl, hg4, ho4, hb4⟩
    have HB4 := Lib.hid (HB3.out.trans (hb4.mono HB3.out.size))
    clear hb4
    go_wp2_with fail
    refine (IR.out _ _ (rdAt_own ho4) hl).mono ?_
    rintro e w5 ⟨rfl, hb5⟩
    have HB5 := Lib.hid (HB4.out.trans (hb5.mono HB4.out.size))
    have ho5 := own_below ho4 hb5
    clear hb5 ho4
    have hbb : (B != B) = false := by cases B <;> rfl
    go_wp2_with fail
    refine (TS.out _ HB5.out hl).mono ?_
    rintro e w6 ⟨g6, rfl, hg6, ho6, hb6⟩
    have HB6 := Lib.hid (HB5.out.trans (hb6.mono HB5.out.size))
    have ho5' := own_below ho5 hb6
    clear hb6 ho5
    go_wp2_with fail
    refine (EQ.out _ _ _ (rdAt_own ho5') (rdAt_own ho6) hl).mono ?_
    rintro e w7 ⟨rfl, hb7⟩
    have HB7 := Lib.hid (HB6.out.trans (hb7.mono HB6.out.size))
    clear hb7 ho5' ho6
    go_wp2
    go_ret
    exact ⟨rfl, HB7.out⟩
end Go.Proofs.Ytbkeggklfaepnaa
