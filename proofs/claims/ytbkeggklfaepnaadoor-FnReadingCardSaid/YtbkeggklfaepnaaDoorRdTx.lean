/- Readings written, by the program and by the model. -/
import Derived.Test.YtbkeggklfaepnaaDoorRdS0
import Derived.Test.YtbkeggklfaepnaaDoorRdI0
import Derived.Test.YtbkeggklfaepnaaDoorKeyTi
import Derived.Test.YtbkeggklfaepnaaDoorKeyRs
import Derived.Test.YtbkeggklfaepnaaDoorDecV
import Derived.Test.YtbkeggklfaepnaaDoorHex
import Derived.Deep.RegionLaw
namespace Go.Proofs.YtbkeggklfaepnaaDoor
open Go.ChangeShapes Go.WideShapes Go.ChangeAt Go.RowKit Go.BigFrame
set_option linter.unusedVariables false

/-- a reading's text -/
def rtB (r : R3) : ByteArray := if rdOkB r then tB (keyTextL [r.1]) ++ ⟨#[61]⟩ ++ strOfNums (hexL r.2.data.toList) else ByteArray.empty
theorem rdOk_key2 {r : R3} (h : rdOkB r = true) : keyOkB r.1 = true ∧ r.2.size = 4 := by
  simp only [rdOkB, Bool.and_eq_true, decide_eq_true_eq] at h
  exact h
theorem hexL_len : ∀ l : List UInt8, (hexL l).length = 2 * l.length
  | [] => rfl
  | c :: r => by
    have := hexL_len r
    simp only [hexL, List.flatMap_cons, List.length_append, List.length_cons, List.length_nil] at *
    omega
theorem keysAt_litR (w : World) (p q : Int) : keysAt (w.alloc (.cells #[.int .i64 p, .int .i64 q] 25)).drew (.slice (some ⟨w.heap.size, 0, none⟩) 1 1) [(p, q)] := by
  refine ⟨_, 1, rfl, by simp, .inr ⟨w.heap.size, 0, rfl, by show _ < (w.alloc _).heap.size; simp, fun i hi => ?_⟩⟩
  obtain rfl : i = 0 := by simp at hi; omega
  have h : (w.alloc (.cells #[.int .i64 p, .int .i64 q] 25)).drew.heap[w.heap.size]? = _ := heap_alloc_new w (.cells #[.int .i64 p, .int .i64 q] 25)
  exact ⟨by rw [cell_of_row _ _ _ _ _ _ h]; rfl, by rw [cell_of_row _ _ _ _ _ _ h]; rfl⟩
set_option maxRecDepth 100000 in
set_option maxHeartbeats 1000000 in
theorem ireadingtext_any (r : R3) (w : World) (hV : Lib.TabIs Tryd.prog w "internal/strconv.uint64pow10" IntKind.u64 Lib.pow10Tab) : Calls Tryd.prog 8 #[rv r] w fun e w' => e = .returned (.string (rtB r)) ∧ Below w.heap.size w w' := by
  have HR := Lib.hid (fun w => ireadingok_any r w)
  obtain ⟨⟨n, s⟩, y⟩ := r
  have HX := Lib.hid (heap_alloc_new w (.cells #[.int .i64 n, .int .i64 s, .string y] 27))
  have HW := Lib.hid ((Below.refl w.heap.size w).alloc (Nat.le_refl _) (.cells #[.int .i64 n, .int .i64 s, .string y] 27))
  cases hok : rdOkB ((n, s), y) with
  | false =>
    have hrt : rtB ((n, s), y) = ByteArray.empty := by unfold rtB; rw [hok]; rfl
    rw [hok] at HR
    rw [hrt]
    unfold rv at *
    dsimp only at *
    clear hV
    go_enter Tryd.func8, Tryd.ntmps8
    go_wp2_with fail
    refine (HR.out _).mono ?_
    rintro e w1 ⟨rfl, hb1⟩
    have HB1 := Lib.hid (HW.out.trans (hb1.mono HW.out.size))
    clear hb1
    go_wp2
    go_ret
    exact ⟨rfl, HB1.out⟩
  | true =>
    have hrt : rtB ((n, s), y) = tB (keyTextL [(n, s)]) ++ ⟨#[61]⟩ ++ strOfNums (hexL y.data.toList) := by unfold rtB; rw [hok]; rfl
    have hkk := rdOk_key2 hok
    have hin : kIn (n, s) := kIn_of_ok hkk.1
    have hy : y.size = 4 := hkk.2
    have KT := Lib.hid (fun v w' (hb : Below w.heap.size w w') (h : keysAt w' v [((n, s) : K2)]) => ikeytext_any v [(n, s)] w' h (by simp) (by intro k hk; simp at hk; subst hk; exact hin) (tab_below hV hb))
    have HH := Lib.hid (fun w => ihex_any y w (by omega))
    have hs1 : (tB (keyTextL [(n, s)])).size ≤ 44 := by rw [tB_size]; simpa using keyText_len 1 [(n, s)] rfl (by intro k hk; simp at hk; subst hk; exact hin)
    have hs2 : (strOfNums (hexL y.data.toList)).size = 8 := by
      rw [strOfNums_size, hexL_len]
      simp [hy]
    rw [hok] at HR
    rw [hrt]
    clear hrt hkk hin hok
    generalize tB (keyTextL [(n, s)]) = A at *
    generalize strOfNums (hexL y.data.toList) = B at *
    have u1 : ¬ 9223372036854775807 < A.size + 1 := by omega
    have u2 : ¬ 9223372036854775807 < A.size + 1 + B.size := by omega
    clear hs2
    unfold rv at *
    dsimp only at *
    clear hV
    go_enter Tryd.func8, Tryd.ntmps8
    go_wp2_with fail
    refine (HR.out _).mono ?_
    rintro e w1 ⟨rfl, hb1⟩
    have HB1 := Lib.hid (HW.out.trans (hb1.mono HW.out.size))
    have hx1 := (hb1.block _ (Array.getElem?_eq_some_iff.1 HX.out).1).trans HX.out
    have x0 : w1.cell? ⟨w.heap.size, 0, none⟩ = some (.int .i64 n) := by rw [cell_of_row _ _ 0 _ _ _ hx1]; rfl
    have x1 : w1.cell? ⟨w.heap.size, 1, none⟩ = some (.int .i64 s) := by rw [cell_of_row _ _ 1 _ _ _ hx1]; rfl
    have x2 : w1.cell? ⟨w.heap.size, 2, none⟩ = some (.string y) := by rw [cell_of_row _ _ 2 _ _ _ hx1]; rfl
    have hl1 : w.heap.size < w1.heap.size := (Array.getElem?_eq_some_iff.1 hx1).1
    have HX1 := Lib.hid hx1
    clear hb1 hx1 HR
    go_wp2_with fail
    go_region_law (first
      | (go_simp
         go_at_call 20
         refine (KT.out _ _ (HB1.out.alloc HB1.out.size _).drew (keysAt_litR w1 n s)).mono ?_
         rintro e w2 ⟨rfl, hb2⟩
         dsimp only
         have HB2 := Lib.hid ((HB1.out.alloc HB1.out.size (.cells #[.int .i64 n, .int .i64 s] 25)).drew.trans (hb2.mono (HB1.out.alloc HB1.out.size (.cells #[.int .i64 n, .int .i64 s] 25)).drew.size))
         have hx2 := (hb2.block w.heap.size (by show _ < (w1.alloc _).heap.size; simp; omega)).trans ((Below.heap_alloc w1 (.cells #[.int .i64 n, .int .i64 s] 25) _ hl1).trans HX1.out)
         have y2 : w2.cell? ⟨w.heap.size, 2, none⟩ = some (.string y) := by rw [cell_of_row _ _ 2 _ _ _ hx2]; rfl
         clear hb2 hx2)
      | (go_simp
         go_at_call 21
         refine (HH.out _).mono ?_
         rintro e w3 ⟨rfl, hb3⟩
         dsimp only
         have HB3 := Lib.hid (HB2.out.trans (hb3.mono HB2.out.size))
         clear hb3))
    all_goals
      clear x0 x1 x2 y2
      go_wp2
      go_ret
      exact ⟨rfl, HB3.out⟩
set_option maxRecDepth 100000 in
set_option maxHeartbeats 1000000 in
theorem sreadingtext_any (r : R3) (w : World) : Calls Tryd.prog 9 #[rv r] w fun e w' => e = .returned (.string (rtB r)) ∧ Below w.heap.size w w' := by
  have HR := Lib.hid (fun w => sreadingok_any r w)
  obtain ⟨⟨n, s⟩, y⟩ := r
  have HX := Lib.hid (heap_alloc_new w (.cells #[.int .i64 n, .int .i64 s, .string y] 27))
  have HW := Lib.hid ((Below.refl w.heap.size w).alloc (Nat.le_refl _) (.cells #[.int .i64 n, .int .i64 s, .string y] 27))
  cases hok : rdOkB ((n, s), y) with
  | false =>
    have hrt : rtB ((n, s), y) = ByteArray.empty := by unfold rtB; rw [hok]; rfl
    rw [hok] at HR
    rw [hrt]
    unfold rv at *
    dsimp only at *
    skip
    go_enter Tryd.func9, Tryd.ntmps9
    go_wp2_with fail
    refine (HR.out _).mono ?_
    rintro e w1 ⟨rfl, hb1⟩
    have HB1 := Lib.hid (HW.out.trans (hb1.mono HW.out.size))
    clear hb1
    go_wp2
    go_ret
    exact ⟨rfl, HB1.out⟩
  | true =>
    have hrt : rtB ((n, s), y) = tB (keyTextL [(n, s)]) ++ ⟨#[61]⟩ ++ strOfNums (hexL y.data.toList) := by unfold rtB; rw [hok]; rfl
    have hkk := rdOk_key2 hok
    have hin : kIn (n, s) := kIn_of_ok hkk.1
    have hy : y.size = 4 := hkk.2
    have KT := Lib.hid (fun v w' (hb : Below w.heap.size w w') (h : keysAt w' v [((n, s) : K2)]) => skeytext_any v [(n, s)] w' h (by simp) (by intro k hk; simp at hk; subst hk; exact hin))
    have HH := Lib.hid (fun w => shex_any y w (by omega))
    have hs1 : (tB (keyTextL [(n, s)])).size ≤ 44 := by rw [tB_size]; simpa using keyText_len 1 [(n, s)] rfl (by intro k hk; simp at hk; subst hk; exact hin)
    have hs2 : (strOfNums (hexL y.data.toList)).size = 8 := by
      rw [strOfNums_size, hexL_len]
      simp [hy]
    rw [hok] at HR
    rw [hrt]
    clear hrt hkk hin hok
    generalize tB (keyTextL [(n, s)]) = A at *
    generalize strOfNums (hexL y.data.toList) = B at *
    have u1 : ¬ 9223372036854775807 < A.size + 1 := by omega
    have u2 : ¬ 9223372036854775807 < A.size + 1 + B.size := by omega
    clear hs2
    unfold rv at *
    dsimp only at *
    skip
    go_enter Tryd.func9, Tryd.ntmps9
    go_wp2_with fail
    refine (HR.out _).mono ?_
    rintro e w1 ⟨rfl, hb1⟩
    have HB1 := Lib.hid (HW.out.trans (hb1.mono HW.out.size))
    have hx1 := (hb1.block _ (Array.getElem?_eq_some_iff.1 HX.out).1).trans HX.out
    have x0 : w1.cell? ⟨w.heap.size, 0, none⟩ = some (.int .i64 n) := by rw [cell_of_row _ _ 0 _ _ _ hx1]; rfl
    have x1 : w1.cell? ⟨w.heap.size, 1, none⟩ = some (.int .i64 s) := by rw [cell_of_row _ _ 1 _ _ _ hx1]; rfl
    have x2 : w1.cell? ⟨w.heap.size, 2, none⟩ = some (.string y) := by rw [cell_of_row _ _ 2 _ _ _ hx1]; rfl
    have hl1 : w.heap.size < w1.heap.size := (Array.getElem?_eq_some_iff.1 hx1).1
    have HX1 := Lib.hid hx1
    clear hb1 hx1 HR
    go_wp2_with fail
    go_region_law (first
      | (go_simp
         go_at_call 22
         refine (KT.out _ _ (HB1.out.alloc HB1.out.size _).drew (keysAt_litR w1 n s)).mono ?_
         rintro e w2 ⟨rfl, hb2⟩
         dsimp only
         have HB2 := Lib.hid ((HB1.out.alloc HB1.out.size (.cells #[.int .i64 n, .int .i64 s] 25)).drew.trans (hb2.mono (HB1.out.alloc HB1.out.size (.cells #[.int .i64 n, .int .i64 s] 25)).drew.size))
         have hx2 := (hb2.block w.heap.size (by show _ < (w1.alloc _).heap.size; simp; omega)).trans ((Below.heap_alloc w1 (.cells #[.int .i64 n, .int .i64 s] 25) _ hl1).trans HX1.out)
         have y2 : w2.cell? ⟨w.heap.size, 2, none⟩ = some (.string y) := by rw [cell_of_row _ _ 2 _ _ _ hx2]; rfl
         clear hb2 hx2)
      | (go_simp
         go_at_call 23
         refine (HH.out _).mono ?_
         rintro e w3 ⟨rfl, hb3⟩
         dsimp only
         have HB3 := Lib.hid (HB2.out.trans (hb3.mono HB2.out.size))
         clear hb3))
    all_goals
      clear x0 x1 x2 y2
      go_wp2
      go_ret
      exact ⟨rfl, HB3.out⟩
end Go.Proofs.YtbkeggklfaepnaaDoor
