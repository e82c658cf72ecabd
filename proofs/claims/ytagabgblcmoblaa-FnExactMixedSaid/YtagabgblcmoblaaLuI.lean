/- Chapter 11, walked: the luck behind a luck, and a number that is drawn. -/
import Derived.Test.YtagabgblcmoblaaLuM
import Derived.Test.YtagabgblcmoblaaQuiet2
import Derived.Test.YtagabgblcmoblaaPlan
set_option linter.unusedVariables false
set_option linter.unusedSimpArgs false
namespace Go.Proofs.Ytagabgblcmoblaa
open Go.RowKit
set_option linter.unusedVariables false
set_option maxRecDepth 100000 in
theorem inext_any (l : Int) (w : World) : Calls Try.prog 10 #[.int .i64 l] w fun e w' => e = .returned (.int .i64 (nxL l)) ∧ w' = w := by
  have e1 := i64_and31 l
  have e2 : IntKind.i64.wrap (l % 2147483648 * 1103515245) = l % 2147483648 * 1103515245 := IntWalk.i64_in _ (by omega)
  have e3 : IntKind.i64.wrap (l % 2147483648 * 1103515245 + 12345) = l % 2147483648 * 1103515245 + 12345 := IntWalk.i64_in _ (by omega)
  have e4 : (l % 2147483648 * 1103515245 + 12345).tmod 2147483648 = nxL l := by rw [Int.tmod_eq_emod_of_nonneg (by omega)]; rfl
  go_enter Try.func10, Try.ntmps10
  go_wp2
  go_ret
  exact ⟨rfl, rfl⟩
set_option maxRecDepth 100000 in
theorem snext_any (l : Int) (w : World) : Calls Try.prog 14 #[.int .i64 l] w fun e w' => e = .returned (.int .i64 (nxL l)) ∧ w' = w := by
  have e1 := i64_and31 l
  have e2 : IntKind.i64.wrap (l % 2147483648 * 1103515245) = l % 2147483648 * 1103515245 := IntWalk.i64_in _ (by omega)
  have e3 : IntKind.i64.wrap (l % 2147483648 * 1103515245 + 12345) = l % 2147483648 * 1103515245 + 12345 := IntWalk.i64_in _ (by omega)
  have e4 := i64_and31 (l % 2147483648 * 1103515245 + 12345)
  go_enter Try.func14, Try.ntmps14
  go_wp2
  go_ret
  exact ⟨rfl, rfl⟩
set_option maxRecDepth 100000 in
theorem sbelow_any (l n : Int) (w : World) : Calls Try.prog 13 #[.int .i64 l, .int .i64 n] w fun e w' => e = .returned (.tuple #[.int .i64 (nxL l), .int .i64 (blL l n)]) ∧ Below w.heap.size w w' := by
  have hb := nxL_bd l
  go_enter Try.func13, Try.ntmps13
  go_wp2_with fail
  refine (snext_any l _).mono ?_
  rintro e w1 ⟨rfl, rfl⟩
  have e1 : (nxL l).tdiv 65536 = nxL l / 65536 := Int.tdiv_eq_ediv_of_nonneg (by omega)
  have e2 : IntKind.i64.wrap (nxL l / 65536) = nxL l / 65536 := IntWalk.i64_in _ (by omega)
  have hn := blL_none l n
  have hm := blL_more l n
  have hbb := blL_bd l n
  by_cases h : n < 1
  · have hn := hn h
    clear hm hbb
    go_wp2
    go_ret2
    exact ⟨by rw [hn]; rfl, Below.refl _ _⟩
  · have hm := hm (by omega)
    have hn0 : ¬ n = 0 := by omega
    have hbb := hbb (by omega)
    clear hn
    go_wp2
    go_region
    all_goals go_wp2
    all_goals go_ret2
    all_goals exact ⟨by rw [hm, Int.tmod_eq_emod_of_nonneg (by have := nxL_bd l; omega)]; rfl, (Below.refl _ _).drew⟩
set_option maxRecDepth 100000 in
/-- the method: the luck in its box goes on -/
theorem idraw_any (l n : Int) (b : Nat) (w : World) (h : w.heap[b]? = some (.cells #[.int .i64 l] 41 (0, 0))) :
    Calls Try.prog 25 #[.pointer (some ⟨b, 0, none⟩), .int .i64 n] w fun e w' => e = .returned (.int .i64 (blL l n)) ∧ w' = w.setCell ⟨b, 0, none⟩ (.int .i64 (nxL l)) := by
  have hc : w.cell? ⟨b, 0, none⟩ = some (.int .i64 l) := cell_of_row _ _ _ _ _ _ h
  have hf : w.frozen? ⟨b, 0, none⟩ = false := frozen_of_row _ _ _ _ _ h
  have hbx := nxL_bd l
  have e1 : (nxL l).tdiv 65536 = nxL l / 65536 := Int.tdiv_eq_ediv_of_nonneg (by omega)
  have e2 : IntKind.i64.wrap (nxL l / 65536) = nxL l / 65536 := IntWalk.i64_in _ (by omega)
  have hm := blL_more l n
  have hn := blL_none l n
  go_enter Try.func25, Try.ntmps25
  go_wp2_with fail
  refine (inext_any l _).mono ?_
  rintro e w1 ⟨rfl, rfl⟩
  by_cases h1 : n < 1
  · have hn := hn h1
    clear hm
    go_wp2
    go_ret
    exact ⟨by rw [hn]; rfl, rfl⟩
  · have hm := hm (by omega)
    have hn0 : ¬ n = 0 := by omega
    clear hn
    go_wp2
    go_ret
    exact ⟨by rw [hm, Int.tmod_eq_emod_of_nonneg (by omega)]; rfl, rfl⟩
set_option maxRecDepth 100000 in
theorem ibelow_any (l n : Int) (w : World) : Calls Try.prog 12 #[.int .i64 l, .int .i64 n] w fun e w' => e = .returned (.tuple #[.int .i64 (nxL l), .int .i64 (blL l n)]) ∧ Below w.heap.size w w' := by
  go_enter Try.func12, Try.ntmps12
  go_wp2_with fail
  refine (idraw_any l n w.heap.size _ ?_).mono ?_
  · exact heap_alloc_new w _
  rintro e w1 ⟨rfl, rfl⟩
  go_wp2
  go_ret2
  exact ⟨rfl, (Below.refl _ _).alloc (Nat.le_refl _) _⟩
end Go.Proofs.Ytagabgblcmoblaa
