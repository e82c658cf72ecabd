/- What the rows' lists give ReadDec, a table between; and that new blocks alone keep it. -/
import Derived.Test.YtbkeggklfaepnaaDoorLaidDec
namespace Go.Proofs.YtbkeggklfaepnaaDoor
open Go.ChangeShapes Go.WideShapes Go.ChangeAt Go.RowKit
set_option linter.unusedVariables false

theorem gSyn : Tryd.prog.globalNamed "strconv.ErrSyntax" = some 1 := by kernel_rfl
theorem gRng : Tryd.prog.globalNamed "strconv.ErrRange" = some 2 := by kernel_rfl
theorem var_lt {P : Program} {w : World} {nm : String} {g : Nat} {cs : Array Value} (hg : P.globalNamed nm = some g) (h : World.var? P w nm = some cs) : g < w.heap.size := by
  unfold World.var? at h
  rw [hg] at h
  simp only [Option.bind_some] at h
  rcases Nat.lt_or_ge g w.heap.size with h' | h'
  · exact h'
  · rw [Array.getElem?_eq_none h'] at h; cases h
theorem DecVars.below {w w' : World} (h : DecVars w) (hb : Below w.heap.size w w') : DecVars w' := by
  obtain ⟨h1, ⟨t1, p1, h2⟩, ⟨t2, p2, h3⟩⟩ := h
  exact ⟨tab_below h1 hb, ⟨t1, p1, var?_below hb gSyn (var_lt gSyn h2) h2⟩, ⟨t2, p2, var?_below hb gRng (var_lt gRng h3) h3⟩⟩

theorem decVars2 {w : World} {x : String × DataW Unit} {r : List (String × DataW Unit)} (h : laidMet Tryd.prog (("internal/strconv.uint64pow10", Rows.laid_internal_strconv_uint64pow10) :: x :: ("strconv.ErrRange", Rows.laid_strconv_ErrRange) :: ("strconv.ErrSyntax", Rows.laid_strconv_ErrSyntax) :: r) w) : DecVars w := by
  have hT : Lib.TabIs Tryd.prog w "internal/strconv.uint64pow10" IntKind.u64 Lib.pow10Tab :=
    Lib.tabIs_of_head gPow (t := 119) (by kernel_rfl) Tryd.underlying119 Tryd.underlying108 (by kernel_rfl) (by kernel_rfl) h
  obtain ⟨a0, s0, hv0, _⟩ := laid_sentinel (P := Tryd.prog) (g := 2) (ti := 83) h.tail.tail (by kernel_rfl) (by kernel_rfl) Tryd.underlying83 rowErr Tryd.underlying124 Tryd.underlying126 rfl rfl Tryd.underlying9 (by kernel_rfl) (by kernel_rfl)
  obtain ⟨a1, s1, hv1, _⟩ := laid_sentinel (P := Tryd.prog) (g := 1) (ti := 83) h.tail.tail.tail (by kernel_rfl) (by kernel_rfl) Tryd.underlying83 rowErr Tryd.underlying124 Tryd.underlying126 rfl rfl Tryd.underlying9 (by kernel_rfl) (by kernel_rfl)
  exact ⟨hT, ⟨_, _, hv1⟩, ⟨_, _, hv0⟩⟩
end Go.Proofs.YtbkeggklfaepnaaDoor
