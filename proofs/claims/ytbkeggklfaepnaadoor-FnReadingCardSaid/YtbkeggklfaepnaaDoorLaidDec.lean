/- What the rows' lists give ReadDec: strconv's table and its two errors. -/
import Derived.Test.YtbkeggklfaepnaaDoorDec
import Derived.Stop.LaidErr
import Derived.Lib.LaidTab
namespace Go.Proofs.YtbkeggklfaepnaaDoor
open Go.ChangeShapes Go.WideShapes Go.ChangeAt Go.RowKit
theorem starErr : "*" ++ "errors.errorString" = "*errors.errorString" := by decide
theorem rowErr (u : TypeId) (h : Tryd.prog.typeName? 3 u = some "*errors.errorString") : u = 124 :=
  typeName_ptr_named (nm := "errors.errorString") (by rw [starErr]; kernel_rfl) (by kernel_rfl) (by decide) u (by rw [starErr]; exact h)
theorem decVars {w : World} {r : List (String × DataW Unit)} (h : laidMet Tryd.prog (("internal/strconv.uint64pow10", Rows.laid_internal_strconv_uint64pow10) :: ("strconv.ErrRange", Rows.laid_strconv_ErrRange) :: ("strconv.ErrSyntax", Rows.laid_strconv_ErrSyntax) :: r) w) : DecVars w := by
  have hT : Lib.TabIs Tryd.prog w "internal/strconv.uint64pow10" IntKind.u64 Lib.pow10Tab :=
    Lib.tabIs_of_head gPow (t := 119) (by kernel_rfl) Tryd.underlying119 Tryd.underlying108 (by kernel_rfl) (by kernel_rfl) h
  obtain ⟨a0, s0, hv0, _⟩ := laid_sentinel (P := Tryd.prog) (g := 2) (ti := 83) h.tail (by kernel_rfl) (by kernel_rfl) Tryd.underlying83 rowErr Tryd.underlying124 Tryd.underlying126 rfl rfl Tryd.underlying9 (by kernel_rfl) (by kernel_rfl)
  obtain ⟨a1, s1, hv1, _⟩ := laid_sentinel (P := Tryd.prog) (g := 1) (ti := 83) h.tail.tail (by kernel_rfl) (by kernel_rfl) Tryd.underlying83 rowErr Tryd.underlying124 Tryd.underlying126 rfl rfl Tryd.underlying9 (by kernel_rfl) (by kernel_rfl)
  exact ⟨hT, ⟨_, _, hv1⟩, ⟨_, _, hv0⟩⟩
end Go.Proofs.YtbkeggklfaepnaaDoor
