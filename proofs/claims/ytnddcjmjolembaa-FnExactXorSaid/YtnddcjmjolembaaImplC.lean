/- The program's chapter 2, walked: the table of sums. -/
import Derived.Deep.WholeRow
import Derived.Great.BuildSlice
import Derived.Laws.ResultCell
import Derived.Test.YtnddcjmjolembaaImplG
namespace Go.Proofs.Ytnddcjmjolembaa
open Go.ChangeShapes Go.WideShapes Go.ChangeAt Go.RowKit Go.Great
set_option linter.unusedVariables false

/-- what each byte becomes -/
def tabZ : List Int := (List.range 256).map fun i => ((tN 8 i : Nat) : Int)
def tabC : Array Value := (tabZ.map (Value.int .u32)).toArray
def zeroC : Array Value := (List.replicate 256 (Value.int .u32 0)).toArray
theorem info60 : (Try.prog.info? 60).map (fun i => (i.zero, i.size)) = some (some (.agg zeroC), 256) := by kernel_rfl
theorem tab_size : tabC.size = 256 := by kernel_rfl
theorem zero_size : zeroC.size = 256 := by kernel_rfl
theorem tab_one : tabC.all (·.oneCell') = true := by kernel_rfl
theorem tab_get (i : Nat) (h : i < 256) : tabC[i]? = some (.int .u32 (tN 8 i : Nat)) := by
  simp [tabC, tabZ, h]
theorem zero60 : ∃ Z : Array Value, Z.size = 256 ∧ ∀ w, (zeroValue 60).run Try.prog w = .ok (.agg Z) w := ⟨zeroC, zero_size, (zero_of_info info60).1⟩
theorem size60 : (Try.prog.info? 60).map (·.size) = some 256 := (zero_of_info info60).2

theorem results_cell {fn : Func} {p : Tmp} {ty : TypeId} (h : fn.results = #[.cell p ty]) (tmps : Array Value) (P : Program) (w : World) :
    (results fn tmps).run P w = ((asAddr (tmps.getD p undef)).run P w).andThen fun a w₁ => (loadVar ty a).run P w₁ := by
  simp only [results, h]
  simp [Sem.run_bind]
theorem tabC_eq : tabC = (tabZ.map (Value.int .u32)).toArray := rfl
attribute [local irreducible] wpList Code.wp tabZ tabC
set_option maxRecDepth 1000000 in
set_option maxHeartbeats 1000000 in
theorem table_any (w : World) : Calls Try.prog 45 #[] w fun e w' => e = .returned (.agg tabC) ∧ w' = w.alloc (.cells tabC 60) := by
  obtain ⟨Z, hZs, hz⟩ := zero60
  have HZ := Lib.hid hz; clear hz
  have hT := run_loadVar_new (P := Try.prog) w 60 tabC 256 59 Try.underlying60 (by rw [tab_size]; exact size60)
  have HT := Lib.hid hT; clear hT
  go_enter Try.func45, Try.ntmps45
  go_wp2
  rw [HZ.out]
  simp only [Result.andThen]
  rw [Oper.upon_value]
  rename_i K1 h1 K h
  refine h _ _ ?_
  apply wpList_nil
  refine h1 _ _ ?_
  clear h h1
  apply wp_seq_k; intro K0 hK0
  apply wp_region_lit
  refine wpList_buildFlatArrTo rfl 60 59 256 _ rfl .u32 tabZ (some 1) rfl (by kernel_rfl) (by kernel_rfl) (by kernel_rfl) (by kernel_rfl) ?_
  refine wpList_frame (a' := { tmps := #[.pointer (some { block := w.heap.size, off := 0 }), .agg tabC], defers := [] }) (by rw [tabC_eq]; rfl) ?_
  refine wpList_store_rowTo rfl 60 _ _ rfl rfl w.heap.size tabC rfl rfl 60 Z (heap_alloc_last w _) (by rw [tab_size]; exact size60) (by rw [hZs, tab_size]) tab_one ?_
  rw [World.setRow_alloc_new]
  apply wpList_nil
  refine hK0 _ _ ?_
  apply wp_ret
  refine bodyPost_ret (v := .agg tabC) ?_ rfl ⟨rfl, rfl⟩
  rw [results_cell (p := 0) (ty := 60) (by kernel_rfl)]
  simp [asAddr, Result.andThen, HT.out]
end Go.Proofs.Ytnddcjmjolembaa
