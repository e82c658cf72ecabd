/- The program's readKey, walked. -/
import Derived.Test.YtbkeggklfaepnaaDoorKeyRs
import Derived.Test.YtbkeggklfaepnaaDoorKBox
import Derived.Test.YtbkeggklfaepnaaDoorCell
import Derived.Lib.Strings
namespace Go.Proofs.YtbkeggklfaepnaaDoor
open Go.ChangeShapes Go.WideShapes Go.ChangeAt Go.RowKit Go.BigFrame
set_option linter.unusedVariables false

theorem below_drewK {n₀ : Nat} {w w' : World} (h : Below n₀ w w') (n : Nat) : Below n₀ w (w'.drewN n) := ⟨h.os, h.tape, h.output, h.size, h.block⟩
/-- the library's variable MaxLen holds a number -/
def MLen (w : World) : Prop := ∃ m : Int, w.cell? ⟨0, 0, none⟩ = some (.int .i64 m)
theorem MLen.below {w w' : World} (h : MLen w) (hb : Below w.heap.size w w') : MLen w' := by
  obtain ⟨m, hm⟩ := h
  exact ⟨m, (hb.cell (p := ⟨0, 0, none⟩) (World.block_lt_of_cell? w _ hm)).trans hm⟩
set_option maxRecDepth 100000 in
set_option maxHeartbeats 1000000 in
theorem ireadkey_any (s : ByteArray) (w : World) (hs : s.size ≤ 2000000) (hV : ∀ w', Below w.heap.size w w' → DecVars w') (hM : MLen w) :
    Calls Tryd.prog 30 #[.string s] w fun e w' => e = .returned (kv (keyOfL s.data.toList)) ∧ Below w.heap.size w w' := by
  have hW0 : Below w.heap.size w (w.alloc (.cells #[.int .i64 0, .int .i64 0] 25)) := (Below.refl _ _).alloc (Nat.le_refl _) _
  have hq0 := KBoxed.new w (0, 0)
  obtain ⟨m, hm⟩ := hM.below hW0
  have hl := cutC_len 46 s.data.toList
  rw [show s.data.toList.length = s.size by simp] at hl
  have HC := Tryd.strings_Cut s ⟨#[46]⟩ m _ (by omega) hm
  rw [show (⟨#[46]⟩ : ByteArray).data.toList = [46] from rfl, cut_C] at HC
  have hk : keyOfL s.data.toList = (decOf (cutC 46 s.data.toList).1, decOf (cutC 46 s.data.toList).2.1) := rfl
  generalize cutC 46 s.data.toList = c at *
  obtain ⟨na, nb, nf⟩ := c
  dsimp only at hl hk HC
  have R1 := fun w hv => ireaddec_any (tB na) w (by rw [tB_size]; omega) hv
  have R2 := fun w hv => ireaddec_any (tB nb) w (by rw [tB_size]; omega) hv
  rw [show (tB na).data.toList = na by simp [tB]] at R1
  rw [show (tB nb).data.toList = nb by simp [tB]] at R2
  have HR1 := Lib.hid R1; have HR2 := Lib.hid R2; clear R1 R2
  have HCU := Lib.hid HC; clear HC
  change Hid (Calls _ _ _ _ fun e w' => e = .returned (.tuple #[.string (tB na), .string (tB nb), .bool nf]) ∧ ∃ n, w' = World.drewN _ n) at HCU
  generalize decOf na = x at *
  generalize decOf nb = y at *
  have HK := Lib.hid hk; have HQ := Lib.hid hq0; have HW := Lib.hid hW0; have HV := Lib.hid hV
  clear hk hq0 hW0 hV hm
  have hbk := fun w => build_key2 x y w
  go_enter Tryd.func30, Tryd.ntmps30
  go_wp2_with fail
  refine HCU.out.mono ?_
  rintro e w1 ⟨rfl, nd, rfl⟩
  clear HCU
  have hW1 : Below w.heap.size w ((w.alloc (.cells #[.int .i64 0, .int .i64 0] 25)).drewN nd) := below_drewK HW.out nd
  have hq1 : KBoxed ((w.alloc (.cells #[.int .i64 0, .int .i64 0] 25)).drewN nd) w.heap.size (0, 0) := HQ.out
  generalize (w.alloc (.cells #[.int .i64 0, .int .i64 0] 25)).drewN nd = w1 at *
  go_wp2_with fail
  refine (HR1.out _ (HV.out _ hW1)).mono ?_
  rintro e w2 ⟨rfl, hb2⟩
  have hW2 := hW1.trans (hb2.mono hW1.size)
  have hq2 := hq1.kept (grown_of_below' hb2 none) (by simp)
  clear hb2 hq1 hW1
  go_wp2_with fail
  refine (HR2.out _ (HV.out _ hW2)).mono ?_
  rintro e w3 ⟨rfl, hb3⟩
  have hW3 := hW2.trans (hb3.mono hW2.size)
  have hq3 := hq2.kept (grown_of_below' hb3 none) (by simp)
  clear hb3 hq2 hW2
  have t1 := hq3.cell0
  have t2 := hq3.cell1
  have t3 : w3.frozen? ⟨w.heap.size, 0, none⟩ = false := by simp [World.frozen?, show w3.heap[w.heap.size]? = _ from hq3]
  have t4 : w3.frozen? ⟨w.heap.size, 1, none⟩ = false := by simp [World.frozen?, show w3.heap[w.heap.size]? = _ from hq3]
  have hq4 := hq3.set (x, y)
  have hF := Lib.hid ((hW3.setCell (p := ⟨w.heap.size, 0, none⟩) (Nat.le_refl _) (.int .i64 x)).setCell (p := ⟨w.heap.size, 1, none⟩) (Nat.le_refl _) (.int .i64 y))
  have HQ4 := Lib.hid hq4
  clear hW3 hq3 hq4
  go_wp2
  refine bodyPost_ret (v := kv (x, y)) ?_ rfl ⟨by rw [HK.out], hF.out⟩
  rw [results_cell (p := 2) (ty := 25) (by kernel_rfl)]
  have hl1 := HQ4.out.load
  simp [asAddr, Result.andThen, hl1]
end Go.Proofs.YtbkeggklfaepnaaDoor
