/- A box that holds a key. -/
import Derived.RangeFuncBox
import Derived.Test.YtbkeggklfaepnaaDoorKeyG
namespace Go.Proofs.YtbkeggklfaepnaaDoor
open Go.RowKit
set_option linter.unusedVariables false

def KBoxed (W : World) (B : Nat) (k : K2) : Prop := W.heap[B]? = some (.cells #[.int .i64 k.1, .int .i64 k.2] 25 (0, 0))
theorem KBoxed.lt {W : World} {B : Nat} {k : K2} (h : KBoxed W B k) : B < W.heap.size := (Array.getElem?_eq_some_iff.1 h).1
theorem KBoxed.cell0 {W : World} {B : Nat} {k : K2} (h : KBoxed W B k) : W.cell? ⟨B, 0, none⟩ = some (.int .i64 k.1) := by simp [World.cell?, show W.heap[B]? = _ from h]
theorem KBoxed.cell1 {W : World} {B : Nat} {k : K2} (h : KBoxed W B k) : W.cell? ⟨B, 1, none⟩ = some (.int .i64 k.2) := by simp [World.cell?, show W.heap[B]? = _ from h]
theorem KBoxed.new (W : World) (k : K2) : KBoxed (W.alloc (.cells #[.int .i64 k.1, .int .i64 k.2] 25)) W.heap.size k := World.alloc_heap_new W _
theorem KBoxed.kept {W W' : World} {row : Option Nat} {B : Nat} {k : K2} (h : KBoxed W B k) (hg : W.grownBy W' row) (hne : some B ≠ row) : KBoxed W' B k := (hg.block B h.lt hne).trans h
theorem KBoxed.alloc {W : World} {B : Nat} {k : K2} (h : KBoxed W B k) (o : Obj) : KBoxed (W.alloc o) B k := h.kept (World.grownBy_alloc W o none) (by simp)
theorem KBoxed.other {W : World} {B B' : Nat} {k : K2} (h : KBoxed W B k) (hne : B ≠ B') (u : Value) : KBoxed (W.setCell ⟨B', 0, none⟩ u) B k := h.kept (grownBy_setCell' W B' u) (fun e => hne (by cases e; rfl))
theorem KBoxed.load {w : World} {B : Nat} {k : K2} (h : KBoxed w B k) : (loadVar 25 ⟨B, 0, none⟩).run Tryd.prog w = .ok (kv k) w := key_load (o := 0) ⟨h.cell0, h.cell1⟩ h.lt (Below.refl _ _)
theorem set_cells {w : World} {B j : Nat} {cs : Array Value} {t : TypeId} (u : Value) (h : w.heap[B]? = some (.cells cs t (0, 0))) : (w.setCell ⟨B, j, none⟩ u).heap[B]? = some (.cells (cs.setIfInBounds j u) t (0, 0)) := by
  obtain ⟨hlt, hk⟩ := Array.getElem?_eq_some_iff.1 h
  show (w.heap.modify B _)[B]? = _
  rw [Array.getElem?_eq_getElem (by rw [Array.size_modify]; exact hlt), Array.getElem_modify_self, hk]
  rfl
theorem KBoxed.set {w : World} {B : Nat} {k : K2} (k' : K2) (h : KBoxed w B k) : KBoxed ((w.setCell ⟨B, 0, none⟩ (.int .i64 k'.1)).setCell ⟨B, 1, none⟩ (.int .i64 k'.2)) B k' :=
  set_cells _ (set_cells _ h)
end Go.Proofs.YtbkeggklfaepnaaDoor
