/- Chapter 3's draws: keys. -/
import Derived.Test.YtbkeggklfaepnaaDraw2
import Derived.Test.YtbkeggklfaepnaaOwnR
import Derived.Test.YtbkeggklfaepnaaCell
namespace Go.Proofs.Ytbkeggklfaepnaa
open Go.ChangeShapes Go.WideShapes Go.ChangeAt Go.RowKit
set_option linter.unusedVariables false

/-- a block that a draw leaves alone -/
theorem Drew.keeps {n₀ g : Nat} {a : Option Addr} {len cap : Nat} {zs : List Int} {c : Cu} {w w1 : World} (h : Drew n₀ g a len cap zs c w w1) {b : Nat} {o : Obj} (hb : w.heap[b]? = some o) (hne : b ≠ g) : w1.heap[b]? = some o := by
  rw [h.grown.block b (Array.getElem?_eq_some_iff.1 hb).1 (fun e => hne (by cases e; rfl))]
  exact hb
theorem two_set {w : World} {b : Nat} {e : TypeId} (x y p q : Value) (h : w.heap[b]? = some (.cells #[x, y] e (0, 0))) :
    w.cell? ⟨b, 0, none⟩ = some x ∧ w.cell? ⟨b, 1, none⟩ = some y ∧ w.frozen? ⟨b, 0, none⟩ = false ∧ w.frozen? ⟨b, 1, none⟩ = false ∧
    ((w.setCell ⟨b, 0, none⟩ p).setCell ⟨b, 1, none⟩ q).cell? ⟨b, 0, none⟩ = some p ∧ ((w.setCell ⟨b, 0, none⟩ p).setCell ⟨b, 1, none⟩ q).cell? ⟨b, 1, none⟩ = some q := by
  have c0 : w.cell? ⟨b, 0, none⟩ = some x := by rw [cell_of_row _ _ 0 _ _ _ h]; rfl
  have c1 : w.cell? ⟨b, 1, none⟩ = some y := by rw [cell_of_row _ _ 1 _ _ _ h]; rfl
  have d1 : (w.setCell ⟨b, 0, none⟩ p).cell? ⟨b, 1, none⟩ = some y := by rw [World.cell?_setCell_other _ _ _ _ (fun e => by cases e)]; exact c1
  refine ⟨c0, c1, by simp [World.frozen?, h], by simp [World.frozen?, h], ?_, World.cell?_setCell_same _ _ _ d1⟩
  rw [World.cell?_setCell_other _ _ _ _ (fun e => by cases e)]
  exact World.cell?_setCell_same _ _ _ c0
theorem grown_two (w : World) (b : Nat) (p q : Value) : w.grownBy ((w.setCell ⟨b, 0, none⟩ p).setCell ⟨b, 1, none⟩ q) (some b) := by
  refine ⟨rfl, rfl, rfl, by simp [World.setCell], fun k hk hr => ?_⟩
  have hk2 : k ≠ b := fun e => hr (by rw [e])
  rw [Below.heap_setCell _ _ _ _ hk2, Below.heap_setCell _ _ _ _ hk2]
theorem build_key (a b : Int) (w : World) : (Instr.build 26 #[(0, .int .i64 a), (1, .int .i64 b)]).run Try.prog w = .ok (.agg #[.int .i64 a, .int .i64 b]) w := run_build w 26 _ _ (by kernel_rfl)
theorem key_any (n₀ g len cap : Nat) (a : Option Addr) (zs : List Int) (c : Cu) (w : World) (hs : DrawSt n₀ w g a len cap zs c.i c.h) :
    Calls Try.prog 40 #[.pointer (some ⟨g, 0, none⟩)] w fun e w' => ∃ (k : K2) (c' : Cu), e = .returned (kv k) ∧ (1 ≤ k.1 ∧ k.1 ≤ 5 ∧ 1 ≤ k.2 ∧ k.2 ≤ 2) ∧ Drew n₀ g a len cap zs c' w w' := by
  have hd0 : Drew n₀ g a len cap zs c w w := ⟨hs, Below.refl _ _, World.grownBy.refl _ _⟩
  have hgl := hs.lt
  go_enter Try.func40, Try.ntmps40
  go_wp2_with fail
  have hd1 := hd0.alloc (.cells #[.int .i64 0, .int .i64 0] 26)
  refine (below_any n₀ g len cap a zs c 5 _ hd1.st (by omega)).mono ?_
  rintro e w1 ⟨rfl, hd⟩
  have hbd := belowF_bd zs len c 5
  generalize belowF zs len c 5 = b at *
  obtain ⟨x, c1⟩ := b
  dsimp only at *
  go_wp2_with fail
  refine (below_any n₀ g len cap a zs c1 2 _ hd.st (by omega)).mono ?_
  rintro e w2 ⟨rfl, hd2⟩
  have hbd2 := belowF_bd zs len c1 2
  generalize belowF zs len c1 2 = b at *
  obtain ⟨y, c2⟩ := b
  dsimp only at *
  have hD := hd1.trans (hd.trans hd2)
  have ew : wrap64 (1 + x) = 1 + x := IntWalk.wrap64_in _ (by omega)
  have ew2 : wrap64 (1 + y) = 1 + y := IntWalk.wrap64_in _ (by omega)
  have hbk := fun w => build_key (1 + x) (1 + y) w
  have hb1 := hd2.keeps (hd.keeps (heap_alloc_new w (.cells #[.int .i64 0, .int .i64 0] 26)) (by omega)) (by omega)
  obtain ⟨s1, s2, s3, s4, s5, s6⟩ := two_set (.int .i64 0) (.int .i64 0) (.int .i64 (1 + x)) (.int .i64 (1 + y)) hb1
  have hG := hD.grow hgl (grown_two w2 w.heap.size (.int .i64 (1 + x)) (.int .i64 (1 + y))) (fun b e => by cases e; omega)
  have HG := Lib.hid hG; have S56 := Lib.hid (And.intro s5 s6)
  have hsz : w.heap.size < w2.heap.size := (Array.getElem?_eq_some_iff.1 hb1).1
  clear hD hd hd1 hd2 hG s5 s6 hb1 hd0 hs
  go_wp2
  refine bodyPost_ret (v := kv (1 + x, 1 + y)) ?_ rfl ⟨(1 + x, 1 + y), c2, rfl, by dsimp only; omega, HG.out⟩
  rw [results_cell (p := 2) (ty := 26) (by kernel_rfl)]
  have hl := key_load (k := (1 + x, 1 + y)) (o := 0) S56.out (by simp [World.setCell]; omega) (Below.refl _ _)
  simp [asAddr, Result.andThen, hl]
theorem odd_any (n₀ g len cap : Nat) (a : Option Addr) (zs : List Int) (c : Cu) (w : World) (hs : DrawSt n₀ w g a len cap zs c.i c.h) :
    Calls Try.prog 50 #[.pointer (some ⟨g, 0, none⟩)] w fun e w' => ∃ (k : K2) (c' : Cu), e = .returned (kv k) ∧ (-5 ≤ k.1 ∧ k.1 ≤ 100 ∧ -5 ≤ k.2 ∧ k.2 ≤ 100) ∧ Drew n₀ g a len cap zs c' w w' := by
  have hd0 : Drew n₀ g a len cap zs c w w := ⟨hs, Below.refl _ _, World.grownBy.refl _ _⟩
  have hgl := hs.lt
  go_enter Try.func50, Try.ntmps50
  go_wp2_with fail
  have hd1 := hd0.alloc (.cells #[.int .i64 0, .int .i64 0] 26)
  have hd2 := hd1.alloc (.cells #[.int .i64 0, .int .i64 1, .int .i64 20, .int .i64 21, .int .i64 (-1), .int .i64 5] 3)
  have hq1 := heap_first w (.cells #[.int .i64 0, .int .i64 1, .int .i64 20, .int .i64 21, .int .i64 (-1), .int .i64 5] 3) (.cells #[.int .i64 0, .int .i64 0] 26)
  refine (pickint_any n₀ g len cap (w.heap.size + 1) 6 a zs c [0, 1, 20, 21, -1, 5] _ hd2.st (by omega) (by omega) rfl (by omega) ?_).mono ?_
  · intro k hk
    have := lit_cell (w.alloc (.cells #[.int .i64 0, .int .i64 0] 26)) #[.int .i64 0, .int .i64 1, .int .i64 20, .int .i64 21, .int .i64 (-1), .int .i64 5] 3 k
    rw [show (w.alloc (.cells #[.int .i64 0, .int .i64 0] 26)).heap.size = w.heap.size + 1 by simp] at this
    rw [this]
    rcases (by omega : k = 0 ∨ k = 1 ∨ k = 2 ∨ k = 3 ∨ k = 4 ∨ k = 5) with rfl | rfl | rfl | rfl | rfl | rfl <;> rfl
  · rintro e w1 ⟨rfl, hd⟩
    have hbd := belowF_bd zs len c (6 : Nat)
    generalize belowF zs len c (6 : Nat) = b at *
    obtain ⟨x0, c1⟩ := b
    dsimp only at *
    have hx : -1 ≤ [0, 1, 20, 21, -1, (5 : Int)][x0.toNat]?.getD 0 ∧ [0, 1, 20, 21, -1, (5 : Int)][x0.toNat]?.getD 0 ≤ 21 := by
      rcases (by omega : x0.toNat = 0 ∨ x0.toNat = 1 ∨ x0.toNat = 2 ∨ x0.toNat = 3 ∨ x0.toNat = 4 ∨ x0.toNat = 5) with h | h | h | h | h | h <;> rw [h] <;> simp
    generalize [0, 1, 20, 21, -1, (5 : Int)][x0.toNat]?.getD 0 = x at *
    have hD := hd2.trans hd
    have hq2 := hd.keeps hq1 (by omega)
    have hgw := hD.st.lt
    clear hd hd1 hd2 hq1 hd0 hs
    go_wp2_with fail
    have hd3 := hD.alloc (.cells #[.int .i64 0, .int .i64 1, .int .i64 99, .int .i64 100, .int .i64 (-5)] 3)
    have hwz : w.heap.size ≤ w1.heap.size := hD.grown.size
    refine (pickint_any n₀ g len cap w1.heap.size 5 a zs c1 [0, 1, 99, 100, -5] _ hd3.st (by omega) (by omega) rfl (by omega) ?_).mono ?_
    · intro k hk
      rw [lit_cell]
      rcases (by omega : k = 0 ∨ k = 1 ∨ k = 2 ∨ k = 3 ∨ k = 4) with rfl | rfl | rfl | rfl | rfl <;> rfl
    · rintro e w2 ⟨rfl, hd⟩
      have hbd2 := belowF_bd zs len c1 (5 : Nat)
      generalize belowF zs len c1 (5 : Nat) = b at *
      obtain ⟨y0, c2⟩ := b
      dsimp only at *
      have hy : -5 ≤ [0, 1, 99, 100, (-5 : Int)][y0.toNat]?.getD 0 ∧ [0, 1, 99, 100, (-5 : Int)][y0.toNat]?.getD 0 ≤ 100 := by
        rcases (by omega : y0.toNat = 0 ∨ y0.toNat = 1 ∨ y0.toNat = 2 ∨ y0.toNat = 3 ∨ y0.toNat = 4) with h | h | h | h | h <;> rw [h] <;> simp
      generalize [0, 1, 99, 100, (-5 : Int)][y0.toNat]?.getD 0 = y at *
      have hq3 : (w1.alloc (.cells #[.int .i64 0, .int .i64 1, .int .i64 99, .int .i64 100, .int .i64 (-5)] 3)).heap[w.heap.size]? = some (.cells #[.int .i64 0, .int .i64 0] 26) := by
        rw [Below.heap_alloc _ _ _ (Array.getElem?_eq_some_iff.1 hq2).1]; exact hq2
      have hb1 := hd.keeps hq3 (by omega)
      have hDD := hd3.trans hd
      have hbk := fun w => build_key x y w
      obtain ⟨s1, s2, s3, s4, s5, s6⟩ := two_set (.int .i64 0) (.int .i64 0) (.int .i64 x) (.int .i64 y) hb1
      have hG := hDD.grow hgl (grown_two w2 w.heap.size (.int .i64 x) (.int .i64 y)) (fun b e => by cases e; omega)
      have HG := Lib.hid hG; have S56 := Lib.hid (And.intro s5 s6)
      have hsz : w.heap.size < w2.heap.size := (Array.getElem?_eq_some_iff.1 hb1).1
      clear hD hd hd3 hDD hG s5 s6 hb1 hq3 hq2
      go_wp2
      refine bodyPost_ret (v := kv (x, y)) ?_ rfl ⟨(x, y), c2, rfl, by dsimp only; omega, HG.out⟩
      rw [results_cell (p := 2) (ty := 26) (by kernel_rfl)]
      have hl := key_load (k := (x, y)) (o := 0) S56.out (by simp [World.setCell]; omega) (Below.refl _ _)
      simp [asAddr, Result.andThen, hl]
end Go.Proofs.Ytbkeggklfaepnaa
