/- A key drawn that isn't right sometimes: what it is, by the code's bytes alone. -/
import Derived.Test.YtbhdgkaeackbkaaDrawM
namespace Go.Proofs.Ytbhdgkaeackbkaa
open Go.ChangeShapes Go.WideShapes Go.ChangeAt Go.RowKit
set_option linter.unusedVariables false

def oddF (zs : List Int) (len : Nat) (c : Cu) : K2 × Cu :=
  let b := belowF zs len c (6 : Nat)
  let d := belowF zs len b.2 (5 : Nat)
  (([0, 1, 20, 21, -1, (5 : Int)][b.1.toNat]?.getD 0, [0, 1, 99, 100, (-5 : Int)][d.1.toNat]?.getD 0), d.2)
theorem oddF_eq (zs : List Int) (len : Nat) (c : Cu) : ∀ x0 c1, belowF zs len c (6 : Nat) = (x0, c1) → ∀ y0 c2, belowF zs len c1 (5 : Nat) = (y0, c2) →
    oddF zs len c = (([0, 1, 20, 21, -1, (5 : Int)][x0.toNat]?.getD 0, [0, 1, 99, 100, (-5 : Int)][y0.toNat]?.getD 0), c2) := by
  intro x0 c1 h1 y0 c2 h2
  unfold oddF
  simp only [h1, h2]
theorem odd_fun (n₀ g len cap : Nat) (a : Option Addr) (zs : List Int) (c : Cu) (w : World) (hs : DrawSt n₀ w g a len cap zs c.i c.h) :
    Calls Try.prog 41 #[.pointer (some ⟨g, 0, none⟩)] w fun e w' => e = .returned (kv (oddF zs len c).1) ∧ Drew n₀ g a len cap zs (oddF zs len c).2 w w' := by
  have hd0 : Drew n₀ g a len cap zs c w w := ⟨hs, Below.refl _ _, World.grownBy.refl _ _⟩
  have hgl := hs.lt
  go_enter Try.func41, Try.ntmps41
  go_wp2_with fail
  have hd1 := hd0.alloc (.cells #[.int .i64 0, .int .i64 0] 25)
  have hd2 := hd1.alloc (.cells #[.int .i64 0, .int .i64 1, .int .i64 20, .int .i64 21, .int .i64 (-1), .int .i64 5] 3)
  have hq1 := heap_first w (.cells #[.int .i64 0, .int .i64 1, .int .i64 20, .int .i64 21, .int .i64 (-1), .int .i64 5] 3) (.cells #[.int .i64 0, .int .i64 0] 25)
  refine (pickint_any n₀ g len cap (w.heap.size + 1) 6 a zs c [0, 1, 20, 21, -1, 5] _ hd2.st (by omega) (by omega) rfl (by omega) ?_).mono ?_
  · intro k hk
    have := lit_cell (w.alloc (.cells #[.int .i64 0, .int .i64 0] 25)) #[.int .i64 0, .int .i64 1, .int .i64 20, .int .i64 21, .int .i64 (-1), .int .i64 5] 3 k
    rw [show (w.alloc (.cells #[.int .i64 0, .int .i64 0] 25)).heap.size = w.heap.size + 1 by simp] at this
    rw [this]
    rcases (by omega : k = 0 ∨ k = 1 ∨ k = 2 ∨ k = 3 ∨ k = 4 ∨ k = 5) with rfl | rfl | rfl | rfl | rfl | rfl <;> rfl
  · rintro e w1 ⟨rfl, hd⟩
    have hbd := belowF_bd zs len c (6 : Nat)
    generalize hb1e : belowF zs len c (6 : Nat) = b at *
    obtain ⟨x0, c1⟩ := b
    have HB1 := Lib.hid hb1e; clear hb1e
    dsimp only at *
    have hx : -1 ≤ [0, 1, 20, 21, -1, (5 : Int)][x0.toNat]?.getD 0 ∧ [0, 1, 20, 21, -1, (5 : Int)][x0.toNat]?.getD 0 ≤ 21 := by
      rcases (by omega : x0.toNat = 0 ∨ x0.toNat = 1 ∨ x0.toNat = 2 ∨ x0.toNat = 3 ∨ x0.toNat = 4 ∨ x0.toNat = 5) with h | h | h | h | h | h <;> rw [h] <;> simp
    generalize hxe : [0, 1, 20, 21, -1, (5 : Int)][x0.toNat]?.getD 0 = x at *
    have HX := Lib.hid hxe; clear hxe
    have hD := hd2.trans hd
    have hq2 := hd.keeps hq1 (by omega)
    have hgw := hD.st.lt
    clear hd hd1 hd2 hq1 hd0 hs
    go_wp2_with fail
    have hd3 := hD.alloc (.cells #[.int .i64 0, .int .i64 1, .int .i64 99, .int .i64 100, .int .i64 (-5)] 3)
    have hwz : w.heap.size ≤ w1.heap.size := hD.grown.size
    refine (pickint_any n₀ g len cap w1.heap.size 5 a zs c1 [0, 1, 99, 100, -5] _ hd3.st (by omega) (by omega) rfl (by omega) ?_).mono ?_
    · intro k hk
      rw [lit_cell]
      rcases (by omega : k = 0 ∨ k = 1 ∨ k = 2 ∨ k = 3 ∨ k = 4) with rfl | rfl | rfl | rfl | rfl <;> rfl
    · rintro e w2 ⟨rfl, hd⟩
      have hbd2 := belowF_bd zs len c1 (5 : Nat)
      generalize hb2e : belowF zs len c1 (5 : Nat) = b at *
      obtain ⟨y0, c2⟩ := b
      have HB2 := Lib.hid hb2e; clear hb2e
      dsimp only at *
      have hy : -5 ≤ [0, 1, 99, 100, (-5 : Int)][y0.toNat]?.getD 0 ∧ [0, 1, 99, 100, (-5 : Int)][y0.toNat]?.getD 0 ≤ 100 := by
        rcases (by omega : y0.toNat = 0 ∨ y0.toNat = 1 ∨ y0.toNat = 2 ∨ y0.toNat = 3 ∨ y0.toNat = 4) with h | h | h | h | h <;> rw [h] <;> simp
      generalize hye : [0, 1, 99, 100, (-5 : Int)][y0.toNat]?.getD 0 = y at *
      have hfe : oddF zs len c = ((x, y), c2) := by rw [← HX.out, ← hye]; exact oddF_eq zs len c x0 c1 HB1.out y0 c2 HB2.out
      have HFE := Lib.hid hfe; clear hye hfe
      have hq3 : (w1.alloc (.cells #[.int .i64 0, .int .i64 1, .int .i64 99, .int .i64 100, .int .i64 (-5)] 3)).heap[w.heap.size]? = some (.cells #[.int .i64 0, .int .i64 0] 25) := by
        rw [Below.heap_alloc _ _ _ (Array.getElem?_eq_some_iff.1 hq2).1]; exact hq2
      have hb1 := hd.keeps hq3 (by omega)
      have hDD := hd3.trans hd
      have hbk := fun w => build_key x y w
      obtain ⟨s1, s2, s3, s4, s5, s6⟩ := two_set (.int .i64 0) (.int .i64 0) (.int .i64 x) (.int .i64 y) hb1
      have hG := hDD.grow hgl (grown_two w2 w.heap.size (.int .i64 x) (.int .i64 y)) (fun b e => by cases e; omega)
      have HG := Lib.hid hG; have S56 := Lib.hid (And.intro s5 s6)
      have hsz : w.heap.size < w2.heap.size := (Array.getElem?_eq_some_iff.1 hb1).1
      clear hD hd hd3 hDD hG s5 s6 hb1 hq3 hq2
      go_wp2
      refine bodyPost_ret (v := kv (x, y)) ?_ rfl ⟨by rw [HFE.out], by rw [HFE.out]; exact HG.out⟩
      rw [results_cell (p := 2) (ty := 25) (by kernel_rfl)]
      have hl := key_load (k := (x, y)) (o := 0) S56.out (by simp [World.setCell]; omega) (Below.refl _ _)
      simp [asAddr, Result.andThen, hl]
theorem drawkeyok_fun (n₀ len cap : Nat) (a : Option Addr) (zs : List Int) (w : World) (hc : CodeAt n₀ w a len zs) (hw : n₀ ≤ w.heap.size) :
    Calls Try.prog 20 #[.slice a len cap] w fun e w' => e = .returned (kv (oddF zs len (newC zs len)).1) ∧ Below w.heap.size w w' := by
  have hb00 := Below.refl n₀ w
  have hW0 : Below n₀ w (w.alloc (.cells #[.int .i64 0, .int .i64 0] 25)) := (hb00.alloc (by omega) _)
  have hsz0 : (w.alloc (.cells #[.int .i64 0, .int .i64 0] 25)).heap.size = w.heap.size + 1 := by simp
  have H1 := Lib.hid (new_any n₀ len cap a zs (w.alloc (.cells #[.int .i64 0, .int .i64 0] 25)) (hc.below hW0) (by omega)); clear hc hW0 hb00
  have hq0 : (w.alloc (.cells #[.int .i64 0, .int .i64 0] 25)).heap[w.heap.size]? = some (.cells #[.int .i64 0, .int .i64 0] 25) := heap_alloc_new w _
  have hBW : Below w.heap.size w (w.alloc (.cells #[.int .i64 0, .int .i64 0] 25)) := (Below.refl _ _).alloc (Nat.le_refl _) _
  go_enter Try.func20, Try.ntmps20
  go_wp2_with fail
  generalize (w.alloc (.cells #[.int .i64 0, .int .i64 0] 25)) = W at *
  refine H1.out.mono ?_
  clear H1
  rintro e w1 ⟨g, rfl, hg, hst, hb0, hgr0⟩
  have hr0 := grown_keeps hgr0 hq0
  go_wp2_with fail
  refine (odd_fun n₀ g len cap a zs (newC zs len) w1 hst).mono ?_
  rintro e w2 ⟨rfl, hd⟩
  generalize hof : oddF zs len (newC zs len) = of at *
  obtain ⟨⟨p, q⟩, c1⟩ := of
  have HOF := Lib.hid hof; clear hof
  dsimp only at hd
  have hr2 := hd.keeps hr0 (by omega)
  obtain ⟨s1, s2, s3, s4, s5, s6⟩ := two_set (.int .i64 0) (.int .i64 0) (.int .i64 p) (.int .i64 q) hr2
  have hN := hBW.trans ((new_below hgr0 hg hd.grown).mono (by omega))
  have hF := Lib.hid ((hN.setCell (p := ⟨w.heap.size, 0, none⟩) (Nat.le_refl _) (.int .i64 p)).setCell (p := ⟨w.heap.size, 1, none⟩) (Nat.le_refl _) (.int .i64 q))
  have S56 := Lib.hid (And.intro s5 s6)
  have hsz : w.heap.size < w2.heap.size := (Array.getElem?_eq_some_iff.1 hr2).1
  clear s5 s6 hN hr2 hr0 hd hst hgr0 hb0 hBW hq0
  unfold kv
  dsimp only
  go_wp2
  refine bodyPost_ret (v := kv (p, q)) ?_ rfl ⟨by rw [HOF.out], hF.out⟩
  rw [results_cell (p := 2) (ty := 25) (by kernel_rfl)]
  have hl := key_load (k := (p, q)) (o := 0) S56.out (by simp [World.setCell]; omega) (Below.refl _ _)
  simp [asAddr, Result.andThen, hl]
end Go.Proofs.Ytbhdgkaeackbkaa
