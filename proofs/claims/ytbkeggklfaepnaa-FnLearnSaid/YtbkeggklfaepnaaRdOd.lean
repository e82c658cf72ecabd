/- Chapter 4's draws: a reading that need not be right. -/
import Derived.Test.YtbkeggklfaepnaaRdDr
namespace Go.Proofs.Ytbkeggklfaepnaa
open Go.ChangeShapes Go.WideShapes Go.ChangeAt Go.RowKit Go.BigFrame
set_option linter.unusedVariables false

def pick3o : List ByteArray := [⟨#[]⟩, ⟨#[97, 98, 99]⟩, ⟨#[97, 98, 99, 100, 101]⟩]
theorem pick3o_size (i : Nat) : (pick3o[i]?.getD ByteArray.empty).size ≤ 5 := by
  unfold pick3o
  rcases (by omega : i = 0 ∨ i = 1 ∨ i = 2 ∨ 3 ≤ i) with rfl | rfl | rfl | h
  · decide
  · decide
  · decide
  · rw [List.getElem?_eq_none (by simpa using h)]; decide
/-- the reading in its box, the result's box -/
structure O4 (n₀ g : Nat) (a : Option Addr) (len cap : Nat) (zs : List Int) (c1 : Cu) (w W : World) (b4 : Nat) (r : R3) : Prop where
  drew : Drew n₀ g a len cap zs c1 w W
  row : W.heap[b4]? = some (.cells #[.int .i64 r.1.1, .int .i64 r.1.2, .string r.2] 28)
  res : W.heap[w.heap.size]? = some (.cells #[.int .i64 0, .int .i64 0, .string ⟨#[]⟩] 28)
  lt : w.heap.size < b4
theorem O4.next {n₀ g : Nat} {a : Option Addr} {len cap : Nat} {zs : List Int} {c1 c2 : Cu} {w W W' : World} {b4 : Nat} {r : R3} (h : O4 n₀ g a len cap zs c1 w W b4 r) (hgl : g < w.heap.size) (hd : Drew n₀ g a len cap zs c2 W W') : O4 n₀ g a len cap zs c2 w W' b4 r :=
  ⟨h.drew.trans hd, hd.keeps h.row (by have := h.lt; omega), hd.keeps h.res (by omega), h.lt⟩
theorem O4.alloc {n₀ g : Nat} {a : Option Addr} {len cap : Nat} {zs : List Int} {c1 : Cu} {w W : World} {b4 : Nat} {r : R3} (h : O4 n₀ g a len cap zs c1 w W b4 r) (o : Obj) : O4 n₀ g a len cap zs c1 w (W.alloc o) b4 r :=
  ⟨h.drew.alloc o, (Below.heap_alloc _ _ _ (Array.getElem?_eq_some_iff.1 h.row).1).trans h.row, (Below.heap_alloc _ _ _ (Array.getElem?_eq_some_iff.1 h.res).1).trans h.res, h.lt⟩
theorem O4.key {n₀ g : Nat} {a : Option Addr} {len cap : Nat} {zs : List Int} {c1 : Cu} {w W : World} {b4 : Nat} {r : R3} (h : O4 n₀ g a len cap zs c1 w W b4 r) (hgl : g < w.heap.size) (p q : Int) : O4 n₀ g a len cap zs c1 w ((W.setCell ⟨b4, 0, none⟩ (.int .i64 p)).setCell ⟨b4, 1, none⟩ (.int .i64 q)) b4 ((p, q), r.2) := by
  have hl := h.lt
  refine ⟨h.drew.grow hgl (grownT (Lib.grownBy_setCell W b4 0 _) (Lib.grownBy_setCell _ b4 1 _)) (fun j e => by cases e; omega), set_cellsD _ (set_cellsD _ h.row), ?_, hl⟩
  rw [Below.heap_setCell _ _ _ _ (by simp; omega), Below.heap_setCell _ _ _ _ (by simp; omega)]
  exact h.res
theorem O4.txt {n₀ g : Nat} {a : Option Addr} {len cap : Nat} {zs : List Int} {c1 : Cu} {w W : World} {b4 : Nat} {r : R3} (h : O4 n₀ g a len cap zs c1 w W b4 r) (hgl : g < w.heap.size) (y : ByteArray) : O4 n₀ g a len cap zs c1 w (W.setCell ⟨b4, 2, none⟩ (.string y)) b4 (r.1, y) := by
  have hl := h.lt
  refine ⟨h.drew.grow hgl (Lib.grownBy_setCell W b4 2 _) (fun j e => by cases e; omega), set_cellsD _ h.row, ?_, hl⟩
  rw [Below.heap_setCell _ _ _ _ (by simp; omega)]
  exact h.res
structure O4End (n₀ g : Nat) (a : Option Addr) (len cap : Nat) (zs : List Int) (c1 : Cu) (w W : World) (b4 : Nat) (r : R3) : Prop where
  x : Row3 W b4 (.int .i64 r.1.1) (.int .i64 r.1.2) (.string r.2)
  y : Row3 W w.heap.size (.int .i64 0) (.int .i64 0) (.string ⟨#[]⟩)
  fin : Drew n₀ g a len cap zs c1 w (((W.setCell ⟨w.heap.size, 0, none⟩ (.int .i64 r.1.1)).setCell ⟨w.heap.size, 1, none⟩ (.int .i64 r.1.2)).setCell ⟨w.heap.size, 2, none⟩ (.string r.2))
  load : (loadVar 28 ⟨w.heap.size, 0, none⟩).run Try.prog (((W.setCell ⟨w.heap.size, 0, none⟩ (.int .i64 r.1.1)).setCell ⟨w.heap.size, 1, none⟩ (.int .i64 r.1.2)).setCell ⟨w.heap.size, 2, none⟩ (.string r.2)) =
    .ok (.agg #[.int .i64 r.1.1, .int .i64 r.1.2, .string r.2]) (((W.setCell ⟨w.heap.size, 0, none⟩ (.int .i64 r.1.1)).setCell ⟨w.heap.size, 1, none⟩ (.int .i64 r.1.2)).setCell ⟨w.heap.size, 2, none⟩ (.string r.2))
theorem O4.end {n₀ g : Nat} {a : Option Addr} {len cap : Nat} {zs : List Int} {c1 : Cu} {w W : World} {b4 : Nat} {r : R3} (h : O4 n₀ g a len cap zs c1 w W b4 r) (hgl : g < w.heap.size) : O4End n₀ g a len cap zs c1 w W b4 r :=
  ⟨row3_of h.row, row3_of h.res, h.drew.grow hgl (grown3 W w.heap.size _ _ _) (fun j e => by cases e; omega),
    run_loadVar_row (P := Try.prog) _ w.heap.size 28 28 #[.int .i64 r.1.1, .int .i64 r.1.2, .string r.2] (0, 0) _ (set3 _ _ _ h.res) Try.underlying28 rfl (by kernel_rfl)⟩
set_option maxRecDepth 100000 in
set_option maxHeartbeats 2000000 in
theorem l04odd_any (n₀ g len cap : Nat) (a : Option Addr) (zs : List Int) (c : Cu) (w : World) (hs : DrawSt n₀ w g a len cap zs c.i c.h) :
    Calls Try.prog 33 #[.pointer (some ⟨g, 0, none⟩)] w fun e w' => ∃ (r : R3) (c' : Cu), e = .returned (rv r) ∧ (-5 ≤ r.1.1 ∧ r.1.1 ≤ 100 ∧ -5 ≤ r.1.2 ∧ r.1.2 ≤ 100) ∧ r.2.size ≤ 5 ∧ Drew n₀ g a len cap zs c' w w' := by
  have hd0 : Drew n₀ g a len cap zs c w w := ⟨hs, Below.refl _ _, World.grownBy.refl _ _⟩
  have hgl := hs.lt
  go_enter Try.func33, Try.ntmps33
  go_wp2_with fail
  have hd1 := hd0.alloc (.cells #[.int .i64 0, .int .i64 0, .string ⟨#[]⟩] 28)
  refine (l04reading_any n₀ g len cap a zs c _ hd1.st).mono ?_
  rintro e w1 ⟨⟨⟨n, s⟩, y⟩, c1, rfl, hk, hy, hd⟩
  dsimp only at hk hy
  have hres := hd.keeps (heap_alloc_new w (.cells #[.int .i64 0, .int .i64 0, .string ⟨#[]⟩] 28)) (by omega)
  have H1 : Hid (O4 n₀ g a len cap zs c1 w (w1.alloc (.cells #[.int .i64 n, .int .i64 s, .string y] 28)) w1.heap.size ((n, s), y)) :=
    ⟨(hd1.trans hd).alloc _, heap_alloc_new w1 _, (Below.heap_alloc _ _ _ (Array.getElem?_eq_some_iff.1 hres).1).trans hres, (Array.getElem?_eq_some_iff.1 hres).1⟩
  unfold rv
  dsimp only
  clear hd1 hd hd0 hres hs
  go_wp2_with fail
  generalize w1.alloc (.cells #[.int .i64 n, .int .i64 s, .string y] 28) = W at *
  generalize w1.heap.size = b4 at *
  refine (below_any n₀ g len cap a zs c1 6 _ H1.out.drew.st (by omega)).mono ?_
  rintro e w2 ⟨rfl, hd2⟩
  have H2 := Lib.hid (H1.out.next hgl hd2)
  generalize (belowF zs len c1 6).2 = c2 at *
  generalize (belowF zs len c1 6).1 = x at *
  clear H1 hd2
  have hlt := H2.out.lt
  by_cases hx0 : x = 0
  · subst hx0
    go_wp2_with fail
    refine (odd_any n₀ g len cap a zs c2 _ H2.out.drew.st).mono ?_
    rintro e w3 ⟨⟨p, q⟩, c3, rfl, hk3, hd3⟩
    dsimp only at hk3
    have H3 := H2.out.next hgl hd3
    obtain ⟨a0, a1, a2, a3, a4, a5⟩ := row3_of H3.row
    have H4 := Lib.hid ((H3.key hgl p q).end hgl)
    have H3 := Lib.hid H3
    obtain ⟨⟨b0, b1, b2, -, -, -⟩, ⟨e0, e1, e2, e3, e4, e5⟩, -, -⟩ := H4.out
    obtain ⟨d0, d1, d2, d3, d4, d5⟩ := row3_of H3.out.res
    unfold kv
    dsimp only at *
    clear hd3 H2 H3
    go_wp2_with fail
    refine bodyPost_ret (v := .agg #[.int .i64 p, .int .i64 q, .string y]) ?_ rfl ⟨((p, q), y), c3, rfl, hk3, by dsimp only; omega, H4.out.fin⟩
    rw [results_cell (p := 2) (ty := 28) (by kernel_rfl)]
    have hl := H4.out.load
    simp [asAddr, Result.andThen, hl]
  · have f0 : (x == 0) = false := by simpa using hx0
    by_cases hx1 : x = 1
    · subst hx1
      have P3 := Lib.hid (pick_any n₀ g len cap w2.heap.size 3 a zs c2 pick3o (w2.alloc (.cells #[.string ⟨#[]⟩, .string ⟨#[97, 98, 99]⟩, .string ⟨#[97, 98, 99, 100, 101]⟩] 9)) (H2.out.drew.alloc _).st (by omega) (by omega) rfl (by have := H2.out.drew.st.lt; omega) (by
        intro k hk
        rw [lit_cell]
        rcases (by omega : k = 0 ∨ k = 1 ∨ k = 2) with rfl | rfl | rfl <;> rfl))
      have hps := pick3o_size (belowF zs len c2 (3 : Nat)).1.toNat
      generalize pick3o[(belowF zs len c2 (3 : Nat)).1.toNat]?.getD ByteArray.empty = tp at *
      generalize (belowF zs len c2 (3 : Nat)).2 = c3 at *
      go_wp2_with fail
      refine P3.out.mono ?_
      rintro e w3 ⟨rfl, hd3⟩
      have H3 := (H2.out.alloc (.cells #[.string ⟨#[]⟩, .string ⟨#[97, 98, 99]⟩, .string ⟨#[97, 98, 99, 100, 101]⟩] 9)).next hgl hd3
      obtain ⟨a0, a1, a2, a3, a4, a5⟩ := row3_of H3.row
      have H4 := Lib.hid ((H3.txt hgl tp).end hgl)
      have H3 := Lib.hid H3
      obtain ⟨⟨b0, b1, b2, -, -, -⟩, ⟨e0, e1, e2, e3, e4, e5⟩, -, -⟩ := H4.out
      obtain ⟨d0, d1, d2, d3, d4, d5⟩ := row3_of H3.out.res
      dsimp only at *
      clear hd3 H2 H3 P3
      go_wp2_with fail
      refine bodyPost_ret (v := .agg #[.int .i64 n, .int .i64 s, .string tp]) ?_ rfl ⟨((n, s), tp), c3, rfl, by dsimp only; omega, hps, H4.out.fin⟩
      rw [results_cell (p := 2) (ty := 28) (by kernel_rfl)]
      have hl := H4.out.load
      simp [asAddr, Result.andThen, hl]
    · have f1 : (x == 1) = false := by simpa using hx1
      have H4 := Lib.hid (H2.out.end hgl)
      obtain ⟨⟨b0, b1, b2, -, -, -⟩, ⟨e0, e1, e2, e3, e4, e5⟩, -, -⟩ := H4.out
      dsimp only at *
      clear H2
      go_wp2_with fail
      refine bodyPost_ret (v := .agg #[.int .i64 n, .int .i64 s, .string y]) ?_ rfl ⟨((n, s), y), c2, rfl, by dsimp only; omega, by dsimp only; omega, H4.out.fin⟩
      rw [results_cell (p := 2) (ty := 28) (by kernel_rfl)]
      have hl := H4.out.load
      simp [asAddr, Result.andThen, hl]
end Go.Proofs.Ytbkeggklfaepnaa
