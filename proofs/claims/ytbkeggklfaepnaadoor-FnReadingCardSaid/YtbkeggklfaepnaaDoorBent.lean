/- Texts that are drawn and bent. -/
import Derived.Test.YtbkeggklfaepnaaDoorDrawP
import Derived.Test.YtbkeggklfaepnaaDoorDraw2
import Derived.Deep.RegionHeld3
import Derived.Deep.Cut
namespace Go.Proofs.YtbkeggklfaepnaaDoor
open Go.ChangeShapes Go.WideShapes Go.ChangeAt Go.RowKit
set_option linter.unusedVariables false

theorem CodeAt.drew {n₀ : Nat} {w : World} {a : Option Addr} {len : Nat} {zs : List Int} (h : CodeAt n₀ w a len zs) (k : Nat) : CodeAt n₀ (w.drewN k) a len zs := h
theorem DrawSt.drew {n₀ g : Nat} {a : Option Addr} {len cap : Nat} {zs : List Int} {i : Nat} {h : Int} {w : World} (hs : DrawSt n₀ w g a len cap zs i h) (k : Nat) : DrawSt n₀ (w.drewN k) g a len cap zs i h :=
  ⟨hs.code.drew k, hs.cur, hs.hg, hs.hi⟩
theorem Drew.drew {n₀ g : Nat} {a : Option Addr} {len cap : Nat} {zs : List Int} {c : Cu} {w w1 : World} (h : Drew n₀ g a len cap zs c w w1) (k : Nat) : Drew n₀ g a len cap zs c w (w1.drewN k) :=
  ⟨h.st.drew k, h.below.trans ⟨rfl, rfl, rfl, Nat.le_refl _, fun _ _ => rfl⟩, grownT h.grown ⟨rfl, rfl, rfl, Nat.le_refl _, fun _ _ _ => rfl⟩⟩
theorem Drew.drew1 {n₀ g : Nat} {a : Option Addr} {len cap : Nat} {zs : List Int} {c : Cu} {w w1 : World} (h : Drew n₀ g a len cap zs c w w1) : Drew n₀ g a len cap zs c w w1.drew := h.drew 1

def bentTab : List ByteArray := [⟨#[48]⟩, ⟨#[32]⟩, ⟨#[255]⟩, ⟨#[10]⟩, ⟨#[97]⟩, ⟨#[45]⟩]
def bentTab2 : List ByteArray := [⟨#[48]⟩, ⟨#[65]⟩, ⟨#[0]⟩, ⟨#[57]⟩, ⟨#[102]⟩]
theorem bentTab_size (i : Nat) : (bentTab[i]?.getD ByteArray.empty).size ≤ 1 := by
  unfold bentTab
  rcases (by omega : i = 0 ∨ i = 1 ∨ i = 2 ∨ i = 3 ∨ i = 4 ∨ i = 5 ∨ 6 ≤ i) with rfl | rfl | rfl | rfl | rfl | rfl | h
  · decide
  · decide
  · decide
  · decide
  · decide
  · decide
  · rw [List.getElem?_eq_none (by simpa using h)]; decide
theorem bentTab2_size (i : Nat) : (bentTab2[i]?.getD ByteArray.empty).size ≤ 1 := by
  unfold bentTab2
  rcases (by omega : i = 0 ∨ i = 1 ∨ i = 2 ∨ i = 3 ∨ i = 4 ∨ 5 ≤ i) with rfl | rfl | rfl | rfl | rfl | h
  · decide
  · decide
  · decide
  · decide
  · decide
  · rw [List.getElem?_eq_none (by simpa using h)]; decide

set_option maxRecDepth 100000 in
set_option maxHeartbeats 2000000 in
theorem bent_any (n₀ g len cap : Nat) (a : Option Addr) (zs : List Int) (c : Cu) (s : ByteArray) (w : World) (hs : DrawSt n₀ w g a len cap zs c.i c.h) (hz : s.size ≤ 1000) :
    Calls Tryd.prog 26 #[.pointer (some ⟨g, 0, none⟩), .string s] w fun e w' => ∃ (r : ByteArray) (c' : Cu), e = .returned (.string r) ∧ r.size ≤ 3000 ∧ Drew n₀ g a len cap zs c' w w' := by
  have H1 := Lib.hid (below_any n₀ g len cap a zs c ((s.size : Int) + 1) w hs (by omega)); clear hs
  have hbd := belowF_bd zs len c ((s.size : Int) + 1)
  generalize belowF zs len c ((s.size : Int) + 1) = b at *
  obtain ⟨i, c1⟩ := b
  dsimp only at *
  have H2 := Lib.hid (fun w hs => below_any n₀ g len cap a zs c1 10 w hs (by omega))
  have hbd2 := belowF_bd zs len c1 10
  generalize belowF zs len c1 10 = b at *
  obtain ⟨x, c2⟩ := b
  dsimp only at *
  obtain ⟨i, rfl⟩ : ∃ m : Nat, i = m := ⟨i.toNat, by omega⟩
  have hi1 : i ≤ s.size := by have := hbd.2 (by omega); omega
  clear hbd
  have y0 : (0 : Int) ≤ (i : Int) := by omega
  have y1 : (i : Int) ≤ (s.size : Int) := by omega
  go_enter Tryd.func26, Tryd.ntmps26
  go_wp2_with fail
  refine H1.out.mono ?_
  clear H1
  rintro e w1 ⟨rfl, hd1⟩
  go_wp2_with fail
  refine (H2.out _ hd1.st).mono ?_
  clear H2
  rintro e w2 ⟨rfl, hd2⟩
  have hd := hd1.trans hd2
  clear hd1 hd2
  have hgl := hd.st.lt
  rcases (by omega : x = 0 ∨ x = 1 ∨ x = 2 ∨ (3 ≤ x ∧ x ≤ 9)) with hx | hx | hx | hx
  · subst hx
    go_wp2
    go_ret
    exact ⟨s.extract 0 i, c2, rfl, by rw [ByteArray.size_extract]; omega, hd⟩
  · subst hx
    have P3 := Lib.hid (pick_any n₀ g len cap w2.heap.size 6 a zs c2 bentTab ((w2.alloc (.cells #[.string ⟨#[48]⟩, .string ⟨#[32]⟩, .string ⟨#[255]⟩, .string ⟨#[10]⟩, .string ⟨#[97]⟩, .string ⟨#[45]⟩] 9)).drew) (hd.alloc _).drew1.st (by omega) (by omega) rfl (by omega) (by
      intro k hk
      show (w2.alloc _).cell? _ = _
      rw [lit_cell]
      rcases (by omega : k = 0 ∨ k = 1 ∨ k = 2 ∨ k = 3 ∨ k = 4 ∨ k = 5) with rfl | rfl | rfl | rfl | rfl | rfl <;> rfl))
    have hts := bentTab_size (belowF zs len c2 (6 : Nat)).1.toNat
    generalize bentTab[(belowF zs len c2 (6 : Nat)).1.toNat]?.getD ByteArray.empty = y at *
    have hx1 : (s.extract 0 i).size ≤ 1000 := by rw [ByteArray.size_extract]; omega
    have hx2 : (s.extract i s.size).size ≤ 1000 := by rw [ByteArray.size_extract]; omega
    have hx3 : ¬ 9223372036854775807 < i + y.size := by omega
    have hx4 : ¬ 9223372036854775807 < i + y.size + (s.size - i) := by omega
    go_upto_region 6 with fail
    go_region_held3 (fun _ => True) (exact trivial)
      (first | (go_at_call 38; refine P3.out.mono ?_; rintro e w3 ⟨rfl, hd3⟩))
    all_goals go_wp2
    all_goals go_ret
    have hD := (hd.alloc _).drew1.trans hd3
    exact ⟨_, _, rfl, by simp only [ByteArray.size_append]; omega, hD⟩
  · subst hx
    by_cases hlt : i < s.size
    · have y2 : (i : Int) < (s.size : Int) := by omega
      have y3 : (0 : Int) ≤ (i : Int) + 1 := by omega
      have y4 : (i : Int) + 1 ≤ (s.size : Int) := by omega
      have ew : IntKind.i64.wrap ((i : Int) + 1) = (i : Int) + 1 := IntWalk.i64_in _ (by omega)
      have et : ((i : Int) + 1).toNat = i + 1 := by omega
      have P3 := Lib.hid (pick_any n₀ g len cap w2.heap.size 5 a zs c2 bentTab2 ((w2.alloc (.cells #[.string ⟨#[48]⟩, .string ⟨#[65]⟩, .string ⟨#[0]⟩, .string ⟨#[57]⟩, .string ⟨#[102]⟩] 9)).drew) (hd.alloc _).drew1.st (by omega) (by omega) rfl (by omega) (by
        intro k hk
        show (w2.alloc _).cell? _ = _
        rw [lit_cell]
        rcases (by omega : k = 0 ∨ k = 1 ∨ k = 2 ∨ k = 3 ∨ k = 4) with rfl | rfl | rfl | rfl | rfl <;> rfl))
      have hts := bentTab2_size (belowF zs len c2 (5 : Nat)).1.toNat
      generalize bentTab2[(belowF zs len c2 (5 : Nat)).1.toNat]?.getD ByteArray.empty = y at *
      have hx1 : (s.extract 0 i).size ≤ 1000 := by rw [ByteArray.size_extract]; omega
      have hx2 : (s.extract (i + 1) s.size).size ≤ 1000 := by rw [ByteArray.size_extract]; omega
      have hx3 : ¬ 9223372036854775807 < i + y.size := by omega
      have hx4 : ¬ 9223372036854775807 < i + y.size + (s.size - (i + 1)) := by omega
      go_upto_region 9 with fail
      go_region_held3 (fun _ => True) (exact trivial)
        (first | (go_at_call 38; refine P3.out.mono ?_; rintro e w3 ⟨rfl, hd3⟩))
      all_goals go_wp2
      all_goals go_ret
      have hD := (hd.alloc _).drew1.trans hd3
      exact ⟨_, _, rfl, by simp only [ByteArray.size_append]; omega, hD⟩
    · have y2 : ¬ (i : Int) < (s.size : Int) := by omega
      go_wp2
      go_ret
      exact ⟨s, c2, rfl, by omega, hd⟩
  · have e0 : (x == 0) = false := by simp; omega
    have e1 : (x == 1) = false := by simp; omega
    have e2 : (x == 2) = false := by simp; omega
    go_wp2
    go_ret
    exact ⟨s, c2, rfl, by omega, hd⟩
end Go.Proofs.YtbkeggklfaepnaaDoor
