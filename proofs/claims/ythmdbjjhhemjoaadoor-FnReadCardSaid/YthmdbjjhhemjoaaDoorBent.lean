/- Texts that are drawn and bent. -/
import Derived.Test.YthmdbjjhhemjoaaDoorText
import Derived.Deep.RegionHeld3
import Derived.Deep.Cut
namespace Go.Proofs.YthmdbjjhhemjoaaDoor
open Go.ChangeShapes Go.WideShapes Go.ChangeAt Go.RowKit
set_option linter.unusedVariables false

theorem CodeAt.drew {n₀ : Nat} {w : World} {a : Option Addr} {len : Nat} {zs : List Int} (h : CodeAt n₀ w a len zs) (k : Nat) : CodeAt n₀ (w.drewN k) a len zs := h
theorem DrawSt.drew {n₀ g : Nat} {a : Option Addr} {len cap : Nat} {zs : List Int} {i : Nat} {h : Int} {w : World} (hs : DrawSt n₀ w g a len cap zs i h) (k : Nat) : DrawSt n₀ (w.drewN k) g a len cap zs i h :=
  ⟨hs.code.drew k, hs.cur, hs.hg, hs.hi⟩
theorem Drew.drew {n₀ g : Nat} {a : Option Addr} {len cap : Nat} {zs : List Int} {c : Cu} {w w1 : World} (h : Drew n₀ g a len cap zs c w w1) (k : Nat) : Drew n₀ g a len cap zs c w (w1.drewN k) :=
  ⟨h.st.drew k, h.below.trans ⟨rfl, rfl, rfl, Nat.le_refl _, fun _ _ => rfl⟩, grownT h.grown ⟨rfl, rfl, rfl, Nat.le_refl _, fun _ _ _ => rfl⟩⟩
theorem Drew.drew1 {n₀ g : Nat} {a : Option Addr} {len cap : Nat} {zs : List Int} {c : Cu} {w w1 : World} (h : Drew n₀ g a len cap zs c w w1) : Drew n₀ g a len cap zs c w w1.drew := h.drew 1

theorem hexL_size (s : ByteArray) : (hexL s.data.toList).length = 2 * s.size := by
  have : ∀ l : List UInt8, (hexL l).length = 2 * l.length := by
    intro l
    induction l with
    | nil => rfl
    | cons c r ih => rw [show hexL (c :: r) = [hdig (c.toNat / 16), hdig (c.toNat % 16)] ++ hexL r from rfl]; simp [ih]; omega
  rw [this]; simp
def bentTab : List ByteArray := [⟨#[48]⟩, ⟨#[32]⟩, ⟨#[255]⟩, ⟨#[10]⟩, ⟨#[97]⟩, ⟨#[45]⟩]
def bentTab2 : List ByteArray := [⟨#[48]⟩, ⟨#[65]⟩, ⟨#[0]⟩, ⟨#[57]⟩, ⟨#[102]⟩]
theorem bentTab_size (i : Nat) : (bentTab[i]?.getD ByteArray.empty).size ≤ 1 := by
  unfold bentTab
  rcases (by omega : i = 0 ∨ i = 1 ∨ i = 2 ∨ i = 3 ∨ i = 4 ∨ i = 5 ∨ 6 ≤ i) with rfl | rfl | rfl | rfl | rfl | rfl | h
  · decide
  · decide
  · decide
  · decide
  · decide
  · decide
  · rw [List.getElem?_eq_none (by simpa using h)]; decide
theorem bentTab2_size (i : Nat) : (bentTab2[i]?.getD ByteArray.empty).size ≤ 1 := by
  unfold bentTab2
  rcases (by omega : i = 0 ∨ i = 1 ∨ i = 2 ∨ i = 3 ∨ i = 4 ∨ 5 ≤ i) with rfl | rfl | rfl | rfl | rfl | h
  · decide
  · decide
  · decide
  · decide
  · decide
  · rw [List.getElem?_eq_none (by simpa using h)]; decide

set_option maxRecDepth 100000 in
set_option maxHeartbeats 2000000 in
theorem bent_any (n₀ g len cap : Nat) (a : Option Addr) (zs : List Int) (c : Cu) (s : ByteArray) (w : World) (hs : DrawSt n₀ w g a len cap zs c.i c.h) (hz : s.size ≤ 1000) :
    Calls Tryd.prog 41 #[.pointer (some ⟨g, 0, none⟩), .string s] w fun e w' => ∃ (r : ByteArray) (c' : Cu), e = .returned (.string r) ∧ r.size ≤ 3000 ∧ Drew n₀ g a len cap zs c' w w' := by
  have H1 := Lib.hid (below_any n₀ g len cap a zs c ((s.size : Int) + 1) w hs (by omega)); clear hs
  have hbd := belowF_bd zs len c ((s.size : Int) + 1)
  generalize belowF zs len c ((s.size : Int) + 1) = b at *
  obtain ⟨i, c1⟩ := b
  dsimp only at *
  have H2 := Lib.hid (fun w hs => below_any n₀ g len cap a zs c1 10 w hs (by omega))
  have hbd2 := belowF_bd zs len c1 10
  generalize belowF zs len c1 10 = b at *
  obtain ⟨x, c2⟩ := b
  dsimp only at *
  obtain ⟨i, rfl⟩ : ∃ m : Nat, i = m := ⟨i.toNat, by omega⟩
  have hi1 : i ≤ s.size := by have := hbd.2 (by omega); omega
  clear hbd
  have y0 : (0 : Int) ≤ (i : Int) := by omega
  have y1 : (i : Int) ≤ (s.size : Int) := by omega
  go_enter Tryd.func41, Tryd.ntmps41
  go_wp2_with fail
  refine H1.out.mono ?_
  clear H1
  rintro e w1 ⟨rfl, hd1⟩
  go_wp2_with fail
  refine (H2.out _ hd1.st).mono ?_
  clear H2
  rintro e w2 ⟨rfl, hd2⟩
  have hd := hd1.trans hd2
  clear hd1 hd2
  have hgl := hd.st.lt
  rcases (by omega : x = 0 ∨ x = 1 ∨ x = 2 ∨ (3 ≤ x ∧ x ≤ 9)) with hx | hx | hx | hx
  · subst hx
    go_wp2
    go_ret
    exact ⟨s.extract 0 i, c2, rfl, by rw [ByteArray.size_extract]; omega, hd⟩
  · subst hx
    have P3 := Lib.hid (pick_any n₀ g len cap w2.heap.size 6 a zs c2 bentTab ((w2.alloc (.cells #[.string ⟨#[48]⟩, .string ⟨#[32]⟩, .string ⟨#[255]⟩, .string ⟨#[10]⟩, .string ⟨#[97]⟩, .string ⟨#[45]⟩] 9)).drew) (hd.alloc _).drew1.st (by omega) (by omega) rfl (by omega) (by
      intro k hk
      show (w2.alloc _).cell? _ = _
      rw [lit_cell]
      rcases (by omega : k = 0 ∨ k = 1 ∨ k = 2 ∨ k = 3 ∨ k = 4 ∨ k = 5) with rfl | rfl | rfl | rfl | rfl | rfl <;> rfl))
    have hts := bentTab_size (belowF zs len c2 (6 : Nat)).1.toNat
    generalize bentTab[(belowF zs len c2 (6 : Nat)).1.toNat]?.getD ByteArray.empty = y at *
    have hx1 : (s.extract 0 i).size ≤ 1000 := by rw [ByteArray.size_extract]; omega
    have hx2 : (s.extract i s.size).size ≤ 1000 := by rw [ByteArray.size_extract]; omega
    have hx3 : ¬ 9223372036854775807 < i + y.size := by omega
    have hx4 : ¬ 9223372036854775807 < i + y.size + (s.size - i) := by omega
    go_upto_region 6 with fail
    go_region_held3 (fun _ => True) (exact trivial)
      (first | (go_at_call 40; refine P3.out.mono ?_; rintro e w3 ⟨rfl, hd3⟩))
    all_goals go_wp2
    all_goals go_ret
    have hD := (hd.alloc _).drew1.trans hd3
    exact ⟨_, _, rfl, by simp only [ByteArray.size_append]; omega, hD⟩
  · subst hx
    by_cases hlt : i < s.size
    · have y2 : (i : Int) < (s.size : Int) := by omega
      have y3 : (0 : Int) ≤ (i : Int) + 1 := by omega
      have y4 : (i : Int) + 1 ≤ (s.size : Int) := by omega
      have ew : IntKind.i64.wrap ((i : Int) + 1) = (i : Int) + 1 := IntWalk.i64_in _ (by omega)
      have et : ((i : Int) + 1).toNat = i + 1 := by omega
      have P3 := Lib.hid (pick_any n₀ g len cap w2.heap.size 5 a zs c2 bentTab2 ((w2.alloc (.cells #[.string ⟨#[48]⟩, .string ⟨#[65]⟩, .string ⟨#[0]⟩, .string ⟨#[57]⟩, .string ⟨#[102]⟩] 9)).drew) (hd.alloc _).drew1.st (by omega) (by omega) rfl (by omega) (by
        intro k hk
        show (w2.alloc _).cell? _ = _
        rw [lit_cell]
        rcases (by omega : k = 0 ∨ k = 1 ∨ k = 2 ∨ k = 3 ∨ k = 4) with rfl | rfl | rfl | rfl | rfl <;> rfl))
      have hts := bentTab2_size (belowF zs len c2 (5 : Nat)).1.toNat
      generalize bentTab2[(belowF zs len c2 (5 : Nat)).1.toNat]?.getD ByteArray.empty = y at *
      have hx1 : (s.extract 0 i).size ≤ 1000 := by rw [ByteArray.size_extract]; omega
      have hx2 : (s.extract (i + 1) s.size).size ≤ 1000 := by rw [ByteArray.size_extract]; omega
      have hx3 : ¬ 9223372036854775807 < i + y.size := by omega
      have hx4 : ¬ 9223372036854775807 < i + y.size + (s.size - (i + 1)) := by omega
      go_upto_region 9 with fail
      go_region_held3 (fun _ => True) (exact trivial)
        (first | (go_at_call 40; refine P3.out.mono ?_; rintro e w3 ⟨rfl, hd3⟩))
      all_goals go_wp2
      all_goals go_ret
      have hD := (hd.alloc _).drew1.trans hd3
      exact ⟨_, _, rfl, by simp only [ByteArray.size_append]; omega, hD⟩
    · have y2 : ¬ (i : Int) < (s.size : Int) := by omega
      go_wp2
      go_ret
      exact ⟨s, c2, rfl, by omega, hd⟩
  · have e0 : (x == 0) = false := by simp; omega
    have e1 : (x == 1) = false := by simp; omega
    have e2 : (x == 2) = false := by simp; omega
    go_wp2
    go_ret
    exact ⟨s, c2, rfl, by omega, hd⟩

theorem drawhex_any (n₀ len cap : Nat) (a : Option Addr) (zs : List Int) (w : World) (hc : CodeAt n₀ w a len zs) (hw : n₀ ≤ w.heap.size) :
    Calls Tryd.prog 12 #[.slice a len cap] w fun e w' => ∃ s : ByteArray, e = .returned (.string s) ∧ s.size ≤ 5 ∧ Below w.heap.size w w' := by
  have H1 := Lib.hid (new_any n₀ len cap a zs w hc hw); clear hc
  go_enter Tryd.func12, Tryd.ntmps12
  go_wp2_with fail
  refine H1.out.mono ?_
  clear H1
  rintro e w1 ⟨g, rfl, hg, hst, hb0, hgr0⟩
  go_wp2_with fail
  refine (below_any n₀ g len cap a zs (newC zs len) 6 w1 hst (by omega)).mono ?_
  rintro e w2 ⟨rfl, hd⟩
  have hbd := belowF_bd zs len (newC zs len) 6
  generalize belowF zs len (newC zs len) 6 = b at *
  obtain ⟨x, c'⟩ := b
  dsimp only at *
  obtain ⟨n, rfl⟩ : ∃ n : Nat, x = n := ⟨x.toNat, by omega⟩
  go_wp2_with fail
  refine (text_any n₀ g len cap a zs c' n w2 hd.st (by omega)).mono ?_
  rintro e w3 ⟨s, c3, rfl, hs, hd3⟩
  go_wp2
  go_ret
  exact ⟨s, rfl, by omega, new_below hgr0 hg (grownT hd.grown hd3.grown)⟩

theorem drawreadhex_any (n₀ len cap : Nat) (a : Option Addr) (zs : List Int) (w : World) (hc : CodeAt n₀ w a len zs) (hw : n₀ ≤ w.heap.size) :
    Calls Tryd.prog 19 #[.slice a len cap] w fun e w' => ∃ s : ByteArray, e = .returned (.string s) ∧ s.size ≤ 3000 ∧ Below w.heap.size w w' := by
  have H1 := Lib.hid (new_any n₀ len cap a zs w hc hw); clear hc
  go_enter Tryd.func19, Tryd.ntmps19
  go_wp2_with fail
  refine H1.out.mono ?_
  clear H1
  rintro e w1 ⟨g, rfl, hg, hst, hb0, hgr0⟩
  go_wp2_with fail
  refine (once_any n₀ g len cap a zs (newC zs len) 4 w1 hst (by omega)).mono ?_
  rintro e w2 ⟨rfl, hd⟩
  generalize belowF zs len (newC zs len) 4 = b at *
  obtain ⟨x, c'⟩ := b
  dsimp only at *
  clear hst
  have hgl := hd.st.lt
  by_cases hx : x = 0
  · subst hx
    go_wp2_with fail
    refine (pick_any n₀ g len cap w2.heap.size 6 a zs c' [⟨#[]⟩, ⟨#[97]⟩, ⟨#[70, 70]⟩, ⟨#[48, 103]⟩, ⟨#[48, 48, 102, 102]⟩, ⟨#[97, 98, 99]⟩] _ (hd.alloc _).st (by omega) (by omega) rfl (by omega) ?_).mono ?_
    · intro k hk
      rw [lit_cell]
      rcases (by omega : k = 0 ∨ k = 1 ∨ k = 2 ∨ k = 3 ∨ k = 4 ∨ k = 5) with rfl | rfl | rfl | rfl | rfl | rfl <;> rfl
    · rintro e w3 ⟨rfl, hd3⟩
      have hD := (hd.alloc _).trans hd3
      have hb2 := belowF_bd zs len c' (6 : Nat)
      generalize (belowF zs len c' (6 : Nat)).1 = y at *
      have hsz : ([⟨#[]⟩, ⟨#[97]⟩, ⟨#[70, 70]⟩, ⟨#[48, 103]⟩, ⟨#[48, 48, 102, 102]⟩, ⟨#[97, 98, 99]⟩][y.toNat]?.getD ByteArray.empty).size ≤ 3000 := by
        rcases (by omega : y.toNat = 0 ∨ y.toNat = 1 ∨ y.toNat = 2 ∨ y.toNat = 3 ∨ y.toNat = 4 ∨ y.toNat = 5) with h | h | h | h | h | h <;> rw [h] <;> decide
      generalize [⟨#[]⟩, ⟨#[97]⟩, ⟨#[70, 70]⟩, ⟨#[48, 103]⟩, ⟨#[48, 48, 102, 102]⟩, ⟨#[97, 98, 99]⟩][y.toNat]?.getD ByteArray.empty = z at *
      go_wp2
      go_ret
      exact ⟨_, rfl, hsz, new_below hgr0 hg hD.grown⟩
  · have hb0 : (x == 0) = false := by simpa using hx
    go_wp2_with fail
    refine (below_any n₀ g len cap a zs c' 5 w2 hd.st (by omega)).mono ?_
    rintro e w3 ⟨rfl, hd3⟩
    have hb2 := belowF_bd zs len c' 5
    generalize belowF zs len c' 5 = b at *
    obtain ⟨y, c3⟩ := b
    dsimp only at *
    obtain ⟨n, rfl⟩ : ∃ n : Nat, y = n := ⟨y.toNat, by omega⟩
    go_wp2_with fail
    refine (text_any n₀ g len cap a zs c3 n w3 hd3.st (by omega)).mono ?_
    rintro e w4 ⟨s, c4, rfl, hs, hd4⟩
    have hn5 : n < 5 := by omega
    go_wp2_with fail
    refine (shex_any s w4 (by omega)).mono ?_
    rintro e w5 ⟨rfl, hb5⟩
    have hd5 : Drew n₀ g a len cap zs c4 w4 w5 := (⟨hd4.st, Below.refl _ _, World.grownBy.refl _ _⟩ : Drew n₀ g a len cap zs c4 w4 w4).grow hd4.st.lt (grown_of_below' hb5 none) (by simp)
    have hsz : (strOfNums (hexL s.data.toList)).size ≤ 10 := by
      rw [strOfNums_size, hexL_size]; omega
    generalize strOfNums (hexL s.data.toList) = t at *
    go_wp2_with fail
    refine (bent_any n₀ g len cap a zs c4 t w5 hd5.st (by omega)).mono ?_
    rintro e w6 ⟨r, c6, rfl, hr, hd6⟩
    go_wp2
    go_ret
    exact ⟨_, rfl, hr, new_below hgr0 hg (grownT hd.grown (grownT hd3.grown (grownT hd4.grown (grownT hd5.grown hd6.grown))))⟩
end Go.Proofs.YthmdbjjhhemjoaaDoor
