/- The draws of keys' texts. -/
import Derived.Test.YtbhdgkaeackbkaaDoorBent
import Derived.Test.YtbhdgkaeackbkaaDoorDrawL
import Derived.Test.YtbhdgkaeackbkaaDoorDrawO
import Derived.Test.YtbhdgkaeackbkaaDoorDrawP
import Derived.Test.YtbhdgkaeackbkaaDoorKeyTs
namespace Go.Proofs.YtbhdgkaeackbkaaDoor
open Go.ChangeShapes Go.WideShapes Go.ChangeAt Go.RowKit
set_option linter.unusedVariables false

theorem kIn_of_bd {k : K2} (h : kBd k) : kIn k := by
  unfold kBd at h; unfold kIn; omega
set_option maxRecDepth 100000 in
theorem drawkeytext_any (n₀ len cap : Nat) (a : Option Addr) (zs : List Int) (w : World) (hc : CodeAt n₀ w a len zs) (hw : n₀ ≤ w.heap.size) :
    Calls Tryd.prog 7 #[.slice a len cap] w fun e w' => ∃ (v : Value) (ks : List K2), e = .returned v ∧ ks.length ≤ 6 ∧ (∀ k ∈ ks, kBd k) ∧ w'.ownsRow w.heap.size 43 2 v ks.length (keyCells ks) ∧ Below w.heap.size w w' := by
  have H1 := Lib.hid (new_any n₀ len cap a zs w hc hw); clear hc
  go_enter Tryd.func7, Tryd.ntmps7
  go_wp2_with fail
  refine H1.out.mono ?_
  clear H1
  rintro e w1 ⟨g, rfl, hg, hst, hb0, hgr0⟩
  have hz1 := hgr0.size
  go_wp2_with fail
  refine (anykeys_any n₀ g len cap a zs (newC zs len) w1 hst).mono ?_
  rintro e w2 ⟨v, ks, c1, rfl, hkl, hkb, hown, hd⟩
  have hN := new_below hgr0 hg hd.grown
  have ho := own_base hown hz1
  clear hown hd hst hb0 hgr0
  go_wp2
  go_ret
  first | exact ⟨v, ks, rfl, hkl, hkb, ho, hN⟩ | exact ⟨v, ks, rfl, hkl, fun a b h => hkb (a, b) h, ho, hN⟩
set_option maxRecDepth 100000 in
set_option maxHeartbeats 1000000 in
theorem drawreadkeys_any (n₀ len cap : Nat) (a : Option Addr) (zs : List Int) (w : World) (hc : CodeAt n₀ w a len zs) (hw : n₀ ≤ w.heap.size) :
    Calls Tryd.prog 13 #[.slice a len cap] w fun e w' => ∃ s : ByteArray, e = .returned (.string s) ∧ s.size ≤ 3000 ∧ Below w.heap.size w w' := by
  have H1 := Lib.hid (new_any n₀ len cap a zs w hc hw); clear hc
  go_enter Tryd.func13, Tryd.ntmps13
  go_wp2_with fail
  refine H1.out.mono ?_
  clear H1
  rintro e w1 ⟨g, rfl, hg, hst, hb0, hgr0⟩
  have hb := new_below hgr0 hg (World.grownBy.refl w1 _)
  clear hb0
  go_wp2_with fail
  refine (once_any n₀ g len cap a zs (newC zs len) 6 w1 hst (by omega)).mono ?_
  rintro e w2 ⟨rfl, hd⟩
  have hB := new_below hgr0 hg hd.grown
  generalize belowF zs len (newC zs len) 6 = b at *
  obtain ⟨x, c'⟩ := b
  dsimp only at *
  have hg1 := hst.lt
  clear hst
  have hgl := hd.st.lt
  by_cases hx : x = 0
  · subst hx
    go_wp2_with fail
    refine (pick_any n₀ g len cap w2.heap.size 10 a zs c' [⟨#[]⟩, ⟨#[44]⟩, ⟨#[49]⟩, ⟨#[49, 46, 49, 44]⟩, ⟨#[48, 49, 46, 49]⟩, ⟨#[49, 46, 49, 44, 49, 46, 49]⟩, ⟨#[50, 46, 49, 44, 49, 46, 49]⟩, ⟨#[50, 49, 46, 49]⟩, ⟨#[49, 46, 48]⟩, ⟨#[49, 46, 49, 46, 49]⟩] _ (hd.alloc _).st (by omega) (by omega) rfl (by omega) ?_).mono ?_
    · intro k hk
      rw [lit_cell]
      rcases (by omega : k = 0 ∨ k = 1 ∨ k = 2 ∨ k = 3 ∨ k = 4 ∨ k = 5 ∨ k = 6 ∨ k = 7 ∨ k = 8 ∨ k = 9) with rfl | rfl | rfl | rfl | rfl | rfl | rfl | rfl | rfl | rfl <;> rfl
    · rintro e w3 ⟨rfl, hd3⟩
      have hD := (hd.alloc _).trans hd3
      have hb2 := belowF_bd zs len c' (10 : Nat)
      generalize (belowF zs len c' (10 : Nat)).1 = y at *
      have hsz : (([⟨#[]⟩, ⟨#[44]⟩, ⟨#[49]⟩, ⟨#[49, 46, 49, 44]⟩, ⟨#[48, 49, 46, 49]⟩, ⟨#[49, 46, 49, 44, 49, 46, 49]⟩, ⟨#[50, 46, 49, 44, 49, 46, 49]⟩, ⟨#[50, 49, 46, 49]⟩, ⟨#[49, 46, 48]⟩, ⟨#[49, 46, 49, 46, 49]⟩] : List ByteArray)[y.toNat]?.getD ByteArray.empty).size ≤ 3000 := by
        rcases (by omega : y.toNat = 0 ∨ y.toNat = 1 ∨ y.toNat = 2 ∨ y.toNat = 3 ∨ y.toNat = 4 ∨ y.toNat = 5 ∨ y.toNat = 6 ∨ y.toNat = 7 ∨ y.toNat = 8 ∨ y.toNat = 9) with h | h | h | h | h | h | h | h | h | h <;> rw [h] <;> decide
      generalize ([⟨#[]⟩, ⟨#[44]⟩, ⟨#[49]⟩, ⟨#[49, 46, 49, 44]⟩, ⟨#[48, 49, 46, 49]⟩, ⟨#[49, 46, 49, 44, 49, 46, 49]⟩, ⟨#[50, 46, 49, 44, 49, 46, 49]⟩, ⟨#[50, 49, 46, 49]⟩, ⟨#[49, 46, 48]⟩, ⟨#[49, 46, 49, 46, 49]⟩] : List ByteArray)[y.toNat]?.getD ByteArray.empty = z at *
      go_wp2
      go_ret
      exact ⟨_, rfl, hsz, new_below hgr0 hg hD.grown⟩
  · have hb0 : (x == 0) = false := by simpa using hx
    go_wp2_with fail
    refine (keys_any n₀ g len cap a zs c' w2 hd.st).mono ?_
    rintro e w3 ⟨v, ks, c3, rfl, hkl, hkb, hown, hd3⟩
    have hlen := keyText_len _ ks rfl (fun k hk => kIn_of_bd (hkb k hk))
    go_wp2_with fail
    refine (skeytext_any v ks _ (keysAt_own hown) (by omega) (fun k hk => kIn_of_bd (hkb k hk))).mono ?_
    rintro e w4 ⟨rfl, hb4⟩
    have hD3 := hd.trans hd3
    have hD4 := hD3.grow hg1 (grown_of_below' hb4 none) (fun b e => by cases e)
    clear hown hb4
    go_wp2_with fail
    refine (bent_any n₀ g len cap a zs c3 (tB (keyTextL ks)) w4 hD4.st (by rw [tB_size]; omega)).mono ?_
    rintro e w5 ⟨r, c5, rfl, hr, hd5⟩
    have hF := new_below hgr0 hg (hD4.trans hd5).grown
    go_wp2
    go_ret
    exact ⟨_, rfl, hr, hF⟩
end Go.Proofs.YtbhdgkaeackbkaaDoor
