/- Draws: one of several texts. -/
import Derived.Test.YtbkeggklfaepnaaDraw2
namespace Go.Proofs.Ytbkeggklfaepnaa
open Go.ChangeShapes Go.WideShapes Go.ChangeAt Go.RowKit
set_option linter.unusedVariables false

theorem pick_any (n₀ g len cap lb n : Nat) (a : Option Addr) (zs : List Int) (c : Cu) (xs : List ByteArray) (w : World) (hs : DrawSt n₀ w g a len cap zs c.i c.h) (hn : 0 < n) (hn2 : n ≤ 256) (hx : xs.length = n) (hlg : lb ≠ g)
    (hcells : ∀ k, k < n → w.cell? ⟨lb, k, none⟩ = some (.string (xs[k]?.getD ByteArray.empty))) :
    Calls Try.prog 51 #[.pointer (some ⟨g, 0, none⟩), .slice (some ⟨lb, 0, none⟩) n n] w fun e w' => e = .returned (.string (xs[(belowF zs len c n).1.toNat]?.getD ByteArray.empty)) ∧ Drew n₀ g a len cap zs (belowF zs len c n).2 w w' := by
  have H1 := Lib.hid (below_any n₀ g len cap a zs c n w hs (by omega)); clear hs
  have hbd := belowF_bd zs len c n
  generalize belowF zs len c n = b at *
  obtain ⟨x, c'⟩ := b
  dsimp only at *
  have hx0 : 0 ≤ x := hbd.1
  have hx1 : x < (n : Int) := hbd.2 (by omega)
  obtain ⟨m, rfl⟩ : ∃ m : Nat, x = m := ⟨x.toNat, by omega⟩
  have hm : m < n := by omega
  have hc := hcells m hm
  have e1 : (m : Int).toNat = m := by omega
  rw [e1]
  generalize xs[m]?.getD ByteArray.empty = y at *
  clear hcells hbd
  go_enter Try.func51, Try.ntmps51
  go_wp2_with fail
  refine H1.out.mono ?_
  clear H1
  rintro e w1 ⟨rfl, hd⟩
  have hc1 : w1.cell? ⟨lb, m, none⟩ = some (.string y) := hd.grown.cell hc (by simpa using hlg)
  go_wp2
  go_ret
  exact ⟨rfl, hd⟩

end Go.Proofs.Ytbkeggklfaepnaa
