/- Chapter 4's draws: lists that need not be right; what the laws draw. -/
import Derived.Test.YtbkeggklfaepnaaRdMa
namespace Go.Proofs.Ytbkeggklfaepnaa
open Go.ChangeShapes Go.WideShapes Go.ChangeAt Go.RowKit Go.BigFrame
set_option linter.unusedVariables false

theorem rd_newD (w : World) (p q : Int) (y : ByteArray) : rdAt (w.alloc (.cells #[.int .i64 p, .int .i64 q, .string y] 28)) (.slice (some ⟨w.heap.size, 0, none⟩) 1 1) [((p, q), y)] := rd_new w p q y
set_option maxRecDepth 100000 in
set_option maxHeartbeats 2000000 in
theorem l04any_any (n₀ g len cap : Nat) (a : Option Addr) (zs : List Int) (c : Cu) (w : World) (hs : DrawSt n₀ w g a len cap zs c.i c.h) :
    Calls Try.prog 32 #[.pointer (some ⟨g, 0, none⟩)] w fun e w' => ∃ (v : Value) (rs : List R3) (c' : Cu), e = .returned v ∧ rs.length ≤ 6 ∧ (∀ r ∈ rs, r.2.size ≤ 5) ∧ w'.ownsRow w.heap.size 28 3 v rs.length (rdCells rs) ∧ Drew n₀ g a len cap zs c' w w' := by
  have hgl := hs.lt
  go_enter Try.func32, Try.ntmps32
  go_wp2_with fail
  refine (l04make_any n₀ g len cap a zs c _ hs).mono ?_
  rintro e w1 ⟨v1, rs, c1, rfl, hrl, hsz, hown, hd1⟩
  have HSZ := Lib.hid hsz
  go_wp2_with fail
  refine (once_any n₀ g len cap a zs c1 8 _ hd1.st (by omega)).mono ?_
  rintro e w2 ⟨rfl, hd2⟩
  have hown2 := hown.kept hd2.grown (by
    cases hv : v1.ownBlock with
    | none => exact .inl rfl
    | some b => exact .inr (fun e => by cases e; have := (hown.lt _ hv).1; omega))
  have HD2 := Lib.hid (hd1.trans hd2)
  generalize (belowF zs len c1 8).2 = c2 at *
  generalize ((belowF zs len c1 8).1 == 0) = bo at *
  clear hown hd1 hd2 hsz hs
  cases bo with
  | false =>
    have HF := Lib.hid hown2
    clear hown2
    go_wp2
    go_ret
    exact ⟨_, rs, c2, rfl, by omega, HSZ.out, HF.out, HD2.out⟩
  | true =>
    have HO2 := Lib.hid hown2
    clear hown2
    go_wp2_with fail
    refine (l04odd_any n₀ g len cap a zs c2 _ HD2.out.st).mono ?_
    rintro e w3 ⟨⟨⟨p, q⟩, y⟩, c3, rfl, hk3, hy3, hd3⟩
    have hown3 := HO2.out.kept hd3.grown (by
      cases hv : v1.ownBlock with
      | none => exact .inl rfl
      | some b => exact .inr (fun e => by cases e; have := (HO2.out.lt _ hv).1; omega))
    have HD3 := Lib.hid (HD2.out.trans hd3)
    have hw3z := HD3.out.grown.size
    unfold rv
    dsimp only at *
    clear hd3 HO2 HD2
    go_wp2_with (at_builtin; refine wpList_append_rd rfl (.tmp 8) (.tmp 11) rfl (hown3.alloc _) _ [((p, q), y)] (rd_newD w3 p q y) rfl rfl (by simp; omega) (by simp; omega) ?_; intro v6 w6 hown6 hgr6)
    have hR : w6.ownsRow w.heap.size 28 3 v6 (rs.length + 1) (rdCells (rs ++ [((p, q), y)])) := by rw [rdCells_append]; exact hown6
    have HF := Lib.hid (And.intro hR ((HD3.out.alloc (.cells #[.int .i64 p, .int .i64 q, .string y] 28)).grow hgl hgr6 (fun b e => (hown3.lt b e).1)))
    clear hR hown6 hgr6 hown3 HD3
    go_wp2
    go_ret
    refine ⟨_, rs ++ [((p, q), y)], c3, rfl, by simp; omega, fun r hr => ?_, by simpa using HF.out.1, HF.out.2⟩
    rcases List.mem_append.1 hr with hr | hr
    · exact HSZ.out r hr
    · simp at hr; subst hr; exact hy3
end Go.Proofs.Ytbkeggklfaepnaa
