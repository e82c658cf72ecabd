/- Chapter 3's draws for the laws. -/
import Derived.Test.YtbhdgkaeackbkaaDrawL
namespace Go.Proofs.Ytbhdgkaeackbkaa
open Go.ChangeShapes Go.WideShapes Go.ChangeAt Go.RowKit
set_option linter.unusedVariables false

theorem grown_keeps {w w1 : World} (h : w.grownBy w1 none) {b : Nat} {o : Obj} (hb : w.heap[b]? = some o) : w1.heap[b]? = some o := by
  rw [h.block b (Array.getElem?_eq_some_iff.1 hb).1 (by simp)]
  exact hb
theorem drawkeyok_any (n₀ len cap : Nat) (a : Option Addr) (zs : List Int) (w : World) (hc : CodeAt n₀ w a len zs) (hw : n₀ ≤ w.heap.size) :
    Calls Try.prog 20 #[.slice a len cap] w fun e w' => ∃ k : K2, e = .returned (kv k) ∧ Below w.heap.size w w' := by
  have hb00 := Below.refl n₀ w
  have hW0 : Below n₀ w (w.alloc (.cells #[.int .i64 0, .int .i64 0] 25)) := (hb00.alloc (by omega) _)
  have hsz0 : (w.alloc (.cells #[.int .i64 0, .int .i64 0] 25)).heap.size = w.heap.size + 1 := by simp
  have H1 := Lib.hid (new_any n₀ len cap a zs (w.alloc (.cells #[.int .i64 0, .int .i64 0] 25)) (hc.below hW0) (by omega)); clear hc hW0 hb00
  have hq0 : (w.alloc (.cells #[.int .i64 0, .int .i64 0] 25)).heap[w.heap.size]? = some (.cells #[.int .i64 0, .int .i64 0] 25) := heap_alloc_new w _
  have hBW : Below w.heap.size w (w.alloc (.cells #[.int .i64 0, .int .i64 0] 25)) := (Below.refl _ _).alloc (Nat.le_refl _) _
  go_enter Try.func20, Try.ntmps20
  go_wp2_with fail
  generalize (w.alloc (.cells #[.int .i64 0, .int .i64 0] 25)) = W at *
  refine H1.out.mono ?_
  clear H1
  rintro e w1 ⟨g, rfl, hg, hst, hb0, hgr0⟩
  have hr0 := grown_keeps hgr0 hq0
  go_wp2_with fail
  refine (odd_any n₀ g len cap a zs (newC zs len) w1 hst).mono ?_
  rintro e w2 ⟨⟨p, q⟩, c1, rfl, hk, hd⟩
  have hr2 := hd.keeps hr0 (by omega)
  obtain ⟨s1, s2, s3, s4, s5, s6⟩ := two_set (.int .i64 0) (.int .i64 0) (.int .i64 p) (.int .i64 q) hr2
  have hN := hBW.trans ((new_below hgr0 hg hd.grown).mono (by omega))
  have hF := Lib.hid ((hN.setCell (p := ⟨w.heap.size, 0, none⟩) (Nat.le_refl _) (.int .i64 p)).setCell (p := ⟨w.heap.size, 1, none⟩) (Nat.le_refl _) (.int .i64 q))
  have S56 := Lib.hid (And.intro s5 s6)
  have hsz : w.heap.size < w2.heap.size := (Array.getElem?_eq_some_iff.1 hr2).1
  clear s5 s6 hN hr2 hr0 hd hst hgr0 hb0 hBW hq0
  unfold kv
  dsimp only
  go_wp2
  refine bodyPost_ret (v := kv (p, q)) ?_ rfl ⟨⟨p, q, rfl⟩, hF.out⟩
  rw [results_cell (p := 2) (ty := 25) (by kernel_rfl)]
  have hl := key_load (k := (p, q)) (o := 0) S56.out (by simp [World.setCell]; omega) (Below.refl _ _)
  simp [asAddr, Result.andThen, hl]
theorem drawhaskey_any (n₀ len cap : Nat) (a : Option Addr) (zs : List Int) (w : World) (hc : CodeAt n₀ w a len zs) (hw : n₀ ≤ w.heap.size) :
    Calls Try.prog 15 #[.slice a len cap] w fun e w' => ∃ (v : Value) (ks : List K2) (k : K2), e = .returned (.tuple #[v, kv k]) ∧ ks.length ≤ 6 ∧ (∀ k ∈ ks, kBd k) ∧ w'.ownsRow w.heap.size 25 2 v ks.length (keyCells ks) ∧ Below w.heap.size w w' := by
  have hb00 := Below.refl n₀ w
  have hW0 : Below n₀ w (w.alloc (.cells #[.int .i64 0, .int .i64 0] 25)) := (hb00.alloc (by omega) _)
  have hsz0 : (w.alloc (.cells #[.int .i64 0, .int .i64 0] 25)).heap.size = w.heap.size + 1 := by simp
  have H1 := Lib.hid (new_any n₀ len cap a zs (w.alloc (.cells #[.int .i64 0, .int .i64 0] 25)) (hc.below hW0) (by omega)); clear hc hW0 hb00
  have hq0 : (w.alloc (.cells #[.int .i64 0, .int .i64 0] 25)).heap[w.heap.size]? = some (.cells #[.int .i64 0, .int .i64 0] 25) := heap_alloc_new w _
  have hBW : Below w.heap.size w (w.alloc (.cells #[.int .i64 0, .int .i64 0] 25)) := (Below.refl _ _).alloc (Nat.le_refl _) _
  go_enter Try.func15, Try.ntmps15
  go_wp2_with fail
  generalize (w.alloc (.cells #[.int .i64 0, .int .i64 0] 25)) = W at *
  refine H1.out.mono ?_
  clear H1
  rintro e w1 ⟨g, rfl, hg, hst, hb0, hgr0⟩
  have hr0 := grown_keeps hgr0 hq0
  go_wp2_with fail
  refine (anykeys_any n₀ g len cap a zs (newC zs len) w1 hst).mono ?_
  rintro e w2 ⟨v, ks, c1, rfl, hkl, hkb, hown, hd⟩
  have hgl := hst.lt
  go_wp2_with fail
  refine (key_any n₀ g len cap a zs c1 w2 hd.st).mono ?_
  rintro e w3 ⟨⟨p, q⟩, c2, rfl, hl, hd2⟩
  have hown2 := hown.kept hd2.grown (.inr fun e => by have := (hown.lt g e).1; omega)
  have hr2 := hd2.keeps (hd.keeps hr0 (by omega)) (by omega)
  obtain ⟨s1, s2, s3, s4, s5, s6⟩ := two_set (.int .i64 0) (.int .i64 0) (.int .i64 p) (.int .i64 q) hr2
  have hN := hBW.trans ((new_below hgr0 hg (grownT hd.grown hd2.grown)).mono (by omega))
  have hw1 := hgr0.size
  have hown3 := own_base (base := w.heap.size) (hown2.kept (grown_two w3 w.heap.size (.int .i64 p) (.int .i64 q)) (.inr fun e => by have := (hown2.lt _ e).1; omega)) (by omega)
  have hF := Lib.hid (And.intro hown3 ((hN.setCell (p := ⟨w.heap.size, 0, none⟩) (Nat.le_refl _) (.int .i64 p)).setCell (p := ⟨w.heap.size, 1, none⟩) (Nat.le_refl _) (.int .i64 q)))
  have S56 := Lib.hid (And.intro s5 s6)
  have hsz : w.heap.size < w3.heap.size := (Array.getElem?_eq_some_iff.1 hr2).1
  clear s5 s6 hN hr2 hr0 hd hd2 hst hgr0 hb0 hBW hq0 hown hown2 hown3
  unfold kv
  dsimp only
  go_wp2
  refine bodyPost_ret (v := .tuple #[v, kv (p, q)]) ?_ rfl ⟨v, ⟨p, q, rfl⟩, ks, hkl, fun a b h => hkb (a, b) h, hF.out.1, hF.out.2⟩
  rw [results_tmp_cell (u := 2) (p := 3) (ty := 25) (by kernel_rfl)]
  have hl := key_load (k := (p, q)) (o := 0) S56.out (by simp [World.setCell]; omega) (Below.refl _ _)
  simp [asAddr, Result.andThen, hl]
theorem drawparted_any (n₀ len cap : Nat) (a : Option Addr) (zs : List Int) (w : World) (hc : CodeAt n₀ w a len zs) (hw : n₀ ≤ w.heap.size) :
    Calls Try.prog 22 #[.slice a len cap] w fun e w' => ∃ (v u : Value) (ks ls : List K2), e = .returned (.tuple #[v, u]) ∧ ks.length ≤ 6 ∧ ls.length ≤ 6 ∧ (∀ k ∈ ks, kBd k) ∧ (∀ k ∈ ls, kBd k) ∧
      w'.ownsRow w.heap.size 25 2 v ks.length (keyCells ks) ∧ w'.ownsRow w.heap.size 25 2 u ls.length (keyCells ls) ∧ Below w.heap.size w w' := by
  have H1 := Lib.hid (new_any n₀ len cap a zs w hc hw); clear hc
  go_enter Try.func22, Try.ntmps22
  go_wp2_with fail
  refine H1.out.mono ?_
  clear H1
  rintro e w1 ⟨g, rfl, hg, hst, hb0, hgr0⟩
  go_wp2_with fail
  refine (anykeys_any n₀ g len cap a zs (newC zs len) w1 hst).mono ?_
  rintro e w2 ⟨v, ks, c1, rfl, hkl, hkb, hown, hd⟩
  have hgl := hst.lt
  go_wp2_with fail
  refine (anykeys_any n₀ g len cap a zs c1 w2 hd.st).mono ?_
  rintro e w3 ⟨u, ls, c2, rfl, hll, hlb, hown3, hd2⟩
  have hs2 := hd.grown.size
  have hown2 := own_base (base := w.heap.size) (hown.kept hd2.grown (.inr fun e => by have := (hown.lt g e).1; omega)) hgr0.size
  have hown4 := own_base (base := w.heap.size) hown3 (Nat.le_trans hgr0.size hs2)
  go_wp2
  go_ret2
  exact ⟨v, u, ks, ls, rfl, hkl, hll, hkb, hlb, hown2, hown4, new_below hgr0 hg (grownT hd.grown hd2.grown)⟩
theorem drawjoined_any (n₀ len cap : Nat) (a : Option Addr) (zs : List Int) (w : World) (hc : CodeAt n₀ w a len zs) (hw : n₀ ≤ w.heap.size) :
    Calls Try.prog 28 #[.slice a len cap] w fun e w' => ∃ (v u : Value) (ks ls : List K2), e = .returned (.tuple #[v, u]) ∧ ks.length ≤ 6 ∧ ls.length ≤ 6 ∧ (∀ k ∈ ks, kBd k) ∧ (∀ k ∈ ls, kBd k) ∧
      w'.ownsRow w.heap.size 25 2 v ks.length (keyCells ks) ∧ w'.ownsRow w.heap.size 25 2 u ls.length (keyCells ls) ∧ Below w.heap.size w w' := by
  have H1 := Lib.hid (new_any n₀ len cap a zs w hc hw); clear hc
  go_enter Try.func28, Try.ntmps28
  go_wp2_with fail
  refine H1.out.mono ?_
  clear H1
  rintro e w1 ⟨g, rfl, hg, hst, hb0, hgr0⟩
  go_wp2_with fail
  refine (anykeys_any n₀ g len cap a zs (newC zs len) w1 hst).mono ?_
  rintro e w2 ⟨v, ks, c1, rfl, hkl, hkb, hown, hd⟩
  have hgl := hst.lt
  go_wp2_with fail
  refine (anykeys_any n₀ g len cap a zs c1 w2 hd.st).mono ?_
  rintro e w3 ⟨u, ls, c2, rfl, hll, hlb, hown3, hd2⟩
  have hs2 := hd.grown.size
  have hown2 := own_base (base := w.heap.size) (hown.kept hd2.grown (.inr fun e => by have := (hown.lt g e).1; omega)) hgr0.size
  have hown4 := own_base (base := w.heap.size) hown3 (Nat.le_trans hgr0.size hs2)
  go_wp2
  go_ret2
  exact ⟨v, u, ks, ls, rfl, hkl, hll, hkb, hlb, hown2, hown4, new_below hgr0 hg (grownT hd.grown hd2.grown)⟩
end Go.Proofs.Ytbhdgkaeackbkaa
