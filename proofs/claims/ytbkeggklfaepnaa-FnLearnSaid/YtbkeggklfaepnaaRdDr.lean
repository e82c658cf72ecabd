/- Chapter 4's draws: a reading. -/
import Derived.Test.YtbkeggklfaepnaaRdD
import Derived.Test.YtbkeggklfaepnaaCell
import Derived.Lib.BufferWrite
import Derived.Deep.RegionLaw
namespace Go.Proofs.Ytbkeggklfaepnaa
open Go.ChangeShapes Go.WideShapes Go.ChangeAt Go.RowKit Go.BigFrame
set_option linter.unusedVariables false

theorem Drew.drewR {n₀ g : Nat} {a : Option Addr} {len cap : Nat} {zs : List Int} {c : Cu} {w w1 : World} (h : Drew n₀ g a len cap zs c w w1) : Drew n₀ g a len cap zs c w w1.drew :=
  ⟨⟨h.st.code, h.st.cur, h.st.hg, h.st.hi⟩, h.below.drew, grownT h.grown ⟨rfl, rfl, rfl, Nat.le_refl _, fun _ _ _ => rfl⟩⟩
theorem set_cellsD {w : World} {B j : Nat} {cs : Array Value} {t : TypeId} (u : Value) (h : w.heap[B]? = some (.cells cs t (0, 0))) : (w.setCell ⟨B, j, none⟩ u).heap[B]? = some (.cells (cs.setIfInBounds j u) t (0, 0)) := by
  obtain ⟨hlt, hk⟩ := Array.getElem?_eq_some_iff.1 h
  show (w.heap.modify B _)[B]? = _
  rw [Array.getElem?_eq_getElem (by rw [Array.size_modify]; exact hlt), Array.getElem_modify_self, hk]
  rfl
structure Row3 (w : World) (b : Nat) (x y z : Value) : Prop where
  c0 : w.cell? ⟨b, 0, none⟩ = some x
  c1 : w.cell? ⟨b, 1, none⟩ = some y
  c2 : w.cell? ⟨b, 2, none⟩ = some z
  f0 : w.frozen? ⟨b, 0, none⟩ = false
  f1 : w.frozen? ⟨b, 1, none⟩ = false
  f2 : w.frozen? ⟨b, 2, none⟩ = false
theorem row3_of {w : World} {b : Nat} {x y z : Value} {t : TypeId} (h : w.heap[b]? = some (.cells #[x, y, z] t (0, 0))) : Row3 w b x y z :=
  ⟨by rw [cell_of_row _ _ 0 _ _ _ h]; rfl, by rw [cell_of_row _ _ 1 _ _ _ h]; rfl, by rw [cell_of_row _ _ 2 _ _ _ h]; rfl, by simp [World.frozen?, h], by simp [World.frozen?, h], by simp [World.frozen?, h]⟩
theorem set3 {w : World} {b : Nat} {x y z : Value} {t : TypeId} (p q r : Value) (h : w.heap[b]? = some (.cells #[x, y, z] t (0, 0))) :
    (((w.setCell ⟨b, 0, none⟩ p).setCell ⟨b, 1, none⟩ q).setCell ⟨b, 2, none⟩ r).heap[b]? = some (.cells #[p, q, r] t (0, 0)) := set_cellsD _ (set_cellsD _ (set_cellsD _ h))
theorem set3_other (w : World) (b k : Nat) (p q r : Value) (hne : b ≠ k) : (((w.setCell ⟨b, 0, none⟩ p).setCell ⟨b, 1, none⟩ q).setCell ⟨b, 2, none⟩ r).heap[k]? = w.heap[k]? := by
  rw [Below.heap_setCell _ _ _ _ hne.symm, Below.heap_setCell _ _ _ _ hne.symm, Below.heap_setCell _ _ _ _ hne.symm]
theorem grown3 (w : World) (b : Nat) (p q r : Value) : w.grownBy (((w.setCell ⟨b, 0, none⟩ p).setCell ⟨b, 1, none⟩ q).setCell ⟨b, 2, none⟩ r) (some b) :=
  grownT (grownT (Lib.grownBy_setCell w b 0 p) (Lib.grownBy_setCell _ b 1 q)) (Lib.grownBy_setCell _ b 2 r)
theorem truthV_size (k : K2) (h1 : 0 ≤ k.1 ∧ k.1 ≤ 1000) (h2 : 0 ≤ k.2 ∧ k.2 ≤ 1000) : (truthV k).size = 4 := by
  unfold truthV putV
  rw [if_neg (by omega)]
  show (beL _ (4 : Int).toNat).toArray.size = 4
  have := beL_len (1000003 * k.1 + 77777 * k.2 + 12345).toNat (4 : Int).toNat
  simpa using this
def pick3 : List ByteArray := [⟨#[97, 98, 99, 100]⟩, ⟨#[0, 0, 0, 0]⟩, ⟨#[255, 255, 255, 255]⟩]
theorem pick3_size (i : Nat) (h : i < 3) : (pick3[i]?.getD ByteArray.empty).size = 4 := by
  rcases (by omega : i = 0 ∨ i = 1 ∨ i = 2) with rfl | rfl | rfl <;> decide
/-- behind the drawn region: the reading in its box, the result's box -/
structure D4 (n₀ g : Nat) (a : Option Addr) (len cap : Nat) (zs : List Int) (c1 : Cu) (w W : World) (b4 : Nat) (n s : Int) (tr : ByteArray) : Prop where
  drew : Drew n₀ g a len cap zs c1 w W
  row : W.heap[b4]? = some (.cells #[.int .i64 n, .int .i64 s, .string tr] 28)
  res : W.heap[w.heap.size]? = some (.cells #[.int .i64 0, .int .i64 0, .string ⟨#[]⟩] 28)
  lt : w.heap.size < b4
theorem d4_a {n₀ g : Nat} {a : Option Addr} {len cap : Nat} {zs : List Int} {c1 : Cu} {w w2 : World} {n s : Int} {tr : ByteArray} (hd : Drew n₀ g a len cap zs c1 w w2)
    (hr : w2.heap[w.heap.size]? = some (.cells #[.int .i64 0, .int .i64 0, .string ⟨#[]⟩] 28)) : D4 n₀ g a len cap zs c1 w (w2.alloc (.cells #[.int .i64 n, .int .i64 s, .string tr] 28)) w2.heap.size n s tr :=
  ⟨hd.alloc _, heap_alloc_new w2 _, (Below.heap_alloc _ _ _ (Array.getElem?_eq_some_iff.1 hr).1).trans hr, (Array.getElem?_eq_some_iff.1 hr).1⟩
theorem d4_b {n₀ g : Nat} {a : Option Addr} {len cap : Nat} {zs : List Int} {c1 : Cu} {w w2 : World} {n s : Int} {tr : ByteArray} {b : Nat} {x y z : Value} (hd : Drew n₀ g a len cap zs c1 w w2) (hgl : g < w.heap.size)
    (hr : w2.heap[w.heap.size]? = some (.cells #[.int .i64 0, .int .i64 0, .string ⟨#[]⟩] 28)) (hz : w2.heap[b]? = some (.cells #[x, y, z] 28)) (hl : w.heap.size < b) :
    D4 n₀ g a len cap zs c1 w (((w2.setCell ⟨b, 0, none⟩ (.int .i64 n)).setCell ⟨b, 1, none⟩ (.int .i64 s)).setCell ⟨b, 2, none⟩ (.string tr)) b n s tr :=
  ⟨hd.grow hgl (grown3 w2 b _ _ _) (fun j e => by cases e; omega), set3 _ _ _ hz, (set3_other w2 b w.heap.size _ _ _ (by omega)).trans hr, hl⟩
theorem zero3_aft {w0 w : World} {o : Obj} (hb : Below (w0.alloc o).drew.heap.size (w0.alloc o).drew w) : w.heap[w0.heap.size]? = some o :=
  (hb.block w0.heap.size (by simp)).trans (show (w0.alloc o).drew.heap[w0.heap.size]? = _ from heap_alloc_new w0 _)
theorem d4_call1 {n₀ g : Nat} {a : Option Addr} {len cap : Nat} {zs : List Int} {c1 : Cu} {w w1 w2 : World} {o k : Obj} (hd : Drew n₀ g a len cap zs c1 w w1) (hgl : g < w.heap.size) (hr : w1.heap[w.heap.size]? = some o) (hb : Below (w1.alloc k).drew.heap.size (w1.alloc k).drew w2) :
    Drew n₀ g a len cap zs c1 w w2 ∧ w2.heap[w1.heap.size]? = some k ∧ w2.heap[w.heap.size]? = some o := by
  have hl := (Array.getElem?_eq_some_iff.1 hr).1
  refine ⟨((hd.alloc k).drewR).grow hgl (grown_of_below' hb none) (by simp), (hb.block _ (by show _ < (w1.alloc k).heap.size; simp)).trans (heap_alloc_new w1 k), (hb.block _ (by show _ < (w1.alloc k).heap.size; simp; omega)).trans ((Below.heap_alloc w1 k _ hl).trans hr)⟩
theorem d4_call2 {n₀ g : Nat} {a : Option Addr} {len cap : Nat} {zs : List Int} {c1 : Cu} {w w1 w2 : World} {o k z : Obj} (hd : Drew n₀ g a len cap zs c1 w w1) (hgl : g < w.heap.size) (hr : w1.heap[w.heap.size]? = some o) (hb : Below ((w1.alloc k).alloc z).drew.heap.size ((w1.alloc k).alloc z).drew w2) :
    (Drew n₀ g a len cap zs c1 w w2 ∧ w2.heap[w1.heap.size]? = some k ∧ w2.heap[w.heap.size]? = some o) ∧ w2.heap[w1.heap.size + 1]? = some z := by
  have hl := (Array.getElem?_eq_some_iff.1 hr).1
  have hz := zero3_aft hb
  rw [World.size_alloc] at hz
  refine ⟨⟨(((hd.alloc k).alloc z).drewR).grow hgl (grown_of_below' hb none) (by simp), (hb.block _ (by show _ < ((w1.alloc k).alloc z).heap.size; simp; omega)).trans ((Below.heap_alloc (w1.alloc k) z _ (by simp)).trans (heap_alloc_new w1 k)), (hb.block _ (by show _ < ((w1.alloc k).alloc z).heap.size; simp; omega)).trans ((Below.heap_alloc (w1.alloc k) z _ (by simp; omega)).trans ((Below.heap_alloc w1 k _ hl).trans hr))⟩, hz⟩
set_option maxRecDepth 100000 in
set_option maxHeartbeats 2000000 in
theorem l04reading_any (n₀ g len cap : Nat) (a : Option Addr) (zs : List Int) (c : Cu) (w : World) (hs : DrawSt n₀ w g a len cap zs c.i c.h) :
    Calls Try.prog 48 #[.pointer (some ⟨g, 0, none⟩)] w fun e w' => ∃ (r : R3) (c' : Cu), e = .returned (rv r) ∧ (1 ≤ r.1.1 ∧ r.1.1 ≤ 5 ∧ 1 ≤ r.1.2 ∧ r.1.2 ≤ 2) ∧ r.2.size = 4 ∧ Drew n₀ g a len cap zs c' w w' := by
  have hd0 : Drew n₀ g a len cap zs c w w := ⟨hs, Below.refl _ _, World.grownBy.refl _ _⟩
  have hgl := hs.lt
  go_enter Try.func48, Try.ntmps48
  go_wp2_with fail
  have hd1 := hd0.alloc (.cells #[.int .i64 0, .int .i64 0, .string ⟨#[]⟩] 28)
  refine (key_any n₀ g len cap a zs c _ hd1.st).mono ?_
  rintro e w1 ⟨⟨n, s⟩, c1, rfl, hk, hd⟩
  dsimp only at hk
  have HD := Lib.hid (hd1.trans hd)
  have HR1 := Lib.hid (hd.keeps (heap_alloc_new w (.cells #[.int .i64 0, .int .i64 0, .string ⟨#[]⟩] 28)) (by omega))
  have hl1 : w.heap.size < w1.heap.size := (Array.getElem?_eq_some_iff.1 HR1.out).1
  have HT := Lib.hid (fun w => truth_any (n, s) w (by dsimp only; omega) (by dsimp only; omega))
  have htr : (truthV (n, s)).size = 4 := truthV_size _ (by dsimp only; omega) (by dsimp only; omega)
  generalize truthV (n, s) = tr at *
  unfold kv at *
  dsimp only at *
  have hbk := fun w => run_build (P := Try.prog) w 28 #[(0, .agg #[.int .i64 n, .int .i64 s]), (1, .string tr)] (#[.int .i64 n, .int .i64 s, .string tr]) (by kernel_rfl)
  clear hd1 hd hd0
  go_wp2_with fail
  go_region_law (first
    | (go_simp
       go_at_call 57
       refine (HT.out _).mono ?_
       rintro e w2 ⟨rfl, hb2⟩
       dsimp only
       first
         | (have h42 := d4_call2 (k := .cells #[.int .i64 n, .int .i64 s] 26) (z := .cells #[.int .i64 0, .int .i64 0, .string ⟨#[]⟩] 28) HD.out hgl HR1.out hb2
            obtain ⟨⟨hD3, hk3, hr3⟩, hz3⟩ := h42
            obtain ⟨z0, z1, z2, f0, f1, f2⟩ := row3_of hz3
            have HZ3 := Lib.hid hz3
            have hl4 : w1.heap.size + 1 < w2.heap.size := (Array.getElem?_eq_some_iff.1 hz3).1
            clear hz3)
         | (have h41 := d4_call1 (k := .cells #[.int .i64 n, .int .i64 s] 26) HD.out hgl HR1.out hb2
            obtain ⟨hD3, hk3, hr3⟩ := h41)
       have y0 : w2.cell? ⟨w1.heap.size, 0, none⟩ = some (.int .i64 n) := by rw [cell_of_row _ _ 0 _ _ _ hk3]; rfl
       have y1 : w2.cell? ⟨w1.heap.size, 1, none⟩ = some (.int .i64 s) := by rw [cell_of_row _ _ 1 _ _ _ hk3]; rfl
       have hl3 : w1.heap.size < w2.heap.size := (Array.getElem?_eq_some_iff.1 hk3).1
       have HD3 := Lib.hid hD3; have HR3 := Lib.hid hr3
       clear hb2 hk3 hD3 hr3))
  all_goals
    clear HD HR1 HT hbk
    first
      | (have hF := d4_b (n := n) (s := s) (tr := tr) HD3.out hgl HR3.out HZ3.out (by omega)
         generalize ((w2.setCell ⟨w1.heap.size + 1, 0, none⟩ (.int .i64 n)).setCell ⟨w1.heap.size + 1, 1, none⟩ (.int .i64 s)).setCell ⟨w1.heap.size + 1, 2, none⟩ (.string tr) = W3 at *
         clear hl3 hl4 HD3 HR3 HZ3 z0 z1 z2 f0 f1 f2 y0 y1
         generalize w1.heap.size + 1 = b4 at *)
      | (have hF := d4_a (n := n) (s := s) (tr := tr) HD3.out HR3.out
         generalize w2.alloc (.cells #[.int .i64 n, .int .i64 s, .string tr] 28) = W3 at *
         generalize w2.heap.size = b4 at *
         clear hl3 HD3 HR3 y0 y1)
    have HF := Lib.hid hF
    clear hF
    go_wp2_with fail
    refine (once_any n₀ g len cap a zs c1 6 _ HF.out.drew.st (by omega)).mono ?_
    rintro e w4 ⟨rfl, hd4⟩
    have HD4 := Lib.hid (HF.out.drew.trans hd4)
    have hg3 : g < b4 := by have := HF.out.lt; omega
    have hrow4 := hd4.keeps HF.out.row (by omega)
    have HRES4 := Lib.hid (hd4.keeps HF.out.res (by omega))
    have HROW4 := Lib.hid hrow4
    have HLT := Lib.hid HF.out.lt
    generalize (belowF zs len c1 6).2 = c2 at *
    generalize ((belowF zs len c1 6).1 == 0) = bo at *
    clear HF hd4
    cases bo with
    | false =>
      obtain ⟨x0, x1, x2, -, -, -⟩ := row3_of HROW4.out
      obtain ⟨r0, r1, r2, f0, f1, f2⟩ := row3_of HRES4.out
      have hfin := set3 (.int .i64 n) (.int .i64 s) (.string tr) HRES4.out
      have hD5 := HD4.out.grow hgl (grown3 w4 w.heap.size (.int .i64 n) (.int .i64 s) (.string tr)) (fun j e => by cases e; omega)
      have L2 := Lib.hid (run_loadVar_row (P := Try.prog) _ w.heap.size 28 28 #[.int .i64 n, .int .i64 s, .string tr] (0, 0) _ hfin Try.underlying28 rfl (by kernel_rfl))
      have HD5 := Lib.hid hD5
      have hb4 := HLT.out
      clear hfin hD5 hrow4
      go_wp2_with fail
      refine bodyPost_ret (v := .agg #[.int .i64 n, .int .i64 s, .string tr]) ?_ rfl ⟨((n, s), tr), c2, rfl, hk, htr, HD5.out⟩
      rw [results_cell (p := 2) (ty := 28) (by kernel_rfl)]
      simp [asAddr, Result.andThen, L2.out]
    | true =>
      have P3 := Lib.hid (pick_any n₀ g len cap w4.heap.size 3 a zs c2 pick3 (w4.alloc (.cells #[.string ⟨#[97, 98, 99, 100]⟩, .string ⟨#[0, 0, 0, 0]⟩, .string ⟨#[255, 255, 255, 255]⟩] 9)) (HD4.out.alloc _).st (by omega) (by omega) rfl (by have := HD4.out.st.lt; omega) (by
        intro k hk
        rw [lit_cell]
        rcases (by omega : k = 0 ∨ k = 1 ∨ k = 2) with rfl | rfl | rfl <;> rfl))
      have hps := pick3_size (belowF zs len c2 (3 : Nat)).1.toNat (by have := belowF_bd zs len c2 (3 : Nat); omega)
      generalize pick3[(belowF zs len c2 (3 : Nat)).1.toNat]?.getD ByteArray.empty = tp at *
      generalize (belowF zs len c2 (3 : Nat)).2 = c3 at *
      have hb4l := (Array.getElem?_eq_some_iff.1 HROW4.out).1
      clear hrow4
      go_wp2_with fail
      refine P3.out.mono ?_
      rintro e w5 ⟨rfl, hd5⟩
      have hrow5 := hd5.keeps ((Below.heap_alloc w4 _ _ hb4l).trans HROW4.out) (by omega)
      have hres5 := hd5.keeps ((Below.heap_alloc w4 _ _ (Array.getElem?_eq_some_iff.1 HRES4.out).1).trans HRES4.out) (by omega)
      have HD5 := Lib.hid ((HD4.out.alloc _).trans hd5)
      obtain ⟨x0, x1, x2, f0, f1, f2⟩ := row3_of hrow5
      obtain ⟨r0, r1, r2, g0, g1, g2⟩ := row3_of hres5
      have hrow6 := set_cellsD (j := 2) (.string tp) hrow5
      have hne : w.heap.size ≠ b4 := by have := HLT.out; omega
      have hres6 : (w5.setCell ⟨b4, 2, none⟩ (.string tp)).heap[w.heap.size]? = _ := (Below.heap_setCell _ _ _ _ hne).trans hres5
      have hfin := set3 (.int .i64 n) (.int .i64 s) (.string tp) hres6
      have hD7 := HD5.out.grow hgl (grownT (Lib.grownBy_setCell w5 b4 2 (.string tp)) (World.grownBy.refl _ _)) (fun j e => by cases e; have := HLT.out; omega)
      have hD8 := hD7.grow hgl (grown3 (w5.setCell ⟨b4, 2, none⟩ (.string tp)) w.heap.size (.int .i64 n) (.int .i64 s) (.string tp)) (fun j e => by cases e; omega)
      have L2 := Lib.hid (run_loadVar_row (P := Try.prog) _ w.heap.size 28 28 #[.int .i64 n, .int .i64 s, .string tp] (0, 0) _ hfin Try.underlying28 rfl (by kernel_rfl))
      have HD8 := Lib.hid hD8
      have hb4 := HLT.out
      clear hfin hD8 hD7 hrow6 hres6 hrow5 hres5 hd5 P3 HD4 HD5
      go_wp2_with fail
      refine bodyPost_ret (v := .agg #[.int .i64 n, .int .i64 s, .string tp]) ?_ rfl ⟨((n, s), tp), c3, rfl, hk, hps, HD8.out⟩
      rw [results_cell (p := 2) (ty := 28) (by kernel_rfl)]
      simp [asAddr, Result.andThen, L2.out]
end Go.Proofs.Ytbkeggklfaepnaa
