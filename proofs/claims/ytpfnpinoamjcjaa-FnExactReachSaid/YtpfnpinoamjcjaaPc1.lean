/- What the laws lean on (own lemmas and walks of the called functions). -/
import Derived.StillTail
import Derived.OrdersIn
import Derived.RangeFuncCalls
import Derived.Deep.RegionHeld3
import Derived.KernelRfl
import Derived.Test.YtpfnpinoamjcjaaRows
import Derived.WalkKit
import Derived.ProofKit
import Derived.OpenShut
import Derived.ShutString
import Derived.Below
import Derived.Outline
import Derived.WalkSpells
import Derived.WalkLawsBesides
import Derived.Deep.AppendLies
import Derived.StillTactics
import Derived.Laws.BytesArg
import Derived.Laws.OwnMore
import Derived.Maps.AppendAt
import Derived.Lib.Hide
import Derived.Deep.QuietTactic
import Derived.BigQuiet
import Derived.RangeFuncBox
import Derived.Lib.SmallJoins
import Derived.Lib.Bytealg
import Derived.Deep.MidRow
import Derived.Laws.StructEq
import Derived.BigRegion
import Derived.OneCell
import Derived.Deep.WholeRow
import Derived.RangeFuncNested
import Derived.RangeFuncLeaves
import Derived.Shelf.Abstract
import Derived.OwnWalkIn
import Derived.TacticsInMore
import Derived.LoopNIn
import Derived.LoopIn
import Derived.Maps.OwnIn
import Derived.OrdersHeld
import Derived.Deep.Quiet
import Derived.Deep.DeepCutAuto
import Derived.Deep.RegionLaw
import Derived.Lib.BufferWrite
import Derived.Lib.SlBuf
import Derived.Lib.SliceRun
import Derived.Shelf.Spec.SlicesInsertGrow
import Derived.Lib.Overlaps
import Derived.Deep.Upon
import Derived.Deep.LoopGhost
import Derived.Deep.SlicePairs
set_option linter.unusedVariables false
set_option linter.unusedSimpArgs false
namespace Go.Proofs.Ytpfnpinoamjcjaa
open Go
section
variable {P : Program} {ops : Array Oper} {md : Region.Mode} {w : World}

def maskRows : List Bool → List Oper → List Oper
  | true :: m, o :: l => o :: maskRows m l
  | false :: m, _ :: l => maskRows m l
  | _, _ => []

end
end Go.Proofs.Ytpfnpinoamjcjaa
namespace Go.Proofs.Ytpfnpinoamjcjaa
open Go.ChangeShapes Go.WideShapes Go.ChangeAt Go.RowKit
set_option linter.unusedVariables false

theorem grown_of_below' {A B : World} (h : Below A.heap.size A B) (row : Option Nat) : A.grownBy B row := ⟨h.os, h.tape, h.output, h.size, fun k hk _ => h.block k hk⟩
theorem grown_trans {A B C : World} {row : Option Nat} (h : A.grownBy B row) (k : B.grownBy C row) : A.grownBy C row :=
  ⟨k.os.trans h.os, k.tape.trans h.tape, k.output.trans h.output, Nat.le_trans h.size k.size, fun j hj hr => (k.block j (Nat.lt_of_lt_of_le hj h.size) hr).trans (h.block j hj hr)⟩
end Go.Proofs.Ytpfnpinoamjcjaa
namespace Go.Proofs.Ytpfnpinoamjcjaa
open Go.ChangeShapes Go.WideShapes Go.ChangeAt Go.RowKit
set_option linter.unusedVariables false

/-- The code's bytes, in old memory. -/
def CodeAt (n₀ : Nat) (w : World) (a : Option Addr) (len : Nat) (zs : List Int) : Prop :=
  len ≤ 1048576 ∧ (∀ k : Nat, 0 ≤ zs[k]?.getD 0 ∧ zs[k]?.getD 0 ≤ 255) ∧ (len = 0 ∨ ∃ b off, a = some ⟨b, off, none⟩ ∧ b < n₀ ∧ ∀ k, k < len → w.cell? ⟨b, off + k, none⟩ = some (.int .u8 (zs[k]?.getD 0)))
theorem CodeAt.below {n₀ : Nat} {w w' : World} {a : Option Addr} {len : Nat} {zs : List Int} (h : CodeAt n₀ w a len zs) (hb : Below n₀ w w') : CodeAt n₀ w' a len zs := by
  obtain ⟨h1, h2, h3⟩ := h
  refine ⟨h1, h2, ?_⟩
  rcases h3 with h3 | ⟨b, off, h4, h5, h6⟩
  · exact .inl h3
  · exact .inr ⟨b, off, h4, h5, fun k hk => (hb.cell (p := ⟨b, off + k, none⟩) h5).trans (h6 k hk)⟩

structure DrawSt (n₀ : Nat) (w : World) (g : Nat) (a : Option Addr) (len cap : Nat) (zs : List Int) (i : Nat) (h : Int) : Prop where
  code : CodeAt n₀ w a len zs
  cur : w.heap[g]? = some (.cells #[.slice a len cap, .int .i64 i, .int .i64 h] 70 (0, 0))
  hg : n₀ ≤ g
  hi : i ≤ len

def lcg (h : Int) : Int := wrap64 (wrap64 (h * 6364136223846793005) + 1442695040888963407)

theorem i64_and255 (n : Int) : bits .and .i64 n 255 = n % 256 := by
  have h255 : (BitVec.ofInt 64 255).toNat = 2 ^ 8 - 1 := by decide
  have key : (BitVec.ofInt 64 n &&& BitVec.ofInt 64 255).toNat = (n % ((2 ^ 64 : Nat) : Int)).toNat % 2 ^ 8 := by
    rw [BitVec.toNat_and, BitVec.toNat_ofInt, h255, Nat.and_two_pow_sub_one_eq_mod]
  show IntKind.i64.wrap ((BitVec.ofInt 64 n &&& BitVec.ofInt 64 255).toNat : Nat) = n % 256
  rw [key, IntKind.wrap_i64]
  omega
theorem i64_and30 (n : Int) : bits .and .i64 n 1073741823 = n % 1073741824 := by
  have h255 : (BitVec.ofInt 64 1073741823).toNat = 2 ^ 30 - 1 := by decide
  have key : (BitVec.ofInt 64 n &&& BitVec.ofInt 64 1073741823).toNat = (n % ((2 ^ 64 : Nat) : Int)).toNat % 2 ^ 30 := by
    rw [BitVec.toNat_and, BitVec.toNat_ofInt, h255, Nat.and_two_pow_sub_one_eq_mod]
  show IntKind.i64.wrap ((BitVec.ofInt 64 n &&& BitVec.ofInt 64 1073741823).toNat : Nat) = n % 1073741824
  rw [key, IntKind.wrap_i64]
  omega

/-- what a state gives -/
def outb (H : Int) : Int := bits BinOp.xor IntKind.i64 (H / 8589934592) (H / 35184372088832) % 256
theorem outb_bd (H : Int) : 0 ≤ outb H ∧ outb H ≤ 255 := by unfold outb; omega
structure Cu where
  i : Nat
  h : Int
/-- a byte, and the state behind -/
def byteF (zs : List Int) (len : Nat) (c : Cu) : Int × Cu :=
  if c.i < len then ((outb (lcg c.h) + zs[c.i]?.getD 0) % 256, ⟨c.i + 1, lcg c.h⟩) else (outb (lcg c.h), ⟨c.i, lcg c.h⟩)
theorem byteF_bd (zs : List Int) (len : Nat) (c : Cu) : 0 ≤ (byteF zs len c).1 ∧ (byteF zs len c).1 ≤ 255 := by
  have := outb_bd (lcg c.h)
  unfold byteF; split <;> simp <;> omega
/-- what a draw leaves: the cursor's block alone has turned -/
structure Drew (n₀ g : Nat) (a : Option Addr) (len cap : Nat) (zs : List Int) (c' : Cu) (w w' : World) : Prop where
  st : DrawSt n₀ w' g a len cap zs c'.i c'.h
  below : Below n₀ w w'
  grown : w.grownBy w' (some g)
theorem grownT {A B C : World} {row : Option Nat} (h : A.grownBy B row) (k : B.grownBy C row) : A.grownBy C row :=
  ⟨k.os.trans h.os, k.tape.trans h.tape, k.output.trans h.output, Nat.le_trans h.size k.size, fun j hj hr => (k.block j (Nat.lt_of_lt_of_le hj h.size) hr).trans (h.block j hj hr)⟩
theorem Drew.trans {n₀ g : Nat} {a : Option Addr} {len cap : Nat} {zs : List Int} {c c' : Cu} {w w1 w2 : World} (h : Drew n₀ g a len cap zs c w w1) (k : Drew n₀ g a len cap zs c' w1 w2) : Drew n₀ g a len cap zs c' w w2 :=
  ⟨k.st, h.below.trans k.below, grownT h.grown k.grown⟩

theorem drew_of {n₀ g len cap i' : Nat} {a : Option Addr} {zs : List Int} {h' : Int} {w w' : World} (hcode : CodeAt n₀ w a len zs) (hg0 : n₀ ≤ g) (hgl : g < w.heap.size) (hi : i' ≤ len)
    (hcur : w'.heap[g]? = some (.cells #[.slice a len cap, .int .i64 i', .int .i64 h'] 70 (0, 0))) (hgr : w.grownBy w' (some g)) : Drew n₀ g a len cap zs ⟨i', h'⟩ w w' := by
  have hb : Below n₀ w w' := (Below.refl n₀ w).grown hgr (by omega) (fun k e => by cases e; exact hg0)
  exact ⟨⟨hcode.below hb, hcur, hg0, hi⟩, hb, hgr⟩

set_option maxHeartbeats 800000 in
theorem byte_any (n₀ g len cap : Nat) (a : Option Addr) (zs : List Int) (c : Cu) (w : World) (hs : DrawSt n₀ w g a len cap zs c.i c.h) :
    Calls Try.prog 66 #[.pointer (some ⟨g, 0, none⟩)] w fun e w' => e = .returned (.int .i64 (byteF zs len c).1) ∧ Drew n₀ g a len cap zs (byteF zs len c).2 w w' := by
  obtain ⟨i, h⟩ := c
  dsimp only at hs
  have hc := hs.cur
  have c0 : w.cell? ⟨g, 0, none⟩ = some (.slice a len cap) := by simp [World.cell?, hc]
  have c1 : w.cell? ⟨g, 1, none⟩ = some (.int .i64 i) := by simp [World.cell?, hc]
  have c2 : w.cell? ⟨g, 2, none⟩ = some (.int .i64 h) := by simp [World.cell?, hc]
  have f1 : w.frozen? ⟨g, 1, none⟩ = false := by simp [World.frozen?, hc]
  have f2 : w.frozen? ⟨g, 2, none⟩ = false := by simp [World.frozen?, hc]
  have hlen := hs.code.1
  have hil := hs.hi
  have hcode := Lib.hid hs.code
  have hg0 := hs.hg
  clear hs
  go_enter Try.func66, Try.ntmps66
  go_wp2
  have hc1 := Joins.block_setCell (i := 2) hc (.int .i64 (lcg h))
  have hg1 : w.grownBy (w.setCell ⟨g, 2, none⟩ (.int .i64 (lcg h))) (some g) := ⟨rfl, rfl, rfl, by simp, fun k _ hk => Below.heap_setCell _ _ _ k (fun e => hk (by rw [e]))⟩
  have hH : lcg h = wrap64 (wrap64 (h * 6364136223846793005) + 1442695040888963407) := rfl
  rw [← hH]
  have HC := Lib.hid hc; clear hc hH c0 c1 c2 f1 f2
  generalize hw1 : w.setCell ⟨g, 2, none⟩ (.int .i64 (lcg h)) = w1 at *
  clear hw1
  generalize hl : lcg h = H at *
  have HL := Lib.hid hl; clear hl
  have c0 : w1.cell? ⟨g, 0, none⟩ = some (.slice a len cap) := by simp [World.cell?, hc1]
  have c1 : w1.cell? ⟨g, 1, none⟩ = some (.int .i64 i) := by simp [World.cell?, hc1]
  have c2 : w1.cell? ⟨g, 2, none⟩ = some (.int .i64 H) := by simp [World.cell?, hc1]
  have f1 : w1.frozen? ⟨g, 1, none⟩ = false := by simp [World.frozen?, hc1]
  have hob : bits BinOp.and IntKind.i64 (bits BinOp.xor IntKind.i64 (H / 8589934592) (H / 35184372088832)) 255 = outb H := i64_and255 _
  have hbd := outb_bd H
  go_quiet (fail)
  go_wp2
  generalize hx : outb H = x at *
  have HX := Lib.hid hx; clear hx hob
  by_cases hlt : i < len
  · have z1 : (i : Int) < (len : Int) := by omega
    have z0 : (0 : Int) ≤ (i : Int) := by omega
    obtain ⟨b, off, rfl, hb0, hcells⟩ : ∃ b off, a = some ⟨b, off, none⟩ ∧ b < n₀ ∧ ∀ k, k < len → w.cell? ⟨b, off + k, none⟩ = some (.int .u8 (zs[k]?.getD 0)) := by
      rcases hcode.out.2.2 with h | h
      · omega
      · exact h
    have hz := hcode.out.2.1 i
    have cz : w1.cell? ⟨b, off + i, none⟩ = some (.int .u8 (zs[i]?.getD 0)) := (World.cell?_of_block (a := ⟨b, off + i, none⟩) (hg1.block b (World.block_lt_of_cell? w _ (hcells i hlt)) (by simp; omega))).trans (hcells i hlt)
    have HCELLS := Lib.hid hcells; clear hcells
    generalize hy : zs[i]?.getD 0 = y at *
    have HY := Lib.hid hy; clear hy
    have ew : wrap64 (x + y) = x + y := IntWalk.wrap64_in _ (by omega)
    have eb : bits BinOp.and IntKind.i64 (x + y) 255 = (x + y) % 256 := i64_and255 _
    go_quiet (fail)
    go_wp2
    go_quiet (fail)
    go_wp2
    go_ret
    have hbf : byteF zs len ⟨i, h⟩ = ((x + y) % 256, ⟨i + 1, H⟩) := by unfold byteF; rw [if_pos hlt, HL.out, HX.out, HY.out]
    rw [hbf]
    have hgl := (Array.getElem?_eq_some_iff.1 HC.out).1
    have hfin := Joins.block_setCell (i := 1) hc1 (.int .i64 ((i : Int) + 1))
    exact ⟨rfl, drew_of hcode.out hg0 hgl (by show i + 1 ≤ len; omega) hfin (grownT hg1 ⟨rfl, rfl, rfl, by simp, fun k _ hk => Below.heap_setCell _ _ _ k (fun e => hk (by rw [e]))⟩)⟩
  · go_quiet (fail)
    go_wp2
    go_ret
    have hbf : byteF zs len ⟨i, h⟩ = (x, ⟨i, H⟩) := by unfold byteF; rw [if_neg hlt, HL.out, HX.out]
    rw [hbf]
    have hgl := (Array.getElem?_eq_some_iff.1 HC.out).1
    exact ⟨rfl, drew_of hcode.out hg0 hgl hil hc1 (grownT hg1 ⟨rfl, rfl, rfl, Nat.le_refl _, fun _ _ _ => rfl⟩)⟩

/-! ### numbers below a bound -/
def belowF (zs : List Int) (len : Nat) (c : Cu) (n : Int) : Int × Cu :=
  if n ≤ 0 then (0, c) else if n ≤ 256 then ((byteF zs len c).1 % n, (byteF zs len c).2) else
    let b1 := byteF zs len c; let b2 := byteF zs len b1.2; let b3 := byteF zs len b2.2; let b4 := byteF zs len b3.2
    ((b1.1 * 16777216 + b2.1 * 65536 + b3.1 * 256 + b4.1) % n, b4.2)
theorem belowF_bd (zs : List Int) (len : Nat) (c : Cu) (n : Int) : 0 ≤ (belowF zs len c n).1 ∧ (0 < n → (belowF zs len c n).1 < n) := by
  unfold belowF
  split
  · exact ⟨Int.le_refl _, fun h => by omega⟩
  · split
    · exact ⟨Int.emod_nonneg _ (by omega), fun _ => Int.emod_lt_of_pos _ (by omega)⟩
    · exact ⟨Int.emod_nonneg _ (by omega), fun _ => Int.emod_lt_of_pos _ (by omega)⟩

set_option maxHeartbeats 400000 in
theorem below_any (n₀ g len cap : Nat) (a : Option Addr) (zs : List Int) (c : Cu) (n : Int) (w : World) (hs : DrawSt n₀ w g a len cap zs c.i c.h) (hn : -9223372036854775808 ≤ n ∧ n ≤ 9223372036854775807) :
    Calls Try.prog 54 #[.pointer (some ⟨g, 0, none⟩), .int .i64 n] w fun e w' => e = .returned (.int .i64 (belowF zs len c n).1) ∧ Drew n₀ g a len cap zs (belowF zs len c n).2 w w' := by
  by_cases h0 : n ≤ 0
  · have hf : belowF zs len c n = (0, c) := by unfold belowF; rw [if_pos h0]
    rw [hf]
    have HS := Lib.hid hs; clear hs hf
    go_enter Try.func54, Try.ntmps54
    go_wp2
    go_ret
    exact ⟨rfl, ⟨HS.out, Below.refl _ _, ⟨rfl, rfl, rfl, Nat.le_refl _, fun _ _ _ => rfl⟩⟩⟩
  · by_cases h1 : n ≤ 256
    · have hf : belowF zs len c n = ((byteF zs len c).1 % n, (byteF zs len c).2) := by unfold belowF; rw [if_neg h0, if_pos h1]
      rw [hf]
      have hbd := byteF_bd zs len c
      have H1 := Lib.hid (byte_any n₀ g len cap a zs c w hs); clear hs hf
      generalize hb : byteF zs len c = b at *
      have HB := Lib.hid hb; clear hb
      go_enter Try.func54, Try.ntmps54
      go_wp2_with fail
      refine H1.out.mono ?_
      clear H1
      rintro e w1 ⟨rfl, hd⟩
      go_wp2
      go_ret
      exact ⟨rfl, hd⟩
    · have hf : belowF zs len c n = (((byteF zs len c).1 * 16777216 + (byteF zs len (byteF zs len c).2).1 * 65536 + (byteF zs len (byteF zs len (byteF zs len c).2).2).1 * 256 + (byteF zs len (byteF zs len (byteF zs len (byteF zs len c).2).2).2).1) % n, (byteF zs len (byteF zs len (byteF zs len (byteF zs len c).2).2).2).2) := by
        unfold belowF; rw [if_neg h0, if_neg h1]
      rw [hf]
      clear hf
      have hbd1 := byteF_bd zs len c
      have H1 := Lib.hid (byte_any n₀ g len cap a zs c w hs)
      generalize byteF zs len c = b1 at *
      have hbd2 := byteF_bd zs len b1.2
      have H2 := Lib.hid (fun w => byte_any n₀ g len cap a zs b1.2 w)
      generalize byteF zs len b1.2 = b2 at *
      have hbd3 := byteF_bd zs len b2.2
      have H3 := Lib.hid (fun w => byte_any n₀ g len cap a zs b2.2 w)
      generalize byteF zs len b2.2 = b3 at *
      have hbd4 := byteF_bd zs len b3.2
      have H4 := Lib.hid (fun w => byte_any n₀ g len cap a zs b3.2 w)
      generalize byteF zs len b3.2 = b4 at *
      obtain ⟨x1, c1⟩ := b1; obtain ⟨x2, c2⟩ := b2; obtain ⟨x3, c3⟩ := b3; obtain ⟨x4, c4⟩ := b4
      dsimp only at *
      clear hs
      go_enter Try.func54, Try.ntmps54
      go_wp2_with fail
      refine H1.out.mono ?_
      clear H1
      rintro e w1 ⟨rfl, hd1⟩
      go_wp2_with fail
      refine (H2.out w1 hd1.st).mono ?_
      clear H2
      rintro e w2 ⟨rfl, hd2⟩
      go_wp2_with fail
      refine (H3.out w2 hd2.st).mono ?_
      clear H3
      rintro e w3 ⟨rfl, hd3⟩
      go_wp2_with fail
      refine (H4.out w3 hd3.st).mono ?_
      clear H4
      rintro e w4 ⟨rfl, hd4⟩
      have hd := ((hd1.trans hd2).trans hd3).trans hd4
      clear hd1 hd2 hd3 hd4
      go_wp2
      go_ret
      exact ⟨rfl, hd⟩

end Go.Proofs.Ytpfnpinoamjcjaa
namespace Go.Proofs.Ytpfnpinoamjcjaa
open Go.ChangeShapes Go.WideShapes Go.ChangeAt Go.RowKit
set_option linter.unusedVariables false

def hashN (zs : List Int) : Nat → Int → Int
  | 0, h => h
  | k + 1, h => (hashN zs k h * 131 + zs[k]?.getD 0 + 7) % 1073741824
def newC (zs : List Int) (len : Nat) : Cu := ⟨0, hashN zs (min len 4000) (746746 + len)⟩
theorem hashN_bd (zs : List Int) (len : Nat) (hl : len ≤ 1048576) : ∀ k, 0 ≤ hashN zs k (746746 + len) ∧ hashN zs k (746746 + len) < 1073741824
  | 0 => by simp [hashN]; omega
  | k + 1 => by simp [hashN]; omega

set_option maxHeartbeats 800000 in
theorem new_end {n₀ len cap : Nat} {a : Option Addr} {zs : List Int} {w wr : World} {H : Int} (hc : CodeAt n₀ w a len zs) (hw : n₀ ≤ w.heap.size) (hgr : w.grownBy wr none) (hi : 0 ≤ len) :
    DrawSt n₀ (wr.alloc (.cells #[.slice a len cap, .int .i64 0, .int .i64 H] 70)) wr.heap.size a len cap zs 0 H ∧ Below n₀ w (wr.alloc (.cells #[.slice a len cap, .int .i64 0, .int .i64 H] 70)) ∧
      w.grownBy (wr.alloc (.cells #[.slice a len cap, .int .i64 0, .int .i64 H] 70)) none := by
  have hg2 := grownT hgr (World.grownBy_alloc wr (.cells #[.slice a len cap, .int .i64 0, .int .i64 H] 70) none)
  have hb : Below n₀ w (wr.alloc (.cells #[.slice a len cap, .int .i64 0, .int .i64 H] 70)) := (Below.refl _ _).grown hg2 hw (by simp)
  exact ⟨⟨hc.below hb, heap_alloc_new wr _, Nat.le_trans hw hgr.size, Nat.zero_le _⟩, hb, hg2⟩

set_option maxRecDepth 20000 in
theorem new_any (n₀ len cap : Nat) (a : Option Addr) (zs : List Int) (w : World) (hc : CodeAt n₀ w a len zs) (hw : n₀ ≤ w.heap.size) :
    Calls Try.prog 39 #[.slice a len cap] w fun e w' => ∃ g, e = .returned (.pointer (some ⟨g, 0, none⟩)) ∧ w.heap.size ≤ g ∧ DrawSt n₀ w' g a len cap zs (newC zs len).i (newC zs len).h ∧ Below n₀ w w' ∧ w.grownBy w' none := by
  have hlen := hc.1
  have hz := hc.2.1
  have hp := hc.2.2
  have hh := hashN_bd zs len hlen
  have HC := Lib.hid hc; clear hc
  go_enter Try.func39, Try.ntmps39
  go_wp2
  go_loopw [3, 4] (fun h i wr => ∃ j : Nat, j ≤ len ∧ j ≤ 4000 ∧ i = .int .i64 j ∧ h = .int .i64 (hashN zs j (746746 + len)) ∧ w.grownBy wr none)
    (fun _ i _ => len - (intOf i).toNat)
  case atStart => exact ⟨0, Nat.zero_le _, Nat.zero_le _, rfl, rfl, World.grownBy.refl _ _⟩
  case round =>
    obtain ⟨j, hj, hj4, rfl, rfl, hgr⟩ := hrel
    have hhj := hh j
    have hb : Below n₀ w wr := (Below.refl _ _).grown hgr hw (by simp)
    have hfin : (¬ (j < len ∧ j < 4000)) → newC zs len = ⟨0, hashN zs j (746746 + len)⟩ := by
      intro hn; unfold newC; congr; omega
    generalize hH : hashN zs j (746746 + len) = H at *
    have HF := Lib.hid hfin; clear hfin
    have hsz := hgr.size
    by_cases hlt : j < len
    · have z1 : (j : Int) < (len : Int) := by omega
      have z0 : (0 : Int) ≤ (j : Int) := by omega
      obtain ⟨b, off, rfl, hb0, hcells⟩ := hp.resolve_left (by omega)
      have cz : wr.cell? ⟨b, off + j, none⟩ = some (.int .u8 (zs[j]?.getD 0)) := (hb.cell (p := ⟨b, off + j, none⟩) hb0).trans (hcells j hlt)
      have hzj := hz j
      have hHs : hashN zs (j + 1) (746746 + len) = (H * 131 + zs[j]?.getD 0 + 7) % 1073741824 := by show (hashN zs j _ * 131 + _ + 7) % 1073741824 = _; rw [hH]
      have HHS := Lib.hid hHs; clear hHs hh hH
      generalize zs[j]?.getD 0 = y at *
      have HCELLS := Lib.hid hcells; clear hcells hp
      have HZ := Lib.hid hz; clear hz
      by_cases hlt4 : j < 4000
      · have e1 : wrap64 (H * 131) = H * 131 := IntWalk.wrap64_in _ (by omega)
        have e2 : wrap64 (H * 131 + y) = H * 131 + y := IntWalk.wrap64_in _ (by omega)
        have e3 : wrap64 (H * 131 + y + 7) = H * 131 + y + 7 := IntWalk.wrap64_in _ (by omega)
        have e5 : IntKind.i64.wrap (H * 131 + y) = H * 131 + y := IntWalk.i64_in _ (by omega)
        have e6 : IntKind.i64.wrap (H * 131 + y + 7) = H * 131 + y + 7 := IntWalk.i64_in _ (by omega)
        have e7 : IntKind.i64.wrap (H * 131) = H * 131 := IntWalk.i64_in _ (by omega)
        have e4 : bits BinOp.and IntKind.i64 (H * 131 + y + 7) 1073741823 = (H * 131 + y + 7) % 1073741824 := i64_and30 _
        go_wp2
        go_roundw
        case rel => exact ⟨j + 1, by omega, by omega, by go_num, by rw [HHS.out], hgr⟩
        case measure => simp [intOf]; omega
      · clear HHS HCELLS HZ
        go_wp2
        go_ret
        refine ⟨_, rfl, hsz, ?_⟩
        rw [HF.out (by omega)]
        exact new_end HC.out hw hgr (by omega)
    · clear hz hp hh
      have z1 : ¬ (j : Int) < (len : Int) := by omega
      go_wp2
      go_ret
      refine ⟨_, rfl, hsz, ?_⟩
      rw [HF.out (by omega)]
      exact new_end HC.out hw hgr (by omega)

theorem pickint_any (n₀ g len cap lb n : Nat) (a : Option Addr) (zs : List Int) (c : Cu) (xs : List Int) (w : World) (hs : DrawSt n₀ w g a len cap zs c.i c.h) (hn : 0 < n) (hn2 : n ≤ 256) (hx : xs.length = n) (hlg : lb ≠ g)
    (hcells : ∀ k, k < n → w.cell? ⟨lb, k, none⟩ = some (.int .i64 (xs[k]?.getD 0))) :
    Calls Try.prog 60 #[.pointer (some ⟨g, 0, none⟩), .slice (some ⟨lb, 0, none⟩) n n] w fun e w' => e = .returned (.int .i64 (xs[(belowF zs len c n).1.toNat]?.getD 0)) ∧ Drew n₀ g a len cap zs (belowF zs len c n).2 w w' := by
  have H1 := Lib.hid (below_any n₀ g len cap a zs c n w hs (by omega)); clear hs
  have hbd := belowF_bd zs len c n
  generalize belowF zs len c n = b at *
  obtain ⟨x, c'⟩ := b
  dsimp only at *
  have hx0 : 0 ≤ x := hbd.1
  have hx1 : x < (n : Int) := hbd.2 (by omega)
  obtain ⟨m, rfl⟩ : ∃ m : Nat, x = m := ⟨x.toNat, by omega⟩
  have hm : m < n := by omega
  have hc := hcells m hm
  have e1 : (m : Int).toNat = m := by omega
  rw [e1]
  generalize xs[m]?.getD 0 = y at *
  clear hcells hbd
  go_enter Try.func60, Try.ntmps60
  go_wp2_with fail
  refine H1.out.mono ?_
  clear H1
  rintro e w1 ⟨rfl, hd⟩
  have hc1 : w1.cell? ⟨lb, m, none⟩ = some (.int .i64 y) := hd.grown.cell hc (by simpa using hlg)
  go_wp2
  go_ret
  exact ⟨rfl, hd⟩
theorem Drew.alloc {n₀ g : Nat} {a : Option Addr} {len cap : Nat} {zs : List Int} {c : Cu} {w w1 : World} (h : Drew n₀ g a len cap zs c w w1) (o : Obj) : Drew n₀ g a len cap zs c w (w1.alloc o) := by
  have hgl := (Array.getElem?_eq_some_iff.1 h.st.cur).1
  have hg0 := h.st.hg
  refine ⟨⟨h.st.code.below ((Below.refl _ _).alloc (by omega) o), ?_, hg0, h.st.hi⟩, h.below.trans ((Below.refl _ _).alloc (by omega) o), grownT h.grown (World.grownBy_alloc _ _ _)⟩
  exact ((World.grownBy_alloc w1 o none).block g hgl (by simp)).trans h.st.cur
theorem DrawSt.lt {n₀ g : Nat} {a : Option Addr} {len cap : Nat} {zs : List Int} {i : Nat} {h : Int} {w : World} (hs : DrawSt n₀ w g a len cap zs i h) : g < w.heap.size := (Array.getElem?_eq_some_iff.1 hs.cur).1
theorem lit_cell (w : World) (cs : Array Value) (e : TypeId) (k : Nat) : (w.alloc (.cells cs e)).cell? ⟨w.heap.size, k, none⟩ = cs[k]? := cell_of_row _ _ _ _ _ _ (heap_alloc_new w _)

theorem Drew.grow {n₀ g : Nat} {a : Option Addr} {len cap : Nat} {zs : List Int} {c : Cu} {w w1 w2 : World} {row : Option Nat} (h : Drew n₀ g a len cap zs c w w1) (hgl : g < w.heap.size) (k : w1.grownBy w2 row) (hr : ∀ b, row = some b → w.heap.size ≤ b) : Drew n₀ g a len cap zs c w w2 := by
  have hg0 := h.st.hg
  have hsz := h.grown.size
  have hb : Below n₀ w1 w2 := (Below.refl n₀ w1).grown k (by omega) (fun b e => by have := hr b e; omega)
  refine ⟨⟨h.st.code.below hb, ?_, hg0, h.st.hi⟩, h.below.trans hb, ⟨k.os.trans h.grown.os, k.tape.trans h.grown.tape, k.output.trans h.grown.output, Nat.le_trans hsz k.size, fun j hj hn => ?_⟩⟩
  · refine (k.block g (by omega) (fun e => ?_)).trans h.st.cur
    have := hr g e.symm; omega
  · refine (k.block j (by omega) (fun e => ?_)).trans (h.grown.block j hj hn)
    have := hr j e.symm; omega

/-- what a walk is told of bytes that came in -/
def IsRow (k : IntKind) (w : World) (a : Option Addr) (len cap : Nat) (zs : List Int) : Prop :=
  (a = none ∧ len = 0 ∧ cap = 0 ∧ zs = []) ∨
  ∃ x, a = some x ∧ len ≤ cap ∧ cap ≤ maxLen ∧ zs.length = cap ∧ (∀ i, i < zs.length → w.cell? (x.add i) = some (.int k (zs.getD i 0))) ∧ ∀ n ∈ zs, (Lit.int k n).wf = true
theorem codeAt_of {w : World} {a : Option Addr} {len cap : Nat} {zs : List Int} (h : IsRow .u8 w a len cap zs) (hl : len ≤ 1048576) : CodeAt w.heap.size w a len zs := by
  rcases h with ⟨rfl, rfl, rfl, rfl⟩ | ⟨x, rfl, h1, h2, h3, h4, h5⟩
  · exact ⟨hl, by simp, .inl rfl⟩
  · refine ⟨hl, fun k => range_u8 h5 k, ?_⟩
    · rcases Nat.eq_zero_or_pos len with h0 | h0
      · exact .inl h0
      · obtain ⟨b, off, spot⟩ := x
        have hc := h4 0 (by omega)
        have hs : spot = none := by simpa [Addr.add] using World.cell?_spot hc
        subst hs
        refine .inr ⟨b, off, rfl, World.block_lt_of_cell? w ⟨b, off, none⟩ (by simpa [Addr.add] using hc), fun k hk => ?_⟩
        have := h4 k (by omega)
        rw [List.getD_eq_getElem?_getD] at this
        rw [← this]
        unfold Addr.add
        split
        · rename_i e; subst e; rfl
        · rfl
theorem big_any (a : Option Addr) (len cap : Nat) (w : World) (hl : len ≤ 1048576) : Calls Try.prog 12 #[.slice a len cap] w fun e w' => e = .returned (.bool false) ∧ w' = w := by
  have z1 : ¬ (1048576 : Int) < (len : Int) := by omega
  go_enter Try.func12, Try.ntmps12
  go_wp2
  go_ret
  exact ⟨rfl, rfl⟩
theorem big_true (a : Option Addr) (len cap : Nat) (w : World) (hl : ¬ len ≤ 1048576) : Calls Try.prog 12 #[.slice a len cap] w fun e w' => e = .returned (.bool true) ∧ w' = w := by
  have z1 : (1048576 : Int) < (len : Int) := by omega
  go_enter Try.func12, Try.ntmps12
  go_wp2
  go_ret
  exact ⟨rfl, rfl⟩

end Go.Proofs.Ytpfnpinoamjcjaa
namespace Go.Proofs.Ytpfnpinoamjcjaa
open Go.ChangeShapes Go.WideShapes Go.ChangeAt Go.RowKit
set_option linter.unusedVariables false

abbrev K2 := Int × Int
def kv (k : K2) : Value := .agg #[.int .i64 k.1, .int .i64 k.2]
def aheadB (a b : K2) : Bool := if a.1 = b.1 then decide (a.2 < b.2) else decide (a.1 < b.1)
/-- the slice value v leads to the keys ks -/
def keysAt (w : World) (v : Value) (ks : List K2) : Prop :=
  ∃ a cap, v = .slice a ks.length cap ∧ ks.length ≤ cap ∧ (ks.length = 0 ∨ ∃ g off, a = some ⟨g, off, none⟩ ∧ g < w.heap.size ∧
    ∀ i, i < ks.length → w.cell? ⟨g, off + i * 2, none⟩ = some (.int .i64 (ks.getD i (0, 0)).1) ∧ w.cell? ⟨g, off + i * 2 + 1, none⟩ = some (.int .i64 (ks.getD i (0, 0)).2))
theorem keysAt_below {w w' : World} {v : Value} {ks : List K2} (h : keysAt w v ks) (hb : Below w.heap.size w w') : keysAt w' v ks := by
  obtain ⟨a, cap, h1, h2, h3⟩ := h
  refine ⟨a, cap, h1, h2, h3.imp_right ?_⟩
  rintro ⟨g, off, h4, h5, h6⟩
  refine ⟨g, off, h4, Nat.lt_of_lt_of_le h5 hb.size, fun i hi => ?_⟩
  rw [hb.cell (p := ⟨g, off + i * 2, none⟩) h5, hb.cell (p := ⟨g, off + i * 2 + 1, none⟩) h5]
  exact h6 i hi
end Go.Proofs.Ytpfnpinoamjcjaa
namespace Go.Proofs.Ytpfnpinoamjcjaa
open Go.BigFrame Go.RowKit Go.ChangeShapes Go.WideShapes
section
variable {P : Program} {ops : Array Oper} {C : World → Prop} {Q : Act → Prop} {a : Act} {o : Oper} {rest : List Oper} {K : Act → Prop}
theorem q_load (ty : TypeId) (x : Operand) (p : Addr) (v : Value) (ho : o.op = .load ty x) (hx : a.eval x = .pointer (some p)) (hl : ∀ w, C w → (loadVar ty p).run P w = .ok v w) (hk : K (a.put o.dst v)) : o.quiet P a C K := by
  refine ⟨v, fun w hw => ?_, hk⟩
  unfold Oper.quietAt execOp
  simp only [ho, hx, Instr.loadAt, Instr.sureAddr, Sem.run_bind, Sem.run_pure, Result.andThen_ok, hl w hw]
  exact ⟨rfl, rfl⟩
theorem q_bin (op : BinOp) (t ty : TypeId) (x y : Operand) (u v z : Value) (ho : o.op = .binOp op t x y ty) (hx : a.eval x = u) (hy : a.eval y = v) (hg : ∀ w, (eqGuard op t x y u v).run P w = .ok () w) (hb : ∀ w, (binOp op t u v).run P w = .ok z w)
    (hk : K (a.put o.dst z)) : o.quiet P a C K := by
  refine ⟨z, fun w hw => ?_, hk⟩
  unfold Oper.quietAt execOp
  simp only [ho, hx, hy, Sem.run_bind, hg w, hb w, Result.andThen_ok, Sem.run_pure]
  exact ⟨rfl, rfl⟩
end
/-- the class: new blocks alone -/
theorem wp_region_below {P : Program} {id : Nat} {Q : Exit → Act → World → Prop} {a : Act} {w : World} {l : List Oper} (w0 : World) (hm : P.follows .mixedOrders = true) (hB : Region.lexB .any l.toArray = true) (h0 : Below w0.heap.size w0 w)
    (h : wpQuiet P l.toArray (fun w' => Below w0.heap.size w0 w') (fun a' => ∀ w', Below w0.heap.size w0 w' → Q .normal a' w') l a) : (Code.region id l.toArray true).wp P Q a w :=
  wp_region_quiet (C := fun w' => Below w0.heap.size w0 w') hm hB h0.drew (by simpa using h)
end Go.Proofs.Ytpfnpinoamjcjaa
namespace Go.Proofs.Ytpfnpinoamjcjaa
open Go.ChangeShapes Go.WideShapes Go.ChangeAt Go.RowKit Go.BigFrame
set_option linter.unusedVariables false

def keyCells (ks : List K2) : List Value := ks.flatMap fun k => [.int .i64 k.1, .int .i64 k.2]
theorem keyCells_len : ∀ ks : List K2, (keyCells ks).length = ks.length * 2
  | [] => rfl
  | k :: r => by
    have := keyCells_len r
    simp only [keyCells, List.flatMap_cons, List.length_append, List.length_cons, List.length_nil] at *
    omega
theorem keyCells_snoc (ks : List K2) (k : K2) : keyCells (ks ++ [k]) = keyCells ks ++ [.int .i64 k.1, .int .i64 k.2] := by simp [keyCells]
theorem keyCells_get : ∀ (ks : List K2) (i : Nat), i < ks.length → (keyCells ks)[i * 2]? = some (.int .i64 (ks.getD i (0, 0)).1) ∧ (keyCells ks)[i * 2 + 1]? = some (.int .i64 (ks.getD i (0, 0)).2)
  | [], _, h => by simp at h
  | k :: r, 0, _ => by simp [keyCells]
  | k :: r, i + 1, h => by
    have ih := keyCells_get r i (by simpa using h)
    have e1 : (i + 1) * 2 = i * 2 + 1 + 1 := by omega
    have e2 : (i + 1) * 2 + 1 = i * 2 + 1 + 1 + 1 := by omega
    rw [e1]
    simp only [keyCells, List.flatMap_cons, List.cons_append, List.nil_append, List.getElem?_cons_succ, List.getD_cons_succ] at *
    exact ih
theorem own_below {w w' : World} {base n : Nat} {e : TypeId} {size : Nat} {v : Value} {xs : List Value} (h : w.ownsRow base e size v n xs) (hb : Below w.heap.size w w') : w'.ownsRow base e size v n xs :=
  h.kept (grown_of_below' hb none) (by cases hv : v.ownBlock <;> simp)

end Go.Proofs.Ytpfnpinoamjcjaa
namespace Go.Proofs.Ytpfnpinoamjcjaa
open Go.ChangeShapes Go.WideShapes Go.ChangeAt Go.RowKit Go.BigFrame
set_option linter.unusedVariables false
theorem own_cell {w : World} {base g n cap : Nat} {e : TypeId} {size : Nat} {xs : List Value} (h : w.ownsRow base e size (.slice (some ⟨g, 0, none⟩) n cap) n xs) (j : Nat) (hj : j < n * size) :
    w.cell? ⟨g, j, none⟩ = some (xs.getD j undef) ∧ w.frozen? ⟨g, j, none⟩ = false := by
  have hl : xs.length = n * size := h.1
  refine ⟨?_, ?_⟩
  · rw [h.cellAt j hj]
    simp [List.getD, show j < xs.length by omega]
  · rcases h.2 with ⟨h1, _⟩ | ⟨g', cap', cur, h1, _, hg, _⟩
    · simp at h1
    · simp only [Value.slice.injEq, Option.some.injEq, Addr.mk.injEq, and_true, true_and] at h1
      obtain ⟨rfl, rfl⟩ := h1
      simp [World.frozen?, hg]
theorem ownsRowK_shape {w : World} {base n : Nat} {e : TypeId} {v : Value} {size : Nat} {xs : List Value} (h : w.ownsRow base e size v n xs) :
    (v = .slice none 0 0 ∧ n = 0) ∨ ∃ g cap, v = .slice (some ⟨g, 0, none⟩) n cap ∧ n ≤ cap ∧ cap ≤ maxLen ∧ base ≤ g ∧ g < w.heap.size := by
  rcases h.2 with h1 | ⟨g, cap, cur, rfl, h2, h3, h4, h5, _⟩
  · exact .inl h1
  · exact .inr ⟨g, cap, rfl, h4, h5, h2, (Array.getElem?_eq_some_iff.1 h3).1⟩
theorem own_base {w : World} {base base' n : Nat} {e : TypeId} {size : Nat} {v : Value} {xs : List Value} (h : w.ownsRow base' e size v n xs) (hb : base ≤ base') : w.ownsRow base e size v n xs := by
  refine ⟨h.1, h.2.imp_right ?_⟩
  rintro ⟨g, cap, cur, h1, h2, h3⟩
  exact ⟨g, cap, cur, h1, Nat.le_trans hb h2, h3⟩
end Go.Proofs.Ytpfnpinoamjcjaa
namespace Go.Proofs.Ytpfnpinoamjcjaa
open Go.RowKit Go.ChangeShapes Go.WideShapes Go.ChangeAt
set_option linter.unusedVariables false
def intsV (xs : List Int) : List Value := xs.map (Value.int .i64)
theorem intsV_len (xs : List Int) : (intsV xs).length = xs.length := by simp [intsV]
theorem intsV_get (xs : List Int) (i : Nat) (h : i < xs.length) : (intsV xs)[i]? = some (.int .i64 (xs[i]?.getD 0)) := by simp [intsV, h]
theorem intsV_set (xs : List Int) (i : Nat) (x : Int) : (intsV xs).set i (.int .i64 x) = intsV (xs.set i x) := by simp [intsV]
theorem intsV_app (xs ys : List Int) : intsV (xs ++ ys) = intsV xs ++ intsV ys := by simp [intsV]
theorem ownsRow_shape1 {w : World} {base size n : Nat} {e : TypeId} {v : Value} {xs : List Value} (h : w.ownsRow base e size v n xs) (hn : 0 < n) : ∃ g cap, v = .slice (some ⟨g, 0, none⟩) n cap := by
  rcases h.2 with ⟨_, h0⟩ | ⟨g, cap, _, hv, _⟩
  · omega
  · exact ⟨g, cap, hv⟩
/-- the slice value v leads to the numbers xs -/
def inAt (w : World) (v : Value) (xs : List Int) : Prop :=
  ∃ a cap, v = .slice a xs.length cap ∧ xs.length ≤ cap ∧ (xs.length = 0 ∨ ∃ g off, a = some ⟨g, off, none⟩ ∧ g < w.heap.size ∧
    ∀ i, i < xs.length → w.cell? ⟨g, off + i, none⟩ = some (.int .i64 (xs[i]?.getD 0)))
def mkI (n : Nat) (m : Int) : List Int := (List.range n).map fun (k : Nat) => m + (k : Int)
theorem mkI_len (n : Nat) (m : Int) : (mkI n m).length = n := by simp [mkI]
theorem mkI_get (n k : Nat) (m : Int) (h : k < n) : (mkI n m)[k]?.getD 0 = m + k := by simp [mkI, h]
theorem mkI_succ (n : Nat) (m : Int) : mkI (n + 1) m = mkI n m ++ [m + (n : Int)] := by simp [mkI, List.range_succ]
theorem own_int {w : World} {base g n cap : Nat} {xs : List Int} (h : w.ownsRow base 3 1 (.slice (some ⟨g, 0, none⟩) n cap) n (intsV xs)) (j : Nat) (hj : j < n) : w.cell? ⟨g, j, none⟩ = some (.int .i64 (xs[j]?.getD 0)) := by
  have hl := h.1
  rw [intsV_len] at hl
  have := (own_cell h j (by omega)).1
  rw [List.getD_eq_getElem?_getD, intsV_get xs _ (by omega), Option.getD_some] at this
  exact this
theorem ownsRow_shape0 {w : World} {base size n : Nat} {e : TypeId} {v : Value} {xs : List Value} (h : w.ownsRow base e size v n xs) : (v = .slice none 0 0 ∧ n = 0) ∨ ∃ g cap, v = .slice (some ⟨g, 0, none⟩) n cap := by
  rcases h.2 with ⟨h1, h0⟩ | ⟨g, cap, _, hv, _⟩
  · exact .inl ⟨h1, h0⟩
  · exact .inr ⟨g, cap, hv⟩
theorem inAt_own {w : World} {base n : Nat} {v : Value} {xs : List Int} (h : w.ownsRow base 3 1 v n (intsV xs)) (hn : n = xs.length) : inAt w v xs := by
  subst hn
  rcases h.2 with ⟨rfl, h0⟩ | ⟨g, cap, cur, rfl, hb, hg, hn, hm, hs, ht⟩
  · exact ⟨none, 0, by rw [h0], by omega, .inl h0⟩
  · exact ⟨_, cap, rfl, hn, .inr ⟨g, 0, rfl, (Array.getElem?_eq_some_iff.1 hg).1, fun i hi => by rw [Nat.zero_add]; exact own_int h i hi⟩⟩
end Go.Proofs.Ytpfnpinoamjcjaa
namespace Go.Proofs.Ytpfnpinoamjcjaa
open Go.ChangeShapes Go.WideShapes Go.ChangeAt Go.RowKit Go.BigFrame
set_option linter.unusedVariables false
set_option linter.unusedSimpArgs false

theorem infoInt : (Try.prog.info? 3).map (fun i => (i.zero, i.size, i.bytes)) = some (some (.int .i64 0), 1, 8) := by kernel_rfl
end Go.Proofs.Ytpfnpinoamjcjaa
namespace Go.Proofs.Ytpfnpinoamjcjaa
open Go.ChangeShapes Go.WideShapes Go.ChangeAt Go.RowKit
set_option linter.unusedVariables false
theorem results_cell {fn : Func} {p : Tmp} {ty : TypeId} (h : fn.results = #[.cell p ty]) (tmps : Array Value) (P : Program) (w : World) :
    (results fn tmps).run P w = ((asAddr (tmps.getD p undef)).run P w).andThen fun a w₁ => (loadVar ty a).run P w₁ := by
  simp only [results, h]
  simp [Sem.run_bind]
theorem heap_first (w : World) (o c : Obj) : ((w.alloc c).alloc o).heap[w.heap.size]? = some c := by
  show ((w.heap.push c).push o)[w.heap.size]? = some c
  rw [Array.getElem?_push, if_neg (by simp), Array.getElem?_push, if_pos rfl]
theorem heap_mid (w : World) (a b c : Obj) : (((w.alloc a).alloc b).alloc c).heap[w.heap.size + 1]? = some b := by
  show (((w.heap.push a).push b).push c)[w.heap.size + 1]? = some b
  rw [Array.getElem?_push, if_neg (by simp), Array.getElem?_push, if_pos (by simp)]
end Go.Proofs.Ytpfnpinoamjcjaa
namespace Go.Proofs.Ytpfnpinoamjcjaa
open Go.ChangeShapes Go.WideShapes Go.ChangeAt Go.RowKit Go.BigFrame
set_option linter.unusedVariables false

theorem addr_plus (g off j : Nat) : (⟨g, off, none⟩ : Addr).add j = ⟨g, off + j, none⟩ := by
  unfold Addr.add
  split
  · rename_i h; simp [h]
  · rfl
end Go.Proofs.Ytpfnpinoamjcjaa
namespace Go.Proofs.Ytpfnpinoamjcjaa
open Go.ChangeShapes Go.WideShapes Go.ChangeAt Go.RowKit Go.BigFrame
set_option linter.unusedVariables false

theorem intsV_one (xs : List Int) : ∀ u ∈ intsV xs, u.oneCell' = true := by
  intro u hu
  simp only [intsV, List.mem_map] at hu
  obtain ⟨k, _, rfl⟩ := hu
  rfl
theorem intsV_at {w : World} {g off : Nat} {xs : List Int} (h : ∀ i, i < xs.length → w.cell? ⟨g, off + i, none⟩ = some (.int .i64 (xs[i]?.getD 0))) :
    ∀ j u, (intsV xs)[j]? = some u → w.cell? ((⟨g, off, none⟩ : Addr).add j) = some u := by
  intro j u hu
  have hj : j < xs.length := by rw [← intsV_len]; exact (List.getElem?_eq_some_iff.1 hu).1
  rw [addr_plus]
  rw [intsV_get xs j hj] at hu
  cases hu
  exact h j hj
theorem in_append_none {w : World} {base n : Nat} {v : Value} {xs : List Value} (h : w.ownsRow base 3 1 v n xs) (ar : Option Addr) (cr : Nat) (ty : TypeId) :
    (Builtin.append_ #[33, 33] ty #[v, .slice ar 0 cr]).run Try.prog w = .ok v w := by
  obtain ⟨i0, hi, hz0, hz1, hz2⟩ := info_parts infoInt
  have u := Try.underlying33
  rcases h.2 with ⟨rfl, h0⟩ | ⟨g, cap, cur, rfl, _, _, hn, _⟩
  · cases ar <;> simp [Builtin.append_, run_underlying u, sizeOf, typeInfo, hi, storeCells, go_sem]
  · cases ar <;> simp [Builtin.append_, run_underlying u, sizeOf, typeInfo, hi, storeCells, hn, go_sem]
/-- append of numbers to what is owned -/
theorem run_append_in {w : World} {base n : Nat} {v : Value} {xs : List Value} (hown : w.ownsRow base 3 1 v n xs) (u : Value) (rs : List Int) (hu : inAt w u rs) (ty : TypeId) (hn : n + rs.length ≤ 4000000) (hbase : base ≤ w.heap.size) :
    ∃ v' w', (Builtin.append_ #[33, 33] ty #[v, u]).run Try.prog w = .ok v' w' ∧ w'.ownsRow base 3 1 v' (n + rs.length) (xs ++ intsV rs) ∧ w.grownBy w' v.ownBlock := by
  obtain ⟨i0, hi, hz0, hz1, hz2⟩ := info_parts infoInt
  obtain ⟨a, cap, rfl, hcap, hcells⟩ := hu
  by_cases h0 : rs.length = 0
  · obtain rfl : rs = [] := List.length_eq_zero_iff.1 h0
    exact ⟨v, w, in_append_none hown a cap ty, by simpa [intsV] using hown, World.grownBy.refl _ _⟩
  · obtain ⟨g, off, rfl, hg, hcs⟩ := hcells.resolve_left h0
    obtain ⟨v', w', hr, h2, h3, h4, h5⟩ := run_append_own_at (P := Try.prog) w base 33 ty 3 i0 (.int .i64 0) 1 8 Try.underlying33 hi hz0 hz1 hz2 rfl (by decide) v n xs hown ⟨g, off, none⟩ rs.length cap (intsV rs) (by rw [intsV_len]; omega) (intsV_at hcs) (intsV_one rs) (by unfold maxLen; omega) (by omega) hbase
    exact ⟨v', w', hr, h2, h3⟩
end Go.Proofs.Ytpfnpinoamjcjaa
namespace Go.Proofs.Ytpfnpinoamjcjaa

theorem ahead_iff (a b : K2) : aheadB a b = true ↔ (a.1 < b.1 ∨ (a.1 = b.1 ∧ a.2 < b.2)) := by
  unfold aheadB
  by_cases h : a.1 = b.1
  · rw [if_pos h]; simp; omega
  · rw [if_neg h]; simp; omega
theorem ahead_trans {a b c : K2} (h1 : aheadB a b = true) (h2 : aheadB b c = true) : aheadB a c = true := by
  rw [ahead_iff] at *; omega
def Rising (l : List K2) : Prop := l.Pairwise fun a b => aheadB a b = true
end Go.Proofs.Ytpfnpinoamjcjaa
namespace Go.Proofs.Ytpfnpinoamjcjaa

def lnB (k : K2) : Bool := decide (0 ≤ k.1) && (decide (k.1 < k.2) && decide (k.2 ≤ 20))
def lnStep (ks : List K2) (i : Nat) : Bool := lnB (ks.getD i (0, 0)) && (decide (i = 0) || aheadB (ks.getD (i - 1) (0, 0)) (ks.getD i (0, 0)))
def lnsB (ks : List K2) : Bool := decide (ks.length ≤ 30) && (List.range ks.length).all (lnStep ks)
theorem lnsB_big {ks : List K2} (h : 30 < ks.length) : lnsB ks = false := by unfold lnsB; rw [decide_eq_false (by omega)]; rfl
theorem lnsB_le {ks : List K2} (h : ks.length ≤ 30) : lnsB ks = (List.range ks.length).all (lnStep ks) := by unfold lnsB; rw [decide_eq_true h]; rfl
theorem lnAll_false {ks : List K2} {k n : Nat} (hk : k < n) (h : lnStep ks k = false) : (List.range n).all (lnStep ks) = false := by
  rw [List.all_eq_false]
  exact ⟨k, List.mem_range.2 hk, by simp [h]⟩
theorem lnAll_succ (ks : List K2) (k : Nat) : (List.range (k + 1)).all (lnStep ks) = ((List.range k).all (lnStep ks) && lnStep ks k) := by
  rw [List.range_succ, List.all_append]
  simp
theorem lnB_iff (k : K2) : lnB k = true ↔ 0 ≤ k.1 ∧ k.1 < k.2 ∧ k.2 ≤ 20 := by simp [lnB]
theorem lns_iff (ks : List K2) : lnsB ks = true ↔ ks.length ≤ 30 ∧ (∀ k ∈ ks, lnB k = true) ∧ Rising ks := by
  unfold lnsB
  rw [Bool.and_eq_true, decide_eq_true_eq]
  refine and_congr_right fun _ => ?_
  rw [List.all_eq_true]
  constructor
  · intro h
    have hs : ∀ i, i < ks.length → lnB (ks.getD i (0, 0)) = true ∧ (i = 0 ∨ aheadB (ks.getD (i - 1) (0, 0)) (ks.getD i (0, 0)) = true) := by
      intro i hi
      have := h i (List.mem_range.2 hi)
      simpa [lnStep] using this
    refine ⟨fun k hk => ?_, ?_⟩
    · obtain ⟨i, hi, rfl⟩ := List.getElem_of_mem hk
      have := (hs i hi).1
      simpa [List.getD, hi] using this
    · have hd : ∀ d i, i + d + 1 < ks.length → aheadB (ks.getD i (0, 0)) (ks.getD (i + d + 1) (0, 0)) = true := by
        intro d
        induction d with
        | zero =>
          intro i hi
          have := (hs (i + 1) (by omega)).2.resolve_left (by omega)
          simpa using this
        | succ d ih =>
          intro i hi
          have h1 := ih i (by omega)
          have h2 := (hs (i + (d + 1) + 1) hi).2.resolve_left (by omega)
          rw [show i + (d + 1) + 1 - 1 = i + d + 1 by omega] at h2
          exact ahead_trans h1 h2
      unfold Rising
      rw [List.pairwise_iff_getElem]
      intro i j hi hj hij
      have := hd (j - i - 1) i (by omega)
      rw [show i + (j - i - 1) + 1 = j by omega] at this
      simpa [List.getD, hi, hj] using this
  · rintro ⟨h1, h2⟩ i hi
    have hi2 := List.mem_range.1 hi
    unfold lnStep
    have e : ks.getD i (0, 0) = ks[i] := by simp [List.getD, hi2]
    rw [e, h1 _ (List.getElem_mem hi2)]
    by_cases h0 : i = 0
    · simp [h0]
    · have e2 : ks.getD (i - 1) (0, 0) = ks[i - 1] := by simp [List.getD, show i - 1 < ks.length by omega]
      rw [e2]
      unfold Rising at h2
      rw [List.pairwise_iff_getElem] at h2
      simp [h2 (i - 1) i (by omega) hi2 (by omega)]
/-- the link of two -/
def lnOf (a b : Int) : K2 := if a > b then (b, a) else (a, b)
/-- the first place where p holds -/
def firstP (p : K2 → Bool) (ks : List K2) : Int := if ks.any p then ((ks.findIdx p : Nat) : Int) else -1
theorem firstP_at {p : K2 → Bool} {ks : List K2} {i : Nat} (hi : i < ks.length) (hp : p (ks.getD i (0, 0)) = true) (hn : ∀ j, j < i → p (ks.getD j (0, 0)) = false) : firstP p ks = i := by
  have e : ks.getD i (0, 0) = ks[i] := by simp [List.getD, hi]
  rw [e] at hp
  have ha : ks.any p = true := List.any_eq_true.2 ⟨_, List.getElem_mem hi, hp⟩
  unfold firstP
  rw [if_pos ha]
  congr 1
  rw [List.findIdx_eq hi]
  refine ⟨hp, fun j hj => ?_⟩
  have := hn j hj
  simpa [List.getD, show j < ks.length by omega] using this
theorem firstP_none {p : K2 → Bool} {ks : List K2} (hn : ∀ j, j < ks.length → p (ks.getD j (0, 0)) = false) : firstP p ks = -1 := by
  unfold firstP
  rw [if_neg]
  intro h
  obtain ⟨x, hx, hp⟩ := List.any_eq_true.1 h
  obtain ⟨i, hi, rfl⟩ := List.getElem_of_mem hx
  have := hn i hi
  simp [List.getD, hi, hp] at this
theorem firstP_cases (p : K2 → Bool) (ks : List K2) : (firstP p ks = -1 ∧ ∀ k ∈ ks, p k = false) ∨ ∃ i, ∃ hi : i < ks.length, firstP p ks = (i : Nat) ∧ p ks[i] = true := by
  by_cases h : ks.any p = true
  · refine .inr ⟨ks.findIdx p, List.findIdx_lt_length_of_exists (List.any_eq_true.1 h), ?_, ?_⟩
    · unfold firstP; rw [if_pos h]
    · exact List.findIdx_getElem
  · refine .inl ⟨?_, fun k hk => ?_⟩
    · unfold firstP; rw [if_neg h]
    · cases hp : p k with
      | false => rfl
      | true => exact absurd (List.any_eq_true.2 ⟨k, hk, hp⟩) h
/-- the link's place; and that of either order -/
def atL (ks : List K2) (a b : Int) : Int := firstP (fun k => k == lnOf a b) ks
/-- one behind those ahead of it -/
def insK (ks : List K2) (l : K2) (i : Nat) : List K2 := ks.take i ++ l :: ks.drop i
def upM (ks : List K2) (a b : Int) : List K2 :=
  if lnsB ks = true ∧ atL ks a b < 0 then (if lnsB (insK ks (lnOf a b) (ks.takeWhile fun k => aheadB k (lnOf a b)).length) = true then insK ks (lnOf a b) (ks.takeWhile fun k => aheadB k (lnOf a b)).length else ks) else ks
theorem ins_len (ks : List K2) (l : K2) (i : Nat) (h : i ≤ ks.length) : (insK ks l i).length = ks.length + 1 := by simp [insK]; omega
theorem up_len (ks : List K2) (a b : Int) : (upM ks a b).length ≤ ks.length + 1 := by
  unfold upM
  split
  · split
    · rw [ins_len]
      · exact Nat.le_refl _
      · exact (List.takeWhile_prefix _).length_le
    · omega
  · omega
/-- who is near -/
def nrF (id : Int) (k : K2) : Option Int := if k.1 = id then some k.2 else if k.2 = id then some k.1 else none
def nearM (ks : List K2) (id : Int) : List Int := if lnsB ks = true then ks.filterMap (nrF id) else []
end Go.Proofs.Ytpfnpinoamjcjaa
namespace Go.Proofs.Ytpfnpinoamjcjaa
open Go.ChangeShapes Go.WideShapes Go.ChangeAt Go.RowKit Go.BigFrame
set_option linter.unusedVariables false
set_option linter.unusedSimpArgs false

theorem wpList_append_in1 {ops : Array Oper} {rest : List Oper} {o : Oper} {a : Act} {w : World} {Q : Exit → Act → World → Prop} (hgd : o.guard = none) (s x : Operand)
    (ho : o.op = .call { callee := .builtin .append, args := #[s, x], argTypes := #[33, 33] })
    {base : Nat} {v : Value} {xs : List Int} (hown : w.ownsRow base 3 1 v xs.length (intsV xs)) (g : Nat) (z : Int) (hu : w.heap[g]? = some (.cells #[.int .i64 z] 3 (0, 0))) (hs : a.eval s = v) (hx : a.eval x = .slice (some ⟨g, 0, none⟩) 1 1) (hn : xs.length ≤ 1000000) (hbase : base ≤ w.heap.size)
    (h : ∀ v' w', w'.ownsRow base 3 1 v' (xs ++ [z]).length (intsV (xs ++ [z])) → w.grownBy w' v.ownBlock → wpList Try.prog ops Q rest (a.put o.dst v') w') : wpList Try.prog ops Q (o :: rest) a w := by
  refine wpList_plain hgd fun K hK => ?_
  have hz : inAt w (.slice (some ⟨g, 0, none⟩) 1 1) [z] := ⟨_, 1, rfl, by simp, .inr ⟨g, 0, rfl, (Array.getElem?_eq_some_iff.1 hu).1, fun i hi => by
    obtain rfl : i = 0 := by simpa using hi
    rw [cell_of_row _ _ _ _ _ _ hu]; rfl⟩⟩
  obtain ⟨v', w', hr, h2, h3⟩ := run_append_in hown _ [z] hz o.type (by simp; omega) hbase
  unfold Oper.wp execOp
  simp only [ho, resolve, invoke, builtin, Sem.run_bind, Sem.run_pure, Result.andThen_ok, List.map_toArray, List.map_cons, List.map_nil, hs, hx, hr]
  refine hK _ _ (h v' w' ?_ h3)
  rw [List.length_append, intsV_app]
  exact h2
/-- numbers of one's own, while they are put together -/
def IlD (w0 wr : World) (v : Value) (xs : List Int) : Prop := wr.ownsRow w0.heap.size 3 1 v xs.length (intsV xs) ∧ Below w0.heap.size w0 wr
theorem IlD.own {w0 wr : World} {v : Value} {xs : List Int} (h : IlD w0 wr v xs) : wr.ownsRow w0.heap.size 3 1 v xs.length (intsV xs) := h.1
theorem IlD.below {w0 wr : World} {v : Value} {xs : List Int} (h : IlD w0 wr v xs) : Below w0.heap.size w0 wr := h.2
theorem IlD.at {w0 wr : World} {v : Value} {xs : List Int} (h : IlD w0 wr v xs) : inAt wr v xs := inAt_own h.1 rfl
theorem IlD.next {w0 wr w1 : World} {v : Value} {xs : List Int} (h : IlD w0 wr v xs) (hb : Below wr.heap.size wr w1) : IlD w0 w1 v xs := ⟨own_below h.1 hb, h.2.trans (hb.mono h.2.size)⟩
theorem IlD.alloc {w0 wr : World} {v : Value} {xs : List Int} (h : IlD w0 wr v xs) (o : Obj) : IlD w0 (wr.alloc o) v xs := h.next ((Below.refl _ _).alloc (Nat.le_refl _) _)
theorem IlD.push {w0 wr w1 : World} {v v' : Value} {xs ys : List Int} (h : IlD w0 wr v xs) (ho : w1.ownsRow w0.heap.size 3 1 v' ys.length (intsV ys)) (hg : wr.grownBy w1 v.ownBlock) : IlD w0 w1 v' ys :=
  ⟨ho, h.2.grown hg h.2.size (fun g hg => (h.1.lt g hg).1)⟩
theorem IlD.nil (w : World) : IlD w w (.slice none 0 0) [] := ⟨World.ownsRow_nil _ _ _ _, Below.refl _ _⟩
theorem IlD.lit (w : World) : IlD w (w.alloc (.cells #[] 3)) (.slice (some ⟨w.heap.size, 0, none⟩) 0 0) [] :=
  ⟨World.ownsRow_lit (base := w.heap.size) (e := 3) (size := 1) w #[] 0 (Nat.le_refl _) (by unfold maxLen; omega) rfl, (Below.refl w.heap.size w).alloc (Nat.le_refl _) _⟩
theorem IlD.shape {w0 wr : World} {v : Value} {xs : List Int} (h : IlD w0 wr v xs) : ∃ a c, v = .slice a xs.length c := by
  rcases ownsRow_shape0 h.1 with ⟨rfl, h0⟩ | ⟨g, c, rfl⟩
  · exact ⟨none, 0, by rw [h0]⟩
  · exact ⟨_, c, rfl⟩
theorem IlD.shape2 {w0 wr : World} {v : Value} {xs : List Int} (h : IlD w0 wr v xs) (n : Nat) (hn : n = xs.length) : ∃ a c, v = .slice a n c := by subst hn; exact h.shape

/-- one into rising numbers, as the model does it -/
def putStep (id : Int) (s : List Int × Bool) (x : Int) : List Int × Bool :=
  (if x = id then (if s.2 = false ∧ id ≤ x then s.1 ++ [id] else s.1) else (if s.2 = false ∧ id ≤ x then s.1 ++ [id] else s.1) ++ [x], if s.2 = false ∧ id ≤ x then true else s.2)
def putS (xs : List Int) (id : Int) : List Int × Bool := xs.foldl (putStep id) ([], false)
def putF (xs : List Int) (id : Int) : List Int := if (putS xs id).2 = true then (putS xs id).1 else (putS xs id).1 ++ [id]
theorem putS_succ (xs : List Int) (id : Int) (k : Nat) (hk : k < xs.length) : putS (xs.take (k + 1)) id = putStep id (putS (xs.take k) id) (xs[k]?.getD 0) := by
  unfold putS
  rw [List.take_add_one, List.foldl_append]
  simp [hk]
theorem putStep_len (id : Int) (s : List Int × Bool) (x : Int) : (putStep id s x).1.length + (!(putStep id s x).2).toNat ≤ s.1.length + (!s.2).toNat + 1 := by
  obtain ⟨o, d⟩ := s
  unfold putStep
  dsimp only
  cases d <;> by_cases h1 : id ≤ x <;> by_cases h2 : x = id <;> simp [h1, h2] <;> omega
theorem putS_len (id : Int) : ∀ (xs : List Int) (s : List Int × Bool), (xs.foldl (putStep id) s).1.length + (!(xs.foldl (putStep id) s).2).toNat ≤ s.1.length + (!s.2).toNat + xs.length
  | [], s => Nat.le_refl _
  | x :: r, s => by
    have h1 := putS_len id r (putStep id s x)
    have h2 := putStep_len id s x
    simp only [List.foldl_cons, List.length_cons]
    omega
theorem putS_le (xs : List Int) (id : Int) : (putS xs id).1.length + (!(putS xs id).2).toNat ≤ xs.length + 1 := by
  have := putS_len id xs ([], false)
  unfold putS
  simpa [Nat.add_comm] using this
theorem putF_len (xs : List Int) (id : Int) : (putF xs id).length ≤ xs.length + 1 := by
  have h := putS_le xs id
  unfold putF
  split
  · rename_i h1
    rw [h1] at h; simpa using h
  · rename_i h1
    have h2 : (putS xs id).2 = false := by simpa using h1
    rw [h2] at h
    rw [List.length_append, List.length_singleton]; exact h
/-- rising numbers -/
def IRis (l : List Int) : Prop := l.Pairwise (· < ·)
theorem iris_append {a b : List Int} : IRis (a ++ b) ↔ IRis a ∧ IRis b ∧ ∀ x ∈ a, ∀ y ∈ b, x < y := List.pairwise_append
/-- what stands at each place of the way: all that are ahead of those to come -/
theorem putS_ok (id : Int) : ∀ (xs pre : List Int) (d : Bool), IRis pre → IRis xs → (∀ p ∈ pre, ∀ x ∈ xs, p < x) → (d = true → id ∈ pre ∧ ∀ x ∈ xs, id < x) → (d = false → ∀ p ∈ pre, p < id) →
    IRis (xs.foldl (putStep id) (pre, d)).1 ∧ ((xs.foldl (putStep id) (pre, d)).2 = false → ∀ p ∈ (xs.foldl (putStep id) (pre, d)).1, p < id) ∧ ((xs.foldl (putStep id) (pre, d)).2 = true → id ∈ (xs.foldl (putStep id) (pre, d)).1) ∧
    (∀ y, y ≠ id → (y ∈ (xs.foldl (putStep id) (pre, d)).1 ↔ y ∈ pre ∨ y ∈ xs))
  | [], pre, d, hp, _, _, h3, h4 => ⟨hp, fun h => h4 h, fun h => (h3 h).1, fun y hy => by simp⟩
  | x :: r, pre, d, hp, hx, h2, h3, h4 => by
    obtain ⟨hx1, hx2⟩ := List.pairwise_cons.1 hx
    have hpx : ∀ p ∈ pre, p < x := fun p h => h2 p h x (by simp)
    have hpr : ∀ p ∈ pre, ∀ y ∈ r, p < y := fun p h y hy => h2 p h y (by simp [hy])
    simp only [List.foldl_cons]
    cases d with
    | true =>
      obtain ⟨h5, h6⟩ := h3 rfl
      have hxi : ¬ x = id := by have := h6 x (by simp); omega
      have e : putStep id (pre, true) x = (pre ++ [x], true) := by simp [putStep, hxi]
      rw [e]
      obtain ⟨a1, a2, a3, a4⟩ := putS_ok id r (pre ++ [x]) true (iris_append.2 ⟨hp, by simp [IRis], fun p h y hy => by rw [List.mem_singleton.1 hy]; exact hpx p h⟩) hx2 (fun p h y hy => by
        rcases List.mem_append.1 h with h | h
        · exact hpr p h y hy
        · rw [List.mem_singleton.1 h]; exact hx1 y hy) (fun _ => ⟨List.mem_append.2 (.inl h5), fun y hy => h6 y (by simp [hy])⟩) (fun h => by cases h)
      refine ⟨a1, a2, a3, fun y hy => ?_⟩
      rw [a4 y hy, List.mem_append, List.mem_singleton, List.mem_cons, or_assoc]
    | false =>
      have h5 := h4 rfl
      by_cases h6 : id ≤ x
      · by_cases h7 : x = id
        · have e : putStep id (pre, false) x = (pre ++ [id], true) := by simp [putStep, h6, h7]
          rw [e]
          obtain ⟨a1, a2, a3, a4⟩ := putS_ok id r (pre ++ [id]) true (iris_append.2 ⟨hp, by simp [IRis], fun p h y hy => by rw [List.mem_singleton.1 hy]; exact h5 p h⟩) hx2 (fun p h y hy => by
            rcases List.mem_append.1 h with h | h
            · exact hpr p h y hy
            · rw [List.mem_singleton.1 h, ← h7]; exact hx1 y hy) (fun _ => ⟨by simp, fun y hy => by rw [← h7]; exact hx1 y hy⟩) (fun h => by cases h)
          refine ⟨a1, a2, a3, fun y hy => ?_⟩
          rw [a4 y hy, List.mem_append, List.mem_singleton, List.mem_cons, h7]
          constructor
          · rintro ((h | h) | h)
            · exact .inl h
            · exact absurd h hy
            · exact .inr (.inr h)
          · rintro (h | h | h)
            · exact .inl (.inl h)
            · exact absurd h hy
            · exact .inr h
        · have e : putStep id (pre, false) x = (pre ++ [id] ++ [x], true) := by simp [putStep, h6, h7]
          rw [e]
          have hix : id < x := by omega
          obtain ⟨a1, a2, a3, a4⟩ := putS_ok id r (pre ++ [id] ++ [x]) true (iris_append.2 ⟨iris_append.2 ⟨hp, by simp [IRis], fun p h y hy => by rw [List.mem_singleton.1 hy]; exact h5 p h⟩, by simp [IRis], fun p h y hy => by
              rw [List.mem_singleton.1 hy]
              rcases List.mem_append.1 h with h | h
              · exact hpx p h
              · rw [List.mem_singleton.1 h]; exact hix⟩) hx2 (fun p h y hy => by
            rcases List.mem_append.1 h with h | h
            · rcases List.mem_append.1 h with h | h
              · exact hpr p h y hy
              · rw [List.mem_singleton.1 h]; have := hx1 y hy; omega
            · rw [List.mem_singleton.1 h]; exact hx1 y hy) (fun _ => ⟨by simp, fun y hy => by have := hx1 y hy; omega⟩) (fun h => by cases h)
          refine ⟨a1, a2, a3, fun y hy => ?_⟩
          rw [a4 y hy, List.mem_append, List.mem_append, List.mem_singleton, List.mem_singleton, List.mem_cons]
          constructor
          · rintro (((h | h) | h) | h)
            · exact .inl h
            · exact absurd h hy
            · exact .inr (.inl h)
            · exact .inr (.inr h)
          · rintro (h | h | h)
            · exact .inl (.inl (.inl h))
            · exact .inl (.inr h)
            · exact .inr h
      · have hxi : ¬ x = id := by omega
        have e : putStep id (pre, false) x = (pre ++ [x], false) := by simp [putStep, h6, hxi]
        rw [e]
        obtain ⟨a1, a2, a3, a4⟩ := putS_ok id r (pre ++ [x]) false (iris_append.2 ⟨hp, by simp [IRis], fun p h y hy => by rw [List.mem_singleton.1 hy]; exact hpx p h⟩) hx2 (fun p h y hy => by
          rcases List.mem_append.1 h with h | h
          · exact hpr p h y hy
          · rw [List.mem_singleton.1 h]; exact hx1 y hy) (fun h => by cases h) (fun _ p h => by
          rcases List.mem_append.1 h with h | h
          · exact h5 p h
          · rw [List.mem_singleton.1 h]; omega)
        refine ⟨a1, a2, a3, fun y hy => ?_⟩
        rw [a4 y hy, List.mem_append, List.mem_singleton, List.mem_cons, or_assoc]
theorem putF_ok {xs : List Int} (h : IRis xs) (id : Int) : IRis (putF xs id) ∧ ∀ y, y ∈ putF xs id ↔ y = id ∨ y ∈ xs := by
  obtain ⟨a1, a2, a3, a4⟩ := putS_ok id xs [] false (by simp [IRis]) h (by simp) (by simp) (by simp)
  unfold putF putS
  split
  · rename_i hd
    refine ⟨a1, fun y => ?_⟩
    by_cases hy : y = id
    · subst hy; simp [a3 hd]
    · rw [a4 y hy]; simp [hy]
  · rename_i hd
    have hd2 : (xs.foldl (putStep id) ([], false)).2 = false := by simpa using hd
    refine ⟨iris_append.2 ⟨a1, by simp [IRis], fun p hp y hy => by rw [List.mem_singleton.1 hy]; exact a2 hd2 p hp⟩, fun y => ?_⟩
    rw [List.mem_append, List.mem_singleton]
    by_cases hy : y = id
    · subst hy; simp
    · rw [a4 y hy]; simp [hy]
theorem iris_ext : ∀ (a b : List Int), IRis a → IRis b → (∀ k, k ∈ a ↔ k ∈ b) → a = b
  | [], [], _, _, _ => rfl
  | [], y :: b, _, _, h => by have := (h y).2 (by simp); simp at this
  | x :: a, [], _, _, h => by have := (h x).1 (by simp); simp at this
  | x :: a, y :: b, ha, hb, h => by
    have ha' := List.pairwise_cons.1 ha
    have hb' := List.pairwise_cons.1 hb
    have hxy : x = y := by
      rcases List.mem_cons.1 ((h x).1 (by simp)) with h1 | h1
      · exact h1
      · rcases List.mem_cons.1 ((h y).2 (by simp)) with h2 | h2
        · exact h2.symm
        · have e1 := hb'.1 x h1
          have e2 := ha'.1 y h2
          omega
    subst hxy
    congr 1
    refine iris_ext a b ha'.2 hb'.2 fun k => ⟨fun hk => ?_, fun hk => ?_⟩
    · rcases List.mem_cons.1 ((h k).1 (by simp [hk])) with h1 | h1
      · subst h1
        have := ha'.1 k hk
        omega
      · exact h1
    · rcases List.mem_cons.1 ((h k).2 (by simp [hk])) with h1 | h1
      · subst h1
        have := hb'.1 k hk
        omega
      · exact h1
/-- one behind all of them comes last -/
theorem putF_last {xs : List Int} (h : IRis xs) (id : Int) (hl : ∀ x ∈ xs, x < id) : putF xs id = xs ++ [id] := by
  obtain ⟨h1, h2⟩ := putF_ok h id
  refine iris_ext _ _ h1 (iris_append.2 ⟨h, by simp [IRis], fun p hp y hy => by rw [List.mem_singleton.1 hy]; exact hl p hp⟩) fun k => ?_
  rw [h2, List.mem_append, List.mem_singleton]
  exact Or.comm
end Go.Proofs.Ytpfnpinoamjcjaa
namespace Go.Proofs.Ytpfnpinoamjcjaa
open Go.RowKit
set_option linter.unusedVariables false

theorem set_cells {w : World} {B j : Nat} {cs : Array Value} {t : TypeId} (u : Value) (h : w.heap[B]? = some (.cells cs t (0, 0))) : (w.setCell ⟨B, j, none⟩ u).heap[B]? = some (.cells (cs.setIfInBounds j u) t (0, 0)) := by
  obtain ⟨hlt, hk⟩ := Array.getElem?_eq_some_iff.1 h
  show (w.heap.modify B _)[B]? = _
  rw [Array.getElem?_eq_getElem (by rw [Array.size_modify]; exact hlt), Array.getElem_modify_self, hk]
  rfl
end Go.Proofs.Ytpfnpinoamjcjaa
namespace Go.Proofs.Ytpfnpinoamjcjaa
open Go.ChangeShapes Go.WideShapes Go.ChangeAt Go.RowKit Go.BigFrame
set_option linter.unusedVariables false

theorem set_key (ks : List K2) (k : Nat) (p q : Int) (u1 u2 : Value) (rest : List Value) (hk : k < ks.length) (hx : ks.getD k (0, 0) = (p, q)) :
    ((keyCells (ks.take k) ++ u1 :: u2 :: rest).set (k * 2) (.int .i64 p)).set (k * 2 + 1) (.int .i64 q) = keyCells (ks.take (k + 1)) ++ rest := by
  have hl := keyCells_len (ks.take k)
  have hl2 : (keyCells (ks.take k)).length = k * 2 := by rw [hl]; simp; omega
  rw [List.take_succ_eq_append_getElem hk, keyCells_snoc, show ks[k] = (p, q) by rw [← hx]; simp [List.getD, hk]]
  rw [List.set_append_right _ _ (by omega), hl2, Nat.sub_self, List.set_cons_zero, List.set_append_right _ _ (by omega), hl2, show k * 2 + 1 - k * 2 = 1 by omega]
  simp
end Go.Proofs.Ytpfnpinoamjcjaa
namespace Go.Proofs.Ytpfnpinoamjcjaa
open Go.ChangeShapes Go.WideShapes Go.ChangeAt Go.RowKit Go.BigFrame
set_option linter.unusedVariables false

def marked (n : Nat) (m : Int) : List K2 := (List.range n).map fun (i : Nat) => (m + 2 * (i : Int), m + 2 * (i : Int) + 1)
theorem marked_len (n : Nat) (m : Int) : (marked n m).length = n := by simp [marked]
theorem marked_succ (k : Nat) (m : Int) : marked (k + 1) m = marked k m ++ [(m + 2 * (k : Int), m + 2 * (k : Int) + 1)] := by
  simp [marked, List.range_succ]
theorem set_mark (k : Nat) (m : Int) (u1 u2 : Value) (rest : List Value) :
    ((keyCells (marked k m) ++ u1 :: u2 :: rest).set (k * 2) (.int .i64 (m + 2 * (k : Int)))).set (k * 2 + 1) (.int .i64 (m + 2 * (k : Int) + 1)) = keyCells (marked (k + 1) m) ++ rest := by
  have hl := keyCells_len (marked k m)
  rw [marked_len] at hl
  rw [marked_succ, keyCells_snoc]
  rw [List.set_append_right _ _ (by omega), hl, Nat.sub_self, List.set_cons_zero, List.set_append_right _ _ (by omega), hl, show k * 2 + 1 - k * 2 = 1 by omega]
  simp
end Go.Proofs.Ytpfnpinoamjcjaa
namespace Go.Proofs.Ytpfnpinoamjcjaa
open Go.ChangeShapes Go.WideShapes Go.ChangeAt Go.RowKit Go.BigFrame
set_option linter.unusedVariables false

theorem link_load {w : World} {g o : Nat} {k : K2} (hc : w.cell? ⟨g, o, none⟩ = some (.int .i64 k.1) ∧ w.cell? ⟨g, o + 1, none⟩ = some (.int .i64 k.2)) {w' : World} (hg : g < w.heap.size) (hb : Below w.heap.size w w') :
    (loadVar 49 ⟨g, o, none⟩).run Try.prog w' = .ok (kv k) w' := by
  refine run_loadVar_mid w' g o 49 [.int .i64 k.1, .int .i64 k.2] _ (fun j v hj => ?_) Try.underlying49 rfl (by kernel_rfl)
  have hj2 : j < 2 := by have := (List.getElem?_eq_some_iff.1 hj).1; simpa using this
  rcases (by omega : j = 0 ∨ j = 1) with rfl | rfl
  · rw [hb.cell (p := ⟨g, o + 0, none⟩) hg]
    simpa using hc.1.trans (by simpa using hj)
  · rw [hb.cell (p := ⟨g, o + 1, none⟩) hg]
    simpa using hc.2.trans (by simpa using hj)
theorem link_equal (p q : K2) (w : World) : (Op.equalIn 10000 49 (kv p) (kv q)).run Try.prog w = .ok (p == q) w := by
  obtain ⟨a, b⟩ := p; obtain ⟨c, d⟩ := q
  have u3 := Try.underlying3
  have hS : Try.prog.underlying 49 = some (.struct (Try.prog.fieldsOf 49)) := by kernel_rfl
  unfold kv
  rw [show (10000 : Nat) = 9999 + 1 from rfl, run_equalIn_agg w 9999 49 _ _ hS (by kernel_rfl)]
  simp only [Program.fieldsOf, Try.underlying49]
  go_simp
  by_cases h1 : a = c <;> by_cases h2 : b = d <;> simp [h1, h2]
theorem link_eql (p q : K2) (w : World) : (binOp .eql 49 (kv p) (kv q)).run Try.prog w = .ok (.bool (p == q)) w := by
  have := link_equal p q w
  unfold kv at *
  rw [run_eql_struct, this]; rfl
theorem link_neq (p q : K2) (w : World) : (binOp .neq 49 (kv p) (kv q)).run Try.prog w = .ok (.bool (!(p == q))) w := by
  have := link_equal p q w
  unfold kv at *
  rw [run_neq_struct, this]; rfl
theorem link_guard (op : BinOp) (x y : Operand) (p q : K2) (w : World) : (eqGuard op 49 x y (kv p) (kv q)).run Try.prog w = .ok () w := by
  unfold kv
  exact run_eqGuard_agg w op 49 x y _ _ (by kernel_rfl)
theorem infoLn : (Try.prog.info? 49).map (fun i => (i.zero, i.size, i.bytes)) = some (some (.agg #[.int .i64 0, .int .i64 0]), 2, 16) := by kernel_rfl
/-- what is owned leads to its keys -/
theorem linksAt_own {w : World} {base : Nat} {v : Value} {ks : List K2} (h : w.ownsRow base 49 2 v ks.length (keyCells ks)) : keysAt w v ks := by
  rcases h.2 with ⟨rfl, h0⟩ | ⟨g, cap, cur, rfl, hb, hg, hn, hm, hs, ht⟩
  · exact ⟨none, 0, by rw [h0], by omega, .inl h0⟩
  · refine ⟨_, cap, rfl, hn, .inr ⟨g, 0, rfl, (Array.getElem?_eq_some_iff.1 hg).1, fun i hi => ?_⟩⟩
    have hc := keyCells_get ks i hi
    rw [Nat.zero_add, h.cellAt (i * 2) (by omega), h.cellAt (i * 2 + 1) (by omega)]
    exact hc
theorem tolink_any (k : K2) (w : World) : Calls Try.prog 58 #[kv k] w fun e w' => e = .returned (kv k) ∧ Below w.heap.size w w' := by
  obtain ⟨n, s⟩ := k
  unfold kv
  dsimp only
  have hB : ∀ o1 o2 o3, Below w.heap.size w (((w.alloc o1).alloc o2).alloc o3) := fun o1 o2 o3 => (((Below.refl _ _).alloc (Nat.le_refl _) _).alloc (by simp) _).alloc (by simp; omega) _
  have HB := Lib.hid hB; clear hB
  go_enter Try.func58, Try.ntmps58
  go_wp2
  refine bodyPost_ret (v := .agg #[.int .i64 n, .int .i64 s]) ?_ rfl ⟨rfl, HB.out _ _ _⟩
  rw [results_cell (p := 2) (ty := 49) (by kernel_rfl)]
  have hl := run_loadVar_row (P := Try.prog) (((w.alloc (.cells #[.int .i64 n, .int .i64 s] 68)).alloc (.cells #[.int .i64 n, .int .i64 s] 49)).alloc (.cells #[.int .i64 n, .int .i64 s] 49)) (w.heap.size + 1) 49 49 #[.int .i64 n, .int .i64 s] (0, 0) _ (heap_mid w _ _ _) Try.underlying49 rfl (by kernel_rfl)
  simp [asAddr, Result.andThen, hl]
theorem eqlink_any (p q : K2) (w : World) : Calls Try.prog 59 #[kv p, kv q] w fun e w' => e = .returned (.bool (p == q)) ∧ Below w.heap.size w w' := by
  obtain ⟨a, b⟩ := p; obtain ⟨c, d⟩ := q
  have hB : ∀ o o', Below w.heap.size w ((w.alloc o).alloc o') := fun o o' => ((Below.refl _ _).alloc (Nat.le_refl _) _).alloc (by simp) _
  have HB := Lib.hid hB; clear hB
  by_cases h1 : a = c
  · by_cases h2 : b = d
    · have he : ((a, b) == (c, d)) = true := by simp [h1, h2]
      rw [he]
      unfold kv
      dsimp only
      subst h1; subst h2
      go_enter Try.func59, Try.ntmps59
      go_wp2
      go_ret
      exact ⟨rfl, HB.out _ _⟩
    · have he : ((a, b) == (c, d)) = false := by simp [h1, h2]
      rw [he]
      unfold kv
      dsimp only
      subst h1
      go_enter Try.func59, Try.ntmps59
      go_wp2
      go_ret
      exact ⟨rfl, HB.out _ _⟩
  · have he : ((a, b) == (c, d)) = false := by simp [h1]
    rw [he]
    unfold kv
    dsimp only
    go_enter Try.func59, Try.ntmps59
    go_wp2
    go_ret
    exact ⟨rfl, HB.out _ _⟩
theorem szlinks_any (v : Value) (ks : List K2) (left : Int) (w : World) (h : ∃ a cap, v = .slice a ks.length cap) (hl : 0 ≤ left ∧ left ≤ 1000000000) (hs : ks.length ≤ 9223372036854775807) :
    Calls Try.prog 31 #[v, .int .i64 left] w fun e w' => e = .returned (.int .i64 (if left - (ks.length : Int) < 0 then -1 else left - (ks.length : Int))) ∧ w' = w := by
  obtain ⟨a, cap, rfl⟩ := h
  by_cases hn : left - (ks.length : Int) < 0
  · rw [if_pos hn]
    have ew : IntKind.i64.wrap (left - (ks.length : Int)) = left - (ks.length : Int) := IntWalk.i64_in _ (by omega)
    go_enter Try.func31, Try.ntmps31
    go_wp2
    go_ret
    exact ⟨rfl, rfl⟩
  · rw [if_neg hn]
    have ew : IntKind.i64.wrap (left - (ks.length : Int)) = left - (ks.length : Int) := IntWalk.i64_in _ (by omega)
    go_enter Try.func31, Try.ntmps31
    go_wp2
    go_ret
    exact ⟨rfl, rfl⟩
set_option maxRecDepth 100000 in
set_option maxHeartbeats 1000000 in
theorem tolinks_any (v : Value) (ks : List K2) (w : World) (h : keysAt w v ks) (hs : ks.length ≤ 2000000) : Calls Try.prog 32 #[v] w fun e w' => ∃ g, e = .returned (.slice (some ⟨g, 0, none⟩) ks.length ks.length) ∧ w.heap.size ≤ g ∧
    w'.ownsRow w.heap.size 49 2 (.slice (some ⟨g, 0, none⟩) ks.length ks.length) ks.length (keyCells ks) ∧ Below w.heap.size w w' := by
  obtain ⟨a, cap, rfl, hcap, hcells⟩ := h
  obtain ⟨i0, hi, hz0, hz1, hz2⟩ := info_parts infoLn
  obtain ⟨W, hmk, hown0, hgr0⟩ := run_make_full (P := Try.prog) w w.heap.size 24 49 i0 _ 2 Try.underlying24 hi hz0 hz1 .i64 .i64 ks.length (by rw [hz2]; omega) (by unfold maxLen; omega) (Nat.le_refl _)
  have hb0 : Below w.heap.size w W := (Below.refl _ _).grown hgr0 (Nat.le_refl _) (by simp)
  have hrest : (madeCells (Value.agg #[.int .i64 0, .int .i64 0]).cells (ks.length * 2)).toList.length = ks.length * 2 := hown0.1
  generalize (madeCells (Value.agg #[.int .i64 0, .int .i64 0]).cells (ks.length * 2)).toList = Z at *
  go_enter Try.func32, Try.ntmps32
  go_wp2
  clear hmk hgr0
  go_loopw [4] (fun i wr => ∃ (k : Nat) (rest : List Value), k ≤ ks.length ∧ i = .int .i64 k ∧ wr.ownsRow w.heap.size 49 2 (.slice (some ⟨w.heap.size, 0, none⟩) ks.length ks.length) ks.length (keyCells (ks.take k) ++ rest) ∧ Below w.heap.size w wr)
    (fun i _ => ks.length - (intOf i).toNat)
  case atStart => exact ⟨0, Z, Nat.zero_le _, rfl, by simpa [keyCells] using hown0, hb0⟩
  case round =>
    obtain ⟨k, rest, hk, rfl, hown, hbr⟩ := hrel
    clear hown0 hb0 hrest
    by_cases hlt : k < ks.length
    · obtain ⟨ga, off, rfl, hg, hcs⟩ := hcells.resolve_left (by omega)
      have hc := hcs k hlt
      have z0 : (0 : Int) ≤ (k : Int) := by omega
      have z1 : (k : Int) < (ks.length : Int) := by omega
      have d1 : wr.cell? ⟨ga, off + k * 2, none⟩ = some (.int .i64 (ks.getD k (0, 0)).1) := by rw [hbr.cell (p := ⟨ga, off + k * 2, none⟩) hg]; exact hc.1
      have d2 : wr.cell? ⟨ga, off + k * 2 + 1, none⟩ = some (.int .i64 (ks.getD k (0, 0)).2) := by rw [hbr.cell (p := ⟨ga, off + k * 2 + 1, none⟩) hg]; exact hc.2
      clear hcs hc hcells
      have hkt : (ks.take k).length = k := by simp; omega
      have hkl := keyCells_len (ks.take k)
      have hrl : rest.length = (ks.length - k) * 2 := by
        have := hown.1
        rw [List.length_append, hkl, hkt] at this
        omega
      obtain ⟨u1, u2, rest2, rfl⟩ : ∃ u1 u2 r, rest = u1 :: u2 :: r := by
        match rest, hrl with
        | [], h => simp at h; omega
        | [_], h => simp at h; omega
        | a :: b :: r, _ => exact ⟨a, b, r, rfl⟩
      generalize hkx : ks.getD k (0, 0) = kx at *
      obtain ⟨p, q⟩ := kx
      have hset := set_key ks k p q u1 u2 rest2 hlt hkx
      have HSET := Lib.hid hset
      have HT := Lib.hid (tolink_any (p, q) wr)
      clear hkx hset hrl
      go_wp2_with fail
      refine HT.out.mono ?_
      rintro e w2 ⟨rfl, hb2⟩
      have hown2 := own_below hown hb2
      have hbq := hbr.trans (hb2.mono hbr.size)
      clear hown hbr hb2 HT d1 d2
      have st1 := hown2.stored (k * 2) (.int .i64 p)
      have st2 := st1.1.stored (k * 2 + 1) (.int .i64 q)
      rw [HSET.out] at st2
      have hbz := (hbq.setCell (p := ⟨w.heap.size, k * 2, none⟩) (Nat.le_refl _) (.int .i64 p)).setCell (p := ⟨w.heap.size, k * 2 + 1, none⟩) (Nat.le_refl _) (.int .i64 q)
      have R := Lib.hid (And.intro st2.1 hbz)
      clear st1 st2 hbz hbq HSET
      obtain ⟨s1, s2⟩ := own_cell hown2 (k * 2) (by omega)
      obtain ⟨s3, s4⟩ := own_cell hown2 (k * 2 + 1) (by omega)
      unfold kv
      dsimp only
      go_wp2
      exact ⟨⟨k + 1, rest2, by omega, by go_num, R.out.1, R.out.2⟩, by simp [intOf]; omega⟩
    · obtain rfl : k = ks.length := by omega
      rw [List.take_length] at hown
      have hr0 : rest = [] := by
        have h1 := hown.1
        rw [List.length_append, keyCells_len] at h1
        exact List.eq_nil_of_length_eq_zero (by omega)
      subst hr0
      rw [List.append_nil] at hown
      go_wp2
      go_ret
      exact ⟨w.heap.size, rfl, Nat.le_refl _, hown, hbr⟩
set_option maxRecDepth 100000 in
set_option maxHeartbeats 1000000 in
theorem eqlinks_any (va vb : Value) (A B : List K2) (w : World) (ha : keysAt w va A) (hb : keysAt w vb B) (hsA : A.length ≤ 4000000) (hsB : B.length ≤ 4000000) :
    Calls Try.prog 33 #[va, vb] w fun e w' => e = .returned (.bool (decide (A = B))) ∧ Below w.heap.size w w' := by
  obtain ⟨aa, ca, rfl, hca, hcA⟩ := ha
  obtain ⟨ab, cb, rfl, hcb, hcB⟩ := hb
  by_cases hl : A.length = B.length
  · have e0 : (A.length : Int) = (B.length : Int) := by omega
    go_enter Try.func33, Try.ntmps33
    rw [hl] at hca hcA ⊢
    go_wp2
    go_loopw [5] (fun i wr => ∃ k : Nat, k ≤ B.length ∧ i = .int .i64 k ∧ (∀ j, j < k → A.getD j (0, 0) = B.getD j (0, 0)) ∧ Below w.heap.size w wr) (fun i _ => B.length - (intOf i).toNat)
    case atStart => exact ⟨0, Nat.zero_le _, rfl, fun j hj => by omega, Below.refl _ _⟩
    case round =>
      obtain ⟨k, hk, rfl, hall, hbr⟩ := hrel
      by_cases hlt : k < B.length
      · obtain ⟨ga, offa, rfl, hga, hcsA⟩ := hcA.resolve_left (by omega)
        obtain ⟨gb, offb, rfl, hgb, hcsB⟩ := hcB.resolve_left (by omega)
        have cA := hcsA k hlt
        have cB := hcsB k hlt
        have z0 : (0 : Int) ≤ (k : Int) := by omega
        have z1 : (k : Int) < (B.length : Int) := by omega
        clear hcsA hcsB hcA hcB
        have L1 : ∀ w', Below w.heap.size w w' → (loadVar 49 ⟨ga, offa + k * 2, none⟩).run Try.prog w' = .ok (kv (A.getD k (0, 0))) w' := fun w' h => link_load cA hga h
        have L2 : ∀ w', Below w.heap.size w w' → (loadVar 49 ⟨gb, offb + k * 2, none⟩).run Try.prog w' = .ok (kv (B.getD k (0, 0))) w' := fun w' h => link_load cB hgb h
        have HE := Lib.hid (fun w => eqlink_any (A.getD k (0, 0)) (B.getD k (0, 0)) w)
        clear cA cB
        cases he : (A.getD k (0, 0) == B.getD k (0, 0)) with
        | true =>
          have hn : ∀ j, j < k + 1 → A.getD j (0, 0) = B.getD j (0, 0) := by
            intro j hj
            rcases (by omega : j < k ∨ j = k) with h1 | rfl
            · exact hall j h1
            · exact eq_of_beq he
          have HN := Lib.hid hn
          rw [he] at HE
          clear hall hn
          generalize A.getD k (0, 0) = kx at *
          generalize B.getD k (0, 0) = ky at *
          go_wp2
          refine wp_region_below w (by kernel_rfl) (by kernel_rfl) hbr ?_
          repeat (first
            | go_big_quiet_skip
            | (go_big_quiet_want
               first
                 | (go_big_quiet_op; go_big_quiet_on)
                 | (refine q_load 49 _ _ _ rfl rfl L1 ?_; simp only [Act.put, List.setIfInBounds_toArray, List.set_cons_zero, List.set_cons_succ]; go_big_quiet_on)
                 | (refine q_load 49 _ _ _ rfl rfl L2 ?_; simp only [Act.put, List.setIfInBounds_toArray, List.set_cons_zero, List.set_cons_succ]; go_big_quiet_on)
                 | (go_big_quiet_op; refine ⟨_, fun _ _ => rfl, ?_⟩; go_big_quiet_on)
                 | (go_big_quiet_op; apply Exists.intro; refine ⟨fun w' hw' => ?_, ?_⟩
                    · first
                      | (refine (HE.out w').mono ?_
                         rintro e w2 ⟨rfl, hb2⟩
                         exact ⟨rfl, hw'.trans (hb2.mono hw'.size)⟩)
                    go_big_quiet_on)))
          refine wpQuiet_nil ?_
          intro w2 hb2
          clear L1 L2 HE hbr
          go_wp2
          exact ⟨⟨k + 1, by omega, by go_num, HN.out, hb2⟩, by simp [intOf]; omega⟩
        | false =>
          have hne : decide (A = B) = false := by
            simp only [decide_eq_false_iff_not]
            intro e
            subst e
            simp at he
          have HD := Lib.hid hne
          rw [he] at HE
          clear hall hne
          generalize A.getD k (0, 0) = kx at *
          generalize B.getD k (0, 0) = ky at *
          go_wp2
          refine wp_region_below w (by kernel_rfl) (by kernel_rfl) hbr ?_
          repeat (first
            | go_big_quiet_skip
            | (go_big_quiet_want
               first
                 | (go_big_quiet_op; go_big_quiet_on)
                 | (refine q_load 49 _ _ _ rfl rfl L1 ?_; simp only [Act.put, List.setIfInBounds_toArray, List.set_cons_zero, List.set_cons_succ]; go_big_quiet_on)
                 | (refine q_load 49 _ _ _ rfl rfl L2 ?_; simp only [Act.put, List.setIfInBounds_toArray, List.set_cons_zero, List.set_cons_succ]; go_big_quiet_on)
                 | (go_big_quiet_op; refine ⟨_, fun _ _ => rfl, ?_⟩; go_big_quiet_on)
                 | (go_big_quiet_op; apply Exists.intro; refine ⟨fun w' hw' => ?_, ?_⟩
                    · first
                      | (refine (HE.out w').mono ?_
                         rintro e w2 ⟨rfl, hb2⟩
                         exact ⟨rfl, hw'.trans (hb2.mono hw'.size)⟩)
                    go_big_quiet_on)))
          refine wpQuiet_nil ?_
          intro w2 hb2
          clear L1 L2 HE hbr
          go_wp2
          go_ret
          exact ⟨by rw [HD.out]; rfl, hb2⟩
      · obtain rfl : k = B.length := by omega
        have he : decide (A = B) = true := by
          simp only [decide_eq_true_eq]
          apply List.ext_getElem hl
          intro i h1 h2
          have := hall i h2
          simpa [List.getD, h1, h2] using this
        have HD := Lib.hid he
        clear hall he
        go_wp2
        go_ret
        exact ⟨by rw [HD.out]; rfl, hbr⟩
  · have hne : decide (A = B) = false := by simp only [decide_eq_false_iff_not]; intro e; subst e; exact hl rfl
    have HD := Lib.hid hne
    have e0 : ¬ (A.length : Int) = (B.length : Int) := by omega
    clear hne
    go_enter Try.func33, Try.ntmps33
    go_wp2
    go_ret
    exact ⟨by rw [HD.out]; rfl, Below.refl _ _⟩
set_option maxRecDepth 100000 in
set_option maxHeartbeats 1000000 in
theorem marklinks_any (base : Nat) (v : Value) (n : Nat) (xs : List Value) (m : Int) (w : World) (h : w.ownsRow base 49 2 v n xs) (hm : 0 ≤ m ∧ m ≤ 1000000000) (hn : n ≤ 4000000) (hb0 : base ≤ w.heap.size) :
    Calls Try.prog 34 #[v, .int .i64 m] w fun e w' => e = .returned (.int .i64 (m + 2 * (n : Int))) ∧ w'.ownsRow base 49 2 v n (keyCells (marked n m)) ∧ w.grownBy w' v.ownBlock := by
  rcases ownsRowK_shape h with ⟨rfl, rfl⟩ | ⟨g, cap, rfl, hnc, hcm, hbg, hgs⟩
  · have e0 : m + 2 * ((0 : Nat) : Int) = m := by omega
    rw [e0]
    have ho : w.ownsRow base 49 2 (.slice none 0 0) 0 (keyCells (marked 0 m)) := ⟨by simp [marked, keyCells], .inl ⟨rfl, rfl⟩⟩
    go_enter Try.func34, Try.ntmps34
    go_wp2
    go_loopw [1, 5] (fun c i wr => c = .int .i64 m ∧ i = .int .i64 0 ∧ wr = w) (fun _ _ _ => 0)
    case atStart => exact ⟨rfl, rfl, rfl⟩
    case round =>
      obtain ⟨rfl, rfl, rfl⟩ := hrel
      go_wp2
      go_ret
      exact ⟨rfl, ho, World.grownBy.refl _ _⟩
  · have hxl := h.1
    go_enter Try.func34, Try.ntmps34
    go_wp2
    go_loopw [1, 5] (fun c i wr => ∃ (k : Nat) (rest : List Value), k ≤ n ∧ i = .int .i64 k ∧ c = .int .i64 (m + 2 * (k : Int)) ∧ wr.ownsRow base 49 2 (.slice (some ⟨g, 0, none⟩) n cap) n (keyCells (marked k m) ++ rest) ∧ w.grownBy wr (some g))
      (fun _ i _ => n - (intOf i).toNat)
    case atStart => exact ⟨0, xs, Nat.zero_le _, rfl, by simp, by simpa [marked, keyCells] using h, World.grownBy.refl _ _⟩
    case round =>
      obtain ⟨k, rest, hk, rfl, rfl, hown, hgr⟩ := hrel
      clear h
      by_cases hlt : k < n
      · have z0 : (0 : Int) ≤ (k : Int) := by omega
        have z1 : (k : Int) < (n : Int) := by omega
        have hkl := keyCells_len (marked k m)
        rw [marked_len] at hkl
        have hrl : rest.length = (n - k) * 2 := by
          have := hown.1
          rw [List.length_append, hkl] at this
          omega
        obtain ⟨u1, u2, rest2, rfl⟩ : ∃ u1 u2 r, rest = u1 :: u2 :: r := by
          match rest, hrl with
          | [], h => simp at h; omega
          | [_], h => simp at h; omega
          | a :: b :: r, _ => exact ⟨a, b, r, rfl⟩
        obtain ⟨s1, s2⟩ := own_cell hown (k * 2) (by omega)
        have st1 := hown.stored (k * 2) (.int .i64 (m + 2 * (k : Int)))
        obtain ⟨s3, s4⟩ := own_cell st1.1 (k * 2 + 1) (by omega)
        have st2 := st1.1.stored (k * 2 + 1) (.int .i64 (m + 2 * (k : Int) + 1))
        rw [set_mark] at st2
        have R := Lib.hid (And.intro st2.1 (grown_trans hgr (grown_trans st1.2 st2.2)))
        clear st1 st2 hown hgr hrl hkl
        go_wp2
        exact ⟨⟨k + 1, rest2, by omega, by go_num, by go_num, R.out.1, R.out.2⟩, by simp [intOf]; omega⟩
      · obtain rfl : k = n := by omega
        have hr0 : rest = [] := by
          have h1 := hown.1
          rw [List.length_append, keyCells_len, marked_len] at h1
          exact List.eq_nil_of_length_eq_zero (by omega)
        subst hr0
        rw [List.append_nil] at hown
        go_wp2
        go_ret
        exact ⟨rfl, hown, hgr⟩
end Go.Proofs.Ytpfnpinoamjcjaa
namespace Go.Proofs.Ytpfnpinoamjcjaa
open Go.RowKit Go.Shelf
set_option linter.unusedVariables false

def LBoxed (W : World) (B : Nat) (k : K2) : Prop := W.heap[B]? = some (.cells #[.int .i64 k.1, .int .i64 k.2] 49 (0, 0))
theorem LBoxed.lt {W : World} {B : Nat} {k : K2} (h : LBoxed W B k) : B < W.heap.size := (Array.getElem?_eq_some_iff.1 h).1
theorem LBoxed.cell0 {W : World} {B : Nat} {k : K2} (h : LBoxed W B k) : W.cell? ⟨B, 0, none⟩ = some (.int .i64 k.1) := by simp [World.cell?, show W.heap[B]? = _ from h]
theorem LBoxed.cell1 {W : World} {B : Nat} {k : K2} (h : LBoxed W B k) : W.cell? ⟨B, 1, none⟩ = some (.int .i64 k.2) := by simp [World.cell?, show W.heap[B]? = _ from h]
theorem LBoxed.new (W : World) (k : K2) : LBoxed (W.alloc (.cells #[.int .i64 k.1, .int .i64 k.2] 49)) W.heap.size k := World.alloc_heap_new W _
theorem LBoxed.kept {W W' : World} {row : Option Nat} {B : Nat} {k : K2} (h : LBoxed W B k) (hg : W.grownBy W' row) (hne : some B ≠ row) : LBoxed W' B k := (hg.block B h.lt hne).trans h
theorem LBoxed.alloc {W : World} {B : Nat} {k : K2} (h : LBoxed W B k) (o : Obj) : LBoxed (W.alloc o) B k := h.kept (World.grownBy_alloc W o none) (by simp)
theorem LBoxed.other {W : World} {B B' : Nat} {k : K2} (h : LBoxed W B k) (hne : B ≠ B') (u : Value) : LBoxed (W.setCell ⟨B', 0, none⟩ u) B k := h.kept (grownBy_setCell' W B' u) (fun e => hne (by cases e; rfl))
theorem LBoxed.load {w : World} {B : Nat} {k : K2} (h : LBoxed w B k) : (loadVar 49 ⟨B, 0, none⟩).run Try.prog w = .ok (kv k) w := link_load (o := 0) ⟨h.cell0, h.cell1⟩ h.lt (Below.refl _ _)
theorem LBoxed.set {w : World} {B : Nat} {k : K2} (k' : K2) (h : LBoxed w B k) : LBoxed ((w.setCell ⟨B, 0, none⟩ (.int .i64 k'.1)).setCell ⟨B, 1, none⟩ (.int .i64 k'.2)) B k' :=
  set_cells _ (set_cells _ h)
theorem load_oneQ {t : TypeId} {w : World} {p : Addr} {v : Value} (ht : ∀ w, (isAgg t).run Try.prog w = .ok false w) (h : w.cell? p = some v) : (loadVar t p).run Try.prog w = .ok v w := by
  unfold loadVar
  simp only [Sem.run_bind, ht, Result.andThen_ok]
  rw [if_neg (by simp)]
  simp [h]
theorem sint_load {w : World} {p : Addr} {z : Int} (h : w.cell? p = some (.int .i64 z)) : (loadVar 3 p).run Try.prog w = .ok (.int .i64 z) w := load_oneQ (fun w => by simp [isAgg, underlying, Try.underlying3]) h
end Go.Proofs.Ytpfnpinoamjcjaa
namespace Go.Proofs.Ytpfnpinoamjcjaa
open Go
section
variable {P : Program} {ops : Array Oper} {Q : Exit → Act → World → Prop} {md : Region.Mode} {S : World → Prop}

/-- whatever order is picked from here on; behind each operation a sharper condition holds -/
def wpG (P : Program) (md : Region.Mode) (ops : Array Oper) (Q : Exit → Act → World → Prop) : Nat → (World → Prop) → Array Bool → Act → World → Prop
  | 0, _, listed, a, w => Region.ready md ops listed = [] ∧ Q .normal a w
  | fuel + 1, S, listed, a, w =>
    (Region.ready md ops listed = [] → Q .normal a w) ∧
    ∀ i ∈ Region.ready md ops listed, wpOp P ops Q i (fun a' w' => ∃ S' : World → Prop, (∀ x, S' x → S x) ∧ S' w' ∧ wpG P md ops Q fuel S' (listed.setIfInBounds i true) a' w') a w

theorem wpAny_of_G : ∀ (fuel : Nat) (S : World → Prop) (listed : Array Bool) (a : Act) (w : World), wpG P md ops Q fuel S listed a w → wpAny P md ops Q fuel listed a w
  | 0, _, _, _, _, h => h
  | fuel + 1, S, _, _, _, h => ⟨h.1, fun i hi => wpOp_mono (fun a' w' ⟨S', _, _, h'⟩ => wpAny_of_G fuel S' _ a' w' h') (h.2 i hi)⟩

theorem YieldsIf.sharper {S' : World → Prop} {o : Oper} {v : Value} {a : Act} (h : ∀ x, S' x → S x) (hy : YieldsIf P ops S o v a) : YieldsIf P ops S' o v a :=
  hy.imp (fun ⟨hw, hv⟩ => ⟨hw, fun w hs => hv w (h w hs)⟩) id

theorem wpG_first {i : Nat} {oi : Oper} {v : Value} (hi : ops[i]? = some oi) (hsel : ∀ (j : Nat) (o : Oper) cs b, ops[j]? = some o → o.op ≠ .select cs b)
    (hQ : ∀ c a w, Q (.panic c) (a.put oi.dst v) w → Q (.panic c) a w) :
    ∀ (fuel : Nat) (S : World → Prop) (listed : Array Bool) (a : Act) (w : World),
      (∀ j oj, ops[j]? = some oj → j ≠ i → listed.getD j true = false → (∀ e ∈ oj.after, Region.binds md e = true → e.on ≠ i) → oi.apart ops oj = true) →
      i ∈ Region.ready md ops listed → YieldsIf P ops S oi v a → S w →
      wpG P md ops Q fuel S (listed.setIfInBounds i true) (a.put oi.dst v) w → wpG P md ops Q (fuel + 1) S listed a w := by
  intro fuel
  induction fuel with
  | zero =>
    intro S listed a w _ hr hy hS H
    refine ⟨fun h => (by rw [h] at hr; cases hr), fun j hj => ?_⟩
    by_cases hji : j = i
    · subst hji; exact hy.wpOp hi hS ⟨S, fun _ h => h, hS, H⟩
    · have := ready_mono hj hji
      rw [H.1] at this
      cases this
  | succ fuel ih =>
    intro S listed a w hfree hr hy hS H
    refine ⟨fun h => (by rw [h] at hr; cases hr), fun j hj => ?_⟩
    by_cases hji : j = i
    · subst hji; exact hy.wpOp hi hS ⟨S, fun _ h => h, hS, H⟩
    · have h1 := H.2 j (ready_mono hj hji)
      obtain ⟨hjun, oj, hoj, hall⟩ := mem_ready.1 hj
      have hnot : ∀ e ∈ oj.after, Region.binds md e = true → e.on ≠ i := fun e he hb heq => by
        have h1 := hall e he hb
        have h0 := (mem_ready.1 hr).1
        rw [heq] at h1
        rcases Nat.lt_or_ge i listed.size with h' | h'
        · simp [h'] at h0 h1; rw [h0] at h1; cases h1
        · simp [Array.getElem?_eq_none h'] at h1
      have h2 := wpOp_putIf hoj (hfree j oj hoj hji hjun hnot) (fun cs b => hsel i oi cs b hi) (fun cs b => hsel j oj cs b hoj) hQ hy h1
      have hfree' : ∀ k ok, ops[k]? = some ok → k ≠ i → (listed.setIfInBounds j true).getD k true = false →
          (∀ e ∈ ok.after, Region.binds md e = true → e.on ≠ i) → oi.apart ops ok = true := fun k ok hk hki hun hno => by
        refine hfree k ok hk hki ?_ hno
        by_cases hjk : j = k
        · subst hjk; exact hjun
        · rw [getD_set_ne true hjk] at hun; exact hun
      refine wpOp_mono (fun a' w' h3 => ?_) h2
      obtain ⟨hy3, S', hs, hs2, h4⟩ := h3
      refine ⟨S', hs, hs2, ih S' (listed.setIfInBounds j true) a' w' hfree' (ready_mono hr (Ne.symm hji)) (YieldsIf.sharper hs hy3) hs2 ?_⟩
      rw [Array.setIfInBounds_comm _ _ hji]
      exact h4

/-- an operation that hands back a value and nothing else -/
def valueOp : Op → Bool
  | .move _ | .assign _ | .pick _ _ _ | .load _ _ | .binOp _ _ _ _ _ | .unOp _ _ _ | .convert _ _ _ | .slice _ _ _ _ _ | .fieldAddr _ _ _ | .field _ _ _ | .indexAddr _ _ _ | .index _ _ _ | .extract _ _ => true
  | _ => false
theorem value_of_run {α : Type} (s : Sem α) (f : α → Value) (w w' : World) (n : Next) (h : ((do pure (Next.value (f (← s)))) : Sem Next).run P w = .ok n w') : ∃ u, n = .value u := by
  rw [Sem.run_bind] at h
  cases hs : s.run P w with
  | ok v w1 =>
    rw [hs] at h
    simp only [Result.andThen, Sem.run_pure, Result.ok.injEq] at h
    exact ⟨_, h.1.symm⟩
  | halt x w1 => rw [hs] at h; simp [Result.andThen] at h
theorem valueOp_spec {o : Oper} (h : valueOp o.op = true) (ρ : Operand → Value) (w w' : World) (n : Next) (hr : (execOp ρ o).run P w = .ok n w') : ∃ u, n = .value u := by
  unfold execOp at hr
  cases ho : o.op <;> rw [ho] at h hr <;> simp only [valueOp] at h <;> try (exact absurd h Bool.false_ne_true)
  all_goals dsimp only at hr
  all_goals first
    | (simp only [Sem.run_pure, Result.ok.injEq] at hr; exact ⟨_, hr.1.symm⟩)
    | exact value_of_run _ (fun v => v) w w' n hr
    | exact value_of_run _ _ w w' n hr
theorem yields_of_quiet {o : Oper} {a : Act} {v : Value} (hv : valueOp o.op = true) (hw : Region.wanted o (yielded ops a.tmps) = true) (h : ∀ w, S w → o.quietAt P a S w v) : YieldsIf P ops S o v a := by
  refine .inl ⟨hw, fun w hs => ?_⟩
  have h1 := h w hs
  unfold Oper.quietAt at h1
  cases hr : (execOp a.eval o).run P w with
  | ok n w' =>
    obtain ⟨u, rfl⟩ := valueOp_spec hv a.eval w w' n hr
    rw [hr] at h1
    simp only [Oper.quietUpon] at h1
    obtain ⟨rfl, rfl⟩ := h1
    rfl
  | halt x w' => rw [hr] at h1; exact absurd h1 (by simp [Oper.quietUpon])

/-- the takes of a segment, in the order of the text -/
def takesB (md : Region.Mode) (l : List Oper) : List Bool → Nat → Array Bool → Bool
  | true :: m, i, listed => (match l[i]? with | some o => valueOp o.op | none => false) && Region.free md l.toArray listed i && (Region.ready md l.toArray listed).contains i && takesB md l m (i + 1) (listed.setIfInBounds i true)
  | false :: m, i, listed => takesB md l m (i + 1) listed
  | [], _, _ => true
def takenL : List Bool → Nat → Array Bool → Array Bool
  | true :: m, i, listed => takenL m (i + 1) (listed.setIfInBounds i true)
  | false :: m, i, listed => takenL m (i + 1) listed
  | [], _, listed => listed
def countT : List Bool → Nat
  | true :: m => countT m + 1
  | false :: m => countT m
  | [] => 0
theorem takes_G {l : List Oper} (hs : Region.noSelect l.toArray = true) (hQ : ∀ c a d v w, Q (.panic c) (Act.put a d v) w → Q (.panic c) a w) {S : World → Prop} {w : World} (hS : S w) {R : Act → Prop} :
    ∀ (m : List Bool) (i fuel : Nat) (listed : Array Bool) (a : Act), takesB md l m i listed = true → m.length + i ≤ l.length →
      (∀ a', R a' → wpG P md l.toArray Q fuel S (takenL m i listed) a' w) → wpQuiet P l.toArray S R (maskRows m (l.drop i)) a → wpG P md l.toArray Q (fuel + countT m) S listed a w
  | [], i, fuel, listed, a, _, _, hk, h => hk a (by simpa [maskRows, wpQuiet] using h)
  | false :: m, i, fuel, listed, a, hb, hl, hk, h => by
    have hlt : i < l.length := by simp only [List.length_cons] at hl; omega
    rw [List.drop_eq_getElem_cons hlt] at h
    exact takes_G hs hQ hS m (i + 1) fuel listed a hb (by simp only [List.length_cons] at hl; omega) hk h
  | true :: m, i, fuel, listed, a, hb, hl, hk, h => by
    have hlt : i < l.length := by simp only [List.length_cons] at hl; omega
    rw [List.drop_eq_getElem_cons hlt] at h
    simp only [takesB, Bool.and_eq_true] at hb
    obtain ⟨⟨⟨hv, hf⟩, hr⟩, hb⟩ := hb
    have ho : l.toArray[i]? = some l[i] := by simp [hlt]
    rw [show l[i]? = some l[i] from by simp [hlt]] at hv
    dsimp only at hv
    simp only [maskRows, wpQuiet] at h
    have hin : i ∈ Region.ready md l.toArray listed := by simpa using hr
    show wpG P md l.toArray Q (fuel + countT m + 1) S listed a w
    by_cases hw : Region.wanted l[i] (yielded l.toArray a.tmps) = true
    · rw [if_pos hw] at h
      obtain ⟨v, h1, h2⟩ := h
      exact wpG_first ho (Region.noSelect_spec hs) (fun c a w => hQ c a _ _ w) _ S listed a w (Region.free_spec ho hf) hin (yields_of_quiet hv hw h1) hS
        (takes_G hs hQ hS m (i + 1) fuel _ _ hb (by simp only [List.length_cons] at hl; omega) hk h2)
    · rw [if_neg hw] at h
      exact wpG_first ho (Region.noSelect_spec hs) (fun c a w => hQ c a _ _ w) _ S listed a w (Region.free_spec ho hf) hin (.inr ⟨by simpa using hw, rfl⟩) hS
        (takes_G hs hQ hS m (i + 1) fuel _ _ hb (by simp only [List.length_cons] at hl; omega) hk h)
theorem wpG_done {listed : Array Bool} {a : Act} {w : World} (hr : Region.ready md ops listed = []) (h : Q .normal a w) : ∀ fuel, wpG P md ops Q fuel S listed a w
  | 0 => ⟨hr, h⟩
  | _ + 1 => ⟨fun _ => h, by rw [hr]; simp⟩
end
end Go.Proofs.Ytpfnpinoamjcjaa
namespace Go.Proofs.Ytpfnpinoamjcjaa
open Go
section
variable {P : Program} {Q : Exit → Act → World → Prop} {md : Region.Mode} {S : World → Prop}
def segtB (md : Region.Mode) (l : List Oper) (m : List Bool) (rd : List Nat) (fuel fuel' : Nat) (listed : Array Bool) : Bool :=
  decide (fuel = fuel' + 1 + countT m) && decide (m.length ≤ l.length) && takesB md l m 0 listed && decide (Region.ready md l.toArray (takenL m 0 listed) = rd) && !rd.isEmpty
/-- what reads is taken; then one after another of what is ready is tried -/
theorem wpG_seg {l : List Oper} (m : List Bool) (rd : List Nat) (fuel' : Nat) {fuel : Nat} {listed : Array Bool} {a : Act} {w : World} (hs : Region.noSelect l.toArray = true)
    (hQ : ∀ c a d v w, Q (.panic c) (Act.put a d v) w → Q (.panic c) a w) (hb : segtB md l m rd fuel fuel' listed = true) (hS : S w)
    (h : wpQuiet P l.toArray S (fun a' => ∀ i ∈ rd, wpOp P l.toArray Q i (fun a'' w'' => ∃ S' : World → Prop, (∀ x, S' x → S x) ∧ S' w'' ∧ wpG P md l.toArray Q fuel' S' ((takenL m 0 listed).setIfInBounds i true) a'' w'') a' w) (maskRows m l) a) :
    wpG P md l.toArray Q fuel S listed a w := by
  simp only [segtB, Bool.and_eq_true, decide_eq_true_eq, Bool.not_eq_true'] at hb
  obtain ⟨⟨⟨⟨h1, h2⟩, h3⟩, h4⟩, h5⟩ := hb
  subst h1
  refine takes_G (P := P) (md := md) hs hQ hS (R := fun a' => ∀ i ∈ rd, wpOp P l.toArray Q i (fun a'' w'' => ∃ S' : World → Prop, (∀ x, S' x → S x) ∧ S' w'' ∧ wpG P md l.toArray Q fuel' S' ((takenL m 0 listed).setIfInBounds i true) a'' w'') a' w) m 0 (fuel' + 1) listed a h3 (by omega) (fun a' hq => ?_) (by simpa using h)
  refine ⟨fun h0 => (by rw [h4] at h0; rw [h0] at h5; cases h5), fun j hj => ?_⟩
  rw [h4] at hj
  exact hq j hj
def segeB (md : Region.Mode) (l : List Oper) (m : List Bool) (fuel : Nat) (listed : Array Bool) : Bool :=
  decide (countT m ≤ fuel) && decide (m.length ≤ l.length) && takesB md l m 0 listed && decide (Region.ready md l.toArray (takenL m 0 listed) = [])
theorem wpG_end {l : List Oper} (m : List Bool) {fuel : Nat} {listed : Array Bool} {a : Act} {w : World} (hs : Region.noSelect l.toArray = true)
    (hQ : ∀ c a d v w, Q (.panic c) (Act.put a d v) w → Q (.panic c) a w) (hb : segeB md l m fuel listed = true) (hS : S w)
    (h : wpQuiet P l.toArray S (fun a' => Q .normal a' w) (maskRows m l) a) : wpG P md l.toArray Q fuel S listed a w := by
  simp only [segeB, Bool.and_eq_true, decide_eq_true_eq] at hb
  obtain ⟨⟨⟨h1, h2⟩, h3⟩, h4⟩ := hb
  have := takes_G (P := P) (md := md) hs hQ hS (R := fun a' => Q .normal a' w) m 0 (fuel - countT m) listed a h3 (by omega) (fun a' hq => wpG_done h4 hq _) (by simpa using h)
  rwa [Nat.sub_add_cancel h1] at this
theorem wp_region_G {id : Nat} {a : Act} {w : World} {l : List Oper} (S : World → Prop) (hm : P.follows .mixedOrders = true) (h : wpG P .any l.toArray Q l.length S (Array.replicate l.length false) a w.drew) :
    (Code.region id l.toArray true).wp P Q a w := wp_region_any hm (wpAny_of_G _ _ _ _ _ (by simpa using h))
/-- one that is carried out -/
theorem segt_run {l : List Oper} {fuel : Nat} {listed : Array Bool} {i : Nat} {o : Oper} {a : Act} {w : World} (ho : l.toArray[i]? = some o) (hw : Region.wanted o (yielded l.toArray a.tmps) = true)
    (h : ∀ K : Act → World → Prop, (∀ a' w', (∃ S' : World → Prop, (∀ x, S' x → S x) ∧ S' w' ∧ wpG P md l.toArray Q fuel S' listed a' w') → K a' w') → o.wp P a w K Q) :
    wpOp P l.toArray Q i (fun a'' w'' => ∃ S' : World → Prop, (∀ x, S' x → S x) ∧ S' w'' ∧ wpG P md l.toArray Q fuel S' listed a'' w'') a w := by
  unfold wpOp
  simp only [ho, hw, if_true]
  exact .inl (h _ fun _ _ h => h)
end
end Go.Proofs.Ytpfnpinoamjcjaa
namespace Go.Proofs.Ytpfnpinoamjcjaa
open Go.ChangeShapes Go.WideShapes Go.ChangeAt Go.RowKit Go.BigFrame
set_option linter.unusedVariables false
set_option linter.unusedSimpArgs false

def cmpI (x y : Int) : Int := if x < y then -1 else if y < x then 1 else 0
def byI (p q : K2) : Int := if cmpI p.1 q.1 = 0 then cmpI p.2 q.2 else cmpI p.1 q.1
theorem byI_neg (p q : K2) : decide (byI p q < 0) = aheadB p q := by
  rw [Bool.eq_iff_iff, decide_eq_true_eq, ahead_iff]
  unfold byI cmpI
  split <;> split at * <;> (try split at *) <;> (try split) <;> (try split) <;> omega
theorem byI_lt (p q : K2) : byI p q < 0 ↔ aheadB p q = true := by rw [← byI_neg, decide_eq_true_eq]
theorem inan_any (x : Int) (w : World) : Calls Try.prog 74 #[.int .i64 x] w fun e w' => e = .returned (.bool false) ∧ w' = w := by
  go_enter Try.func74, Try.ntmps74
  go_wp2
  go_ret
  exact ⟨by simp, rfl⟩
set_option maxRecDepth 100000 in
theorem icmp_any (x y : Int) (w : World) : Calls Try.prog 62 #[.int .i64 x, .int .i64 y] w fun e w' => e = .returned (.int .i64 (cmpI x y)) ∧ w' = w := by
  have HN := Lib.hid inan_any
  unfold cmpI
  by_cases h1 : x < y
  · go_enter Try.func62, Try.ntmps62
    go_wp2_with fail
    refine (HN.out _ _).mono ?_
    rintro e w1 ⟨rfl, rfl⟩
    go_wp2_with fail
    refine (HN.out _ _).mono ?_
    rintro e w1 ⟨rfl, rfl⟩
    go_wp2
    go_ret
    exact ⟨by simp [h1], rfl⟩
  · by_cases h2 : y < x
    · go_enter Try.func62, Try.ntmps62
      go_wp2_with fail
      refine (HN.out _ _).mono ?_
      rintro e w1 ⟨rfl, rfl⟩
      go_wp2_with fail
      refine (HN.out _ _).mono ?_
      rintro e w1 ⟨rfl, rfl⟩
      go_wp2
      go_ret
      exact ⟨by simp [h1, h2], rfl⟩
    · go_enter Try.func62, Try.ntmps62
      go_wp2_with fail
      refine (HN.out _ _).mono ?_
      rintro e w1 ⟨rfl, rfl⟩
      go_wp2_with fail
      refine (HN.out _ _).mono ?_
      rintro e w1 ⟨rfl, rfl⟩
      go_wp2
      go_ret
      exact ⟨by simp [h1, h2], rfl⟩
set_option maxRecDepth 100000 in
theorem ior2_any (g : Nat) (a b : Int) (w : World) (h0 : w.cell? ⟨g, 0, none⟩ = some (.int .i64 a)) (h1 : w.cell? ⟨g, 1, none⟩ = some (.int .i64 b)) :
    Calls Try.prog 61 #[.slice (some ⟨g, 0, none⟩) 2 2] w fun e w' => e = .returned (.int .i64 (if a = 0 then b else a)) ∧ w' = w := by
  go_enter Try.func61, Try.ntmps61
  go_wp2
  go_loopw [8] (fun i wr => wr = w ∧ (i = .int .i64 0 ∨ (i = .int .i64 1 ∧ a = 0) ∨ (i = .int .i64 2 ∧ a = 0 ∧ b = 0))) (fun i _ => 2 - (intOf i).toNat)
  case atStart => exact ⟨rfl, .inl rfl⟩
  case round =>
    obtain ⟨rfl, rfl | ⟨rfl, ha⟩ | ⟨rfl, ha, hb⟩⟩ := hrel
    · by_cases ha : a = 0
      · subst ha
        go_wp2
        exact ⟨by simp, by simp [intOf]⟩
      · go_wp2
        go_ret
        exact ⟨by simp only [if_neg ha]; rfl, rfl⟩
    · subst ha
      by_cases hb : b = 0
      · subst hb
        go_wp2
        exact ⟨by simp, by simp [intOf]⟩
      · go_wp2
        go_ret
        exact ⟨by simp, rfl⟩
    · subst ha; subst hb
      go_wp2
      go_ret
      exact ⟨by simp, rfl⟩
set_option maxRecDepth 100000 in
set_option maxHeartbeats 1000000 in
theorem ibyboth_any (p q : K2) (w : World) : Calls Try.prog 43 #[kv p, kv q] w fun e w' => e = .returned (.int .i64 (byI p q)) ∧ Below w.heap.size w w' := by
  have HC1 := Lib.hid (fun w => icmp_any p.1 q.1 w)
  have HC2 := Lib.hid (fun w => icmp_any p.2 q.2 w)
  have HO := Lib.hid ior2_any
  have HIF := Lib.hid (show byI p q = if cmpI p.1 q.1 = 0 then cmpI p.2 q.2 else cmpI p.1 q.1 from rfl)
  obtain ⟨a, b⟩ := p
  obtain ⟨c, d⟩ := q
  unfold kv
  dsimp only at *
  generalize cmpI a c = m at *
  generalize cmpI b d = n at *
  generalize byI (a, b) (c, d) = z at *
  have hA := heap_first w (.cells #[.int .i64 c, .int .i64 d] 49) (.cells #[.int .i64 a, .int .i64 b] 49)
  have hB := heap_alloc_new (w.alloc (.cells #[.int .i64 a, .int .i64 b] 49)) (.cells #[.int .i64 c, .int .i64 d] 49)
  rw [show (w.alloc (.cells #[.int .i64 a, .int .i64 b] 49)).heap.size = w.heap.size + 1 by simp] at hB
  have HW := Lib.hid (((Below.refl w.heap.size w).alloc (Nat.le_refl _) (.cells #[.int .i64 a, .int .i64 b] 49)).alloc (by simp) (.cells #[.int .i64 c, .int .i64 d] 49))
  go_enter Try.func43, Try.ntmps43
  go_upto_region 1 with (fail)
  generalize (w.alloc (.cells #[.int .i64 a, .int .i64 b] 49)).alloc (.cells #[.int .i64 c, .int .i64 d] 49) = WB at *
  have l0 := (Array.getElem?_eq_some_iff.1 hA).1
  have l1 := (Array.getElem?_eq_some_iff.1 hB).1
  have LA : ∀ wx : World, Below WB.heap.size WB wx → (loadVar 3 ⟨w.heap.size, 0, none⟩).run Try.prog wx = .ok (.int .i64 a) wx := fun wx h => sint_load (by rw [h.cell (p := ⟨w.heap.size, 0, none⟩) l0, cell_of_row _ _ _ _ _ _ hA]; rfl)
  have LB : ∀ wx : World, Below WB.heap.size WB wx → (loadVar 3 ⟨w.heap.size, 1, none⟩).run Try.prog wx = .ok (.int .i64 b) wx := fun wx h => sint_load (by rw [h.cell (p := ⟨w.heap.size, 1, none⟩) l0, cell_of_row _ _ _ _ _ _ hA]; rfl)
  have LC : ∀ wx : World, Below WB.heap.size WB wx → (loadVar 3 ⟨w.heap.size + 1, 0, none⟩).run Try.prog wx = .ok (.int .i64 c) wx := fun wx h => sint_load (by rw [h.cell (p := ⟨w.heap.size + 1, 0, none⟩) l1, cell_of_row _ _ _ _ _ _ hB]; rfl)
  have LD : ∀ wx : World, Below WB.heap.size WB wx → (loadVar 3 ⟨w.heap.size + 1, 1, none⟩).run Try.prog wx = .ok (.int .i64 d) wx := fun wx h => sint_load (by rw [h.cell (p := ⟨w.heap.size + 1, 1, none⟩) l1, cell_of_row _ _ _ _ _ _ hB]; rfl)
  have HB := Lib.hid (Below.refl WB.heap.size WB)
  clear hA hB l0 l1
  refine wp_region_G (fun wx => Below WB.heap.size WB wx) (by kernel_rfl) ?_
  replace HB := Lib.hid (HB.out.drew)
  generalize (WB).drew = wD0 at *
  refine wpG_seg [true, true, true, true, false, true, true, true, true] [4] 4 (by kernel_rfl) (by intro c a d v w h; cases d <;> exact h) (by kernel_rfl) HB.out ?_
  try simp only [maskRows]
  repeat (first
    | go_big_quiet_skip
    | (go_big_quiet_want
       first
         | (go_big_quiet_op; go_big_quiet_on)
         | (refine q_load 3 _ _ _ rfl rfl LA ?_; simp only [Act.put, List.setIfInBounds_toArray, List.set_cons_zero, List.set_cons_succ]; go_big_quiet_on)
         | (refine q_load 3 _ _ _ rfl rfl LB ?_; simp only [Act.put, List.setIfInBounds_toArray, List.set_cons_zero, List.set_cons_succ]; go_big_quiet_on)
         | (refine q_load 3 _ _ _ rfl rfl LC ?_; simp only [Act.put, List.setIfInBounds_toArray, List.set_cons_zero, List.set_cons_succ]; go_big_quiet_on)
         | (refine q_load 3 _ _ _ rfl rfl LD ?_; simp only [Act.put, List.setIfInBounds_toArray, List.set_cons_zero, List.set_cons_succ]; go_big_quiet_on)
         | (go_big_quiet_op; refine ⟨_, fun _ _ => rfl, ?_⟩; go_big_quiet_on)
         | (go_big_quiet_op; refine ⟨_, fun _ _ _ => rfl, ?_⟩; go_big_quiet_on)
         | (go_big_quiet_op; refine ⟨_, fun _ _ _ _ => rfl, ?_⟩; go_big_quiet_on)))
  refine wpQuiet_nil ?_
  refine List.forall_mem_singleton.2 ?_
  refine segt_run rfl (by rfl) (fun K hK => ?_)
  go_simp
  refine (HC1.out _).mono ?_
  rintro e w1 ⟨rfl, rfl⟩
  dsimp only
  refine hK _ _ ⟨_, fun _ h => h, HB.out, ?_⟩
  clear hK K
  try simp only [Act.put, List.setIfInBounds_toArray, List.set_cons_zero, List.set_cons_succ]
  refine wpG_seg [] [9] 3 (by kernel_rfl) (by intro c a d v w h; cases d <;> exact h) (by kernel_rfl) HB.out ?_
  try simp only [maskRows]
  refine wpQuiet_nil ?_
  refine List.forall_mem_singleton.2 ?_
  refine segt_run rfl (by rfl) (fun K hK => ?_)
  go_simp
  refine (HC2.out _).mono ?_
  rintro e w2 ⟨rfl, rfl⟩
  dsimp only
  refine hK _ _ ⟨_, fun _ h => h, HB.out, ?_⟩
  clear hK K
  try simp only [Act.put, List.setIfInBounds_toArray, List.set_cons_zero, List.set_cons_succ]
  refine wpG_seg [] [10] 2 (by kernel_rfl) (by intro c a d v w h; cases d <;> exact h) (by kernel_rfl) HB.out ?_
  try simp only [maskRows]
  refine wpQuiet_nil ?_
  refine List.forall_mem_singleton.2 ?_
  refine segt_run rfl (by rfl) (fun K hK => ?_)
  go_simp
  have HX := Lib.hid (heap_alloc_new w2 (.cells #[.int .i64 m, .int .i64 n] 3))
  replace HB := Lib.hid (HB.out.alloc HB.out.size (.cells #[.int .i64 m, .int .i64 n] 3))
  generalize World.alloc w2 (.cells #[.int .i64 m, .int .i64 n] 3) = w3 at *
  generalize w2.heap.size = B at *
  refine hK _ _ ⟨_, fun _ h => h, HB.out, ?_⟩
  clear hK K
  try simp only [Act.put, List.setIfInBounds_toArray, List.set_cons_zero, List.set_cons_succ]
  refine wpG_seg [] [11] 1 (by kernel_rfl) (by intro c a d v w h; cases d <;> exact h) (by kernel_rfl) HB.out ?_
  try simp only [maskRows]
  refine wpQuiet_nil ?_
  refine List.forall_mem_singleton.2 ?_
  refine segt_run rfl (by rfl) (fun K hK => ?_)
  go_simp
  have ho := HO.out B m n w3 (by rw [cell_of_row _ _ _ _ _ _ HX.out]; rfl) (by rw [cell_of_row _ _ _ _ _ _ HX.out]; rfl)
  rw [← HIF.out] at ho
  refine ho.mono ?_
  rintro e w4 ⟨rfl, rfl⟩
  dsimp only
  refine hK _ _ ⟨_, fun _ h => h, HB.out, ?_⟩
  clear hK K
  try simp only [Act.put, List.setIfInBounds_toArray, List.set_cons_zero, List.set_cons_succ]
  refine wpG_end [false, false, false, false, false, false, false, false, false, false, false, false, true] (by kernel_rfl) (by intro c a d v w h; cases d <;> exact h) (by kernel_rfl) HB.out ?_
  try simp only [maskRows]
  repeat (first
    | go_big_quiet_skip
    | (go_big_quiet_want
       first
         | (go_big_quiet_op; go_big_quiet_on)
         | (refine q_load 3 _ _ _ rfl rfl LA ?_; simp only [Act.put, List.setIfInBounds_toArray, List.set_cons_zero, List.set_cons_succ]; go_big_quiet_on)
         | (refine q_load 3 _ _ _ rfl rfl LB ?_; simp only [Act.put, List.setIfInBounds_toArray, List.set_cons_zero, List.set_cons_succ]; go_big_quiet_on)
         | (refine q_load 3 _ _ _ rfl rfl LC ?_; simp only [Act.put, List.setIfInBounds_toArray, List.set_cons_zero, List.set_cons_succ]; go_big_quiet_on)
         | (refine q_load 3 _ _ _ rfl rfl LD ?_; simp only [Act.put, List.setIfInBounds_toArray, List.set_cons_zero, List.set_cons_succ]; go_big_quiet_on)
         | (go_big_quiet_op; refine ⟨_, fun _ _ => rfl, ?_⟩; go_big_quiet_on)
         | (go_big_quiet_op; refine ⟨_, fun _ _ _ => rfl, ?_⟩; go_big_quiet_on)
         | (go_big_quiet_op; refine ⟨_, fun _ _ _ _ => rfl, ?_⟩; go_big_quiet_on)))
  refine wpQuiet_nil ?_
  go_wp2
  go_ret
  exact ⟨rfl, HW.out.trans (HB.out.mono HW.out.size)⟩
end Go.Proofs.Ytpfnpinoamjcjaa
namespace Go.Proofs.Ytpfnpinoamjcjaa
open Go.ChangeShapes Go.WideShapes Go.ChangeAt Go.RowKit Go.BigFrame
set_option linter.unusedVariables false

theorem sahead13_any (a b : K2) (w : World) : Calls Try.prog 48 #[kv a, kv b] w fun e w' => e = .returned (.bool (aheadB a b)) ∧ Below w.heap.size w w' := by
  obtain ⟨n, s⟩ := a
  obtain ⟨m, t⟩ := b
  have hb : ∀ o o', Below w.heap.size w ((w.alloc o).alloc o') := fun o o' => ((Below.refl _ _).alloc (Nat.le_refl _) _).alloc (by simp) _
  by_cases h : n = m
  · have ha : aheadB (n, s) (m, t) = decide (s < t) := by unfold aheadB; rw [if_pos h]
    rw [ha]
    unfold kv
    dsimp only
    subst h
    go_enter Try.func48, Try.ntmps48
    go_wp2
    go_ret
    exact ⟨rfl, hb _ _⟩
  · have ha : aheadB (n, s) (m, t) = decide (n < m) := by unfold aheadB; rw [if_neg h]
    rw [ha]
    unfold kv
    dsimp only
    go_enter Try.func48, Try.ntmps48
    go_wp2
    go_ret
    exact ⟨rfl, hb _ _⟩
theorem build_ln (a b : Int) (w : World) : (Instr.build 49 #[(0, .int .i64 a), (1, .int .i64 b)]).run Try.prog w = .ok (.agg #[.int .i64 a, .int .i64 b]) w := run_build w 49 _ _ (by kernel_rfl)
theorem lnbox_load (w : World) (k : K2) (w' : World) (h : Below (w.alloc (.cells #[.int .i64 k.1, .int .i64 k.2] 49)).heap.size (w.alloc (.cells #[.int .i64 k.1, .int .i64 k.2] 49)) w') : (loadVar 49 ⟨w.heap.size, 0, none⟩).run Try.prog w' = .ok (kv k) w' :=
  link_load (o := 0) ⟨(LBoxed.new w k).cell0, (LBoxed.new w k).cell1⟩ (LBoxed.new w k).lt h
theorem lnbox_f0 (w : World) (k : K2) (w' : World) (h : Below (w.alloc (.cells #[.int .i64 k.1, .int .i64 k.2] 49)).heap.size (w.alloc (.cells #[.int .i64 k.1, .int .i64 k.2] 49)) w') : (loadVar 3 ⟨w.heap.size, 0, none⟩).run Try.prog w' = .ok (.int .i64 k.1) w' :=
  sint_load (by rw [h.cell (p := ⟨w.heap.size, 0, none⟩) (LBoxed.new w k).lt]; exact (LBoxed.new w k).cell0)
theorem lnbox_f1 (w : World) (k : K2) (w' : World) (h : Below (w.alloc (.cells #[.int .i64 k.1, .int .i64 k.2] 49)).heap.size (w.alloc (.cells #[.int .i64 k.1, .int .i64 k.2] 49)) w') : (loadVar 3 ⟨w.heap.size, 1, none⟩).run Try.prog w' = .ok (.int .i64 k.2) w' :=
  sint_load (by rw [h.cell (p := ⟨w.heap.size, 1, none⟩) (LBoxed.new w k).lt]; exact (LBoxed.new w k).cell1)
theorem slnof_any (a b : Int) (w : World) : Calls Try.prog 47 #[.int .i64 a, .int .i64 b] w fun e w' => e = .returned (kv (lnOf a b)) ∧ Below w.heap.size w w' := by
  have hb := fun k : K2 => (Below.refl w.heap.size w).alloc (Nat.le_refl _) (.cells #[.int .i64 k.1, .int .i64 k.2] 49)
  have HB := Lib.hid hb
  by_cases h : a > b
  · rw [show lnOf a b = (b, a) from if_pos h]
    have hl := lnbox_load w (b, a) _ (Below.refl _ _)
    unfold kv at hl
    dsimp only at hl
    clear hb
    go_enter Try.func47, Try.ntmps47
    go_wp2
    refine bodyPost_ret (v := kv (b, a)) ?_ rfl ⟨rfl, HB.out (b, a)⟩
    rw [results_cell (p := 4) (ty := 49) (by kernel_rfl)]
    unfold kv
    simp [asAddr, Result.andThen, hl]
  · rw [show lnOf a b = (a, b) from if_neg h]
    have hl := lnbox_load w (a, b) _ (Below.refl _ _)
    unfold kv at hl
    dsimp only at hl
    clear hb
    go_enter Try.func47, Try.ntmps47
    go_wp2
    refine bodyPost_ret (v := kv (a, b)) ?_ rfl ⟨rfl, HB.out (a, b)⟩
    rw [results_cell (p := 4) (ty := 49) (by kernel_rfl)]
    unfold kv
    simp [asAddr, Result.andThen, hl]
set_option maxRecDepth 100000 in
set_option maxHeartbeats 2000000 in
theorem slinksok_any (v : Value) (ks : List K2) (w : World) (h : keysAt w v ks) (hs : ks.length ≤ 2000000) : Calls Try.prog 21 #[v] w fun e w' => e = .returned (.bool (lnsB ks)) ∧ Below w.heap.size w w' := by
  obtain ⟨a, cap, rfl, hcap, hcells⟩ := h
  by_cases hbig : ks.length ≤ 30
  · have HL := Lib.hid (lnsB_le hbig)
    have hb30 : ¬ (30 : Int) < (ks.length : Int) := by omega
    go_enter Try.func21, Try.ntmps21
    go_wp2
    go_loopw [3] (fun i wr => ∃ k : Nat, k ≤ ks.length ∧ i = .int .i64 k ∧ (List.range k).all (lnStep ks) = true ∧ Below w.heap.size w wr) (fun i _ => ks.length - (intOf i).toNat)
    case atStart => exact ⟨0, Nat.zero_le _, rfl, rfl, Below.refl _ _⟩
    case round =>
      obtain ⟨k, hk, rfl, hall, hb⟩ := hrel
      by_cases hlt : k < ks.length
      · obtain ⟨g, off, rfl, hg, hcs⟩ := hcells.resolve_left (by omega)
        have z0 : (0 : Int) ≤ (k : Int) := by omega
        have z1 : (k : Int) < (ks.length : Int) := by omega
        have c1 := hcs k hlt
        have HST := Lib.hid (show lnStep ks k = (lnB (ks.getD k (0, 0)) && (decide (k = 0) || aheadB (ks.getD (k - 1) (0, 0)) (ks.getD k (0, 0)))) from rfl)
        have HSU := Lib.hid (lnAll_succ ks k)
        have HPREV := Lib.hid (show 0 < k → w.cell? ⟨g, off + (k - 1) * 2, none⟩ = some (.int .i64 (ks.getD (k - 1) (0, 0)).1) ∧ w.cell? ⟨g, off + (k - 1) * 2 + 1, none⟩ = some (.int .i64 (ks.getD (k - 1) (0, 0)).2) from fun h0 => hcs (k - 1) (by omega))
        have HAF := Lib.hid (show lnStep ks k = false → lnsB ks = false from fun hf => by rw [HL.out]; exact lnAll_false hlt hf)
        have HAT := Lib.hid (show lnStep ks k = true → (List.range (k + 1)).all (lnStep ks) = true from fun hf => by rw [HSU.out, hall, hf]; rfl)
        clear hcs hcells HL HSU hall
        have D1 : wr.cell? ⟨g, off + k * 2, none⟩ = some (.int .i64 (ks.getD k (0, 0)).1) := by rw [hb.cell (p := ⟨g, off + k * 2, none⟩) hg]; exact c1.1
        have D2 : wr.cell? ⟨g, off + k * 2 + 1, none⟩ = some (.int .i64 (ks.getD k (0, 0)).2) := by rw [hb.cell (p := ⟨g, off + k * 2 + 1, none⟩) hg]; exact c1.2
        clear c1
        generalize hkx : ks.getD k (0, 0) = kx at *
        generalize hky : ks.getD (k - 1) (0, 0) = ky at *
        obtain ⟨p, q⟩ := kx
        have LP := lnbox_f0 wr (p, q)
        have LQ := lnbox_f1 wr (p, q)
        have LL := lnbox_load wr (p, q)
        have HB1 := Lib.hid (hb.trans (((Below.refl _ wr).alloc (Nat.le_refl _) (.cells #[.int .i64 p, .int .i64 q] 49)).mono hb.size))
        dsimp only at LP LQ LL HST HAF HAT D1 D2
        have HGE := Lib.hid (show wr.heap.size ≤ (wr.alloc (.cells #[.int .i64 p, .int .i64 q] 49)).heap.size by simp)
        by_cases hp : p < 0
        · have e0 : decide (p < 0) = true := decide_eq_true hp
          have HF := Lib.hid (HAF.out (by rw [HST.out]; simp [lnB, show ¬ (0 : Int) ≤ p by omega]))
          clear HAF HAT HST
          go_wp2
          generalize hW : wr.alloc _ = W1 at *
          refine wp_region_below W1 (by kernel_rfl) (by kernel_rfl) (Below.refl _ _) ?_
          repeat (first
            | go_big_quiet_skip
            | (go_big_quiet_want
               first
                 | (refine q_load 3 _ _ _ rfl rfl LP ?_; simp only [Act.put, List.setIfInBounds_toArray, List.set_cons_zero, List.set_cons_succ]; go_big_quiet_on)
                 | (refine q_load 3 _ _ _ rfl rfl LQ ?_; simp only [Act.put, List.setIfInBounds_toArray, List.set_cons_zero, List.set_cons_succ]; go_big_quiet_on)
                 | (refine q_load 49 _ _ _ rfl rfl LL ?_; simp only [Act.put, List.setIfInBounds_toArray, List.set_cons_zero, List.set_cons_succ]; go_big_quiet_on)
                 | (go_big_quiet_op; go_big_quiet_on)
                 | (go_big_quiet_op; refine ⟨_, fun _ _ => rfl, ?_⟩; go_big_quiet_on)
                 | (go_big_quiet_op; go_big_quiet_on)))
          refine wpQuiet_nil ?_
          intro w2 hb2
          replace hb2 := HB1.out.trans (hb2.mono HB1.out.size)
          go_wp2
          go_ret
          exact ⟨by rw [HF.out]; rfl, hb2⟩
        · have e0 : decide (p < 0) = false := decide_eq_false hp
          by_cases hpq : q ≤ p
          · have e1 : decide (q ≤ p) = true := decide_eq_true hpq
            have HF := Lib.hid (HAF.out (by rw [HST.out]; simp [lnB, show ¬ p < q by omega]))
            clear HAF HAT HST
            go_wp2
            generalize hW : wr.alloc _ = W1 at *
            refine wp_region_below W1 (by kernel_rfl) (by kernel_rfl) (Below.refl _ _) ?_
            repeat (first
              | go_big_quiet_skip
              | (go_big_quiet_want
                 first
                   | (refine q_load 3 _ _ _ rfl rfl LP ?_; simp only [Act.put, List.setIfInBounds_toArray, List.set_cons_zero, List.set_cons_succ]; go_big_quiet_on)
                   | (refine q_load 3 _ _ _ rfl rfl LQ ?_; simp only [Act.put, List.setIfInBounds_toArray, List.set_cons_zero, List.set_cons_succ]; go_big_quiet_on)
                   | (refine q_load 49 _ _ _ rfl rfl LL ?_; simp only [Act.put, List.setIfInBounds_toArray, List.set_cons_zero, List.set_cons_succ]; go_big_quiet_on)
                   | (go_big_quiet_op; go_big_quiet_on)
                   | (go_big_quiet_op; refine ⟨_, fun _ _ => rfl, ?_⟩; go_big_quiet_on)
                   | (go_big_quiet_op; go_big_quiet_on)))
            refine wpQuiet_nil ?_
            intro w2 hb2
            replace hb2 := HB1.out.trans (hb2.mono HB1.out.size)
            go_wp2
            go_ret
            exact ⟨by rw [HF.out]; rfl, hb2⟩
          · have e1 : decide (q ≤ p) = false := decide_eq_false hpq
            by_cases hq : 20 < q
            · have e2 : decide (20 < q) = true := decide_eq_true hq
              have HF := Lib.hid (HAF.out (by rw [HST.out]; simp [lnB, show ¬ q ≤ 20 by omega]))
              clear HAF HAT HST
              go_wp2
              generalize hW : wr.alloc _ = W1 at *
              refine wp_region_below W1 (by kernel_rfl) (by kernel_rfl) (Below.refl _ _) ?_
              repeat (first
                | go_big_quiet_skip
                | (go_big_quiet_want
                   first
                     | (refine q_load 3 _ _ _ rfl rfl LP ?_; simp only [Act.put, List.setIfInBounds_toArray, List.set_cons_zero, List.set_cons_succ]; go_big_quiet_on)
                     | (refine q_load 3 _ _ _ rfl rfl LQ ?_; simp only [Act.put, List.setIfInBounds_toArray, List.set_cons_zero, List.set_cons_succ]; go_big_quiet_on)
                     | (refine q_load 49 _ _ _ rfl rfl LL ?_; simp only [Act.put, List.setIfInBounds_toArray, List.set_cons_zero, List.set_cons_succ]; go_big_quiet_on)
                     | (go_big_quiet_op; go_big_quiet_on)
                     | (go_big_quiet_op; refine ⟨_, fun _ _ => rfl, ?_⟩; go_big_quiet_on)
                     | (go_big_quiet_op; go_big_quiet_on)))
              refine wpQuiet_nil ?_
              intro w2 hb2
              replace hb2 := HB1.out.trans (hb2.mono HB1.out.size)
              go_wp2
              go_ret
              exact ⟨by rw [HF.out]; rfl, hb2⟩
            · have e2 : decide (20 < q) = false := decide_eq_false hq
              have HLB := Lib.hid (show lnB (p, q) = true by simp [lnB]; omega)
              by_cases hk0 : k = 0
              · subst hk0
                have HT := Lib.hid (HAT.out (by rw [HST.out, HLB.out]; rfl))
                have y0 : ¬ (0 : Int) < ((0 : Nat) : Int) := by omega
                have e3 : decide ((0 : Int) < ((0 : Nat) : Int)) = false := decide_eq_false y0
                clear HAF HAT HST HLB HPREV
                simp only [Nat.zero_mul, Nat.add_zero] at D1 D2
                go_wp2
                generalize hW : wr.alloc _ = W1 at *
                refine wp_region_below W1 (by kernel_rfl) (by kernel_rfl) (Below.refl _ _) ?_
                repeat (first
                  | go_big_quiet_skip
                  | (go_big_quiet_want
                     first
                       | (refine q_load 3 _ _ _ rfl rfl LP ?_; simp only [Act.put, List.setIfInBounds_toArray, List.set_cons_zero, List.set_cons_succ]; go_big_quiet_on)
                       | (refine q_load 3 _ _ _ rfl rfl LQ ?_; simp only [Act.put, List.setIfInBounds_toArray, List.set_cons_zero, List.set_cons_succ]; go_big_quiet_on)
                       | (refine q_load 49 _ _ _ rfl rfl LL ?_; simp only [Act.put, List.setIfInBounds_toArray, List.set_cons_zero, List.set_cons_succ]; go_big_quiet_on)
                       | (go_big_quiet_op; go_big_quiet_on)
                       | (go_big_quiet_op; refine ⟨_, fun _ _ => rfl, ?_⟩; go_big_quiet_on)
                       | (go_big_quiet_op; go_big_quiet_on)))
                refine wpQuiet_nil ?_
                intro w2 hb2
                replace hb2 := HB1.out.trans (hb2.mono HB1.out.size)
                clear HB1 LP LQ LL
                go_wp2
                exact ⟨⟨0 + 1, by omega, by go_num, HT.out, hb2⟩, by simp [intOf]; omega⟩
              · have y0 : (0 : Int) < (k : Int) := by omega
                have e3 : decide ((0 : Int) < (k : Int)) = true := decide_eq_true y0
                have yk : 0 < k := by omega
                have e4 : decide (0 < k) = true := decide_eq_true yk
                have y1 : (0 : Int) ≤ (k : Int) - 1 := by omega
                have y2 : (k : Int) - 1 < (ks.length : Int) := by omega
                have ew : IntKind.i64.wrap ((k : Int) - 1) = (k : Int) - 1 := IntWalk.i64_in _ (by omega)
                have et : ((k : Int) - 1).toNat = k - 1 := by omega
                have cp := HPREV.out (by omega)
                have LY : ∀ w', Below wr.heap.size wr w' → (loadVar 49 ⟨g, off + (k - 1) * 2, none⟩).run Try.prog w' = .ok (kv ky) w' := fun w' h => link_load cp hg (hb.trans (h.mono hb.size))
                have HA := Lib.hid (fun w => sahead13_any ky (p, q) w)
                have hk00 : decide (k = 0) = false := by simpa using hk0
                clear cp HPREV
                cases hah : aheadB ky (p, q) with
                | false =>
                  rw [hah] at HA
                  have HF := Lib.hid (HAF.out (by rw [HST.out, HLB.out, hah, hk00]; rfl))
                  clear HAF HAT HST HLB hah hk00
                  go_wp2
                  have LZ : ∀ w', Below (wr.alloc (.cells #[.int .i64 p, .int .i64 q] 49)).heap.size (wr.alloc (.cells #[.int .i64 p, .int .i64 q] 49)) w' → (loadVar 49 ⟨g, off + (k - 1) * 2, none⟩).run Try.prog w' = .ok (kv ky) w' := fun w' h => LY w' (((Below.refl _ wr).alloc (Nat.le_refl _) _).trans (h.mono HGE.out))
                  clear LY
                  generalize hW : wr.alloc _ = W1 at *
                  refine wp_region_below W1 (by kernel_rfl) (by kernel_rfl) (Below.refl _ _) ?_
                  repeat (first
                    | go_big_quiet_skip
                    | (go_big_quiet_want
                       first
                         | (refine q_load 3 _ _ _ rfl rfl LP ?_; simp only [Act.put, List.setIfInBounds_toArray, List.set_cons_zero, List.set_cons_succ]; go_big_quiet_on)
                         | (refine q_load 3 _ _ _ rfl rfl LQ ?_; simp only [Act.put, List.setIfInBounds_toArray, List.set_cons_zero, List.set_cons_succ]; go_big_quiet_on)
                         | (refine q_load 49 _ _ _ rfl rfl LL ?_; simp only [Act.put, List.setIfInBounds_toArray, List.set_cons_zero, List.set_cons_succ]; go_big_quiet_on)
                         | (refine q_load 49 _ _ _ rfl rfl LZ ?_; simp only [Act.put, List.setIfInBounds_toArray, List.set_cons_zero, List.set_cons_succ]; go_big_quiet_on)
                         | (go_big_quiet_op; go_big_quiet_on)
                         | (go_big_quiet_op; refine ⟨_, fun _ _ => rfl, ?_⟩; go_big_quiet_on)
                         | (go_big_quiet_op; apply Exists.intro; refine ⟨fun w' hw' => ?_, ?_⟩
                            · first
                              | (with_reducible refine (HA.out w').mono ?_
                                 rintro e w2 ⟨rfl, hb2⟩
                                 exact ⟨rfl, hw'.trans (hb2.mono hw'.size)⟩)
                            go_big_quiet_on)
                         | (go_big_quiet_op; refine ⟨_, fun _ _ _ => rfl, ?_⟩; go_big_quiet_on)))
                  refine wpQuiet_nil ?_
                  intro w2 hb2
                  replace hb2 := HB1.out.trans (hb2.mono HB1.out.size)
                  go_wp2
                  go_ret
                  exact ⟨by rw [HF.out]; rfl, hb2⟩
                | true =>
                  rw [hah] at HA
                  have HT := Lib.hid (HAT.out (by rw [HST.out, HLB.out, hah]; simp))
                  clear HAF HAT HST HLB hah hk00
                  go_wp2
                  have LZ : ∀ w', Below (wr.alloc (.cells #[.int .i64 p, .int .i64 q] 49)).heap.size (wr.alloc (.cells #[.int .i64 p, .int .i64 q] 49)) w' → (loadVar 49 ⟨g, off + (k - 1) * 2, none⟩).run Try.prog w' = .ok (kv ky) w' := fun w' h => LY w' (((Below.refl _ wr).alloc (Nat.le_refl _) _).trans (h.mono HGE.out))
                  clear LY
                  generalize hW : wr.alloc _ = W1 at *
                  refine wp_region_below W1 (by kernel_rfl) (by kernel_rfl) (Below.refl _ _) ?_
                  repeat (first
                    | go_big_quiet_skip
                    | (go_big_quiet_want
                       first
                         | (refine q_load 3 _ _ _ rfl rfl LP ?_; simp only [Act.put, List.setIfInBounds_toArray, List.set_cons_zero, List.set_cons_succ]; go_big_quiet_on)
                         | (refine q_load 3 _ _ _ rfl rfl LQ ?_; simp only [Act.put, List.setIfInBounds_toArray, List.set_cons_zero, List.set_cons_succ]; go_big_quiet_on)
                         | (refine q_load 49 _ _ _ rfl rfl LL ?_; simp only [Act.put, List.setIfInBounds_toArray, List.set_cons_zero, List.set_cons_succ]; go_big_quiet_on)
                         | (refine q_load 49 _ _ _ rfl rfl LZ ?_; simp only [Act.put, List.setIfInBounds_toArray, List.set_cons_zero, List.set_cons_succ]; go_big_quiet_on)
                         | (go_big_quiet_op; go_big_quiet_on)
                         | (go_big_quiet_op; refine ⟨_, fun _ _ => rfl, ?_⟩; go_big_quiet_on)
                         | (go_big_quiet_op; apply Exists.intro; refine ⟨fun w' hw' => ?_, ?_⟩
                            · first
                              | (with_reducible refine (HA.out w').mono ?_
                                 rintro e w2 ⟨rfl, hb2⟩
                                 exact ⟨rfl, hw'.trans (hb2.mono hw'.size)⟩)
                            go_big_quiet_on)
                         | (go_big_quiet_op; refine ⟨_, fun _ _ _ => rfl, ?_⟩; go_big_quiet_on)))
                  refine wpQuiet_nil ?_
                  intro w2 hb2
                  replace hb2 := HB1.out.trans (hb2.mono HB1.out.size)
                  clear LZ HA
                  clear HB1 LP LQ LL
                  go_wp2
                  exact ⟨⟨k + 1, by omega, by go_num, HT.out, hb2⟩, by simp [intOf]; omega⟩
      · obtain rfl : k = ks.length := by omega
        have HF := Lib.hid (show lnsB ks = true by rw [HL.out]; exact hall)
        clear HL
        go_wp2
        go_ret
        exact ⟨by rw [HF.out]; rfl, hb⟩
  · have HF := Lib.hid (lnsB_big (ks := ks) (by omega))
    have hb30 : (30 : Int) < (ks.length : Int) := by omega
    go_enter Try.func21, Try.ntmps21
    go_wp2
    go_ret
    exact ⟨by rw [HF.out]; rfl, Below.refl _ _⟩
end Go.Proofs.Ytpfnpinoamjcjaa
namespace Go.Proofs.Ytpfnpinoamjcjaa
open Go.ChangeShapes Go.WideShapes Go.ChangeAt Go.RowKit Go.BigFrame
set_option linter.unusedVariables false
set_option linter.unusedSimpArgs false

set_option maxRecDepth 100000 in
theorem iisright_any (k : K2) (w : World) : Calls Try.prog 52 #[kv k] w fun e w' => e = .returned (.bool (lnB k)) ∧ Below w.heap.size w w' := by
  obtain ⟨p, q⟩ := k
  have HB := Lib.hid ((Below.refl w.heap.size w).alloc (Nat.le_refl _) (.cells #[.int .i64 p, .int .i64 q] 49))
  unfold kv
  dsimp only
  by_cases h1 : 0 ≤ p
  · by_cases h2 : p < q
    · by_cases h3 : q ≤ 20
      · rw [show lnB (p, q) = true by simp [lnB]; omega]
        go_enter Try.func52, Try.ntmps52
        go_wp2
        go_ret
        exact ⟨by simp, HB.out⟩
      · rw [show lnB (p, q) = false by simp [lnB]; omega]
        go_enter Try.func52, Try.ntmps52
        go_wp2
        go_ret
        exact ⟨by simp, HB.out⟩
    · rw [show lnB (p, q) = false by simp [lnB]; omega]
      go_enter Try.func52, Try.ntmps52
      go_wp2
      go_ret
      exact ⟨by simp, HB.out⟩
  · rw [show lnB (p, q) = false by simp [lnB]; omega]
    go_enter Try.func52, Try.ntmps52
    go_wp2
    go_ret
    exact ⟨by simp, HB.out⟩
set_option maxRecDepth 100000 in
set_option maxHeartbeats 2000000 in
theorem ilinksok_any (v : Value) (ks : List K2) (w : World) (h : keysAt w v ks) (hs : ks.length ≤ 2000000) : Calls Try.prog 22 #[v] w fun e w' => e = .returned (.bool (lnsB ks)) ∧ Below w.heap.size w w' := by
  obtain ⟨a, cap, rfl, hcap, hcells⟩ := h
  by_cases hbig : ks.length ≤ 30
  · have HL := Lib.hid (lnsB_le hbig)
    have hb30 : ¬ (30 : Int) < (ks.length : Int) := by omega
    go_enter Try.func22, Try.ntmps22
    go_wp2
    go_loopw [10] (fun i wr => ∃ k : Nat, k ≤ ks.length ∧ i = .int .i64 k ∧ (List.range k).all (lnStep ks) = true ∧ Below w.heap.size w wr) (fun i _ => ks.length - (intOf i).toNat)
    case atStart => exact ⟨0, Nat.zero_le _, rfl, rfl, Below.refl _ _⟩
    case round =>
      obtain ⟨k, hk, rfl, hall, hb⟩ := hrel
      by_cases hlt : k < ks.length
      · obtain ⟨g, off, rfl, hg, hcs⟩ := hcells.resolve_left (by omega)
        have z0 : (0 : Int) ≤ (k : Int) := by omega
        have z1 : (k : Int) < (ks.length : Int) := by omega
        have c1 := hcs k hlt
        have HST := Lib.hid (show lnStep ks k = (lnB (ks.getD k (0, 0)) && (decide (k = 0) || aheadB (ks.getD (k - 1) (0, 0)) (ks.getD k (0, 0)))) from rfl)
        have HSU := Lib.hid (lnAll_succ ks k)
        have HPREV := Lib.hid (show 0 < k → w.cell? ⟨g, off + (k - 1) * 2, none⟩ = some (.int .i64 (ks.getD (k - 1) (0, 0)).1) ∧ w.cell? ⟨g, off + (k - 1) * 2 + 1, none⟩ = some (.int .i64 (ks.getD (k - 1) (0, 0)).2) from fun h0 => hcs (k - 1) (by omega))
        have HAF := Lib.hid (show lnStep ks k = false → lnsB ks = false from fun hf => by rw [HL.out]; exact lnAll_false hlt hf)
        have HAT := Lib.hid (show lnStep ks k = true → (List.range (k + 1)).all (lnStep ks) = true from fun hf => by rw [HSU.out, hall, hf]; rfl)
        clear hcs hcells HL HSU hall
        have D1 : wr.cell? ⟨g, off + k * 2, none⟩ = some (.int .i64 (ks.getD k (0, 0)).1) := by rw [hb.cell (p := ⟨g, off + k * 2, none⟩) hg]; exact c1.1
        have D2 : wr.cell? ⟨g, off + k * 2 + 1, none⟩ = some (.int .i64 (ks.getD k (0, 0)).2) := by rw [hb.cell (p := ⟨g, off + k * 2 + 1, none⟩) hg]; exact c1.2
        clear c1
        generalize hkx : ks.getD k (0, 0) = kx at *
        generalize hky : ks.getD (k - 1) (0, 0) = ky at *
        have HR := Lib.hid (fun w => iisright_any kx w)
        have HA := Lib.hid (fun w => ibyboth_any ky kx w)
        have HBN := Lib.hid (byI_lt ky kx)
        generalize hby : byI ky kx = by0 at *
        obtain ⟨p, q⟩ := kx
        have LL := lnbox_load wr (p, q)
        have HB1 := Lib.hid (hb.trans (((Below.refl _ wr).alloc (Nat.le_refl _) (.cells #[.int .i64 p, .int .i64 q] 49)).mono hb.size))
        dsimp only at LL HST HAF HAT D1 D2
        have HGE := Lib.hid (show wr.heap.size ≤ (wr.alloc (.cells #[.int .i64 p, .int .i64 q] 49)).heap.size by simp)
        cases hlb : lnB (p, q) with
        | false =>
          rw [hlb] at HR
          have HF := Lib.hid (HAF.out (by rw [HST.out, hlb]; rfl))
          clear HAF HAT HST HBN
          go_wp2
          generalize hW : wr.alloc _ = W1 at *
          refine wp_region_below W1 (by kernel_rfl) (by kernel_rfl) (Below.refl _ _) ?_
          repeat (first
            | go_big_quiet_skip
            | (go_big_quiet_want
               first
                 | (refine q_load 49 _ _ _ rfl rfl LL ?_; simp only [Act.put, List.setIfInBounds_toArray, List.set_cons_zero, List.set_cons_succ]; go_big_quiet_on)
                 | (go_big_quiet_op; go_big_quiet_on)
                 | (go_big_quiet_op; refine ⟨_, fun _ _ => rfl, ?_⟩; go_big_quiet_on)
                 | (go_big_quiet_op; apply Exists.intro; refine ⟨fun w' hw' => ?_, ?_⟩
                    · first
                      | (with_reducible refine (HR.out w').mono ?_
                         rintro e w2 ⟨rfl, hb2⟩
                         exact ⟨rfl, hw'.trans (hb2.mono hw'.size)⟩)
                    go_big_quiet_on)
                 | (go_big_quiet_op; refine ⟨_, fun _ _ _ => rfl, ?_⟩; go_big_quiet_on)))
          refine wpQuiet_nil ?_
          intro w2 hb2
          replace hb2 := HB1.out.trans (hb2.mono HB1.out.size)
          go_wp2
          go_ret
          exact ⟨by rw [HF.out]; rfl, hb2⟩
        | true =>
          rw [hlb] at HR
          by_cases hk0 : k = 0
          · subst hk0
            have HT := Lib.hid (HAT.out (by rw [HST.out, hlb]; rfl))
            have y0 : ¬ (0 : Int) < ((0 : Nat) : Int) := by omega
            have e3 : decide ((0 : Int) < ((0 : Nat) : Int)) = false := decide_eq_false y0
            clear HAF HAT HST HPREV HBN
            simp only [Nat.zero_mul, Nat.add_zero] at D1 D2
            go_wp2
            generalize hW : wr.alloc _ = W1 at *
            refine wp_region_below W1 (by kernel_rfl) (by kernel_rfl) (Below.refl _ _) ?_
            repeat (first
              | go_big_quiet_skip
              | (go_big_quiet_want
                 first
                   | (refine q_load 49 _ _ _ rfl rfl LL ?_; simp only [Act.put, List.setIfInBounds_toArray, List.set_cons_zero, List.set_cons_succ]; go_big_quiet_on)
                   | (go_big_quiet_op; go_big_quiet_on)
                   | (go_big_quiet_op; refine ⟨_, fun _ _ => rfl, ?_⟩; go_big_quiet_on)
                   | (go_big_quiet_op; apply Exists.intro; refine ⟨fun w' hw' => ?_, ?_⟩
                      · first
                        | (with_reducible refine (HR.out w').mono ?_
                           rintro e w2 ⟨rfl, hb2⟩
                           exact ⟨rfl, hw'.trans (hb2.mono hw'.size)⟩)
                      go_big_quiet_on)
                   | (go_big_quiet_op; refine ⟨_, fun _ _ _ => rfl, ?_⟩; go_big_quiet_on)))
            refine wpQuiet_nil ?_
            intro w2 hb2
            replace hb2 := HB1.out.trans (hb2.mono HB1.out.size)
            clear HB1 LL HA HR
            go_wp2
            exact ⟨⟨0 + 1, by omega, by go_num, HT.out, hb2⟩, by simp [intOf]; omega⟩
          · have y0 : (0 : Int) < (k : Int) := by omega
            have e3 : decide ((0 : Int) < (k : Int)) = true := decide_eq_true y0
            have yk : 0 < k := by omega
            have e4 : decide (0 < k) = true := decide_eq_true yk
            have y1 : (0 : Int) ≤ (k : Int) - 1 := by omega
            have y2 : (k : Int) - 1 < (ks.length : Int) := by omega
            have ew : IntKind.i64.wrap ((k : Int) - 1) = (k : Int) - 1 := IntWalk.i64_in _ (by omega)
            have et : ((k : Int) - 1).toNat = k - 1 := by omega
            have cp := HPREV.out (by omega)
            have LY : ∀ w', Below wr.heap.size wr w' → (loadVar 49 ⟨g, off + (k - 1) * 2, none⟩).run Try.prog w' = .ok (kv ky) w' := fun w' h => link_load cp hg (hb.trans (h.mono hb.size))
            have hk00 : decide (k = 0) = false := by simpa using hk0
            clear cp HPREV
            cases hah : aheadB ky (p, q) with
            | false =>
              have q0 : (0 : Int) ≤ by0 := by
                have := HBN.out
                rw [hah] at this
                have : ¬ by0 < 0 := fun h => by have := this.1 h; cases this
                omega
              have q1 : decide ((0 : Int) ≤ by0) = true := decide_eq_true q0
              have HF := Lib.hid (HAF.out (by rw [HST.out, hlb, hah, hk00]; rfl))
              clear HAF HAT HST hah hk00 HBN
              go_wp2
              have LZ : ∀ w', Below (wr.alloc (.cells #[.int .i64 p, .int .i64 q] 49)).heap.size (wr.alloc (.cells #[.int .i64 p, .int .i64 q] 49)) w' → (loadVar 49 ⟨g, off + (k - 1) * 2, none⟩).run Try.prog w' = .ok (kv ky) w' := fun w' h => LY w' (((Below.refl _ wr).alloc (Nat.le_refl _) _).trans (h.mono HGE.out))
              clear LY
              generalize hW : wr.alloc _ = W1 at *
              refine wp_region_below W1 (by kernel_rfl) (by kernel_rfl) (Below.refl _ _) ?_
              repeat (first
                | go_big_quiet_skip
                | (go_big_quiet_want
                   first
                     | (refine q_load 49 _ _ _ rfl rfl LL ?_; simp only [Act.put, List.setIfInBounds_toArray, List.set_cons_zero, List.set_cons_succ]; go_big_quiet_on)
                     | (refine q_load 49 _ _ _ rfl rfl LZ ?_; simp only [Act.put, List.setIfInBounds_toArray, List.set_cons_zero, List.set_cons_succ]; go_big_quiet_on)
                     | (go_big_quiet_op; go_big_quiet_on)
                     | (go_big_quiet_op; refine ⟨_, fun _ _ => rfl, ?_⟩; go_big_quiet_on)
                     | (go_big_quiet_op; apply Exists.intro; refine ⟨fun w' hw' => ?_, ?_⟩
                        · first
                          | (with_reducible refine (HR.out w').mono ?_
                             rintro e w2 ⟨rfl, hb2⟩
                             exact ⟨rfl, hw'.trans (hb2.mono hw'.size)⟩)
                          | (with_reducible refine (HA.out w').mono ?_
                             rintro e w2 ⟨rfl, hb2⟩
                             exact ⟨rfl, hw'.trans (hb2.mono hw'.size)⟩)
                        go_big_quiet_on)
                     | (go_big_quiet_op; refine ⟨_, fun _ _ _ => rfl, ?_⟩; go_big_quiet_on)))
              refine wpQuiet_nil ?_
              intro w2 hb2
              replace hb2 := HB1.out.trans (hb2.mono HB1.out.size)
              go_wp2
              go_ret
              exact ⟨by rw [HF.out]; rfl, hb2⟩
            | true =>
              have q0 : ¬ (0 : Int) ≤ by0 := by
                have := HBN.out.2 hah
                omega
              have q1 : decide ((0 : Int) ≤ by0) = false := decide_eq_false q0
              have HT := Lib.hid (HAT.out (by rw [HST.out, hlb, hah]; simp))
              clear HAF HAT HST hah hk00 HBN
              go_wp2
              have LZ : ∀ w', Below (wr.alloc (.cells #[.int .i64 p, .int .i64 q] 49)).heap.size (wr.alloc (.cells #[.int .i64 p, .int .i64 q] 49)) w' → (loadVar 49 ⟨g, off + (k - 1) * 2, none⟩).run Try.prog w' = .ok (kv ky) w' := fun w' h => LY w' (((Below.refl _ wr).alloc (Nat.le_refl _) _).trans (h.mono HGE.out))
              clear LY
              generalize hW : wr.alloc _ = W1 at *
              refine wp_region_below W1 (by kernel_rfl) (by kernel_rfl) (Below.refl _ _) ?_
              repeat (first
                | go_big_quiet_skip
                | (go_big_quiet_want
                   first
                     | (refine q_load 49 _ _ _ rfl rfl LL ?_; simp only [Act.put, List.setIfInBounds_toArray, List.set_cons_zero, List.set_cons_succ]; go_big_quiet_on)
                     | (refine q_load 49 _ _ _ rfl rfl LZ ?_; simp only [Act.put, List.setIfInBounds_toArray, List.set_cons_zero, List.set_cons_succ]; go_big_quiet_on)
                     | (go_big_quiet_op; go_big_quiet_on)
                     | (go_big_quiet_op; refine ⟨_, fun _ _ => rfl, ?_⟩; go_big_quiet_on)
                     | (go_big_quiet_op; apply Exists.intro; refine ⟨fun w' hw' => ?_, ?_⟩
                        · first
                          | (with_reducible refine (HR.out w').mono ?_
                             rintro e w2 ⟨rfl, hb2⟩
                             exact ⟨rfl, hw'.trans (hb2.mono hw'.size)⟩)
                          | (with_reducible refine (HA.out w').mono ?_
                             rintro e w2 ⟨rfl, hb2⟩
                             exact ⟨rfl, hw'.trans (hb2.mono hw'.size)⟩)
                        go_big_quiet_on)
                     | (go_big_quiet_op; refine ⟨_, fun _ _ _ => rfl, ?_⟩; go_big_quiet_on)))
              refine wpQuiet_nil ?_
              intro w2 hb2
              replace hb2 := HB1.out.trans (hb2.mono HB1.out.size)
              clear LZ
              clear HB1 LL HA HR
              go_wp2
              exact ⟨⟨k + 1, by omega, by go_num, HT.out, hb2⟩, by simp [intOf]; omega⟩
      · obtain rfl : k = ks.length := by omega
        have HF := Lib.hid (show lnsB ks = true by rw [HL.out]; exact hall)
        clear HL
        go_wp2
        go_ret
        exact ⟨by rw [HF.out]; rfl, hb⟩
  · have HF := Lib.hid (lnsB_big (ks := ks) (by omega))
    have hb30 : (30 : Int) < (ks.length : Int) := by omega
    go_enter Try.func22, Try.ntmps22
    go_wp2
    go_ret
    exact ⟨by rw [HF.out]; rfl, Below.refl _ _⟩
end Go.Proofs.Ytpfnpinoamjcjaa
namespace Go.Proofs.Ytpfnpinoamjcjaa
open Go.ChangeShapes Go.WideShapes Go.ChangeAt Go.RowKit Go.BigFrame
set_option linter.unusedVariables false
set_option linter.unusedSimpArgs false

set_option maxRecDepth 100000 in
theorem iother_any (k : K2) (id : Int) (w : World) : Calls Try.prog 68 #[kv k, .int .i64 id] w fun e w' => e = .returned (.tuple #[.int .i64 ((nrF id k).getD 0), .bool (nrF id k).isSome]) ∧ Below w.heap.size w w' := by
  obtain ⟨p, q⟩ := k
  have HB := Lib.hid ((Below.refl w.heap.size w).alloc (Nat.le_refl _) (.cells #[.int .i64 p, .int .i64 q] 49))
  unfold kv nrF
  dsimp only
  by_cases h1 : p = id
  · rw [if_pos h1]
    subst h1
    go_enter Try.func68, Try.ntmps68
    go_wp2
    go_ret2
    exact ⟨rfl, HB.out⟩
  · rw [if_neg h1]
    have h1' : ¬ id = p := fun e => h1 e.symm
    by_cases h2 : q = id
    · rw [if_pos h2]
      subst h2
      go_enter Try.func68, Try.ntmps68
      go_wp2
      go_ret2
      exact ⟨rfl, HB.out⟩
    · rw [if_neg h2]
      have h2' : ¬ id = q := fun e => h2 e.symm
      go_enter Try.func68, Try.ntmps68
      go_wp2
      go_ret2
      exact ⟨rfl, HB.out⟩
theorem nr_succ (ks : List K2) (id : Int) (k : Nat) (hk : k < ks.length) : (ks.take (k + 1)).filterMap (nrF id) = (ks.take k).filterMap (nrF id) ++ (nrF id (ks.getD k (0, 0))).toList := by
  rw [List.take_add_one, List.filterMap_append]
  congr 1
  have e1 : ks[k]?.toList = [ks[k]] := by simp [hk]
  have e2 : ks.getD k (0, 0) = ks[k] := by simp [List.getD, hk]
  rw [e1, e2, List.filterMap_cons]
  cases nrF id ks[k] <;> rfl
theorem nr_len (ks : List K2) (id : Int) (k : Nat) : ((ks.take k).filterMap (nrF id)).length ≤ k := by
  have h1 := List.length_filterMap_le (nrF id) (ks.take k)
  rw [List.length_take] at h1
  omega
set_option maxRecDepth 100000 in
set_option maxHeartbeats 2000000 in
theorem inear1_any (bx : Nat) (v : Value) (ks : List K2) (id : Int) (w : World) (h : keysAt w v ks) (hr : w.heap[bx]? = some (.cells #[v] 24 (0, 0))) (hs : ks.length ≤ 100000) :
    Calls Try.prog 67 #[.int .i64 id, .pointer (some ⟨bx, 0, none⟩)] w fun e w' => ∃ v', e = .returned v' ∧ IlD w w' v' (ks.filterMap (nrF id)) := by
  obtain ⟨a, cap, rfl, hcap, hcells⟩ := h
  have c0 : w.cell? ⟨bx, 0, none⟩ = some (.slice a ks.length cap) := by rw [cell_of_row _ _ _ _ _ _ hr]; rfl
  have hL0 := IlD.nil w
  go_enter Try.func67, Try.ntmps67
  go_wp2
  go_loopw [4, 11] (fun ov i wr => ∃ (k : Nat) (v0 : Value), v0 = ov ∧ k ≤ ks.length ∧ i = .int .i64 k ∧ IlD w wr ov ((ks.take k).filterMap (nrF id))) (fun _ i _ => ks.length - (intOf i).toNat)
  case atStart => exact ⟨0, _, rfl, Nat.zero_le _, rfl, hL0⟩
  case round =>
    obtain ⟨k, ov, rfl, hk, rfl, hL⟩ := hrel
    clear hL0
    by_cases hlt : k < ks.length
    · obtain ⟨g, off, rfl, hg, hcs⟩ := hcells.resolve_left (by omega)
      have hc := hcs k hlt
      have HSU := Lib.hid (nr_succ ks id k hlt)
      have HLN := Lib.hid (nr_len ks id k)
      have D1 : wr.cell? ⟨g, off + k * 2, none⟩ = some (.int .i64 (ks.getD k (0, 0)).1) := by rw [hL.below.cell (p := ⟨g, off + k * 2, none⟩) hg]; exact hc.1
      have D2 : wr.cell? ⟨g, off + k * 2 + 1, none⟩ = some (.int .i64 (ks.getD k (0, 0)).2) := by rw [hL.below.cell (p := ⟨g, off + k * 2 + 1, none⟩) hg]; exact hc.2
      clear hcs hcells hc
      generalize ks.getD k (0, 0) = x at *
      generalize (ks.take k).filterMap (nrF id) = o at *
      have HO := Lib.hid (fun wx => iother_any x id wx)
      obtain ⟨p, q⟩ := x
      dsimp only at *
      have z0 : (0 : Int) ≤ (k : Int) := by omega
      have z1 : (k : Int) < (ks.length : Int) := by omega
      have HL1 := Lib.hid (hL.alloc (.cells #[.int .i64 p, .int .i64 q] 49))
      have hol : o.length ≤ 100000 := by have := HLN.out; omega
      obtain ⟨oa0, oc0, rfl⟩ := hL.shape
      clear hL HLN
      cases hn : nrF id (p, q) with
      | none =>
        rw [hn] at HO HSU
        have HS2 := Lib.hid (show (ks.take (k + 1)).filterMap (nrF id) = o by rw [HSU.out]; simp)
        clear hn HSU
        go_wp2_with fail
        refine (HO.out _).mono ?_
        rintro e w2 ⟨rfl, hb2⟩
        have HL2 := Lib.hid (HL1.out.next hb2)
        clear hb2 HL1 HO D1 D2
        go_wp2
        exact ⟨⟨k + 1, _, rfl, by omega, by go_num, by rw [HS2.out]; exact HL2.out⟩, by simp [intOf]; omega⟩
      | some y =>
        rw [hn] at HO HSU
        have HS2 := Lib.hid (show (ks.take (k + 1)).filterMap (nrF id) = o ++ [y] by rw [HSU.out]; rfl)
        clear hn HSU
        go_wp2_with fail
        refine (HO.out _).mono ?_
        rintro e w2 ⟨rfl, hb2⟩
        simp only [Option.getD_some, Option.isSome_some]
        have HL2 := Lib.hid (HL1.out.next hb2)
        clear hb2 HL1 HO D1 D2
        have HA3 := Lib.hid (HL2.out.alloc (.cells #[.int .i64 y] 3))
        go_wp2_with (at_builtin; refine wpList_append_in1 rfl (.tmp 22) (.tmp 24) rfl HA3.out.own (w2.heap.size) y (heap_alloc_new _ _) rfl rfl (by omega) HA3.out.below.size ?_; intro v3 w3 ho3 hg3; have HL3 := Lib.hid (HA3.out.push ho3 hg3); clear HA3 ho3 hg3)
        exact ⟨⟨k + 1, _, rfl, by omega, by go_num, by rw [HS2.out]; exact HL3.out⟩, by simp [intOf]; omega⟩
    · obtain rfl : k = ks.length := by omega
      rw [List.take_length] at hL
      clear hcells
      go_wp2
      go_ret
      exact ⟨_, rfl, hL⟩
theorem IlD.base {w0 w00 wr : World} {v : Value} {xs : List Int} (h : IlD w0 wr v xs) (hb : Below w00.heap.size w00 w0) : IlD w00 wr v xs := ⟨own_base h.1 hb.size, hb.trans (h.2.mono hb.size)⟩
theorem inearby_any (a : Option Addr) (n cap : Nat) (w : World) : Calls Try.prog 55 #[.slice a n cap] w fun e w' => e = .returned (.func (.func 67) #[] #[.pointer (some ⟨w.heap.size, 0, none⟩)]) ∧ w' = w.alloc (.cells #[.slice a n cap] 24) := by
  go_enter Try.func55, Try.ntmps55
  go_wp2
  go_ret
  exact ⟨rfl, rfl⟩
set_option maxRecDepth 100000 in
set_option maxHeartbeats 1000000 in
theorem inear_any (v : Value) (ks : List K2) (id : Int) (w : World) (h : keysAt w v ks) (hs : ks.length ≤ 2000000) :
    Calls Try.prog 24 #[v, .int .i64 id] w fun e w' => ∃ v', e = .returned v' ∧ IlD w w' v' (nearM ks id) := by
  have HLK := Lib.hid (ilinksok_any v ks w h hs)
  have HK := Lib.hid (fun wx (hb : Below w.heap.size w wx) => keysAt_below h hb)
  unfold nearM
  cases hl : lnsB ks with
  | false =>
    rw [if_neg (by simp)]
    rw [hl] at HLK
    obtain ⟨a, cap, rfl, -, -⟩ := h
    clear hl
    go_enter Try.func24, Try.ntmps24
    go_wp2_with fail
    refine HLK.out.mono ?_
    rintro e w1 ⟨rfl, hb1⟩
    have HB1 := Lib.hid hb1
    clear hb1 HLK HK
    go_wp2
    go_ret
    exact ⟨_, rfl, World.ownsRow_nil _ _ _ _, HB1.out⟩
  | true =>
    rw [if_pos rfl]
    rw [hl] at HLK
    have hlen := ((lns_iff ks).1 hl).1
    have HN := Lib.hid (fun bx wx (hr : wx.heap[bx]? = some (.cells #[v] 24 (0, 0))) (hk : keysAt wx v ks) => inear1_any bx v ks id wx hk hr (by omega))
    obtain ⟨a, cap, rfl, -, -⟩ := h
    clear hl
    go_enter Try.func24, Try.ntmps24
    go_wp2_with fail
    refine HLK.out.mono ?_
    rintro e w1 ⟨rfl, hb1⟩
    have HB1 := Lib.hid hb1
    clear hb1 HLK
    go_wp2_with fail
    refine (inearby_any _ _ _ _).mono ?_
    rintro e w2 ⟨rfl, rfl⟩
    have hb2 := (Below.refl w1.heap.size w1).alloc (Nat.le_refl _) (.cells #[.slice a ks.length cap] 24)
    have HB2 := Lib.hid (HB1.out.trans (hb2.mono HB1.out.size))
    have HR := Lib.hid (heap_alloc_new w1 (.cells #[.slice a ks.length cap] 24))
    generalize w1.alloc (.cells #[.slice a ks.length cap] 24) = w3 at *
    go_wp2_with fail
    refine (HN.out _ _ HR.out (HK.out _ HB2.out)).mono ?_
    rintro e w4 ⟨v4, rfl, hL4⟩
    have HL4 := Lib.hid (hL4.base HB2.out)
    clear hL4 HN HK HR HB1 hb2
    go_wp2
    go_ret
    exact ⟨_, rfl, HL4.out⟩
end Go.Proofs.Ytpfnpinoamjcjaa
namespace Go.Proofs.Ytpfnpinoamjcjaa
open Go.ChangeShapes Go.WideShapes Go.ChangeAt Go.RowKit Go.BigFrame
set_option linter.unusedVariables false
set_option linter.unusedSimpArgs false

set_option maxRecDepth 100000 in
set_option maxHeartbeats 2000000 in
theorem sput_any (v : Value) (xs : List Int) (id : Int) (w : World) (h : inAt w v xs) (hs : xs.length ≤ 100000) :
    Calls Try.prog 56 #[v, .int .i64 id] w fun e w' => ∃ v', e = .returned v' ∧ IlD w w' v' (putF xs id) := by
  obtain ⟨a, cap, rfl, hcap, hcells⟩ := h
  have hL0 := IlD.lit w
  go_enter Try.func56, Try.ntmps56
  go_wp2
  go_loopw [5, 6, 7] (fun ov dv i wr => ∃ (k : Nat) (v0 : Value), v0 = ov ∧ k ≤ xs.length ∧ i = .int .i64 k ∧ dv = .bool (putS (xs.take k) id).2 ∧ IlD w wr ov (putS (xs.take k) id).1) (fun _ _ i _ => xs.length - (intOf i).toNat)
  case atStart => exact ⟨0, _, rfl, Nat.zero_le _, rfl, rfl, hL0⟩
  case round =>
    obtain ⟨k, ov, rfl, hk, rfl, rfl, hL⟩ := hrel
    clear hL0
    have HLE := Lib.hid (putS_le (xs.take k) id)
    have HTK := Lib.hid (show (xs.take k).length ≤ 100000 by rw [List.length_take]; omega)
    by_cases hlt : k < xs.length
    · obtain ⟨g, off, rfl, hg, hcs⟩ := hcells.resolve_left (by omega)
      have hc := hcs k hlt
      have HSU := Lib.hid (putS_succ xs id k hlt)
      have HD := Lib.hid (show ∀ w', Below w.heap.size w w' → w'.cell? ⟨g, off + k, none⟩ = some (.int .i64 (xs[k]?.getD 0)) from fun w' hb => by rw [hb.cell (p := ⟨g, off + k, none⟩) hg]; exact hc)
      have D1 := HD.out _ hL.below
      clear hcs hcells hc
      generalize xs[k]?.getD 0 = x at *
      generalize putS (xs.take k) id = s1 at *
      obtain ⟨o, d⟩ := s1
      dsimp only at *
      have hol : o.length ≤ 100001 := by have := HLE.out; have := HTK.out; omega
      have z0 : (0 : Int) ≤ (k : Int) := by omega
      have z1 : (k : Int) < (xs.length : Int) := by omega
      have HL0 := Lib.hid hL
      clear HLE HTK hL
      cases d with
      | false =>
        by_cases h1 : id ≤ x
        · by_cases h2 : x = id
          · subst h2
            have HS2 := Lib.hid (show putS (xs.take (k + 1)) _ = (o ++ [x], true) by rw [HSU.out]; simp [putStep])
            clear HSU
            obtain ⟨oa0, oc0, rfl⟩ := HL0.out.shape
            have HA1 := Lib.hid (HL0.out.alloc (.cells #[.int .i64 x] 3))
            go_wp2_with (at_builtin; refine wpList_append_in1 rfl (.tmp 25) (.tmp 27) rfl HA1.out.own (wr.heap.size) x (heap_alloc_new _ _) rfl rfl (by first | omega | (simp; omega)) HA1.out.below.size ?_; intro v1 w1 ho1 hg1; have HL1 := Lib.hid (HA1.out.push ho1 hg1); clear HA1 ho1 hg1; obtain ⟨oa1, oc1, rfl⟩ := HL1.out.shape2 (o.length + 1) (by simp); have D2 := HD.out _ HL1.out.below)
            go_wp2
            exact ⟨⟨k + 1, _, rfl, by omega, by go_num, by rw [HS2.out], by rw [HS2.out]; exact HL1.out⟩, by simp [intOf]; omega⟩
          · have HS2 := Lib.hid (show putS (xs.take (k + 1)) _ = (o ++ [id] ++ [x], true) by rw [HSU.out]; simp [putStep, h1, h2])
            clear HSU
            obtain ⟨oa0, oc0, rfl⟩ := HL0.out.shape
            have HA1 := Lib.hid (HL0.out.alloc (.cells #[.int .i64 id] 3))
            go_wp2_with (first | (at_builtin; refine wpList_append_in1 rfl (.tmp 25) (.tmp 27) rfl HA1.out.own (wr.heap.size) id (heap_alloc_new _ _) rfl rfl (by first | omega | (simp; omega)) HA1.out.below.size ?_; intro v1 w1 ho1 hg1; have HL1 := Lib.hid (HA1.out.push ho1 hg1); clear HA1 ho1 hg1; obtain ⟨oa1, oc1, rfl⟩ := HL1.out.shape2 (o.length + 1) (by simp); have D2 := HD.out _ HL1.out.below; have HA2 := Lib.hid (HL1.out.alloc (.cells #[.int .i64 x] 3))) | (at_builtin; refine wpList_append_in1 rfl (.tmp 35) (.tmp 40) rfl HA2.out.own (w1.heap.size) x (heap_alloc_new _ _) rfl rfl (by simp; omega) HA2.out.below.size ?_; intro v2 w2 ho2 hg2; have HL2 := Lib.hid (HA2.out.push ho2 hg2); clear HA2 ho2 hg2; obtain ⟨oa2, oc2, rfl⟩ := HL2.out.shape2 (o.length + 1 + 1) (by simp)))
            go_wp2
            exact ⟨⟨k + 1, _, rfl, by omega, by go_num, by rw [HS2.out], by rw [HS2.out]; exact HL2.out⟩, by simp [intOf]; omega⟩
        · have h2 : ¬ x = id := by omega
          have HS2 := Lib.hid (show putS (xs.take (k + 1)) _ = (o ++ [x], false) by rw [HSU.out]; simp [putStep, h1, h2])
          clear HSU
          obtain ⟨oa0, oc0, rfl⟩ := HL0.out.shape
          have HA1 := Lib.hid (HL0.out.alloc (.cells #[.int .i64 x] 3))
          go_wp2_with (at_builtin; refine wpList_append_in1 rfl (.tmp 35) (.tmp 40) rfl HA1.out.own (wr.heap.size) x (heap_alloc_new _ _) rfl rfl (by first | omega | (simp; omega)) HA1.out.below.size ?_; intro v1 w1 ho1 hg1; have HL1 := Lib.hid (HA1.out.push ho1 hg1); clear HA1 ho1 hg1; obtain ⟨oa1, oc1, rfl⟩ := HL1.out.shape2 (o.length + 1) (by simp))
          go_wp2
          exact ⟨⟨k + 1, _, rfl, by omega, by go_num, by rw [HS2.out], by rw [HS2.out]; exact HL1.out⟩, by simp [intOf]; omega⟩
      | true =>
        by_cases h2 : x = id
        · subst h2
          have HS2 := Lib.hid (show putS (xs.take (k + 1)) _ = (o, true) by rw [HSU.out]; simp [putStep])
          clear HSU
          obtain ⟨oa0, oc0, rfl⟩ := HL0.out.shape
          go_wp2
          exact ⟨⟨k + 1, _, rfl, by omega, by go_num, by rw [HS2.out], by rw [HS2.out]; exact HL0.out⟩, by simp [intOf]; omega⟩
        · have HS2 := Lib.hid (show putS (xs.take (k + 1)) _ = (o ++ [x], true) by rw [HSU.out]; simp [putStep, h2])
          clear HSU
          obtain ⟨oa0, oc0, rfl⟩ := HL0.out.shape
          have HA1 := Lib.hid (HL0.out.alloc (.cells #[.int .i64 x] 3))
          go_wp2_with (at_builtin; refine wpList_append_in1 rfl (.tmp 35) (.tmp 40) rfl HA1.out.own (wr.heap.size) x (heap_alloc_new _ _) rfl rfl (by first | omega | (simp; omega)) HA1.out.below.size ?_; intro v1 w1 ho1 hg1; have HL1 := Lib.hid (HA1.out.push ho1 hg1); clear HA1 ho1 hg1; obtain ⟨oa1, oc1, rfl⟩ := HL1.out.shape2 (o.length + 1) (by simp))
          go_wp2
          exact ⟨⟨k + 1, _, rfl, by omega, by go_num, by rw [HS2.out], by rw [HS2.out]; exact HL1.out⟩, by simp [intOf]; omega⟩
    · obtain rfl : k = xs.length := by omega
      have HPF := Lib.hid (show putF xs id = if (putS xs id).2 = true then (putS xs id).1 else (putS xs id).1 ++ [id] from rfl)
      rw [List.take_length] at hL HLE HTK ⊢
      generalize putS xs id = s1 at *
      obtain ⟨o, d⟩ := s1
      dsimp only at *
      have hol : o.length ≤ 100001 := by have := HLE.out; omega
      have HL0 := Lib.hid hL
      clear HLE HTK hL hcells
      cases d with
      | true =>
        obtain ⟨oa0, oc0, rfl⟩ := HL0.out.shape
        go_wp2
        go_ret
        exact ⟨_, rfl, by rw [HPF.out]; exact HL0.out⟩
      | false =>
        obtain ⟨oa0, oc0, rfl⟩ := HL0.out.shape
        have HA1 := Lib.hid (HL0.out.alloc (.cells #[.int .i64 id] 3))
        go_wp2_with (at_builtin; refine wpList_append_in1 rfl (.tmp 44) (.tmp 46) rfl HA1.out.own (wr.heap.size) id (heap_alloc_new _ _) rfl rfl (by first | omega | (simp; omega)) HA1.out.below.size ?_; intro v1 w1 ho1 hg1; have HL1 := Lib.hid (HA1.out.push ho1 hg1); clear HA1 ho1 hg1; obtain ⟨oa1, oc1, rfl⟩ := HL1.out.shape2 (o.length + 1) (by simp))
        clear HL0
        go_wp2
        go_ret
        exact ⟨_, rfl, by rw [HPF.out]; exact HL1.out⟩
end Go.Proofs.Ytpfnpinoamjcjaa
namespace Go.Proofs.Ytpfnpinoamjcjaa
open Go.ChangeShapes Go.WideShapes Go.ChangeAt Go.RowKit Go.BigFrame
set_option linter.unusedVariables false
set_option linter.unusedSimpArgs false

theorem nrF_lt {id x y : Int} {a b : K2} (ha : lnB a = true) (hb : lnB b = true) (h : aheadB a b = true) (hx : nrF id a = some x) (hy : nrF id b = some y) : x < y := by
  rw [lnB_iff] at ha hb
  rw [ahead_iff] at h
  unfold nrF at hx hy
  split at hx
  · cases hx
    split at hy
    · cases hy; omega
    · split at hy
      · cases hy; omega
      · cases hy
  · split at hx
    · cases hx
      split at hy
      · cases hy; omega
      · split at hy
        · cases hy; omega
        · cases hy
    · cases hx
theorem nr_rising {ks : List K2} (h : lnsB ks = true) (id : Int) : IRis (ks.filterMap (nrF id)) := by
  obtain ⟨-, h2, h3⟩ := (lns_iff ks).1 h
  unfold IRis
  rw [List.pairwise_filterMap]
  unfold Rising at h3
  exact List.Pairwise.imp_of_mem (fun {a b} ma mb hab x hx y hy => nrF_lt (h2 a ma) (h2 b mb) hab hx hy) h3
theorem nr_put {ks : List K2} (h : lnsB ks = true) (id : Int) {k : Nat} (hk : k < ks.length) {y : Int} (hy : nrF id (ks.getD k (0, 0)) = some y) : putF ((ks.take k).filterMap (nrF id)) y = (ks.take (k + 1)).filterMap (nrF id) := by
  have hr := nr_rising h id
  have e : ks.filterMap (nrF id) = (ks.take (k + 1)).filterMap (nrF id) ++ (ks.drop (k + 1)).filterMap (nrF id) := by rw [← List.filterMap_append, List.take_append_drop]
  rw [e] at hr
  have hr1 := (iris_append.1 hr).1
  rw [nr_succ ks id k hk, hy] at hr1 ⊢
  obtain ⟨h1, -, h3⟩ := iris_append.1 hr1
  exact putF_last h1 y fun x hx => h3 x hx y (by simp)
set_option maxRecDepth 100000 in
set_option maxHeartbeats 2000000 in
theorem snear_any (v : Value) (ks : List K2) (id : Int) (w : World) (h : keysAt w v ks) (hs : ks.length ≤ 2000000) :
    Calls Try.prog 26 #[v, .int .i64 id] w fun e w' => ∃ v', e = .returned v' ∧ IlD w w' v' (nearM ks id) := by
  have HLK := Lib.hid (fun wx (hb : Below w.heap.size w wx) => slinksok_any v ks wx (keysAt_below h hb) hs)
  obtain ⟨a, cap, rfl, hcap, hcells⟩ := h
  have hL0 := IlD.lit w
  unfold nearM
  cases hl : lnsB ks with
  | false =>
    rw [if_neg (by simp)]
    rw [hl] at HLK
    clear hl
    by_cases hz : ks.length = 0
    · rw [hz]
      clear hcells HLK
      go_enter Try.func26, Try.ntmps26
      go_wp2
      go_loopw [5, 6] (fun ov i wr => ∃ v0 : Value, v0 = ov ∧ i = .int .i64 0 ∧ IlD w wr ov []) (fun _ i _ => 0)
      case atStart => exact ⟨_, rfl, rfl, hL0⟩
      case round =>
        obtain ⟨ov, rfl, rfl, hL⟩ := hrel
        go_wp2
        go_ret
        exact ⟨_, rfl, hL⟩
    · have z1 : (0 : Int) < (ks.length : Int) := by omega
      clear hcells
      go_enter Try.func26, Try.ntmps26
      go_wp2
      go_loopw [5, 6] (fun ov i wr => ∃ v0 : Value, v0 = ov ∧ i = .int .i64 0 ∧ IlD w wr ov []) (fun _ i _ => 0)
      case atStart => exact ⟨_, rfl, rfl, hL0⟩
      case round =>
        obtain ⟨ov, rfl, rfl, hL⟩ := hrel
        clear hL0
        have HL := Lib.hid hL
        clear hL
        go_wp2_with fail
        refine (HLK.out _ HL.out.below).mono ?_
        rintro e w1 ⟨rfl, hb1⟩
        have HL1 := Lib.hid (HL.out.next hb1)
        clear hb1 HLK HL
        go_wp2
        go_ret
        exact ⟨_, rfl, HL1.out⟩
  | true =>
    rw [if_pos rfl]
    rw [hl] at HLK
    have hlen := ((lns_iff ks).1 hl).1
    have HALL := Lib.hid ((lns_iff ks).1 hl).2.1
    have HPUT := Lib.hid (fun (k : Nat) (y : Int) (hk : k < ks.length) (hy : nrF id (ks.getD k (0, 0)) = some y) => nr_put hl id hk hy)
    clear hl
    go_enter Try.func26, Try.ntmps26
    go_wp2
    go_loopw [5, 6] (fun ov i wr => ∃ (k : Nat) (v0 : Value), v0 = ov ∧ k ≤ ks.length ∧ i = .int .i64 k ∧ IlD w wr ov ((ks.take k).filterMap (nrF id))) (fun _ i _ => ks.length - (intOf i).toNat)
    case atStart => exact ⟨0, _, rfl, Nat.zero_le _, rfl, hL0⟩
    case round =>
      obtain ⟨k, ov, rfl, hk, rfl, hL⟩ := hrel
      clear hL0
      by_cases hlt : k < ks.length
      · obtain ⟨g, off, rfl, hg, hcs⟩ := hcells.resolve_left (by omega)
        have hc := hcs k hlt
        have HSU := Lib.hid (nr_succ ks id k hlt)
        have HP := Lib.hid (fun y hy => HPUT.out k y hlt hy)
        have hlb := HALL.out (ks.getD k (0, 0)) (by simp [List.getD, hlt])
        have HD1 := Lib.hid (show ∀ w', Below w.heap.size w w' → w'.cell? ⟨g, off + k * 2, none⟩ = some (.int .i64 (ks.getD k (0, 0)).1) from fun w' hb => by rw [hb.cell (p := ⟨g, off + k * 2, none⟩) hg]; exact hc.1)
        have HD2 := Lib.hid (show ∀ w', Below w.heap.size w w' → w'.cell? ⟨g, off + k * 2 + 1, none⟩ = some (.int .i64 (ks.getD k (0, 0)).2) from fun w' hb => by rw [hb.cell (p := ⟨g, off + k * 2 + 1, none⟩) hg]; exact hc.2)
        have HLN := Lib.hid (nr_len ks id k)
        clear hcs hcells hc HPUT HALL
        generalize ks.getD k (0, 0) = x at *
        generalize (ks.take k).filterMap (nrF id) = o at *
        obtain ⟨p, q⟩ := x
        dsimp only at *
        have z0 : (0 : Int) ≤ (k : Int) := by omega
        have z1 : (k : Int) < (ks.length : Int) := by omega
        have hol : o.length ≤ 100 := by have := HLN.out; omega
        have hpq := ((lnB_iff _).1 hlb).2.1
        dsimp only at hpq
        clear HLN hlb
        have HL := Lib.hid hL
        obtain ⟨oa0, oc0, rfl⟩ := hL.shape
        clear hL
        by_cases h1 : p = id
        · subst h1
          have HS2 := Lib.hid (show putF o q = (ks.take (k + 1)).filterMap (nrF p) from HP.out q (by simp [nrF]))
          have h2 : ¬ q = p := by omega
          clear HSU HP
          go_wp2_with fail
          refine (HLK.out _ HL.out.below).mono ?_
          rintro e w1 ⟨rfl, hb1⟩
          have HL1 := Lib.hid (HL.out.next hb1)
          have D1 := HD1.out _ HL1.out.below
          have D2 := HD2.out _ HL1.out.below
          clear hb1 HLK HL
          go_wp2_with fail
          refine (sput_any _ o q _ HL1.out.at (by omega)).mono ?_
          rintro e w2 ⟨v2, rfl, hL2⟩
          have HL2 := Lib.hid (hL2.base HL1.out.below)
          have D3 := HD1.out _ HL2.out.below
          have D4 := HD2.out _ HL2.out.below
          clear D1 D2 hL2 HL1
          go_wp2
          exact ⟨⟨k + 1, _, rfl, by omega, by go_num, by rw [← HS2.out]; exact HL2.out⟩, by simp [intOf]; omega⟩
        · by_cases h2 : q = id
          · subst h2
            have HS2 := Lib.hid (show putF o p = (ks.take (k + 1)).filterMap (nrF q) from HP.out p (by simp [nrF, h1]))
            clear HSU HP
            go_wp2_with fail
            refine (HLK.out _ HL.out.below).mono ?_
            rintro e w1 ⟨rfl, hb1⟩
            have HL1 := Lib.hid (HL.out.next hb1)
            have D1 := HD1.out _ HL1.out.below
            have D2 := HD2.out _ HL1.out.below
            clear hb1 HLK HL
            go_wp2_with fail
            refine (sput_any _ o p _ HL1.out.at (by omega)).mono ?_
            rintro e w2 ⟨v2, rfl, hL2⟩
            have HL2 := Lib.hid (hL2.base HL1.out.below)
            clear D1 D2 hL2 HL1
            go_wp2
            exact ⟨⟨k + 1, _, rfl, by omega, by go_num, by rw [← HS2.out]; exact HL2.out⟩, by simp [intOf]; omega⟩
          · have HS2 := Lib.hid (show (ks.take (k + 1)).filterMap (nrF id) = o by rw [HSU.out]; simp [nrF, h1, h2])
            clear HSU HP
            go_wp2_with fail
            refine (HLK.out _ HL.out.below).mono ?_
            rintro e w1 ⟨rfl, hb1⟩
            have HL1 := Lib.hid (HL.out.next hb1)
            have D1 := HD1.out _ HL1.out.below
            have D2 := HD2.out _ HL1.out.below
            clear hb1 HLK HL
            go_wp2
            exact ⟨⟨k + 1, _, rfl, by omega, by go_num, by rw [HS2.out]; exact HL1.out⟩, by simp [intOf]; omega⟩
      · obtain rfl : k = ks.length := by omega
        rw [List.take_length] at hL
        clear hcells
        go_wp2
        go_ret
        exact ⟨_, rfl, hL⟩
end Go.Proofs.Ytpfnpinoamjcjaa
namespace Go.Proofs.Ytpfnpinoamjcjaa
open Go.ChangeShapes Go.WideShapes Go.ChangeAt Go.RowKit Go.BigFrame
set_option linter.unusedVariables false

theorem addr_plusK (g off j : Nat) : (⟨g, off, none⟩ : Addr).add j = ⟨g, off + j, none⟩ := by
  unfold Addr.add
  split
  · rename_i h; simp [h]
  · rfl
theorem kyCells_one (ks : List K2) : ∀ u ∈ keyCells ks, u.oneCell' = true := by
  intro u hu
  simp only [keyCells, List.mem_flatMap, List.mem_cons, List.not_mem_nil, or_false] at hu
  obtain ⟨k, _, rfl | rfl⟩ := hu <;> rfl
theorem kyCells_at {w : World} {g off : Nat} {ks : List K2} (h : ∀ i, i < ks.length → w.cell? ⟨g, off + i * 2, none⟩ = some (.int .i64 (ks.getD i (0, 0)).1) ∧ w.cell? ⟨g, off + i * 2 + 1, none⟩ = some (.int .i64 (ks.getD i (0, 0)).2)) :
    ∀ j u, (keyCells ks)[j]? = some u → w.cell? ((⟨g, off, none⟩ : Addr).add j) = some u := by
  intro j u hu
  have hj : j < ks.length * 2 := by rw [← keyCells_len]; exact (List.getElem?_eq_some_iff.1 hu).1
  have hc := keyCells_get ks (j / 2) (by omega)
  have hw := h (j / 2) (by omega)
  rw [addr_plusK]
  rcases (by omega : j = j / 2 * 2 ∨ j = j / 2 * 2 + 1) with e | e
  · rw [← e] at hc
    rw [show off + j / 2 * 2 = off + j by omega] at hw
    rw [hc.1] at hu; cases hu
    exact hw.1
  · rw [← e] at hc
    rw [show off + j / 2 * 2 + 1 = off + j by omega] at hw
    rw [hc.2] at hu; cases hu
    exact hw.2
end Go.Proofs.Ytpfnpinoamjcjaa
namespace Go.Proofs.Ytpfnpinoamjcjaa
open Go.ChangeShapes Go.WideShapes Go.ChangeAt Go.RowKit Go.BigFrame
set_option linter.unusedVariables false
set_option linter.unusedSimpArgs false

theorem ln_append_none {w : World} {base n : Nat} {v : Value} {xs : List Value} (h : w.ownsRow base 49 2 v n xs) (ar : Option Addr) (cr : Nat) (ty : TypeId) :
    (Builtin.append_ #[24, 24] ty #[v, .slice ar 0 cr]).run Try.prog w = .ok v w := by
  obtain ⟨i0, hi, hz0, hz1, hz2⟩ := info_parts infoLn
  have u := Try.underlying24
  rcases h.2 with ⟨rfl, h0⟩ | ⟨g, cap, cur, rfl, _, _, hn, _⟩
  · cases ar <;> simp [Builtin.append_, run_underlying u, sizeOf, typeInfo, hi, storeCells, go_sem]
  · cases ar <;> simp [Builtin.append_, run_underlying u, sizeOf, typeInfo, hi, storeCells, hn, go_sem]
theorem run_append_ln {w : World} {base n : Nat} {v : Value} {xs : List Value} (hown : w.ownsRow base 49 2 v n xs) (u : Value) (ks : List K2) (hu : keysAt w u ks) (ty : TypeId) (hn : n + ks.length ≤ 4000000) (hbase : base ≤ w.heap.size) :
    ∃ v' w', (Builtin.append_ #[24, 24] ty #[v, u]).run Try.prog w = .ok v' w' ∧ w'.ownsRow base 49 2 v' (n + ks.length) (xs ++ keyCells ks) ∧ w.grownBy w' v.ownBlock ∧ (v'.ownBlock = v.ownBlock ∨ v'.ownBlock = some w.heap.size) := by
  obtain ⟨i0, hi, hz0, hz1, hz2⟩ := info_parts infoLn
  obtain ⟨a, cap, rfl, hcap, hcells⟩ := hu
  by_cases h0 : ks.length = 0
  · obtain rfl : ks = [] := List.length_eq_zero_iff.1 h0
    exact ⟨v, w, ln_append_none hown a cap ty, by simpa [keyCells] using hown, World.grownBy.refl _ _, .inl rfl⟩
  · obtain ⟨g, off, rfl, hg, hcs⟩ := hcells.resolve_left h0
    obtain ⟨v', w', hr, h2, h3, h4, h5⟩ := run_append_own_at (P := Try.prog) w base 24 ty 49 i0 (.agg #[.int .i64 0, .int .i64 0]) 2 16 Try.underlying24 hi hz0 hz1 hz2 rfl (by decide) v n xs hown ⟨g, off, none⟩ ks.length cap (keyCells ks) (keyCells_len ks) (kyCells_at hcs) (kyCells_one ks) (by unfold maxLen; omega) (by omega) hbase
    exact ⟨v', w', hr, h2, h3, h5⟩
theorem wpList_append_ln {ops : Array Oper} {rest : List Oper} {o : Oper} {a : Act} {w : World} {Q : Exit → Act → World → Prop} (hgd : o.guard = none) (s x : Operand)
    (ho : o.op = .call { callee := .builtin .append, args := #[s, x], argTypes := #[24, 24] })
    {base n : Nat} {v : Value} {xs : List Value} (hown : w.ownsRow base 49 2 v n xs) (u : Value) (ks : List K2) (hu : keysAt w u ks) (hs : a.eval s = v) (hx : a.eval x = u) (hn : n + ks.length ≤ 4000000) (hbase : base ≤ w.heap.size)
    (h : ∀ v' w', w'.ownsRow base 49 2 v' (n + ks.length) (xs ++ keyCells ks) → w.grownBy w' v.ownBlock → (v'.ownBlock = v.ownBlock ∨ v'.ownBlock = some w.heap.size) → wpList Try.prog ops Q rest (a.put o.dst v') w') : wpList Try.prog ops Q (o :: rest) a w := by
  refine wpList_plain hgd fun K hK => ?_
  obtain ⟨v', w', hr, h2, h3, h5⟩ := run_append_ln hown u ks hu o.type hn hbase
  unfold Oper.wp execOp
  simp only [ho, resolve, invoke, builtin, Sem.run_bind, Sem.run_pure, Result.andThen_ok, List.map_toArray, List.map_cons, List.map_nil, hs, hx, hr]
  exact hK _ _ (h v' w' h2 h3 h5)
theorem wp_append_ln {o : Oper} {a : Act} {w : World} {K : Act → World → Prop} {Q : Exit → Act → World → Prop} (s x : Operand)
    (ho : o.op = .call { callee := .builtin .append, args := #[s, x], argTypes := #[24, 24] })
    {base n : Nat} {v : Value} {xs : List Value} (hown : w.ownsRow base 49 2 v n xs) (u : Value) (ks : List K2) (hu : keysAt w u ks) (hs : a.eval s = v) (hx : a.eval x = u) (hn : n + ks.length ≤ 4000000) (hbase : base ≤ w.heap.size)
    (h : ∀ v' w', w'.ownsRow base 49 2 v' (n + ks.length) (xs ++ keyCells ks) → w.grownBy w' v.ownBlock → (v'.ownBlock = v.ownBlock ∨ v'.ownBlock = some w.heap.size) → K (a.put o.dst v') w') : o.wp Try.prog a w K Q := by
  obtain ⟨v', w', hr, h2, h3, h5⟩ := run_append_ln hown u ks hu o.type hn hbase
  unfold Oper.wp execOp
  simp only [ho, resolve, invoke, builtin, Sem.run_bind, Sem.run_pure, Result.andThen_ok, List.map_toArray, List.map_cons, List.map_nil, hs, hx, hr]
  exact h v' w' h2 h3 h5
theorem keysAt_nil (w : World) (a : Option Addr) (c : Nat) : keysAt w (.slice a 0 c) [] := ⟨a, c, rfl, by simp, .inl rfl⟩
theorem keysAt_part {w : World} {g off off' cap n m i : Nat} {ks : List K2} (h : ∀ j, j < ks.length → w.cell? ⟨g, off + j * 2, none⟩ = some (.int .i64 (ks.getD j (0, 0)).1) ∧ w.cell? ⟨g, off + j * 2 + 1, none⟩ = some (.int .i64 (ks.getD j (0, 0)).2)) (hg : g < w.heap.size) (ho : off' = off + i * 2) (hm : m = n) (hi : i + n ≤ ks.length) (hc : n ≤ cap) :
    keysAt w (.slice (some ⟨g, off', none⟩) m cap) ((ks.drop i).take n) := by
  subst ho hm
  have e : ((ks.drop i).take m).length = m := by simp; omega
  refine ⟨_, cap, by rw [e], by rw [e]; exact hc, .inr ⟨g, _, rfl, hg, fun j hj => ?_⟩⟩
  rw [e] at hj
  have := h (i + j) (by omega)
  rw [show off + (i + j) * 2 = off + i * 2 + j * 2 by omega] at this
  have e2 : ((ks.drop i).take m).getD j (0, 0) = ks.getD (i + j) (0, 0) := by
    simp [List.getD, hj]
  rw [e2]
  exact this
theorem slice_lo_ln {v : Value} {ks : List K2} {w : World} (h : keysAt w v ks) (i : Nat) (hi : i ≤ ks.length) (h63 : ks.length ≤ 9000000) : ∃ a c, (∀ w' : World, (Instr.slice 24 v (some (.int .i64 i)) none none).run Try.prog w' = .ok (.slice a (ks.length - i) c) w') ∧ keysAt w (.slice a (ks.length - i) c) (ks.drop i) := by
  have u := Try.underlying24
  obtain ⟨i0, hin, hz0, hz1, hz2⟩ := info_parts infoLn
  obtain ⟨a, c, rfl, hcap, hcells⟩ := h
  have h2 : (i : Int) ≤ (ks.length : Int) := by omega
  have h3 : (ks.length : Int) ≤ (c : Int) := by omega
  have h4 : (0 : Int) ≤ (i : Int) := by omega
  rcases Nat.eq_zero_or_pos ks.length with h0 | h0
  · obtain rfl : ks = [] := List.length_eq_zero_iff.1 h0
    obtain rfl : i = 0 := by simpa using hi
    simp only [List.length_nil, List.drop_nil, Nat.zero_sub]
    cases a with
    | none => exact ⟨none, c, fun w => by go_simp, keysAt_nil _ _ _⟩
    | some ad =>
      by_cases h : c = 0
      · subst h
        exact ⟨some ad, 0, fun w => by go_simp, keysAt_nil _ _ _⟩
      · have h2 : (0 : Int) ≤ (c : Int) := by omega
        exact ⟨some (ad.add 0), c, fun w => by go_simp, keysAt_nil _ _ _⟩
  · obtain ⟨g, off, rfl, hg, hcs⟩ := hcells.resolve_left (by omega)
    by_cases h : c - i = 0
    · have e : ks.length - i = 0 := by omega
      have e2 : ks.drop i = [] := List.drop_eq_nil_of_le (by omega)
      refine ⟨some ⟨g, off, none⟩, c - i, fun w => ?_, ?_⟩
      · go_simp
        omega
      · rw [e, e2]; exact keysAt_nil _ _ _
    · refine ⟨some ⟨g, off + i * 2, none⟩, c - i, fun w => ?_, ?_⟩
      · go_simp
        intro hh; omega
      · have := keysAt_part (i := i) (n := ks.length - i) (m := ks.length - i) (cap := c - i) hcs hg rfl rfl (by omega) (by omega)
        rwa [List.take_of_length_le (by simp)] at this
theorem slice_hi_ln {v : Value} {ks : List K2} {w : World} (h : keysAt w v ks) (i : Nat) (hi : i ≤ ks.length) (h63 : ks.length ≤ 9000000) : ∃ a c, (∀ w' : World, (Instr.slice 24 v none (some (.int .i64 i)) none).run Try.prog w' = .ok (.slice a i c) w') ∧ keysAt w (.slice a i c) (ks.take i) := by
  have u := Try.underlying24
  obtain ⟨i0, hin, hz0, hz1, hz2⟩ := info_parts infoLn
  obtain ⟨a, c, rfl, hcap, hcells⟩ := h
  have h2 : (i : Int) ≤ (ks.length : Int) := by omega
  have h3 : (ks.length : Int) ≤ (c : Int) := by omega
  have h4 : (0 : Int) ≤ (i : Int) := by omega
  have h5 : (i : Int) ≤ (c : Int) := by omega
  rcases Nat.eq_zero_or_pos ks.length with h0 | h0
  · obtain rfl : ks = [] := List.length_eq_zero_iff.1 h0
    obtain rfl : i = 0 := by simpa using hi
    simp only [List.length_nil, List.take_nil]
    cases a with
    | none => exact ⟨none, c, fun w => by go_simp, keysAt_nil _ _ _⟩
    | some ad =>
      by_cases h : c = 0
      · subst h
        exact ⟨some ad, 0, fun w => by go_simp, keysAt_nil _ _ _⟩
      · have h2 : (0 : Int) ≤ (c : Int) := by omega
        exact ⟨some (ad.add 0), c, fun w => by go_simp, keysAt_nil _ _ _⟩
  · obtain ⟨g, off, rfl, hg, hcs⟩ := hcells.resolve_left (by omega)
    have hc0 : ¬ c = 0 := by omega
    refine ⟨some ⟨g, off, none⟩, c, fun w => ?_, ?_⟩
    · go_simp
    · have := keysAt_part (i := 0) (n := i) (m := i) (cap := c) (off' := off) hcs hg (by omega) rfl (by omega) (by omega)
      rwa [List.drop_zero] at this
section
variable {P : Program} {C : World → Prop} {a : Act} {o : Oper} {K : Act → Prop}
theorem q_slice_lo (ty et : TypeId) (hu : P.underlying ty = some (.slice et)) (x y : Operand) (u v z : Value) (ho : o.op = .slice ty x (some y) none none) (hx : a.eval x = u) (hy : a.eval y = v) (hs : ∀ w, (Instr.slice ty u (some v) none none).run P w = .ok z w) (hk : K (a.put o.dst z)) : o.quiet P a C K := by
  refine ⟨z, fun w hw => ?_, hk⟩
  unfold Oper.quietAt execOp
  simp only [ho, hx, hy, Option.map_some, Option.map_none, Instr.sliceAt, Sem.run_bind, run_underlying hu, hs w, Result.andThen_ok, Sem.run_pure]
  exact ⟨rfl, rfl⟩
theorem q_slice_hi (ty et : TypeId) (hu : P.underlying ty = some (.slice et)) (x y : Operand) (u v z : Value) (ho : o.op = .slice ty x none (some y) none) (hx : a.eval x = u) (hy : a.eval y = v) (hs : ∀ w, (Instr.slice ty u none (some v) none).run P w = .ok z w) (hk : K (a.put o.dst z)) : o.quiet P a C K := by
  refine ⟨z, fun w hw => ?_, hk⟩
  unfold Oper.quietAt execOp
  simp only [ho, hx, hy, Option.map_some, Option.map_none, Instr.sliceAt, Sem.run_bind, run_underlying hu, hs w, Result.andThen_ok, Sem.run_pure]
  exact ⟨rfl, rfl⟩
end
end Go.Proofs.Ytpfnpinoamjcjaa
namespace Go.Proofs.Ytpfnpinoamjcjaa
open Go.ChangeShapes Go.WideShapes Go.ChangeAt Go.RowKit Go.BigFrame
set_option linter.unusedVariables false
set_option linter.unusedSimpArgs false

/-- links of one's own, while they are put together -/
def LlD (w0 wr : World) (v : Value) (ks : List K2) : Prop := wr.ownsRow w0.heap.size 49 2 v ks.length (keyCells ks) ∧ Below w0.heap.size w0 wr
theorem LlD.own {w0 wr : World} {v : Value} {ks : List K2} (h : LlD w0 wr v ks) : wr.ownsRow w0.heap.size 49 2 v ks.length (keyCells ks) := h.1
theorem LlD.below {w0 wr : World} {v : Value} {ks : List K2} (h : LlD w0 wr v ks) : Below w0.heap.size w0 wr := h.2
theorem LlD.at {w0 wr : World} {v : Value} {ks : List K2} (h : LlD w0 wr v ks) : keysAt wr v ks := linksAt_own h.1
theorem LlD.next {w0 wr w1 : World} {v : Value} {ks : List K2} (h : LlD w0 wr v ks) (hb : Below wr.heap.size wr w1) : LlD w0 w1 v ks := ⟨own_below h.1 hb, h.2.trans (hb.mono h.2.size)⟩
theorem LlD.alloc {w0 wr : World} {v : Value} {ks : List K2} (h : LlD w0 wr v ks) (o : Obj) : LlD w0 (wr.alloc o) v ks := h.next ((Below.refl _ _).alloc (Nat.le_refl _) _)
theorem LlD.push {w0 wr w1 : World} {v v' : Value} {ks ls : List K2} (h : LlD w0 wr v ks) (ho : w1.ownsRow w0.heap.size 49 2 v' ls.length (keyCells ls)) (hg : wr.grownBy w1 v.ownBlock) : LlD w0 w1 v' ls :=
  ⟨ho, h.2.grown hg h.2.size (fun g hg => (h.1.lt g hg).1)⟩
theorem LlD.nil {w0 w : World} (hb : Below w0.heap.size w0 w) : LlD w0 w (.slice none 0 0) [] := ⟨World.ownsRow_nil _ _ _ _, hb⟩
theorem LlD.litAt {w0 w : World} (hb : Below w0.heap.size w0 w) : LlD w0 (w.alloc (.cells #[] 49)) (.slice (some ⟨w.heap.size, 0, none⟩) 0 0) [] :=
  ⟨World.ownsRow_lit (base := w0.heap.size) (e := 49) (size := 2) w #[] 0 hb.size (by unfold maxLen; omega) rfl, hb.alloc hb.size _⟩
theorem LlD.base {w0 w00 wr : World} {v : Value} {ks : List K2} (h : LlD w0 wr v ks) (hb : Below w00.heap.size w00 w0) : LlD w00 wr v ks := ⟨own_base h.1 hb.size, hb.trans (h.2.mono hb.size)⟩
theorem LlD.shape {w0 wr : World} {v : Value} {ks : List K2} (h : LlD w0 wr v ks) : ∃ a c, v = .slice a ks.length c := by
  rcases ownsRow_shape0 h.1 with ⟨rfl, h0⟩ | ⟨g, c, rfl⟩
  · exact ⟨none, 0, by rw [h0]⟩
  · exact ⟨_, c, rfl⟩
theorem keysAt_row {w : World} {g : Nat} {p q : Int} (h : w.heap[g]? = some (.cells #[.int .i64 p, .int .i64 q] 49 (0, 0))) : keysAt w (.slice (some ⟨g, 0, none⟩) 1 1) [(p, q)] :=
  ⟨_, 1, rfl, by simp, .inr ⟨g, 0, rfl, (Array.getElem?_eq_some_iff.1 h).1, fun i hi => by
    obtain rfl : i = 0 := by simpa using hi
    rw [cell_of_row _ _ _ _ _ _ h, cell_of_row _ _ _ _ _ _ h]
    exact ⟨rfl, rfl⟩⟩⟩
theorem keyCells_appL (a b : List K2) : keyCells (a ++ b) = keyCells a ++ keyCells b := by simp [keyCells]
theorem wp_append_lnD {o : Oper} {a : Act} {w : World} {K : Act → World → Prop} {Q : Exit → Act → World → Prop} (s x : Operand)
    (ho : o.op = .call { callee := .builtin .append, args := #[s, x], argTypes := #[24, 24] })
    {w0 : World} {v : Value} {L : List K2} (hV : LlD w0 w v L) (u : Value) (ks : List K2) (hu : keysAt w u ks) (hs : a.eval s = v) (hx : a.eval x = u) (hn : L.length + ks.length ≤ 4000000)
    (h : ∀ v' w', LlD w0 w' v' (L ++ ks) → w.grownBy w' v.ownBlock → (v'.ownBlock = v.ownBlock ∨ v'.ownBlock = some w.heap.size) → K (a.put o.dst v') w') : o.wp Try.prog a w K Q :=
  wp_append_ln s x ho hV.own u ks hu hs hx hn hV.below.size fun v' w' h1 h2 h3 => h v' w' (hV.push (by rw [List.length_append, keyCells_appL]; exact h1) h2) h2 h3
theorem wpList_append_lnD {ops : Array Oper} {rest : List Oper} {o : Oper} {a : Act} {w : World} {Q : Exit → Act → World → Prop} (hgd : o.guard = none) (s x : Operand)
    (ho : o.op = .call { callee := .builtin .append, args := #[s, x], argTypes := #[24, 24] })
    {w0 : World} {v : Value} {L : List K2} (hV : LlD w0 w v L) (u : Value) (ks : List K2) (hu : keysAt w u ks) (hs : a.eval s = v) (hx : a.eval x = u) (hn : L.length + ks.length ≤ 4000000)
    (h : ∀ v' w', LlD w0 w' v' (L ++ ks) → w.grownBy w' v.ownBlock → (v'.ownBlock = v.ownBlock ∨ v'.ownBlock = some w.heap.size) → wpList Try.prog ops Q rest (a.put o.dst v') w') : wpList Try.prog ops Q (o :: rest) a w :=
  wpList_append_ln hgd s x ho hV.own u ks hu hs hx hn hV.below.size fun v' w' h1 h2 h3 => h v' w' (hV.push (by rw [List.length_append, keyCells_appL]; exact h1) h2) h2 h3
set_option maxRecDepth 100000 in
set_option maxHeartbeats 2000000 in
theorem slinkat_any (v : Value) (ks : List K2) (x y : Int) (w : World) (h : keysAt w v ks) (hs : ks.length ≤ 2000000) :
    Calls Try.prog 20 #[v, .int .i64 x, .int .i64 y] w fun e w' => e = .returned (.int .i64 (atL ks x y)) ∧ Below w.heap.size w w' := by
  obtain ⟨a, cap, rfl, hcap, hcells⟩ := h
  have HO := Lib.hid (fun w => slnof_any x y w)
  have HAT := Lib.hid (show ∀ k : Nat, k < ks.length → (ks.getD k (0, 0) == lnOf x y) = true → (∀ j, j < k → (ks.getD j (0, 0) == lnOf x y) = false) → atL ks x y = k from fun k hk h1 h2 => firstP_at (p := fun k => k == lnOf x y) hk h1 h2)
  have HNO := Lib.hid (show (∀ j, j < ks.length → (ks.getD j (0, 0) == lnOf x y) = false) → atL ks x y = -1 from fun h => firstP_none (p := fun k => k == lnOf x y) h)
  generalize lnOf x y = l at *
  go_enter Try.func20, Try.ntmps20
  go_wp2
  go_loopw [7] (fun i wr => ∃ k : Nat, k ≤ ks.length ∧ i = .int .i64 k ∧ (∀ j, j < k → (ks.getD j (0, 0) == l) = false) ∧ Below w.heap.size w wr) (fun i _ => ks.length - (intOf i).toNat)
  case atStart => exact ⟨0, Nat.zero_le _, rfl, fun j hj => by omega, Below.refl _ _⟩
  case round =>
    obtain ⟨k, hk, rfl, hall, hb⟩ := hrel
    by_cases hlt : k < ks.length
    · obtain ⟨g, off, rfl, hg, hcs⟩ := hcells.resolve_left (by omega)
      have z0 : (0 : Int) ≤ (k : Int) := by omega
      have z1 : (k : Int) < (ks.length : Int) := by omega
      have c1 := hcs k hlt
      have L1 := fun w' hb => link_load c1 (w' := w') hg hb
      have HK := Lib.hid (HAT.out k hlt)
      have HN := Lib.hid (show (ks.getD k (0, 0) == l) = false → ∀ j, j < k + 1 → (ks.getD j (0, 0) == l) = false from fun h j hj => by
        rcases (by omega : j < k ∨ j = k) with h1 | rfl
        · exact hall j h1
        · exact h)
      have HALL := Lib.hid hall
      clear hcs hcells c1 HAT HNO hall
      generalize hkx : ks.getD k (0, 0) = kx at *
      cases he : (kx == l) with
      | true =>
        have HA := Lib.hid (HK.out he HALL.out)
        clear HK HN HALL
        go_wp2
        refine wp_region_below w (by kernel_rfl) (by kernel_rfl) hb ?_
        repeat (first
          | go_big_quiet_skip
          | (go_big_quiet_want
             first
               | (refine q_load 49 _ _ _ rfl rfl L1 ?_; simp only [Act.put, List.setIfInBounds_toArray, List.set_cons_zero, List.set_cons_succ]; go_big_quiet_on)
               | (refine q_bin _ 49 _ _ _ (kv kx) (kv l) _ rfl rfl rfl (fun w => link_guard _ _ _ kx l w) (fun w => link_eql kx l w) ?_; simp only [Act.put, List.setIfInBounds_toArray, List.set_cons_zero, List.set_cons_succ]; go_big_quiet_on)
               | (refine q_bin _ 49 _ _ _ (kv kx) (kv l) _ rfl rfl rfl (fun w => link_guard _ _ _ kx l w) (fun w => link_neq kx l w) ?_; simp only [Act.put, List.setIfInBounds_toArray, List.set_cons_zero, List.set_cons_succ]; go_big_quiet_on)
               | (go_big_quiet_op; go_big_quiet_on)
               | (go_big_quiet_op; refine ⟨_, fun _ _ => rfl, ?_⟩; go_big_quiet_on)
               | (go_big_quiet_op; apply Exists.intro; refine ⟨fun w' hw' => ?_, ?_⟩
                  · first
                    | (with_reducible refine (HO.out w').mono ?_
                       rintro e w2 ⟨rfl, hb2⟩
                       exact ⟨rfl, hw'.trans (hb2.mono hw'.size)⟩)
                  go_big_quiet_on)
               | (go_big_quiet_op; refine ⟨_, fun _ _ _ => rfl, ?_⟩; go_big_quiet_on)))
        refine wpQuiet_nil ?_
        intro w2 hb2
        rw [he]
        clear L1 HO hb
        go_wp2
        go_ret
        exact ⟨by rw [HA.out]; rfl, hb2⟩
      | false =>
        have HA := Lib.hid (HN.out he)
        clear HK HN HALL
        go_wp2
        refine wp_region_below w (by kernel_rfl) (by kernel_rfl) hb ?_
        repeat (first
          | go_big_quiet_skip
          | (go_big_quiet_want
             first
               | (refine q_load 49 _ _ _ rfl rfl L1 ?_; simp only [Act.put, List.setIfInBounds_toArray, List.set_cons_zero, List.set_cons_succ]; go_big_quiet_on)
               | (refine q_bin _ 49 _ _ _ (kv kx) (kv l) _ rfl rfl rfl (fun w => link_guard _ _ _ kx l w) (fun w => link_eql kx l w) ?_; simp only [Act.put, List.setIfInBounds_toArray, List.set_cons_zero, List.set_cons_succ]; go_big_quiet_on)
               | (refine q_bin _ 49 _ _ _ (kv kx) (kv l) _ rfl rfl rfl (fun w => link_guard _ _ _ kx l w) (fun w => link_neq kx l w) ?_; simp only [Act.put, List.setIfInBounds_toArray, List.set_cons_zero, List.set_cons_succ]; go_big_quiet_on)
               | (go_big_quiet_op; go_big_quiet_on)
               | (go_big_quiet_op; refine ⟨_, fun _ _ => rfl, ?_⟩; go_big_quiet_on)
               | (go_big_quiet_op; apply Exists.intro; refine ⟨fun w' hw' => ?_, ?_⟩
                  · first
                    | (with_reducible refine (HO.out w').mono ?_
                       rintro e w2 ⟨rfl, hb2⟩
                       exact ⟨rfl, hw'.trans (hb2.mono hw'.size)⟩)
                  go_big_quiet_on)
               | (go_big_quiet_op; refine ⟨_, fun _ _ _ => rfl, ?_⟩; go_big_quiet_on)))
        refine wpQuiet_nil ?_
        intro w2 hb2
        rw [he]
        clear L1 HO hb
        go_wp2
        exact ⟨⟨k + 1, by omega, by go_num, HA.out, hb2⟩, by simp [intOf]; omega⟩
    · obtain rfl : k = ks.length := by omega
      have HA := Lib.hid (HNO.out hall)
      clear HNO HAT hall hcells
      go_wp2
      go_ret
      exact ⟨by rw [HA.out]; rfl, hb⟩
end Go.Proofs.Ytpfnpinoamjcjaa
namespace Go.Proofs.Ytpfnpinoamjcjaa
open Go.ChangeShapes Go.WideShapes Go.ChangeAt Go.RowKit Go.BigFrame
set_option linter.unusedVariables false
set_option linter.unusedSimpArgs false

theorem take_to {ks : List K2} {l : K2} {k : Nat} (hk : k ≤ ks.length) (h1 : ∀ j, j < k → aheadB (ks.getD j (0, 0)) l = true) (h2 : k = ks.length ∨ aheadB (ks.getD k (0, 0)) l = false) : (ks.takeWhile fun x => aheadB x l).length = k := by
  have e : ks = ks.take k ++ ks.drop k := (List.take_append_drop k ks).symm
  have e2 : (ks.takeWhile fun x => aheadB x l) = ks.take k := by
    conv => lhs; rw [e]
    rw [List.takeWhile_append_of_pos]
    · cases hd : ks.drop k with
      | nil => simp
      | cons y r =>
        have hi : k < ks.length := by
          rcases Nat.lt_or_ge k ks.length with h | h
          · exact h
          · rw [List.drop_eq_nil_of_le h] at hd; cases hd
        have hy : y = ks[k] := by
          rw [List.drop_eq_getElem_cons hi] at hd
          exact (List.cons.inj hd).1.symm
        have h3 := h2.resolve_left (by omega)
        have h4 : ks.getD k (0, 0) = ks[k] := by simp [List.getD, hi]
        rw [h4, ← hy] at h3
        simp [h3]
    · intro x hx
      obtain ⟨j, hj, rfl⟩ := List.getElem_of_mem hx
      rw [List.length_take] at hj
      have h3 := h1 j (by omega)
      have h4 : ks.getD j (0, 0) = ks[j] := by simp [List.getD, show j < ks.length by omega]
      rw [h4] at h3
      rw [List.getElem_take]
      exact h3
  rw [e2, List.length_take]
  omega
set_option maxRecDepth 100000 in
set_option maxHeartbeats 4000000 in
theorem slinkup_any (v : Value) (ks : List K2) (x y : Int) (w : World) (h : keysAt w v ks) (hs : ks.length ≤ 1500000) :
    Calls Try.prog 17 #[v, .int .i64 x, .int .i64 y] w fun e w' => ∃ v', e = .returned v' ∧ LlD w w' v' (upM ks x y) := by
  have HLK := Lib.hid (fun wx (hb : Below w.heap.size w wx) => slinksok_any v ks wx (keysAt_below h hb) (by omega))
  have HAT := Lib.hid (fun wx (hb : Below w.heap.size w wx) => slinkat_any v ks x y wx (keysAt_below h hb) (by omega))
  have HK := Lib.hid (fun wx (hb : Below w.heap.size w wx) => keysAt_below h hb)
  have HUM := Lib.hid (show upM ks x y = if lnsB ks = true ∧ atL ks x y < 0 then (if lnsB (insK ks (lnOf x y) (ks.takeWhile fun k => aheadB k (lnOf x y)).length) = true then insK ks (lnOf x y) (ks.takeWhile fun k => aheadB k (lnOf x y)).length else ks) else ks from rfl)
  have HOF := Lib.hid (fun w => slnof_any x y w)
  generalize atL ks x y = z at *
  generalize upM ks x y = M at *
  have HLX := Lib.hid (fun vx wx (hx : keysAt wx vx (insK ks (lnOf x y) (ks.takeWhile fun k => aheadB k (lnOf x y)).length)) => slinksok_any vx _ wx hx (by rw [ins_len _ _ _ (List.takeWhile_prefix _).length_le]; omega))
  have hkv := h
  obtain ⟨a, cap, rfl, hcap, hcells⟩ := h
  have HV0 := Lib.hid (LlD.litAt (Below.refl w.heap.size w))
  have HKX := Lib.hid (HK.out _ HV0.out.below)
  clear hkv
  go_enter Try.func17, Try.ntmps17
  go_upto_region 2 with (at_builtin; refine wpList_append_lnD rfl (.tmp 11) (.tmp 12) rfl HV0.out _ ks HKX.out rfl rfl (by simp; omega) ?_; intro v7 w7 hV7 hg7 hv7; have HS7 := Lib.hid (show LlD w w7 v7 ks from hV7); clear hV7 hg7 hv7)
  clear HKX HV0
  cases hl : lnsB ks with
  | false =>
    have HM := Lib.hid (show M = ks by rw [HUM.out, hl]; simp)
    rw [hl] at HLK
    clear hl HUM HLX HAT
    go_wp2_with fail
    refine (HLK.out _ HS7.out.below).mono ?_
    rintro e w2 ⟨rfl, hb2⟩
    have HS2 := Lib.hid (HS7.out.next hb2)
    clear hb2 HLK HS7
    go_wp2
    go_ret
    exact ⟨_, rfl, by rw [HM.out]; exact HS2.out⟩
  | true =>
    rw [hl] at HLK
    by_cases hz : 0 ≤ z
    · have HM := Lib.hid (show M = ks by rw [HUM.out, if_neg (by omega)])
      clear hl HUM HLX
      go_wp2_with fail
      refine (HLK.out _ HS7.out.below).mono ?_
      rintro e w2 ⟨rfl, hb2⟩
      have HS2 := Lib.hid (HS7.out.next hb2)
      clear hb2 HLK HS7
      go_wp2_with fail
      refine (HAT.out _ HS2.out.below).mono ?_
      rintro e w3 ⟨rfl, hb3⟩
      have HS3 := Lib.hid (HS2.out.next hb3)
      clear hb3 HAT HS2
      go_wp2
      go_ret
      exact ⟨_, rfl, by rw [HM.out]; exact HS3.out⟩
    · replace HUM := Lib.hid (show M = if lnsB (insK ks (lnOf x y) (ks.takeWhile fun k => aheadB k (lnOf x y)).length) = true then insK ks (lnOf x y) (ks.takeWhile fun k => aheadB k (lnOf x y)).length else ks by rw [HUM.out, if_pos ⟨hl, by omega⟩])
      clear hl
      go_wp2_with fail
      refine (HLK.out _ HS7.out.below).mono ?_
      rintro e w2 ⟨rfl, hb2⟩
      have HS2 := Lib.hid (HS7.out.next hb2)
      clear hb2 HLK HS7
      go_wp2_with fail
      refine (HAT.out _ HS2.out.below).mono ?_
      rintro e w3 ⟨rfl, hb3⟩
      have HS3 := Lib.hid (HS2.out.next hb3)
      clear hb3 HAT HS2
      go_wp2_with fail
      refine (HOF.out _).mono ?_
      rintro e w4 ⟨rfl, hb4⟩
      have HS4 := Lib.hid (HS3.out.next hb4)
      clear hb4 HOF HS3
      generalize lnOf x y = l at *
      obtain ⟨p, q⟩ := l
      unfold kv
      dsimp only at *
      have HS5 := Lib.hid (HS4.out.alloc (.cells #[.int .i64 p, .int .i64 q] 49))
      have HR5 := Lib.hid (heap_alloc_new w4 (.cells #[.int .i64 p, .int .i64 q] 49))
      obtain ⟨a7, c7, rfl⟩ := HS4.out.shape
      go_upto_region 6 with (fail)
      generalize w4.alloc (.cells #[.int .i64 p, .int .i64 q] 49) = w5 at *
      generalize w4.heap.size = B8 at *
      have hr5 := (Array.getElem?_eq_some_iff.1 HR5.out).1
      have LK5 : ∀ wx, Below w5.heap.size w5 wx → (loadVar 49 ⟨B8, 0, none⟩).run Try.prog wx = .ok (kv (p, q)) wx := fun wx h => link_load (k := (p, q)) (o := 0) ⟨by rw [cell_of_row _ _ _ _ _ _ HR5.out]; rfl, by rw [cell_of_row _ _ _ _ _ _ HR5.out]; rfl⟩ hr5 h
      have HA13 := Lib.hid (fun k w => sahead13_any (ks.getD k (0, 0)) (p, q) w)
      clear HS4
      go_wp2
      go_loopw [9] (fun i wr => ∃ k : Nat, k ≤ ks.length ∧ i = .int .i64 k ∧ (∀ j, j < k → aheadB (ks.getD j (0, 0)) (p, q) = true) ∧ Below w5.heap.size w5 wr) (fun i _ => ks.length - (intOf i).toNat)
      case atStart => exact ⟨0, Nat.zero_le _, rfl, fun j hj => by omega, Below.refl _ _⟩
      case round =>
        obtain ⟨k, hk, rfl, hall, hb⟩ := hrel
        have HALL := Lib.hid hall
        clear hall
        by_cases hlt : k < ks.length
        · obtain ⟨g, off, rfl, hg, hcs⟩ := hcells.resolve_left (by omega)
          have z0 : (0 : Int) ≤ (k : Int) := by omega
          have z1 : (k : Int) < (ks.length : Int) := by omega
          have dk : decide ((k : Int) < (ks.length : Int)) = true := decide_eq_true z1
          have dk2 : decide (k < ks.length) = true := decide_eq_true hlt
          have c1 := hcs k hlt
          have LE : ∀ wx, Below w5.heap.size w5 wx → (loadVar 49 ⟨g, off + k * 2, none⟩).run Try.prog wx = .ok (kv (ks.getD k (0, 0))) wx := fun wx h => link_load c1 hg (HS5.out.below.trans (h.mono HS5.out.below.size))
          have HA := Lib.hid (HA13.out k)
          clear hcs hcells c1 HA13
          cases hah : aheadB (ks.getD k (0, 0)) (p, q) with
          | true =>
            have HN := Lib.hid (show ∀ j, j < k + 1 → aheadB (ks.getD j (0, 0)) (p, q) = true from fun j hj => by
              rcases (by omega : j < k ∨ j = k) with h1 | rfl
              · exact HALL.out j h1
              · exact hah)
            rw [hah] at HA
            clear hah HALL
            generalize ks.getD k (0, 0) = kx at *
            go_wp2
            refine wp_region_below w5 (by kernel_rfl) (by kernel_rfl) hb ?_
            repeat (first
              | go_big_quiet_skip
              | (go_big_quiet_want
                 first
                   | (refine q_load 49 _ _ _ rfl rfl LE ?_; simp only [Act.put, List.setIfInBounds_toArray, List.set_cons_zero, List.set_cons_succ]; go_big_quiet_on)
                   | (refine q_load 49 _ _ _ rfl rfl LK5 ?_; simp only [Act.put, List.setIfInBounds_toArray, List.set_cons_zero, List.set_cons_succ]; go_big_quiet_on)
                   | (go_big_quiet_op; go_big_quiet_on)
                   | (go_big_quiet_op; refine ⟨_, fun _ _ => rfl, ?_⟩; go_big_quiet_on)
                   | (go_big_quiet_op; apply Exists.intro; refine ⟨fun w' hw' => ?_, ?_⟩
                      · first
                        | (with_reducible refine (HA.out w').mono ?_
                           rintro e w2 ⟨rfl, hb2⟩
                           exact ⟨rfl, hw'.trans (hb2.mono hw'.size)⟩)
                      go_big_quiet_on)
                   | (go_big_quiet_op; refine ⟨_, fun _ _ _ => rfl, ?_⟩; go_big_quiet_on)))
            refine wpQuiet_nil ?_
            intro w6 hb6
            clear LE LK5 HA hb
            go_wp2
            exact ⟨⟨k + 1, by omega, by go_num, HN.out, hb6⟩, by simp [intOf]; omega⟩
          | false =>
            have HT := Lib.hid (take_to hk HALL.out (.inr hah))
            rw [hah] at HA
            clear hah HALL
            generalize ks.getD k (0, 0) = kx at *
            have HBr := Lib.hid hb
            clear hb
            go_upto_region 6 with (fail)
            refine wp_region_below w5 (by kernel_rfl) (by kernel_rfl) HBr.out ?_
            repeat (first
              | go_big_quiet_skip
              | (go_big_quiet_want
                 first
                   | (refine q_load 49 _ _ _ rfl rfl LE ?_; simp only [Act.put, List.setIfInBounds_toArray, List.set_cons_zero, List.set_cons_succ]; go_big_quiet_on)
                   | (refine q_load 49 _ _ _ rfl rfl LK5 ?_; simp only [Act.put, List.setIfInBounds_toArray, List.set_cons_zero, List.set_cons_succ]; go_big_quiet_on)
                   | (go_big_quiet_op; go_big_quiet_on)
                   | (go_big_quiet_op; refine ⟨_, fun _ _ => rfl, ?_⟩; go_big_quiet_on)
                   | (go_big_quiet_op; apply Exists.intro; refine ⟨fun w' hw' => ?_, ?_⟩
                      · first
                        | (with_reducible refine (HA.out w').mono ?_
                           rintro e w2 ⟨rfl, hb2⟩
                           exact ⟨rfl, hw'.trans (hb2.mono hw'.size)⟩)
                      go_big_quiet_on)
                   | (go_big_quiet_op; refine ⟨_, fun _ _ _ => rfl, ?_⟩; go_big_quiet_on)))
            refine wpQuiet_nil ?_
            intro w6 hb6
            clear LE HA HBr
            rw [HT.out] at HUM HLX
            have HIN := Lib.hid (show [] ++ ks.take k ++ [(p, q)] ++ ks.drop k = insK ks (p, q) k by simp [insK])
            have HW := Lib.hid (HS5.out.below.trans (hb6.mono HS5.out.below.size))
            have HS8 := Lib.hid (HS5.out.next hb6)
            have LK : ∀ wx, Below w6.heap.size w6 wx → (loadVar 49 ⟨B8, 0, none⟩).run Try.prog wx = .ok (kv (p, q)) wx := fun wx h => LK5 wx (hb6.trans (h.mono hb6.size))
            have hkw := HK.out _ HW.out
            obtain ⟨a1, c1, hs1, hk1⟩ := slice_hi_ln hkw k hk (by omega)
            obtain ⟨a2, c2, hs2, hk2⟩ := slice_lo_ln hkw k hk (by omega)
            have HK1 := Lib.hid (fun wx (hb : Below w6.heap.size w6 wx) => keysAt_below hk1 hb)
            have HK2 := Lib.hid (fun wx (hb : Below w6.heap.size w6 wx) => keysAt_below hk2 hb)
            have HS1 := hs1
            have HS2 := hs2
            have HB := Lib.hid (Below.refl w6.heap.size w6)
            unfold kv at LK
            dsimp only at LK
            clear hkw hk1 hk2 hs1 hs2 HK LK5 hb6 HS5 HR5 HT
            go_upto_region 8 with (fail)
            refine wp_region_G (fun wx => Below w6.heap.size w6 wx) (by kernel_rfl) ?_
            replace HB := Lib.hid (HB.out.drew)
            generalize (w6).drew = wD0 at *
            refine wpG_seg [false, true, true, true, false, true, false, false, true, true, true] [0, 6] 5 (by kernel_rfl) (by intro c a d v w h; cases d <;> exact h) (by kernel_rfl) HB.out ?_
            try simp only [maskRows]
            repeat (first
              | go_big_quiet_skip
              | (go_big_quiet_want
                 first
                   | (go_big_quiet_op; go_big_quiet_on)
                   | (refine q_load 49 _ _ _ rfl rfl LK ?_; simp only [Act.put, List.setIfInBounds_toArray, List.set_cons_zero, List.set_cons_succ]; go_big_quiet_on)
                   | (refine q_slice_hi 24 49 Try.underlying24 _ _ _ _ _ rfl rfl rfl HS1 ?_; simp only [Act.put, List.setIfInBounds_toArray, List.set_cons_zero, List.set_cons_succ]; go_big_quiet_on)
                   | (refine q_slice_lo 24 49 Try.underlying24 _ _ _ _ _ rfl rfl rfl HS2 ?_; simp only [Act.put, List.setIfInBounds_toArray, List.set_cons_zero, List.set_cons_succ]; go_big_quiet_on)
                   | (go_big_quiet_op; refine ⟨_, fun _ _ => rfl, ?_⟩; go_big_quiet_on)
                   | (go_big_quiet_op; refine ⟨_, fun _ _ _ => rfl, ?_⟩; go_big_quiet_on)
                   | (go_big_quiet_op; refine ⟨_, fun _ _ _ _ => rfl, ?_⟩; go_big_quiet_on)))
            refine wpQuiet_nil ?_
            refine List.forall_mem_cons.2 ⟨?_, List.forall_mem_singleton.2 ?_⟩
            · refine segt_run rfl (by rfl) (fun K hK => ?_)
              go_simp
              have HV := Lib.hid (LlD.litAt (w := wD0) HB.out)
              replace HB := Lib.hid HV.out.below
              generalize World.alloc wD0 (.cells #[] 49) = w1_ at *
              generalize wD0.heap.size = B0 at *
              refine hK _ _ ⟨_, fun _ h => h, HB.out, ?_⟩
              clear hK K
              try simp only [Act.put, List.setIfInBounds_toArray, List.set_cons_zero, List.set_cons_succ]
              refine wpG_seg [] [4, 6] 4 (by kernel_rfl) (by intro c a d v w h; cases d <;> exact h) (by kernel_rfl) HB.out ?_
              try simp only [maskRows]
              refine wpQuiet_nil ?_
              refine List.forall_mem_cons.2 ⟨?_, List.forall_mem_singleton.2 ?_⟩
              · refine segt_run rfl (by rfl) (fun K hK => ?_)
                refine wp_append_lnD _ _ rfl HV.out _ (ks.take k) (HK1.out _ HB.out) rfl rfl (by simp; omega) ?_
                intro v2_ w2_ hV hg hv
                clear HV
                have HV := Lib.hid hV
                replace HB := Lib.hid HV.out.below
                clear hV hg hv
                go_simp
                refine hK _ _ ⟨_, fun _ h => h, HB.out, ?_⟩
                clear hK K
                try simp only [Act.put, List.setIfInBounds_toArray, List.set_cons_zero, List.set_cons_succ]
                refine wpG_seg [] [6] 3 (by kernel_rfl) (by intro c a d v w h; cases d <;> exact h) (by kernel_rfl) HB.out ?_
                try simp only [maskRows]
                refine wpQuiet_nil ?_
                refine List.forall_mem_singleton.2 ?_
                refine segt_run rfl (by rfl) (fun K hK => ?_)
                go_simp
                have HNE := Lib.hid (show ∀ b, v2_.ownBlock = some b → b ≠ w2_.heap.size from fun b e => Nat.ne_of_lt (HV.out.own.lt b e).2)
                replace HV := Lib.hid (HV.out.alloc (.cells #[.int .i64 p, .int .i64 q] 49))
                have HR := Lib.hid (heap_alloc_new w2_ (.cells #[.int .i64 p, .int .i64 q] 49))
                replace HB := Lib.hid (HB.out.alloc HB.out.size (.cells #[.int .i64 p, .int .i64 q] 49))
                generalize World.alloc w2_ (.cells #[.int .i64 p, .int .i64 q] 49) = w3_ at *
                generalize w2_.heap.size = B6 at *
                refine hK _ _ ⟨_, fun _ h => h, HB.out, ?_⟩
                clear hK K
                try simp only [Act.put, List.setIfInBounds_toArray, List.set_cons_zero, List.set_cons_succ]
                refine wpG_seg [] [7] 2 (by kernel_rfl) (by intro c a d v w h; cases d <;> exact h) (by kernel_rfl) HB.out ?_
                try simp only [maskRows]
                refine wpQuiet_nil ?_
                refine List.forall_mem_singleton.2 ?_
                refine segt_run rfl (by rfl) (fun K hK => ?_)
                refine wp_append_lnD _ _ rfl HV.out _ [(p, q)] (keysAt_row HR.out) rfl rfl (by simp; omega) ?_
                intro v4_ w4_ hV hg hv
                clear HV
                have HV := Lib.hid hV
                replace HB := Lib.hid HV.out.below
                clear hV hg hv
                go_simp
                refine hK _ _ ⟨_, fun _ h => h, HB.out, ?_⟩
                clear hK K
                try simp only [Act.put, List.setIfInBounds_toArray, List.set_cons_zero, List.set_cons_succ]
                refine wpG_seg [] [11] 1 (by kernel_rfl) (by intro c a d v w h; cases d <;> exact h) (by kernel_rfl) HB.out ?_
                try simp only [maskRows]
                refine wpQuiet_nil ?_
                refine List.forall_mem_singleton.2 ?_
                refine segt_run rfl (by rfl) (fun K hK => ?_)
                refine wp_append_lnD _ _ rfl HV.out _ (ks.drop k) (HK2.out _ HB.out) rfl rfl (by simp; omega) ?_
                intro v5_ w5_ hV hg hv
                clear HV
                have HV := Lib.hid hV
                replace HB := Lib.hid HV.out.below
                clear hV hg hv
                go_simp
                refine hK _ _ ⟨_, fun _ h => h, HB.out, ?_⟩
                clear hK K
                try simp only [Act.put, List.setIfInBounds_toArray, List.set_cons_zero, List.set_cons_succ]
                refine wpG_end [false, false, false, false, false, false, false, false, false, false, false, false, true] (by kernel_rfl) (by intro c a d v w h; cases d <;> exact h) (by kernel_rfl) HB.out ?_
                try simp only [maskRows]
                repeat (first
                  | go_big_quiet_skip
                  | (go_big_quiet_want
                     first
                       | (go_big_quiet_op; go_big_quiet_on)
                       | (refine q_load 49 _ _ _ rfl rfl LK ?_; simp only [Act.put, List.setIfInBounds_toArray, List.set_cons_zero, List.set_cons_succ]; go_big_quiet_on)
                       | (refine q_slice_hi 24 49 Try.underlying24 _ _ _ _ _ rfl rfl rfl HS1 ?_; simp only [Act.put, List.setIfInBounds_toArray, List.set_cons_zero, List.set_cons_succ]; go_big_quiet_on)
                       | (refine q_slice_lo 24 49 Try.underlying24 _ _ _ _ _ rfl rfl rfl HS2 ?_; simp only [Act.put, List.setIfInBounds_toArray, List.set_cons_zero, List.set_cons_succ]; go_big_quiet_on)
                       | (go_big_quiet_op; refine ⟨_, fun _ _ => rfl, ?_⟩; go_big_quiet_on)
                       | (go_big_quiet_op; refine ⟨_, fun _ _ _ => rfl, ?_⟩; go_big_quiet_on)
                       | (go_big_quiet_op; refine ⟨_, fun _ _ _ _ => rfl, ?_⟩; go_big_quiet_on)))
                refine wpQuiet_nil ?_
                have HV9 := Lib.hid (HV.out.base HW.out)
                rw [HIN.out] at HV9
                have HSM9 := Lib.hid (HS8.out.next HB.out)
                go_wp2_with fail
                refine (HLX.out _ _ HV9.out.at).mono ?_
                rintro e wz ⟨rfl, hbz⟩
                replace HV9 := Lib.hid (HV9.out.next hbz)
                replace HSM9 := Lib.hid (HSM9.out.next hbz)
                clear hbz HV HB HK1 HK2
                cases hli : lnsB (insK ks (p, q) k) with
                | true =>
                  rw [hli] at HUM
                  go_wp2
                  go_ret
                  exact ⟨_, rfl, by rw [HUM.out]; exact HV9.out⟩
                | false =>
                  rw [hli] at HUM
                  go_wp2
                  go_ret
                  exact ⟨_, rfl, by rw [HUM.out]; exact HSM9.out⟩
              · refine segt_run rfl (by rfl) (fun K hK => ?_)
                go_simp
                have HNE := Lib.hid (show ∀ b, (Value.slice (some ⟨B0, 0, none⟩) 0 0).ownBlock = some b → b ≠ w1_.heap.size from fun b e => Nat.ne_of_lt (HV.out.own.lt b e).2)
                replace HV := Lib.hid (HV.out.alloc (.cells #[.int .i64 p, .int .i64 q] 49))
                have HR := Lib.hid (heap_alloc_new w1_ (.cells #[.int .i64 p, .int .i64 q] 49))
                replace HB := Lib.hid (HB.out.alloc HB.out.size (.cells #[.int .i64 p, .int .i64 q] 49))
                generalize World.alloc w1_ (.cells #[.int .i64 p, .int .i64 q] 49) = w2_ at *
                generalize w1_.heap.size = B6 at *
                refine hK _ _ ⟨_, fun _ h => h, HB.out, ?_⟩
                clear hK K
                try simp only [Act.put, List.setIfInBounds_toArray, List.set_cons_zero, List.set_cons_succ]
                refine wpG_seg [] [4] 3 (by kernel_rfl) (by intro c a d v w h; cases d <;> exact h) (by kernel_rfl) HB.out ?_
                try simp only [maskRows]
                refine wpQuiet_nil ?_
                refine List.forall_mem_singleton.2 ?_
                refine segt_run rfl (by rfl) (fun K hK => ?_)
                refine wp_append_lnD _ _ rfl HV.out _ (ks.take k) (HK1.out _ HB.out) rfl rfl (by simp; omega) ?_
                intro v3_ w3_ hV hg hv
                have HNE2 := Lib.hid (show ∀ b, v3_.ownBlock = some b → b ≠ B6 from fun b e => by
                  rcases hv with h | h
                  · exact HNE.out b (h.symm.trans e)
                  · have h1 := Option.some.inj (h.symm.trans e); have h2 := (Array.getElem?_eq_some_iff.1 HR.out).1; omega)
                replace HR := Lib.hid ((hg.block _ (Array.getElem?_eq_some_iff.1 HR.out).1 (fun e => HNE.out _ e.symm rfl)).trans HR.out)
                clear HNE
                have HNE := HNE2
                clear HNE2
                clear HV
                have HV := Lib.hid hV
                replace HB := Lib.hid HV.out.below
                clear hV hg hv
                go_simp
                refine hK _ _ ⟨_, fun _ h => h, HB.out, ?_⟩
                clear hK K
                try simp only [Act.put, List.setIfInBounds_toArray, List.set_cons_zero, List.set_cons_succ]
                refine wpG_seg [] [7] 2 (by kernel_rfl) (by intro c a d v w h; cases d <;> exact h) (by kernel_rfl) HB.out ?_
                try simp only [maskRows]
                refine wpQuiet_nil ?_
                refine List.forall_mem_singleton.2 ?_
                refine segt_run rfl (by rfl) (fun K hK => ?_)
                refine wp_append_lnD _ _ rfl HV.out _ [(p, q)] (keysAt_row HR.out) rfl rfl (by simp; omega) ?_
                intro v4_ w4_ hV hg hv
                clear HV
                have HV := Lib.hid hV
                replace HB := Lib.hid HV.out.below
                clear hV hg hv
                go_simp
                refine hK _ _ ⟨_, fun _ h => h, HB.out, ?_⟩
                clear hK K
                try simp only [Act.put, List.setIfInBounds_toArray, List.set_cons_zero, List.set_cons_succ]
                refine wpG_seg [] [11] 1 (by kernel_rfl) (by intro c a d v w h; cases d <;> exact h) (by kernel_rfl) HB.out ?_
                try simp only [maskRows]
                refine wpQuiet_nil ?_
                refine List.forall_mem_singleton.2 ?_
                refine segt_run rfl (by rfl) (fun K hK => ?_)
                refine wp_append_lnD _ _ rfl HV.out _ (ks.drop k) (HK2.out _ HB.out) rfl rfl (by simp; omega) ?_
                intro v5_ w5_ hV hg hv
                clear HV
                have HV := Lib.hid hV
                replace HB := Lib.hid HV.out.below
                clear hV hg hv
                go_simp
                refine hK _ _ ⟨_, fun _ h => h, HB.out, ?_⟩
                clear hK K
                try simp only [Act.put, List.setIfInBounds_toArray, List.set_cons_zero, List.set_cons_succ]
                refine wpG_end [false, false, false, false, false, false, false, false, false, false, false, false, true] (by kernel_rfl) (by intro c a d v w h; cases d <;> exact h) (by kernel_rfl) HB.out ?_
                try simp only [maskRows]
                repeat (first
                  | go_big_quiet_skip
                  | (go_big_quiet_want
                     first
                       | (go_big_quiet_op; go_big_quiet_on)
                       | (refine q_load 49 _ _ _ rfl rfl LK ?_; simp only [Act.put, List.setIfInBounds_toArray, List.set_cons_zero, List.set_cons_succ]; go_big_quiet_on)
                       | (refine q_slice_hi 24 49 Try.underlying24 _ _ _ _ _ rfl rfl rfl HS1 ?_; simp only [Act.put, List.setIfInBounds_toArray, List.set_cons_zero, List.set_cons_succ]; go_big_quiet_on)
                       | (refine q_slice_lo 24 49 Try.underlying24 _ _ _ _ _ rfl rfl rfl HS2 ?_; simp only [Act.put, List.setIfInBounds_toArray, List.set_cons_zero, List.set_cons_succ]; go_big_quiet_on)
                       | (go_big_quiet_op; refine ⟨_, fun _ _ => rfl, ?_⟩; go_big_quiet_on)
                       | (go_big_quiet_op; refine ⟨_, fun _ _ _ => rfl, ?_⟩; go_big_quiet_on)
                       | (go_big_quiet_op; refine ⟨_, fun _ _ _ _ => rfl, ?_⟩; go_big_quiet_on)))
                refine wpQuiet_nil ?_
                have HV9 := Lib.hid (HV.out.base HW.out)
                rw [HIN.out] at HV9
                have HSM9 := Lib.hid (HS8.out.next HB.out)
                go_wp2_with fail
                refine (HLX.out _ _ HV9.out.at).mono ?_
                rintro e wz ⟨rfl, hbz⟩
                replace HV9 := Lib.hid (HV9.out.next hbz)
                replace HSM9 := Lib.hid (HSM9.out.next hbz)
                clear hbz HV HB HK1 HK2
                cases hli : lnsB (insK ks (p, q) k) with
                | true =>
                  rw [hli] at HUM
                  go_wp2
                  go_ret
                  exact ⟨_, rfl, by rw [HUM.out]; exact HV9.out⟩
                | false =>
                  rw [hli] at HUM
                  go_wp2
                  go_ret
                  exact ⟨_, rfl, by rw [HUM.out]; exact HSM9.out⟩
            · refine segt_run rfl (by rfl) (fun K hK => ?_)
              go_simp
              have HR := Lib.hid (heap_alloc_new wD0 (.cells #[.int .i64 p, .int .i64 q] 49))
              replace HB := Lib.hid (HB.out.alloc HB.out.size (.cells #[.int .i64 p, .int .i64 q] 49))
              generalize World.alloc wD0 (.cells #[.int .i64 p, .int .i64 q] 49) = w1_ at *
              generalize wD0.heap.size = B6 at *
              refine hK _ _ ⟨_, fun _ h => h, HB.out, ?_⟩
              clear hK K
              try simp only [Act.put, List.setIfInBounds_toArray, List.set_cons_zero, List.set_cons_succ]
              refine wpG_seg [] [0] 4 (by kernel_rfl) (by intro c a d v w h; cases d <;> exact h) (by kernel_rfl) HB.out ?_
              try simp only [maskRows]
              refine wpQuiet_nil ?_
              refine List.forall_mem_singleton.2 ?_
              refine segt_run rfl (by rfl) (fun K hK => ?_)
              go_simp
              have HNE := Lib.hid (show ∀ b, (Value.slice (some ⟨w1_.heap.size, 0, none⟩) 0 0).ownBlock = some b → b ≠ B6 from fun b e e2 => by have h1 : w1_.heap.size = b := Option.some.inj e; have h2 := (Array.getElem?_eq_some_iff.1 HR.out).1; omega)
              replace HR := Lib.hid ((Below.heap_alloc w1_ (.cells #[] 49) _ (Array.getElem?_eq_some_iff.1 HR.out).1).trans HR.out)
              have HV := Lib.hid (LlD.litAt (w := w1_) HB.out)
              replace HB := Lib.hid HV.out.below
              generalize World.alloc w1_ (.cells #[] 49) = w2_ at *
              generalize w1_.heap.size = B0 at *
              refine hK _ _ ⟨_, fun _ h => h, HB.out, ?_⟩
              clear hK K
              try simp only [Act.put, List.setIfInBounds_toArray, List.set_cons_zero, List.set_cons_succ]
              refine wpG_seg [] [4] 3 (by kernel_rfl) (by intro c a d v w h; cases d <;> exact h) (by kernel_rfl) HB.out ?_
              try simp only [maskRows]
              refine wpQuiet_nil ?_
              refine List.forall_mem_singleton.2 ?_
              refine segt_run rfl (by rfl) (fun K hK => ?_)
              refine wp_append_lnD _ _ rfl HV.out _ (ks.take k) (HK1.out _ HB.out) rfl rfl (by simp; omega) ?_
              intro v3_ w3_ hV hg hv
              have HNE2 := Lib.hid (show ∀ b, v3_.ownBlock = some b → b ≠ B6 from fun b e => by
                rcases hv with h | h
                · exact HNE.out b (h.symm.trans e)
                · have h1 := Option.some.inj (h.symm.trans e); have h2 := (Array.getElem?_eq_some_iff.1 HR.out).1; omega)
              replace HR := Lib.hid ((hg.block _ (Array.getElem?_eq_some_iff.1 HR.out).1 (fun e => HNE.out _ e.symm rfl)).trans HR.out)
              clear HNE
              have HNE := HNE2
              clear HNE2
              clear HV
              have HV := Lib.hid hV
              replace HB := Lib.hid HV.out.below
              clear hV hg hv
              go_simp
              refine hK _ _ ⟨_, fun _ h => h, HB.out, ?_⟩
              clear hK K
              try simp only [Act.put, List.setIfInBounds_toArray, List.set_cons_zero, List.set_cons_succ]
              refine wpG_seg [] [7] 2 (by kernel_rfl) (by intro c a d v w h; cases d <;> exact h) (by kernel_rfl) HB.out ?_
              try simp only [maskRows]
              refine wpQuiet_nil ?_
              refine List.forall_mem_singleton.2 ?_
              refine segt_run rfl (by rfl) (fun K hK => ?_)
              refine wp_append_lnD _ _ rfl HV.out _ [(p, q)] (keysAt_row HR.out) rfl rfl (by simp; omega) ?_
              intro v4_ w4_ hV hg hv
              clear HV
              have HV := Lib.hid hV
              replace HB := Lib.hid HV.out.below
              clear hV hg hv
              go_simp
              refine hK _ _ ⟨_, fun _ h => h, HB.out, ?_⟩
              clear hK K
              try simp only [Act.put, List.setIfInBounds_toArray, List.set_cons_zero, List.set_cons_succ]
              refine wpG_seg [] [11] 1 (by kernel_rfl) (by intro c a d v w h; cases d <;> exact h) (by kernel_rfl) HB.out ?_
              try simp only [maskRows]
              refine wpQuiet_nil ?_
              refine List.forall_mem_singleton.2 ?_
              refine segt_run rfl (by rfl) (fun K hK => ?_)
              refine wp_append_lnD _ _ rfl HV.out _ (ks.drop k) (HK2.out _ HB.out) rfl rfl (by simp; omega) ?_
              intro v5_ w5_ hV hg hv
              clear HV
              have HV := Lib.hid hV
              replace HB := Lib.hid HV.out.below
              clear hV hg hv
              go_simp
              refine hK _ _ ⟨_, fun _ h => h, HB.out, ?_⟩
              clear hK K
              try simp only [Act.put, List.setIfInBounds_toArray, List.set_cons_zero, List.set_cons_succ]
              refine wpG_end [false, false, false, false, false, false, false, false, false, false, false, false, true] (by kernel_rfl) (by intro c a d v w h; cases d <;> exact h) (by kernel_rfl) HB.out ?_
              try simp only [maskRows]
              repeat (first
                | go_big_quiet_skip
                | (go_big_quiet_want
                   first
                     | (go_big_quiet_op; go_big_quiet_on)
                     | (refine q_load 49 _ _ _ rfl rfl LK ?_; simp only [Act.put, List.setIfInBounds_toArray, List.set_cons_zero, List.set_cons_succ]; go_big_quiet_on)
                     | (refine q_slice_hi 24 49 Try.underlying24 _ _ _ _ _ rfl rfl rfl HS1 ?_; simp only [Act.put, List.setIfInBounds_toArray, List.set_cons_zero, List.set_cons_succ]; go_big_quiet_on)
                     | (refine q_slice_lo 24 49 Try.underlying24 _ _ _ _ _ rfl rfl rfl HS2 ?_; simp only [Act.put, List.setIfInBounds_toArray, List.set_cons_zero, List.set_cons_succ]; go_big_quiet_on)
                     | (go_big_quiet_op; refine ⟨_, fun _ _ => rfl, ?_⟩; go_big_quiet_on)
                     | (go_big_quiet_op; refine ⟨_, fun _ _ _ => rfl, ?_⟩; go_big_quiet_on)
                     | (go_big_quiet_op; refine ⟨_, fun _ _ _ _ => rfl, ?_⟩; go_big_quiet_on)))
              refine wpQuiet_nil ?_
              have HV9 := Lib.hid (HV.out.base HW.out)
              rw [HIN.out] at HV9
              have HSM9 := Lib.hid (HS8.out.next HB.out)
              go_wp2_with fail
              refine (HLX.out _ _ HV9.out.at).mono ?_
              rintro e wz ⟨rfl, hbz⟩
              replace HV9 := Lib.hid (HV9.out.next hbz)
              replace HSM9 := Lib.hid (HSM9.out.next hbz)
              clear hbz HV HB HK1 HK2
              cases hli : lnsB (insK ks (p, q) k) with
              | true =>
                rw [hli] at HUM
                go_wp2
                go_ret
                exact ⟨_, rfl, by rw [HUM.out]; exact HV9.out⟩
              | false =>
                rw [hli] at HUM
                go_wp2
                go_ret
                exact ⟨_, rfl, by rw [HUM.out]; exact HSM9.out⟩
        · obtain rfl : k = ks.length := by omega
          have HT := Lib.hid (take_to (Nat.le_refl _) HALL.out (.inl rfl))
          have dk : decide ((ks.length : Int) < (ks.length : Int)) = false := decide_eq_false (by omega)
          have HBr := Lib.hid hb
          clear HALL HA13 hcells hb
          go_upto_region 6 with (fail)
          refine wp_region_below w5 (by kernel_rfl) (by kernel_rfl) HBr.out ?_
          repeat (first
            | go_big_quiet_skip
            | (go_big_quiet_want
               first
                 | (refine q_load 49 _ _ _ rfl rfl LK5 ?_; simp only [Act.put, List.setIfInBounds_toArray, List.set_cons_zero, List.set_cons_succ]; go_big_quiet_on)
                 | (go_big_quiet_op; go_big_quiet_on)
                 | (go_big_quiet_op; refine ⟨_, fun _ _ => rfl, ?_⟩; go_big_quiet_on)
                 | (go_big_quiet_op; go_big_quiet_on)))
          refine wpQuiet_nil ?_
          intro w6 hb6
          clear HBr
          rw [HT.out] at HUM HLX
          have HIN := Lib.hid (show [] ++ ks.take ks.length ++ [(p, q)] ++ ks.drop ks.length = insK ks (p, q) ks.length by simp [insK])
          have HW := Lib.hid (HS5.out.below.trans (hb6.mono HS5.out.below.size))
          have HS8 := Lib.hid (HS5.out.next hb6)
          have LK : ∀ wx, Below w6.heap.size w6 wx → (loadVar 49 ⟨B8, 0, none⟩).run Try.prog wx = .ok (kv (p, q)) wx := fun wx h => LK5 wx (hb6.trans (h.mono hb6.size))
          have hkw := HK.out _ HW.out
          obtain ⟨a1, c1, hs1, hk1⟩ := slice_hi_ln hkw ks.length (Nat.le_refl _) (by omega)
          obtain ⟨a2, c2, hs2, hk2⟩ := slice_lo_ln hkw ks.length (Nat.le_refl _) (by omega)
          simp only [Nat.sub_self] at hs2 hk2
          have HK1 := Lib.hid (fun wx (hb : Below w6.heap.size w6 wx) => keysAt_below hk1 hb)
          have HK2 := Lib.hid (fun wx (hb : Below w6.heap.size w6 wx) => keysAt_below hk2 hb)
          have HS1 := hs1
          have HS2 := hs2
          have HB := Lib.hid (Below.refl w6.heap.size w6)
          unfold kv at LK
          dsimp only at LK
          clear hkw hk1 hk2 hs1 hs2 HK LK5 hb6 HS5 HR5 HT
          go_upto_region 8 with (fail)
          refine wp_region_G (fun wx => Below w6.heap.size w6 wx) (by kernel_rfl) ?_
          replace HB := Lib.hid (HB.out.drew)
          generalize (w6).drew = wD0 at *
          refine wpG_seg [false, true, true, true, false, true, false, false, true, true, true] [0, 6] 5 (by kernel_rfl) (by intro c a d v w h; cases d <;> exact h) (by kernel_rfl) HB.out ?_
          try simp only [maskRows]
          repeat (first
            | go_big_quiet_skip
            | (go_big_quiet_want
               first
                 | (go_big_quiet_op; go_big_quiet_on)
                 | (refine q_load 49 _ _ _ rfl rfl LK ?_; simp only [Act.put, List.setIfInBounds_toArray, List.set_cons_zero, List.set_cons_succ]; go_big_quiet_on)
                 | (refine q_slice_hi 24 49 Try.underlying24 _ _ _ _ _ rfl rfl rfl HS1 ?_; simp only [Act.put, List.setIfInBounds_toArray, List.set_cons_zero, List.set_cons_succ]; go_big_quiet_on)
                 | (refine q_slice_lo 24 49 Try.underlying24 _ _ _ _ _ rfl rfl rfl HS2 ?_; simp only [Act.put, List.setIfInBounds_toArray, List.set_cons_zero, List.set_cons_succ]; go_big_quiet_on)
                 | (go_big_quiet_op; refine ⟨_, fun _ _ => rfl, ?_⟩; go_big_quiet_on)
                 | (go_big_quiet_op; refine ⟨_, fun _ _ _ => rfl, ?_⟩; go_big_quiet_on)
                 | (go_big_quiet_op; refine ⟨_, fun _ _ _ _ => rfl, ?_⟩; go_big_quiet_on)))
          refine wpQuiet_nil ?_
          refine List.forall_mem_cons.2 ⟨?_, List.forall_mem_singleton.2 ?_⟩
          · refine segt_run rfl (by rfl) (fun K hK => ?_)
            go_simp
            have HV := Lib.hid (LlD.litAt (w := wD0) HB.out)
            replace HB := Lib.hid HV.out.below
            generalize World.alloc wD0 (.cells #[] 49) = w1_ at *
            generalize wD0.heap.size = B0 at *
            refine hK _ _ ⟨_, fun _ h => h, HB.out, ?_⟩
            clear hK K
            try simp only [Act.put, List.setIfInBounds_toArray, List.set_cons_zero, List.set_cons_succ]
            refine wpG_seg [] [4, 6] 4 (by kernel_rfl) (by intro c a d v w h; cases d <;> exact h) (by kernel_rfl) HB.out ?_
            try simp only [maskRows]
            refine wpQuiet_nil ?_
            refine List.forall_mem_cons.2 ⟨?_, List.forall_mem_singleton.2 ?_⟩
            · refine segt_run rfl (by rfl) (fun K hK => ?_)
              refine wp_append_lnD _ _ rfl HV.out _ (ks.take ks.length) (HK1.out _ HB.out) rfl rfl (by simp; omega) ?_
              intro v2_ w2_ hV hg hv
              clear HV
              have HV := Lib.hid hV
              replace HB := Lib.hid HV.out.below
              clear hV hg hv
              go_simp
              refine hK _ _ ⟨_, fun _ h => h, HB.out, ?_⟩
              clear hK K
              try simp only [Act.put, List.setIfInBounds_toArray, List.set_cons_zero, List.set_cons_succ]
              refine wpG_seg [] [6] 3 (by kernel_rfl) (by intro c a d v w h; cases d <;> exact h) (by kernel_rfl) HB.out ?_
              try simp only [maskRows]
              refine wpQuiet_nil ?_
              refine List.forall_mem_singleton.2 ?_
              refine segt_run rfl (by rfl) (fun K hK => ?_)
              go_simp
              have HNE := Lib.hid (show ∀ b, v2_.ownBlock = some b → b ≠ w2_.heap.size from fun b e => Nat.ne_of_lt (HV.out.own.lt b e).2)
              replace HV := Lib.hid (HV.out.alloc (.cells #[.int .i64 p, .int .i64 q] 49))
              have HR := Lib.hid (heap_alloc_new w2_ (.cells #[.int .i64 p, .int .i64 q] 49))
              replace HB := Lib.hid (HB.out.alloc HB.out.size (.cells #[.int .i64 p, .int .i64 q] 49))
              generalize World.alloc w2_ (.cells #[.int .i64 p, .int .i64 q] 49) = w3_ at *
              generalize w2_.heap.size = B6 at *
              refine hK _ _ ⟨_, fun _ h => h, HB.out, ?_⟩
              clear hK K
              try simp only [Act.put, List.setIfInBounds_toArray, List.set_cons_zero, List.set_cons_succ]
              refine wpG_seg [] [7] 2 (by kernel_rfl) (by intro c a d v w h; cases d <;> exact h) (by kernel_rfl) HB.out ?_
              try simp only [maskRows]
              refine wpQuiet_nil ?_
              refine List.forall_mem_singleton.2 ?_
              refine segt_run rfl (by rfl) (fun K hK => ?_)
              refine wp_append_lnD _ _ rfl HV.out _ [(p, q)] (keysAt_row HR.out) rfl rfl (by simp; omega) ?_
              intro v4_ w4_ hV hg hv
              clear HV
              have HV := Lib.hid hV
              replace HB := Lib.hid HV.out.below
              clear hV hg hv
              go_simp
              refine hK _ _ ⟨_, fun _ h => h, HB.out, ?_⟩
              clear hK K
              try simp only [Act.put, List.setIfInBounds_toArray, List.set_cons_zero, List.set_cons_succ]
              refine wpG_seg [] [11] 1 (by kernel_rfl) (by intro c a d v w h; cases d <;> exact h) (by kernel_rfl) HB.out ?_
              try simp only [maskRows]
              refine wpQuiet_nil ?_
              refine List.forall_mem_singleton.2 ?_
              refine segt_run rfl (by rfl) (fun K hK => ?_)
              refine wp_append_lnD _ _ rfl HV.out _ (ks.drop ks.length) (HK2.out _ HB.out) rfl rfl (by simp; omega) ?_
              intro v5_ w5_ hV hg hv
              clear HV
              have HV := Lib.hid hV
              replace HB := Lib.hid HV.out.below
              clear hV hg hv
              go_simp
              refine hK _ _ ⟨_, fun _ h => h, HB.out, ?_⟩
              clear hK K
              try simp only [Act.put, List.setIfInBounds_toArray, List.set_cons_zero, List.set_cons_succ]
              refine wpG_end [false, false, false, false, false, false, false, false, false, false, false, false, true] (by kernel_rfl) (by intro c a d v w h; cases d <;> exact h) (by kernel_rfl) HB.out ?_
              try simp only [maskRows]
              repeat (first
                | go_big_quiet_skip
                | (go_big_quiet_want
                   first
                     | (go_big_quiet_op; go_big_quiet_on)
                     | (refine q_load 49 _ _ _ rfl rfl LK ?_; simp only [Act.put, List.setIfInBounds_toArray, List.set_cons_zero, List.set_cons_succ]; go_big_quiet_on)
                     | (refine q_slice_hi 24 49 Try.underlying24 _ _ _ _ _ rfl rfl rfl HS1 ?_; simp only [Act.put, List.setIfInBounds_toArray, List.set_cons_zero, List.set_cons_succ]; go_big_quiet_on)
                     | (refine q_slice_lo 24 49 Try.underlying24 _ _ _ _ _ rfl rfl rfl HS2 ?_; simp only [Act.put, List.setIfInBounds_toArray, List.set_cons_zero, List.set_cons_succ]; go_big_quiet_on)
                     | (go_big_quiet_op; refine ⟨_, fun _ _ => rfl, ?_⟩; go_big_quiet_on)
                     | (go_big_quiet_op; refine ⟨_, fun _ _ _ => rfl, ?_⟩; go_big_quiet_on)
                     | (go_big_quiet_op; refine ⟨_, fun _ _ _ _ => rfl, ?_⟩; go_big_quiet_on)))
              refine wpQuiet_nil ?_
              have HV9 := Lib.hid (HV.out.base HW.out)
              rw [HIN.out] at HV9
              have HSM9 := Lib.hid (HS8.out.next HB.out)
              go_wp2_with fail
              refine (HLX.out _ _ HV9.out.at).mono ?_
              rintro e wz ⟨rfl, hbz⟩
              replace HV9 := Lib.hid (HV9.out.next hbz)
              replace HSM9 := Lib.hid (HSM9.out.next hbz)
              clear hbz HV HB HK1 HK2
              cases hli : lnsB (insK ks (p, q) ks.length) with
              | true =>
                rw [hli] at HUM
                go_wp2
                go_ret
                exact ⟨_, rfl, by rw [HUM.out]; exact HV9.out⟩
              | false =>
                rw [hli] at HUM
                go_wp2
                go_ret
                exact ⟨_, rfl, by rw [HUM.out]; exact HSM9.out⟩
            · refine segt_run rfl (by rfl) (fun K hK => ?_)
              go_simp
              have HNE := Lib.hid (show ∀ b, (Value.slice (some ⟨B0, 0, none⟩) 0 0).ownBlock = some b → b ≠ w1_.heap.size from fun b e => Nat.ne_of_lt (HV.out.own.lt b e).2)
              replace HV := Lib.hid (HV.out.alloc (.cells #[.int .i64 p, .int .i64 q] 49))
              have HR := Lib.hid (heap_alloc_new w1_ (.cells #[.int .i64 p, .int .i64 q] 49))
              replace HB := Lib.hid (HB.out.alloc HB.out.size (.cells #[.int .i64 p, .int .i64 q] 49))
              generalize World.alloc w1_ (.cells #[.int .i64 p, .int .i64 q] 49) = w2_ at *
              generalize w1_.heap.size = B6 at *
              refine hK _ _ ⟨_, fun _ h => h, HB.out, ?_⟩
              clear hK K
              try simp only [Act.put, List.setIfInBounds_toArray, List.set_cons_zero, List.set_cons_succ]
              refine wpG_seg [] [4] 3 (by kernel_rfl) (by intro c a d v w h; cases d <;> exact h) (by kernel_rfl) HB.out ?_
              try simp only [maskRows]
              refine wpQuiet_nil ?_
              refine List.forall_mem_singleton.2 ?_
              refine segt_run rfl (by rfl) (fun K hK => ?_)
              refine wp_append_lnD _ _ rfl HV.out _ (ks.take ks.length) (HK1.out _ HB.out) rfl rfl (by simp; omega) ?_
              intro v3_ w3_ hV hg hv
              have HNE2 := Lib.hid (show ∀ b, v3_.ownBlock = some b → b ≠ B6 from fun b e => by
                rcases hv with h | h
                · exact HNE.out b (h.symm.trans e)
                · have h1 := Option.some.inj (h.symm.trans e); have h2 := (Array.getElem?_eq_some_iff.1 HR.out).1; omega)
              replace HR := Lib.hid ((hg.block _ (Array.getElem?_eq_some_iff.1 HR.out).1 (fun e => HNE.out _ e.symm rfl)).trans HR.out)
              clear HNE
              have HNE := HNE2
              clear HNE2
              clear HV
              have HV := Lib.hid hV
              replace HB := Lib.hid HV.out.below
              clear hV hg hv
              go_simp
              refine hK _ _ ⟨_, fun _ h => h, HB.out, ?_⟩
              clear hK K
              try simp only [Act.put, List.setIfInBounds_toArray, List.set_cons_zero, List.set_cons_succ]
              refine wpG_seg [] [7] 2 (by kernel_rfl) (by intro c a d v w h; cases d <;> exact h) (by kernel_rfl) HB.out ?_
              try simp only [maskRows]
              refine wpQuiet_nil ?_
              refine List.forall_mem_singleton.2 ?_
              refine segt_run rfl (by rfl) (fun K hK => ?_)
              refine wp_append_lnD _ _ rfl HV.out _ [(p, q)] (keysAt_row HR.out) rfl rfl (by simp; omega) ?_
              intro v4_ w4_ hV hg hv
              clear HV
              have HV := Lib.hid hV
              replace HB := Lib.hid HV.out.below
              clear hV hg hv
              go_simp
              refine hK _ _ ⟨_, fun _ h => h, HB.out, ?_⟩
              clear hK K
              try simp only [Act.put, List.setIfInBounds_toArray, List.set_cons_zero, List.set_cons_succ]
              refine wpG_seg [] [11] 1 (by kernel_rfl) (by intro c a d v w h; cases d <;> exact h) (by kernel_rfl) HB.out ?_
              try simp only [maskRows]
              refine wpQuiet_nil ?_
              refine List.forall_mem_singleton.2 ?_
              refine segt_run rfl (by rfl) (fun K hK => ?_)
              refine wp_append_lnD _ _ rfl HV.out _ (ks.drop ks.length) (HK2.out _ HB.out) rfl rfl (by simp; omega) ?_
              intro v5_ w5_ hV hg hv
              clear HV
              have HV := Lib.hid hV
              replace HB := Lib.hid HV.out.below
              clear hV hg hv
              go_simp
              refine hK _ _ ⟨_, fun _ h => h, HB.out, ?_⟩
              clear hK K
              try simp only [Act.put, List.setIfInBounds_toArray, List.set_cons_zero, List.set_cons_succ]
              refine wpG_end [false, false, false, false, false, false, false, false, false, false, false, false, true] (by kernel_rfl) (by intro c a d v w h; cases d <;> exact h) (by kernel_rfl) HB.out ?_
              try simp only [maskRows]
              repeat (first
                | go_big_quiet_skip
                | (go_big_quiet_want
                   first
                     | (go_big_quiet_op; go_big_quiet_on)
                     | (refine q_load 49 _ _ _ rfl rfl LK ?_; simp only [Act.put, List.setIfInBounds_toArray, List.set_cons_zero, List.set_cons_succ]; go_big_quiet_on)
                     | (refine q_slice_hi 24 49 Try.underlying24 _ _ _ _ _ rfl rfl rfl HS1 ?_; simp only [Act.put, List.setIfInBounds_toArray, List.set_cons_zero, List.set_cons_succ]; go_big_quiet_on)
                     | (refine q_slice_lo 24 49 Try.underlying24 _ _ _ _ _ rfl rfl rfl HS2 ?_; simp only [Act.put, List.setIfInBounds_toArray, List.set_cons_zero, List.set_cons_succ]; go_big_quiet_on)
                     | (go_big_quiet_op; refine ⟨_, fun _ _ => rfl, ?_⟩; go_big_quiet_on)
                     | (go_big_quiet_op; refine ⟨_, fun _ _ _ => rfl, ?_⟩; go_big_quiet_on)
                     | (go_big_quiet_op; refine ⟨_, fun _ _ _ _ => rfl, ?_⟩; go_big_quiet_on)))
              refine wpQuiet_nil ?_
              have HV9 := Lib.hid (HV.out.base HW.out)
              rw [HIN.out] at HV9
              have HSM9 := Lib.hid (HS8.out.next HB.out)
              go_wp2_with fail
              refine (HLX.out _ _ HV9.out.at).mono ?_
              rintro e wz ⟨rfl, hbz⟩
              replace HV9 := Lib.hid (HV9.out.next hbz)
              replace HSM9 := Lib.hid (HSM9.out.next hbz)
              clear hbz HV HB HK1 HK2
              cases hli : lnsB (insK ks (p, q) ks.length) with
              | true =>
                rw [hli] at HUM
                go_wp2
                go_ret
                exact ⟨_, rfl, by rw [HUM.out]; exact HV9.out⟩
              | false =>
                rw [hli] at HUM
                go_wp2
                go_ret
                exact ⟨_, rfl, by rw [HUM.out]; exact HSM9.out⟩
          · refine segt_run rfl (by rfl) (fun K hK => ?_)
            go_simp
            have HR := Lib.hid (heap_alloc_new wD0 (.cells #[.int .i64 p, .int .i64 q] 49))
            replace HB := Lib.hid (HB.out.alloc HB.out.size (.cells #[.int .i64 p, .int .i64 q] 49))
            generalize World.alloc wD0 (.cells #[.int .i64 p, .int .i64 q] 49) = w1_ at *
            generalize wD0.heap.size = B6 at *
            refine hK _ _ ⟨_, fun _ h => h, HB.out, ?_⟩
            clear hK K
            try simp only [Act.put, List.setIfInBounds_toArray, List.set_cons_zero, List.set_cons_succ]
            refine wpG_seg [] [0] 4 (by kernel_rfl) (by intro c a d v w h; cases d <;> exact h) (by kernel_rfl) HB.out ?_
            try simp only [maskRows]
            refine wpQuiet_nil ?_
            refine List.forall_mem_singleton.2 ?_
            refine segt_run rfl (by rfl) (fun K hK => ?_)
            go_simp
            have HNE := Lib.hid (show ∀ b, (Value.slice (some ⟨w1_.heap.size, 0, none⟩) 0 0).ownBlock = some b → b ≠ B6 from fun b e e2 => by have h1 : w1_.heap.size = b := Option.some.inj e; have h2 := (Array.getElem?_eq_some_iff.1 HR.out).1; omega)
            replace HR := Lib.hid ((Below.heap_alloc w1_ (.cells #[] 49) _ (Array.getElem?_eq_some_iff.1 HR.out).1).trans HR.out)
            have HV := Lib.hid (LlD.litAt (w := w1_) HB.out)
            replace HB := Lib.hid HV.out.below
            generalize World.alloc w1_ (.cells #[] 49) = w2_ at *
            generalize w1_.heap.size = B0 at *
            refine hK _ _ ⟨_, fun _ h => h, HB.out, ?_⟩
            clear hK K
            try simp only [Act.put, List.setIfInBounds_toArray, List.set_cons_zero, List.set_cons_succ]
            refine wpG_seg [] [4] 3 (by kernel_rfl) (by intro c a d v w h; cases d <;> exact h) (by kernel_rfl) HB.out ?_
            try simp only [maskRows]
            refine wpQuiet_nil ?_
            refine List.forall_mem_singleton.2 ?_
            refine segt_run rfl (by rfl) (fun K hK => ?_)
            refine wp_append_lnD _ _ rfl HV.out _ (ks.take ks.length) (HK1.out _ HB.out) rfl rfl (by simp; omega) ?_
            intro v3_ w3_ hV hg hv
            have HNE2 := Lib.hid (show ∀ b, v3_.ownBlock = some b → b ≠ B6 from fun b e => by
              rcases hv with h | h
              · exact HNE.out b (h.symm.trans e)
              · have h1 := Option.some.inj (h.symm.trans e); have h2 := (Array.getElem?_eq_some_iff.1 HR.out).1; omega)
            replace HR := Lib.hid ((hg.block _ (Array.getElem?_eq_some_iff.1 HR.out).1 (fun e => HNE.out _ e.symm rfl)).trans HR.out)
            clear HNE
            have HNE := HNE2
            clear HNE2
            clear HV
            have HV := Lib.hid hV
            replace HB := Lib.hid HV.out.below
            clear hV hg hv
            go_simp
            refine hK _ _ ⟨_, fun _ h => h, HB.out, ?_⟩
            clear hK K
            try simp only [Act.put, List.setIfInBounds_toArray, List.set_cons_zero, List.set_cons_succ]
            refine wpG_seg [] [7] 2 (by kernel_rfl) (by intro c a d v w h; cases d <;> exact h) (by kernel_rfl) HB.out ?_
            try simp only [maskRows]
            refine wpQuiet_nil ?_
            refine List.forall_mem_singleton.2 ?_
            refine segt_run rfl (by rfl) (fun K hK => ?_)
            refine wp_append_lnD _ _ rfl HV.out _ [(p, q)] (keysAt_row HR.out) rfl rfl (by simp; omega) ?_
            intro v4_ w4_ hV hg hv
            clear HV
            have HV := Lib.hid hV
            replace HB := Lib.hid HV.out.below
            clear hV hg hv
            go_simp
            refine hK _ _ ⟨_, fun _ h => h, HB.out, ?_⟩
            clear hK K
            try simp only [Act.put, List.setIfInBounds_toArray, List.set_cons_zero, List.set_cons_succ]
            refine wpG_seg [] [11] 1 (by kernel_rfl) (by intro c a d v w h; cases d <;> exact h) (by kernel_rfl) HB.out ?_
            try simp only [maskRows]
            refine wpQuiet_nil ?_
            refine List.forall_mem_singleton.2 ?_
            refine segt_run rfl (by rfl) (fun K hK => ?_)
            refine wp_append_lnD _ _ rfl HV.out _ (ks.drop ks.length) (HK2.out _ HB.out) rfl rfl (by simp; omega) ?_
            intro v5_ w5_ hV hg hv
            clear HV
            have HV := Lib.hid hV
            replace HB := Lib.hid HV.out.below
            clear hV hg hv
            go_simp
            refine hK _ _ ⟨_, fun _ h => h, HB.out, ?_⟩
            clear hK K
            try simp only [Act.put, List.setIfInBounds_toArray, List.set_cons_zero, List.set_cons_succ]
            refine wpG_end [false, false, false, false, false, false, false, false, false, false, false, false, true] (by kernel_rfl) (by intro c a d v w h; cases d <;> exact h) (by kernel_rfl) HB.out ?_
            try simp only [maskRows]
            repeat (first
              | go_big_quiet_skip
              | (go_big_quiet_want
                 first
                   | (go_big_quiet_op; go_big_quiet_on)
                   | (refine q_load 49 _ _ _ rfl rfl LK ?_; simp only [Act.put, List.setIfInBounds_toArray, List.set_cons_zero, List.set_cons_succ]; go_big_quiet_on)
                   | (refine q_slice_hi 24 49 Try.underlying24 _ _ _ _ _ rfl rfl rfl HS1 ?_; simp only [Act.put, List.setIfInBounds_toArray, List.set_cons_zero, List.set_cons_succ]; go_big_quiet_on)
                   | (refine q_slice_lo 24 49 Try.underlying24 _ _ _ _ _ rfl rfl rfl HS2 ?_; simp only [Act.put, List.setIfInBounds_toArray, List.set_cons_zero, List.set_cons_succ]; go_big_quiet_on)
                   | (go_big_quiet_op; refine ⟨_, fun _ _ => rfl, ?_⟩; go_big_quiet_on)
                   | (go_big_quiet_op; refine ⟨_, fun _ _ _ => rfl, ?_⟩; go_big_quiet_on)
                   | (go_big_quiet_op; refine ⟨_, fun _ _ _ _ => rfl, ?_⟩; go_big_quiet_on)))
            refine wpQuiet_nil ?_
            have HV9 := Lib.hid (HV.out.base HW.out)
            rw [HIN.out] at HV9
            have HSM9 := Lib.hid (HS8.out.next HB.out)
            go_wp2_with fail
            refine (HLX.out _ _ HV9.out.at).mono ?_
            rintro e wz ⟨rfl, hbz⟩
            replace HV9 := Lib.hid (HV9.out.next hbz)
            replace HSM9 := Lib.hid (HSM9.out.next hbz)
            clear hbz HV HB HK1 HK2
            cases hli : lnsB (insK ks (p, q) ks.length) with
            | true =>
              rw [hli] at HUM
              go_wp2
              go_ret
              exact ⟨_, rfl, by rw [HUM.out]; exact HV9.out⟩
            | false =>
              rw [hli] at HUM
              go_wp2
              go_ret
              exact ⟨_, rfl, by rw [HUM.out]; exact HSM9.out⟩
end Go.Proofs.Ytpfnpinoamjcjaa
namespace Go.Proofs.Ytpfnpinoamjcjaa
open Go.ChangeShapes Go.WideShapes Go.ChangeAt Go.RowKit Go.BigFrame
set_option linter.unusedVariables false
set_option linter.unusedSimpArgs false

theorem pick_litL (n₀ g len cap : Nat) (a : Option Addr) (zs : List Int) (c : Cu) (xs : List Int) (n : Nat) (w0 w : World) (cs : Array Value) (hd : Drew n₀ g a len cap zs c w0 w) (hn : 0 < n) (hn2 : n ≤ 256) (hx : xs.length = n) (hcs : cs = (xs.map (Value.int .i64)).toArray) :
    Calls Try.prog 60 #[.pointer (some ⟨g, 0, none⟩), .slice (some ⟨w.heap.size, 0, none⟩) n n] (w.alloc (.cells cs 3)) fun e w' => ∃ (z : Int) (c' : Cu), e = .returned (.int .i64 z) ∧ Drew n₀ g a len cap zs c' w0 w' ∧ w.grownBy w' (some g) := by
  have hgl := hd.st.lt
  refine (pickint_any n₀ g len cap w.heap.size n a zs c xs _ (hd.alloc _).st hn hn2 hx (by omega) ?_).mono (fun e w' h => ⟨_, _, h.1, (hd.alloc _).trans h.2, grownT (World.grownBy_alloc _ _ _) h.2.grown⟩)
  intro k hk
  rw [lit_cell, hcs]
  simp [show k < xs.length by omega]
/-- links of one's own while something is drawn -/
structure DrL (n₀ g : Nat) (a : Option Addr) (len cap : Nat) (zs : List Int) (c : Cu) (w wr : World) (v : Value) (ks : List K2) : Prop where
  own : wr.ownsRow w.heap.size 49 2 v ks.length (keyCells ks)
  drew : Drew n₀ g a len cap zs c w wr
  hgl : g < w.heap.size
theorem DrL.size {n₀ g : Nat} {a : Option Addr} {len cap : Nat} {zs : List Int} {c : Cu} {w wr : World} {v : Value} {ks : List K2} (h : DrL n₀ g a len cap zs c w wr v ks) : w.heap.size ≤ wr.heap.size := h.drew.grown.size
theorem DrL.kept {n₀ g : Nat} {a : Option Addr} {len cap : Nat} {zs : List Int} {c : Cu} {w wr w1 : World} {v : Value} {ks : List K2} (h : DrL n₀ g a len cap zs c w wr v ks) (hg : wr.grownBy w1 (some g)) : w1.ownsRow w.heap.size 49 2 v ks.length (keyCells ks) :=
  h.own.kept hg (.inr fun e => by have h1 := (h.own.lt g e).1; have := h.hgl; omega)
theorem DrL.next {n₀ g : Nat} {a : Option Addr} {len cap : Nat} {zs : List Int} {c c' : Cu} {w wr w1 : World} {v : Value} {ks : List K2} (h : DrL n₀ g a len cap zs c w wr v ks) (hd : Drew n₀ g a len cap zs c' wr w1) : DrL n₀ g a len cap zs c' w w1 v ks :=
  ⟨h.kept hd.grown, h.drew.trans hd, h.hgl⟩
theorem DrL.nextW {n₀ g : Nat} {a : Option Addr} {len cap : Nat} {zs : List Int} {c c' : Cu} {w wr w1 : World} {v : Value} {ks : List K2} (h : DrL n₀ g a len cap zs c w wr v ks) (hd : Drew n₀ g a len cap zs c' w w1) (hg : wr.grownBy w1 (some g)) : DrL n₀ g a len cap zs c' w w1 v ks :=
  ⟨h.kept hg, hd, h.hgl⟩
theorem DrL.lit {n₀ g : Nat} {a : Option Addr} {len cap : Nat} {zs : List Int} {c : Cu} {w wr : World} (hd : Drew n₀ g a len cap zs c w wr) (hgl : g < w.heap.size) : DrL n₀ g a len cap zs c w (wr.alloc (.cells #[] 49)) (.slice (some ⟨wr.heap.size, 0, none⟩) 0 0) [] :=
  ⟨World.ownsRow_lit (base := w.heap.size) (e := 49) (size := 2) wr #[] 0 hd.grown.size (by unfold maxLen; omega) rfl, hd.alloc _, hgl⟩
theorem DrL.alloc {n₀ g : Nat} {a : Option Addr} {len cap : Nat} {zs : List Int} {c : Cu} {w wr : World} {v : Value} {ks : List K2} (h : DrL n₀ g a len cap zs c w wr v ks) (o : Obj) : DrL n₀ g a len cap zs c w (wr.alloc o) v ks :=
  ⟨h.own.alloc o, h.drew.alloc o, h.hgl⟩
theorem DrL.llD {n₀ g : Nat} {a : Option Addr} {len cap : Nat} {zs : List Int} {c : Cu} {w wr w1 : World} {v v' : Value} {ks ls : List K2} (h : DrL n₀ g a len cap zs c w wr v ks) (hl : LlD wr w1 v' ls) : DrL n₀ g a len cap zs c w w1 v' ls :=
  ⟨own_base hl.own h.size, h.drew.grow h.hgl (grown_of_below' hl.below none) (by simp), h.hgl⟩
theorem DrL.push {n₀ g : Nat} {a : Option Addr} {len cap : Nat} {zs : List Int} {c : Cu} {w wr w1 : World} {v v' : Value} {ks ls : List K2} (h : DrL n₀ g a len cap zs c w wr v ks) (ho : w1.ownsRow w.heap.size 49 2 v' ls.length (keyCells ls)) (hg : wr.grownBy w1 v.ownBlock) : DrL n₀ g a len cap zs c w w1 v' ls :=
  ⟨ho, h.drew.grow h.hgl hg (fun b e => (h.own.lt b e).1), h.hgl⟩
theorem DrL.at {n₀ g : Nat} {a : Option Addr} {len cap : Nat} {zs : List Int} {c : Cu} {w wr : World} {v : Value} {ks : List K2} (h : DrL n₀ g a len cap zs c w wr v ks) : keysAt wr v ks := linksAt_own h.own
theorem wpList_append_lnR {ops : Array Oper} {rest : List Oper} {o : Oper} {act : Act} {wr : World} {Q : Exit → Act → World → Prop} (hgd : o.guard = none) (s x : Operand)
    (ho : o.op = .call { callee := .builtin .append, args := #[s, x], argTypes := #[24, 24] })
    {n₀ g : Nat} {a : Option Addr} {len cap : Nat} {zs : List Int} {c : Cu} {w : World} {v : Value} {L : List K2} (hV : DrL n₀ g a len cap zs c w wr v L) (u : Value) (ks : List K2) (hu : keysAt wr u ks) (hs : act.eval s = v) (hx : act.eval x = u) (hn : L.length + ks.length ≤ 4000000)
    (h : ∀ v' w', DrL n₀ g a len cap zs c w w' v' (L ++ ks) → wpList Try.prog ops Q rest (act.put o.dst v') w') : wpList Try.prog ops Q (o :: rest) act wr :=
  wpList_append_ln hgd s x ho hV.own u ks hu hs hx hn hV.size fun v' w' h1 h2 h3 => h v' w' (hV.push (by rw [List.length_append, keyCells_appL]; exact h1) h2)
set_option maxRecDepth 100000 in
set_option maxHeartbeats 2000000 in
theorem l13make_any (n₀ g len cap : Nat) (a : Option Addr) (zs : List Int) (c : Cu) (w : World) (hs : DrawSt n₀ w g a len cap zs c.i c.h) :
    Calls Try.prog 65 #[.pointer (some ⟨g, 0, none⟩)] w fun e w' => ∃ (v : Value) (ks : List K2) (c' : Cu), e = .returned v ∧ ks.length ≤ 9 ∧ DrL n₀ g a len cap zs c' w w' v ks := by
  have hgl := hs.lt
  have hd0 : Drew n₀ g a len cap zs c w w := ⟨hs, Below.refl _ _, World.grownBy.refl _ _⟩
  have HL0 := Lib.hid (DrL.lit hd0 hgl)
  clear hd0 hs
  go_enter Try.func65, Try.ntmps65
  go_wp2_with fail
  refine (below_any n₀ g len cap a zs c 9 _ HL0.out.drew.st (by omega)).mono ?_
  rintro e w1 ⟨rfl, hd1⟩
  have HL1 := Lib.hid (HL0.out.next hd1)
  have hbd := belowF_bd zs len c 9
  generalize belowF zs len c 9 = b at *
  obtain ⟨x, c1⟩ := b
  dsimp only at *
  obtain ⟨m, rfl⟩ : ∃ m : Nat, x = m := ⟨x.toNat, by omega⟩
  have hm : m < 9 := by omega
  clear hd1 HL0 hbd
  go_wp2
  go_loopw [3, 5] (fun v i wr => ∃ (k : Nat) (v0 : Value) (ks : List K2) (c2 : Cu), v0 = v ∧ k ≤ m ∧ i = .int .i64 k ∧ ks.length ≤ k ∧ DrL n₀ g a len cap zs c2 w wr v ks) (fun _ i _ => m - (intOf i).toNat)
  case atStart => exact ⟨0, _, [], c1, rfl, Nat.zero_le _, rfl, Nat.le_refl _, HL1.out⟩
  case round =>
    obtain ⟨k, v, ks, c2, rfl, hk, rfl, hkl, hL⟩ := hrel
    have HL := Lib.hid hL
    clear hL HL1
    by_cases hlt : k < m
    · have z1 : (k : Int) < (m : Int) := by omega
      go_wp2_with fail
      refine (below_any n₀ g len cap a zs c2 5 _ HL.out.drew.st (by omega)).mono ?_
      rintro e w2 ⟨rfl, hd2⟩
      have HL2 := Lib.hid (HL.out.next hd2)
      generalize belowF zs len c2 5 = b at *
      obtain ⟨x, c3⟩ := b
      dsimp only at *
      clear hd2 HL
      go_wp2_with fail
      refine (below_any n₀ g len cap a zs c3 5 _ HL2.out.drew.st (by omega)).mono ?_
      rintro e w3 ⟨rfl, hd3⟩
      have HL3 := Lib.hid (HL2.out.next hd3)
      generalize belowF zs len c3 5 = b at *
      obtain ⟨y, c4⟩ := b
      dsimp only at *
      clear hd3 HL2
      go_wp2_with fail
      refine (slinkup_any _ ks x y _ HL3.out.at (by omega)).mono ?_
      rintro e w4 ⟨v4, rfl, hV4⟩
      have HL4 := Lib.hid (HL3.out.llD hV4)
      have hul := up_len ks x y
      clear hV4 HL3
      go_wp2
      exact ⟨⟨k + 1, _, _, c4, rfl, by omega, by go_num, by omega, HL4.out⟩, by simp [intOf]; omega⟩
    · have z1 : ¬ (k : Int) < (m : Int) := by omega
      go_wp2
      go_ret
      first | exact ⟨_, rfl, ks, by omega, c2, HL.out⟩ | exact ⟨_, rfl, ks, c2, by omega, HL.out⟩
set_option maxRecDepth 100000 in
set_option maxHeartbeats 4000000 in
theorem l13odd_any (n₀ g len cap : Nat) (a : Option Addr) (zs : List Int) (c : Cu) (w : World) (hs : DrawSt n₀ w g a len cap zs c.i c.h) :
    Calls Try.prog 53 #[.pointer (some ⟨g, 0, none⟩)] w fun e w' => ∃ (v : Value) (ks : List K2) (c' : Cu), e = .returned v ∧ ks.length ≤ 100 ∧ DrL n₀ g a len cap zs c' w w' v ks := by
  have HM := Lib.hid (l13make_any n₀ g len cap a zs c w hs)
  have hgl := hs.lt
  have hbl := fun a b w => build_ln a b w
  clear hs
  go_enter Try.func53, Try.ntmps53
  go_wp2_with fail
  refine HM.out.mono ?_
  rintro e w1 ⟨v1, ks, c1, rfl, hk1, hL1⟩
  have HL1 := Lib.hid hL1
  clear hL1 HM
  go_wp2_with fail
  refine (below_any n₀ g len cap a zs c1 10 _ HL1.out.drew.st (by omega)).mono ?_
  rintro e w2 ⟨rfl, hd2⟩
  have HL2 := Lib.hid (HL1.out.next hd2)
  generalize belowF zs len c1 10 = b at *
  obtain ⟨z, c2⟩ := b
  dsimp only at *
  clear hd2 HL1
  by_cases h0 : z = 0
  · subst h0
    go_wp2_with fail
    refine (pick_litL n₀ g len cap a zs c2 [0, 3, -1, 20] 4 w w2 _ HL2.out.drew (by omega) (by omega) rfl (by simp)).mono ?_
    rintro e w3 ⟨x, c3, rfl, hd3, hg3⟩
    have HL3 := Lib.hid (HL2.out.nextW hd3 hg3)
    clear hd3 hg3 HL2
    go_wp2_with fail
    refine (pick_litL n₀ g len cap a zs c3 [0, 3, 20, 21] 4 w w3 _ HL3.out.drew (by omega) (by omega) rfl (by simp)).mono ?_
    rintro e w4 ⟨y, c4, rfl, hd4, hg4⟩
    have HL4 := Lib.hid (HL3.out.nextW hd4 hg4)
    clear hd4 hg4 HL3
    have HL5 := Lib.hid (HL4.out.alloc (.cells #[.int .i64 x, .int .i64 y] 49))
    have HK5 := Lib.hid (keysAt_row (heap_alloc_new w4 (.cells #[.int .i64 x, .int .i64 y] 49)))
    go_wp2_with (at_builtin; refine wpList_append_lnR rfl (.tmp 12) (.tmp 20) rfl HL5.out _ [(x, y)] HK5.out rfl rfl (by simp; omega) ?_; intro v6 w6 hL6; have HL6 := Lib.hid hL6; clear hL6)
    go_ret
    exact ⟨_, _, c4, rfl, by simp; omega, HL6.out⟩
  · by_cases h1 : z = 1
    · subst h1
      have HL3 := Lib.hid (DrL.lit HL2.out.drew hgl)
      clear HL2
      go_wp2
      go_loopw [3, 4] (fun v i wr => ∃ (k : Nat) (v0 : Value) (ks : List K2), v0 = v ∧ k ≤ 6 ∧ i = .int .i64 k ∧ ks.length ≤ 30 ∧ DrL n₀ g a len cap zs c2 w wr v ks) (fun _ i _ => 6 - (intOf i).toNat)
      case atStart => exact ⟨0, _, [], rfl, by omega, rfl, by simp, HL3.out⟩
      case round =>
        obtain ⟨k, v, ks3, rfl, hk, rfl, hkl, hL⟩ := hrel
        have HL := Lib.hid hL
        clear hL HL3
        by_cases hlt : k < 6
        · have z1 : (k : Int) < 6 := by omega
          have e1 : IntKind.i64.wrap ((k : Int) + 1) = ((k + 1 : Nat) : Int) := by rw [IntWalk.i64_in _ (by omega)]; omega
          have e2 : wrap64 ((k : Int) + 1) = ((k + 1 : Nat) : Int) := by rw [IntWalk.wrap64_in _ (by omega)]; omega
          go_wp2
          go_loopw [3, 5] (fun v i wr => ∃ (j : Nat) (v0 : Value) (ks : List K2), v0 = v ∧ j ≤ 8 ∧ i = .int .i64 j ∧ ks.length ≤ 30 ∧ DrL n₀ g a len cap zs c2 w wr v ks) (fun _ i _ => 8 - (intOf i).toNat)
          case atStart => exact ⟨k + 1, _, ks3, rfl, by omega, rfl, hkl, HL.out⟩
          case round =>
            obtain ⟨j, v, ks4, rfl, hj, rfl, hjl, hL⟩ := hrel
            have HL4 := Lib.hid hL
            clear hL HL
            obtain ⟨va, vc, rfl⟩ : ∃ va vc, v = .slice va ks4.length vc := by
              obtain ⟨va, vc, h, -, -⟩ := HL4.out.at
              exact ⟨va, vc, h⟩
            by_cases hj8 : j < 8
            · have y1 : (j : Int) < 8 := by omega
              by_cases hj30 : ks4.length < 30
              · have y2 : (ks4.length : Int) < 30 := by omega
                have HL5 := Lib.hid (HL4.out.alloc (.cells #[.int .i64 k, .int .i64 j] 49))
                have HK5 := fun wr => keysAt_row (heap_alloc_new wr (.cells #[.int .i64 (k : Int), .int .i64 (j : Int)] 49))
                go_wp2_with (at_builtin; refine wpList_append_lnR rfl (.tmp 40) (.tmp 44) rfl HL5.out _ [((k : Int), (j : Int))] (HK5 _) rfl rfl (by simp; omega) ?_; intro v6 w6 hL6; have HL6 := Lib.hid hL6; clear hL6)
                exact ⟨⟨j + 1, _, _, rfl, by omega, by go_num, by simp; omega, HL6.out⟩, by simp [intOf]; omega⟩
              · have y2 : ¬ (ks4.length : Int) < 30 := by omega
                go_wp2
                exact ⟨⟨k + 1, _, ks4, rfl, by omega, by go_num, hjl, HL4.out⟩, by simp [intOf]; omega⟩
            · have y1 : ¬ (j : Int) < 8 := by omega
              go_wp2
              exact ⟨⟨k + 1, _, ks4, rfl, by omega, by go_num, hjl, HL4.out⟩, by simp [intOf]; omega⟩
        · have z1 : ¬ (k : Int) < 6 := by omega
          go_wp2
          go_ret
          first | exact ⟨_, rfl, ks3, by omega, c2, HL.out⟩ | exact ⟨_, rfl, ks3, c2, by omega, HL.out⟩
    · go_wp2
      go_ret
      exact ⟨_, ks, c2, rfl, by omega, HL2.out⟩
set_option maxRecDepth 100000 in
set_option maxHeartbeats 1000000 in
theorem drawreach_any (len cap : Nat) (a : Option Addr) (zs : List Int) (w : World) (hc : CodeAt w.heap.size w a len zs) : Calls Try.prog 27 #[.slice a len cap] w fun e w' => ∃ (v : Value) (ks : List K2) (id : Int), e = .returned (.tuple #[v, .int .i64 id]) ∧ (ks.length ≤ 100 ∧ (-9223372036854775808 ≤ id ∧ id ≤ 9223372036854775807)) ∧ LlD w w' v ks := by
  have H0 := Lib.hid (new_any w.heap.size len cap a zs w hc (Nat.le_refl _))
  go_enter Try.func27, Try.ntmps27
  go_wp2_with fail
  refine H0.out.mono ?_
  rintro e w1 ⟨g, rfl, hg, hs, hb1, hg1⟩
  have HB1 := Lib.hid hb1
  clear H0 hb1
  go_wp2_with fail
  refine (l13odd_any w.heap.size g len cap a zs (newC zs len) w1 hs).mono ?_
  rintro e w2 ⟨v2, ks, c2, rfl, hk2, hL2⟩
  have HL2 := Lib.hid hL2
  have hsz : w.heap.size ≤ w1.heap.size := HB1.out.size
  clear hL2 hs
  go_wp2_with fail
  refine (below_any w.heap.size g len cap a zs c2 7 _ HL2.out.drew.st (by omega)).mono ?_
  rintro e w3 ⟨rfl, hd3⟩
  have HL3 := Lib.hid (HL2.out.next hd3)
  have hbd := belowF_bd zs len c2 7
  generalize belowF zs len c2 7 = b at *
  obtain ⟨x, c3⟩ := b
  dsimp only at *
  have hx : IntKind.i64.wrap (x - 1) = x - 1 := IntWalk.i64_in _ (by omega)
  have hx2 : wrap64 (x - 1) = x - 1 := IntWalk.wrap64_in _ (by omega)
  have HV := Lib.hid (show LlD w w3 v2 ks from ⟨own_base HL3.out.own hsz, HB1.out.trans HL3.out.drew.below⟩)
  clear hd3 HL2 HL3
  go_wp2
  go_ret2
  first | exact ⟨_, _, _, rfl, ⟨hk2, by omega⟩, HV.out⟩ | exact ⟨_, _, rfl, ⟨hk2, by omega⟩, HV.out⟩
end Go.Proofs.Ytpfnpinoamjcjaa
