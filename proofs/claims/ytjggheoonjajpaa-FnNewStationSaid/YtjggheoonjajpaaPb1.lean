/- What the laws lean on (own lemmas and walks of the called functions). -/
import Derived.StillTail
import Derived.OrdersIn
import Derived.RangeFuncCalls
import Derived.Deep.RegionHeld3
import Derived.KernelRfl
import Derived.Test.YtjggheoonjajpaaRows
import Derived.WalkKit
import Derived.ProofKit
import Derived.OpenShut
import Derived.ShutString
import Derived.Below
import Derived.Outline
import Derived.WalkSpells
import Derived.WalkLawsBesides
import Derived.Lib.Hide
import Derived.Deep.QuietTactic
import Derived.BigQuiet
import Derived.RangeFuncBox
import Derived.StillTactics
import Derived.Lib.SmallJoins
import Derived.Laws.OwnMore
import Derived.Lib.Bytealg
import Derived.Deep.AppendLies
import Derived.Laws.BytesArg
import Derived.Maps.AppendAt
import Derived.Deep.MidRow
import Derived.Laws.StructEq
import Derived.BigRegion
import Derived.OneCell
import Derived.Deep.WholeRow
import Derived.Lib.BufferWrite
import Derived.Deep.RegionLaw
import Derived.OrdersHeld
import Derived.Deep.Quiet
import Derived.Lib.SlBuf
import Derived.Laws.CopyOwn
import Derived.Stop.BytesEq
import Derived.Maps.OwnSet
import Derived.Maps.Views
import Derived.DeepKeys4
import Derived.RangeFuncNested
import Derived.RangeFuncLeaves
import Derived.Shelf.Abstract
import Derived.OwnWalkIn
import Derived.TacticsInMore
import Derived.LoopNIn
import Derived.LoopIn
import Derived.Maps.OwnIn
import Derived.Deep.Cut
import Derived.Great.BuildSlice
import Derived.Test.YtjggheoonjajpaaShelf
import Derived.Deep.Upon
import Derived.Deep.DeepCutAuto
import Derived.Defers
import Derived.Recover
set_option linter.unusedVariables false
set_option linter.unusedSimpArgs false
namespace Go.Proofs.Ytjggheoonjajpaa
open Go
section
variable {P : Program} {ops : Array Oper} {md : Region.Mode} {w : World}

def maskRows : List Bool → List Oper → List Oper
  | true :: m, o :: l => o :: maskRows m l
  | false :: m, _ :: l => maskRows m l
  | _, _ => []

end
end Go.Proofs.Ytjggheoonjajpaa
namespace Go.Proofs.Ytjggheoonjajpaa
open Go.ChangeShapes Go.WideShapes Go.ChangeAt Go.RowKit
set_option linter.unusedVariables false

/-- The code's bytes, in old memory. -/
def CodeAt (n₀ : Nat) (w : World) (a : Option Addr) (len : Nat) (zs : List Int) : Prop :=
  len ≤ 1048576 ∧ (∀ k : Nat, 0 ≤ zs[k]?.getD 0 ∧ zs[k]?.getD 0 ≤ 255) ∧ (len = 0 ∨ ∃ b off, a = some ⟨b, off, none⟩ ∧ b < n₀ ∧ ∀ k, k < len → w.cell? ⟨b, off + k, none⟩ = some (.int .u8 (zs[k]?.getD 0)))
theorem CodeAt.below {n₀ : Nat} {w w' : World} {a : Option Addr} {len : Nat} {zs : List Int} (h : CodeAt n₀ w a len zs) (hb : Below n₀ w w') : CodeAt n₀ w' a len zs := by
  obtain ⟨h1, h2, h3⟩ := h
  refine ⟨h1, h2, ?_⟩
  rcases h3 with h3 | ⟨b, off, h4, h5, h6⟩
  · exact .inl h3
  · exact .inr ⟨b, off, h4, h5, fun k hk => (hb.cell (p := ⟨b, off + k, none⟩) h5).trans (h6 k hk)⟩

structure DrawSt (n₀ : Nat) (w : World) (g : Nat) (a : Option Addr) (len cap : Nat) (zs : List Int) (i : Nat) (h : Int) : Prop where
  code : CodeAt n₀ w a len zs
  cur : w.heap[g]? = some (.cells #[.slice a len cap, .int .i64 i, .int .i64 h] 124 (0, 0))
  hg : n₀ ≤ g
  hi : i ≤ len

def lcg (h : Int) : Int := wrap64 (wrap64 (h * 6364136223846793005) + 1442695040888963407)

theorem i64_and255 (n : Int) : bits .and .i64 n 255 = n % 256 := by
  have h255 : (BitVec.ofInt 64 255).toNat = 2 ^ 8 - 1 := by decide
  have key : (BitVec.ofInt 64 n &&& BitVec.ofInt 64 255).toNat = (n % ((2 ^ 64 : Nat) : Int)).toNat % 2 ^ 8 := by
    rw [BitVec.toNat_and, BitVec.toNat_ofInt, h255, Nat.and_two_pow_sub_one_eq_mod]
  show IntKind.i64.wrap ((BitVec.ofInt 64 n &&& BitVec.ofInt 64 255).toNat : Nat) = n % 256
  rw [key, IntKind.wrap_i64]
  omega
theorem i64_and30 (n : Int) : bits .and .i64 n 1073741823 = n % 1073741824 := by
  have h255 : (BitVec.ofInt 64 1073741823).toNat = 2 ^ 30 - 1 := by decide
  have key : (BitVec.ofInt 64 n &&& BitVec.ofInt 64 1073741823).toNat = (n % ((2 ^ 64 : Nat) : Int)).toNat % 2 ^ 30 := by
    rw [BitVec.toNat_and, BitVec.toNat_ofInt, h255, Nat.and_two_pow_sub_one_eq_mod]
  show IntKind.i64.wrap ((BitVec.ofInt 64 n &&& BitVec.ofInt 64 1073741823).toNat : Nat) = n % 1073741824
  rw [key, IntKind.wrap_i64]
  omega

/-- what a state gives -/
def outb (H : Int) : Int := bits BinOp.xor IntKind.i64 (H / 8589934592) (H / 35184372088832) % 256
theorem outb_bd (H : Int) : 0 ≤ outb H ∧ outb H ≤ 255 := by unfold outb; omega
structure Cu where
  i : Nat
  h : Int
/-- a byte, and the state behind -/
def byteF (zs : List Int) (len : Nat) (c : Cu) : Int × Cu :=
  if c.i < len then ((outb (lcg c.h) + zs[c.i]?.getD 0) % 256, ⟨c.i + 1, lcg c.h⟩) else (outb (lcg c.h), ⟨c.i, lcg c.h⟩)
theorem byteF_bd (zs : List Int) (len : Nat) (c : Cu) : 0 ≤ (byteF zs len c).1 ∧ (byteF zs len c).1 ≤ 255 := by
  have := outb_bd (lcg c.h)
  unfold byteF; split <;> simp <;> omega
/-- what a draw leaves: the cursor's block alone has turned -/
structure Drew (n₀ g : Nat) (a : Option Addr) (len cap : Nat) (zs : List Int) (c' : Cu) (w w' : World) : Prop where
  st : DrawSt n₀ w' g a len cap zs c'.i c'.h
  below : Below n₀ w w'
  grown : w.grownBy w' (some g)
theorem grownT {A B C : World} {row : Option Nat} (h : A.grownBy B row) (k : B.grownBy C row) : A.grownBy C row :=
  ⟨k.os.trans h.os, k.tape.trans h.tape, k.output.trans h.output, Nat.le_trans h.size k.size, fun j hj hr => (k.block j (Nat.lt_of_lt_of_le hj h.size) hr).trans (h.block j hj hr)⟩
theorem Drew.trans {n₀ g : Nat} {a : Option Addr} {len cap : Nat} {zs : List Int} {c c' : Cu} {w w1 w2 : World} (h : Drew n₀ g a len cap zs c w w1) (k : Drew n₀ g a len cap zs c' w1 w2) : Drew n₀ g a len cap zs c' w w2 :=
  ⟨k.st, h.below.trans k.below, grownT h.grown k.grown⟩

theorem drew_of {n₀ g len cap i' : Nat} {a : Option Addr} {zs : List Int} {h' : Int} {w w' : World} (hcode : CodeAt n₀ w a len zs) (hg0 : n₀ ≤ g) (hgl : g < w.heap.size) (hi : i' ≤ len)
    (hcur : w'.heap[g]? = some (.cells #[.slice a len cap, .int .i64 i', .int .i64 h'] 124 (0, 0))) (hgr : w.grownBy w' (some g)) : Drew n₀ g a len cap zs ⟨i', h'⟩ w w' := by
  have hb : Below n₀ w w' := (Below.refl n₀ w).grown hgr (by omega) (fun k e => by cases e; exact hg0)
  exact ⟨⟨hcode.below hb, hcur, hg0, hi⟩, hb, hgr⟩

set_option maxHeartbeats 800000 in
theorem byte_any (n₀ g len cap : Nat) (a : Option Addr) (zs : List Int) (c : Cu) (w : World) (hs : DrawSt n₀ w g a len cap zs c.i c.h) :
    Calls Try.prog 113 #[.pointer (some ⟨g, 0, none⟩)] w fun e w' => e = .returned (.int .i64 (byteF zs len c).1) ∧ Drew n₀ g a len cap zs (byteF zs len c).2 w w' := by
  obtain ⟨i, h⟩ := c
  dsimp only at hs
  have hc := hs.cur
  have c0 : w.cell? ⟨g, 0, none⟩ = some (.slice a len cap) := by simp [World.cell?, hc]
  have c1 : w.cell? ⟨g, 1, none⟩ = some (.int .i64 i) := by simp [World.cell?, hc]
  have c2 : w.cell? ⟨g, 2, none⟩ = some (.int .i64 h) := by simp [World.cell?, hc]
  have f1 : w.frozen? ⟨g, 1, none⟩ = false := by simp [World.frozen?, hc]
  have f2 : w.frozen? ⟨g, 2, none⟩ = false := by simp [World.frozen?, hc]
  have hlen := hs.code.1
  have hil := hs.hi
  have hcode := Lib.hid hs.code
  have hg0 := hs.hg
  clear hs
  go_enter Try.func113, Try.ntmps113
  go_wp2
  have hc1 := Joins.block_setCell (i := 2) hc (.int .i64 (lcg h))
  have hg1 : w.grownBy (w.setCell ⟨g, 2, none⟩ (.int .i64 (lcg h))) (some g) := ⟨rfl, rfl, rfl, by simp, fun k _ hk => Below.heap_setCell _ _ _ k (fun e => hk (by rw [e]))⟩
  have hH : lcg h = wrap64 (wrap64 (h * 6364136223846793005) + 1442695040888963407) := rfl
  rw [← hH]
  have HC := Lib.hid hc; clear hc hH c0 c1 c2 f1 f2
  generalize hw1 : w.setCell ⟨g, 2, none⟩ (.int .i64 (lcg h)) = w1 at *
  clear hw1
  generalize hl : lcg h = H at *
  have HL := Lib.hid hl; clear hl
  have c0 : w1.cell? ⟨g, 0, none⟩ = some (.slice a len cap) := by simp [World.cell?, hc1]
  have c1 : w1.cell? ⟨g, 1, none⟩ = some (.int .i64 i) := by simp [World.cell?, hc1]
  have c2 : w1.cell? ⟨g, 2, none⟩ = some (.int .i64 H) := by simp [World.cell?, hc1]
  have f1 : w1.frozen? ⟨g, 1, none⟩ = false := by simp [World.frozen?, hc1]
  have hob : bits BinOp.and IntKind.i64 (bits BinOp.xor IntKind.i64 (H / 8589934592) (H / 35184372088832)) 255 = outb H := i64_and255 _
  have hbd := outb_bd H
  go_quiet (fail)
  go_wp2
  generalize hx : outb H = x at *
  have HX := Lib.hid hx; clear hx hob
  by_cases hlt : i < len
  · have z1 : (i : Int) < (len : Int) := by omega
    have z0 : (0 : Int) ≤ (i : Int) := by omega
    obtain ⟨b, off, rfl, hb0, hcells⟩ : ∃ b off, a = some ⟨b, off, none⟩ ∧ b < n₀ ∧ ∀ k, k < len → w.cell? ⟨b, off + k, none⟩ = some (.int .u8 (zs[k]?.getD 0)) := by
      rcases hcode.out.2.2 with h | h
      · omega
      · exact h
    have hz := hcode.out.2.1 i
    have cz : w1.cell? ⟨b, off + i, none⟩ = some (.int .u8 (zs[i]?.getD 0)) := (World.cell?_of_block (a := ⟨b, off + i, none⟩) (hg1.block b (World.block_lt_of_cell? w _ (hcells i hlt)) (by simp; omega))).trans (hcells i hlt)
    have HCELLS := Lib.hid hcells; clear hcells
    generalize hy : zs[i]?.getD 0 = y at *
    have HY := Lib.hid hy; clear hy
    have ew : wrap64 (x + y) = x + y := IntWalk.wrap64_in _ (by omega)
    have eb : bits BinOp.and IntKind.i64 (x + y) 255 = (x + y) % 256 := i64_and255 _
    go_quiet (fail)
    go_wp2
    go_quiet (fail)
    go_wp2
    go_ret
    have hbf : byteF zs len ⟨i, h⟩ = ((x + y) % 256, ⟨i + 1, H⟩) := by unfold byteF; rw [if_pos hlt, HL.out, HX.out, HY.out]
    rw [hbf]
    have hgl := (Array.getElem?_eq_some_iff.1 HC.out).1
    have hfin := Joins.block_setCell (i := 1) hc1 (.int .i64 ((i : Int) + 1))
    exact ⟨rfl, drew_of hcode.out hg0 hgl (by show i + 1 ≤ len; omega) hfin (grownT hg1 ⟨rfl, rfl, rfl, by simp, fun k _ hk => Below.heap_setCell _ _ _ k (fun e => hk (by rw [e]))⟩)⟩
  · go_quiet (fail)
    go_wp2
    go_ret
    have hbf : byteF zs len ⟨i, h⟩ = (x, ⟨i, H⟩) := by unfold byteF; rw [if_neg hlt, HL.out, HX.out]
    rw [hbf]
    have hgl := (Array.getElem?_eq_some_iff.1 HC.out).1
    exact ⟨rfl, drew_of hcode.out hg0 hgl hil hc1 (grownT hg1 ⟨rfl, rfl, rfl, Nat.le_refl _, fun _ _ _ => rfl⟩)⟩

/-! ### numbers below a bound -/
def belowF (zs : List Int) (len : Nat) (c : Cu) (n : Int) : Int × Cu :=
  if n ≤ 0 then (0, c) else if n ≤ 256 then ((byteF zs len c).1 % n, (byteF zs len c).2) else
    let b1 := byteF zs len c; let b2 := byteF zs len b1.2; let b3 := byteF zs len b2.2; let b4 := byteF zs len b3.2
    ((b1.1 * 16777216 + b2.1 * 65536 + b3.1 * 256 + b4.1) % n, b4.2)
theorem belowF_bd (zs : List Int) (len : Nat) (c : Cu) (n : Int) : 0 ≤ (belowF zs len c n).1 ∧ (0 < n → (belowF zs len c n).1 < n) := by
  unfold belowF
  split
  · exact ⟨Int.le_refl _, fun h => by omega⟩
  · split
    · exact ⟨Int.emod_nonneg _ (by omega), fun _ => Int.emod_lt_of_pos _ (by omega)⟩
    · exact ⟨Int.emod_nonneg _ (by omega), fun _ => Int.emod_lt_of_pos _ (by omega)⟩

set_option maxHeartbeats 400000 in
theorem below_any (n₀ g len cap : Nat) (a : Option Addr) (zs : List Int) (c : Cu) (n : Int) (w : World) (hs : DrawSt n₀ w g a len cap zs c.i c.h) (hn : -9223372036854775808 ≤ n ∧ n ≤ 9223372036854775807) :
    Calls Try.prog 65 #[.pointer (some ⟨g, 0, none⟩), .int .i64 n] w fun e w' => e = .returned (.int .i64 (belowF zs len c n).1) ∧ Drew n₀ g a len cap zs (belowF zs len c n).2 w w' := by
  by_cases h0 : n ≤ 0
  · have hf : belowF zs len c n = (0, c) := by unfold belowF; rw [if_pos h0]
    rw [hf]
    have HS := Lib.hid hs; clear hs hf
    go_enter Try.func65, Try.ntmps65
    go_wp2
    go_ret
    exact ⟨rfl, ⟨HS.out, Below.refl _ _, ⟨rfl, rfl, rfl, Nat.le_refl _, fun _ _ _ => rfl⟩⟩⟩
  · by_cases h1 : n ≤ 256
    · have hf : belowF zs len c n = ((byteF zs len c).1 % n, (byteF zs len c).2) := by unfold belowF; rw [if_neg h0, if_pos h1]
      rw [hf]
      have hbd := byteF_bd zs len c
      have H1 := Lib.hid (byte_any n₀ g len cap a zs c w hs); clear hs hf
      generalize hb : byteF zs len c = b at *
      have HB := Lib.hid hb; clear hb
      go_enter Try.func65, Try.ntmps65
      go_wp2_with fail
      refine H1.out.mono ?_
      clear H1
      rintro e w1 ⟨rfl, hd⟩
      go_wp2
      go_ret
      exact ⟨rfl, hd⟩
    · have hf : belowF zs len c n = (((byteF zs len c).1 * 16777216 + (byteF zs len (byteF zs len c).2).1 * 65536 + (byteF zs len (byteF zs len (byteF zs len c).2).2).1 * 256 + (byteF zs len (byteF zs len (byteF zs len (byteF zs len c).2).2).2).1) % n, (byteF zs len (byteF zs len (byteF zs len (byteF zs len c).2).2).2).2) := by
        unfold belowF; rw [if_neg h0, if_neg h1]
      rw [hf]
      clear hf
      have hbd1 := byteF_bd zs len c
      have H1 := Lib.hid (byte_any n₀ g len cap a zs c w hs)
      generalize byteF zs len c = b1 at *
      have hbd2 := byteF_bd zs len b1.2
      have H2 := Lib.hid (fun w => byte_any n₀ g len cap a zs b1.2 w)
      generalize byteF zs len b1.2 = b2 at *
      have hbd3 := byteF_bd zs len b2.2
      have H3 := Lib.hid (fun w => byte_any n₀ g len cap a zs b2.2 w)
      generalize byteF zs len b2.2 = b3 at *
      have hbd4 := byteF_bd zs len b3.2
      have H4 := Lib.hid (fun w => byte_any n₀ g len cap a zs b3.2 w)
      generalize byteF zs len b3.2 = b4 at *
      obtain ⟨x1, c1⟩ := b1; obtain ⟨x2, c2⟩ := b2; obtain ⟨x3, c3⟩ := b3; obtain ⟨x4, c4⟩ := b4
      dsimp only at *
      clear hs
      go_enter Try.func65, Try.ntmps65
      go_wp2_with fail
      refine H1.out.mono ?_
      clear H1
      rintro e w1 ⟨rfl, hd1⟩
      go_wp2_with fail
      refine (H2.out w1 hd1.st).mono ?_
      clear H2
      rintro e w2 ⟨rfl, hd2⟩
      go_wp2_with fail
      refine (H3.out w2 hd2.st).mono ?_
      clear H3
      rintro e w3 ⟨rfl, hd3⟩
      go_wp2_with fail
      refine (H4.out w3 hd3.st).mono ?_
      clear H4
      rintro e w4 ⟨rfl, hd4⟩
      have hd := ((hd1.trans hd2).trans hd3).trans hd4
      clear hd1 hd2 hd3 hd4
      go_wp2
      go_ret
      exact ⟨rfl, hd⟩

end Go.Proofs.Ytjggheoonjajpaa
namespace Go.Proofs.Ytjggheoonjajpaa
open Go.ChangeShapes Go.WideShapes Go.ChangeAt Go.RowKit
set_option linter.unusedVariables false

def hashN (zs : List Int) : Nat → Int → Int
  | 0, h => h
  | k + 1, h => (hashN zs k h * 131 + zs[k]?.getD 0 + 7) % 1073741824
def newC (zs : List Int) (len : Nat) : Cu := ⟨0, hashN zs (min len 4000) (746746 + len)⟩
theorem hashN_bd (zs : List Int) (len : Nat) (hl : len ≤ 1048576) : ∀ k, 0 ≤ hashN zs k (746746 + len) ∧ hashN zs k (746746 + len) < 1073741824
  | 0 => by simp [hashN]; omega
  | k + 1 => by simp [hashN]; omega

set_option maxHeartbeats 800000 in
theorem new_end {n₀ len cap : Nat} {a : Option Addr} {zs : List Int} {w wr : World} {H : Int} (hc : CodeAt n₀ w a len zs) (hw : n₀ ≤ w.heap.size) (hgr : w.grownBy wr none) (hi : 0 ≤ len) :
    DrawSt n₀ (wr.alloc (.cells #[.slice a len cap, .int .i64 0, .int .i64 H] 124)) wr.heap.size a len cap zs 0 H ∧ Below n₀ w (wr.alloc (.cells #[.slice a len cap, .int .i64 0, .int .i64 H] 124)) ∧
      w.grownBy (wr.alloc (.cells #[.slice a len cap, .int .i64 0, .int .i64 H] 124)) none := by
  have hg2 := grownT hgr (World.grownBy_alloc wr (.cells #[.slice a len cap, .int .i64 0, .int .i64 H] 124) none)
  have hb : Below n₀ w (wr.alloc (.cells #[.slice a len cap, .int .i64 0, .int .i64 H] 124)) := (Below.refl _ _).grown hg2 hw (by simp)
  exact ⟨⟨hc.below hb, heap_alloc_new wr _, Nat.le_trans hw hgr.size, Nat.zero_le _⟩, hb, hg2⟩

set_option maxRecDepth 20000 in
theorem new_any (n₀ len cap : Nat) (a : Option Addr) (zs : List Int) (w : World) (hc : CodeAt n₀ w a len zs) (hw : n₀ ≤ w.heap.size) :
    Calls Try.prog 42 #[.slice a len cap] w fun e w' => ∃ g, e = .returned (.pointer (some ⟨g, 0, none⟩)) ∧ w.heap.size ≤ g ∧ DrawSt n₀ w' g a len cap zs (newC zs len).i (newC zs len).h ∧ Below n₀ w w' ∧ w.grownBy w' none := by
  have hlen := hc.1
  have hz := hc.2.1
  have hp := hc.2.2
  have hh := hashN_bd zs len hlen
  have HC := Lib.hid hc; clear hc
  go_enter Try.func42, Try.ntmps42
  go_wp2
  go_loopw [3, 4] (fun h i wr => ∃ j : Nat, j ≤ len ∧ j ≤ 4000 ∧ i = .int .i64 j ∧ h = .int .i64 (hashN zs j (746746 + len)) ∧ w.grownBy wr none)
    (fun _ i _ => len - (intOf i).toNat)
  case atStart => exact ⟨0, Nat.zero_le _, Nat.zero_le _, rfl, rfl, World.grownBy.refl _ _⟩
  case round =>
    obtain ⟨j, hj, hj4, rfl, rfl, hgr⟩ := hrel
    have hhj := hh j
    have hb : Below n₀ w wr := (Below.refl _ _).grown hgr hw (by simp)
    have hfin : (¬ (j < len ∧ j < 4000)) → newC zs len = ⟨0, hashN zs j (746746 + len)⟩ := by
      intro hn; unfold newC; congr; omega
    generalize hH : hashN zs j (746746 + len) = H at *
    have HF := Lib.hid hfin; clear hfin
    have hsz := hgr.size
    by_cases hlt : j < len
    · have z1 : (j : Int) < (len : Int) := by omega
      have z0 : (0 : Int) ≤ (j : Int) := by omega
      obtain ⟨b, off, rfl, hb0, hcells⟩ := hp.resolve_left (by omega)
      have cz : wr.cell? ⟨b, off + j, none⟩ = some (.int .u8 (zs[j]?.getD 0)) := (hb.cell (p := ⟨b, off + j, none⟩) hb0).trans (hcells j hlt)
      have hzj := hz j
      have hHs : hashN zs (j + 1) (746746 + len) = (H * 131 + zs[j]?.getD 0 + 7) % 1073741824 := by show (hashN zs j _ * 131 + _ + 7) % 1073741824 = _; rw [hH]
      have HHS := Lib.hid hHs; clear hHs hh hH
      generalize zs[j]?.getD 0 = y at *
      have HCELLS := Lib.hid hcells; clear hcells hp
      have HZ := Lib.hid hz; clear hz
      by_cases hlt4 : j < 4000
      · have e1 : wrap64 (H * 131) = H * 131 := IntWalk.wrap64_in _ (by omega)
        have e2 : wrap64 (H * 131 + y) = H * 131 + y := IntWalk.wrap64_in _ (by omega)
        have e3 : wrap64 (H * 131 + y + 7) = H * 131 + y + 7 := IntWalk.wrap64_in _ (by omega)
        have e5 : IntKind.i64.wrap (H * 131 + y) = H * 131 + y := IntWalk.i64_in _ (by omega)
        have e6 : IntKind.i64.wrap (H * 131 + y + 7) = H * 131 + y + 7 := IntWalk.i64_in _ (by omega)
        have e7 : IntKind.i64.wrap (H * 131) = H * 131 := IntWalk.i64_in _ (by omega)
        have e4 : bits BinOp.and IntKind.i64 (H * 131 + y + 7) 1073741823 = (H * 131 + y + 7) % 1073741824 := i64_and30 _
        go_wp2
        go_roundw
        case rel => exact ⟨j + 1, by omega, by omega, by go_num, by rw [HHS.out], hgr⟩
        case measure => simp [intOf]; omega
      · clear HHS HCELLS HZ
        go_wp2
        go_ret
        refine ⟨_, rfl, hsz, ?_⟩
        rw [HF.out (by omega)]
        exact new_end HC.out hw hgr (by omega)
    · clear hz hp hh
      have z1 : ¬ (j : Int) < (len : Int) := by omega
      go_wp2
      go_ret
      refine ⟨_, rfl, hsz, ?_⟩
      rw [HF.out (by omega)]
      exact new_end HC.out hw hgr (by omega)

theorem pickint_any (n₀ g len cap lb n : Nat) (a : Option Addr) (zs : List Int) (c : Cu) (xs : List Int) (w : World) (hs : DrawSt n₀ w g a len cap zs c.i c.h) (hn : 0 < n) (hn2 : n ≤ 256) (hx : xs.length = n) (hlg : lb ≠ g)
    (hcells : ∀ k, k < n → w.cell? ⟨lb, k, none⟩ = some (.int .i64 (xs[k]?.getD 0))) :
    Calls Try.prog 64 #[.pointer (some ⟨g, 0, none⟩), .slice (some ⟨lb, 0, none⟩) n n] w fun e w' => e = .returned (.int .i64 (xs[(belowF zs len c n).1.toNat]?.getD 0)) ∧ Drew n₀ g a len cap zs (belowF zs len c n).2 w w' := by
  have H1 := Lib.hid (below_any n₀ g len cap a zs c n w hs (by omega)); clear hs
  have hbd := belowF_bd zs len c n
  generalize belowF zs len c n = b at *
  obtain ⟨x, c'⟩ := b
  dsimp only at *
  have hx0 : 0 ≤ x := hbd.1
  have hx1 : x < (n : Int) := hbd.2 (by omega)
  obtain ⟨m, rfl⟩ : ∃ m : Nat, x = m := ⟨x.toNat, by omega⟩
  have hm : m < n := by omega
  have hc := hcells m hm
  have e1 : (m : Int).toNat = m := by omega
  rw [e1]
  generalize xs[m]?.getD 0 = y at *
  clear hcells hbd
  go_enter Try.func64, Try.ntmps64
  go_wp2_with fail
  refine H1.out.mono ?_
  clear H1
  rintro e w1 ⟨rfl, hd⟩
  have hc1 : w1.cell? ⟨lb, m, none⟩ = some (.int .i64 y) := hd.grown.cell hc (by simpa using hlg)
  go_wp2
  go_ret
  exact ⟨rfl, hd⟩
theorem Drew.alloc {n₀ g : Nat} {a : Option Addr} {len cap : Nat} {zs : List Int} {c : Cu} {w w1 : World} (h : Drew n₀ g a len cap zs c w w1) (o : Obj) : Drew n₀ g a len cap zs c w (w1.alloc o) := by
  have hgl := (Array.getElem?_eq_some_iff.1 h.st.cur).1
  have hg0 := h.st.hg
  refine ⟨⟨h.st.code.below ((Below.refl _ _).alloc (by omega) o), ?_, hg0, h.st.hi⟩, h.below.trans ((Below.refl _ _).alloc (by omega) o), grownT h.grown (World.grownBy_alloc _ _ _)⟩
  exact ((World.grownBy_alloc w1 o none).block g hgl (by simp)).trans h.st.cur
theorem DrawSt.lt {n₀ g : Nat} {a : Option Addr} {len cap : Nat} {zs : List Int} {i : Nat} {h : Int} {w : World} (hs : DrawSt n₀ w g a len cap zs i h) : g < w.heap.size := (Array.getElem?_eq_some_iff.1 hs.cur).1
theorem lit_cell (w : World) (cs : Array Value) (e : TypeId) (k : Nat) : (w.alloc (.cells cs e)).cell? ⟨w.heap.size, k, none⟩ = cs[k]? := cell_of_row _ _ _ _ _ _ (heap_alloc_new w _)

/-- what a walk is told of bytes that came in -/
def IsRow (k : IntKind) (w : World) (a : Option Addr) (len cap : Nat) (zs : List Int) : Prop :=
  (a = none ∧ len = 0 ∧ cap = 0 ∧ zs = []) ∨
  ∃ x, a = some x ∧ len ≤ cap ∧ cap ≤ maxLen ∧ zs.length = cap ∧ (∀ i, i < zs.length → w.cell? (x.add i) = some (.int k (zs.getD i 0))) ∧ ∀ n ∈ zs, (Lit.int k n).wf = true
theorem codeAt_of {w : World} {a : Option Addr} {len cap : Nat} {zs : List Int} (h : IsRow .u8 w a len cap zs) (hl : len ≤ 1048576) : CodeAt w.heap.size w a len zs := by
  rcases h with ⟨rfl, rfl, rfl, rfl⟩ | ⟨x, rfl, h1, h2, h3, h4, h5⟩
  · exact ⟨hl, by simp, .inl rfl⟩
  · refine ⟨hl, fun k => range_u8 h5 k, ?_⟩
    · rcases Nat.eq_zero_or_pos len with h0 | h0
      · exact .inl h0
      · obtain ⟨b, off, spot⟩ := x
        have hc := h4 0 (by omega)
        have hs : spot = none := by simpa [Addr.add] using World.cell?_spot hc
        subst hs
        refine .inr ⟨b, off, rfl, World.block_lt_of_cell? w ⟨b, off, none⟩ (by simpa [Addr.add] using hc), fun k hk => ?_⟩
        have := h4 k (by omega)
        rw [List.getD_eq_getElem?_getD] at this
        rw [← this]
        unfold Addr.add
        split
        · rename_i e; subst e; rfl
        · rfl
theorem big_any (a : Option Addr) (len cap : Nat) (w : World) (hl : len ≤ 1048576) : Calls Try.prog 11 #[.slice a len cap] w fun e w' => e = .returned (.bool false) ∧ w' = w := by
  have z1 : ¬ (1048576 : Int) < (len : Int) := by omega
  go_enter Try.func11, Try.ntmps11
  go_wp2
  go_ret
  exact ⟨rfl, rfl⟩
theorem big_true (a : Option Addr) (len cap : Nat) (w : World) (hl : ¬ len ≤ 1048576) : Calls Try.prog 11 #[.slice a len cap] w fun e w' => e = .returned (.bool true) ∧ w' = w := by
  have z1 : (1048576 : Int) < (len : Int) := by omega
  go_enter Try.func11, Try.ntmps11
  go_wp2
  go_ret
  exact ⟨rfl, rfl⟩

end Go.Proofs.Ytjggheoonjajpaa
namespace Go.Proofs.Ytjggheoonjajpaa
open Go.ChangeShapes Go.WideShapes Go.ChangeAt Go.RowKit
set_option linter.unusedVariables false

theorem grown_of_below' {A B : World} (h : Below A.heap.size A B) (row : Option Nat) : A.grownBy B row := ⟨h.os, h.tape, h.output, h.size, fun k hk _ => h.block k hk⟩
theorem grown_trans {A B C : World} {row : Option Nat} (h : A.grownBy B row) (k : B.grownBy C row) : A.grownBy C row :=
  ⟨k.os.trans h.os, k.tape.trans h.tape, k.output.trans h.output, Nat.le_trans h.size k.size, fun j hj hr => (k.block j (Nat.lt_of_lt_of_le hj h.size) hr).trans (h.block j hj hr)⟩
end Go.Proofs.Ytjggheoonjajpaa
namespace Go.Proofs.Ytjggheoonjajpaa
open Go.ChangeShapes Go.WideShapes Go.ChangeAt Go.RowKit
set_option linter.unusedVariables false

theorem sin_any (x a b : Int) (w : World) : Calls Try.prog 57 #[.int .i64 x, .int .i64 a, .int .i64 b] w fun e w' => e = .returned (.bool (decide (a ≤ x) && decide (x ≤ b))) ∧ w' = w := by
  by_cases h1 : a ≤ x <;> by_cases h2 : x ≤ b
  all_goals
    go_enter Try.func57, Try.ntmps57
    go_wp2
    go_ret
    simp [h1, h2]
end Go.Proofs.Ytjggheoonjajpaa
namespace Go.Proofs.Ytjggheoonjajpaa
open Go.ChangeShapes Go.WideShapes Go.ChangeAt Go.RowKit
set_option linter.unusedVariables false

abbrev K2 := Int × Int
def kv (k : K2) : Value := .agg #[.int .i64 k.1, .int .i64 k.2]
def keyOkB (k : K2) : Bool := (decide (1 ≤ k.1) && decide (k.1 ≤ 20)) && (decide (1 ≤ k.2) && decide (k.2 ≤ 99))
def aheadB (a b : K2) : Bool := if a.1 = b.1 then decide (a.2 < b.2) else decide (a.1 < b.1)
/-- the slice value v leads to the keys ks -/
def keysAt (w : World) (v : Value) (ks : List K2) : Prop :=
  ∃ a cap, v = .slice a ks.length cap ∧ ks.length ≤ cap ∧ (ks.length = 0 ∨ ∃ g off, a = some ⟨g, off, none⟩ ∧ g < w.heap.size ∧
    ∀ i, i < ks.length → w.cell? ⟨g, off + i * 2, none⟩ = some (.int .i64 (ks.getD i (0, 0)).1) ∧ w.cell? ⟨g, off + i * 2 + 1, none⟩ = some (.int .i64 (ks.getD i (0, 0)).2))
theorem keysAt_below {w w' : World} {v : Value} {ks : List K2} (h : keysAt w v ks) (hb : Below w.heap.size w w') : keysAt w' v ks := by
  obtain ⟨a, cap, h1, h2, h3⟩ := h
  refine ⟨a, cap, h1, h2, h3.imp_right ?_⟩
  rintro ⟨g, off, h4, h5, h6⟩
  refine ⟨g, off, h4, Nat.lt_of_lt_of_le h5 hb.size, fun i hi => ?_⟩
  rw [hb.cell (p := ⟨g, off + i * 2, none⟩) h5, hb.cell (p := ⟨g, off + i * 2 + 1, none⟩) h5]
  exact h6 i hi
end Go.Proofs.Ytjggheoonjajpaa
namespace Go.Proofs.Ytjggheoonjajpaa
open Go.BigFrame Go.RowKit Go.ChangeShapes Go.WideShapes
section
variable {P : Program} {ops : Array Oper} {C : World → Prop} {Q : Act → Prop} {a : Act} {o : Oper} {rest : List Oper} {K : Act → Prop}
theorem q_load (ty : TypeId) (x : Operand) (p : Addr) (v : Value) (ho : o.op = .load ty x) (hx : a.eval x = .pointer (some p)) (hl : ∀ w, C w → (loadVar ty p).run P w = .ok v w) (hk : K (a.put o.dst v)) : o.quiet P a C K := by
  refine ⟨v, fun w hw => ?_, hk⟩
  unfold Oper.quietAt execOp
  simp only [ho, hx, Instr.loadAt, Instr.sureAddr, Sem.run_bind, Sem.run_pure, Result.andThen_ok, hl w hw]
  exact ⟨rfl, rfl⟩
theorem q_bin (op : BinOp) (t ty : TypeId) (x y : Operand) (u v z : Value) (ho : o.op = .binOp op t x y ty) (hx : a.eval x = u) (hy : a.eval y = v) (hg : ∀ w, (eqGuard op t x y u v).run P w = .ok () w) (hb : ∀ w, (binOp op t u v).run P w = .ok z w)
    (hk : K (a.put o.dst z)) : o.quiet P a C K := by
  refine ⟨z, fun w hw => ?_, hk⟩
  unfold Oper.quietAt execOp
  simp only [ho, hx, hy, Sem.run_bind, hg w, hb w, Result.andThen_ok, Sem.run_pure]
  exact ⟨rfl, rfl⟩
end
/-- the class: new blocks alone -/
theorem wp_region_below {P : Program} {id : Nat} {Q : Exit → Act → World → Prop} {a : Act} {w : World} {l : List Oper} (w0 : World) (hm : P.follows .mixedOrders = true) (hB : Region.lexB .any l.toArray = true) (h0 : Below w0.heap.size w0 w)
    (h : wpQuiet P l.toArray (fun w' => Below w0.heap.size w0 w') (fun a' => ∀ w', Below w0.heap.size w0 w' → Q .normal a' w') l a) : (Code.region id l.toArray true).wp P Q a w :=
  wp_region_quiet (C := fun w' => Below w0.heap.size w0 w') hm hB h0.drew (by simpa using h)
end Go.Proofs.Ytjggheoonjajpaa
namespace Go.Proofs.Ytjggheoonjajpaa
open Go.ChangeShapes Go.WideShapes Go.ChangeAt Go.RowKit Go.BigFrame
set_option linter.unusedVariables false

theorem skeyok_any (k : K2) (w : World) : Calls Try.prog 108 #[kv k] w fun e w' => e = .returned (.bool (keyOkB k)) ∧ Below w.heap.size w w' := by
  obtain ⟨n, s⟩ := k
  unfold keyOkB kv
  dsimp only
  have hb : ∀ o, Below w.heap.size w (w.alloc o) := fun o => (Below.refl _ _).alloc (Nat.le_refl _) _
  generalize hp : (decide (1 ≤ n) && decide (n ≤ 20)) = p
  generalize hq : (decide (1 ≤ s) && decide (s ≤ 99)) = q
  have H1 := fun w => sin_any n 1 20 w
  have H2 := fun w => sin_any s 1 99 w
  rw [hp] at H1; rw [hq] at H2
  clear hp hq
  go_enter Try.func108, Try.ntmps108
  cases p with
  | false =>
    go_wp2_with (go_at_call 57; refine (H1 _).mono ?_; rintro e w1 ⟨rfl, rfl⟩)
    go_ret
    exact ⟨by simp, hb _⟩
  | true =>
    go_wp2_with fail
    refine (H1 _).mono ?_
    rintro e w1 ⟨rfl, rfl⟩
    go_wp2_with fail
    refine (H2 _).mono ?_
    rintro e w1 ⟨rfl, rfl⟩
    go_wp2
    go_ret
    exact ⟨by simp, hb _⟩
theorem sahead_any (a b : K2) (w : World) : Calls Try.prog 118 #[kv a, kv b] w fun e w' => e = .returned (.bool (aheadB a b)) ∧ Below w.heap.size w w' := by
  obtain ⟨n, s⟩ := a
  obtain ⟨m, t⟩ := b
  have hb : ∀ o o', Below w.heap.size w ((w.alloc o).alloc o') := fun o o' => ((Below.refl _ _).alloc (Nat.le_refl _) _).alloc (by simp) _
  by_cases h : n = m
  · have ha : aheadB (n, s) (m, t) = decide (s < t) := by unfold aheadB; rw [if_pos h]
    rw [ha]
    unfold kv
    dsimp only
    subst h
    go_enter Try.func118, Try.ntmps118
    go_wp2
    go_ret
    exact ⟨rfl, hb _ _⟩
  · have ha : aheadB (n, s) (m, t) = decide (n < m) := by unfold aheadB; rw [if_neg h]
    rw [ha]
    unfold kv
    dsimp only
    go_enter Try.func118, Try.ntmps118
    go_wp2
    go_ret
    exact ⟨rfl, hb _ _⟩

theorem key_load {w : World} {g o : Nat} {k : K2} (hc : w.cell? ⟨g, o, none⟩ = some (.int .i64 k.1) ∧ w.cell? ⟨g, o + 1, none⟩ = some (.int .i64 k.2)) {w' : World} (hg : g < w.heap.size) (hb : Below w.heap.size w w') :
    (loadVar 36 ⟨g, o, none⟩).run Try.prog w' = .ok (kv k) w' := by
  refine run_loadVar_mid w' g o 36 [.int .i64 k.1, .int .i64 k.2] _ (fun j v hj => ?_) Try.underlying36 rfl (by kernel_rfl)
  have hj2 : j < 2 := by have := (List.getElem?_eq_some_iff.1 hj).1; simpa using this
  rcases (by omega : j = 0 ∨ j = 1) with rfl | rfl
  · rw [hb.cell (p := ⟨g, o + 0, none⟩) hg]
    simpa using hc.1.trans (by simpa using hj)
  · rw [hb.cell (p := ⟨g, o + 1, none⟩) hg]
    simpa using hc.2.trans (by simpa using hj)
end Go.Proofs.Ytjggheoonjajpaa
namespace Go.Proofs.Ytjggheoonjajpaa
open Go.ChangeShapes Go.WideShapes Go.ChangeAt Go.RowKit Go.BigFrame
set_option linter.unusedVariables false
theorem key_equal (p q : K2) (w : World) : (Op.equalIn 10000 36 (kv p) (kv q)).run Try.prog w = .ok (p == q) w := by
  obtain ⟨a, b⟩ := p; obtain ⟨c, d⟩ := q
  have u3 := Try.underlying3
  have hS : Try.prog.underlying 36 = some (.struct (Try.prog.fieldsOf 36)) := by kernel_rfl
  unfold kv
  rw [show (10000 : Nat) = 9999 + 1 from rfl, run_equalIn_agg w 9999 36 _ _ hS (by kernel_rfl)]
  simp only [Program.fieldsOf, Try.underlying36]
  go_simp
  by_cases h1 : a = c <;> by_cases h2 : b = d <;> simp [h1, h2]
theorem key_eql (p q : K2) (w : World) : (binOp .eql 36 (kv p) (kv q)).run Try.prog w = .ok (.bool (p == q)) w := by
  have := key_equal p q w
  unfold kv at *
  rw [run_eql_struct, this]; rfl
theorem key_neq (p q : K2) (w : World) : (binOp .neq 36 (kv p) (kv q)).run Try.prog w = .ok (.bool (!(p == q))) w := by
  have := key_equal p q w
  unfold kv at *
  rw [run_neq_struct, this]; rfl
theorem key_guard (op : BinOp) (x y : Operand) (p q : K2) (w : World) : (eqGuard op 36 x y (kv p) (kv q)).run Try.prog w = .ok () w := by
  unfold kv
  exact run_eqGuard_agg w op 36 x y _ _ (by kernel_rfl)
end Go.Proofs.Ytjggheoonjajpaa
namespace Go.Proofs.Ytjggheoonjajpaa
open Go.ChangeShapes Go.WideShapes Go.ChangeAt Go.RowKit Go.BigFrame
set_option linter.unusedVariables false

theorem infoK : (Try.prog.info? 36).map (fun i => (i.zero, i.size, i.bytes)) = some (some (.agg #[.int .i64 0, .int .i64 0]), 2, 16) := by kernel_rfl
def keyCells (ks : List K2) : List Value := ks.flatMap fun k => [.int .i64 k.1, .int .i64 k.2]
theorem keyCells_len : ∀ ks : List K2, (keyCells ks).length = ks.length * 2
  | [] => rfl
  | k :: r => by
    have := keyCells_len r
    simp only [keyCells, List.flatMap_cons, List.length_append, List.length_cons, List.length_nil] at *
    omega
theorem keyCells_get : ∀ (ks : List K2) (i : Nat), i < ks.length → (keyCells ks)[i * 2]? = some (.int .i64 (ks.getD i (0, 0)).1) ∧ (keyCells ks)[i * 2 + 1]? = some (.int .i64 (ks.getD i (0, 0)).2)
  | [], _, h => by simp at h
  | k :: r, 0, _ => by simp [keyCells]
  | k :: r, i + 1, h => by
    have ih := keyCells_get r i (by simpa using h)
    have e1 : (i + 1) * 2 = i * 2 + 1 + 1 := by omega
    have e2 : (i + 1) * 2 + 1 = i * 2 + 1 + 1 + 1 := by omega
    rw [e1]
    simp only [keyCells, List.flatMap_cons, List.cons_append, List.nil_append, List.getElem?_cons_succ, List.getD_cons_succ] at *
    exact ih
theorem own_below {w w' : World} {base n : Nat} {e : TypeId} {size : Nat} {v : Value} {xs : List Value} (h : w.ownsRow base e size v n xs) (hb : Below w.heap.size w w') : w'.ownsRow base e size v n xs :=
  h.kept (grown_of_below' hb none) (by cases hv : v.ownBlock <;> simp)

end Go.Proofs.Ytjggheoonjajpaa
namespace Go.Proofs.Ytjggheoonjajpaa
open Go.ChangeShapes Go.WideShapes Go.ChangeAt Go.RowKit Go.BigFrame
set_option linter.unusedVariables false
theorem own_cell {w : World} {base g n cap : Nat} {e : TypeId} {size : Nat} {xs : List Value} (h : w.ownsRow base e size (.slice (some ⟨g, 0, none⟩) n cap) n xs) (j : Nat) (hj : j < n * size) :
    w.cell? ⟨g, j, none⟩ = some (xs.getD j undef) ∧ w.frozen? ⟨g, j, none⟩ = false := by
  have hl : xs.length = n * size := h.1
  refine ⟨?_, ?_⟩
  · rw [h.cellAt j hj]
    simp [List.getD, show j < xs.length by omega]
  · rcases h.2 with ⟨h1, _⟩ | ⟨g', cap', cur, h1, _, hg, _⟩
    · simp at h1
    · simp only [Value.slice.injEq, Option.some.injEq, Addr.mk.injEq, and_true, true_and] at h1
      obtain ⟨rfl, rfl⟩ := h1
      simp [World.frozen?, hg]
theorem own_base {w : World} {base base' n : Nat} {e : TypeId} {size : Nat} {v : Value} {xs : List Value} (h : w.ownsRow base' e size v n xs) (hb : base ≤ base') : w.ownsRow base e size v n xs := by
  refine ⟨h.1, h.2.imp_right ?_⟩
  rintro ⟨g, cap, cur, h1, h2, h3⟩
  exact ⟨g, cap, cur, h1, Nat.le_trans hb h2, h3⟩
end Go.Proofs.Ytjggheoonjajpaa
namespace Go.Proofs.Ytjggheoonjajpaa
open Go.RowKit Go.ChangeShapes Go.WideShapes Go.ChangeAt
set_option linter.unusedVariables false
def intsV (xs : List Int) : List Value := xs.map (Value.int .i64)
theorem intsV_len (xs : List Int) : (intsV xs).length = xs.length := by simp [intsV]
theorem intsV_get (xs : List Int) (i : Nat) (h : i < xs.length) : (intsV xs)[i]? = some (.int .i64 (xs[i]?.getD 0)) := by simp [intsV, h]
/-- the slice value v leads to the numbers xs -/
def inAt (w : World) (v : Value) (xs : List Int) : Prop :=
  ∃ a cap, v = .slice a xs.length cap ∧ xs.length ≤ cap ∧ (xs.length = 0 ∨ ∃ g off, a = some ⟨g, off, none⟩ ∧ g < w.heap.size ∧
    ∀ i, i < xs.length → w.cell? ⟨g, off + i, none⟩ = some (.int .i64 (xs[i]?.getD 0)))
theorem inAt_below {w w' : World} {v : Value} {xs : List Int} (h : inAt w v xs) (hb : Below w.heap.size w w') : inAt w' v xs := by
  obtain ⟨a, cap, h1, h2, h3⟩ := h
  refine ⟨a, cap, h1, h2, h3.imp_right ?_⟩
  rintro ⟨g, off, h4, h5, h6⟩
  exact ⟨g, off, h4, Nat.lt_of_lt_of_le h5 hb.size, fun i hi => (hb.cell (p := ⟨g, off + i, none⟩) h5).trans (h6 i hi)⟩
theorem inAt_nil (w : World) : inAt w (.slice none 0 0) [] := ⟨none, 0, rfl, by simp, .inl rfl⟩
theorem own_int {w : World} {base g n cap : Nat} {xs : List Int} (h : w.ownsRow base 3 1 (.slice (some ⟨g, 0, none⟩) n cap) n (intsV xs)) (j : Nat) (hj : j < n) : w.cell? ⟨g, j, none⟩ = some (.int .i64 (xs[j]?.getD 0)) := by
  have hl := h.1
  rw [intsV_len] at hl
  have := (own_cell h j (by omega)).1
  rw [List.getD_eq_getElem?_getD, intsV_get xs _ (by omega), Option.getD_some] at this
  exact this
theorem inAt_own {w : World} {base n : Nat} {v : Value} {xs : List Int} (h : w.ownsRow base 3 1 v n (intsV xs)) (hn : n = xs.length) : inAt w v xs := by
  subst hn
  rcases h.2 with ⟨rfl, h0⟩ | ⟨g, cap, cur, rfl, hb, hg, hn, hm, hs, ht⟩
  · exact ⟨none, 0, by rw [h0], by omega, .inl h0⟩
  · exact ⟨_, cap, rfl, hn, .inr ⟨g, 0, rfl, (Array.getElem?_eq_some_iff.1 hg).1, fun i hi => by rw [Nat.zero_add]; exact own_int h i hi⟩⟩
end Go.Proofs.Ytjggheoonjajpaa
namespace Go.Proofs.Ytjggheoonjajpaa
open Go.RowKit Go.ChangeShapes Go.WideShapes Go.ChangeAt
set_option linter.unusedVariables false
set_option maxRecDepth 100000 in
set_option maxHeartbeats 1000000 in
theorem sameints_self (va vb : Value) (A : List Int) (w : World) (ha : inAt w va A) (hb : inAt w vb A) (hn : A.length ≤ 4000000) :
    Calls Try.prog 52 #[va, vb] w fun e w' => e = .returned (.bool true) ∧ Below w.heap.size w w' := by
  obtain ⟨a1, c1, rfl, hc1, h1⟩ := ha
  obtain ⟨a2, c2, rfl, hc2, h2⟩ := hb
  generalize hN : A.length = n at *
  rcases Nat.eq_zero_or_pos n with rfl | hp
  · clear h1 h2
    go_enter Try.func52, Try.ntmps52
    go_wp2
    go_loopw [5] (fun i wr => i = .int .i64 0 ∧ wr = w) (fun _ _ => 0)
    case atStart => exact ⟨rfl, rfl⟩
    case round =>
      obtain ⟨rfl, rfl⟩ := hrel
      go_wp2
      go_ret
      exact ⟨rfl, Below.refl _ _⟩
  · obtain ⟨g1, o1, rfl, l1, h1⟩ := h1.resolve_left (by omega)
    obtain ⟨g2, o2, rfl, l2, h2⟩ := h2.resolve_left (by omega)
    go_enter Try.func52, Try.ntmps52
    go_wp2
    go_loopw [5] (fun i wr => ∃ (k : Nat), k ≤ n ∧ i = .int .i64 k ∧ Below w.heap.size w wr)
      (fun i _ => n - (intOf i).toNat)
    case atStart => exact ⟨0, Nat.zero_le _, rfl, Below.refl _ _⟩
    case round =>
      obtain ⟨k, hk, rfl, hbr⟩ := hrel
      by_cases hlt : k < n
      · have z0 : (0 : Int) ≤ (k : Int) := by omega
        have z1 : (k : Int) < (n : Int) := by omega
        have d1 := (hbr.cell (p := ⟨g1, o1 + k, none⟩) l1).trans (h1 k hlt)
        have d2 := (hbr.cell (p := ⟨g2, o2 + k, none⟩) l2).trans (h2 k hlt)
        have R := Lib.hid hbr
        clear h1 h2 hbr
        generalize A[k]?.getD 0 = x at *
        go_wp2
        go_region
        go_wp2
        exact ⟨⟨k + 1, by omega, by go_num, R.out.drew⟩, by simp [intOf] <;> omega⟩
      · obtain rfl : k = n := by omega
        clear h1 h2
        go_wp2
        go_ret
        exact ⟨rfl, hbr⟩
end Go.Proofs.Ytjggheoonjajpaa
namespace Go.Proofs.Ytjggheoonjajpaa
set_option linter.unusedVariables false

theorem bytes_toList_iff (a b : ByteArray) : a.toList = b.toList ↔ a = b := by
  refine ⟨fun h => ?_, fun h => by rw [h]⟩
  rw [ByteArray.toList_eq, ByteArray.toList_eq] at h
  exact ByteArray.ext (Array.toList_inj.1 h)
end Go.Proofs.Ytjggheoonjajpaa
namespace Go.Proofs.Ytjggheoonjajpaa
open Go.ChangeShapes Go.WideShapes Go.ChangeAt Go.RowKit Go.BigFrame
set_option linter.unusedVariables false

abbrev R3 := K2 × ByteArray
def r0 : R3 := ((0, 0), ByteArray.empty)
def rv (r : R3) : Value := .agg #[.int .i64 r.1.1, .int .i64 r.1.2, .string r.2]
def rdOkB (r : R3) : Bool := keyOkB r.1 && decide (r.2.size = 4)
/-- the slice value v leads to the readings rs -/
def rdAt (w : World) (v : Value) (rs : List R3) : Prop :=
  ∃ a cap, v = .slice a rs.length cap ∧ rs.length ≤ cap ∧ (rs.length = 0 ∨ ∃ g off, a = some ⟨g, off, none⟩ ∧ g < w.heap.size ∧
    ∀ i, i < rs.length → w.cell? ⟨g, off + i * 3, none⟩ = some (.int .i64 (rs.getD i r0).1.1) ∧ w.cell? ⟨g, off + i * 3 + 1, none⟩ = some (.int .i64 (rs.getD i r0).1.2) ∧
      w.cell? ⟨g, off + i * 3 + 2, none⟩ = some (.string (rs.getD i r0).2))
theorem rdAt_below {w w' : World} {v : Value} {rs : List R3} (h : rdAt w v rs) (hb : Below w.heap.size w w') : rdAt w' v rs := by
  obtain ⟨a, cap, h1, h2, h3⟩ := h
  refine ⟨a, cap, h1, h2, h3.imp_right ?_⟩
  rintro ⟨g, off, h4, h5, h6⟩
  refine ⟨g, off, h4, Nat.lt_of_lt_of_le h5 hb.size, fun i hi => ?_⟩
  rw [hb.cell (p := ⟨g, off + i * 3, none⟩) h5, hb.cell (p := ⟨g, off + i * 3 + 1, none⟩) h5, hb.cell (p := ⟨g, off + i * 3 + 2, none⟩) h5]
  exact h6 i hi
def rdCells (rs : List R3) : List Value := rs.flatMap fun r => [.int .i64 r.1.1, .int .i64 r.1.2, .string r.2]
theorem rdCells_snoc (rs : List R3) (r : R3) : rdCells (rs ++ [r]) = rdCells rs ++ [.int .i64 r.1.1, .int .i64 r.1.2, .string r.2] := by simp [rdCells]
theorem rdCells_get : ∀ (rs : List R3) (i : Nat), i < rs.length → (rdCells rs)[i * 3]? = some (.int .i64 (rs.getD i r0).1.1) ∧ (rdCells rs)[i * 3 + 1]? = some (.int .i64 (rs.getD i r0).1.2) ∧ (rdCells rs)[i * 3 + 2]? = some (.string (rs.getD i r0).2)
  | [], _, h => by simp at h
  | k :: r, 0, _ => by simp [rdCells]
  | k :: r, i + 1, h => by
    have ih := rdCells_get r i (by simpa using h)
    have e1 : (i + 1) * 3 = i * 3 + 1 + 1 + 1 := by omega
    rw [e1, show i * 3 + 1 + 1 + 1 + 1 = i * 3 + 1 + 1 + 1 + 1 from rfl, show i * 3 + 1 + 1 + 1 + 2 = i * 3 + 2 + 1 + 1 + 1 by omega]
    simp only [rdCells, List.flatMap_cons, List.cons_append, List.nil_append, List.getElem?_cons_succ, List.getD_cons_succ] at *
    exact ih
/-- what is owned leads to its readings -/
theorem rdAt_own {w : World} {base : Nat} {v : Value} {rs : List R3} (h : w.ownsRow base 38 3 v rs.length (rdCells rs)) : rdAt w v rs := by
  rcases h.2 with ⟨rfl, h0⟩ | ⟨g, cap, cur, rfl, hb, hg, hn, hm, hs, ht⟩
  · exact ⟨none, 0, by rw [h0], by omega, .inl h0⟩
  · refine ⟨_, cap, rfl, hn, .inr ⟨g, 0, rfl, (Array.getElem?_eq_some_iff.1 hg).1, fun i hi => ?_⟩⟩
    have hc := rdCells_get rs i hi
    rw [Nat.zero_add, h.cellAt (i * 3) (by omega), h.cellAt (i * 3 + 1) (by omega), h.cellAt (i * 3 + 2) (by omega)]
    exact hc
theorem rd_load {w : World} {g o : Nat} {r : R3} (hc : w.cell? ⟨g, o, none⟩ = some (.int .i64 r.1.1) ∧ w.cell? ⟨g, o + 1, none⟩ = some (.int .i64 r.1.2) ∧ w.cell? ⟨g, o + 2, none⟩ = some (.string r.2)) {w' : World} (hg : g < w.heap.size) (hb : Below w.heap.size w w') :
    (loadVar 38 ⟨g, o, none⟩).run Try.prog w' = .ok (rv r) w' := by
  refine run_loadVar_mid w' g o 38 [.int .i64 r.1.1, .int .i64 r.1.2, .string r.2] _ (fun j v hj => ?_) Try.underlying38 rfl (by kernel_rfl)
  have hj2 : j < 3 := by have := (List.getElem?_eq_some_iff.1 hj).1; simpa using this
  rcases (by omega : j = 0 ∨ j = 1 ∨ j = 2) with rfl | rfl | rfl
  · rw [hb.cell (p := ⟨g, o + 0, none⟩) hg]
    simpa using hc.1.trans (by simpa using hj)
  · rw [hb.cell (p := ⟨g, o + 1, none⟩) hg]
    simpa using hc.2.1.trans (by simpa using hj)
  · rw [hb.cell (p := ⟨g, o + 2, none⟩) hg]
    simpa using hc.2.2.trans (by simpa using hj)
/-- the key of a reading, alone -/
theorem rdk_load {w : World} {g o : Nat} {r : R3} (hc : w.cell? ⟨g, o, none⟩ = some (.int .i64 r.1.1) ∧ w.cell? ⟨g, o + 1, none⟩ = some (.int .i64 r.1.2) ∧ w.cell? ⟨g, o + 2, none⟩ = some (.string r.2)) {w' : World} (hg : g < w.heap.size) (hb : Below w.heap.size w w') :
    (loadVar 36 ⟨g, o, none⟩).run Try.prog w' = .ok (kv r.1) w' := key_load ⟨hc.1, hc.2.1⟩ hg hb
end Go.Proofs.Ytjggheoonjajpaa
namespace Go.Proofs.Ytjggheoonjajpaa
open Go.ChangeShapes Go.WideShapes Go.ChangeAt Go.RowKit Go.BigFrame
set_option linter.unusedVariables false
theorem key_equal_d (d : Nat) (p q : K2) (w : World) : (Op.equalIn (d + 1 + 1) 36 (kv p) (kv q)).run Try.prog w = .ok (decide (p = q)) w := by
  obtain ⟨a, b⟩ := p; obtain ⟨c, e⟩ := q
  have u3 := Try.underlying3
  have hS : Try.prog.underlying 36 = some (.struct (Try.prog.fieldsOf 36)) := by kernel_rfl
  unfold kv
  rw [run_equalIn_agg w (d + 1) 36 _ _ hS (by kernel_rfl)]
  simp only [Program.fieldsOf, Try.underlying36]
  go_simp
  by_cases h1 : a = c <;> by_cases h2 : b = e <;> simp [h1, h2]
theorem rd_equal_d (d : Nat) (p q : R3) (w : World) : (Op.equalIn (d + 1 + 1 + 1) 38 (rv p) (rv q)).run Try.prog w = .ok (decide (p = q)) w := by
  obtain ⟨⟨a, b⟩, s⟩ := p; obtain ⟨⟨c, e⟩, t⟩ := q
  have us := Try.underlying9
  have hS : Try.prog.underlying 38 = some (.struct (Try.prog.fieldsOf 38)) := by kernel_rfl
  have hk := key_equal_d d (a, b) (c, e) w
  unfold kv at hk
  unfold rv
  rw [run_equalIn_agg w (d + 1 + 1) 38 _ _ hS (by kernel_rfl)]
  simp only [Program.fieldsOf, Try.underlying38]
  go_simp
  simp only [bytes_toList_iff]
  by_cases h1 : a = c <;> by_cases h2 : b = e <;> by_cases h3 : s = t <;> simp [h1, h2, h3]
theorem rd_equal (p q : R3) (w : World) : (Op.equalIn 10000 38 (rv p) (rv q)).run Try.prog w = .ok (decide (p = q)) w := rd_equal_d 9997 p q w
theorem rd_eql (p q : R3) (w : World) : (binOp .eql 38 (rv p) (rv q)).run Try.prog w = .ok (.bool (decide (p = q))) w := by
  have := rd_equal p q w
  unfold rv at *
  rw [run_eql_struct, this]; rfl
theorem rd_neq (p q : R3) (w : World) : (binOp .neq 38 (rv p) (rv q)).run Try.prog w = .ok (.bool (!(decide (p = q)))) w := by
  have := rd_equal p q w
  unfold rv at *
  rw [run_neq_struct, this]; rfl
theorem rd_guard (op : BinOp) (x y : Operand) (p q : R3) (w : World) : (eqGuard op 38 x y (rv p) (rv q)).run Try.prog w = .ok () w := by
  unfold rv
  exact run_eqGuard_agg w op 38 x y _ _ (by kernel_rfl)
end Go.Proofs.Ytjggheoonjajpaa
namespace Go.Proofs.Ytjggheoonjajpaa
open Go.ChangeShapes Go.WideShapes Go.ChangeAt Go.RowKit
set_option linter.unusedVariables false
theorem results_cell {fn : Func} {p : Tmp} {ty : TypeId} (h : fn.results = #[.cell p ty]) (tmps : Array Value) (P : Program) (w : World) :
    (results fn tmps).run P w = ((asAddr (tmps.getD p undef)).run P w).andThen fun a w₁ => (loadVar ty a).run P w₁ := by
  simp only [results, h]
  simp [Sem.run_bind]
theorem heap_first (w : World) (o c : Obj) : ((w.alloc c).alloc o).heap[w.heap.size]? = some c := by
  show ((w.heap.push c).push o)[w.heap.size]? = some c
  rw [Array.getElem?_push, if_neg (by simp), Array.getElem?_push, if_pos rfl]
theorem results_cell_cell {fn : Func} {p q : Tmp} {ty tz : TypeId} (h : fn.results = #[.cell p ty, .cell q tz]) (tmps : Array Value) (P : Program) (w : World) :
    (results fn tmps).run P w = ((asAddr (tmps.getD p undef)).run P w).andThen fun a w₁ => ((loadVar ty a).run P w₁).andThen fun v w₂ => ((asAddr (tmps.getD q undef)).run P w₂).andThen fun b w₃ => ((loadVar tz b).run P w₃).andThen fun u w₄ => .ok (.tuple #[v, u]) w₄ := by
  simp only [results, h]
  simp [Sem.run_bind, Result.andThen]
end Go.Proofs.Ytjggheoonjajpaa
namespace Go.Proofs.Ytjggheoonjajpaa
open Go.ChangeShapes Go.WideShapes Go.ChangeAt Go.RowKit Go.BigFrame
set_option linter.unusedVariables false

theorem eqkey_any (p q : K2) (w : World) : Calls Try.prog 130 #[kv p, kv q] w fun e w' => e = .returned (.bool (p == q)) ∧ Below w.heap.size w w' := by
  obtain ⟨a, b⟩ := p; obtain ⟨c, d⟩ := q
  have hB : ∀ o o', Below w.heap.size w ((w.alloc o).alloc o') := fun o o' => ((Below.refl _ _).alloc (Nat.le_refl _) _).alloc (by simp) _
  have HB := Lib.hid hB; clear hB
  by_cases h1 : a = c
  · by_cases h2 : b = d
    · have he : ((a, b) == (c, d)) = true := by simp [h1, h2]
      rw [he]
      unfold kv
      dsimp only
      subst h1; subst h2
      go_enter Try.func130, Try.ntmps130
      go_wp2
      go_ret
      exact ⟨rfl, HB.out _ _⟩
    · have he : ((a, b) == (c, d)) = false := by simp [h1, h2]
      rw [he]
      unfold kv
      dsimp only
      subst h1
      go_enter Try.func130, Try.ntmps130
      go_wp2
      go_ret
      exact ⟨rfl, HB.out _ _⟩
  · have he : ((a, b) == (c, d)) = false := by simp [h1]
    rw [he]
    unfold kv
    dsimp only
    go_enter Try.func130, Try.ntmps130
    go_wp2
    go_ret
    exact ⟨rfl, HB.out _ _⟩
end Go.Proofs.Ytjggheoonjajpaa
namespace Go.Proofs.Ytjggheoonjajpaa
open Go.ChangeShapes Go.WideShapes Go.ChangeAt Go.RowKit Go.BigFrame
set_option linter.unusedVariables false

theorem infoR : (Try.prog.info? 38).map (fun i => (i.zero, i.size, i.bytes)) = some (some (.agg #[.int .i64 0, .int .i64 0, .string ⟨#[]⟩]), 3, 32) := by kernel_rfl
end Go.Proofs.Ytjggheoonjajpaa
namespace Go.Proofs.Ytjggheoonjajpaa
open Go.ChangeShapes Go.WideShapes Go.ChangeAt Go.RowKit Go.BigFrame
set_option linter.unusedVariables false

theorem addr_plus (g off j : Nat) : (⟨g, off, none⟩ : Addr).add j = ⟨g, off + j, none⟩ := by
  unfold Addr.add
  split
  · rename_i h; simp [h]
  · rfl
end Go.Proofs.Ytjggheoonjajpaa
namespace Go.Proofs.Ytjggheoonjajpaa
open Go.ChangeShapes Go.WideShapes Go.ChangeAt Go.RowKit Go.BigFrame
set_option linter.unusedVariables false

theorem sreadingok_any (r : R3) (w : World) : Calls Try.prog 59 #[rv r] w fun e w' => e = .returned (.bool (rdOkB r)) ∧ Below w.heap.size w w' := by
  obtain ⟨⟨n, s⟩, x⟩ := r
  unfold rdOkB rv
  dsimp only
  have hb : Below w.heap.size w (w.alloc (.cells #[.int .i64 n, .int .i64 s, .string x] 38)) := (Below.refl _ _).alloc (Nat.le_refl _) _
  have L1 := rdk_load (r := ((n, s), x)) (w := w.alloc (.cells #[.int .i64 n, .int .i64 s, .string x] 38)) (g := w.heap.size) (o := 0) ⟨by simp, by simp, by simp⟩ (by simp) (Below.refl _ _)
  have c2 : (w.alloc (.cells #[.int .i64 n, .int .i64 s, .string x] 38)).cell? ⟨w.heap.size, 2, none⟩ = some (.string x) := by simp
  have hlt : w.heap.size < (w.alloc (.cells #[.int .i64 n, .int .i64 s, .string x] 38)).heap.size := by simp
  have H1 := fun w => skeyok_any (n, s) w
  go_enter Try.func59, Try.ntmps59
  have HZ := Lib.hid (show ((x.size : Int) = 4) = (x.size = 4) from propext (by omega))
  generalize keyOkB (n, s) = p at *
  dsimp only at L1
  cases p with
  | false =>
    go_wp2_with fail
    refine (H1 _).mono ?_
    rintro e w1 ⟨rfl, hb1⟩
    have hB := hb.trans (hb1.mono hb.size)
    go_wp2
    go_ret
    exact ⟨by simp, hB⟩
  | true =>
    go_wp2_with fail
    refine (H1 _).mono ?_
    rintro e w1 ⟨rfl, hb1⟩
    have hB := hb.trans (hb1.mono hb.size)
    have c3 : w1.cell? ⟨w.heap.size, 2, none⟩ = some (.string x) := (hb1.cell (p := ⟨w.heap.size, 2, none⟩) hlt).trans c2
    by_cases h4 : x.size = 4
    · have e4 : (x.size : Int) = 4 := by omega
      clear hb hb1 c2 H1 L1
      go_wp2
      go_ret
      exact ⟨by simp [h4], hB⟩
    · have e4 : ¬ (x.size : Int) = 4 := by omega
      clear hb hb1 c2 H1 L1
      go_wp2
      go_ret
      exact ⟨by simp [h4, e4], hB⟩
end Go.Proofs.Ytjggheoonjajpaa
namespace Go.Proofs.Ytjggheoonjajpaa

def stepB (ks : List K2) (i : Nat) : Bool := keyOkB (ks.getD i (0, 0)) && (decide (i = 0) || aheadB (ks.getD (i - 1) (0, 0)) (ks.getD i (0, 0)))
def keysOkR (ks : List K2) : Bool := (List.range ks.length).all (stepB ks)
theorem stepB_false {ks : List K2} {k : Nat} (hk : k < ks.length) (h : stepB ks k = false) : keysOkR ks = false := by
  unfold keysOkR
  rw [List.all_eq_false]
  exact ⟨k, List.mem_range.2 hk, by simp [h]⟩
theorem keysR_succ (ks : List K2) (k : Nat) : (List.range (k + 1)).all (stepB ks) = ((List.range k).all (stepB ks) && stepB ks k) := by
  rw [List.range_succ, List.all_append]
  simp
end Go.Proofs.Ytjggheoonjajpaa
namespace Go.Proofs.Ytjggheoonjajpaa
open Go
set_option linter.unusedVariables false

/-- a load of noughts -/
def z4 : ByteArray := ⟨#[0, 0, 0, 0]⟩
end Go.Proofs.Ytjggheoonjajpaa
namespace Go.Proofs.Ytjggheoonjajpaa
open Go
set_option linter.unusedVariables false

/-- a word: its keys, its load -/
abbrev C2 := List K2 × ByteArray
def codeOkB (x : C2) : Bool := (decide (x.1.length ≤ 6) && keysOkR x.1) && (decide (x.2.size = 4) && (decide (0 < x.1.length) || decide (x.2 = z4)))
def blankC : C2 := ([], z4)
end Go.Proofs.Ytjggheoonjajpaa
namespace Go.Proofs.Ytjggheoonjajpaa
set_option linter.unusedVariables false
set_option linter.unusedSimpArgs false

/-- what adds up, each with itself to nothing -/
structure Grp (V : Type) where
  add : V → V → V
  zero : V
  comm : ∀ x y, add x y = add y x
  assoc : ∀ x y z, add (add x y) z = add x (add y z)
  self : ∀ x, add x x = zero
  zl : ∀ x, add zero x = x
namespace Grp
variable {V : Type} (G : Grp V)
theorem zr (x : V) : G.add x G.zero = x := by rw [G.comm, G.zl]
theorem back (x y : V) : G.add x (G.add x y) = y := by rw [← G.assoc, G.self, G.zl]
end Grp
inductive Span {V : Type} (G : Grp V) (S : V → Prop) : V → Prop
  | zero : Span G S G.zero
  | step {x y : V} : S x → Span G S y → Span G S (G.add x y)
namespace Span
variable {V : Type} {G : Grp V} {S T : V → Prop}
theorem of {x : V} (h : S x) : Span G S x := by have := Span.step (G := G) h .zero; rwa [G.zr] at this
theorem plus {x y : V} (hx : Span G S x) (hy : Span G S y) : Span G S (G.add x y) := by
  induction hx with
  | zero => rwa [G.zl]
  | step h _ ih => rw [G.assoc]; exact .step h ih
theorem le (h : ∀ x, S x → Span G T x) {y : V} (hy : Span G S y) : Span G T y := by
  induction hy with
  | zero => exact .zero
  | step h1 _ ih => exact (h _ h1).plus ih
theorem mono (h : ∀ x, S x → T x) {y : V} (hy : Span G S y) : Span G T y := hy.le fun x hx => .of (h x hx)
theorem only {f : V → Bool} (h0 : f G.zero = false) (hf : ∀ x y, f (G.add x y) = (f x != f y)) (h : ∀ x, S x → f x = false) {y : V} (hy : Span G S y) : f y = false := by
  induction hy with
  | zero => exact h0
  | step h1 _ ih => rw [hf, h _ h1, ih]; rfl
end Span
end Go.Proofs.Ytjggheoonjajpaa
namespace Go.Proofs.Ytjggheoonjajpaa
open Go
set_option linter.unusedVariables false
set_option linter.unusedSimpArgs false

/-- a word whose keys are right and rise and whose load is four bytes -/
def wOk (x : C2) : Prop := keysOkR x.1 = true ∧ x.2.size = 4
abbrev W2 := { x : C2 // wOk x }
end Go.Proofs.Ytjggheoonjajpaa
namespace Go.Proofs.Ytjggheoonjajpaa
open Go
set_option linter.unusedVariables false
set_option linter.unusedSimpArgs false

abbrev L4 := { s : ByteArray // s.size = 4 }
end Go.Proofs.Ytjggheoonjajpaa
namespace Go.Proofs.Ytjggheoonjajpaa
open Go
set_option linter.unusedVariables false
set_option linter.unusedSimpArgs false

end Go.Proofs.Ytjggheoonjajpaa
namespace Go.Proofs.Ytjggheoonjajpaa
open Go
set_option linter.unusedVariables false

structure Stn where
  id : Int
  alive : Bool
  seq : Int
  most : Int
  own : List R3
  buf : List C2
  heard : List Int
def noStn : Stn := ⟨0, false, 0, 0, [], [], []⟩
def idB (n : Int) : Bool := decide (1 ≤ n) && decide (n ≤ 20)
def otherB (f id : Int) : Bool := idB f && decide (f ≠ id)
def ownB (s : Stn) : Bool := if s.seq = 0 then decide (s.own.length = 0) else decide (s.own.length = 1) && (rdOkB (s.own.getD 0 r0) && decide ((s.own.getD 0 r0).1 = (s.id, s.seq)))
def tellB (x : C2) : Bool := codeOkB x && decide (0 < x.1.length)
/-- just that word stands there -/
def hasC (L : List C2) (x : C2) : Bool := L.any fun z => decide (z = x)
theorem hasC_iff {L : List C2} {x : C2} : hasC L x = true ↔ x ∈ L := by
  unfold hasC
  rw [List.any_eq_true]
  constructor
  · rintro ⟨z, hz, e⟩
    rw [← of_decide_eq_true e]; exact hz
  · intro h
    exact ⟨x, h, by simp⟩
theorem hasC_no {L : List C2} {x : C2} : hasC L x = false ↔ x ∉ L := by
  rw [← hasC_iff]; simp
def bufStep (L : List C2) (i : Nat) : Bool := tellB (L.getD i blankC) && !hasC (L.take i) (L.getD i blankC)
def bufB (L : List C2) : Bool := (List.range L.length).all (bufStep L)
def heardStep (H : List Int) (id : Int) (i : Nat) : Bool := otherB (H.getD i 0) id && (decide (i = 0) || decide (H.getD (i - 1) 0 < H.getD i 0))
def heardB (H : List Int) (id : Int) : Bool := (List.range H.length).all (heardStep H id)
def stOkB (s : Stn) : Bool := (idB s.id && (decide (1 ≤ s.most) && decide (s.most ≤ 6))) && (ownB s && (decide ((s.buf.length : Int) ≤ s.most) && (bufB s.buf && heardB s.heard s.id)))
theorem all_range_iff {n : Nat} {f : Nat → Bool} : (List.range n).all f = true ↔ ∀ i, i < n → f i = true := by
  simp [List.all_eq_true]
theorem all_range_no {n : Nat} {f : Nat → Bool} (i : Nat) (hi : i < n) (h : f i = false) : (List.range n).all f = false := by
  cases e : (List.range n).all f with
  | false => rfl
  | true => have := all_range_iff.1 e i hi; rw [h] at this; cases this
theorem mem_take_iff {A : Type} (L : List A) (k : Nat) (d x : A) (hk : k ≤ L.length) : x ∈ L.take k ↔ ∃ j, j < k ∧ L.getD j d = x := by
  rw [List.mem_iff_getElem]
  constructor
  · rintro ⟨j, hj, rfl⟩
    have : j < k := by rw [List.length_take] at hj; omega
    exact ⟨j, this, by simp [List.getD, show j < L.length by omega]⟩
  · rintro ⟨j, hj, rfl⟩
    exact ⟨j, by rw [List.length_take]; omega, by simp [List.getD, show j < L.length by omega]⟩
/-- the place of a word -/
def codeI (L : List C2) (x : C2) : Option Nat := L.findIdx? fun y => decide (y = x)
theorem codeI_some {L : List C2} {x : C2} {i : Nat} : codeI L x = some i ↔ i < L.length ∧ L.getD i blankC = x ∧ ∀ j, j < i → L.getD j blankC ≠ x := by
  unfold codeI
  rw [List.findIdx?_eq_some_iff_getElem]
  constructor
  · rintro ⟨h, h1, h2⟩
    refine ⟨h, by simpa [List.getD, h] using h1, fun j hj => ?_⟩
    have := h2 j hj
    simpa [List.getD, show j < L.length by omega] using this
  · rintro ⟨h, h1, h2⟩
    refine ⟨h, by simpa [List.getD, h] using h1, fun j hj => ?_⟩
    have := h2 j hj
    simpa [List.getD, show j < L.length by omega] using this
theorem codeI_none {L : List C2} {x : C2} : codeI L x = none ↔ x ∉ L := by
  unfold codeI
  rw [List.findIdx?_eq_none_iff]
  constructor
  · intro h hm
    have := h x hm
    simp at this
  · intro h y hy
    simp only [decide_eq_false_iff_not]
    rintro rfl
    exact h hy
theorem bufStep_iff {L : List C2} {i : Nat} (hi : i < L.length) : bufStep L i = (tellB (L.getD i blankC) && decide (codeI L (L.getD i blankC) = some i)) := by
  unfold bufStep
  congr 1
  rw [Bool.eq_iff_iff]
  rw [Bool.not_eq_true', hasC_no, decide_eq_true_eq]
  rw [mem_take_iff L i blankC _ (by omega), codeI_some]
  constructor
  · intro h
    exact ⟨hi, rfl, fun j hj e => h ⟨j, hj, e⟩⟩
  · rintro ⟨_, _, h⟩ ⟨j, hj, e⟩
    exact h j hj e
/-- what is said first and what is said last -/
def newStM (id most : Int) : Stn := if idB id = true ∧ 1 ≤ most ∧ most ≤ 6 then ⟨id, true, 0, most, [], [], []⟩ else noStn
theorem newSt_ok (id most : Int) : stOkB ⟨id, true, 0, most, [], [], []⟩ = decide (idB id = true ∧ 1 ≤ most ∧ most ≤ 6) := by
  rw [Bool.eq_iff_iff]
  simp only [stOkB, ownB, bufB, heardB, List.length_nil, List.range_zero, List.all_nil, Bool.and_true, if_true, decide_true, Bool.and_eq_true, decide_eq_true_eq, Bool.true_and]
  constructor
  · rintro ⟨⟨h1, h2, h3⟩, _⟩
    exact ⟨h1, h2, h3⟩
  · rintro ⟨h1, h2, h3⟩
    exact ⟨⟨h1, h2, h3⟩, by simp; omega⟩
theorem noSt_ok : stOkB noStn = false := by decide
theorem own_seq {s : Stn} (h : ownB s = true) : 0 ≤ s.seq ∧ s.seq ≤ 99 := by
  unfold ownB at h
  split at h
  · rename_i h0; omega
  · simp only [Bool.and_eq_true, decide_eq_true_eq, rdOkB, keyOkB] at h
    obtain ⟨_, ⟨h1, _⟩, h2⟩ := h
    rw [h2] at h1
    dsimp only at h1
    omega
end Go.Proofs.Ytjggheoonjajpaa
namespace Go.Proofs.Ytjggheoonjajpaa
open Go.ChangeShapes Go.WideShapes Go.ChangeAt Go.RowKit Go.BigFrame
set_option linter.unusedVariables false

set_option maxRecDepth 100000 in
theorem skeysok_any (v : Value) (ks : List K2) (w : World) (h : keysAt w v ks) (hs : ks.length ≤ 2000000) : Calls Try.prog 74 #[v] w fun e w' => e = .returned (.bool (keysOkR ks)) ∧ Below w.heap.size w w' := by
  obtain ⟨a, cap, rfl, hcap, hcells⟩ := h
  go_enter Try.func74, Try.ntmps74
  go_wp2
  go_loopw [3] (fun i wr => ∃ k : Nat, k ≤ ks.length ∧ i = .int .i64 k ∧ (List.range k).all (stepB ks) = true ∧ Below w.heap.size w wr) (fun i _ => ks.length - (intOf i).toNat)
  case atStart => exact ⟨0, Nat.zero_le _, rfl, rfl, Below.refl _ _⟩
  case round =>
    obtain ⟨k, hk, rfl, hall, hb⟩ := hrel
    by_cases hlt : k < ks.length
    · obtain ⟨g, off, rfl, hg, hcs⟩ := hcells.resolve_left (by omega)
      have z0 : (0 : Int) ≤ (k : Int) := by omega
      have z1 : (k : Int) < (ks.length : Int) := by omega
      have c1 := hcs k hlt
      have HK := Lib.hid (fun w => skeyok_any (ks.getD k (0, 0)) w)
      have hst : stepB ks k = (keyOkB (ks.getD k (0, 0)) && (decide (k = 0) || aheadB (ks.getD (k - 1) (0, 0)) (ks.getD k (0, 0)))) := rfl
      have hsu := keysR_succ ks k
      have HST := Lib.hid hst; clear hst
      cases hko : keyOkB (ks.getD k (0, 0)) with
      | false =>
        rw [hko] at HK HST
        have hf : keysOkR ks = false := stepB_false hlt (by rw [HST.out]; rfl)
        have HF := Lib.hid hf
        clear hcs hcells hko hf HST hsu
        generalize ks.getD k (0, 0) = kx at *
        have L1 := fun w' hb => key_load c1 (w' := w') hg hb
        clear c1
        go_wp2
        refine wp_region_below w (by kernel_rfl) (by kernel_rfl) hb ?_
        repeat (first
          | go_big_quiet_skip
          | (go_big_quiet_want
             first
               | (go_big_quiet_op; go_big_quiet_on)
               | (refine q_load 36 _ _ _ rfl rfl L1 ?_; simp only [Act.put, List.setIfInBounds_toArray, List.set_cons_zero, List.set_cons_succ]; go_big_quiet_on)
               | (go_big_quiet_op; refine ⟨_, fun _ _ => rfl, ?_⟩; go_big_quiet_on)
               | (go_big_quiet_op; apply Exists.intro; refine ⟨fun w' hw' => ?_, ?_⟩
                  · first
                    | (refine (HK.out w').mono ?_
                       rintro e w2 ⟨rfl, hb2⟩
                       exact ⟨rfl, hw'.trans (hb2.mono hw'.size)⟩)
                  go_big_quiet_on)))
        refine wpQuiet_nil ?_
        intro w2 hb2
        clear L1 HK hb
        go_wp2
        go_ret
        exact ⟨by rw [HF.out]; rfl, hb2⟩
      | true =>
        rw [hko] at HK HST
        by_cases hk0 : k = 0
        · subst hk0
          have ht : (List.range (0 + 1)).all (stepB ks) = true := by rw [hsu, HST.out]; rfl
          have HT := Lib.hid ht
          clear hcs hcells hko ht HST hsu hall
          generalize ks.getD 0 (0, 0) = kx at *
          have L1 := fun w' hb => key_load c1 (w' := w') hg hb
          clear c1
          have y0 : ¬ (0 : Int) < ((0 : Nat) : Int) := by omega
          simp only [Nat.zero_mul, Nat.add_zero] at L1
          go_wp2
          refine wp_region_below w (by kernel_rfl) (by kernel_rfl) hb ?_
          repeat (first
            | go_big_quiet_skip
            | (go_big_quiet_want
               first
                 | (go_big_quiet_op; go_big_quiet_on)
                 | (refine q_load 36 _ _ _ rfl rfl L1 ?_; simp only [Act.put, List.setIfInBounds_toArray, List.set_cons_zero, List.set_cons_succ]; go_big_quiet_on)
                 | (go_big_quiet_op; refine ⟨_, fun _ _ => rfl, ?_⟩; go_big_quiet_on)
                 | (go_big_quiet_op; apply Exists.intro; refine ⟨fun w' hw' => ?_, ?_⟩
                    · first
                      | (refine (HK.out w').mono ?_
                         rintro e w2 ⟨rfl, hb2⟩
                         exact ⟨rfl, hw'.trans (hb2.mono hw'.size)⟩)
                    go_big_quiet_on)))
          refine wpQuiet_nil ?_
          intro w2 hb2
          clear L1 HK hb
          go_wp2
          exact ⟨⟨1, by omega, by go_num, HT.out, hb2⟩, by simp [intOf]; omega⟩
        · have ha := hcs (k - 1) (by omega)
          rw [show off + (k - 1) * 2 = off + (k - 1) * 2 from rfl] at ha
          have HA := Lib.hid (fun w => sahead_any (ks.getD (k - 1) (0, 0)) (ks.getD k (0, 0)) w)
          have d0 : decide (k = 0) = false := by simpa using hk0
          rw [d0] at HST
          have y0 : (0 : Int) < (k : Int) := by omega
          have yk : 0 < k := by omega
          have y1 : (0 : Int) ≤ (k : Int) - 1 := by omega
          have y2 : (k : Int) - 1 < (ks.length : Int) := by omega
          have ew : IntKind.i64.wrap ((k : Int) - 1) = (k : Int) - 1 := IntWalk.i64_in _ (by omega)
          have et : ((k : Int) - 1).toNat = k - 1 := by omega
          cases hah : aheadB (ks.getD (k - 1) (0, 0)) (ks.getD k (0, 0)) with
          | false =>
            rw [hah] at HA HST
            have hf : keysOkR ks = false := stepB_false hlt (by rw [HST.out]; rfl)
            have HF := Lib.hid hf
            clear hcs hcells hko hf HST hsu hah
            generalize ks.getD k (0, 0) = kx at *
            generalize ks.getD (k - 1) (0, 0) = ky at *
            have L1 := fun w' hb => key_load c1 (w' := w') hg hb
            have L2 := fun w' hb => key_load ha (w' := w') hg hb
            clear c1 ha
            go_wp2
            refine wp_region_below w (by kernel_rfl) (by kernel_rfl) hb ?_
            repeat (first
              | go_big_quiet_skip
              | (go_big_quiet_want
                 first
                   | (go_big_quiet_op; go_big_quiet_on)
                   | (refine q_load 36 _ _ _ rfl rfl L1 ?_; simp only [Act.put, List.setIfInBounds_toArray, List.set_cons_zero, List.set_cons_succ]; go_big_quiet_on)
                   | (refine q_load 36 _ _ _ rfl rfl L2 ?_; simp only [Act.put, List.setIfInBounds_toArray, List.set_cons_zero, List.set_cons_succ]; go_big_quiet_on)
                   | (go_big_quiet_op; refine ⟨_, fun _ _ => rfl, ?_⟩; go_big_quiet_on)
                   | (go_big_quiet_op; apply Exists.intro; refine ⟨fun w' hw' => ?_, ?_⟩
                      · first
                        | (refine (HK.out w').mono ?_
                           rintro e w2 ⟨rfl, hb2⟩
                           exact ⟨rfl, hw'.trans (hb2.mono hw'.size)⟩)
                        | (refine (HA.out w').mono ?_
                           rintro e w2 ⟨rfl, hb2⟩
                           exact ⟨rfl, hw'.trans (hb2.mono hw'.size)⟩)
                      go_big_quiet_on)))
            refine wpQuiet_nil ?_
            intro w2 hb2
            clear L1 L2 HK HA hb
            go_wp2
            go_ret
            exact ⟨by rw [HF.out]; rfl, hb2⟩
          | true =>
            rw [hah] at HA HST
            have ht : (List.range (k + 1)).all (stepB ks) = true := by rw [hsu, hall, HST.out]; rfl
            have HT := Lib.hid ht
            clear hcs hcells hko ht HST hsu hah hall
            generalize ks.getD k (0, 0) = kx at *
            generalize ks.getD (k - 1) (0, 0) = ky at *
            have L1 := fun w' hb => key_load c1 (w' := w') hg hb
            have L2 := fun w' hb => key_load ha (w' := w') hg hb
            clear c1 ha
            go_wp2
            refine wp_region_below w (by kernel_rfl) (by kernel_rfl) hb ?_
            repeat (first
              | go_big_quiet_skip
              | (go_big_quiet_want
                 first
                   | (go_big_quiet_op; go_big_quiet_on)
                   | (refine q_load 36 _ _ _ rfl rfl L1 ?_; simp only [Act.put, List.setIfInBounds_toArray, List.set_cons_zero, List.set_cons_succ]; go_big_quiet_on)
                   | (refine q_load 36 _ _ _ rfl rfl L2 ?_; simp only [Act.put, List.setIfInBounds_toArray, List.set_cons_zero, List.set_cons_succ]; go_big_quiet_on)
                   | (go_big_quiet_op; refine ⟨_, fun _ _ => rfl, ?_⟩; go_big_quiet_on)
                   | (go_big_quiet_op; apply Exists.intro; refine ⟨fun w' hw' => ?_, ?_⟩
                      · first
                        | (refine (HK.out w').mono ?_
                           rintro e w2 ⟨rfl, hb2⟩
                           exact ⟨rfl, hw'.trans (hb2.mono hw'.size)⟩)
                        | (refine (HA.out w').mono ?_
                           rintro e w2 ⟨rfl, hb2⟩
                           exact ⟨rfl, hw'.trans (hb2.mono hw'.size)⟩)
                      go_big_quiet_on)))
            refine wpQuiet_nil ?_
            intro w2 hb2
            clear L1 L2 HK HA hb
            go_wp2
            exact ⟨⟨k + 1, by omega, by go_num, HT.out, hb2⟩, by simp [intOf]; omega⟩
    · obtain rfl : k = ks.length := by omega
      have HF := Lib.hid hall
      go_wp2
      go_ret
      exact ⟨by unfold keysOkR; rw [HF.out]; rfl, hb⟩
end Go.Proofs.Ytjggheoonjajpaa
namespace Go.Proofs.Ytjggheoonjajpaa
open Go.ChangeShapes Go.WideShapes Go.ChangeAt Go.RowKit Go.BigFrame
set_option linter.unusedVariables false

theorem set_cellsD {w : World} {B j : Nat} {cs : Array Value} {t : TypeId} (u : Value) (h : w.heap[B]? = some (.cells cs t (0, 0))) : (w.setCell ⟨B, j, none⟩ u).heap[B]? = some (.cells (cs.setIfInBounds j u) t (0, 0)) := by
  obtain ⟨hlt, hk⟩ := Array.getElem?_eq_some_iff.1 h
  show (w.heap.modify B _)[B]? = _
  rw [Array.getElem?_eq_getElem (by rw [Array.size_modify]; exact hlt), Array.getElem_modify_self, hk]
  rfl
end Go.Proofs.Ytjggheoonjajpaa
namespace Go.Proofs.Ytjggheoonjajpaa
open Go.ChangeShapes Go.WideShapes Go.ChangeAt Go.RowKit Go.BigFrame
set_option linter.unusedVariables false

/-- a word in memory: two cells -/
theorem cd_cells {W w' : World} {b : Nat} {v : Value} {y : ByteArray} {T : TypeId} (h : W.heap[b]? = some (.cells #[v, .string y] T)) (hb : Below W.heap.size W w') :
    w'.cell? ⟨b, 0, none⟩ = some v ∧ w'.cell? ⟨b, 1, none⟩ = some (.string y) := by
  have h1 := (hb.block _ (Array.getElem?_eq_some_iff.1 h).1).trans h
  exact ⟨by rw [cell_of_row _ _ 0 _ _ _ h1]; rfl, by rw [cell_of_row _ _ 1 _ _ _ h1]; rfl⟩
theorem agg_str (w : World) : (isAgg 9).run Try.prog w = .ok false w := by simp [isAgg, underlying, Try.underlying9]
theorem agg_keys (w : World) : (isAgg 40).run Try.prog w = .ok false w := by simp [isAgg, underlying, Try.underlying40]
theorem load_one {t : TypeId} {w : World} {p : Addr} {v : Value} (ht : ∀ w, (isAgg t).run Try.prog w = .ok false w) (h : w.cell? p = some v) : (loadVar t p).run Try.prog w = .ok v w := by
  unfold loadVar
  simp only [Sem.run_bind, ht, Result.andThen_ok]
  rw [if_neg (by simp)]
  simp [h]
theorem cd_load {W w' : World} {b : Nat} {v : Value} {y : ByteArray} {T : TypeId} (h : W.heap[b]? = some (.cells #[v, .string y] T)) (hb : Below W.heap.size W w') :
    (loadVar 42 ⟨b, 0, none⟩).run Try.prog w' = .ok (.agg #[v, .string y]) w' := by
  obtain ⟨h0, h1⟩ := cd_cells h hb
  refine run_loadVar_mid w' b 0 42 [v, .string y] _ (fun j u hj => ?_) Try.underlying42 rfl (by kernel_rfl)
  have hj2 : j < 2 := by have := (List.getElem?_eq_some_iff.1 hj).1; simpa using this
  rcases (by omega : j = 0 ∨ j = 1) with rfl | rfl
  · simpa using h0.trans (by simpa using hj)
  · simpa using h1.trans (by simpa using hj)
theorem szero_any (w : World) : Calls Try.prog 75 #[] w fun e w' => e = .returned (.string z4) ∧ w' = w := by
  go_enter Try.func75, Try.ntmps75
  go_wp2
  go_ret
  exact ⟨rfl, rfl⟩
theorem cd_loadk {W w' : World} {b : Nat} {v : Value} {y : ByteArray} {T : TypeId} (h : W.heap[b]? = some (.cells #[v, .string y] T)) (hb : Below W.heap.size W w') :
    (loadVar 40 ⟨b, 0, none⟩).run Try.prog w' = .ok v w' := load_one agg_keys (cd_cells h hb).1
theorem cd_loads {W w' : World} {b : Nat} {v : Value} {y : ByteArray} {T : TypeId} (h : W.heap[b]? = some (.cells #[v, .string y] T)) (hb : Below W.heap.size W w') :
    (loadVar 9 ⟨b, 1, none⟩).run Try.prog w' = .ok (.string y) w' := load_one agg_str (cd_cells h hb).2
structure Row2 (w : World) (b : Nat) (x y : Value) : Prop where
  c0 : w.cell? ⟨b, 0, none⟩ = some x
  c1 : w.cell? ⟨b, 1, none⟩ = some y
  f0 : w.frozen? ⟨b, 0, none⟩ = false
  f1 : w.frozen? ⟨b, 1, none⟩ = false
theorem row2_of {w : World} {b : Nat} {x y : Value} {t : TypeId} (h : w.heap[b]? = some (.cells #[x, y] t (0, 0))) : Row2 w b x y :=
  ⟨by rw [cell_of_row _ _ 0 _ _ _ h]; rfl, by rw [cell_of_row _ _ 1 _ _ _ h]; rfl, by simp [World.frozen?, h], by simp [World.frozen?, h]⟩
theorem set2 {w : World} {b : Nat} {x y : Value} {t : TypeId} (p q : Value) (h : w.heap[b]? = some (.cells #[x, y] t (0, 0))) :
    ((w.setCell ⟨b, 0, none⟩ p).setCell ⟨b, 1, none⟩ q).heap[b]? = some (.cells #[p, q] t (0, 0)) := set_cellsD _ (set_cellsD _ h)
theorem grown2 (w : World) (b : Nat) (p q : Value) : w.grownBy ((w.setCell ⟨b, 0, none⟩ p).setCell ⟨b, 1, none⟩ q) (some b) :=
  grownT (Lib.grownBy_setCell w b 0 p) (Lib.grownBy_setCell _ b 1 q)
theorem below2 {w W : World} {n b : Nat} (hb : Below n w W) (h : n ≤ b) (p q : Value) : Below n w ((W.setCell ⟨b, 0, none⟩ p).setCell ⟨b, 1, none⟩ q) :=
  (hb.setCell (p := ⟨b, 0, none⟩) h p).setCell (p := ⟨b, 1, none⟩) h q
theorem szero_below (w : World) : Calls Try.prog 75 #[] w fun e w' => e = .returned (.string z4) ∧ Below w.heap.size w w' :=
  (szero_any w).mono fun e w' h => ⟨h.1, by rw [h.2]; exact Below.refl _ _⟩
set_option maxRecDepth 100000 in
set_option maxHeartbeats 1000000 in
theorem scodeok_any (v : Value) (ks : List K2) (y : ByteArray) (w : World) (h : keysAt w v ks) (hs : ks.length ≤ 2000000) :
    Calls Try.prog 22 #[.agg #[v, .string y]] w fun e w' => e = .returned (.bool (codeOkB (ks, y))) ∧ Below w.heap.size w w' := by
  have hb := (Below.refl w.heap.size w).alloc (Nat.le_refl _) (.cells #[v, .string y] 42)
  have HB := Lib.hid hb
  have HX := Lib.hid (heap_alloc_new w (.cells #[v, .string y] 42))
  have HK := Lib.hid (fun w' (hb' : Below (w.alloc (.cells #[v, .string y] 42)).heap.size (w.alloc (.cells #[v, .string y] 42)) w') => skeysok_any v ks w' (keysAt_below h (hb.trans (hb'.mono hb.size))) hs)
  obtain ⟨a, cap, rfl, -, -⟩ := h
  unfold codeOkB
  dsimp only
  go_enter Try.func22, Try.ntmps22
  go_wp2
  generalize w.alloc (.cells #[.slice a ks.length cap, .string y] 42) = W at *
  have L0 := fun w' (hb' : Below W.heap.size W w') => cd_loadk HX.out hb'
  have L1 := fun w' (hb' : Below W.heap.size W w') => cd_loads HX.out hb'

  clear hb
  by_cases h1 : ks.length ≤ 6
  · have i1 : (ks.length : Int) ≤ 6 := by omega
    have d1 : decide ((ks.length : Int) ≤ 6) = true := decide_eq_true i1
    cases h2 : keysOkR ks with
    | false =>
      rw [h2] at HK
      refine wp_region_below W (by kernel_rfl) (by kernel_rfl) (Below.refl _ _) ?_
      repeat (first
        | go_big_quiet_skip
        | (go_big_quiet_want
           first
             | (go_big_quiet_op; go_big_quiet_on)
             | (refine q_load 40 _ _ _ rfl rfl L0 ?_; simp only [Act.put, List.setIfInBounds_toArray, List.set_cons_zero, List.set_cons_succ]; go_big_quiet_on)
             | (refine q_load 9 _ _ _ rfl rfl L1 ?_; simp only [Act.put, List.setIfInBounds_toArray, List.set_cons_zero, List.set_cons_succ]; go_big_quiet_on)
             | (go_big_quiet_op; refine ⟨_, fun _ _ => rfl, ?_⟩; go_big_quiet_on)
             | (go_big_quiet_op; apply Exists.intro; refine ⟨fun w' hw' => ?_, ?_⟩
                · first
                  | (with_reducible refine (HK.out w' hw').mono ?_
                     rintro e w2 ⟨rfl, hb2⟩
                     exact ⟨rfl, hw'.trans (hb2.mono hw'.size)⟩)
                  | (with_reducible refine (szero_below w').mono ?_
                     rintro e w2 ⟨rfl, hb2⟩
                     exact ⟨rfl, hw'.trans (hb2.mono hw'.size)⟩)
                go_big_quiet_on)))
      refine wpQuiet_nil ?_
      intro w9 hb9
      clear L0 L1
      go_wp2
      go_ret
      exact ⟨by simp [h1, h2], HB.out.trans (hb9.mono HB.out.size)⟩
    | true =>
      rw [h2] at HK
      by_cases h3 : y.size = 4
      · have i3 : (y.size : Int) = 4 := by omega
        have b3 : ((y.size : Int) == 4) = true := by simpa using i3
        by_cases h4 : 0 < ks.length
        · have i4 : (0 : Int) < (ks.length : Int) := by omega
          have d4 : decide ((0 : Int) < (ks.length : Int)) = true := decide_eq_true i4
          refine wp_region_below W (by kernel_rfl) (by kernel_rfl) (Below.refl _ _) ?_
          repeat (first
            | go_big_quiet_skip
            | (go_big_quiet_want
               first
                 | (go_big_quiet_op; go_big_quiet_on)
                 | (refine q_load 40 _ _ _ rfl rfl L0 ?_; simp only [Act.put, List.setIfInBounds_toArray, List.set_cons_zero, List.set_cons_succ]; go_big_quiet_on)
                 | (refine q_load 9 _ _ _ rfl rfl L1 ?_; simp only [Act.put, List.setIfInBounds_toArray, List.set_cons_zero, List.set_cons_succ]; go_big_quiet_on)
                 | (go_big_quiet_op; refine ⟨_, fun _ _ => rfl, ?_⟩; go_big_quiet_on)
                 | (go_big_quiet_op; apply Exists.intro; refine ⟨fun w' hw' => ?_, ?_⟩
                    · first
                      | (with_reducible refine (HK.out w' hw').mono ?_
                         rintro e w2 ⟨rfl, hb2⟩
                         exact ⟨rfl, hw'.trans (hb2.mono hw'.size)⟩)
                      | (with_reducible refine (szero_below w').mono ?_
                         rintro e w2 ⟨rfl, hb2⟩
                         exact ⟨rfl, hw'.trans (hb2.mono hw'.size)⟩)
                    go_big_quiet_on)))
          refine wpQuiet_nil ?_
          intro w9 hb9
          clear L0 L1
          go_wp2
          go_ret
          exact ⟨by simp [h1, h2, h3, h4], HB.out.trans (hb9.mono HB.out.size)⟩
        · have i4 : ¬ (0 : Int) < (ks.length : Int) := by omega
          have d4 : decide ((0 : Int) < (ks.length : Int)) = false := decide_eq_false i4
          have hy : decide (y = z4) = (y.toList == z4.toList) := by
            rw [Bool.eq_iff_iff, decide_eq_true_eq, beq_iff_eq, bytes_toList_iff]
          refine wp_region_below W (by kernel_rfl) (by kernel_rfl) (Below.refl _ _) ?_
          repeat (first
            | go_big_quiet_skip
            | (go_big_quiet_want
               first
                 | (go_big_quiet_op; go_big_quiet_on)
                 | (refine q_load 40 _ _ _ rfl rfl L0 ?_; simp only [Act.put, List.setIfInBounds_toArray, List.set_cons_zero, List.set_cons_succ]; go_big_quiet_on)
                 | (refine q_load 9 _ _ _ rfl rfl L1 ?_; simp only [Act.put, List.setIfInBounds_toArray, List.set_cons_zero, List.set_cons_succ]; go_big_quiet_on)
                 | (go_big_quiet_op; refine ⟨_, fun _ _ => rfl, ?_⟩; go_big_quiet_on)
                 | (go_big_quiet_op; apply Exists.intro; refine ⟨fun w' hw' => ?_, ?_⟩
                    · first
                      | (with_reducible refine (HK.out w' hw').mono ?_
                         rintro e w2 ⟨rfl, hb2⟩
                         exact ⟨rfl, hw'.trans (hb2.mono hw'.size)⟩)
                      | (with_reducible refine (szero_below w').mono ?_
                         rintro e w2 ⟨rfl, hb2⟩
                         exact ⟨rfl, hw'.trans (hb2.mono hw'.size)⟩)
                    go_big_quiet_on)))
          refine wpQuiet_nil ?_
          intro w9 hb9
          clear L0 L1
          go_wp2
          go_ret
          exact ⟨by simp [h1, h2, h3, h4, hy], HB.out.trans (hb9.mono HB.out.size)⟩
      · have i3 : ¬ (y.size : Int) = 4 := by omega
        have b3 : ((y.size : Int) == 4) = false := by simpa using i3
        refine wp_region_below W (by kernel_rfl) (by kernel_rfl) (Below.refl _ _) ?_
        repeat (first
          | go_big_quiet_skip
          | (go_big_quiet_want
             first
               | (go_big_quiet_op; go_big_quiet_on)
               | (refine q_load 40 _ _ _ rfl rfl L0 ?_; simp only [Act.put, List.setIfInBounds_toArray, List.set_cons_zero, List.set_cons_succ]; go_big_quiet_on)
               | (refine q_load 9 _ _ _ rfl rfl L1 ?_; simp only [Act.put, List.setIfInBounds_toArray, List.set_cons_zero, List.set_cons_succ]; go_big_quiet_on)
               | (go_big_quiet_op; refine ⟨_, fun _ _ => rfl, ?_⟩; go_big_quiet_on)
               | (go_big_quiet_op; apply Exists.intro; refine ⟨fun w' hw' => ?_, ?_⟩
                  · first
                    | (with_reducible refine (HK.out w' hw').mono ?_
                       rintro e w2 ⟨rfl, hb2⟩
                       exact ⟨rfl, hw'.trans (hb2.mono hw'.size)⟩)
                    | (with_reducible refine (szero_below w').mono ?_
                       rintro e w2 ⟨rfl, hb2⟩
                       exact ⟨rfl, hw'.trans (hb2.mono hw'.size)⟩)
                  go_big_quiet_on)))
        refine wpQuiet_nil ?_
        intro w9 hb9
        clear L0 L1
        go_wp2
        go_ret
        exact ⟨by simp [h1, h2, h3], HB.out.trans (hb9.mono HB.out.size)⟩
  · have i1 : ¬ (ks.length : Int) ≤ 6 := by omega
    have d1 : decide ((ks.length : Int) ≤ 6) = false := decide_eq_false i1
    refine wp_region_below W (by kernel_rfl) (by kernel_rfl) (Below.refl _ _) ?_
    repeat (first
      | go_big_quiet_skip
      | (go_big_quiet_want
         first
           | (go_big_quiet_op; go_big_quiet_on)
           | (refine q_load 40 _ _ _ rfl rfl L0 ?_; simp only [Act.put, List.setIfInBounds_toArray, List.set_cons_zero, List.set_cons_succ]; go_big_quiet_on)
           | (refine q_load 9 _ _ _ rfl rfl L1 ?_; simp only [Act.put, List.setIfInBounds_toArray, List.set_cons_zero, List.set_cons_succ]; go_big_quiet_on)
           | (go_big_quiet_op; refine ⟨_, fun _ _ => rfl, ?_⟩; go_big_quiet_on)
           | (go_big_quiet_op; apply Exists.intro; refine ⟨fun w' hw' => ?_, ?_⟩
              · first
                | (with_reducible refine (HK.out w' hw').mono ?_
                   rintro e w2 ⟨rfl, hb2⟩
                   exact ⟨rfl, hw'.trans (hb2.mono hw'.size)⟩)
                | (with_reducible refine (szero_below w').mono ?_
                   rintro e w2 ⟨rfl, hb2⟩
                   exact ⟨rfl, hw'.trans (hb2.mono hw'.size)⟩)
              go_big_quiet_on)))
    refine wpQuiet_nil ?_
    intro w9 hb9
    clear L0 L1
    go_wp2
    go_ret
    exact ⟨by simp [h1], HB.out.trans (hb9.mono HB.out.size)⟩
end Go.Proofs.Ytjggheoonjajpaa
namespace Go.Proofs.Ytjggheoonjajpaa
open Go.ChangeShapes Go.WideShapes Go.ChangeAt Go.RowKit
set_option linter.unusedVariables false
def numsOf (l : List UInt8) : List Int := l.map fun c => (c.toNat : Int)
theorem nums_back (l : List UInt8) : strOfNums (numsOf l) = ⟨l.toArray⟩ := by
  unfold strOfNums numsOf
  rw [List.map_map]
  congr 2
  conv => rhs; rw [← List.map_id l]
  apply List.map_congr_left
  intro c _
  simp
end Go.Proofs.Ytjggheoonjajpaa
namespace Go.Proofs.Ytjggheoonjajpaa
open Go.ChangeShapes Go.WideShapes Go.ChangeAt Go.RowKit Go.BigFrame
set_option linter.unusedVariables false

theorem addr_plusK (g off j : Nat) : (⟨g, off, none⟩ : Addr).add j = ⟨g, off + j, none⟩ := by
  unfold Addr.add
  split
  · rename_i h; simp [h]
  · rfl
theorem kyCells_one (ks : List K2) : ∀ u ∈ keyCells ks, u.oneCell' = true := by
  intro u hu
  simp only [keyCells, List.mem_flatMap, List.mem_cons, List.not_mem_nil, or_false] at hu
  obtain ⟨k, _, rfl | rfl⟩ := hu <;> rfl
theorem kyCells_at {w : World} {g off : Nat} {ks : List K2} (h : ∀ i, i < ks.length → w.cell? ⟨g, off + i * 2, none⟩ = some (.int .i64 (ks.getD i (0, 0)).1) ∧ w.cell? ⟨g, off + i * 2 + 1, none⟩ = some (.int .i64 (ks.getD i (0, 0)).2)) :
    ∀ j u, (keyCells ks)[j]? = some u → w.cell? ((⟨g, off, none⟩ : Addr).add j) = some u := by
  intro j u hu
  have hj : j < ks.length * 2 := by rw [← keyCells_len]; exact (List.getElem?_eq_some_iff.1 hu).1
  have hc := keyCells_get ks (j / 2) (by omega)
  have hw := h (j / 2) (by omega)
  rw [addr_plusK]
  rcases (by omega : j = j / 2 * 2 ∨ j = j / 2 * 2 + 1) with e | e
  · rw [← e] at hc
    rw [show off + j / 2 * 2 = off + j by omega] at hw
    rw [hc.1] at hu; cases hu
    exact hw.1
  · rw [← e] at hc
    rw [show off + j / 2 * 2 + 1 = off + j by omega] at hw
    rw [hc.2] at hu; cases hu
    exact hw.2
theorem key_append_none {w : World} {base n : Nat} {v : Value} {xs : List Value} (h : w.ownsRow base 36 2 v n xs) (ar : Option Addr) (cr : Nat) (ty : TypeId) :
    (Builtin.append_ #[40, 40] ty #[v, .slice ar 0 cr]).run Try.prog w = .ok v w := by
  obtain ⟨i0, hi, hz0, hz1, hz2⟩ := info_parts infoK
  have u := Try.underlying40
  rcases h.2 with ⟨rfl, h0⟩ | ⟨g, cap, cur, rfl, _, _, hn, _⟩
  · cases ar <;> simp [Builtin.append_, run_underlying u, sizeOf, typeInfo, hi, storeCells, go_sem]
  · cases ar <;> simp [Builtin.append_, run_underlying u, sizeOf, typeInfo, hi, storeCells, hn, go_sem]
theorem run_append_key {w : World} {base n : Nat} {v : Value} {xs : List Value} (hown : w.ownsRow base 36 2 v n xs) (u : Value) (ks : List K2) (hu : keysAt w u ks) (ty : TypeId) (hn : n + ks.length ≤ 4000000) (hbase : base ≤ w.heap.size) :
    ∃ v' w', (Builtin.append_ #[40, 40] ty #[v, u]).run Try.prog w = .ok v' w' ∧ w'.ownsRow base 36 2 v' (n + ks.length) (xs ++ keyCells ks) ∧ w.grownBy w' v.ownBlock ∧ (v'.ownBlock = v.ownBlock ∨ v'.ownBlock = some w.heap.size) := by
  obtain ⟨i0, hi, hz0, hz1, hz2⟩ := info_parts infoK
  obtain ⟨a, cap, rfl, hcap, hcells⟩ := hu
  by_cases h0 : ks.length = 0
  · obtain rfl : ks = [] := List.length_eq_zero_iff.1 h0
    exact ⟨v, w, key_append_none hown a cap ty, by simpa [keyCells] using hown, World.grownBy.refl _ _, .inl rfl⟩
  · obtain ⟨g, off, rfl, hg, hcs⟩ := hcells.resolve_left h0
    obtain ⟨v', w', hr, h2, h3, h4, h5⟩ := run_append_own_at (P := Try.prog) w base 40 ty 36 i0 (.agg #[.int .i64 0, .int .i64 0]) 2 16 Try.underlying40 hi hz0 hz1 hz2 rfl (by decide) v n xs hown ⟨g, off, none⟩ ks.length cap (keyCells ks) (keyCells_len ks) (kyCells_at hcs) (kyCells_one ks) (by unfold maxLen; omega) (by omega) hbase
    exact ⟨v', w', hr, h2, h3, h5⟩
theorem step_append_key {ops : Array Oper} {o : Oper} {a : Act} {w : World} {K : Act → World → Prop} {Q : Exit → Act → World → Prop} {E : Prop} (hgd : o.guard = none) (s x : Operand)
    (ho : o.op = .call { callee := .builtin .append, args := #[s, x], argTypes := #[40, 40] })
    {base n : Nat} {v : Value} {xs : List Value} (hown : w.ownsRow base 36 2 v n xs) (u : Value) (ks : List K2) (hu : keysAt w u ks) (hs : a.eval s = v) (hx : a.eval x = u) (hn : n + ks.length ≤ 4000000) (hbase : base ≤ w.heap.size)
    (h : ∀ v' w', w'.ownsRow base 36 2 v' (n + ks.length) (xs ++ keyCells ks) → w.grownBy w' v.ownBlock → (v'.ownBlock = v.ownBlock ∨ v'.ownBlock = some w.heap.size) → K (a.put o.dst v') w') :
    if Region.wanted o (yielded ops a.tmps) = true then Oper.wp Try.prog o a w K Q else E := by
  have hw : Region.wanted o (yielded ops a.tmps) = true := by simp [Region.wanted, hgd]
  rw [if_pos hw]
  obtain ⟨v', w', hr, h2, h3, h5⟩ := run_append_key hown u ks hu o.type hn hbase
  unfold Oper.wp execOp
  simp only [ho, resolve, invoke, builtin, Sem.run_bind, Sem.run_pure, Result.andThen_ok, List.map_toArray, List.map_cons, List.map_nil, hs, hx, hr]
  exact h v' w' h2 h3 h5
end Go.Proofs.Ytjggheoonjajpaa
namespace Go.Proofs.Ytjggheoonjajpaa
open Go.ChangeShapes Go.WideShapes Go.ChangeAt Go.RowKit Go.BigFrame
set_option linter.unusedVariables false

/-- the cells of a word's result, of nothing yet -/
theorem cd_res {W : World} {b : Nat} {v0 : Value} {y0 : ByteArray} (h : W.heap[b]? = some (.cells #[v0, .string y0] 42)) (v : Value) (y : ByteArray) :
    (loadVar 42 ⟨b, 0, none⟩).run Try.prog ((W.setCell ⟨b, 0, none⟩ v).setCell ⟨b, 1, none⟩ (.string y)) = .ok (.agg #[v, .string y]) ((W.setCell ⟨b, 0, none⟩ v).setCell ⟨b, 1, none⟩ (.string y)) :=
  cd_load (set2 v (.string y) h) (Below.refl _ _)
theorem own_set2 {W : World} {base n b : Nat} {e : TypeId} {size : Nat} {v : Value} {xs : List Value} (h : W.ownsRow base e size v n xs) (hb : b < base) (p q : Value) : ((W.setCell ⟨b, 0, none⟩ p).setCell ⟨b, 1, none⟩ q).ownsRow base e size v n xs :=
  h.kept (grown2 W b p q) (by
    cases hv : v.ownBlock with
    | none => exact .inl rfl
    | some g => exact .inr (fun e => by cases e; have := (h.lt _ hv).1; omega))
end Go.Proofs.Ytjggheoonjajpaa
namespace Go.Proofs.Ytjggheoonjajpaa
open Go.ChangeShapes Go.WideShapes Go.ChangeAt Go.RowKit Go.BigFrame
set_option linter.unusedVariables false

/-- what is known of a world in which a word's copy is on its way: the word, the result's place -/
structure CpC (w W : World) (v0 : Value) (y0 : ByteArray) : Prop where
  below : Below w.heap.size w W
  row : W.heap[w.heap.size]? = some (.cells #[v0, .string y0] 42)
  res : W.heap[w.heap.size + 1]? = some (.cells #[.slice none 0 0, .string ⟨#[]⟩] 42)
theorem cpc_new (w : World) (v : Value) (y : ByteArray) : CpC w ((w.alloc (.cells #[v, .string y] 42)).alloc (.cells #[.slice none 0 0, .string ⟨#[]⟩] 42)) v y := by
  have hb1 := (Below.refl w.heap.size w).alloc (Nat.le_refl _) (.cells #[v, .string y] 42)
  have hr2 := heap_alloc_new (w.alloc (.cells #[v, .string y] 42)) (.cells #[.slice none 0 0, .string ⟨#[]⟩] 42)
  have e1 : (w.alloc (.cells #[v, .string y] 42)).heap.size = w.heap.size + 1 := by simp
  rw [e1] at hr2
  exact ⟨hb1.alloc hb1.size _, (Below.heap_alloc _ _ w.heap.size (by simp)).trans (heap_alloc_new w _), hr2⟩
theorem own_shape {w : World} {base n : Nat} {e : TypeId} {v : Value} {size : Nat} {xs : List Value} (h : w.ownsRow base e size v n xs) : ∃ a n c, v = .slice a n c := by
  rcases h.2 with ⟨h, _⟩ | ⟨g, cap, cur, h, _⟩
  · exact ⟨_, _, _, h⟩
  · exact ⟨_, _, _, h⟩
end Go.Proofs.Ytjggheoonjajpaa
namespace Go.Proofs.Ytjggheoonjajpaa
open Go.ChangeShapes Go.WideShapes Go.ChangeAt Go.RowKit Go.BigFrame
set_option linter.unusedVariables false

/-- the slice value v leads to the keys ks, in another block than b -/
def keysAv (w : World) (b : Option Nat) (v : Value) (ks : List K2) : Prop :=
  ∃ a cap, v = .slice a ks.length cap ∧ ks.length ≤ cap ∧ (ks.length = 0 ∨ ∃ g off, a = some ⟨g, off, none⟩ ∧ g < w.heap.size ∧ some g ≠ b ∧
    ∀ i, i < ks.length → w.cell? ⟨g, off + i * 2, none⟩ = some (.int .i64 (ks.getD i (0, 0)).1) ∧ w.cell? ⟨g, off + i * 2 + 1, none⟩ = some (.int .i64 (ks.getD i (0, 0)).2))
theorem keysAv.to {w : World} {b : Option Nat} {v : Value} {ks : List K2} (h : keysAv w b v ks) : keysAt w v ks := by
  obtain ⟨a, cap, h1, h2, h3⟩ := h
  refine ⟨a, cap, h1, h2, h3.imp_right ?_⟩
  rintro ⟨g, off, h4, h5, -, h6⟩
  exact ⟨g, off, h4, h5, h6⟩
theorem keysAv_of {w : World} {b : Option Nat} {v : Value} {ks : List K2} (h : keysAt w v ks) (hb : ∀ g, g < w.heap.size → some g ≠ b) : keysAv w b v ks := by
  obtain ⟨a, cap, h1, h2, h3⟩ := h
  refine ⟨a, cap, h1, h2, h3.imp_right ?_⟩
  rintro ⟨g, off, h4, h5, h6⟩
  exact ⟨g, off, h4, h5, hb g h5, h6⟩
theorem keysAv.avoid {w : World} {b b' : Option Nat} {v : Value} {ks : List K2} (h : keysAv w b v ks) (hb : ∀ g, g < w.heap.size → some g ≠ b') : keysAv w b' v ks := keysAv_of h.to hb
theorem keysAv.grown {w w' : World} {b : Option Nat} {v : Value} {ks : List K2} (h : keysAv w b v ks) (hg : w.grownBy w' b) : keysAv w' b v ks := by
  obtain ⟨a, cap, h1, h2, h3⟩ := h
  refine ⟨a, cap, h1, h2, h3.imp_right ?_⟩
  rintro ⟨g, off, h4, h5, h6, h7⟩
  refine ⟨g, off, h4, Nat.lt_of_lt_of_le h5 hg.size, h6, fun i hi => ?_⟩
  obtain ⟨c1, c2⟩ := h7 i hi
  exact ⟨hg.cell c1 h6, hg.cell c2 h6⟩
theorem keysAv.below {w w' : World} {b : Option Nat} {v : Value} {ks : List K2} (h : keysAv w b v ks) (hb : Below w.heap.size w w') : keysAv w' b v ks := h.grown (grown_of_below' hb b)
/-- the slice value v leads to the words L, their keys in other blocks than b -/
def cdAv (w : World) (b : Option Nat) (v : Value) (L : List C2) : Prop :=
  ∃ a cap, v = .slice a L.length cap ∧ L.length ≤ cap ∧ (L.length = 0 ∨ ∃ g off, a = some ⟨g, off, none⟩ ∧ g < w.heap.size ∧
    ∀ i, i < L.length → ∃ u, w.cell? ⟨g, off + i * 2, none⟩ = some u ∧ w.cell? ⟨g, off + i * 2 + 1, none⟩ = some (.string (L.getD i blankC).2) ∧ keysAv w b u (L.getD i blankC).1)
theorem cdAv_below {w w' : World} {b : Option Nat} {v : Value} {L : List C2} (h : cdAv w b v L) (hb : Below w.heap.size w w') : cdAv w' b v L := by
  obtain ⟨a, cap, h1, h2, h3⟩ := h
  refine ⟨a, cap, h1, h2, h3.imp_right ?_⟩
  rintro ⟨g, off, h4, h5, h6⟩
  refine ⟨g, off, h4, Nat.lt_of_lt_of_le h5 hb.size, fun i hi => ?_⟩
  obtain ⟨u, c1, c2, c3⟩ := h6 i hi
  exact ⟨u, (hb.cell (p := ⟨g, off + i * 2, none⟩) h5).trans c1, (hb.cell (p := ⟨g, off + i * 2 + 1, none⟩) h5).trans c2, c3.below hb⟩
theorem cdAv.avoid {w : World} {b b' : Option Nat} {v : Value} {L : List C2} (h : cdAv w b v L) (hb : ∀ g, g < w.heap.size → some g ≠ b') : cdAv w b' v L := by
  obtain ⟨a, cap, h1, h2, h3⟩ := h
  refine ⟨a, cap, h1, h2, h3.imp_right ?_⟩
  rintro ⟨g, off, h4, h5, h6⟩
  refine ⟨g, off, h4, h5, fun i hi => ?_⟩
  obtain ⟨u, c1, c2, c3⟩ := h6 i hi
  exact ⟨u, c1, c2, c3.avoid hb⟩
def cdCells : List Value → List C2 → List Value
  | u :: us, x :: L => u :: .string x.2 :: cdCells us L
  | _, _ => []
theorem cdCells_len : ∀ (us : List Value) (L : List C2), us.length = L.length → (cdCells us L).length = L.length * 2
  | [], [], _ => rfl
  | u :: us, x :: L, h => by
    have := cdCells_len us L (by simpa using h)
    simp only [cdCells, List.length_cons]
    omega
  | [], _ :: _, h => by simp at h
  | _ :: _, [], h => by simp at h
theorem cdCells_app : ∀ (us us' : List Value) (L M : List C2), us.length = L.length → cdCells (us ++ us') (L ++ M) = cdCells us L ++ cdCells us' M
  | [], us', [], M, _ => rfl
  | u :: us, us', x :: L, M, h => by
    have := cdCells_app us us' L M (by simpa using h)
    simp only [List.cons_append, cdCells, this]
  | [], _, _ :: _, _, h => by simp at h
  | _ :: _, _, [], _, h => by simp at h
theorem cdCells_get : ∀ (us : List Value) (L : List C2) (i : Nat), us.length = L.length → i < L.length → (cdCells us L)[i * 2]? = some (us.getD i undef) ∧ (cdCells us L)[i * 2 + 1]? = some (.string (L.getD i blankC).2)
  | [], [], _, _, h => by simp at h
  | u :: us, x :: L, 0, _, _ => by simp [cdCells]
  | u :: us, x :: L, i + 1, h, hi => by
    have ih := cdCells_get us L i (by simpa using h) (by simpa using hi)
    have e1 : (i + 1) * 2 = i * 2 + 1 + 1 := by omega
    rw [e1]
    simp only [cdCells, List.getElem?_cons_succ, List.getD_cons_succ]
    exact ih
  | [], _ :: _, _, h, _ => by simp at h
  | _ :: _, [], _, h, _ => by simp at h
theorem cdCells_set : ∀ (us : List Value) (L : List C2) (i : Nat) (u : Value) (x : C2), us.length = L.length → ((cdCells us L).set (i * 2) u).set (i * 2 + 1) (.string x.2) = cdCells (us.set i u) (L.set i x)
  | [], [], _, _, _, _ => rfl
  | v :: us, y :: L, 0, u, x, _ => by simp [cdCells]
  | v :: us, y :: L, i + 1, u, x, h => by
    have ih := cdCells_set us L i u x (by simpa using h)
    have e1 : (i + 1) * 2 = i * 2 + 1 + 1 := by omega
    rw [e1]
    simp only [cdCells, List.set_cons_succ]
    rw [ih]
  | [], _ :: _, _, _, _, h => by simp at h
  | _ :: _, [], _, _, _, h => by simp at h
/-- a list of words of one's own: their keys' slices us, in other blocks -/
structure cdOwn (w : World) (base : Nat) (v : Value) (us : List Value) (L : List C2) : Prop where
  len : us.length = L.length
  own : w.ownsRow base 42 2 v L.length (cdCells us L)
  keys : ∀ i, i < L.length → keysAv w v.ownBlock (us.getD i undef) (L.getD i blankC).1
theorem cdOwn.below {w w' : World} {base : Nat} {v : Value} {us : List Value} {L : List C2} (h : cdOwn w base v us L) (hb : Below w.heap.size w w') : cdOwn w' base v us L :=
  ⟨h.len, own_below h.own hb, fun i hi => (h.keys i hi).below hb⟩
theorem cdOwn.drew {w : World} {base : Nat} {v : Value} {us : List Value} {L : List C2} (h : cdOwn w base v us L) : cdOwn w.drew base v us L := ⟨h.len, h.own, h.keys⟩
theorem cdOwn.base {w : World} {base base' : Nat} {v : Value} {us : List Value} {L : List C2} (h : cdOwn w base v us L) (hb : base' ≤ base) : cdOwn w base' v us L :=
  ⟨h.len, own_base h.own hb, h.keys⟩
/-- another block of one's own is written -/
theorem cdOwn.other {w w' : World} {base : Nat} {b : Option Nat} {v : Value} {us : List Value} {L : List C2} (h : cdOwn w base v us L) (hg : w.grownBy w' b) (h1 : v.ownBlock ≠ b) (h2 : ∀ i, i < L.length → keysAv w b (us.getD i undef) (L.getD i blankC).1) : cdOwn w' base v us L := by
  refine ⟨h.len, h.own.kept hg (.inr h1), fun i hi => ?_⟩
  obtain ⟨a, cap, e1, e2, e3⟩ := h.keys i hi
  obtain ⟨a', cap', f1, f2, f3⟩ := (h2 i hi).grown hg
  refine ⟨a', cap', f1, f2, ?_⟩
  rw [e1] at f1
  cases f1
  rcases e3 with e3 | ⟨g, off, rfl, g1, g2, g3⟩
  · exact .inl e3
  · rcases f3 with f3 | ⟨g', off', e, j1, j2, j3⟩
    · exact .inl f3
    · cases e
      exact .inr ⟨g, off, rfl, j1, g2, j3⟩
theorem cdOwn.to {w : World} {base : Nat} {v : Value} {us : List Value} {L : List C2} (h : cdOwn w base v us L) : cdAv w v.ownBlock v L := by
  rcases h.own.2 with ⟨rfl, h0⟩ | ⟨g, cap, cur, rfl, hb, hg, hn, hm, hs, ht⟩
  · exact ⟨none, 0, by rw [h0], by omega, .inl h0⟩
  · refine ⟨_, cap, rfl, hn, .inr ⟨g, 0, rfl, (Array.getElem?_eq_some_iff.1 hg).1, fun i hi => ?_⟩⟩
    have hc := cdCells_get us L i h.len hi
    rw [Nat.zero_add, h.own.cellAt (i * 2) (by omega), h.own.cellAt (i * 2 + 1) (by omega)]
    exact ⟨_, hc.1, hc.2, h.keys i hi⟩
theorem cdAv_any {w : World} {b : Option Nat} {v : Value} {L : List C2} (h : cdAv w b v L) : cdAv w none v L := h.avoid fun g _ e => by cases e
theorem infoC : (Try.prog.info? 42).map (fun i => (i.zero, i.size, i.bytes)) = some (some (.agg #[.slice none 0 0, .string ⟨#[]⟩]), 2, 40) := by kernel_rfl
theorem cdCells_one : ∀ (us : List Value) (L : List C2), (∀ u ∈ us, ∃ a n c, u = .slice a n c) → ∀ u ∈ cdCells us L, u.oneCell' = true
  | [], _, _, u, h => by cases h
  | _ :: _, [], _, u, h => by cases h
  | v :: us, x :: L, hs, u, h => by
    simp only [cdCells, List.mem_cons] at h
    rcases h with rfl | rfl | h
    · obtain ⟨a, n, c, rfl⟩ := hs _ (List.mem_cons_self ..)
      rfl
    · rfl
    · exact cdCells_one us L (fun w hw => hs w (List.mem_cons_of_mem _ hw)) u h
/-- the slices of a list's words -/
theorem cdAv.slices {w : World} {b : Option Nat} {g off : Nat} {L : List C2} (h : ∀ i, i < L.length → ∃ u, w.cell? ⟨g, off + i * 2, none⟩ = some u ∧ w.cell? ⟨g, off + i * 2 + 1, none⟩ = some (.string (L.getD i blankC).2) ∧ keysAv w b u (L.getD i blankC).1) :
    ∃ us : List Value, us.length = L.length ∧ (∀ i, i < L.length → keysAv w b (us.getD i undef) (L.getD i blankC).1) ∧ (∀ u ∈ us, ∃ a n c, u = .slice a n c) ∧ ∀ j u, (cdCells us L)[j]? = some u → w.cell? ((⟨g, off, none⟩ : Addr).add j) = some u := by
  have hget : ∀ i, i < L.length → ((List.range L.length).map fun i => (w.cell? ⟨g, off + i * 2, none⟩).getD undef).getD i undef = (w.cell? ⟨g, off + i * 2, none⟩).getD undef := by
    intro i hi
    simp [List.getD, hi]
  have hlen : ((List.range L.length).map fun i => (w.cell? ⟨g, off + i * 2, none⟩).getD undef).length = L.length := by simp
  have hmem : ∀ u ∈ (List.range L.length).map fun i => (w.cell? ⟨g, off + i * 2, none⟩).getD undef, ∃ a n c, u = .slice a n c := by
    intro u hu
    obtain ⟨i, hi, rfl⟩ := List.mem_map.1 hu
    obtain ⟨u, c1, c2, a, cap, rfl, _⟩ := h i (List.mem_range.1 hi)
    rw [c1]; exact ⟨_, _, _, rfl⟩
  generalize ((List.range L.length).map fun i => (w.cell? ⟨g, off + i * 2, none⟩).getD undef) = us at *
  refine ⟨us, hlen, fun i hi => ?_, hmem, fun j u hu => ?_⟩
  · obtain ⟨u, c1, c2, c3⟩ := h i hi
    rw [hget i hi, c1]
    exact c3
  · have hl := cdCells_len us L hlen
    have hj : j < L.length * 2 := by rw [← hl]; exact (List.getElem?_eq_some_iff.1 hu).1
    have hc := cdCells_get us L (j / 2) hlen (by omega)
    obtain ⟨x, c1, c2, c3⟩ := h (j / 2) (by omega)
    rw [hget _ (by omega), c1] at hc
    rw [addr_plusK]
    rcases (by omega : j = j / 2 * 2 ∨ j = j / 2 * 2 + 1) with e | e
    · rw [← e] at hc c1
      rw [hc.1] at hu
      cases hu
      exact c1
    · rw [← e] at hc
      rw [hc.2] at hu
      cases hu
      rw [show off + j / 2 * 2 + 1 = off + j by omega] at c2
      exact c2
/-- a word of the list set anew -/
theorem cdOwn.set {w : World} {base g cap n : Nat} {us : List Value} {L : List C2} (h : cdOwn w base (.slice (some ⟨g, 0, none⟩) n cap) us L) (i : Nat) (u : Value) (x : C2) (hu : keysAv w (some g) u x.1) :
    cdOwn ((w.setCell ⟨g, i * 2, none⟩ u).setCell ⟨g, i * 2 + 1, none⟩ (.string x.2)) base (.slice (some ⟨g, 0, none⟩) n cap) (us.set i u) (L.set i x) := by
  have hn : n = L.length := by
    rcases h.own.2 with ⟨e, _⟩ | ⟨_, _, _, e, _⟩
    · cases e
    · cases e; rfl
  subst hn
  have st1 := h.own.stored (i * 2) u
  have st2 := st1.1.stored (i * 2 + 1) (.string x.2)
  rw [cdCells_set _ _ _ _ _ h.len] at st2
  have hg1 : w.grownBy ((w.setCell ⟨g, i * 2, none⟩ u).setCell ⟨g, i * 2 + 1, none⟩ (.string x.2)) (some g) := (Lib.grownBy_setCell w g (i * 2) u).trans (Lib.grownBy_setCell _ g (i * 2 + 1) (.string x.2))
  refine ⟨by simp [h.len], by rw [List.length_set]; exact st2.1, fun j hj => ?_⟩
  rw [List.length_set] at hj
  have hk : keysAv w (some g) ((us.set i u).getD j undef) ((L.set i x).getD j blankC).1 := by
    by_cases e : i = j
    · subst e
      have e1 : (us.set i u).getD i undef = u := by simp [List.getD, h.len, hj]
      have e2 : (L.set i x).getD i blankC = x := by simp [List.getD, hj]
      rw [e1, e2]; exact hu
    · have e1 : (us.set i u).getD j undef = us.getD j undef := by simp [List.getD, e]
      have e2 : (L.set i x).getD j blankC = L.getD j blankC := by simp [List.getD, e]
      rw [e1, e2]; exact h.keys j hj
  exact hk.grown hg1
end Go.Proofs.Ytjggheoonjajpaa
namespace Go.Proofs.Ytjggheoonjajpaa
open Go.ChangeShapes Go.WideShapes Go.ChangeAt Go.RowKit Go.BigFrame
set_option linter.unusedVariables false
set_option linter.unusedSimpArgs false

def saV (s : Stn) (vo vb vh : Value) : Value := .agg #[.int .i64 s.id, .bool s.alive, .int .i64 s.seq, .int .i64 s.most, vo, vb, vh]
/-- a station's three lists, where they lie -/
structure SaL (w : World) (s : Stn) (vo vb vh : Value) : Prop where
  own : rdAt w vo s.own
  buf : cdAv w none vb s.buf
  heard : inAt w vh s.heard
theorem SaL.below {w w' : World} {s : Stn} {vo vb vh : Value} (h : SaL w s vo vb vh) (hb : Below w.heap.size w w') : SaL w' s vo vb vh :=
  ⟨rdAt_below h.own hb, cdAv_below h.buf hb, inAt_below h.heard hb⟩
theorem row7_of {W : World} {b : Nat} {v0 v1 v2 v3 v4 v5 v6 : Value} {T : TypeId} (h : W.heap[b]? = some (.cells #[v0, v1, v2, v3, v4, v5, v6] T (0, 0))) :
    (W.cell? ⟨b, 0, none⟩ = some v0 ∧ W.cell? ⟨b, 1, none⟩ = some v1 ∧ W.cell? ⟨b, 2, none⟩ = some v2 ∧ W.cell? ⟨b, 3, none⟩ = some v3 ∧ W.cell? ⟨b, 4, none⟩ = some v4 ∧ W.cell? ⟨b, 5, none⟩ = some v5 ∧ W.cell? ⟨b, 6, none⟩ = some v6) ∧
    (W.frozen? ⟨b, 0, none⟩ = false ∧ W.frozen? ⟨b, 1, none⟩ = false ∧ W.frozen? ⟨b, 2, none⟩ = false ∧ W.frozen? ⟨b, 3, none⟩ = false ∧ W.frozen? ⟨b, 4, none⟩ = false ∧ W.frozen? ⟨b, 5, none⟩ = false ∧ W.frozen? ⟨b, 6, none⟩ = false) := by
  refine ⟨⟨?_, ?_, ?_, ?_, ?_, ?_, ?_⟩, ?_, ?_, ?_, ?_, ?_, ?_, ?_⟩
  · rw [cell_of_row _ _ 0 _ _ _ h]; rfl
  · rw [cell_of_row _ _ 1 _ _ _ h]; rfl
  · rw [cell_of_row _ _ 2 _ _ _ h]; rfl
  · rw [cell_of_row _ _ 3 _ _ _ h]; rfl
  · rw [cell_of_row _ _ 4 _ _ _ h]; rfl
  · rw [cell_of_row _ _ 5 _ _ _ h]; rfl
  · rw [cell_of_row _ _ 6 _ _ _ h]; rfl
  all_goals simp [World.frozen?, h]
theorem sa_load {W : World} {b : Nat} {v0 v1 v2 v3 v4 v5 v6 : Value} (h : W.heap[b]? = some (.cells #[v0, v1, v2, v3, v4, v5, v6] 28 (0, 0))) : (loadVar 28 ⟨b, 0, none⟩).run Try.prog W = .ok (.agg #[v0, v1, v2, v3, v4, v5, v6]) W :=
  run_loadVar_row (P := Try.prog) W b 28 28 #[v0, v1, v2, v3, v4, v5, v6] (0, 0) _ h Try.underlying28 rfl (by kernel_rfl)
end Go.Proofs.Ytjggheoonjajpaa
namespace Go.Proofs.Ytjggheoonjajpaa
open Go.ChangeShapes Go.WideShapes Go.ChangeAt Go.RowKit
set_option linter.unusedVariables false
/-- one of some numbers, laid just now -/
theorem pick_litS (n₀ g len cap : Nat) (a : Option Addr) (zs : List Int) (c : Cu) (xs : List Int) (n : Nat) (w0 w : World) (cs : Array Value) (hd : Drew n₀ g a len cap zs c w0 w) (hn : 0 < n) (hn2 : n ≤ 256) (hx : xs.length = n) (hcs : cs = (xs.map (Value.int .i64)).toArray) :
    Calls Try.prog 64 #[.pointer (some ⟨g, 0, none⟩), .slice (some ⟨w.heap.size, 0, none⟩) n n] (w.alloc (.cells cs 3)) fun e w' => ∃ (z : Int) (c' : Cu), e = .returned (.int .i64 z) ∧ Drew n₀ g a len cap zs c' w0 w' := by
  have hgl := hd.st.lt
  refine (pickint_any n₀ g len cap w.heap.size n a zs c xs _ (hd.alloc _).st hn hn2 hx (by omega) ?_).mono (fun e w' h => ⟨_, _, h.1, (hd.alloc _).trans h.2⟩)
  intro k hk
  rw [lit_cell, hcs]
  simp [show k < xs.length by omega]
set_option maxRecDepth 100000 in
set_option maxHeartbeats 1000000 in
theorem drawnewstation_any (len cap : Nat) (a : Option Addr) (zs : List Int) (w : World) (hc : CodeAt w.heap.size w a len zs) :
    Calls Try.prog 25 #[.slice a len cap] w fun e w' => ∃ l n : Int, e = .returned (.tuple #[.int .i64 l, .int .i64 n]) ∧ Below w.heap.size w w' := by
  have H0 := Lib.hid (new_any w.heap.size len cap a zs w hc (Nat.le_refl _))
  go_enter Try.func25, Try.ntmps25
  go_wp2_with fail
  refine H0.out.mono ?_
  rintro e w1 ⟨g, rfl, hg, hs, hb1, hg1⟩
  have hd0 : Drew w.heap.size g a len cap zs (newC zs len) w1 w1 := ⟨hs, Below.refl _ _, World.grownBy.refl _ _⟩
  go_wp2_with fail
  refine (pick_litS w.heap.size g len cap a zs _ [1, 20, 0, 21, 5] 5 w1 w1 _ hd0 (by omega) (by omega) rfl rfl).mono ?_
  rintro e w2 ⟨z, c2, rfl, hd2⟩
  go_wp2_with fail
  refine (pick_litS w.heap.size g len cap a zs c2 [1, 6, 0, 7, 3] 5 w1 w2 _ hd2 (by omega) (by omega) rfl rfl).mono ?_
  rintro e w4 ⟨z2, c4, rfl, hd4⟩
  have HB := Lib.hid (hb1.trans hd4.below)
  clear hd0 hd2 hd4 hb1 hs
  go_wp2
  go_ret2
  exact ⟨z, z2, rfl, HB.out⟩
end Go.Proofs.Ytjggheoonjajpaa
namespace Go.Proofs.Ytjggheoonjajpaa
open Go.ChangeShapes Go.WideShapes Go.ChangeAt Go.RowKit Go.BigFrame
set_option linter.unusedVariables false
set_option maxRecDepth 100000 in
set_option maxHeartbeats 1000000 in
theorem samekeys_any (va vb : Value) (A B : List K2) (w : World) (ha : keysAt w va A) (hb : keysAt w vb B) (hsA : A.length ≤ 4000000) (hsB : B.length ≤ 4000000) :
    Calls Try.prog 76 #[va, vb] w fun e w' => e = .returned (.bool (decide (A = B))) ∧ Below w.heap.size w w' := by
  obtain ⟨aa, ca, rfl, hca, hcA⟩ := ha
  obtain ⟨ab, cb, rfl, hcb, hcB⟩ := hb
  by_cases hl : A.length = B.length
  · have e0 : (A.length : Int) = (B.length : Int) := by omega
    go_enter Try.func76, Try.ntmps76
    rw [hl] at hca hcA ⊢
    go_wp2
    go_loopw [5] (fun i wr => ∃ k : Nat, k ≤ B.length ∧ i = .int .i64 k ∧ (∀ j, j < k → A.getD j (0, 0) = B.getD j (0, 0)) ∧ Below w.heap.size w wr) (fun i _ => B.length - (intOf i).toNat)
    case atStart => exact ⟨0, Nat.zero_le _, rfl, fun j hj => by omega, Below.refl _ _⟩
    case round =>
      obtain ⟨k, hk, rfl, hall, hbr⟩ := hrel
      by_cases hlt : k < B.length
      · obtain ⟨ga, offa, rfl, hga, hcsA⟩ := hcA.resolve_left (by omega)
        obtain ⟨gb, offb, rfl, hgb, hcsB⟩ := hcB.resolve_left (by omega)
        have cA := hcsA k hlt
        have cB := hcsB k hlt
        have z0 : (0 : Int) ≤ (k : Int) := by omega
        have z1 : (k : Int) < (B.length : Int) := by omega
        clear hcsA hcsB hcA hcB
        have L1 : ∀ w', Below w.heap.size w w' → (loadVar 36 ⟨ga, offa + k * 2, none⟩).run Try.prog w' = .ok (kv (A.getD k (0, 0))) w' := fun w' h => key_load cA hga h
        have L2 : ∀ w', Below w.heap.size w w' → (loadVar 36 ⟨gb, offb + k * 2, none⟩).run Try.prog w' = .ok (kv (B.getD k (0, 0))) w' := fun w' h => key_load cB hgb h
        have HE := Lib.hid (fun w => eqkey_any (A.getD k (0, 0)) (B.getD k (0, 0)) w)
        clear cA cB
        cases he : (A.getD k (0, 0) == B.getD k (0, 0)) with
        | true =>
          have hn : ∀ j, j < k + 1 → A.getD j (0, 0) = B.getD j (0, 0) := by
            intro j hj
            rcases (by omega : j < k ∨ j = k) with h1 | rfl
            · exact hall j h1
            · exact eq_of_beq he
          have HN := Lib.hid hn
          rw [he] at HE
          clear hall hn
          generalize A.getD k (0, 0) = kx at *
          generalize B.getD k (0, 0) = ky at *
          go_wp2
          refine wp_region_below w (by kernel_rfl) (by kernel_rfl) hbr ?_
          repeat (first
            | go_big_quiet_skip
            | (go_big_quiet_want
               first
                 | (go_big_quiet_op; go_big_quiet_on)
                 | (refine q_load 36 _ _ _ rfl rfl L1 ?_; simp only [Act.put, List.setIfInBounds_toArray, List.set_cons_zero, List.set_cons_succ]; go_big_quiet_on)
                 | (refine q_load 36 _ _ _ rfl rfl L2 ?_; simp only [Act.put, List.setIfInBounds_toArray, List.set_cons_zero, List.set_cons_succ]; go_big_quiet_on)
                 | (refine q_bin _ 36 _ _ _ _ _ _ rfl rfl rfl (fun w => key_guard _ _ _ _ _ w) (fun w => key_eql _ _ w) ?_; simp only [Act.put, List.setIfInBounds_toArray, List.set_cons_zero, List.set_cons_succ]; go_big_quiet_on)
                 | (refine q_bin _ 36 _ _ _ _ _ _ rfl rfl rfl (fun w => key_guard _ _ _ _ _ w) (fun w => key_neq _ _ w) ?_; simp only [Act.put, List.setIfInBounds_toArray, List.set_cons_zero, List.set_cons_succ]; go_big_quiet_on)
                 | (go_big_quiet_op; refine ⟨_, fun _ _ => rfl, ?_⟩; go_big_quiet_on)
                 | (go_big_quiet_op; go_big_quiet_on)))
          refine wpQuiet_nil ?_
          intro w2 hb2
          rw [he]
          clear L1 L2 HE hbr
          go_wp2
          exact ⟨⟨k + 1, by omega, by go_num, HN.out, hb2⟩, by simp [intOf]; omega⟩
        | false =>
          have hne : decide (A = B) = false := by
            simp only [decide_eq_false_iff_not]
            intro e
            subst e
            simp at he
          have HD := Lib.hid hne
          rw [he] at HE
          clear hall hne
          generalize A.getD k (0, 0) = kx at *
          generalize B.getD k (0, 0) = ky at *
          go_wp2
          refine wp_region_below w (by kernel_rfl) (by kernel_rfl) hbr ?_
          repeat (first
            | go_big_quiet_skip
            | (go_big_quiet_want
               first
                 | (go_big_quiet_op; go_big_quiet_on)
                 | (refine q_load 36 _ _ _ rfl rfl L1 ?_; simp only [Act.put, List.setIfInBounds_toArray, List.set_cons_zero, List.set_cons_succ]; go_big_quiet_on)
                 | (refine q_load 36 _ _ _ rfl rfl L2 ?_; simp only [Act.put, List.setIfInBounds_toArray, List.set_cons_zero, List.set_cons_succ]; go_big_quiet_on)
                 | (refine q_bin _ 36 _ _ _ _ _ _ rfl rfl rfl (fun w => key_guard _ _ _ _ _ w) (fun w => key_eql _ _ w) ?_; simp only [Act.put, List.setIfInBounds_toArray, List.set_cons_zero, List.set_cons_succ]; go_big_quiet_on)
                 | (refine q_bin _ 36 _ _ _ _ _ _ rfl rfl rfl (fun w => key_guard _ _ _ _ _ w) (fun w => key_neq _ _ w) ?_; simp only [Act.put, List.setIfInBounds_toArray, List.set_cons_zero, List.set_cons_succ]; go_big_quiet_on)
                 | (go_big_quiet_op; refine ⟨_, fun _ _ => rfl, ?_⟩; go_big_quiet_on)
                 | (go_big_quiet_op; go_big_quiet_on)))
          refine wpQuiet_nil ?_
          intro w2 hb2
          rw [he]
          clear L1 L2 HE hbr
          go_wp2
          go_ret
          exact ⟨by rw [HD.out]; rfl, hb2⟩
      · obtain rfl : k = B.length := by omega
        have he : decide (A = B) = true := by
          simp only [decide_eq_true_eq]
          apply List.ext_getElem hl
          intro i h1 h2
          have := hall i h2
          simpa [List.getD, h1, h2] using this
        have HD := Lib.hid he
        clear hall he
        go_wp2
        go_ret
        exact ⟨by rw [HD.out]; rfl, hbr⟩
  · have hne : decide (A = B) = false := by simp only [decide_eq_false_iff_not]; intro e; subst e; exact hl rfl
    have HD := Lib.hid hne
    have e0 : ¬ (A.length : Int) = (B.length : Int) := by omega
    clear hne
    go_enter Try.func76, Try.ntmps76
    go_wp2
    go_ret
    exact ⟨by rw [HD.out]; rfl, Below.refl _ _⟩
end Go.Proofs.Ytjggheoonjajpaa
namespace Go.Proofs.Ytjggheoonjajpaa
open Go.ChangeShapes Go.WideShapes Go.ChangeAt Go.RowKit Go.BigFrame
set_option linter.unusedVariables false

theorem two_boxes (w : World) (va : Value) (ya : ByteArray) (vb : Value) (yb : ByteArray) :
    Below w.heap.size w ((w.alloc (.cells #[va, .string ya] 42)).alloc (.cells #[vb, .string yb] 42)) ∧
    ((w.alloc (.cells #[va, .string ya] 42)).alloc (.cells #[vb, .string yb] 42)).heap[w.heap.size]? = some (.cells #[va, .string ya] 42) ∧
    ((w.alloc (.cells #[va, .string ya] 42)).alloc (.cells #[vb, .string yb] 42)).heap[w.heap.size + 1]? = some (.cells #[vb, .string yb] 42) := by
  have hb1 := (Below.refl w.heap.size w).alloc (Nat.le_refl _) (.cells #[va, .string ya] 42)
  have e1 : (w.alloc (.cells #[va, .string ya] 42)).heap.size = w.heap.size + 1 := by simp
  have r2 := heap_alloc_new (w.alloc (.cells #[va, .string ya] 42)) (.cells #[vb, .string yb] 42)
  rw [e1] at r2
  exact ⟨hb1.alloc hb1.size _, (Below.heap_alloc _ _ w.heap.size (by simp)).trans (heap_alloc_new w _), r2⟩
theorem str_eq (a b : ByteArray) : (a.toList == b.toList) = decide (a = b) := by
  rw [Bool.eq_iff_iff, decide_eq_true_eq, beq_iff_eq, bytes_toList_iff]
set_option maxRecDepth 100000 in
set_option maxHeartbeats 1000000 in
theorem samecode_any (va : Value) (A : List K2) (ya : ByteArray) (vb : Value) (B : List K2) (yb : ByteArray) (w : World) (ha : keysAt w va A) (hb : keysAt w vb B) (hsA : A.length ≤ 4000000) (hsB : B.length ≤ 4000000) :
    Calls Try.prog 23 #[.agg #[va, .string ya], .agg #[vb, .string yb]] w fun e w' => e = .returned (.bool (decide (ya = yb) && decide (A = B))) ∧ Below w.heap.size w w' := by
  obtain ⟨t1, t2, t3⟩ := two_boxes w va ya vb yb
  have HB := Lib.hid t1; have HX := Lib.hid t2; have HY := Lib.hid t3
  have EQ := Lib.hid (fun w' (h : Below w.heap.size w w') => samekeys_any va vb A B w' (keysAt_below ha h) (keysAt_below hb h) hsA hsB)
  obtain ⟨x0, x1, -, -⟩ := row2_of t2
  obtain ⟨y0, y1, -, -⟩ := row2_of t3
  have hne := str_eq ya yb
  clear t1 t2 t3 ha hb
  generalize decide (A = B) = p at *
  generalize decide (ya = yb) = q at *
  go_enter Try.func23, Try.ntmps23
  cases q with
  | false =>
    go_wp2
    go_ret
    exact ⟨by simp, HB.out⟩
  | true =>
    go_wp2_with fail
    generalize (w.alloc (.cells #[va, .string ya] 42)).alloc (.cells #[vb, .string yb] 42) = W at *
    refine (EQ.out _ HB.out).mono ?_
    rintro e w1 ⟨rfl, hb1⟩
    have HB1 := Lib.hid (HB.out.trans (hb1.mono HB.out.size))
    clear hb1 x0 x1 y0 y1 HB HX HY EQ
    go_wp2
    go_ret
    exact ⟨by simp, HB1.out⟩
end Go.Proofs.Ytjggheoonjajpaa
namespace Go.Proofs.Ytjggheoonjajpaa
open Go
section
variable {P : Program} {ops : Array Oper} {Q : Exit → Act → World → Prop} {md : Region.Mode} {S : World → Prop}

/-- whatever order is picked from here on; behind each operation a sharper condition holds -/
def wpG (P : Program) (md : Region.Mode) (ops : Array Oper) (Q : Exit → Act → World → Prop) : Nat → (World → Prop) → Array Bool → Act → World → Prop
  | 0, _, listed, a, w => Region.ready md ops listed = [] ∧ Q .normal a w
  | fuel + 1, S, listed, a, w =>
    (Region.ready md ops listed = [] → Q .normal a w) ∧
    ∀ i ∈ Region.ready md ops listed, wpOp P ops Q i (fun a' w' => ∃ S' : World → Prop, (∀ x, S' x → S x) ∧ S' w' ∧ wpG P md ops Q fuel S' (listed.setIfInBounds i true) a' w') a w

theorem wpAny_of_G : ∀ (fuel : Nat) (S : World → Prop) (listed : Array Bool) (a : Act) (w : World), wpG P md ops Q fuel S listed a w → wpAny P md ops Q fuel listed a w
  | 0, _, _, _, _, h => h
  | fuel + 1, S, _, _, _, h => ⟨h.1, fun i hi => wpOp_mono (fun a' w' ⟨S', _, _, h'⟩ => wpAny_of_G fuel S' _ a' w' h') (h.2 i hi)⟩

theorem YieldsIf.sharper {S' : World → Prop} {o : Oper} {v : Value} {a : Act} (h : ∀ x, S' x → S x) (hy : YieldsIf P ops S o v a) : YieldsIf P ops S' o v a :=
  hy.imp (fun ⟨hw, hv⟩ => ⟨hw, fun w hs => hv w (h w hs)⟩) id

theorem wpG_first {i : Nat} {oi : Oper} {v : Value} (hi : ops[i]? = some oi) (hsel : ∀ (j : Nat) (o : Oper) cs b, ops[j]? = some o → o.op ≠ .select cs b)
    (hQ : ∀ c a w, Q (.panic c) (a.put oi.dst v) w → Q (.panic c) a w) :
    ∀ (fuel : Nat) (S : World → Prop) (listed : Array Bool) (a : Act) (w : World),
      (∀ j oj, ops[j]? = some oj → j ≠ i → listed.getD j true = false → (∀ e ∈ oj.after, Region.binds md e = true → e.on ≠ i) → oi.apart ops oj = true) →
      i ∈ Region.ready md ops listed → YieldsIf P ops S oi v a → S w →
      wpG P md ops Q fuel S (listed.setIfInBounds i true) (a.put oi.dst v) w → wpG P md ops Q (fuel + 1) S listed a w := by
  intro fuel
  induction fuel with
  | zero =>
    intro S listed a w _ hr hy hS H
    refine ⟨fun h => (by rw [h] at hr; cases hr), fun j hj => ?_⟩
    by_cases hji : j = i
    · subst hji; exact hy.wpOp hi hS ⟨S, fun _ h => h, hS, H⟩
    · have := ready_mono hj hji
      rw [H.1] at this
      cases this
  | succ fuel ih =>
    intro S listed a w hfree hr hy hS H
    refine ⟨fun h => (by rw [h] at hr; cases hr), fun j hj => ?_⟩
    by_cases hji : j = i
    · subst hji; exact hy.wpOp hi hS ⟨S, fun _ h => h, hS, H⟩
    · have h1 := H.2 j (ready_mono hj hji)
      obtain ⟨hjun, oj, hoj, hall⟩ := mem_ready.1 hj
      have hnot : ∀ e ∈ oj.after, Region.binds md e = true → e.on ≠ i := fun e he hb heq => by
        have h1 := hall e he hb
        have h0 := (mem_ready.1 hr).1
        rw [heq] at h1
        rcases Nat.lt_or_ge i listed.size with h' | h'
        · simp [h'] at h0 h1; rw [h0] at h1; cases h1
        · simp [Array.getElem?_eq_none h'] at h1
      have h2 := wpOp_putIf hoj (hfree j oj hoj hji hjun hnot) (fun cs b => hsel i oi cs b hi) (fun cs b => hsel j oj cs b hoj) hQ hy h1
      have hfree' : ∀ k ok, ops[k]? = some ok → k ≠ i → (listed.setIfInBounds j true).getD k true = false →
          (∀ e ∈ ok.after, Region.binds md e = true → e.on ≠ i) → oi.apart ops ok = true := fun k ok hk hki hun hno => by
        refine hfree k ok hk hki ?_ hno
        by_cases hjk : j = k
        · subst hjk; exact hjun
        · rw [getD_set_ne true hjk] at hun; exact hun
      refine wpOp_mono (fun a' w' h3 => ?_) h2
      obtain ⟨hy3, S', hs, hs2, h4⟩ := h3
      refine ⟨S', hs, hs2, ih S' (listed.setIfInBounds j true) a' w' hfree' (ready_mono hr (Ne.symm hji)) (YieldsIf.sharper hs hy3) hs2 ?_⟩
      rw [Array.setIfInBounds_comm _ _ hji]
      exact h4

/-- an operation that hands back a value and nothing else -/
def valueOp : Op → Bool
  | .move _ | .assign _ | .pick _ _ _ | .load _ _ | .binOp _ _ _ _ _ | .unOp _ _ _ | .convert _ _ _ | .slice _ _ _ _ _ | .fieldAddr _ _ _ | .field _ _ _ | .indexAddr _ _ _ | .index _ _ _ | .extract _ _ => true
  | _ => false
theorem value_of_run {α : Type} (s : Sem α) (f : α → Value) (w w' : World) (n : Next) (h : ((do pure (Next.value (f (← s)))) : Sem Next).run P w = .ok n w') : ∃ u, n = .value u := by
  rw [Sem.run_bind] at h
  cases hs : s.run P w with
  | ok v w1 =>
    rw [hs] at h
    simp only [Result.andThen, Sem.run_pure, Result.ok.injEq] at h
    exact ⟨_, h.1.symm⟩
  | halt x w1 => rw [hs] at h; simp [Result.andThen] at h
theorem valueOp_spec {o : Oper} (h : valueOp o.op = true) (ρ : Operand → Value) (w w' : World) (n : Next) (hr : (execOp ρ o).run P w = .ok n w') : ∃ u, n = .value u := by
  unfold execOp at hr
  cases ho : o.op <;> rw [ho] at h hr <;> simp only [valueOp] at h <;> try (exact absurd h Bool.false_ne_true)
  all_goals dsimp only at hr
  all_goals first
    | (simp only [Sem.run_pure, Result.ok.injEq] at hr; exact ⟨_, hr.1.symm⟩)
    | exact value_of_run _ (fun v => v) w w' n hr
    | exact value_of_run _ _ w w' n hr
theorem yields_of_quiet {o : Oper} {a : Act} {v : Value} (hv : valueOp o.op = true) (hw : Region.wanted o (yielded ops a.tmps) = true) (h : ∀ w, S w → o.quietAt P a S w v) : YieldsIf P ops S o v a := by
  refine .inl ⟨hw, fun w hs => ?_⟩
  have h1 := h w hs
  unfold Oper.quietAt at h1
  cases hr : (execOp a.eval o).run P w with
  | ok n w' =>
    obtain ⟨u, rfl⟩ := valueOp_spec hv a.eval w w' n hr
    rw [hr] at h1
    simp only [Oper.quietUpon] at h1
    obtain ⟨rfl, rfl⟩ := h1
    rfl
  | halt x w' => rw [hr] at h1; exact absurd h1 (by simp [Oper.quietUpon])

/-- the takes of a segment, in the order of the text -/
def takesB (md : Region.Mode) (l : List Oper) : List Bool → Nat → Array Bool → Bool
  | true :: m, i, listed => (match l[i]? with | some o => valueOp o.op | none => false) && Region.free md l.toArray listed i && (Region.ready md l.toArray listed).contains i && takesB md l m (i + 1) (listed.setIfInBounds i true)
  | false :: m, i, listed => takesB md l m (i + 1) listed
  | [], _, _ => true
def takenL : List Bool → Nat → Array Bool → Array Bool
  | true :: m, i, listed => takenL m (i + 1) (listed.setIfInBounds i true)
  | false :: m, i, listed => takenL m (i + 1) listed
  | [], _, listed => listed
def countT : List Bool → Nat
  | true :: m => countT m + 1
  | false :: m => countT m
  | [] => 0
theorem takes_G {l : List Oper} (hs : Region.noSelect l.toArray = true) (hQ : ∀ c a d v w, Q (.panic c) (Act.put a d v) w → Q (.panic c) a w) {S : World → Prop} {w : World} (hS : S w) {R : Act → Prop} :
    ∀ (m : List Bool) (i fuel : Nat) (listed : Array Bool) (a : Act), takesB md l m i listed = true → m.length + i ≤ l.length →
      (∀ a', R a' → wpG P md l.toArray Q fuel S (takenL m i listed) a' w) → wpQuiet P l.toArray S R (maskRows m (l.drop i)) a → wpG P md l.toArray Q (fuel + countT m) S listed a w
  | [], i, fuel, listed, a, _, _, hk, h => hk a (by simpa [maskRows, wpQuiet] using h)
  | false :: m, i, fuel, listed, a, hb, hl, hk, h => by
    have hlt : i < l.length := by simp only [List.length_cons] at hl; omega
    rw [List.drop_eq_getElem_cons hlt] at h
    exact takes_G hs hQ hS m (i + 1) fuel listed a hb (by simp only [List.length_cons] at hl; omega) hk h
  | true :: m, i, fuel, listed, a, hb, hl, hk, h => by
    have hlt : i < l.length := by simp only [List.length_cons] at hl; omega
    rw [List.drop_eq_getElem_cons hlt] at h
    simp only [takesB, Bool.and_eq_true] at hb
    obtain ⟨⟨⟨hv, hf⟩, hr⟩, hb⟩ := hb
    have ho : l.toArray[i]? = some l[i] := by simp [hlt]
    rw [show l[i]? = some l[i] from by simp [hlt]] at hv
    dsimp only at hv
    simp only [maskRows, wpQuiet] at h
    have hin : i ∈ Region.ready md l.toArray listed := by simpa using hr
    show wpG P md l.toArray Q (fuel + countT m + 1) S listed a w
    by_cases hw : Region.wanted l[i] (yielded l.toArray a.tmps) = true
    · rw [if_pos hw] at h
      obtain ⟨v, h1, h2⟩ := h
      exact wpG_first ho (Region.noSelect_spec hs) (fun c a w => hQ c a _ _ w) _ S listed a w (Region.free_spec ho hf) hin (yields_of_quiet hv hw h1) hS
        (takes_G hs hQ hS m (i + 1) fuel _ _ hb (by simp only [List.length_cons] at hl; omega) hk h2)
    · rw [if_neg hw] at h
      exact wpG_first ho (Region.noSelect_spec hs) (fun c a w => hQ c a _ _ w) _ S listed a w (Region.free_spec ho hf) hin (.inr ⟨by simpa using hw, rfl⟩) hS
        (takes_G hs hQ hS m (i + 1) fuel _ _ hb (by simp only [List.length_cons] at hl; omega) hk h)
theorem wpG_done {listed : Array Bool} {a : Act} {w : World} (hr : Region.ready md ops listed = []) (h : Q .normal a w) : ∀ fuel, wpG P md ops Q fuel S listed a w
  | 0 => ⟨hr, h⟩
  | _ + 1 => ⟨fun _ => h, by rw [hr]; simp⟩
end
end Go.Proofs.Ytjggheoonjajpaa
namespace Go.Proofs.Ytjggheoonjajpaa
open Go
section
variable {P : Program} {Q : Exit → Act → World → Prop} {md : Region.Mode} {S : World → Prop}
def segtB (md : Region.Mode) (l : List Oper) (m : List Bool) (rd : List Nat) (fuel fuel' : Nat) (listed : Array Bool) : Bool :=
  decide (fuel = fuel' + 1 + countT m) && decide (m.length ≤ l.length) && takesB md l m 0 listed && decide (Region.ready md l.toArray (takenL m 0 listed) = rd) && !rd.isEmpty
/-- what reads is taken; then one after another of what is ready is tried -/
theorem wpG_seg {l : List Oper} (m : List Bool) (rd : List Nat) (fuel' : Nat) {fuel : Nat} {listed : Array Bool} {a : Act} {w : World} (hs : Region.noSelect l.toArray = true)
    (hQ : ∀ c a d v w, Q (.panic c) (Act.put a d v) w → Q (.panic c) a w) (hb : segtB md l m rd fuel fuel' listed = true) (hS : S w)
    (h : wpQuiet P l.toArray S (fun a' => ∀ i ∈ rd, wpOp P l.toArray Q i (fun a'' w'' => ∃ S' : World → Prop, (∀ x, S' x → S x) ∧ S' w'' ∧ wpG P md l.toArray Q fuel' S' ((takenL m 0 listed).setIfInBounds i true) a'' w'') a' w) (maskRows m l) a) :
    wpG P md l.toArray Q fuel S listed a w := by
  simp only [segtB, Bool.and_eq_true, decide_eq_true_eq, Bool.not_eq_true'] at hb
  obtain ⟨⟨⟨⟨h1, h2⟩, h3⟩, h4⟩, h5⟩ := hb
  subst h1
  refine takes_G (P := P) (md := md) hs hQ hS (R := fun a' => ∀ i ∈ rd, wpOp P l.toArray Q i (fun a'' w'' => ∃ S' : World → Prop, (∀ x, S' x → S x) ∧ S' w'' ∧ wpG P md l.toArray Q fuel' S' ((takenL m 0 listed).setIfInBounds i true) a'' w'') a' w) m 0 (fuel' + 1) listed a h3 (by omega) (fun a' hq => ?_) (by simpa using h)
  refine ⟨fun h0 => (by rw [h4] at h0; rw [h0] at h5; cases h5), fun j hj => ?_⟩
  rw [h4] at hj
  exact hq j hj
def segeB (md : Region.Mode) (l : List Oper) (m : List Bool) (fuel : Nat) (listed : Array Bool) : Bool :=
  decide (countT m ≤ fuel) && decide (m.length ≤ l.length) && takesB md l m 0 listed && decide (Region.ready md l.toArray (takenL m 0 listed) = [])
theorem wpG_end {l : List Oper} (m : List Bool) {fuel : Nat} {listed : Array Bool} {a : Act} {w : World} (hs : Region.noSelect l.toArray = true)
    (hQ : ∀ c a d v w, Q (.panic c) (Act.put a d v) w → Q (.panic c) a w) (hb : segeB md l m fuel listed = true) (hS : S w)
    (h : wpQuiet P l.toArray S (fun a' => Q .normal a' w) (maskRows m l) a) : wpG P md l.toArray Q fuel S listed a w := by
  simp only [segeB, Bool.and_eq_true, decide_eq_true_eq] at hb
  obtain ⟨⟨⟨h1, h2⟩, h3⟩, h4⟩ := hb
  have := takes_G (P := P) (md := md) hs hQ hS (R := fun a' => Q .normal a' w) m 0 (fuel - countT m) listed a h3 (by omega) (fun a' hq => wpG_done h4 hq _) (by simpa using h)
  rwa [Nat.sub_add_cancel h1] at this
theorem wp_region_G {id : Nat} {a : Act} {w : World} {l : List Oper} (S : World → Prop) (hm : P.follows .mixedOrders = true) (h : wpG P .any l.toArray Q l.length S (Array.replicate l.length false) a w.drew) :
    (Code.region id l.toArray true).wp P Q a w := wp_region_any hm (wpAny_of_G _ _ _ _ _ (by simpa using h))
/-- one that is carried out -/
theorem segt_run {l : List Oper} {fuel : Nat} {listed : Array Bool} {i : Nat} {o : Oper} {a : Act} {w : World} (ho : l.toArray[i]? = some o) (hw : Region.wanted o (yielded l.toArray a.tmps) = true)
    (h : ∀ K : Act → World → Prop, (∀ a' w', (∃ S' : World → Prop, (∀ x, S' x → S x) ∧ S' w' ∧ wpG P md l.toArray Q fuel S' listed a' w') → K a' w') → o.wp P a w K Q) :
    wpOp P l.toArray Q i (fun a'' w'' => ∃ S' : World → Prop, (∀ x, S' x → S x) ∧ S' w'' ∧ wpG P md l.toArray Q fuel S' listed a'' w'') a w := by
  unfold wpOp
  simp only [ho, hw, if_true]
  exact .inl (h _ fun _ _ h => h)
end
end Go.Proofs.Ytjggheoonjajpaa
namespace Go.Proofs.Ytjggheoonjajpaa
open Go.ChangeShapes Go.WideShapes Go.ChangeAt Go.RowKit Go.BigFrame
set_option linter.unusedVariables false

theorem row_set2 {W : World} {b b' : Nat} {o : Obj} (h : W.heap[b']? = some o) (hne : b' ≠ b) (p q : Value) : ((W.setCell ⟨b, 0, none⟩ p).setCell ⟨b, 1, none⟩ q).heap[b']? = some o := by
  rw [Below.heap_setCell _ _ _ _ hne, Below.heap_setCell _ _ _ _ hne]; exact h
end Go.Proofs.Ytjggheoonjajpaa
namespace Go.Proofs.Ytjggheoonjajpaa
open Go.ChangeShapes Go.WideShapes Go.ChangeAt Go.RowKit Go.BigFrame
set_option linter.unusedVariables false

theorem samecode_self (va vb : Value) (A : List K2) (y : ByteArray) (w : World) (ha : keysAt w va A) (hb : keysAt w vb A) (hs : A.length ≤ 4000000) :
    Calls Try.prog 23 #[.agg #[va, .string y], .agg #[vb, .string y]] w fun e w' => e = .returned (.bool true) ∧ Below w.heap.size w w' := by
  have h := samecode_any va A y vb A y w ha hb hs hs
  simpa using h
end Go.Proofs.Ytjggheoonjajpaa
namespace Go.Proofs.Ytjggheoonjajpaa
open Go.ChangeShapes Go.WideShapes Go.ChangeAt Go.RowKit Go.BigFrame
set_option linter.unusedVariables false
set_option linter.unusedSimpArgs false

theorem cd_load_b {w w' : World} {g : Nat} {u : Value} {y : ByteArray} (h : w.heap[g]? = some (.cells #[u, .string y] 42 (0, 0))) (hb : Below w.heap.size w w') : (loadVar 42 ⟨g, 0, none⟩).run Try.prog w' = .ok (.agg #[u, .string y]) w' :=
  run_loadVar_row (P := Try.prog) w' g 42 42 #[u, .string y] (0, 0) _ ((hb.block _ (Array.getElem?_eq_some_iff.1 h).1).trans h) Try.underlying42 rfl (by kernel_rfl)
theorem own_lenS {w : World} {base n m c : Nat} {e : TypeId} {size : Nat} {a : Option Addr} {xs : List Value} (h : w.ownsRow base e size (.slice a n c) m xs) : n = m := by
  rcases h.2 with ⟨h1, h0⟩ | ⟨g, cap, cur, h1, -⟩
  · cases h1; exact h0.symm
  · cases h1; rfl
end Go.Proofs.Ytjggheoonjajpaa
namespace Go.Proofs.Ytjggheoonjajpaa
open Go.ChangeShapes Go.WideShapes Go.ChangeAt Go.RowKit Go.BigFrame
set_option linter.unusedVariables false
set_option linter.unusedSimpArgs false

theorem ld_rds {w : World} {b o : Nat} {v : Value} (c : w.cell? ⟨b, o, none⟩ = some v) : (loadVar 24 ⟨b, o, none⟩).run Try.prog w = .ok v w := load_one (fun w => by simp [isAgg, underlying, Try.underlying24]) c
theorem ld_cds {w : World} {b o : Nat} {v : Value} (c : w.cell? ⟨b, o, none⟩ = some v) : (loadVar 25 ⟨b, o, none⟩).run Try.prog w = .ok v w := load_one (fun w => by simp [isAgg, underlying, Try.underlying25]) c
theorem ld_kys {w : World} {b o : Nat} {v : Value} (c : w.cell? ⟨b, o, none⟩ = some v) : (loadVar 40 ⟨b, o, none⟩).run Try.prog w = .ok v w := load_one (fun w => by simp [isAgg, underlying, Try.underlying40]) c
theorem ld_str {w : World} {b o : Nat} {v : Value} (c : w.cell? ⟨b, o, none⟩ = some v) : (loadVar 9 ⟨b, o, none⟩).run Try.prog w = .ok v w := load_one (fun w => by simp [isAgg, underlying, Try.underlying9]) c
theorem ld_int {w : World} {b o : Nat} {v : Value} (c : w.cell? ⟨b, o, none⟩ = some v) : (loadVar 3 ⟨b, o, none⟩).run Try.prog w = .ok v w := load_one (fun w => by simp [isAgg, underlying, Try.underlying3]) c
theorem ld_ints {w : World} {b o : Nat} {v : Value} (c : w.cell? ⟨b, o, none⟩ = some v) : (loadVar 26 ⟨b, o, none⟩).run Try.prog w = .ok v w := load_one (fun w => by simp [isAgg, underlying, Try.underlying26]) c
end Go.Proofs.Ytjggheoonjajpaa
namespace Go.Proofs.Ytjggheoonjajpaa
open Go.ChangeShapes Go.WideShapes Go.ChangeAt Go.RowKit Go.BigFrame
set_option linter.unusedVariables false

/-- four bytes as an array's value -/
def arr4 (y : ByteArray) : Value := .agg (Lib.byteCells y.data.toList).toArray
theorem four_bytes (y : ByteArray) (h : y.size = 4) : ∃ a b c d : UInt8, y.data.toList = [a, b, c, d] := by
  have hl : y.data.toList.length = 4 := by simpa using h
  match hm : y.data.toList, hl with
  | [a, b, c, d], _ => exact ⟨a, b, c, d, rfl⟩
theorem set_cellsR {w : World} {B j : Nat} {cs : Array Value} {t : TypeId} (u : Value) (h : w.heap[B]? = some (.cells cs t (0, 0))) : (w.setCell ⟨B, j, none⟩ u).heap[B]? = some (.cells (cs.setIfInBounds j u) t (0, 0)) := by
  obtain ⟨hlt, hk⟩ := Array.getElem?_eq_some_iff.1 h
  show (w.heap.modify B _)[B]? = _
  rw [Array.getElem?_eq_getElem (by rw [Array.size_modify]; exact hlt), Array.getElem_modify_self, hk]
  rfl
set_option maxRecDepth 100000 in
theorem iloadbytes_any (y : ByteArray) (w : World) (hy : y.size = 4) : Calls Try.prog 141 #[.string y] w fun e w' => e = .returned (arr4 y) ∧ Below w.heap.size w w' := by
  obtain ⟨a, b, c, d, hd⟩ := four_bytes y hy
  have hsz : (Try.prog.info? 5).map (·.size) = some 1 := by kernel_rfl
  have hW : (((w.alloc (.cells #[.int .u8 0, .int .u8 0, .int .u8 0, .int .u8 0] 141)).alloc (.cells #[.int .u8 0, .int .u8 0, .int .u8 0, .int .u8 0] 141))).heap[w.heap.size + 1]? = some (.cells #[.int .u8 0, .int .u8 0, .int .u8 0, .int .u8 0] 141) := by
    have := heap_alloc_new (w.alloc (.cells #[.int .u8 0, .int .u8 0, .int .u8 0, .int .u8 0] 141)) (.cells #[.int .u8 0, .int .u8 0, .int .u8 0, .int .u8 0] 141)
    simpa using this
  have hB : Below w.heap.size w ((w.alloc (.cells #[.int .u8 0, .int .u8 0, .int .u8 0, .int .u8 0] 141)).alloc (.cells #[.int .u8 0, .int .u8 0, .int .u8 0, .int .u8 0] 141)) := ((Below.refl _ _).alloc (Nat.le_refl _) _).alloc (by simp) _
  have hF : ((w.alloc (.cells #[.int .u8 0, .int .u8 0, .int .u8 0, .int .u8 0] 141)).alloc (.cells #[.int .u8 0, .int .u8 0, .int .u8 0, .int .u8 0] 141)).heap[w.heap.size]? = some (.cells #[.int .u8 0, .int .u8 0, .int .u8 0, .int .u8 0] 141) := heap_first _ _ _
  have hr := fun ty => Lib.run_copy_row_string (P := Try.prog) ((w.alloc (.cells #[.int .u8 0, .int .u8 0, .int .u8 0, .int .u8 0] 141)).alloc (.cells #[.int .u8 0, .int .u8 0, .int .u8 0, .int .u8 0] 141)) 22 9 ty 5 (w.heap.size + 1) 0 4 4 y #[.int .u8 0, .int .u8 0, .int .u8 0, .int .u8 0] 141 Try.underlying22 hsz hW (by omega) (by simp; omega)
  rw [show (List.take 0 (#[Value.int .u8 0, .int .u8 0, .int .u8 0, .int .u8 0] : Array Value).toList ++ Lib.byteCells y.data.toList ++ List.drop (0 + y.size) (#[Value.int .u8 0, .int .u8 0, .int .u8 0, .int .u8 0] : Array Value).toList).toArray = #[.int .u8 a.toNat, .int .u8 b.toNat, .int .u8 c.toNat, .int .u8 d.toNat] by rw [hy, hd]; rfl] at hr
  have hB2 := below_setRow hB (show w.heap.size ≤ w.heap.size + 1 by omega) #[.int .u8 a.toNat, .int .u8 b.toNat, .int .u8 c.toNat, .int .u8 d.toNat]
  have hS := setRow_heap _ (w.heap.size + 1) _ #[.int .u8 a.toNat, .int .u8 b.toNat, .int .u8 c.toNat, .int .u8 d.toNat] 141 (0, 0) hW
  have hF2 : (World.setRow ((w.alloc (.cells #[.int .u8 0, .int .u8 0, .int .u8 0, .int .u8 0] 141)).alloc (.cells #[.int .u8 0, .int .u8 0, .int .u8 0, .int .u8 0] 141)) (w.heap.size + 1) #[.int .u8 a.toNat, .int .u8 b.toNat, .int .u8 c.toNat, .int .u8 d.toNat]).heap[w.heap.size]? = some (.cells #[.int .u8 0, .int .u8 0, .int .u8 0, .int .u8 0] 141) := by
    rw [setRow_other _ _ _ _ (by omega)]; exact hF
  generalize World.setRow ((w.alloc (.cells #[.int .u8 0, .int .u8 0, .int .u8 0, .int .u8 0] 141)).alloc (.cells #[.int .u8 0, .int .u8 0, .int .u8 0, .int .u8 0] 141)) (w.heap.size + 1) #[.int .u8 a.toNat, .int .u8 b.toNat, .int .u8 c.toNat, .int .u8 d.toNat] = W2 at *
  have c0 : W2.cell? ⟨w.heap.size + 1, 0, none⟩ = some (.int .u8 a.toNat) := by rw [cell_of_row _ _ 0 _ _ _ hS]; rfl
  have c1 : W2.cell? ⟨w.heap.size + 1, 1, none⟩ = some (.int .u8 b.toNat) := by rw [cell_of_row _ _ 1 _ _ _ hS]; rfl
  have c2 : W2.cell? ⟨w.heap.size + 1, 2, none⟩ = some (.int .u8 c.toNat) := by rw [cell_of_row _ _ 2 _ _ _ hS]; rfl
  have c3 : W2.cell? ⟨w.heap.size + 1, 3, none⟩ = some (.int .u8 d.toNat) := by rw [cell_of_row _ _ 3 _ _ _ hS]; rfl
  have d0 : W2.cell? ⟨w.heap.size, 0, none⟩ = some (.int .u8 0) := by rw [cell_of_row _ _ 0 _ _ _ hF2]; rfl
  have d1 : W2.cell? ⟨w.heap.size, 1, none⟩ = some (.int .u8 0) := by rw [cell_of_row _ _ 1 _ _ _ hF2]; rfl
  have d2 : W2.cell? ⟨w.heap.size, 2, none⟩ = some (.int .u8 0) := by rw [cell_of_row _ _ 2 _ _ _ hF2]; rfl
  have d3 : W2.cell? ⟨w.heap.size, 3, none⟩ = some (.int .u8 0) := by rw [cell_of_row _ _ 3 _ _ _ hF2]; rfl
  have f0 : W2.frozen? ⟨w.heap.size, 0, none⟩ = false := by simp [World.frozen?, hF2]
  have f1 : W2.frozen? ⟨w.heap.size, 1, none⟩ = false := by simp [World.frozen?, hF2]
  have f2 : W2.frozen? ⟨w.heap.size, 2, none⟩ = false := by simp [World.frozen?, hF2]
  have f3 : W2.frozen? ⟨w.heap.size, 3, none⟩ = false := by simp [World.frozen?, hF2]
  have hfin : ((((W2.setCell ⟨w.heap.size, 0, none⟩ (.int .u8 a.toNat)).setCell ⟨w.heap.size, 1, none⟩ (.int .u8 b.toNat)).setCell ⟨w.heap.size, 2, none⟩ (.int .u8 c.toNat)).setCell ⟨w.heap.size, 3, none⟩ (.int .u8 d.toNat)).heap[w.heap.size]? = some (.cells #[.int .u8 a.toNat, .int .u8 b.toNat, .int .u8 c.toNat, .int .u8 d.toNat] 141) :=
    set_cellsR _ (set_cellsR _ (set_cellsR _ (set_cellsR _ hF2)))
  have hBf := (((hB2.setCell (p := ⟨w.heap.size, 0, none⟩) (Nat.le_refl _) (.int .u8 a.toNat)).setCell (p := ⟨w.heap.size, 1, none⟩) (Nat.le_refl _) (.int .u8 b.toNat)).setCell (p := ⟨w.heap.size, 2, none⟩) (Nat.le_refl _) (.int .u8 c.toNat)).setCell (p := ⟨w.heap.size, 3, none⟩) (Nat.le_refl _) (.int .u8 d.toNat)
  have L2 := run_loadVar_row (P := Try.prog) _ w.heap.size 141 141 #[.int .u8 a.toNat, .int .u8 b.toNat, .int .u8 c.toNat, .int .u8 d.toNat] (0, 0) _ hfin Try.underlying141 rfl (by kernel_rfl)
  have L2 := Lib.hid L2; have HBF := Lib.hid hBf; clear hfin hBf hB2 hB hF hW hF2 hS hsz
  go_enter Try.func141, Try.ntmps141
  go_wp2_with (at_builtin; refine Lib.wpList_copy_run _ rfl (.tmp 4) (.tmp 5) 22 9 rfl _ _ rfl rfl (hr _) ?_)
  refine bodyPost_ret (v := .agg #[.int .u8 a.toNat, .int .u8 b.toNat, .int .u8 c.toNat, .int .u8 d.toNat]) ?_ rfl ⟨by unfold arr4; rw [hd]; rfl, HBF.out⟩
  rw [results_cell (p := 2) (ty := 141) (by kernel_rfl)]
  simp [asAddr, Result.andThen, L2.out]
end Go.Proofs.Ytjggheoonjajpaa
namespace Go.Proofs.Ytjggheoonjajpaa
open Go.ChangeShapes Go.WideShapes Go.ChangeAt Go.RowKit Go.BigFrame
set_option linter.unusedVariables false

theorem ikeyok_any (k : K2) (w : World) : Calls Try.prog 132 #[kv k] w fun e w' => e = .returned (.bool (keyOkB k)) ∧ Below w.heap.size w w' := by
  obtain ⟨n, s⟩ := k
  unfold keyOkB kv
  dsimp only
  have hb : ∀ o, Below w.heap.size w (w.alloc o) := fun o => (Below.refl _ _).alloc (Nat.le_refl _) _
  by_cases h1 : 1 ≤ n
  · by_cases h2 : n ≤ 20
    · by_cases h3 : 1 ≤ s
      · by_cases h4 : s ≤ 99
        · go_enter Try.func132, Try.ntmps132
          go_wp2
          go_ret
          exact ⟨by simp [h1, h2, h3, h4], hb _⟩
        · go_enter Try.func132, Try.ntmps132
          go_wp2
          go_ret
          exact ⟨by simp [h1, h2, h3, h4], hb _⟩
      · go_enter Try.func132, Try.ntmps132
        go_wp2
        go_ret
        exact ⟨by simp [h1, h2, h3]; omega, hb _⟩
    · go_enter Try.func132, Try.ntmps132
      go_wp2
      go_ret
      exact ⟨by simp [h1, h2]; omega, hb _⟩
  · go_enter Try.func132, Try.ntmps132
    go_wp2
    go_ret
    exact ⟨by simp [h1]; omega, hb _⟩
theorem iahead_any (a b : K2) (w : World) : Calls Try.prog 153 #[kv a, kv b] w fun e w' => e = .returned (.bool (aheadB a b)) ∧ Below w.heap.size w w' := by
  obtain ⟨n, s⟩ := a
  obtain ⟨m, t⟩ := b
  have hb : ∀ o o', Below w.heap.size w ((w.alloc o).alloc o') := fun o o' => ((Below.refl _ _).alloc (Nat.le_refl _) _).alloc (by simp) _
  by_cases h : n = m
  · have ha : aheadB (n, s) (m, t) = decide (s < t) := by unfold aheadB; rw [if_pos h]
    rw [ha]
    unfold kv
    dsimp only
    subst h
    go_enter Try.func153, Try.ntmps153
    go_wp2
    go_ret
    exact ⟨rfl, hb _ _⟩
  · have ha : aheadB (n, s) (m, t) = decide (n < m) := by unfold aheadB; rw [if_neg h]
    rw [ha]
    unfold kv
    dsimp only
    go_enter Try.func153, Try.ntmps153
    go_wp2
    go_ret
    exact ⟨rfl, hb _ _⟩
set_option maxRecDepth 100000 in
theorem ikeysok_any (v : Value) (ks : List K2) (w : World) (h : keysAt w v ks) (hs : ks.length ≤ 2000000) : Calls Try.prog 140 #[v] w fun e w' => e = .returned (.bool (keysOkR ks)) ∧ Below w.heap.size w w' := by
  obtain ⟨a, cap, rfl, hcap, hcells⟩ := h
  go_enter Try.func140, Try.ntmps140
  go_wp2
  go_loopw [7] (fun i wr => ∃ k : Nat, k ≤ ks.length ∧ i = .int .i64 k ∧ (List.range k).all (stepB ks) = true ∧ Below w.heap.size w wr) (fun i _ => ks.length - (intOf i).toNat)
  case atStart => exact ⟨0, Nat.zero_le _, rfl, rfl, Below.refl _ _⟩
  case round =>
    obtain ⟨k, hk, rfl, hall, hb⟩ := hrel
    by_cases hlt : k < ks.length
    · obtain ⟨g, off, rfl, hg, hcs⟩ := hcells.resolve_left (by omega)
      have z0 : (0 : Int) ≤ (k : Int) := by omega
      have z1 : (k : Int) < (ks.length : Int) := by omega
      have c1 := hcs k hlt
      have hst : stepB ks k = (keyOkB (ks.getD k (0, 0)) && (decide (k = 0) || aheadB (ks.getD (k - 1) (0, 0)) (ks.getD k (0, 0)))) := rfl
      have hsu := keysR_succ ks k
      rw [hst, hall] at hsu
      have HF := Lib.hid (fun (h : stepB ks k = false) => stepB_false hlt h)
      rw [hst] at HF
      have c0 : 0 < k → _ := fun h => hcs (k - 1) (by omega)
      rename_i wr
      have C1 : wr.cell? ⟨g, off + k * 2, none⟩ = some (.int .i64 (ks.getD k (0, 0)).1) := (hb.cell (p := ⟨g, off + k * 2, none⟩) hg).trans c1.1
      have C2 : wr.cell? ⟨g, off + k * 2 + 1, none⟩ = some (.int .i64 (ks.getD k (0, 0)).2) := (hb.cell (p := ⟨g, off + k * 2 + 1, none⟩) hg).trans c1.2
      generalize ks.getD k (0, 0) = kx at *
      obtain ⟨p, q⟩ := kx
      dsimp only at C1 C2
      have hb1 : Below w.heap.size w (wr.alloc (.cells #[.int .i64 p, .int .i64 q] 36)) := hb.alloc hb.size _
      have LK : ∀ w', Below (wr.heap.size + 1) (wr.alloc (.cells #[.int .i64 p, .int .i64 q] 36)) w' → (loadVar 36 ⟨wr.heap.size, 0, none⟩).run Try.prog w' = .ok (kv (p, q)) w' := fun w' hb' =>
        key_load (k := (p, q)) (w := wr.alloc (.cells #[.int .i64 p, .int .i64 q] 36)) (g := wr.heap.size) (o := 0) ⟨by simp, by simp⟩ (by simp) (by simpa using hb')
      have LK0 := Lib.hid LK; clear LK
      have HSU := Lib.hid hsu; have C0 := Lib.hid c0; clear hsu c0 hst c1 hcells hcs
      have HK := Lib.hid (fun w => ikeyok_any (p, q) w)
      have HB1 := Lib.hid hb1; clear hb1
      go_wp2_with fail
      refine (HK.out _).mono ?_
      rintro e w2 ⟨rfl, hb2⟩
      have hbw2 := HB1.out.trans (hb2.mono HB1.out.size)
      have LK : ∀ w', Below w2.heap.size w2 w' → (loadVar 36 ⟨wr.heap.size, 0, none⟩).run Try.prog w' = .ok (kv (p, q)) w' := fun w' hb' => LK0.out w' ((by simpa using hb2 : Below (wr.heap.size + 1) _ w2).trans (hb'.mono (by have := hb2.size; simp at this; omega)))
      clear LK0 C1 C2 HK hb2 HB1
      cases hko : keyOkB (p, q) with
      | false =>
        rw [hko] at HF
        go_wp2
        go_ret
        exact ⟨by rw [HF.out rfl]; rfl, hbw2⟩
      | true =>
        rw [hko] at HF HSU
        by_cases hk0 : k = 0
        · subst hk0
          have y0 : ¬ (0 : Int) < ((0 : Nat) : Int) := by omega
          clear HF C0
          go_wp2
          refine wp_region_below w2 (by kernel_rfl) (by kernel_rfl) (Below.refl _ _) ?_
          repeat (first
            | go_big_quiet_skip
            | (go_big_quiet_want
               first
                 | (go_big_quiet_op; go_big_quiet_on)
                 | (refine q_load 36 _ _ _ rfl rfl LK ?_; simp only [Act.put, List.setIfInBounds_toArray, List.set_cons_zero, List.set_cons_succ]; go_big_quiet_on)
                 | (go_big_quiet_op; refine ⟨_, fun _ _ => rfl, ?_⟩; go_big_quiet_on)
                 | (go_big_quiet_op; go_big_quiet_on)))
          refine wpQuiet_nil ?_
          intro w3 hb3
          have hbw3 := hbw2.trans (hb3.mono hbw2.size)
          clear LK
          go_wp2
          exact ⟨⟨1, by omega, by go_num, by rw [HSU.out]; rfl, hbw3⟩, by simp [intOf]; omega⟩
        · have ha := C0.out (by omega)
          have L2 : ∀ w', Below w2.heap.size w2 w' → (loadVar 36 ⟨g, off + (k - 1) * 2, none⟩).run Try.prog w' = .ok (kv (ks.getD (k - 1) (0, 0))) w' := fun w' hb' => key_load ha hg (hbw2.trans (hb'.mono hbw2.size))
          generalize ks.getD (k - 1) (0, 0) = ky at *
          have HA := Lib.hid (fun w => iahead_any ky (p, q) w)
          have d0 : decide (k = 0) = false := by simpa using hk0
          rw [d0] at HF HSU
          have y0 : (0 : Int) < (k : Int) := by omega
          have yk : 0 < k := by omega
          have y1 : (0 : Int) ≤ (k : Int) - 1 := by omega
          have y2 : (k : Int) - 1 < (ks.length : Int) := by omega
          have ew : IntKind.i64.wrap ((k : Int) - 1) = (k : Int) - 1 := IntWalk.i64_in _ (by omega)
          have et : ((k : Int) - 1).toNat = k - 1 := by omega
          clear C0 ha
          cases hah : aheadB ky (p, q) with
          | false =>
            rw [hah] at HA HF
            have HF2 := HF.out rfl
            have HF3 := Lib.hid HF2; clear HF2 HF HSU
            go_wp2
            refine wp_region_below w2 (by kernel_rfl) (by kernel_rfl) (Below.refl _ _) ?_
            repeat (first
              | go_big_quiet_skip
              | (go_big_quiet_want
                 first
                   | (go_big_quiet_op; go_big_quiet_on)
                   | (refine q_load 36 _ _ _ rfl rfl L2 ?_; simp only [Act.put, List.setIfInBounds_toArray, List.set_cons_zero, List.set_cons_succ]; go_big_quiet_on)
                   | (refine q_load 36 _ _ _ rfl rfl LK ?_; simp only [Act.put, List.setIfInBounds_toArray, List.set_cons_zero, List.set_cons_succ]; go_big_quiet_on)
                   | (go_big_quiet_op; refine ⟨_, fun _ _ => rfl, ?_⟩; go_big_quiet_on)
                   | (go_big_quiet_op; apply Exists.intro; refine ⟨fun w' hw' => ?_, ?_⟩
                      · first
                        | (with_reducible refine (HA.out w').mono ?_
                           rintro e w2 ⟨rfl, hb2⟩
                           exact ⟨rfl, hw'.trans (hb2.mono hw'.size)⟩)
                      go_big_quiet_on)))
            refine wpQuiet_nil ?_
            intro w3 hb3
            have hbw3 := hbw2.trans (hb3.mono hbw2.size)
            clear LK L2 HA
            go_wp2
            go_ret
            exact ⟨by rw [HF3.out]; rfl, hbw3⟩
          | true =>
            rw [hah] at HA HSU
            clear HF
            go_wp2
            refine wp_region_below w2 (by kernel_rfl) (by kernel_rfl) (Below.refl _ _) ?_
            repeat (first
              | go_big_quiet_skip
              | (go_big_quiet_want
                 first
                   | (go_big_quiet_op; go_big_quiet_on)
                   | (refine q_load 36 _ _ _ rfl rfl L2 ?_; simp only [Act.put, List.setIfInBounds_toArray, List.set_cons_zero, List.set_cons_succ]; go_big_quiet_on)
                   | (refine q_load 36 _ _ _ rfl rfl LK ?_; simp only [Act.put, List.setIfInBounds_toArray, List.set_cons_zero, List.set_cons_succ]; go_big_quiet_on)
                   | (go_big_quiet_op; refine ⟨_, fun _ _ => rfl, ?_⟩; go_big_quiet_on)
                   | (go_big_quiet_op; apply Exists.intro; refine ⟨fun w' hw' => ?_, ?_⟩
                      · first
                        | (with_reducible refine (HA.out w').mono ?_
                           rintro e w2 ⟨rfl, hb2⟩
                           exact ⟨rfl, hw'.trans (hb2.mono hw'.size)⟩)
                      go_big_quiet_on)))
            refine wpQuiet_nil ?_
            intro w3 hb3
            have hbw3 := hbw2.trans (hb3.mono hbw2.size)
            clear LK L2 HA
            go_wp2
            exact ⟨⟨k + 1, by omega, by go_num, by rw [HSU.out]; rfl, hbw3⟩, by simp [intOf]; omega⟩
    · obtain rfl : k = ks.length := by omega
      have HF := Lib.hid hall
      go_wp2
      go_ret
      exact ⟨by unfold keysOkR; rw [HF.out]; rfl, hb⟩
end Go.Proofs.Ytjggheoonjajpaa
namespace Go.Proofs.Ytjggheoonjajpaa
open Go.ChangeShapes Go.WideShapes Go.ChangeAt Go.RowKit Go.BigFrame
set_option linter.unusedVariables false

theorem ireadingok_any (r : R3) (w : World) : Calls Try.prog 106 #[rv r] w fun e w' => e = .returned (.bool (rdOkB r)) ∧ Below w.heap.size w w' := by
  obtain ⟨⟨n, s⟩, x⟩ := r
  unfold rdOkB rv
  dsimp only
  have hb : Below w.heap.size w (w.alloc (.cells #[.int .i64 n, .int .i64 s, .string x] 38)) := (Below.refl _ _).alloc (Nat.le_refl _) _
  have L1 := rdk_load (r := ((n, s), x)) (w := w.alloc (.cells #[.int .i64 n, .int .i64 s, .string x] 38)) (g := w.heap.size) (o := 0) ⟨by simp, by simp, by simp⟩ (by simp) (Below.refl _ _)
  have c2 : (w.alloc (.cells #[.int .i64 n, .int .i64 s, .string x] 38)).cell? ⟨w.heap.size, 2, none⟩ = some (.string x) := by simp
  have hlt : w.heap.size < (w.alloc (.cells #[.int .i64 n, .int .i64 s, .string x] 38)).heap.size := by simp
  have H1 := fun w => ikeyok_any (n, s) w
  go_enter Try.func106, Try.ntmps106
  have HZ := Lib.hid (show ((x.size : Int) = 4) = (x.size = 4) from propext (by omega))
  generalize keyOkB (n, s) = p at *
  dsimp only at L1
  cases p with
  | false =>
    go_wp2_with fail
    refine (H1 _).mono ?_
    rintro e w1 ⟨rfl, hb1⟩
    have hB := hb.trans (hb1.mono hb.size)
    go_wp2
    go_ret
    exact ⟨by simp, hB⟩
  | true =>
    go_wp2_with fail
    refine (H1 _).mono ?_
    rintro e w1 ⟨rfl, hb1⟩
    have hB := hb.trans (hb1.mono hb.size)
    have c3 : w1.cell? ⟨w.heap.size, 2, none⟩ = some (.string x) := (hb1.cell (p := ⟨w.heap.size, 2, none⟩) hlt).trans c2
    by_cases h4 : x.size = 4
    · have e4 : (x.size : Int) = 4 := by omega
      clear hb hb1 c2 H1 L1
      go_wp2
      go_ret
      exact ⟨by simp [h4], hB⟩
    · have e4 : ¬ (x.size : Int) = 4 := by omega
      clear hb hb1 c2 H1 L1
      go_wp2
      go_ret
      exact ⟨by simp [h4, e4], hB⟩
end Go.Proofs.Ytjggheoonjajpaa
namespace Go.Proofs.Ytjggheoonjajpaa
open Go.ChangeShapes Go.WideShapes Go.ChangeAt Go.RowKit Go.BigFrame
set_option linter.unusedVariables false

theorem cells_newR (w : World) (cs : List Value) (e : TypeId) : ∀ j u, cs[j]? = some u → (w.alloc (.cells cs.toArray e)).cell? ((⟨w.heap.size, 0, none⟩ : Addr).add j) = some u := by
  intro j u h
  rw [addr_plus, Nat.zero_add, cell_of_row _ _ j _ _ _ (heap_alloc_new w _)]
  simpa using h
end Go.Proofs.Ytjggheoonjajpaa
namespace Go.Proofs.Ytjggheoonjajpaa
open Go
set_option linter.unusedVariables false
set_option linter.unusedSimpArgs false

theorem getW {W : List C2} {k : Nat} (hk : k < W.length) : W.getD k blankC ∈ W := by
  rw [List.getD, List.getElem?_eq_getElem hk]; exact List.getElem_mem hk
end Go.Proofs.Ytjggheoonjajpaa
namespace Go.Proofs.Ytjggheoonjajpaa
open Go.ChangeShapes Go.WideShapes Go.ChangeAt Go.RowKit Go.BigFrame
set_option linter.unusedVariables false

theorem arr_sz : ∀ w : World, (sizeOf 5).run Try.prog w = .ok 1 w := by
  obtain ⟨i0, h1, h2⟩ : ∃ i, Try.prog.info? 5 = some i ∧ i.size = 1 := by
    have h : (Try.prog.info? 5).map (·.size) = some 1 := by kernel_rfl
    cases hq : Try.prog.info? 5 with
    | none => rw [hq] at h; simp at h
    | some i => rw [hq] at h; exact ⟨i, rfl, by simpa using h⟩
  intro w
  simp [sizeOf, typeInfo, h1, h2]
theorem arr_eql (x y : ByteArray) (hx : x.size = 4) (hy : y.size = 4) (w : World) : (binOp .eql 141 (arr4 x) (arr4 y)).run Try.prog w = .ok (.bool (x.data.toList == y.data.toList)) w :=
  run_eql_bytes w 141 5 4 Try.underlying141 Try.underlying5 arr_sz _ _ (by simpa using hx) (by simpa using hy)
theorem arr_guard (op : BinOp) (x y : Operand) (a b : ByteArray) (w : World) : (eqGuard op 141 x y (arr4 a) (arr4 b)).run Try.prog w = .ok () w := by
  unfold arr4
  exact run_eqGuard_agg w op 141 x y _ _ (by kernel_rfl)
theorem arr4_lit (y : ByteArray) (h : y.size = 4) : ∃ a b c d : Int, arr4 y = .agg #[.int .u8 a, .int .u8 b, .int .u8 c, .int .u8 d] := by
  obtain ⟨a, b, c, d, hd⟩ := four_bytes y h
  exact ⟨a.toNat, b.toNat, c.toNat, d.toNat, by unfold arr4; rw [hd]; rfl⟩
end Go.Proofs.Ytjggheoonjajpaa
namespace Go.Proofs.Ytjggheoonjajpaa
open Go.ChangeShapes Go.WideShapes Go.ChangeAt Go.RowKit Go.BigFrame
set_option linter.unusedVariables false

theorem nums_cell {w : World} {b : Nat} {p q r s : UInt8} {t : TypeId} (h : w.heap[b]? = some (.cells #[.int .u8 p.toNat, .int .u8 q.toNat, .int .u8 r.toNat, .int .u8 s.toNat] t (0, 0))) :
    ∀ i, i < 4 → w.cell? ⟨b, 0 + i, none⟩ = some (.int .u8 ((numsOf [p, q, r, s]).getD i 0)) := by
  intro i hi
  rcases (by omega : i = 0 ∨ i = 1 ∨ i = 2 ∨ i = 3) with rfl | rfl | rfl | rfl <;> (rw [cell_of_row _ _ _ _ _ _ h]; rfl)
set_option maxRecDepth 100000 in
theorem icodeof_any (a : Option Addr) (n c : Nat) (y : ByteArray) (hy : y.size = 4) (w : World) :
    Calls Try.prog 119 #[.slice a n c, arr4 y] w fun e w' => e = .returned (.agg #[.slice a n c, .string y]) ∧ Below w.heap.size w w' := by
  obtain ⟨p, q, r, s, hd⟩ := four_bytes y hy
  have ha : arr4 y = .agg #[.int .u8 p.toNat, .int .u8 q.toNat, .int .u8 r.toNat, .int .u8 s.toNat] := by unfold arr4; rw [hd]; rfl
  have hb1 := (Below.refl w.heap.size w).alloc (Nat.le_refl _) (.cells #[.int .u8 p.toNat, .int .u8 q.toNat, .int .u8 r.toNat, .int .u8 s.toNat] 141)
  have hb2 := hb1.alloc hb1.size (.cells #[.slice a n c, .string y] 42)
  have hr3 := heap_alloc_new (w.alloc (.cells #[.int .u8 p.toNat, .int .u8 q.toNat, .int .u8 r.toNat, .int .u8 s.toNat] 141)) (.cells #[.slice a n c, .string y] 42)
  have hr1 := heap_first w (.cells #[.slice none 0 0, .string ⟨#[]⟩] 42) (.cells #[.int .u8 p.toNat, .int .u8 q.toNat, .int .u8 r.toNat, .int .u8 s.toNat] 141)
  have hr2 := heap_alloc_new (w.alloc (.cells #[.int .u8 p.toNat, .int .u8 q.toNat, .int .u8 r.toNat, .int .u8 s.toNat] 141)) (.cells #[.slice none 0 0, .string ⟨#[]⟩] 42)
  have e1 : (w.alloc (.cells #[.int .u8 p.toNat, .int .u8 q.toNat, .int .u8 r.toNat, .int .u8 s.toNat] 141)).heap.size = w.heap.size + 1 := by simp
  rw [e1] at hr2 hr3
  have hconv := run_convert_bytes_arg (P := Try.prog) _ 22 5 Try.underlying22 Try.underlying5 w.heap.size 0 4 4 (numsOf [p, q, r, s]) rfl (nums_cell hr1) 9 Try.underlying9
  rw [nums_back, show (⟨[p, q, r, s].toArray⟩ : ByteArray) = y from by rw [← hd]] at hconv
  rw [ha]
  obtain ⟨c0, c1, f0, f1⟩ := row2_of hr2
  have HF := Lib.hid (And.intro (cd_load hr3 (Below.refl _ _)) hb2)
  clear hb1 hb2 hr1 hr2 hr3 e1 ha hd
  go_enter Try.func119, Try.ntmps119
  go_wp2_with fail
  refine bodyPost_ret (v := .agg #[.slice a n c, .string y]) ?_ rfl ⟨rfl, HF.out.2⟩
  rw [results_cell (p := 4) (ty := 42) (by kernel_rfl)]
  have l2 := HF.out.1
  simp [asAddr, Result.andThen, l2]
set_option maxRecDepth 100000 in
theorem iblank_any (v : Value) (y : ByteArray) (w : World) :
    Calls Try.prog 78 #[.agg #[v, .string y]] w fun e w' => e = .returned (.agg #[.slice none 0 0, .string z4]) ∧ Below w.heap.size w w' := by
  have hb1 := (Below.refl w.heap.size w).alloc (Nat.le_refl _) (.cells #[v, .string y] 42)
  have hb2 := hb1.alloc hb1.size (.cells #[.slice none 0 0, .string ⟨#[]⟩] 42)
  have hr2 := heap_alloc_new (w.alloc (.cells #[v, .string y] 42)) (.cells #[.slice none 0 0, .string ⟨#[]⟩] 42)
  have e1 : (w.alloc (.cells #[v, .string y] 42)).heap.size = w.heap.size + 1 := by simp
  rw [e1] at hr2
  have HC := Lib.hid (fun w => icodeof_any none 0 0 z4 rfl w)
  have ha : arr4 z4 = .agg #[.int .u8 0, .int .u8 0, .int .u8 0, .int .u8 0] := rfl
  rw [ha] at HC
  have HB := Lib.hid hb2; have HR := Lib.hid hr2
  clear hb1 hb2 hr2 e1 ha
  go_enter Try.func78, Try.ntmps78
  go_wp2_with fail
  generalize (w.alloc (.cells #[v, .string y] 42)).alloc (.cells #[.slice none 0 0, .string ⟨#[]⟩] 42) = W at *
  refine (HC.out _).mono ?_
  rintro e w1 ⟨rfl, hb1⟩
  have hr1 := (hb1.block _ (Array.getElem?_eq_some_iff.1 HR.out).1).trans HR.out
  obtain ⟨c0, c1, f0, f1⟩ := row2_of hr1
  have hlt := (Array.getElem?_eq_some_iff.1 hr1).1
  have HF := Lib.hid (And.intro (cd_res hr1 (.slice none 0 0) z4) (below2 (HB.out.trans (hb1.mono HB.out.size)) (by omega : w.heap.size ≤ w.heap.size + 1) (.slice none 0 0) (.string z4)))
  clear HB HR HC hb1 hr1
  go_wp2_with fail
  refine bodyPost_ret (v := .agg #[.slice none 0 0, .string z4]) ?_ rfl ⟨rfl, HF.out.2⟩
  rw [results_cell (p := 2) (ty := 42) (by kernel_rfl)]
  have l2 := HF.out.1
  simp [asAddr, Result.andThen, l2]
end Go.Proofs.Ytjggheoonjajpaa
namespace Go.Proofs.Ytjggheoonjajpaa
open Go.ChangeShapes Go.WideShapes Go.ChangeAt Go.RowKit Go.BigFrame
set_option linter.unusedVariables false

def zero4L : List UInt8 := [0, 0, 0, 0]
theorem z4_eq (y : ByteArray) : decide (y = z4) = (y.data.toList == zero4L) := by
  rw [Bool.eq_iff_iff, decide_eq_true_eq, beq_iff_eq]
  constructor
  · rintro rfl; rfl
  · intro h
    have : y = ⟨y.data.toList.toArray⟩ := by simp
    rw [this, h]; rfl
set_option maxRecDepth 100000 in
set_option maxHeartbeats 1000000 in
theorem icodeok_any (v : Value) (ks : List K2) (y : ByteArray) (w : World) (h : keysAt w v ks) (hs : ks.length ≤ 2000000) :
    Calls Try.prog 114 #[.agg #[v, .string y]] w fun e w' => e = .returned (.bool (codeOkB (ks, y))) ∧ Below w.heap.size w w' := by
  have hb := (Below.refl w.heap.size w).alloc (Nat.le_refl _) (.cells #[v, .string y] 42)
  have HB := Lib.hid hb
  have HX := Lib.hid (heap_alloc_new w (.cells #[v, .string y] 42))
  have HK := Lib.hid (ikeysok_any v ks (w.alloc (.cells #[v, .string y] 42)) (keysAt_below h hb) hs)
  obtain ⟨a, cap, rfl, -, -⟩ := h
  unfold codeOkB
  dsimp only
  obtain ⟨x0, x1, -, -⟩ := row2_of HX.out
  clear hb
  go_enter Try.func114, Try.ntmps114
  by_cases h1 : ks.length ≤ 6
  · have i1 : ¬ (6 : Int) < (ks.length : Int) := by omega
    have i2 : (ks.length : Int) ≤ 6 := by omega
    go_wp2_with fail
    generalize w.alloc (.cells #[.slice a ks.length cap, .string y] 42) = W at *
    refine HK.out.mono ?_
    rintro e w1 ⟨rfl, hb1⟩
    have HB1 := Lib.hid (HB.out.trans (hb1.mono HB.out.size))
    clear x0 x1
    obtain ⟨x0, x1⟩ := cd_cells HX.out hb1
    clear hb1 HK HX HB
    cases h2 : keysOkR ks with
    | false =>
      go_wp2
      go_ret
      exact ⟨by simp [h1, h2], HB1.out⟩
    | true =>
      by_cases h3 : y.size = 4
      · have i3 : (y.size : Int) = 4 := by omega
        by_cases h4 : 0 < ks.length
        · have i4 : (0 : Int) < (ks.length : Int) := by omega
          go_wp2
          go_ret
          exact ⟨by simp [h1, h2, h3, h4], HB1.out⟩
        · have i4 : ¬ (0 : Int) < (ks.length : Int) := by omega
          have AE := fun w => arr_eql y z4 h3 rfl w
          have AG := fun op x z w => arr_guard op x z y z4 w
          have HL := Lib.hid (iloadbytes_any y w1 h3)
          obtain ⟨p, q, r, s, hp⟩ := arr4_lit y h3
          rw [hp] at AE AG HL
          rw [show arr4 z4 = .agg #[.int .u8 0, .int .u8 0, .int .u8 0, .int .u8 0] from rfl] at AE AG
          rw [show z4.data.toList = zero4L from rfl, ← z4_eq] at AE
          clear hp
          generalize hbo : decide (y = z4) = bo at *
          go_wp2_with fail
          refine HL.out.mono ?_
          rintro e w2 ⟨rfl, hb2⟩
          have HB2 := Lib.hid (HB1.out.trans (hb2.mono HB1.out.size))
          clear hb2 HL x0 x1 HB1
          go_wp2
          go_ret
          exact ⟨by rw [← hbo]; simp [h1, h2, h3, h4], HB2.out⟩
      · have i3 : ¬ (y.size : Int) = 4 := by omega
        go_wp2
        go_ret
        exact ⟨by simp [h1, h2, h3], HB1.out⟩
  · have i1 : (6 : Int) < (ks.length : Int) := by omega
    have i2 : ¬ (ks.length : Int) ≤ 6 := by omega
    go_wp2
    go_ret
    exact ⟨by simp [h1], HB.out⟩
end Go.Proofs.Ytjggheoonjajpaa
namespace Go.Proofs.Ytjggheoonjajpaa
open Go.RowKit
set_option linter.unusedVariables false

theorem cloneR_any (s : ByteArray) (w : World) (hs : s.size ≤ 2000000) : Calls Try.prog 117 #[.string s] w fun e w' => e = .returned (.string s) ∧ Below w.heap.size w w' := by
  go_enter Try.func117, Try.ntmps117
  go_wp2_with (go_at_call 146; refine (Try.stringslite_Clone s _ (by omega)).mono ?_; rintro e w' ⟨rfl, hb⟩)
  go_ret
  exact ⟨rfl, hb⟩
end Go.Proofs.Ytjggheoonjajpaa
namespace Go.Proofs.Ytjggheoonjajpaa
open Go.ChangeShapes Go.WideShapes Go.ChangeAt Go.RowKit Go.BigFrame
set_option linter.unusedVariables false

theorem below_of_grown {w w' : World} (h : w.grownBy w' none) : Below w.heap.size w w' := (Below.refl w.heap.size w).grown h (Nat.le_refl _) (fun g e => by cases e)
theorem op_append_key {o : Oper} {a : Act} {w : World} {K : Act → World → Prop} {Q : Exit → Act → World → Prop} (hgd : o.guard = none) (s x : Operand)
    (ho : o.op = .call { callee := .builtin .append, args := #[s, x], argTypes := #[40, 40] })
    {base n : Nat} {v : Value} {xs : List Value} (hown : w.ownsRow base 36 2 v n xs) (u : Value) (ks : List K2) (hu : keysAt w u ks) (hs : a.eval s = v) (hx : a.eval x = u) (hn : n + ks.length ≤ 4000000) (hbase : base ≤ w.heap.size)
    (h : ∀ v' w', w'.ownsRow base 36 2 v' (n + ks.length) (xs ++ keyCells ks) → w.grownBy w' v.ownBlock → (v'.ownBlock = v.ownBlock ∨ v'.ownBlock = some w.heap.size) → K (a.put o.dst v') w') : Oper.wp Try.prog o a w K Q := by
  have := step_append_key (ops := #[]) (Q := Q) (E := True) hgd s x ho hown u ks hu hs hx hn hbase h
  rwa [if_pos (by simp [Region.wanted, hgd])] at this
set_option maxRecDepth 100000 in
set_option maxHeartbeats 1000000 in
theorem icopy_any (v : Value) (ks : List K2) (y : ByteArray) (w : World) (h : keysAt w v ks) (hs : ks.length ≤ 2000000) (hy : y.size ≤ 2000000) :
    Calls Try.prog 71 #[.agg #[v, .string y]] w fun e w' => ∃ v', e = .returned (.agg #[v', .string y]) ∧ w'.ownsRow w.heap.size 36 2 v' ks.length (keyCells ks) ∧ Below w.heap.size w w' := by
  have HP := Lib.hid (cpc_new w v y)
  have HZ := Lib.hid (show ((w.alloc (.cells #[v, .string y] 42)).alloc (.cells #[.slice none 0 0, .string ⟨#[]⟩] 42)).heap.size = w.heap.size + 2 by simp)
  have HB0 := Lib.hid (HP.out.below)
  have HRES := Lib.hid HP.out.res
  have HKS := Lib.hid (fun w' (hb : Below w.heap.size w w') => keysAt_below h hb)
  have HC := Lib.hid (fun w => cloneR_any y w hy)
  obtain ⟨a, cap, hv, -, -⟩ := h
  subst hv
  go_enter Try.func71, Try.ntmps71
  go_wp2_with fail
  generalize (w.alloc (.cells #[.slice a ks.length cap, .string y] 42)).alloc (.cells #[.slice none 0 0, .string ⟨#[]⟩] 42) = W at *
  have L1 : ∀ w' : World, w'.heap[w.heap.size]? = some (.cells #[.slice a ks.length cap, .string y] 42) → (loadVar 40 ⟨w.heap.size, 0, none⟩).run Try.prog w' = .ok (.slice a ks.length cap) w' := fun w' h => cd_loadk h (Below.refl _ _)
  have L2 : ∀ w' : World, w'.heap[w.heap.size]? = some (.cells #[.slice a ks.length cap, .string y] 42) → (loadVar 9 ⟨w.heap.size, 1, none⟩).run Try.prog w' = .ok (.string y) w' := fun w' h => cd_loads h (Below.refl _ _)
  have HX := Lib.hid HP.out.row
  have HSZ := Lib.hid (Nat.le_of_eq HZ.out.symm)
  refine wp_region_G (fun w' => w'.heap[w.heap.size]? = some (.cells #[.slice a ks.length cap, .string y] 42)) (by kernel_rfl) ?_
  replace HX := Lib.hid (show (World.drew _).heap[_]? = _ from HX.out)
  replace HB0 := Lib.hid (HB0.out.drew)
  replace HRES := Lib.hid (show (World.drew _).heap[_]? = _ from HRES.out)
  replace HSZ := Lib.hid (show _ ≤ (World.drew _).heap.size from HSZ.out)
  refine wpG_seg [true, true, false, true, true] [2] 3 (by kernel_rfl) (by intro c a d v w h; cases d <;> exact h) (by kernel_rfl) HX.out ?_
  try simp only [maskRows]
  repeat (first
    | go_big_quiet_skip
    | (go_big_quiet_want
       first
         | (go_big_quiet_op; go_big_quiet_on)
         | (refine q_load 40 _ _ _ rfl rfl L1 ?_; simp only [Act.put, List.setIfInBounds_toArray, List.set_cons_zero, List.set_cons_succ]; go_big_quiet_on)
         | (refine q_load 9 _ _ _ rfl rfl L2 ?_; simp only [Act.put, List.setIfInBounds_toArray, List.set_cons_zero, List.set_cons_succ]; go_big_quiet_on)
         | (go_big_quiet_op; refine ⟨_, fun _ _ => rfl, ?_⟩; go_big_quiet_on)))
  refine wpQuiet_nil ?_
  refine List.forall_mem_singleton.2 ?_
  refine segt_run rfl (by rfl) (fun K hK => ?_)
  refine op_append_key rfl (.const (.slice none 0 0)) (.tmp 4) rfl (World.ownsRow_nil _ (w.heap.size + 2) 36 2) _ ks (HKS.out _ HB0.out) rfl (by simp [Act.eval, Act.put]) (by omega) HSZ.out ?_
  intro v3 w3 ho3 hg3 hj3
  clear hj3
  have hb := below_of_grown hg3
  obtain ⟨a3, n3, k3, rfl⟩ := own_shape ho3
  simp only [Nat.zero_add, List.nil_append] at ho3
  replace HX := Lib.hid ((hb.block _ (Array.getElem?_eq_some_iff.1 HX.out).1).trans HX.out)
  replace HB0 := Lib.hid (HB0.out.trans (hb.mono HB0.out.size))
  replace HRES := Lib.hid ((hb.block _ (Array.getElem?_eq_some_iff.1 HRES.out).1).trans HRES.out)
  replace HSZ := Lib.hid (Nat.le_trans HSZ.out hb.size)
  have HO := Lib.hid ho3
  clear hb hg3 ho3
  refine hK _ _ ⟨_, fun _ h => h, HX.out, ?_⟩
  clear hK K
  try simp only [Act.put, List.setIfInBounds_toArray, List.set_cons_zero, List.set_cons_succ]
  refine wpG_seg [] [5] 2 (by kernel_rfl) (by intro c a d v w h; cases d <;> exact h) (by kernel_rfl) HX.out ?_
  try simp only [maskRows]
  refine wpQuiet_nil ?_
  refine List.forall_mem_singleton.2 ?_
  refine segt_run rfl (by rfl) (fun K hK => ?_)
  go_simp
  refine (HC.out _).mono ?_
  rintro e w4 ⟨rfl, hb⟩
  dsimp only
  replace HX := Lib.hid ((hb.block _ (Array.getElem?_eq_some_iff.1 HX.out).1).trans HX.out)
  replace HB0 := Lib.hid (HB0.out.trans (hb.mono HB0.out.size))
  replace HRES := Lib.hid ((hb.block _ (Array.getElem?_eq_some_iff.1 HRES.out).1).trans HRES.out)
  replace HSZ := Lib.hid (Nat.le_trans HSZ.out hb.size)
  replace HO := Lib.hid (own_below HO.out hb)
  clear hb
  refine hK _ _ ⟨_, fun _ h => h, HX.out, ?_⟩
  clear hK K
  try simp only [Act.put, List.setIfInBounds_toArray, List.set_cons_zero, List.set_cons_succ]
  refine wpG_seg [] [6] 1 (by kernel_rfl) (by intro c a d v w h; cases d <;> exact h) (by kernel_rfl) HX.out ?_
  try simp only [maskRows]
  refine wpQuiet_nil ?_
  refine List.forall_mem_singleton.2 ?_
  refine segt_run rfl (by rfl) (fun K hK => ?_)
  go_simp
  obtain ⟨c0, c1, f0, f1⟩ := row2_of HRES.out
  have hlt := (Array.getElem?_eq_some_iff.1 HRES.out).1
  have HF := Lib.hid (And.intro (cd_res HRES.out (.slice a3 n3 k3) y) (And.intro (own_base (own_set2 HO.out (by omega : w.heap.size + 1 < w.heap.size + 2) (.slice a3 n3 k3) (.string y)) (by omega : w.heap.size ≤ w.heap.size + 2)) (below2 HB0.out (by omega : w.heap.size ≤ w.heap.size + 1) (.slice a3 n3 k3) (.string y))))
  have HX2 := Lib.hid (row_set2 HX.out (by omega : w.heap.size ≠ w.heap.size + 1) (.slice a3 n3 k3) (.string y))
  refine hK _ _ ⟨_, fun _ h => h, HX.out, ?_⟩
  clear hK K
  try simp only [Act.put, List.setIfInBounds_toArray, List.set_cons_zero, List.set_cons_succ]
  refine wpG_seg [] [7] 0 (by kernel_rfl) (by intro c a d v w h; cases d <;> exact h) (by kernel_rfl) HX.out ?_
  try simp only [maskRows]
  refine wpQuiet_nil ?_
  refine List.forall_mem_singleton.2 ?_
  refine segt_run rfl (by rfl) (fun K hK => ?_)
  go_simp
  replace HX := HX2
  clear HX2 HRES HO HB0 c0 c1 f0 f1 hlt
  refine hK _ _ ⟨_, fun _ h => h, HX.out, ?_⟩
  clear hK K
  try simp only [Act.put, List.setIfInBounds_toArray, List.set_cons_zero, List.set_cons_succ]
  refine wpG_end [] (by kernel_rfl) (by intro c a d v w h; cases d <;> exact h) (by kernel_rfl) HX.out ?_
  try simp only [maskRows]
  refine wpQuiet_nil ?_
  go_wp2_with fail
  refine bodyPost_ret (v := .agg #[.slice a3 n3 k3, .string y]) ?_ rfl ⟨_, rfl, HF.out.2.1, HF.out.2.2⟩
  rw [results_cell (p := 2) (ty := 42) (by kernel_rfl)]
  have l2 := HF.out.1
  simp [asAddr, Result.andThen, l2]
end Go.Proofs.Ytjggheoonjajpaa
namespace Go.Proofs.Ytjggheoonjajpaa
open Go.ChangeShapes Go.WideShapes Go.ChangeAt Go.RowKit Go.BigFrame
set_option linter.unusedVariables false
set_option linter.unusedSimpArgs false

set_option maxRecDepth 100000 in
set_option maxHeartbeats 1000000 in
theorem ssame_any (va vb : Value) (A B : List K2) (w : World) (ha : keysAt w va A) (hb : keysAt w vb B) (hsA : A.length ≤ 4000000) (hsB : B.length ≤ 4000000) :
    Calls Try.prog 109 #[va, vb] w fun e w' => e = .returned (.bool (decide (A = B))) ∧ Below w.heap.size w w' := by
  obtain ⟨aa, ca, rfl, hca, hcA⟩ := ha
  obtain ⟨ab, cb, rfl, hcb, hcB⟩ := hb
  by_cases hl : A.length = B.length
  · have e0 : (A.length : Int) = (B.length : Int) := by omega
    go_enter Try.func109, Try.ntmps109
    rw [hl] at hca hcA ⊢
    go_wp2
    go_loopw [5] (fun i wr => ∃ k : Nat, k ≤ B.length ∧ i = .int .i64 k ∧ (∀ j, j < k → A.getD j (0, 0) = B.getD j (0, 0)) ∧ Below w.heap.size w wr) (fun i _ => B.length - (intOf i).toNat)
    case atStart => exact ⟨0, Nat.zero_le _, rfl, fun j hj => by omega, Below.refl _ _⟩
    case round =>
      obtain ⟨k, hk, rfl, hall, hbr⟩ := hrel
      by_cases hlt : k < B.length
      · obtain ⟨ga, offa, rfl, hga, hcsA⟩ := hcA.resolve_left (by omega)
        obtain ⟨gb, offb, rfl, hgb, hcsB⟩ := hcB.resolve_left (by omega)
        have cA := hcsA k hlt
        have cB := hcsB k hlt
        have z0 : (0 : Int) ≤ (k : Int) := by omega
        have z1 : (k : Int) < (B.length : Int) := by omega
        clear hcsA hcsB hcA hcB
        have L1 : ∀ w', Below w.heap.size w w' → (loadVar 36 ⟨ga, offa + k * 2, none⟩).run Try.prog w' = .ok (kv (A.getD k (0, 0))) w' := fun w' h => key_load cA hga h
        have L2 : ∀ w', Below w.heap.size w w' → (loadVar 36 ⟨gb, offb + k * 2, none⟩).run Try.prog w' = .ok (kv (B.getD k (0, 0))) w' := fun w' h => key_load cB hgb h
        clear cA cB
        cases he : (A.getD k (0, 0) == B.getD k (0, 0)) with
        | true =>
          have hn : ∀ j, j < k + 1 → A.getD j (0, 0) = B.getD j (0, 0) := by
            intro j hj
            rcases (by omega : j < k ∨ j = k) with h1 | rfl
            · exact hall j h1
            · exact eq_of_beq he
          have HN := Lib.hid hn
          clear hall hn
          generalize A.getD k (0, 0) = kx at *
          generalize B.getD k (0, 0) = ky at *
          go_wp2
          refine wp_region_below w (by kernel_rfl) (by kernel_rfl) hbr ?_
          repeat (first
            | go_big_quiet_skip
            | (go_big_quiet_want
               first
                 | (go_big_quiet_op; go_big_quiet_on)
                 | (refine q_load 36 _ _ _ rfl rfl L1 ?_; simp only [Act.put, List.setIfInBounds_toArray, List.set_cons_zero, List.set_cons_succ]; go_big_quiet_on)
                 | (refine q_load 36 _ _ _ rfl rfl L2 ?_; simp only [Act.put, List.setIfInBounds_toArray, List.set_cons_zero, List.set_cons_succ]; go_big_quiet_on)
                 | (refine q_bin _ 36 _ _ _ _ _ _ rfl rfl rfl (fun w => key_guard _ _ _ _ _ w) (fun w => key_eql _ _ w) ?_; simp only [Act.put, List.setIfInBounds_toArray, List.set_cons_zero, List.set_cons_succ]; go_big_quiet_on)
                 | (refine q_bin _ 36 _ _ _ _ _ _ rfl rfl rfl (fun w => key_guard _ _ _ _ _ w) (fun w => key_neq _ _ w) ?_; simp only [Act.put, List.setIfInBounds_toArray, List.set_cons_zero, List.set_cons_succ]; go_big_quiet_on)
                 | (go_big_quiet_op; refine ⟨_, fun _ _ => rfl, ?_⟩; go_big_quiet_on)
                 | (go_big_quiet_op; go_big_quiet_on)))
          refine wpQuiet_nil ?_
          intro w2 hb2
          rw [he]
          clear L1 L2 hbr
          go_wp2
          exact ⟨⟨k + 1, by omega, by go_num, HN.out, hb2⟩, by simp [intOf]; omega⟩
        | false =>
          have hne : decide (A = B) = false := by
            simp only [decide_eq_false_iff_not]
            intro e
            subst e
            simp at he
          have HD := Lib.hid hne
          clear hall hne
          generalize A.getD k (0, 0) = kx at *
          generalize B.getD k (0, 0) = ky at *
          go_wp2
          refine wp_region_below w (by kernel_rfl) (by kernel_rfl) hbr ?_
          repeat (first
            | go_big_quiet_skip
            | (go_big_quiet_want
               first
                 | (go_big_quiet_op; go_big_quiet_on)
                 | (refine q_load 36 _ _ _ rfl rfl L1 ?_; simp only [Act.put, List.setIfInBounds_toArray, List.set_cons_zero, List.set_cons_succ]; go_big_quiet_on)
                 | (refine q_load 36 _ _ _ rfl rfl L2 ?_; simp only [Act.put, List.setIfInBounds_toArray, List.set_cons_zero, List.set_cons_succ]; go_big_quiet_on)
                 | (refine q_bin _ 36 _ _ _ _ _ _ rfl rfl rfl (fun w => key_guard _ _ _ _ _ w) (fun w => key_eql _ _ w) ?_; simp only [Act.put, List.setIfInBounds_toArray, List.set_cons_zero, List.set_cons_succ]; go_big_quiet_on)
                 | (refine q_bin _ 36 _ _ _ _ _ _ rfl rfl rfl (fun w => key_guard _ _ _ _ _ w) (fun w => key_neq _ _ w) ?_; simp only [Act.put, List.setIfInBounds_toArray, List.set_cons_zero, List.set_cons_succ]; go_big_quiet_on)
                 | (go_big_quiet_op; refine ⟨_, fun _ _ => rfl, ?_⟩; go_big_quiet_on)
                 | (go_big_quiet_op; go_big_quiet_on)))
          refine wpQuiet_nil ?_
          intro w2 hb2
          rw [he]
          clear L1 L2 hbr
          go_wp2
          go_ret
          exact ⟨by rw [HD.out]; rfl, hb2⟩
      · obtain rfl : k = B.length := by omega
        have he : decide (A = B) = true := by
          simp only [decide_eq_true_eq]
          apply List.ext_getElem hl
          intro i h1 h2
          have := hall i h2
          simpa [List.getD, h1, h2] using this
        have HD := Lib.hid he
        clear hall he
        go_wp2
        go_ret
        exact ⟨by rw [HD.out]; rfl, hbr⟩
  · have hne : decide (A = B) = false := by simp only [decide_eq_false_iff_not]; intro e; subst e; exact hl rfl
    have HD := Lib.hid hne
    have e0 : ¬ (A.length : Int) = (B.length : Int) := by omega
    clear hne
    go_enter Try.func109, Try.ntmps109
    go_wp2
    go_ret
    exact ⟨by rw [HD.out]; rfl, Below.refl _ _⟩

def plI : Option Nat → Int
  | some i => i
  | none => -1
end Go.Proofs.Ytjggheoonjajpaa
namespace Go.Proofs.Ytjggheoonjajpaa
open Go.ChangeShapes Go.WideShapes Go.ChangeAt Go.RowKit Go.BigFrame
set_option linter.unusedVariables false
set_option linter.unusedSimpArgs false

theorem cd_mid {w : World} {g o : Nat} {u : Value} {y : ByteArray} (h0 : w.cell? ⟨g, o, none⟩ = some u) (h1 : w.cell? ⟨g, o + 1, none⟩ = some (.string y)) : (loadVar 42 ⟨g, o, none⟩).run Try.prog w = .ok (.agg #[u, .string y]) w := by
  refine run_loadVar_mid w g o 42 [u, .string y] _ (fun j v hj => ?_) Try.underlying42 rfl (by kernel_rfl)
  have hj2 : j < 2 := by have := (List.getElem?_eq_some_iff.1 hj).1; simpa using this
  rcases (by omega : j = 0 ∨ j = 1) with rfl | rfl
  · simpa using h0.trans (by simpa using hj)
  · simpa using h1.trans (by simpa using hj)
set_option maxRecDepth 100000 in
set_option maxHeartbeats 4000000 in
theorem scodei_any (v : Value) (L : List C2) (ux : Value) (x : C2) (w : World) (h : cdAv w none v L) (hxk : keysAt w ux x.1) (hL : L.length ≤ 2000000) (hs : ∀ z ∈ L, z.1.length ≤ 2000000) (hsx : x.1.length ≤ 2000000) :
    Calls Try.prog 60 #[v, .agg #[ux, .string x.2]] w fun e w' => e = .returned (.int .i64 (plI (codeI L x))) ∧ Below w.heap.size w w' := by
  obtain ⟨kx, yx⟩ := x
  dsimp only at *
  have HKX := Lib.hid (fun wx (hb : Below w.heap.size w wx) => keysAt_below hxk hb)
  obtain ⟨a, cap, rfl, hcap, hcells⟩ := h
  obtain ⟨ax, cx, rfl, -, -⟩ := hxk
  have hb0 := (Below.refl w.heap.size w).alloc (Nat.le_refl _) (.cells #[.slice ax kx.length cx, .string yx] 42)
  have HX := Lib.hid (heap_alloc_new w (.cells #[.slice ax kx.length cx, .string yx] 42))
  have HB0 := Lib.hid hb0
  have HLT := Lib.hid (show w.heap.size < (w.alloc (.cells #[.slice ax kx.length cx, .string yx] 42)).heap.size by simp)
  clear hb0
  go_enter Try.func60, Try.ntmps60
  go_wp2
  generalize w.alloc (.cells #[.slice ax kx.length cx, .string yx] 42) = W at *
  go_loopw [5] (fun i wr => ∃ k : Nat, k ≤ L.length ∧ i = .int .i64 k ∧ (∀ j, j < k → L.getD j blankC ≠ (kx, yx)) ∧ Below W.heap.size W wr) (fun i _ => L.length - (intOf i).toNat)
  case atStart => exact ⟨0, Nat.zero_le _, rfl, fun j hj => by omega, Below.refl _ _⟩
  case round =>
    obtain ⟨k, hkl, rfl, hall, hb⟩ := hrel
    rename_i wr
    by_cases hlt : k < L.length
    · obtain ⟨g, off, rfl, hg, hcs⟩ := hcells.resolve_left (by omega)
      have z0 : (0 : Int) ≤ (k : Int) := by omega
      have z1 : (k : Int) < (L.length : Int) := by omega
      obtain ⟨u, c1, c2, c3⟩ := hcs k hlt
      have hxx := hs (L.getD k blankC) (getW hlt)
      have HYES := Lib.hid (fun (e : L.getD k blankC = (kx, yx)) => show codeI L (kx, yx) = some k from codeI_some.2 ⟨hlt, e, hall⟩)
      have HNX := Lib.hid (fun (e : L.getD k blankC ≠ (kx, yx)) => show ∀ j, j < k + 1 → L.getD j blankC ≠ (kx, yx) from fun j hj => by
        rcases (by omega : j < k ∨ j = k) with h1 | rfl
        · exact hall j h1
        · exact e)
      clear hcells hcs hall
      generalize hx0 : L.getD k blankC = x at *
      clear hx0
      obtain ⟨ks, y⟩ := x
      dsimp only at *
      have HSM := Lib.hid (fun wx (hbx : Below W.heap.size W wx) => ssame_any u (.slice ax kx.length cx) ks kx wx (keysAt_below c3.to (HB0.out.trans (hbx.mono HB0.out.size))) (HKX.out _ (HB0.out.trans (hbx.mono HB0.out.size))) (by omega) (by omega))
      obtain ⟨au, cu, rfl, -, -⟩ := c3
      have L1 : ∀ w', Below W.heap.size W w' → (loadVar 40 ⟨g, off + k * 2, none⟩).run Try.prog w' = .ok (.slice au ks.length cu) w' := fun w' hb => ld_kys (((HB0.out.trans (hb.mono HB0.out.size)).cell (p := ⟨g, off + k * 2, none⟩) hg).trans c1)
      have L2 : ∀ w', Below W.heap.size W w' → (loadVar 40 ⟨w.heap.size, 0, none⟩).run Try.prog w' = .ok (.slice ax kx.length cx) w' := fun w' hb => cd_loadk HX.out hb
      have L3 : ∀ w', Below W.heap.size W w' → (loadVar 9 ⟨g, off + k * 2 + 1, none⟩).run Try.prog w' = .ok (.string y) w' := fun w' hb => ld_str (((HB0.out.trans (hb.mono HB0.out.size)).cell (p := ⟨g, off + k * 2 + 1, none⟩) hg).trans c2)
      have L4 : ∀ w', Below W.heap.size W w' → (loadVar 9 ⟨w.heap.size, 1, none⟩).run Try.prog w' = .ok (.string yx) w' := fun w' hb => cd_loads HX.out hb
      clear c1 c2
      have hse := str_eq y yx
      have HD := Lib.hid (show decide ((ks, y) = (kx, yx)) = (decide (ks = kx) && decide (y = yx)) by rw [Bool.eq_iff_iff]; simp)
      cases hk : decide (ks = kx) with
      | false =>
        have HKV := Lib.hid hk
        have HN := Lib.hid (HNX.out (of_decide_eq_false (by rw [HD.out, hk]; rfl)))
        clear hk hse
        go_wp2
        refine wp_region_below W (by kernel_rfl) (by kernel_rfl) hb ?_
        repeat (first
          | go_big_quiet_skip
          | (go_big_quiet_want
             first
               | (refine q_load 40 _ ⟨g, off + k * 2, none⟩ _ rfl rfl L1 ?_; simp only [Act.put, List.setIfInBounds_toArray, List.set_cons_zero, List.set_cons_succ]; go_big_quiet_on)
               | (refine q_load 40 _ ⟨w.heap.size, 0, none⟩ _ rfl rfl L2 ?_; simp only [Act.put, List.setIfInBounds_toArray, List.set_cons_zero, List.set_cons_succ]; go_big_quiet_on)
               | (go_big_quiet_op; go_big_quiet_on)
               | (go_big_quiet_op; refine ⟨_, fun _ _ => rfl, ?_⟩; go_big_quiet_on)
               | (go_big_quiet_op; apply Exists.intro; refine ⟨fun w' hw' => ?_, ?_⟩
                  · first
                    | (with_reducible refine (HSM.out w' hw').mono ?_
                       rintro e w2 ⟨rfl, hb2⟩
                       exact ⟨by rw [HKV.out], hw'.trans (hb2.mono hw'.size)⟩)
                  go_big_quiet_on)
               | (go_big_quiet_op; refine ⟨_, fun _ _ _ => rfl, ?_⟩; go_big_quiet_on)))
        refine wpQuiet_nil ?_
        intro w2 hb2
        clear L1 L2 L3 L4 hb
        go_wp2
        exact ⟨⟨k + 1, by omega, by go_num, HN.out, hb2⟩, by simp [intOf]; omega⟩
      | true =>
        have HKV := Lib.hid hk
        cases hy : decide (y = yx) with
        | false =>
          have HN := Lib.hid (HNX.out (of_decide_eq_false (by rw [HD.out, hk, hy]; rfl)))
          rw [hy] at hse
          clear hk hy
          go_wp2
          refine wp_region_below W (by kernel_rfl) (by kernel_rfl) hb ?_
          repeat (first
            | go_big_quiet_skip
            | (go_big_quiet_want
               first
                 | (refine q_load 40 _ ⟨g, off + k * 2, none⟩ _ rfl rfl L1 ?_; simp only [Act.put, List.setIfInBounds_toArray, List.set_cons_zero, List.set_cons_succ]; go_big_quiet_on)
                 | (refine q_load 40 _ ⟨w.heap.size, 0, none⟩ _ rfl rfl L2 ?_; simp only [Act.put, List.setIfInBounds_toArray, List.set_cons_zero, List.set_cons_succ]; go_big_quiet_on)
                 | (refine q_load 9 _ ⟨g, off + k * 2 + 1, none⟩ _ rfl rfl L3 ?_; simp only [Act.put, List.setIfInBounds_toArray, List.set_cons_zero, List.set_cons_succ]; go_big_quiet_on)
                 | (refine q_load 9 _ ⟨w.heap.size, 1, none⟩ _ rfl rfl L4 ?_; simp only [Act.put, List.setIfInBounds_toArray, List.set_cons_zero, List.set_cons_succ]; go_big_quiet_on)
                 | (go_big_quiet_op; go_big_quiet_on)
                 | (go_big_quiet_op; refine ⟨_, fun _ _ => rfl, ?_⟩; go_big_quiet_on)
                 | (go_big_quiet_op; apply Exists.intro; refine ⟨fun w' hw' => ?_, ?_⟩
                    · first
                      | (with_reducible refine (HSM.out w' hw').mono ?_
                         rintro e w2 ⟨rfl, hb2⟩
                         exact ⟨by rw [HKV.out], hw'.trans (hb2.mono hw'.size)⟩)
                    go_big_quiet_on)
                 | (go_big_quiet_op; refine ⟨_, fun _ _ _ => rfl, ?_⟩; go_big_quiet_on)))
          refine wpQuiet_nil ?_
          intro w2 hb2
          clear L1 L2 L3 L4 hb
          go_wp2
          exact ⟨⟨k + 1, by omega, by go_num, HN.out, hb2⟩, by simp [intOf]; omega⟩
        | true =>
          have HY := Lib.hid (HYES.out (of_decide_eq_true (by rw [HD.out, hk, hy]; rfl)))
          rw [hy] at hse
          clear hk hy
          go_wp2
          refine wp_region_below W (by kernel_rfl) (by kernel_rfl) hb ?_
          repeat (first
            | go_big_quiet_skip
            | (go_big_quiet_want
               first
                 | (refine q_load 40 _ ⟨g, off + k * 2, none⟩ _ rfl rfl L1 ?_; simp only [Act.put, List.setIfInBounds_toArray, List.set_cons_zero, List.set_cons_succ]; go_big_quiet_on)
                 | (refine q_load 40 _ ⟨w.heap.size, 0, none⟩ _ rfl rfl L2 ?_; simp only [Act.put, List.setIfInBounds_toArray, List.set_cons_zero, List.set_cons_succ]; go_big_quiet_on)
                 | (refine q_load 9 _ ⟨g, off + k * 2 + 1, none⟩ _ rfl rfl L3 ?_; simp only [Act.put, List.setIfInBounds_toArray, List.set_cons_zero, List.set_cons_succ]; go_big_quiet_on)
                 | (refine q_load 9 _ ⟨w.heap.size, 1, none⟩ _ rfl rfl L4 ?_; simp only [Act.put, List.setIfInBounds_toArray, List.set_cons_zero, List.set_cons_succ]; go_big_quiet_on)
                 | (go_big_quiet_op; go_big_quiet_on)
                 | (go_big_quiet_op; refine ⟨_, fun _ _ => rfl, ?_⟩; go_big_quiet_on)
                 | (go_big_quiet_op; apply Exists.intro; refine ⟨fun w' hw' => ?_, ?_⟩
                    · first
                      | (with_reducible refine (HSM.out w' hw').mono ?_
                         rintro e w2 ⟨rfl, hb2⟩
                         exact ⟨by rw [HKV.out], hw'.trans (hb2.mono hw'.size)⟩)
                    go_big_quiet_on)
                 | (go_big_quiet_op; refine ⟨_, fun _ _ _ => rfl, ?_⟩; go_big_quiet_on)))
          refine wpQuiet_nil ?_
          intro w2 hb2
          clear L1 L2 L3 L4 hb
          go_wp2
          go_ret
          exact ⟨by rw [HY.out]; rfl, HB0.out.trans (hb2.mono HB0.out.size)⟩
    · obtain rfl : k = L.length := by omega
      have HN := Lib.hid (show codeI L (kx, yx) = none from codeI_none.2 fun hm => by
        obtain ⟨i, hi, e⟩ := List.getElem_of_mem hm
        exact hall i hi (by simpa [List.getD, hi] using e))
      clear hall hcells
      go_wp2
      go_ret
      exact ⟨by rw [HN.out]; rfl, HB0.out.trans (hb.mono HB0.out.size)⟩
end Go.Proofs.Ytjggheoonjajpaa
namespace Go.Proofs.Ytjggheoonjajpaa
open Go.ChangeShapes Go.WideShapes Go.ChangeAt Go.RowKit Go.BigFrame
set_option linter.unusedVariables false
set_option linter.unusedSimpArgs false

set_option maxRecDepth 100000 in
set_option maxHeartbeats 2000000 in
theorem samecodes_self (va vb : Value) (L : List C2) (w : World) (ha : cdAv w none va L) (hb : cdAv w none vb L) (hL : L.length ≤ 4000000) (hx : ∀ x ∈ L, x.1.length ≤ 4000000) :
    Calls Try.prog 18 #[va, vb] w fun e w' => e = .returned (.bool true) ∧ Below w.heap.size w w' := by
  obtain ⟨aa, ca, rfl, hca, hcA⟩ := ha
  obtain ⟨ab, cb, rfl, hcb, hcB⟩ := hb
  have e0 : ((L.length : Int) != (L.length : Int)) = false := by simp
  go_enter Try.func18, Try.ntmps18
  go_wp2
  go_loopw [5] (fun i wr => ∃ k : Nat, k ≤ L.length ∧ i = .int .i64 k ∧ Below w.heap.size w wr) (fun i _ => L.length - (intOf i).toNat)
  case atStart => exact ⟨0, Nat.zero_le _, rfl, Below.refl _ _⟩
  case round =>
    obtain ⟨k, hk, rfl, hbr⟩ := hrel
    by_cases hlt : k < L.length
    · obtain ⟨ga, offa, rfl, hga, hcsA⟩ := hcA.resolve_left (by omega)
      obtain ⟨gb, offb, rfl, hgb, hcsB⟩ := hcB.resolve_left (by omega)
      obtain ⟨u, c1, c2, c3⟩ := hcsA k hlt
      obtain ⟨v, d1, d2, d3⟩ := hcsB k hlt
      have z0 : (0 : Int) ≤ (k : Int) := by omega
      have z1 : (k : Int) < (L.length : Int) := by omega
      have hxx := hx (L.getD k blankC) (getW hlt)
      clear hcsA hcsB hcA hcB
      generalize L.getD k blankC = x at *
      obtain ⟨ks, y⟩ := x
      dsimp only at *
      have HS := Lib.hid (fun wx (hbx : Below w.heap.size w wx) => samecode_self u v ks y wx (keysAt_below c3.to hbx) (keysAt_below d3.to hbx) hxx)
      obtain ⟨au, cu, rfl, -, -⟩ := c3
      obtain ⟨av, cv, rfl, -, -⟩ := d3
      have L1 : ∀ w', Below w.heap.size w w' → (loadVar 42 ⟨ga, offa + k * 2, none⟩).run Try.prog w' = .ok (.agg #[.slice au ks.length cu, .string y]) w' := fun w' h => cd_mid ((h.cell (p := ⟨ga, offa + k * 2, none⟩) hga).trans c1) ((h.cell (p := ⟨ga, offa + k * 2 + 1, none⟩) hga).trans c2)
      have L2 : ∀ w', Below w.heap.size w w' → (loadVar 42 ⟨gb, offb + k * 2, none⟩).run Try.prog w' = .ok (.agg #[.slice av ks.length cv, .string y]) w' := fun w' h => cd_mid ((h.cell (p := ⟨gb, offb + k * 2, none⟩) hgb).trans d1) ((h.cell (p := ⟨gb, offb + k * 2 + 1, none⟩) hgb).trans d2)
      clear c1 c2 d1 d2
      go_wp2
      refine wp_region_below w (by kernel_rfl) (by kernel_rfl) hbr ?_
      repeat (first
        | go_big_quiet_skip
        | (go_big_quiet_want
           first
             | (refine q_load 42 _ ⟨ga, offa + k * 2, none⟩ _ rfl rfl L1 ?_; simp only [Act.put, List.setIfInBounds_toArray, List.set_cons_zero, List.set_cons_succ]; go_big_quiet_on)
             | (refine q_load 42 _ ⟨gb, offb + k * 2, none⟩ _ rfl rfl L2 ?_; simp only [Act.put, List.setIfInBounds_toArray, List.set_cons_zero, List.set_cons_succ]; go_big_quiet_on)
             | (go_big_quiet_op; go_big_quiet_on)
             | (go_big_quiet_op; refine ⟨_, fun _ _ => rfl, ?_⟩; go_big_quiet_on)
             | (go_big_quiet_op; apply Exists.intro; refine ⟨fun w' hw' => ?_, ?_⟩
                · first
                  | (with_reducible refine (HS.out w' hw').mono ?_
                     rintro e w2 ⟨rfl, hb2⟩
                     exact ⟨rfl, hw'.trans (hb2.mono hw'.size)⟩)
                go_big_quiet_on)
             | (go_big_quiet_op; refine ⟨_, fun _ _ _ => rfl, ?_⟩; go_big_quiet_on)))
      refine wpQuiet_nil ?_
      intro w2 hb2
      clear L1 L2 hbr
      go_wp2
      exact ⟨⟨k + 1, by omega, by go_num, hb2⟩, by simp [intOf]; omega⟩
    · obtain rfl : k = L.length := by omega
      clear hcA hcB
      go_wp2
      go_ret
      exact ⟨rfl, hbr⟩
end Go.Proofs.Ytjggheoonjajpaa
namespace Go.Proofs.Ytjggheoonjajpaa
open Go.ChangeShapes Go.WideShapes Go.ChangeAt Go.RowKit Go.BigFrame
set_option linter.unusedVariables false

set_option maxHeartbeats 1000000 in
theorem eqreading_any (p q : R3) (w : World) : Calls Try.prog 126 #[rv p, rv q] w fun e w' => e = .returned (.bool (decide (p = q))) ∧ Below w.heap.size w w' := by
  obtain ⟨⟨a, b⟩, s⟩ := p; obtain ⟨⟨c, d⟩, t⟩ := q
  unfold rv
  dsimp only
  have hb : Below w.heap.size w ((w.alloc (.cells #[.int .i64 a, .int .i64 b, .string s] 38)).alloc (.cells #[.int .i64 c, .int .i64 d, .string t] 38)) := ((Below.refl _ _).alloc (Nat.le_refl _) _).alloc (by simp) _
  have f1 := heap_first w (.cells #[.int .i64 c, .int .i64 d, .string t] 38) (.cells #[.int .i64 a, .int .i64 b, .string s] 38)
  have f2 : ((w.alloc (.cells #[.int .i64 a, .int .i64 b, .string s] 38)).alloc (.cells #[.int .i64 c, .int .i64 d, .string t] 38)).heap[w.heap.size + 1]? = some (.cells #[.int .i64 c, .int .i64 d, .string t] 38) := by
    have := heap_alloc_new (w.alloc (.cells #[.int .i64 a, .int .i64 b, .string s] 38)) (.cells #[.int .i64 c, .int .i64 d, .string t] 38)
    simpa using this
  have hz : ((w.alloc (.cells #[.int .i64 a, .int .i64 b, .string s] 38)).alloc (.cells #[.int .i64 c, .int .i64 d, .string t] 38)).heap.size = w.heap.size + 1 + 1 := by simp
  have HE := fun w => eqkey_any (a, b) (c, d) w
  go_enter Try.func126, Try.ntmps126
  go_wp2_with fail
  generalize ((w.alloc (.cells #[.int .i64 a, .int .i64 b, .string s] 38)).alloc (.cells #[.int .i64 c, .int .i64 d, .string t] 38)) = W at *
  have cs : W.cell? ⟨w.heap.size, 2, none⟩ = some (.string s) := by rw [cell_of_row _ _ 2 _ _ _ f1]; rfl
  have ct : W.cell? ⟨w.heap.size + 1, 2, none⟩ = some (.string t) := by rw [cell_of_row _ _ 2 _ _ _ f2]; rfl
  refine (HE _).mono ?_
  rintro e w1 ⟨rfl, hb1⟩
  have cs1 := (hb1.cell (p := ⟨w.heap.size, 2, none⟩) (by rw [hz]; dsimp only; omega)).trans cs
  have ct1 := (hb1.cell (p := ⟨w.heap.size + 1, 2, none⟩) (by rw [hz]; dsimp only; omega)).trans ct
  have hB := hb.trans (hb1.mono hb.size)
  clear f1 f2 cs ct HE hb hb1 hz
  by_cases hk : (a, b) = (c, d)
  · have e1 : ((a, b) == (c, d)) = true := by rw [hk]; exact beq_self_eq_true _
    rw [e1]
    by_cases h3 : s = t
    · have e2 : s.toList = t.toList := by rw [h3]
      have e3 : decide (((a, b), s) = ((c, d), t)) = true := by rw [hk, h3]; simp
      have e4 : (s == t) = true := by rw [Go.beq_toListBytes, e2]; simp
      have E3 := Lib.hid e3
      clear e1 hk h3 e3
      go_wp2
      go_ret
      exact ⟨by rw [E3.out]; rfl, hB⟩
    · have e2 : ¬ s.toList = t.toList := fun h => h3 ((bytes_toList_iff _ _).1 h)
      have e3 : decide (((a, b), s) = ((c, d), t)) = false := by simp [h3]
      have e4 : (s.toList == t.toList) = false := beq_eq_false_iff_ne.2 e2
      have E3 := Lib.hid e3
      clear e1 hk h3 e3
      go_wp2
      go_ret
      exact ⟨by rw [E3.out]; rfl, hB⟩
  · have e1 : ((a, b) == (c, d)) = false := beq_eq_false_iff_ne.2 hk
    have e3 : decide (((a, b), s) = ((c, d), t)) = false := by
      rw [decide_eq_false_iff_not]; intro h; exact hk (Prod.mk.inj h).1
    rw [e1]
    have E3 := Lib.hid e3
    clear e1 e3 hk
    go_wp2
    go_ret
    exact ⟨by rw [E3.out]; rfl, hB⟩
end Go.Proofs.Ytjggheoonjajpaa
namespace Go.Proofs.Ytjggheoonjajpaa
open Go.ChangeShapes Go.WideShapes Go.ChangeAt Go.RowKit Go.BigFrame
set_option linter.unusedVariables false

set_option maxRecDepth 100000 in
set_option maxHeartbeats 1000000 in
theorem samereadings_any (va vb : Value) (A B : List R3) (w : World) (ha : rdAt w va A) (hb : rdAt w vb B) (hsA : A.length ≤ 4000000) (hsB : B.length ≤ 4000000) :
    Calls Try.prog 24 #[va, vb] w fun e w' => e = .returned (.bool (decide (A = B))) ∧ Below w.heap.size w w' := by
  obtain ⟨aa, ca, rfl, hca, hcA⟩ := ha
  obtain ⟨ab, cb, rfl, hcb, hcB⟩ := hb
  by_cases hl : A.length = B.length
  · have e0 : (A.length : Int) = (B.length : Int) := by omega
    go_enter Try.func24, Try.ntmps24
    rw [hl] at hca hcA ⊢
    go_wp2
    go_loopw [5] (fun i wr => ∃ k : Nat, k ≤ B.length ∧ i = .int .i64 k ∧ (∀ j, j < k → A.getD j r0 = B.getD j r0) ∧ Below w.heap.size w wr) (fun i _ => B.length - (intOf i).toNat)
    case atStart => exact ⟨0, Nat.zero_le _, rfl, fun j hj => by omega, Below.refl _ _⟩
    case round =>
      obtain ⟨k, hk, rfl, hall, hbr⟩ := hrel
      by_cases hlt : k < B.length
      · obtain ⟨ga, offa, rfl, hga, hcsA⟩ := hcA.resolve_left (by omega)
        obtain ⟨gb, offb, rfl, hgb, hcsB⟩ := hcB.resolve_left (by omega)
        have cA := hcsA k hlt
        have cB := hcsB k hlt
        have z0 : (0 : Int) ≤ (k : Int) := by omega
        have z1 : (k : Int) < (B.length : Int) := by omega
        clear hcsA hcsB hcA hcB
        have L1 : ∀ w', Below w.heap.size w w' → (loadVar 38 ⟨ga, offa + k * 3, none⟩).run Try.prog w' = .ok (rv (A.getD k r0)) w' := fun w' h => rd_load cA hga h
        have L2 : ∀ w', Below w.heap.size w w' → (loadVar 38 ⟨gb, offb + k * 3, none⟩).run Try.prog w' = .ok (rv (B.getD k r0)) w' := fun w' h => rd_load cB hgb h
        have HE := Lib.hid (fun w => eqreading_any (A.getD k r0) (B.getD k r0) w)
        clear cA cB
        cases he : decide (A.getD k r0 = B.getD k r0) with
        | true =>
          have hn : ∀ j, j < k + 1 → A.getD j r0 = B.getD j r0 := by
            intro j hj
            rcases (by omega : j < k ∨ j = k) with h1 | rfl
            · exact hall j h1
            · exact of_decide_eq_true he
          have HN := Lib.hid hn
          rw [he] at HE
          clear hall hn
          generalize A.getD k r0 = kx at *
          generalize B.getD k r0 = ky at *
          go_wp2
          refine wp_region_below w (by kernel_rfl) (by kernel_rfl) hbr ?_
          repeat (first
            | go_big_quiet_skip
            | (go_big_quiet_want
               first
                 | (go_big_quiet_op; go_big_quiet_on)
                 | (refine q_load 38 _ _ _ rfl rfl L1 ?_; simp only [Act.put, List.setIfInBounds_toArray, List.set_cons_zero, List.set_cons_succ]; go_big_quiet_on)
                 | (refine q_load 38 _ _ _ rfl rfl L2 ?_; simp only [Act.put, List.setIfInBounds_toArray, List.set_cons_zero, List.set_cons_succ]; go_big_quiet_on)
                 | (refine q_bin _ 38 _ _ _ _ _ _ rfl rfl rfl (fun w => rd_guard _ _ _ _ _ w) (fun w => rd_eql _ _ w) ?_; simp only [Act.put, List.setIfInBounds_toArray, List.set_cons_zero, List.set_cons_succ]; go_big_quiet_on)
                 | (refine q_bin _ 38 _ _ _ _ _ _ rfl rfl rfl (fun w => rd_guard _ _ _ _ _ w) (fun w => rd_neq _ _ w) ?_; simp only [Act.put, List.setIfInBounds_toArray, List.set_cons_zero, List.set_cons_succ]; go_big_quiet_on)
                 | (go_big_quiet_op; refine ⟨_, fun _ _ => rfl, ?_⟩; go_big_quiet_on)
                 | (go_big_quiet_op; go_big_quiet_on)))
          refine wpQuiet_nil ?_
          intro w2 hb2
          rw [he]
          clear L1 L2 HE hbr
          go_wp2
          exact ⟨⟨k + 1, by omega, by go_num, HN.out, hb2⟩, by simp [intOf]; omega⟩
        | false =>
          have hne : decide (A = B) = false := by
            simp only [decide_eq_false_iff_not]
            intro e
            subst e
            simp at he
          have HD := Lib.hid hne
          rw [he] at HE
          clear hall hne
          generalize A.getD k r0 = kx at *
          generalize B.getD k r0 = ky at *
          go_wp2
          refine wp_region_below w (by kernel_rfl) (by kernel_rfl) hbr ?_
          repeat (first
            | go_big_quiet_skip
            | (go_big_quiet_want
               first
                 | (go_big_quiet_op; go_big_quiet_on)
                 | (refine q_load 38 _ _ _ rfl rfl L1 ?_; simp only [Act.put, List.setIfInBounds_toArray, List.set_cons_zero, List.set_cons_succ]; go_big_quiet_on)
                 | (refine q_load 38 _ _ _ rfl rfl L2 ?_; simp only [Act.put, List.setIfInBounds_toArray, List.set_cons_zero, List.set_cons_succ]; go_big_quiet_on)
                 | (refine q_bin _ 38 _ _ _ _ _ _ rfl rfl rfl (fun w => rd_guard _ _ _ _ _ w) (fun w => rd_eql _ _ w) ?_; simp only [Act.put, List.setIfInBounds_toArray, List.set_cons_zero, List.set_cons_succ]; go_big_quiet_on)
                 | (refine q_bin _ 38 _ _ _ _ _ _ rfl rfl rfl (fun w => rd_guard _ _ _ _ _ w) (fun w => rd_neq _ _ w) ?_; simp only [Act.put, List.setIfInBounds_toArray, List.set_cons_zero, List.set_cons_succ]; go_big_quiet_on)
                 | (go_big_quiet_op; refine ⟨_, fun _ _ => rfl, ?_⟩; go_big_quiet_on)
                 | (go_big_quiet_op; go_big_quiet_on)))
          refine wpQuiet_nil ?_
          intro w2 hb2
          rw [he]
          clear L1 L2 HE hbr
          go_wp2
          go_ret
          exact ⟨by rw [HD.out]; rfl, hb2⟩
      · obtain rfl : k = B.length := by omega
        have he : decide (A = B) = true := by
          simp only [decide_eq_true_eq]
          apply List.ext_getElem hl
          intro i h1 h2
          have := hall i h2
          simpa [List.getD, h1, h2] using this
        have HD := Lib.hid he
        clear hall he
        go_wp2
        go_ret
        exact ⟨by rw [HD.out]; rfl, hbr⟩
  · have hne : decide (A = B) = false := by simp only [decide_eq_false_iff_not]; intro e; subst e; exact hl rfl
    have HD := Lib.hid hne
    have e0 : ¬ (A.length : Int) = (B.length : Int) := by omega
    clear hne
    go_enter Try.func24, Try.ntmps24
    go_wp2
    go_ret
    exact ⟨by rw [HD.out]; rfl, Below.refl _ _⟩
end Go.Proofs.Ytjggheoonjajpaa
namespace Go.Proofs.Ytjggheoonjajpaa
open Go.ChangeShapes Go.WideShapes Go.ChangeAt Go.RowKit Go.BigFrame
set_option linter.unusedVariables false
set_option linter.unusedSimpArgs false

set_option maxRecDepth 100000 in
set_option maxHeartbeats 2000000 in
theorem samestation_self (s : Stn) (oa ba ha ob bb hb' : Value) (w : World) (h1 : SaL w s oa ba ha) (h2 : SaL w s ob bb hb') (hk : s.own.length ≤ 1900000) (hw : s.buf.length ≤ 1900000) (hx : ∀ x ∈ s.buf, x.1.length ≤ 1900000) (hh : s.heard.length ≤ 1900000) :
    Calls Try.prog 15 #[saV s oa ba ha, saV s ob bb hb'] w fun e w' => e = .returned (.bool true) ∧ Below w.heap.size w w' := by
  obtain ⟨id, al, sq, mo, ow, bu, he⟩ := s
  dsimp only at *
  have HR := Lib.hid (fun wx (hb : Below w.heap.size w wx) => samereadings_any oa ob ow ow wx (rdAt_below h1.own hb) (rdAt_below h2.own hb) (by omega) (by omega))
  have HC := Lib.hid (fun wx (hb : Below w.heap.size w wx) => samecodes_self ba bb bu wx (cdAv_below h1.buf hb) (cdAv_below h2.buf hb) (by omega) (fun x h => by have := hx x h; omega))
  have HI := Lib.hid (fun wx (hb : Below w.heap.size w wx) => sameints_self ha hb' he wx (inAt_below h1.heard hb) (inAt_below h2.heard hb) (by omega))
  obtain ⟨⟨ao, ap, rfl, -, -⟩, ⟨ab, ac, rfl, -, -⟩, ⟨ah, ai, rfl, -, -⟩⟩ := h1
  obtain ⟨⟨bo, bp, rfl, -, -⟩, ⟨bb, bc, rfl, -, -⟩, ⟨bh, bi, rfl, -, -⟩⟩ := h2
  dsimp only at *
  have hb0 := (Below.refl w.heap.size w).alloc (Nat.le_refl _) (.cells #[.int .i64 id, .bool al, .int .i64 sq, .int .i64 mo, .slice ao ow.length ap, .slice ab bu.length ac, .slice ah he.length ai] 28)
  have hb1 := hb0.alloc hb0.size (.cells #[.int .i64 id, .bool al, .int .i64 sq, .int .i64 mo, .slice bo ow.length bp, .slice bb bu.length bc, .slice bh he.length bi] 28)
  have hA := heap_first w (.cells #[.int .i64 id, .bool al, .int .i64 sq, .int .i64 mo, .slice bo ow.length bp, .slice bb bu.length bc, .slice bh he.length bi] 28) (.cells #[.int .i64 id, .bool al, .int .i64 sq, .int .i64 mo, .slice ao ow.length ap, .slice ab bu.length ac, .slice ah he.length ai] 28)
  have hN := heap_alloc_new (w.alloc (.cells #[.int .i64 id, .bool al, .int .i64 sq, .int .i64 mo, .slice ao ow.length ap, .slice ab bu.length ac, .slice ah he.length ai] 28)) (.cells #[.int .i64 id, .bool al, .int .i64 sq, .int .i64 mo, .slice bo ow.length bp, .slice bb bu.length bc, .slice bh he.length bi] 28)
  rw [show (w.alloc (.cells #[.int .i64 id, .bool al, .int .i64 sq, .int .i64 mo, .slice ao ow.length ap, .slice ab bu.length ac, .slice ah he.length ai] 28)).heap.size = w.heap.size + 1 by simp] at hN
  have HB0 := Lib.hid hb1; have HX0 := Lib.hid hA; have HY0 := Lib.hid hN
  clear hb0 hb1 hA hN hx
  have hdt : decide (ow = ow) = true := decide_eq_true rfl
  have j0 : (id == id) = true := by simp
  have j1 : (al == al) = true := by simp
  have j2 : (sq == sq) = true := by simp
  have j3 : (mo == mo) = true := by simp
  unfold saV
  dsimp only
  go_enter Try.func15, Try.ntmps15
  go_upto_region 1 with (fail)
  generalize (w.alloc (.cells #[.int .i64 id, .bool al, .int .i64 sq, .int .i64 mo, .slice ao ow.length ap, .slice ab bu.length ac, .slice ah he.length ai] 28)).alloc (.cells #[.int .i64 id, .bool al, .int .i64 sq, .int .i64 mo, .slice bo ow.length bp, .slice bb bu.length bc, .slice bh he.length bi] 28) = W at *
  obtain ⟨⟨x0, x1, x2, x3, x4, x5, x6⟩, -⟩ := row7_of HX0.out
  obtain ⟨⟨y0, y1, y2, y3, y4, y5, y6⟩, -⟩ := row7_of HY0.out
  go_wp2_with fail
  refine (HR.out _ HB0.out).mono ?_
  rintro e w2 ⟨rfl, hb2⟩
  rw [hdt]
  have HB1 := Lib.hid (HB0.out.trans (hb2.mono HB0.out.size))
  have HX1 := Lib.hid ((hb2.block _ (Array.getElem?_eq_some_iff.1 HX0.out).1).trans HX0.out)
  have HY1 := Lib.hid ((hb2.block _ (Array.getElem?_eq_some_iff.1 HY0.out).1).trans HY0.out)
  clear x0 x1 x2 x3 x4 x5 x6 y0 y1 y2 y3 y4 y5 y6 hb2
  obtain ⟨⟨x0, x1, x2, x3, x4, x5, x6⟩, -⟩ := row7_of HX1.out
  obtain ⟨⟨y0, y1, y2, y3, y4, y5, y6⟩, -⟩ := row7_of HY1.out
  go_wp2_with fail
  refine (HC.out _ HB1.out).mono ?_
  rintro e w3 ⟨rfl, hb2⟩
  have HB2 := Lib.hid (HB1.out.trans (hb2.mono HB1.out.size))
  have HX2 := Lib.hid ((hb2.block _ (Array.getElem?_eq_some_iff.1 HX1.out).1).trans HX1.out)
  have HY2 := Lib.hid ((hb2.block _ (Array.getElem?_eq_some_iff.1 HY1.out).1).trans HY1.out)
  clear x0 x1 x2 x3 x4 x5 x6 y0 y1 y2 y3 y4 y5 y6 hb2
  obtain ⟨⟨x0, x1, x2, x3, x4, x5, x6⟩, -⟩ := row7_of HX2.out
  obtain ⟨⟨y0, y1, y2, y3, y4, y5, y6⟩, -⟩ := row7_of HY2.out
  go_wp2_with fail
  refine (HI.out _ HB2.out).mono ?_
  rintro e w4 ⟨rfl, hb2⟩
  have HB3 := Lib.hid (HB2.out.trans (hb2.mono HB2.out.size))
  have HX3 := Lib.hid ((hb2.block _ (Array.getElem?_eq_some_iff.1 HX2.out).1).trans HX2.out)
  have HY3 := Lib.hid ((hb2.block _ (Array.getElem?_eq_some_iff.1 HY2.out).1).trans HY2.out)
  clear x0 x1 x2 x3 x4 x5 x6 y0 y1 y2 y3 y4 y5 y6 hb2
  obtain ⟨⟨x0, x1, x2, x3, x4, x5, x6⟩, -⟩ := row7_of HX3.out
  obtain ⟨⟨y0, y1, y2, y3, y4, y5, y6⟩, -⟩ := row7_of HY3.out
  go_wp2
  go_ret
  exact ⟨rfl, HB3.out⟩
end Go.Proofs.Ytjggheoonjajpaa
namespace Go.Proofs.Ytjggheoonjajpaa
open Go.ChangeShapes Go.WideShapes Go.ChangeAt Go.RowKit Go.BigFrame
set_option linter.unusedVariables false
set_option linter.unusedSimpArgs false

set_option maxRecDepth 100000 in
set_option maxHeartbeats 1000000 in
theorem iequal_any (va vb : Value) (A B : List K2) (w : World) (ha : keysAt w va A) (hb : keysAt w vb B) (hsA : A.length ≤ 4000000) (hsB : B.length ≤ 4000000) :
    Calls Try.prog 135 #[va, vb] w fun e w' => e = .returned (.bool (decide (A = B))) ∧ Below w.heap.size w w' := by
  obtain ⟨aa, ca, rfl, hca, hcA⟩ := ha
  obtain ⟨ab, cb, rfl, hcb, hcB⟩ := hb
  by_cases hl : A.length = B.length
  · have e0 : (A.length : Int) = (B.length : Int) := by omega
    go_enter Try.func135, Try.ntmps135
    rw [hl] at hca hcA ⊢
    go_wp2
    go_loopw [13] (fun i wr => ∃ k : Nat, k ≤ B.length ∧ i = .int .i64 k ∧ (∀ j, j < k → A.getD j (0, 0) = B.getD j (0, 0)) ∧ Below w.heap.size w wr) (fun i _ => B.length - (intOf i).toNat)
    case atStart => exact ⟨0, Nat.zero_le _, rfl, fun j hj => by omega, Below.refl _ _⟩
    case round =>
      obtain ⟨k, hk, rfl, hall, hbr⟩ := hrel
      by_cases hlt : k < B.length
      · obtain ⟨ga, offa, rfl, hga, hcsA⟩ := hcA.resolve_left (by omega)
        obtain ⟨gb, offb, rfl, hgb, hcsB⟩ := hcB.resolve_left (by omega)
        have cA := hcsA k hlt
        have cB := hcsB k hlt
        have z0 : (0 : Int) ≤ (k : Int) := by omega
        have z1 : (k : Int) < (B.length : Int) := by omega
        clear hcsA hcsB hcA hcB
        have L1 : ∀ w', Below w.heap.size w w' → (loadVar 36 ⟨ga, offa + k * 2, none⟩).run Try.prog w' = .ok (kv (A.getD k (0, 0))) w' := fun w' h => key_load cA hga h
        have L2 : ∀ w', Below w.heap.size w w' → (loadVar 36 ⟨gb, offb + k * 2, none⟩).run Try.prog w' = .ok (kv (B.getD k (0, 0))) w' := fun w' h => key_load cB hgb h
        clear cA cB
        cases he : (A.getD k (0, 0) == B.getD k (0, 0)) with
        | true =>
          have hn : ∀ j, j < k + 1 → A.getD j (0, 0) = B.getD j (0, 0) := by
            intro j hj
            rcases (by omega : j < k ∨ j = k) with h1 | rfl
            · exact hall j h1
            · exact eq_of_beq he
          have HN := Lib.hid hn
          clear hall hn
          generalize A.getD k (0, 0) = kx at *
          generalize B.getD k (0, 0) = ky at *
          go_wp2
          refine wp_region_below w (by kernel_rfl) (by kernel_rfl) hbr ?_
          repeat (first
            | go_big_quiet_skip
            | (go_big_quiet_want
               first
                 | (go_big_quiet_op; go_big_quiet_on)
                 | (refine q_load 36 _ _ _ rfl rfl L1 ?_; simp only [Act.put, List.setIfInBounds_toArray, List.set_cons_zero, List.set_cons_succ]; go_big_quiet_on)
                 | (refine q_load 36 _ _ _ rfl rfl L2 ?_; simp only [Act.put, List.setIfInBounds_toArray, List.set_cons_zero, List.set_cons_succ]; go_big_quiet_on)
                 | (refine q_bin _ 36 _ _ _ _ _ _ rfl rfl rfl (fun w => key_guard _ _ _ _ _ w) (fun w => key_eql _ _ w) ?_; simp only [Act.put, List.setIfInBounds_toArray, List.set_cons_zero, List.set_cons_succ]; go_big_quiet_on)
                 | (refine q_bin _ 36 _ _ _ _ _ _ rfl rfl rfl (fun w => key_guard _ _ _ _ _ w) (fun w => key_neq _ _ w) ?_; simp only [Act.put, List.setIfInBounds_toArray, List.set_cons_zero, List.set_cons_succ]; go_big_quiet_on)
                 | (go_big_quiet_op; refine ⟨_, fun _ _ => rfl, ?_⟩; go_big_quiet_on)
                 | (go_big_quiet_op; go_big_quiet_on)))
          refine wpQuiet_nil ?_
          intro w2 hb2
          rw [he]
          clear L1 L2 hbr
          go_wp2
          exact ⟨⟨k + 1, by omega, by go_num, HN.out, hb2⟩, by simp [intOf]; omega⟩
        | false =>
          have hne : decide (A = B) = false := by
            simp only [decide_eq_false_iff_not]
            intro e
            subst e
            simp at he
          have HD := Lib.hid hne
          clear hall hne
          generalize A.getD k (0, 0) = kx at *
          generalize B.getD k (0, 0) = ky at *
          go_wp2
          refine wp_region_below w (by kernel_rfl) (by kernel_rfl) hbr ?_
          repeat (first
            | go_big_quiet_skip
            | (go_big_quiet_want
               first
                 | (go_big_quiet_op; go_big_quiet_on)
                 | (refine q_load 36 _ _ _ rfl rfl L1 ?_; simp only [Act.put, List.setIfInBounds_toArray, List.set_cons_zero, List.set_cons_succ]; go_big_quiet_on)
                 | (refine q_load 36 _ _ _ rfl rfl L2 ?_; simp only [Act.put, List.setIfInBounds_toArray, List.set_cons_zero, List.set_cons_succ]; go_big_quiet_on)
                 | (refine q_bin _ 36 _ _ _ _ _ _ rfl rfl rfl (fun w => key_guard _ _ _ _ _ w) (fun w => key_eql _ _ w) ?_; simp only [Act.put, List.setIfInBounds_toArray, List.set_cons_zero, List.set_cons_succ]; go_big_quiet_on)
                 | (refine q_bin _ 36 _ _ _ _ _ _ rfl rfl rfl (fun w => key_guard _ _ _ _ _ w) (fun w => key_neq _ _ w) ?_; simp only [Act.put, List.setIfInBounds_toArray, List.set_cons_zero, List.set_cons_succ]; go_big_quiet_on)
                 | (go_big_quiet_op; refine ⟨_, fun _ _ => rfl, ?_⟩; go_big_quiet_on)
                 | (go_big_quiet_op; go_big_quiet_on)))
          refine wpQuiet_nil ?_
          intro w2 hb2
          rw [he]
          clear L1 L2 hbr
          go_wp2
          go_ret
          exact ⟨by rw [HD.out]; rfl, hb2⟩
      · obtain rfl : k = B.length := by omega
        have he : decide (A = B) = true := by
          simp only [decide_eq_true_eq]
          apply List.ext_getElem hl
          intro i h1 h2
          have := hall i h2
          simpa [List.getD, h1, h2] using this
        have HD := Lib.hid he
        clear hall he
        go_wp2
        go_ret
        exact ⟨by rw [HD.out]; rfl, hbr⟩
  · have hne : decide (A = B) = false := by simp only [decide_eq_false_iff_not]; intro e; subst e; exact hl rfl
    have HD := Lib.hid hne
    have e0 : ((A.length : Int) != (B.length : Int)) = true := by simp; omega
    clear hne
    go_enter Try.func135, Try.ntmps135
    go_wp2
    go_ret
    exact ⟨by rw [HD.out]; rfl, Below.refl _ _⟩

end Go.Proofs.Ytjggheoonjajpaa
namespace Go.Proofs.Ytjggheoonjajpaa
open Go.ChangeShapes Go.WideShapes Go.ChangeAt Go.RowKit Go.BigFrame
set_option linter.unusedVariables false
set_option linter.unusedSimpArgs false

set_option maxRecDepth 20000 in
theorem iidok_any (n : Int) (w : World) : Calls Try.prog 53 #[.int .i64 n] w fun e w' => e = .returned (.bool (idB n)) ∧ w' = w := by
  have e : idB n = (decide (1 ≤ n) && decide (n ≤ 20)) := rfl
  rw [e]
  go_enter Try.func53, Try.ntmps53
  by_cases h1 : 1 ≤ n
  · by_cases h2 : n ≤ 20
    · go_wp2
      go_ret
      simp [h1, h2]
    · go_wp2
      go_ret
      simp [h1, h2]
  · go_wp2
    go_ret
    simp [h1]
    try omega
set_option maxRecDepth 20000 in
theorem iisother_any (f id : Int) (w : World) : Calls Try.prog 68 #[.int .i64 f, .int .i64 id] w fun e w' => e = .returned (.bool (otherB f id)) ∧ w' = w := by
  have e : otherB f id = (idB f && decide (f ≠ id)) := rfl
  rw [e]
  clear e
  have HQ := Lib.hid (show (f != id) = decide (f ≠ id) by rw [Bool.eq_iff_iff]; simp)
  go_enter Try.func68, Try.ntmps68
  go_wp2_with fail
  refine (iidok_any _ _).mono ?_
  rintro e w1 ⟨rfl, rfl⟩
  cases hi : idB f with
  | false =>
    go_wp2
    go_ret
    exact ⟨by rw [hi]; rfl, rfl⟩
  | true =>
    go_wp2
    go_ret
    exact ⟨by rw [hi, Bool.true_and, ← HQ.out]; rfl, rfl⟩
set_option maxRecDepth 100000 in
set_option maxHeartbeats 1000000 in
theorem itells_any (u : Value) (ks : List K2) (y : ByteArray) (w : World) (h : keysAt w u ks) (hs : ks.length ≤ 2000000) :
    Calls Try.prog 67 #[.agg #[u, .string y]] w fun e w' => e = .returned (.bool (tellB (ks, y))) ∧ Below w.heap.size w w' := by
  have hb := (Below.refl w.heap.size w).alloc (Nat.le_refl _) (.cells #[u, .string y] 42)
  have HB := Lib.hid hb
  have HX := Lib.hid (heap_alloc_new w (.cells #[u, .string y] 42))
  have HC := Lib.hid (icodeok_any u ks y (w.alloc (.cells #[u, .string y] 42)) (keysAt_below h hb) hs)
  obtain ⟨a, cap, rfl, -, -⟩ := h
  unfold tellB
  dsimp only
  obtain ⟨x0, x1, -, -⟩ := row2_of HX.out
  clear hb
  go_enter Try.func67, Try.ntmps67
  go_wp2_with fail
  generalize w.alloc (.cells #[.slice a ks.length cap, .string y] 42) = W at *
  refine HC.out.mono ?_
  rintro e w1 ⟨rfl, hb1⟩
  have HB1 := Lib.hid (HB.out.trans (hb1.mono HB.out.size))
  clear x0 x1
  obtain ⟨x0, x1⟩ := cd_cells HX.out hb1
  clear hb1 HC HX HB
  cases h2 : codeOkB (ks, y) with
  | false =>
    go_wp2
    go_ret
    exact ⟨by rw [h2]; rfl, HB1.out⟩
  | true =>
    by_cases h3 : 0 < ks.length
    · have i3 : (0 : Int) < (ks.length : Int) := by omega
      go_wp2
      go_ret
      exact ⟨by rw [h2]; simp [h3], HB1.out⟩
    · have i3 : ¬ (0 : Int) < (ks.length : Int) := by omega
      go_wp2
      go_ret
      exact ⟨by rw [h2]; simp [h3], HB1.out⟩
set_option maxRecDepth 100000 in
set_option maxHeartbeats 2000000 in
theorem iheardok_any (v : Value) (H : List Int) (id : Int) (w : World) (h : inAt w v H) (hs : H.length ≤ 4000000) :
    Calls Try.prog 56 #[v, .int .i64 id] w fun e w' => e = .returned (.bool (heardB H id)) ∧ w' = w := by
  obtain ⟨a, cap, rfl, hcap, hcells⟩ := h
  have HALL := Lib.hid (show (∀ i, i < H.length → heardStep H id i = true) → heardB H id = true from fun h => all_range_iff.2 h)
  have HNO := Lib.hid (show ∀ i, i < H.length → heardStep H id i = false → heardB H id = false from fun i hi h => all_range_no i hi h)
  generalize heardB H id = bb at *
  go_enter Try.func56, Try.ntmps56
  go_wp2
  go_loopw [9] (fun i wr => ∃ k : Nat, k ≤ H.length ∧ i = .int .i64 k ∧ (∀ j, j < k → heardStep H id j = true) ∧ wr = w) (fun i _ => H.length - (intOf i).toNat)
  case atStart => exact ⟨0, Nat.zero_le _, rfl, fun j hj => by omega, rfl⟩
  case round =>
    obtain ⟨k, hkl, rfl, hall, rfl⟩ := hrel
    by_cases hlt : k < H.length
    · obtain ⟨g, off, rfl, hg, hcs⟩ := hcells.resolve_left (by omega)
      have z0 : (0 : Int) ≤ (k : Int) := by omega
      have z1 : (k : Int) < (H.length : Int) := by omega
      have C1 := hcs k hlt
      have HST := Lib.hid (show heardStep H id k = (otherB (H.getD k 0) id && (decide (k = 0) || decide (H.getD (k - 1) 0 < H.getD k 0))) from rfl)
      have HBAD := Lib.hid (HNO.out k hlt)
      have HNX := Lib.hid (show heardStep H id k = true → ∀ j, j < k + 1 → heardStep H id j = true from fun e j hj => by
        rcases (by omega : j < k ∨ j = k) with h1 | rfl
        · exact hall j h1
        · exact e)
      have C0 := Lib.hid (fun (h0 : 0 < k) => hcs (k - 1) (by omega))
      rw [← List.getD_eq_getElem?_getD] at C1
      clear hcells hcs hall
      generalize H.getD k 0 = x at *
      go_wp2_with fail
      refine (iisother_any _ _ _).mono ?_
      rintro e w2 ⟨rfl, rfl⟩
      cases ho : otherB x id with
      | false =>
        have HF := Lib.hid (HBAD.out (by rw [HST.out, ho]; rfl))
        clear ho
        go_wp2
        go_ret
        exact ⟨by rw [HF.out]; rfl, rfl⟩
      | true =>
        by_cases hk0 : k = 0
        · subst hk0
          have HN := Lib.hid (HNX.out (by rw [HST.out, ho]; rfl))
          have y0 : ¬ (0 : Int) < ((0 : Nat) : Int) := by omega
          clear ho C0
          go_wp2
          exact ⟨⟨1, by omega, by go_num, HN.out, by trivial⟩, by simp [intOf]; omega⟩
        · have C2 := C0.out (by omega)
          rw [← List.getD_eq_getElem?_getD] at C2
          have y0 : (0 : Int) < (k : Int) := by omega
          have y1 : (0 : Int) ≤ (k : Int) - 1 := by omega
          have y2 : (k : Int) - 1 < (H.length : Int) := by omega
          have y3 : IntKind.i64.wrap ((k : Int) - 1) = (k : Int) - 1 := IntWalk.i64_in _ (by omega)
          have y4 : ((k : Int) - 1).toNat = k - 1 := by omega
          generalize H.getD (k - 1) 0 = x0 at *
          by_cases hx : x ≤ x0
          · have HF := Lib.hid (HBAD.out (by rw [HST.out, ho, decide_eq_false hk0, decide_eq_false (by omega)]; rfl))
            clear ho C0
            go_wp2
            go_ret
            exact ⟨by rw [HF.out]; rfl, rfl⟩
          · have HN := Lib.hid (HNX.out (by rw [HST.out, ho, decide_eq_true (show x0 < x by omega)]; simp))
            clear ho C0
            go_wp2
            exact ⟨⟨k + 1, by omega, by go_num, HN.out, by trivial⟩, by simp [intOf]; omega⟩
    · obtain rfl : k = H.length := by omega
      have HF := Lib.hid (HALL.out hall)
      clear hall hcells
      go_wp2
      go_ret
      exact ⟨by rw [HF.out]; rfl, rfl⟩
end Go.Proofs.Ytjggheoonjajpaa
namespace Go.Proofs.Ytjggheoonjajpaa
open Go.ChangeShapes Go.WideShapes Go.ChangeAt Go.RowKit Go.BigFrame
set_option linter.unusedVariables false
set_option linter.unusedSimpArgs false

set_option maxRecDepth 100000 in
set_option maxHeartbeats 1000000 in
/-- the closure of hasCode: the word in its box is that one -/
theorem ihasone_any (u : Value) (ks : List K2) (y : ByteArray) (bx : Nat) (ux : Value) (kx : List K2) (yx : ByteArray) (w : World) (h : keysAt w u ks) (hx : keysAt w ux kx) (hr : w.heap[bx]? = some (.cells #[ux, .string yx] 42 (0, 0))) (hs : ks.length ≤ 2000000) (hsx : kx.length ≤ 2000000) :
    Calls Try.prog 134 #[.agg #[u, .string y], .pointer (some ⟨bx, 0, none⟩)] w fun e w' => e = .returned (.bool (decide ((ks, y) = (kx, yx)))) ∧ Below w.heap.size w w' := by
  have hb := (Below.refl w.heap.size w).alloc (Nat.le_refl _) (.cells #[u, .string y] 42)
  have HB := Lib.hid hb
  have HX := Lib.hid (heap_alloc_new w (.cells #[u, .string y] 42))
  have HR := Lib.hid ((hb.block _ (Array.getElem?_eq_some_iff.1 hr).1).trans hr)
  have HE := Lib.hid (iequal_any u ux ks kx (w.alloc (.cells #[u, .string y] 42)) (keysAt_below h hb) (keysAt_below hx hb) (by omega) (by omega))
  obtain ⟨a, cap, rfl, -, -⟩ := h
  obtain ⟨ax, capx, rfl, -, -⟩ := hx
  have hse := str_eq y yx
  have HD := Lib.hid (show decide ((ks, y) = (kx, yx)) = (decide (y = yx) && decide (ks = kx)) by rw [Bool.eq_iff_iff]; simp; exact And.comm)
  rw [HD.out]
  clear HD hb hr
  obtain ⟨x0, x1, -, -⟩ := row2_of HX.out
  obtain ⟨y0, y1, -, -⟩ := row2_of HR.out
  go_enter Try.func134, Try.ntmps134
  cases hd : decide (y = yx) with
  | false =>
    rw [hd] at hse
    clear hd
    go_wp2
    go_ret
    exact ⟨by simp, HB.out⟩
  | true =>
    rw [hd] at hse
    clear hd
    go_wp2_with fail
    generalize w.alloc (.cells #[.slice a ks.length cap, .string y] 42) = W at *
    refine HE.out.mono ?_
    rintro e w1 ⟨rfl, hb1⟩
    have HB1 := Lib.hid (HB.out.trans (hb1.mono HB.out.size))
    clear x0 x1 y0 y1 HX HR HE hb1
    go_wp2
    go_ret
    exact ⟨by simp, HB1.out⟩
set_option maxRecDepth 100000 in
set_option maxHeartbeats 2000000 in
theorem iindexfunc_any (v : Value) (L : List C2) (bx : Nat) (ux : Value) (x : C2) (w : World) (h : cdAv w none v L) (hx : keysAt w ux x.1) (hr : w.heap[bx]? = some (.cells #[ux, .string x.2] 42 (0, 0))) (hL : L.length ≤ 2000000) (hs : ∀ z ∈ L, z.1.length ≤ 2000000) (hsx : x.1.length ≤ 2000000) :
    Calls Try.prog 151 #[v, .func (.func 134) #[] #[.pointer (some ⟨bx, 0, none⟩)]] w fun e w' => (∃ z : Int, e = .returned (.int .i64 z) ∧ decide (0 ≤ z) = hasC L x) ∧ Below w.heap.size w w' := by
  obtain ⟨kx, yx⟩ := x
  dsimp only at *
  have HKX := Lib.hid (fun wx (hb : Below w.heap.size w wx) => And.intro (keysAt_below hx hb) ((hb.block _ (Array.getElem?_eq_some_iff.1 hr).1).trans hr))
  obtain ⟨a, cap, rfl, hcap, hcells⟩ := h
  clear hx hr
  go_enter Try.func151, Try.ntmps151
  go_wp2
  go_loopw [8] (fun i wr => ∃ k : Nat, k ≤ L.length ∧ i = .int .i64 k ∧ (∀ j, j < k → L.getD j blankC ≠ (kx, yx)) ∧ Below w.heap.size w wr) (fun i _ => L.length - (intOf i).toNat)
  case atStart => exact ⟨0, Nat.zero_le _, rfl, fun j hj => by omega, Below.refl _ _⟩
  case round =>
    obtain ⟨k, hkl, rfl, hall, hb⟩ := hrel
    rename_i wr
    by_cases hlt : k < L.length
    · obtain ⟨g, off, rfl, hg, hcs⟩ := hcells.resolve_left (by omega)
      have z0 : (0 : Int) ≤ (k : Int) := by omega
      have z1 : (k : Int) < (L.length : Int) := by omega
      obtain ⟨u, c1, c2, c3⟩ := hcs k hlt
      have C1 := (hb.cell (p := ⟨g, off + k * 2, none⟩) hg).trans c1
      have C2 := (hb.cell (p := ⟨g, off + k * 2 + 1, none⟩) hg).trans c2
      have hxx := hs (L.getD k blankC) (getW hlt)
      have HYES := Lib.hid (fun (e : L.getD k blankC = (kx, yx)) => show hasC L (kx, yx) = true from hasC_iff.2 (by rw [← e]; exact getW hlt))
      have HNX := Lib.hid (fun (e : L.getD k blankC ≠ (kx, yx)) => show ∀ j, j < k + 1 → L.getD j blankC ≠ (kx, yx) from fun j hj => by
        rcases (by omega : j < k ∨ j = k) with h1 | rfl
        · exact hall j h1
        · exact e)
      have HK := Lib.hid (keysAt_below c3.to hb)
      obtain ⟨au, cu, rfl, -, -⟩ := c3
      clear hcells hcs c1 c2 hall
      generalize L.getD k blankC = x at *
      obtain ⟨ks, y⟩ := x
      dsimp only at *
      have HC := Lib.hid (ihasone_any (.slice au ks.length cu) ks y bx ux kx yx wr HK.out (HKX.out _ hb).1 (HKX.out _ hb).2 hxx hsx)
      have HB := Lib.hid hb
      clear hb HK
      go_wp2_with fail
      refine HC.out.mono ?_
      rintro e w2 ⟨rfl, hb2⟩
      have HB2 := Lib.hid (HB.out.trans (hb2.mono HB.out.size))
      clear hb2 HC C1 C2 HB
      by_cases he : (ks, y) = (kx, yx)
      · rw [decide_eq_true he]
        have HY := Lib.hid (HYES.out he)
        clear he
        go_wp2
        go_ret
        exact ⟨⟨(k : Int), rfl, by rw [HY.out]; simp⟩, HB2.out⟩
      · rw [decide_eq_false he]
        have HN := Lib.hid (HNX.out he)
        clear he
        go_wp2
        exact ⟨⟨k + 1, by omega, by go_num, HN.out, HB2.out⟩, by simp [intOf]; omega⟩
    · obtain rfl : k = L.length := by omega
      have HN := Lib.hid (show hasC L (kx, yx) = false from hasC_no.2 fun hm => by
        obtain ⟨i, hi, e⟩ := List.getElem_of_mem hm
        exact hall i hi (by simpa [List.getD, hi] using e))
      clear hall hcells
      go_wp2
      go_ret
      exact ⟨⟨-1, rfl, by rw [HN.out]; rfl⟩, hb⟩
set_option maxRecDepth 100000 in
set_option maxHeartbeats 1000000 in
theorem icontainsfunc_any (v : Value) (L : List C2) (bx : Nat) (ux : Value) (x : C2) (w : World) (h : cdAv w none v L) (hx : keysAt w ux x.1) (hr : w.heap[bx]? = some (.cells #[ux, .string x.2] 42 (0, 0))) (hL : L.length ≤ 2000000) (hs : ∀ z ∈ L, z.1.length ≤ 2000000) (hsx : x.1.length ≤ 2000000) :
    Calls Try.prog 133 #[v, .func (.func 134) #[] #[.pointer (some ⟨bx, 0, none⟩)]] w fun e w' => e = .returned (.bool (hasC L x)) ∧ Below w.heap.size w w' := by
  have HI := Lib.hid (iindexfunc_any v L bx ux x w h hx hr hL hs hsx)
  obtain ⟨a, cap, rfl, -, -⟩ := h
  clear hx hr hL hs hsx
  generalize hasC L x = bb at *
  go_enter Try.func133, Try.ntmps133
  go_wp2_with fail
  refine HI.out.mono ?_
  rintro e w1 ⟨⟨z, rfl, hz⟩, hb1⟩
  have HZ := Lib.hid (And.intro hz hb1)
  clear hz hb1
  go_wp2
  go_ret
  exact ⟨by rw [← HZ.out.1]; rfl, HZ.out.2⟩
set_option maxRecDepth 100000 in
set_option maxHeartbeats 1000000 in
theorem ihascode_any (v : Value) (L : List C2) (ux : Value) (x : C2) (w : World) (h : cdAv w none v L) (hx : keysAt w ux x.1) (hL : L.length ≤ 2000000) (hs : ∀ z ∈ L, z.1.length ≤ 2000000) (hsx : x.1.length ≤ 2000000) :
    Calls Try.prog 107 #[v, .agg #[ux, .string x.2]] w fun e w' => e = .returned (.bool (hasC L x)) ∧ Below w.heap.size w w' := by
  have hmf : ∀ (fn : Fn) (first cap : Array Value) (w : World), (Instr.makeFunc fn first cap).run Try.prog w = .ok (.func fn first cap) w := fun _ _ _ _ => rfl
  have hb := (Below.refl w.heap.size w).alloc (Nat.le_refl _) (.cells #[ux, .string x.2] 42)
  have HB := Lib.hid hb
  have HI := Lib.hid (icontainsfunc_any v L w.heap.size ux x (w.alloc (.cells #[ux, .string x.2] 42)) (cdAv_below h hb) (keysAt_below hx hb) (heap_alloc_new w (.cells #[ux, .string x.2] 42)) hL hs hsx)
  obtain ⟨a, cap, rfl, -, -⟩ := h
  obtain ⟨ax, capx, rfl, -, -⟩ := hx
  clear hb
  go_enter Try.func107, Try.ntmps107
  go_wp2_with fail
  refine HI.out.mono ?_
  rintro e w1 ⟨rfl, hb1⟩
  have HB1 := Lib.hid (HB.out.trans (hb1.mono HB.out.size))
  clear hb1 HI
  go_wp2
  go_ret
  exact ⟨rfl, HB1.out⟩
theorem cdAv_take {w : World} {a : Option Addr} {cap : Nat} {L : List C2} {k : Nat} (h : cdAv w none (.slice a L.length cap) L) (hk : k ≤ L.length) : cdAv w none (.slice a k cap) (L.take k) := by
  obtain ⟨a', cap', e, h2, h3⟩ := h
  cases e
  have hl : (L.take k).length = k := by rw [List.length_take]; omega
  refine ⟨a, cap, by rw [hl], by rw [hl]; omega, ?_⟩
  rw [hl]
  rcases Nat.eq_zero_or_pos k with h0 | h0
  · exact .inl h0
  · obtain ⟨g, off, h4, h5, h6⟩ := h3.resolve_left (by omega)
    refine .inr ⟨g, off, h4, h5, fun i hi => ?_⟩
    have e1 : (L.take k).getD i blankC = L.getD i blankC := by simp [List.getD, List.getElem?_take, hi]
    rw [e1]
    exact h6 i (by omega)
set_option maxRecDepth 100000 in
set_option maxHeartbeats 2000000 in
theorem ibufok_any (v : Value) (L : List C2) (w : World) (h : cdAv w none v L) (hL : L.length ≤ 2000000) (hs : ∀ z ∈ L, z.1.length ≤ 2000000) :
    Calls Try.prog 55 #[v] w fun e w' => e = .returned (.bool (bufB L)) ∧ Below w.heap.size w w' := by
  have HAV := Lib.hid (fun wx (hb : Below w.heap.size w wx) => cdAv_below h hb)
  obtain ⟨a, cap, rfl, hcap, hcells⟩ := h
  have HALL := Lib.hid (show (∀ i, i < L.length → bufStep L i = true) → bufB L = true from fun h => all_range_iff.2 h)
  have HNO := Lib.hid (show ∀ i, i < L.length → bufStep L i = false → bufB L = false from fun i hi h => all_range_no i hi h)
  have HCAP := Lib.hid hcap
  clear hcap
  generalize bufB L = bb at *
  go_enter Try.func55, Try.ntmps55
  go_wp2
  go_loopw [7] (fun i wr => ∃ k : Nat, k ≤ L.length ∧ i = .int .i64 k ∧ (∀ j, j < k → bufStep L j = true) ∧ Below w.heap.size w wr) (fun i _ => L.length - (intOf i).toNat)
  case atStart => exact ⟨0, Nat.zero_le _, rfl, fun j hj => by omega, Below.refl _ _⟩
  case round =>
    obtain ⟨k, hkl, rfl, hall, hb⟩ := hrel
    rename_i wr
    by_cases hlt : k < L.length
    · obtain ⟨g, off, rfl, hg, hcs⟩ := hcells.resolve_left (by omega)
      have z0 : (0 : Int) ≤ (k : Int) := by omega
      have z1 : (k : Int) < (L.length : Int) := by omega
      have z2 : (k : Int) ≤ (cap : Int) := by have := HCAP.out; omega
      have z3 : ¬ (cap : Int) < (k : Int) := by omega
      obtain ⟨u, c1, c2, c3⟩ := hcs k hlt
      have C1 := (hb.cell (p := ⟨g, off + k * 2, none⟩) hg).trans c1
      have C2 := (hb.cell (p := ⟨g, off + k * 2 + 1, none⟩) hg).trans c2
      have hxx := hs (L.getD k blankC) (getW hlt)
      have HST := Lib.hid (show bufStep L k = (tellB (L.getD k blankC) && !hasC (L.take k) (L.getD k blankC)) from rfl)
      have HBAD := Lib.hid (HNO.out k hlt)
      have HNX := Lib.hid (show bufStep L k = true → ∀ j, j < k + 1 → bufStep L j = true from fun e j hj => by
        rcases (by omega : j < k ∨ j = k) with h1 | rfl
        · exact hall j h1
        · exact e)
      have HTK := Lib.hid (fun wx (hbx : Below w.heap.size w wx) => cdAv_take (HAV.out wx hbx) (show k ≤ L.length by omega))
      have hsT : ∀ z ∈ L.take k, z.1.length ≤ 2000000 := fun z hz => hs z (List.mem_of_mem_take hz)
      have hlT : (L.take k).length ≤ 2000000 := by rw [List.length_take]; omega
      clear hcells hcs c1 c2 hall
      generalize hx0 : L.getD k blankC = x at *
      clear hx0
      obtain ⟨ks, y⟩ := x
      dsimp only at *
      have hba := (Below.refl wr.heap.size wr).alloc (Nat.le_refl _) (.cells #[u, .string y] 42)
      have HX := Lib.hid (heap_alloc_new wr (.cells #[u, .string y] 42))
      have HT := Lib.hid (fun wx (hbx : Below wr.heap.size wr wx) => itells_any u ks y wx (keysAt_below (keysAt_below c3.to hb) hbx) hxx)
      have HH := Lib.hid (fun wx (hbx : Below wr.heap.size wr wx) => ihascode_any _ (L.take k) u (ks, y) wx (HTK.out wx (hb.trans (hbx.mono hb.size))) (keysAt_below (keysAt_below c3.to hb) hbx) hlT hsT hxx)
      have HB1 := Lib.hid hb
      have HBA := Lib.hid hba
      obtain ⟨au, cu, rfl, -, -⟩ := c3
      clear hb hba HTK hsT hlT
      generalize hasC (L.take k) (ks, y) = hh at *
      go_upto_region 4 with (fail)
      generalize wr.alloc (.cells #[.slice au ks.length cu, .string y] 42) = W at *
      clear C1 C2
      have LX : ∀ w', Below W.heap.size W w' → (loadVar 42 ⟨wr.heap.size, 0, none⟩).run Try.prog w' = .ok (.agg #[.slice au ks.length cu, .string y]) w' := fun w' hb => cd_load_b HX.out hb
      cases ht : tellB (ks, y) with
      | false =>
        have HF := Lib.hid (HBAD.out (by rw [HST.out, ht]; rfl))
        have HTT := Lib.hid ht
        clear ht
        refine wp_region_below W (by kernel_rfl) (by kernel_rfl) (Below.refl _ _) ?_
        repeat (first
          | go_big_quiet_skip
          | (go_big_quiet_want
             first
               | (go_big_quiet_op; go_big_quiet_on)
               | (refine q_load 42 _ _ _ rfl rfl LX ?_; simp only [Act.put, List.setIfInBounds_toArray, List.set_cons_zero, List.set_cons_succ]; go_big_quiet_on)
               | (go_big_quiet_op; refine ⟨_, fun _ _ => rfl, ?_⟩; go_big_quiet_on)
               | (go_big_quiet_op; apply Exists.intro; refine ⟨fun w' hw' => ?_, ?_⟩
                  · first
                    | (with_reducible refine (HT.out w' (HBA.out.trans (hw'.mono HBA.out.size))).mono ?_
                       rintro e w2 ⟨rfl, hb2⟩
                       exact ⟨by rw [HTT.out], hw'.trans (hb2.mono hw'.size)⟩)
                  go_big_quiet_on)
               | (go_big_quiet_op; refine ⟨_, fun _ _ _ => rfl, ?_⟩; go_big_quiet_on)))
        refine wpQuiet_nil ?_
        intro w5 hb5
        have HB5 := Lib.hid (HB1.out.trans ((HBA.out.trans (hb5.mono HBA.out.size)).mono HB1.out.size))
        clear LX hb5
        go_wp2
        go_ret
        exact ⟨by rw [HF.out]; rfl, HB5.out⟩
      | true =>
        have HTT := Lib.hid ht
        clear ht
        cases hh with
        | true =>
          have HF := Lib.hid (HBAD.out (by rw [HST.out, HTT.out]; rfl))
          refine wp_region_below W (by kernel_rfl) (by kernel_rfl) (Below.refl _ _) ?_
          repeat (first
            | go_big_quiet_skip
            | (go_big_quiet_want
               first
                 | (go_big_quiet_op; go_big_quiet_on)
                 | (refine q_load 42 _ _ _ rfl rfl LX ?_; simp only [Act.put, List.setIfInBounds_toArray, List.set_cons_zero, List.set_cons_succ]; go_big_quiet_on)
                 | (go_big_quiet_op; refine ⟨_, fun _ _ => rfl, ?_⟩; go_big_quiet_on)
                 | (go_big_quiet_op; apply Exists.intro; refine ⟨fun w' hw' => ?_, ?_⟩
                    · first
                      | (with_reducible refine (HT.out w' (HBA.out.trans (hw'.mono HBA.out.size))).mono ?_
                         rintro e w2 ⟨rfl, hb2⟩
                         exact ⟨by rw [HTT.out], hw'.trans (hb2.mono hw'.size)⟩)
                      | (with_reducible refine (HH.out w' (HBA.out.trans (hw'.mono HBA.out.size))).mono ?_
                         rintro e w2 ⟨rfl, hb2⟩
                         exact ⟨rfl, hw'.trans (hb2.mono hw'.size)⟩)
                    go_big_quiet_on)
                 | (go_big_quiet_op; refine ⟨_, fun _ _ _ => rfl, ?_⟩; go_big_quiet_on)))
          refine wpQuiet_nil ?_
          intro w5 hb5
          have HB5 := Lib.hid (HB1.out.trans ((HBA.out.trans (hb5.mono HBA.out.size)).mono HB1.out.size))
          clear LX hb5
          go_wp2
          go_ret
          exact ⟨by rw [HF.out]; rfl, HB5.out⟩
        | false =>
          have HN := Lib.hid (HNX.out (by rw [HST.out, HTT.out]; rfl))
          refine wp_region_below W (by kernel_rfl) (by kernel_rfl) (Below.refl _ _) ?_
          repeat (first
            | go_big_quiet_skip
            | (go_big_quiet_want
               first
                 | (go_big_quiet_op; go_big_quiet_on)
                 | (refine q_load 42 _ _ _ rfl rfl LX ?_; simp only [Act.put, List.setIfInBounds_toArray, List.set_cons_zero, List.set_cons_succ]; go_big_quiet_on)
                 | (go_big_quiet_op; refine ⟨_, fun _ _ => rfl, ?_⟩; go_big_quiet_on)
                 | (go_big_quiet_op; apply Exists.intro; refine ⟨fun w' hw' => ?_, ?_⟩
                    · first
                      | (with_reducible refine (HT.out w' (HBA.out.trans (hw'.mono HBA.out.size))).mono ?_
                         rintro e w2 ⟨rfl, hb2⟩
                         exact ⟨by rw [HTT.out], hw'.trans (hb2.mono hw'.size)⟩)
                      | (with_reducible refine (HH.out w' (HBA.out.trans (hw'.mono HBA.out.size))).mono ?_
                         rintro e w2 ⟨rfl, hb2⟩
                         exact ⟨rfl, hw'.trans (hb2.mono hw'.size)⟩)
                    go_big_quiet_on)
                 | (go_big_quiet_op; refine ⟨_, fun _ _ _ => rfl, ?_⟩; go_big_quiet_on)))
          refine wpQuiet_nil ?_
          intro w5 hb5
          have HB5 := Lib.hid (HB1.out.trans ((HBA.out.trans (hb5.mono HBA.out.size)).mono HB1.out.size))
          clear LX hb5
          go_wp2
          exact ⟨⟨k + 1, by omega, by go_num, HN.out, HB5.out⟩, by simp [intOf]; omega⟩
    · obtain rfl : k = L.length := by omega
      have HF := Lib.hid (HALL.out hall)
      clear hall hcells
      go_wp2
      go_ret
      exact ⟨by rw [HF.out]; rfl, hb⟩
end Go.Proofs.Ytjggheoonjajpaa
namespace Go.Proofs.Ytjggheoonjajpaa
open Go.ChangeShapes Go.WideShapes Go.ChangeAt Go.RowKit Go.BigFrame
set_option linter.unusedVariables false
set_option linter.unusedSimpArgs false

theorem key_loadR {w : World} {g o : Nat} {r : R3} (hc : w.cell? ⟨g, o, none⟩ = some (.int .i64 r.1.1) ∧ w.cell? ⟨g, o + 1, none⟩ = some (.int .i64 r.1.2) ∧ w.cell? ⟨g, o + 2, none⟩ = some (.string r.2)) {w' : World} (hg : g < w.heap.size) (hb : Below w.heap.size w w') :
    (loadVar 36 ⟨g, o, none⟩).run Try.prog w' = .ok (kv r.1) w' := key_load (k := r.1) ⟨hc.1, hc.2.1⟩ hg hb
set_option maxRecDepth 100000 in
set_option maxHeartbeats 2000000 in
theorem iownok_any (s : Stn) (vo vb vh : Value) (w : World) (h : SaL w s vo vb vh) :
    Calls Try.prog 54 #[saV s vo vb vh] w fun e w' => e = .returned (.bool (ownB s)) ∧ Below w.heap.size w w' := by
  obtain ⟨id, al, sq, mo, ow, bu, he⟩ := s
  obtain ⟨⟨ao, co, rfl, -, hcells⟩, ⟨ab, cb, rfl, -, -⟩, ⟨ah, ch, rfl, -, -⟩⟩ := h
  unfold saV
  dsimp only at *
  have hb := (Below.refl w.heap.size w).alloc (Nat.le_refl _) (.cells #[.int .i64 id, .bool al, .int .i64 sq, .int .i64 mo, .slice ao ow.length co, .slice ab bu.length cb, .slice ah he.length ch] 28)
  have HX := Lib.hid (heap_alloc_new w (.cells #[.int .i64 id, .bool al, .int .i64 sq, .int .i64 mo, .slice ao ow.length co, .slice ab bu.length cb, .slice ah he.length ch] 28))
  have HB := Lib.hid hb
  have HD := Lib.hid (show ownB ⟨id, al, sq, mo, ow, bu, he⟩ = if sq = 0 then decide (ow.length = 0) else decide (ow.length = 1) && (rdOkB (ow.getD 0 r0) && decide ((ow.getD 0 r0).1 = (id, sq))) from rfl)
  generalize ownB ⟨id, al, sq, mo, ow, bu, he⟩ = bb at *
  have HLT := Lib.hid (show w.heap.size < (w.alloc (.cells #[.int .i64 id, .bool al, .int .i64 sq, .int .i64 mo, .slice ao ow.length co, .slice ab bu.length cb, .slice ah he.length ch] 28)).heap.size by simp)
  clear hb
  go_enter Try.func54, Try.ntmps54
  go_upto_region 1 with (fail)
  generalize w.alloc (.cells #[.int .i64 id, .bool al, .int .i64 sq, .int .i64 mo, .slice ao ow.length co, .slice ab bu.length cb, .slice ah he.length ch] 28) = W at *
  obtain ⟨⟨x0, x1, x2, x3, x4, x5, x6⟩, -⟩ := row7_of HX.out
  by_cases hz : sq = 0
  · have hd := HD.out
    rw [if_pos hz] at hd
    subst hz
    have HF := Lib.hid hd
    clear hd HD
    have HF2 := Lib.hid (show ((ow.length : Int) == 0) = bb by rw [HF.out, Bool.eq_iff_iff]; simp)
    go_wp2
    go_ret
    exact ⟨by rw [← HF2.out]; rfl, HB.out⟩
  · have hd := HD.out
    rw [if_neg hz] at hd
    have HF := Lib.hid hd
    clear hd HD
    have LO : ∀ w', Below W.heap.size W w' → (loadVar 24 ⟨w.heap.size, 4, none⟩).run Try.prog w' = .ok (.slice ao ow.length co) w' := fun w' hb => ld_rds ((hb.cell (p := ⟨w.heap.size, 4, none⟩) HLT.out).trans x4)
    have LI : ∀ w', Below W.heap.size W w' → (loadVar 3 ⟨w.heap.size, 0, none⟩).run Try.prog w' = .ok (.int .i64 id) w' := fun w' hb => ld_int ((hb.cell (p := ⟨w.heap.size, 0, none⟩) HLT.out).trans x0)
    have LS : ∀ w', Below W.heap.size W w' → (loadVar 3 ⟨w.heap.size, 2, none⟩).run Try.prog w' = .ok (.int .i64 sq) w' := fun w' hb => ld_int ((hb.cell (p := ⟨w.heap.size, 2, none⟩) HLT.out).trans x2)
    by_cases hl : ow.length = 1
    · obtain ⟨g, off, rfl, hg, hcs⟩ := hcells.resolve_left (by omega)
      have hc := hcs 0 (by omega)
      simp only [Nat.zero_mul, Nat.add_zero] at hc
      have LR0 := fun (w' : World) (hb : Below w.heap.size w w') => rd_load hc hg hb
      have LK0 := fun (w' : World) (hb : Below w.heap.size w w') => key_loadR hc hg hb
      generalize ow.getD 0 r0 = r at *
      clear hcells hcs hc
      have LR : ∀ w', Below W.heap.size W w' → (loadVar 38 ⟨g, off, none⟩).run Try.prog w' = .ok (rv r) w' := fun w' hb => LR0 w' (HB.out.trans (hb.mono HB.out.size))
      have LK : ∀ w', Below W.heap.size W w' → (loadVar 36 ⟨g, off, none⟩).run Try.prog w' = .ok (kv r.1) w' := fun w' hb => LK0 w' (HB.out.trans (hb.mono HB.out.size))
      clear LR0 LK0
      have HR := Lib.hid (fun w' => ireadingok_any r w')
      have i1 : ((ow.length : Int) == 1) = true := by simp [hl]
      have i2 : (ow.length : Int) = 1 := by omega
      have j0 : (0 : Int) < (ow.length : Int) := by omega
      rw [decide_eq_true hl] at HF
      go_wp2
      clear x0 x1 x2 x3 x4 x5 x6
      cases hr : rdOkB r with
      | false =>
        have HRR := Lib.hid hr
        have HF2 := Lib.hid (show bb = false by rw [HF.out, hr]; rfl)
        clear hr
        refine wp_region_below W (by kernel_rfl) (by kernel_rfl) (Below.refl _ _) ?_
        repeat (first
          | go_big_quiet_skip
          | (go_big_quiet_want
             first
               | (refine q_load 24 _ ⟨w.heap.size, 4, none⟩ _ rfl rfl LO ?_; simp only [Act.put, List.setIfInBounds_toArray, List.set_cons_zero, List.set_cons_succ]; go_big_quiet_on)
               | (refine q_load 38 _ ⟨g, off, none⟩ _ rfl rfl LR ?_; simp only [Act.put, List.setIfInBounds_toArray, List.set_cons_zero, List.set_cons_succ]; go_big_quiet_on)
               | (refine q_load 3 _ ⟨w.heap.size, 0, none⟩ _ rfl rfl LI ?_; simp only [Act.put, List.setIfInBounds_toArray, List.set_cons_zero, List.set_cons_succ]; go_big_quiet_on)
               | (refine q_load 3 _ ⟨w.heap.size, 2, none⟩ _ rfl rfl LS ?_; simp only [Act.put, List.setIfInBounds_toArray, List.set_cons_zero, List.set_cons_succ]; go_big_quiet_on)
               | (refine q_load 36 _ ⟨g, off, none⟩ _ rfl rfl LK ?_; simp only [Act.put, List.setIfInBounds_toArray, List.set_cons_zero, List.set_cons_succ]; go_big_quiet_on)
               | (refine q_bin _ 36 _ _ _ (kv r.1) (kv (id, sq)) _ rfl rfl rfl (fun w => key_guard _ _ _ r.1 (id, sq) w) (fun w => key_eql r.1 (id, sq) w) ?_; simp only [Act.put, List.setIfInBounds_toArray, List.set_cons_zero, List.set_cons_succ]; go_big_quiet_on)
               | (refine q_bin _ 36 _ _ _ (kv r.1) (kv (id, sq)) _ rfl rfl rfl (fun w => key_guard _ _ _ r.1 (id, sq) w) (fun w => key_neq r.1 (id, sq) w) ?_; simp only [Act.put, List.setIfInBounds_toArray, List.set_cons_zero, List.set_cons_succ]; go_big_quiet_on)
               | (go_big_quiet_op; go_big_quiet_on)
               | (go_big_quiet_op; refine ⟨_, fun _ _ => rfl, ?_⟩; go_big_quiet_on)
               | (go_big_quiet_op; apply Exists.intro; refine ⟨fun w' hw' => ?_, ?_⟩
                  · first
                    | (with_reducible refine (HR.out w').mono ?_
                       rintro e w2 ⟨rfl, hb2⟩
                       exact ⟨by rw [HRR.out], hw'.trans (hb2.mono hw'.size)⟩)
                  go_big_quiet_on)
               | (go_big_quiet_op; refine ⟨_, fun _ _ _ => rfl, ?_⟩; go_big_quiet_on)))
        refine wpQuiet_nil ?_
        intro w5 hb5
        have HB5 := Lib.hid (HB.out.trans (hb5.mono HB.out.size))
        clear LO LI LS LR LK hb5
        go_wp2
        go_ret
        exact ⟨by rw [HF2.out]; rfl, HB5.out⟩
      | true =>
        have HRR := Lib.hid hr
        have HF2 := Lib.hid (show (r.1 == (id, sq)) = bb by rw [HF.out, hr, Bool.true_and, Bool.true_and, Bool.eq_iff_iff]; simp)
        clear hr
        refine wp_region_below W (by kernel_rfl) (by kernel_rfl) (Below.refl _ _) ?_
        repeat (first
          | go_big_quiet_skip
          | (go_big_quiet_want
             first
               | (refine q_load 24 _ ⟨w.heap.size, 4, none⟩ _ rfl rfl LO ?_; simp only [Act.put, List.setIfInBounds_toArray, List.set_cons_zero, List.set_cons_succ]; go_big_quiet_on)
               | (refine q_load 38 _ ⟨g, off, none⟩ _ rfl rfl LR ?_; simp only [Act.put, List.setIfInBounds_toArray, List.set_cons_zero, List.set_cons_succ]; go_big_quiet_on)
               | (refine q_load 3 _ ⟨w.heap.size, 0, none⟩ _ rfl rfl LI ?_; simp only [Act.put, List.setIfInBounds_toArray, List.set_cons_zero, List.set_cons_succ]; go_big_quiet_on)
               | (refine q_load 3 _ ⟨w.heap.size, 2, none⟩ _ rfl rfl LS ?_; simp only [Act.put, List.setIfInBounds_toArray, List.set_cons_zero, List.set_cons_succ]; go_big_quiet_on)
               | (refine q_load 36 _ ⟨g, off, none⟩ _ rfl rfl LK ?_; simp only [Act.put, List.setIfInBounds_toArray, List.set_cons_zero, List.set_cons_succ]; go_big_quiet_on)
               | (refine q_bin _ 36 _ _ _ (kv r.1) (kv (id, sq)) _ rfl rfl rfl (fun w => key_guard _ _ _ r.1 (id, sq) w) (fun w => key_eql r.1 (id, sq) w) ?_; simp only [Act.put, List.setIfInBounds_toArray, List.set_cons_zero, List.set_cons_succ]; go_big_quiet_on)
               | (refine q_bin _ 36 _ _ _ (kv r.1) (kv (id, sq)) _ rfl rfl rfl (fun w => key_guard _ _ _ r.1 (id, sq) w) (fun w => key_neq r.1 (id, sq) w) ?_; simp only [Act.put, List.setIfInBounds_toArray, List.set_cons_zero, List.set_cons_succ]; go_big_quiet_on)
               | (go_big_quiet_op; go_big_quiet_on)
               | (go_big_quiet_op; refine ⟨_, fun _ _ => rfl, ?_⟩; go_big_quiet_on)
               | (go_big_quiet_op; apply Exists.intro; refine ⟨fun w' hw' => ?_, ?_⟩
                  · first
                    | (with_reducible refine (HR.out w').mono ?_
                       rintro e w2 ⟨rfl, hb2⟩
                       exact ⟨by rw [HRR.out], hw'.trans (hb2.mono hw'.size)⟩)
                  go_big_quiet_on)
               | (go_big_quiet_op; refine ⟨_, fun _ _ _ => rfl, ?_⟩; go_big_quiet_on)))
        refine wpQuiet_nil ?_
        intro w5 hb5
        have HB5 := Lib.hid (HB.out.trans (hb5.mono HB.out.size))
        clear LO LI LS LR LK hb5
        go_wp2
        go_ret
        exact ⟨by rw [← HF2.out]; rfl, HB5.out⟩
    · have i1 : ((ow.length : Int) == 1) = false := by simp; omega
      have i2 : ¬ (ow.length : Int) = 1 := by omega
      rw [decide_eq_false hl] at HF
      have HF2 := Lib.hid (show bb = false by rw [HF.out]; rfl)
      go_wp2
      clear x0 x1 x2 x3 x4 x5 x6
      refine wp_region_below W (by kernel_rfl) (by kernel_rfl) (Below.refl _ _) ?_
      repeat (first
        | go_big_quiet_skip
        | (go_big_quiet_want
           first
             | (refine q_load 24 _ ⟨w.heap.size, 4, none⟩ _ rfl rfl LO ?_; simp only [Act.put, List.setIfInBounds_toArray, List.set_cons_zero, List.set_cons_succ]; go_big_quiet_on)
             | (refine q_load 3 _ ⟨w.heap.size, 0, none⟩ _ rfl rfl LI ?_; simp only [Act.put, List.setIfInBounds_toArray, List.set_cons_zero, List.set_cons_succ]; go_big_quiet_on)
             | (refine q_load 3 _ ⟨w.heap.size, 2, none⟩ _ rfl rfl LS ?_; simp only [Act.put, List.setIfInBounds_toArray, List.set_cons_zero, List.set_cons_succ]; go_big_quiet_on)
             | (go_big_quiet_op; go_big_quiet_on)
             | (go_big_quiet_op; refine ⟨_, fun _ _ => rfl, ?_⟩; go_big_quiet_on)
             | (go_big_quiet_op; go_big_quiet_on)))
      refine wpQuiet_nil ?_
      intro w5 hb5
      have HB5 := Lib.hid (HB.out.trans (hb5.mono HB.out.size))
      clear LO LI LS hb5
      go_wp2
      go_ret
      exact ⟨by rw [HF2.out]; rfl, HB5.out⟩
end Go.Proofs.Ytjggheoonjajpaa
namespace Go.Proofs.Ytjggheoonjajpaa
open Go.ChangeShapes Go.WideShapes Go.ChangeAt Go.RowKit Go.BigFrame
set_option linter.unusedVariables false
set_option linter.unusedSimpArgs false

set_option maxRecDepth 100000 in
set_option maxHeartbeats 2000000 in
theorem istationok_any (s : Stn) (vo vb vh : Value) (w : World) (h : SaL w s vo vb vh) (hbu : s.buf.length ≤ 1900000) (hx : ∀ x ∈ s.buf, x.1.length ≤ 1900000) (hhe : s.heard.length ≤ 1900000) :
    Calls Try.prog 16 #[saV s vo vb vh] w fun e w' => e = .returned (.bool (stOkB s)) ∧ Below w.heap.size w w' := by
  have HOW := Lib.hid (fun wx (hb : Below w.heap.size w wx) => iownok_any s vo vb vh wx (h.below hb))
  have HBU := Lib.hid (fun wx (hb : Below w.heap.size w wx) => ibufok_any vb s.buf wx (cdAv_below h.buf hb) (by omega) (fun z hz => by have := hx z hz; omega))
  have HHE := Lib.hid (fun wx (hb : Below w.heap.size w wx) => iheardok_any vh s.heard s.id wx (inAt_below h.heard hb) (by omega))
  have HS := Lib.hid (show stOkB s = ((idB s.id && (decide (1 ≤ s.most) && decide (s.most ≤ 6))) && (ownB s && (decide ((s.buf.length : Int) ≤ s.most) && (bufB s.buf && heardB s.heard s.id)))) from rfl)
  generalize ownB s = ob at *
  generalize stOkB s = bb at *
  obtain ⟨id, al, sq, mo, ow, bu, he⟩ := s
  obtain ⟨⟨ao, co, rfl, -, -⟩, ⟨ab, cb, rfl, -, -⟩, ⟨ah, ch, rfl, -, -⟩⟩ := h
  unfold saV at *
  dsimp only at *
  have hb := (Below.refl w.heap.size w).alloc (Nat.le_refl _) (.cells #[.int .i64 id, .bool al, .int .i64 sq, .int .i64 mo, .slice ao ow.length co, .slice ab bu.length cb, .slice ah he.length ch] 28)
  have HX0 := Lib.hid (heap_alloc_new w (.cells #[.int .i64 id, .bool al, .int .i64 sq, .int .i64 mo, .slice ao ow.length co, .slice ab bu.length cb, .slice ah he.length ch] 28))
  have HB0 := Lib.hid hb
  generalize bufB bu = fb at *
  generalize heardB he id = hh at *
  clear hb hx
  go_enter Try.func16, Try.ntmps16
  go_upto_region 1 with (fail)
  generalize w.alloc (.cells #[.int .i64 id, .bool al, .int .i64 sq, .int .i64 mo, .slice ao ow.length co, .slice ab bu.length cb, .slice ah he.length ch] 28) = W at *
  obtain ⟨⟨x0, x1, x2, x3, x4, x5, x6⟩, -⟩ := row7_of HX0.out
  go_wp2_with fail
  refine (iidok_any _ _).mono ?_
  rintro e w1 ⟨rfl, rfl⟩
  generalize idB id = ib at *
  cases ib with
  | false =>
    have HF := Lib.hid (show bb = false by rw [HS.out]; rfl)
    go_wp2
    go_ret
    exact ⟨by rw [HF.out]; rfl, HB0.out⟩
  | true =>
    by_cases m1 : mo < 1
    · have m1' : decide (1 ≤ mo) = false := decide_eq_false (by omega)
      have HF := Lib.hid (show bb = false by rw [HS.out, m1']; rfl)
      go_wp2
      go_ret
      exact ⟨by rw [HF.out]; rfl, HB0.out⟩
    by_cases m2 : 6 < mo
    · have m2' : decide (mo ≤ 6) = false := decide_eq_false (by omega)
      have m3' : decide (1 ≤ mo) = true := decide_eq_true (by omega)
      have HF := Lib.hid (show bb = false by rw [HS.out, m2', m3']; rfl)
      go_wp2
      go_ret
      exact ⟨by rw [HF.out]; rfl, HB0.out⟩
    have m3' : decide (1 ≤ mo) = true := decide_eq_true (by omega)
    have m2' : decide (mo ≤ 6) = true := decide_eq_true (by omega)
    have hs := HS.out
    rw [m2', m3'] at hs
    replace HS := Lib.hid hs
    clear hs m2' m3'
    go_wp2_with fail
    refine (HOW.out _ HB0.out).mono ?_
    rintro e w2 ⟨rfl, hb2⟩
    have HB2 := Lib.hid (HB0.out.trans (hb2.mono HB0.out.size))
    have HX2 := Lib.hid ((hb2.block _ (Array.getElem?_eq_some_iff.1 HX0.out).1).trans HX0.out)
    clear hb2 x0 x1 x2 x3 x4 x5 x6
    obtain ⟨⟨x0, x1, x2, x3, x4, x5, x6⟩, -⟩ := row7_of HX2.out
    cases ob with
    | false =>
      have HF := Lib.hid (show bb = false by rw [HS.out]; rfl)
      go_wp2
      go_ret
      exact ⟨by rw [HF.out]; rfl, HB2.out⟩
    | true =>
      by_cases l1 : (bu.length : Int) ≤ mo
      · have l1' : decide ((bu.length : Int) ≤ mo) = true := decide_eq_true l1
        go_wp2_with fail
        refine (HBU.out _ HB2.out).mono ?_
        rintro e w3 ⟨rfl, hb3⟩
        have HB3 := Lib.hid (HB2.out.trans (hb3.mono HB2.out.size))
        have HX3 := Lib.hid ((hb3.block _ (Array.getElem?_eq_some_iff.1 HX2.out).1).trans HX2.out)
        clear hb3 x0 x1 x2 x3 x4 x5 x6
        obtain ⟨⟨x0, x1, x2, x3, x4, x5, x6⟩, -⟩ := row7_of HX3.out
        cases fb with
        | false =>
          have HF := Lib.hid (show bb = false by rw [HS.out, l1']; rfl)
          go_wp2
          go_ret
          exact ⟨by rw [HF.out]; rfl, HB3.out⟩
        | true =>
          go_wp2_with fail
          refine (HHE.out _ HB3.out).mono ?_
          rintro e w4 ⟨rfl, rfl⟩
          have HF := Lib.hid (show bb = hh by rw [HS.out, l1']; simp)
          go_wp2
          go_ret
          exact ⟨by rw [HF.out]; rfl, HB3.out⟩
      · have l1' : decide ((bu.length : Int) ≤ mo) = false := decide_eq_false l1
        have HF := Lib.hid (show bb = false by rw [HS.out, l1']; rfl)
        go_wp2
        go_ret
        exact ⟨by rw [HF.out]; rfl, HB2.out⟩
end Go.Proofs.Ytjggheoonjajpaa
