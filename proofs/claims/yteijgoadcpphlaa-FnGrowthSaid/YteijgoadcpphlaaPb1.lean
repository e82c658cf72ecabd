/- What the laws lean on (own lemmas and walks of the called functions). -/
import Derived.StillTail
import Derived.OrdersIn
import Derived.RangeFuncCalls
import Derived.Deep.RegionHeld3
import Derived.KernelRfl
import Derived.Test.YteijgoadcpphlaaRows
import Derived.WalkKit
import Derived.ProofKit
import Derived.OpenShut
import Derived.ShutString
import Derived.Below
import Derived.Outline
import Derived.WalkSpells
import Derived.WalkLawsBesides
import Derived.Lib.Hide
import Derived.Deep.QuietTactic
import Derived.BigQuiet
import Derived.RangeFuncBox
import Derived.StillTactics
import Derived.Lib.SmallJoins
import Derived.Laws.OwnMore
import Derived.Lib.Bytealg
import Derived.Deep.AppendLies
import Derived.Laws.BytesArg
import Derived.Maps.AppendAt
import Derived.Deep.MidRow
import Derived.Laws.StructEq
import Derived.RangeFuncNested
import Derived.RangeFuncLeaves
import Derived.Shelf.Abstract
import Derived.OwnWalkIn
import Derived.TacticsInMore
import Derived.LoopNIn
import Derived.LoopIn
import Derived.Maps.OwnIn
import Derived.Deep.WholeRow
import Derived.OrdersHeld
import Derived.Deep.Quiet
import Derived.Deep.DeepAppendRoom
import Derived.ArgAppend
set_option linter.unusedVariables false
set_option linter.unusedSimpArgs false
namespace Go.Proofs.Yteijgoadcpphlaa
open Go
section
variable {P : Program} {ops : Array Oper} {md : Region.Mode} {w : World}

def maskRows : List Bool → List Oper → List Oper
  | true :: m, o :: l => o :: maskRows m l
  | false :: m, _ :: l => maskRows m l
  | _, _ => []

end
end Go.Proofs.Yteijgoadcpphlaa
namespace Go.Proofs.Yteijgoadcpphlaa
open Go.ChangeShapes Go.WideShapes Go.ChangeAt Go.RowKit
set_option linter.unusedVariables false

/-- The code's bytes, in old memory. -/
def CodeAt (n₀ : Nat) (w : World) (a : Option Addr) (len : Nat) (zs : List Int) : Prop :=
  len ≤ 1048576 ∧ (∀ k : Nat, 0 ≤ zs[k]?.getD 0 ∧ zs[k]?.getD 0 ≤ 255) ∧ (len = 0 ∨ ∃ b off, a = some ⟨b, off, none⟩ ∧ b < n₀ ∧ ∀ k, k < len → w.cell? ⟨b, off + k, none⟩ = some (.int .u8 (zs[k]?.getD 0)))
theorem CodeAt.below {n₀ : Nat} {w w' : World} {a : Option Addr} {len : Nat} {zs : List Int} (h : CodeAt n₀ w a len zs) (hb : Below n₀ w w') : CodeAt n₀ w' a len zs := by
  obtain ⟨h1, h2, h3⟩ := h
  refine ⟨h1, h2, ?_⟩
  rcases h3 with h3 | ⟨b, off, h4, h5, h6⟩
  · exact .inl h3
  · exact .inr ⟨b, off, h4, h5, fun k hk => (hb.cell (p := ⟨b, off + k, none⟩) h5).trans (h6 k hk)⟩

structure DrawSt (n₀ : Nat) (w : World) (g : Nat) (a : Option Addr) (len cap : Nat) (zs : List Int) (i : Nat) (h : Int) : Prop where
  code : CodeAt n₀ w a len zs
  cur : w.heap[g]? = some (.cells #[.slice a len cap, .int .i64 i, .int .i64 h] 57 (0, 0))
  hg : n₀ ≤ g
  hi : i ≤ len

def lcg (h : Int) : Int := wrap64 (wrap64 (h * 6364136223846793005) + 1442695040888963407)

theorem i64_and255 (n : Int) : bits .and .i64 n 255 = n % 256 := by
  have h255 : (BitVec.ofInt 64 255).toNat = 2 ^ 8 - 1 := by decide
  have key : (BitVec.ofInt 64 n &&& BitVec.ofInt 64 255).toNat = (n % ((2 ^ 64 : Nat) : Int)).toNat % 2 ^ 8 := by
    rw [BitVec.toNat_and, BitVec.toNat_ofInt, h255, Nat.and_two_pow_sub_one_eq_mod]
  show IntKind.i64.wrap ((BitVec.ofInt 64 n &&& BitVec.ofInt 64 255).toNat : Nat) = n % 256
  rw [key, IntKind.wrap_i64]
  omega
theorem i64_and30 (n : Int) : bits .and .i64 n 1073741823 = n % 1073741824 := by
  have h255 : (BitVec.ofInt 64 1073741823).toNat = 2 ^ 30 - 1 := by decide
  have key : (BitVec.ofInt 64 n &&& BitVec.ofInt 64 1073741823).toNat = (n % ((2 ^ 64 : Nat) : Int)).toNat % 2 ^ 30 := by
    rw [BitVec.toNat_and, BitVec.toNat_ofInt, h255, Nat.and_two_pow_sub_one_eq_mod]
  show IntKind.i64.wrap ((BitVec.ofInt 64 n &&& BitVec.ofInt 64 1073741823).toNat : Nat) = n % 1073741824
  rw [key, IntKind.wrap_i64]
  omega

/-- what a state gives -/
def outb (H : Int) : Int := bits BinOp.xor IntKind.i64 (H / 8589934592) (H / 35184372088832) % 256
theorem outb_bd (H : Int) : 0 ≤ outb H ∧ outb H ≤ 255 := by unfold outb; omega
structure Cu where
  i : Nat
  h : Int
/-- a byte, and the state behind -/
def byteF (zs : List Int) (len : Nat) (c : Cu) : Int × Cu :=
  if c.i < len then ((outb (lcg c.h) + zs[c.i]?.getD 0) % 256, ⟨c.i + 1, lcg c.h⟩) else (outb (lcg c.h), ⟨c.i, lcg c.h⟩)
theorem byteF_bd (zs : List Int) (len : Nat) (c : Cu) : 0 ≤ (byteF zs len c).1 ∧ (byteF zs len c).1 ≤ 255 := by
  have := outb_bd (lcg c.h)
  unfold byteF; split <;> simp <;> omega
/-- what a draw leaves: the cursor's block alone has turned -/
structure Drew (n₀ g : Nat) (a : Option Addr) (len cap : Nat) (zs : List Int) (c' : Cu) (w w' : World) : Prop where
  st : DrawSt n₀ w' g a len cap zs c'.i c'.h
  below : Below n₀ w w'
  grown : w.grownBy w' (some g)
theorem grownT {A B C : World} {row : Option Nat} (h : A.grownBy B row) (k : B.grownBy C row) : A.grownBy C row :=
  ⟨k.os.trans h.os, k.tape.trans h.tape, k.output.trans h.output, Nat.le_trans h.size k.size, fun j hj hr => (k.block j (Nat.lt_of_lt_of_le hj h.size) hr).trans (h.block j hj hr)⟩
theorem Drew.trans {n₀ g : Nat} {a : Option Addr} {len cap : Nat} {zs : List Int} {c c' : Cu} {w w1 w2 : World} (h : Drew n₀ g a len cap zs c w w1) (k : Drew n₀ g a len cap zs c' w1 w2) : Drew n₀ g a len cap zs c' w w2 :=
  ⟨k.st, h.below.trans k.below, grownT h.grown k.grown⟩

theorem drew_of {n₀ g len cap i' : Nat} {a : Option Addr} {zs : List Int} {h' : Int} {w w' : World} (hcode : CodeAt n₀ w a len zs) (hg0 : n₀ ≤ g) (hgl : g < w.heap.size) (hi : i' ≤ len)
    (hcur : w'.heap[g]? = some (.cells #[.slice a len cap, .int .i64 i', .int .i64 h'] 57 (0, 0))) (hgr : w.grownBy w' (some g)) : Drew n₀ g a len cap zs ⟨i', h'⟩ w w' := by
  have hb : Below n₀ w w' := (Below.refl n₀ w).grown hgr (by omega) (fun k e => by cases e; exact hg0)
  exact ⟨⟨hcode.below hb, hcur, hg0, hi⟩, hb, hgr⟩

set_option maxHeartbeats 800000 in
theorem byte_any (n₀ g len cap : Nat) (a : Option Addr) (zs : List Int) (c : Cu) (w : World) (hs : DrawSt n₀ w g a len cap zs c.i c.h) :
    Calls Try.prog 36 #[.pointer (some ⟨g, 0, none⟩)] w fun e w' => e = .returned (.int .i64 (byteF zs len c).1) ∧ Drew n₀ g a len cap zs (byteF zs len c).2 w w' := by
  obtain ⟨i, h⟩ := c
  dsimp only at hs
  have hc := hs.cur
  have c0 : w.cell? ⟨g, 0, none⟩ = some (.slice a len cap) := by simp [World.cell?, hc]
  have c1 : w.cell? ⟨g, 1, none⟩ = some (.int .i64 i) := by simp [World.cell?, hc]
  have c2 : w.cell? ⟨g, 2, none⟩ = some (.int .i64 h) := by simp [World.cell?, hc]
  have f1 : w.frozen? ⟨g, 1, none⟩ = false := by simp [World.frozen?, hc]
  have f2 : w.frozen? ⟨g, 2, none⟩ = false := by simp [World.frozen?, hc]
  have hlen := hs.code.1
  have hil := hs.hi
  have hcode := Lib.hid hs.code
  have hg0 := hs.hg
  clear hs
  go_enter Try.func36, Try.ntmps36
  go_wp2
  have hc1 := Joins.block_setCell (i := 2) hc (.int .i64 (lcg h))
  have hg1 : w.grownBy (w.setCell ⟨g, 2, none⟩ (.int .i64 (lcg h))) (some g) := ⟨rfl, rfl, rfl, by simp, fun k _ hk => Below.heap_setCell _ _ _ k (fun e => hk (by rw [e]))⟩
  have hH : lcg h = wrap64 (wrap64 (h * 6364136223846793005) + 1442695040888963407) := rfl
  rw [← hH]
  have HC := Lib.hid hc; clear hc hH c0 c1 c2 f1 f2
  generalize hw1 : w.setCell ⟨g, 2, none⟩ (.int .i64 (lcg h)) = w1 at *
  clear hw1
  generalize hl : lcg h = H at *
  have HL := Lib.hid hl; clear hl
  have c0 : w1.cell? ⟨g, 0, none⟩ = some (.slice a len cap) := by simp [World.cell?, hc1]
  have c1 : w1.cell? ⟨g, 1, none⟩ = some (.int .i64 i) := by simp [World.cell?, hc1]
  have c2 : w1.cell? ⟨g, 2, none⟩ = some (.int .i64 H) := by simp [World.cell?, hc1]
  have f1 : w1.frozen? ⟨g, 1, none⟩ = false := by simp [World.frozen?, hc1]
  have hob : bits BinOp.and IntKind.i64 (bits BinOp.xor IntKind.i64 (H / 8589934592) (H / 35184372088832)) 255 = outb H := i64_and255 _
  have hbd := outb_bd H
  go_quiet (fail)
  go_wp2
  generalize hx : outb H = x at *
  have HX := Lib.hid hx; clear hx hob
  by_cases hlt : i < len
  · have z1 : (i : Int) < (len : Int) := by omega
    have z0 : (0 : Int) ≤ (i : Int) := by omega
    obtain ⟨b, off, rfl, hb0, hcells⟩ : ∃ b off, a = some ⟨b, off, none⟩ ∧ b < n₀ ∧ ∀ k, k < len → w.cell? ⟨b, off + k, none⟩ = some (.int .u8 (zs[k]?.getD 0)) := by
      rcases hcode.out.2.2 with h | h
      · omega
      · exact h
    have hz := hcode.out.2.1 i
    have cz : w1.cell? ⟨b, off + i, none⟩ = some (.int .u8 (zs[i]?.getD 0)) := (World.cell?_of_block (a := ⟨b, off + i, none⟩) (hg1.block b (World.block_lt_of_cell? w _ (hcells i hlt)) (by simp; omega))).trans (hcells i hlt)
    have HCELLS := Lib.hid hcells; clear hcells
    generalize hy : zs[i]?.getD 0 = y at *
    have HY := Lib.hid hy; clear hy
    have ew : wrap64 (x + y) = x + y := IntWalk.wrap64_in _ (by omega)
    have eb : bits BinOp.and IntKind.i64 (x + y) 255 = (x + y) % 256 := i64_and255 _
    go_quiet (fail)
    go_wp2
    go_quiet (fail)
    go_wp2
    go_ret
    have hbf : byteF zs len ⟨i, h⟩ = ((x + y) % 256, ⟨i + 1, H⟩) := by unfold byteF; rw [if_pos hlt, HL.out, HX.out, HY.out]
    rw [hbf]
    have hgl := (Array.getElem?_eq_some_iff.1 HC.out).1
    have hfin := Joins.block_setCell (i := 1) hc1 (.int .i64 ((i : Int) + 1))
    exact ⟨rfl, drew_of hcode.out hg0 hgl (by show i + 1 ≤ len; omega) hfin (grownT hg1 ⟨rfl, rfl, rfl, by simp, fun k _ hk => Below.heap_setCell _ _ _ k (fun e => hk (by rw [e]))⟩)⟩
  · go_quiet (fail)
    go_wp2
    go_ret
    have hbf : byteF zs len ⟨i, h⟩ = (x, ⟨i, H⟩) := by unfold byteF; rw [if_neg hlt, HL.out, HX.out]
    rw [hbf]
    have hgl := (Array.getElem?_eq_some_iff.1 HC.out).1
    exact ⟨rfl, drew_of hcode.out hg0 hgl hil hc1 (grownT hg1 ⟨rfl, rfl, rfl, Nat.le_refl _, fun _ _ _ => rfl⟩)⟩

/-! ### numbers below a bound -/
def belowF (zs : List Int) (len : Nat) (c : Cu) (n : Int) : Int × Cu :=
  if n ≤ 0 then (0, c) else if n ≤ 256 then ((byteF zs len c).1 % n, (byteF zs len c).2) else
    let b1 := byteF zs len c; let b2 := byteF zs len b1.2; let b3 := byteF zs len b2.2; let b4 := byteF zs len b3.2
    ((b1.1 * 16777216 + b2.1 * 65536 + b3.1 * 256 + b4.1) % n, b4.2)
theorem belowF_bd (zs : List Int) (len : Nat) (c : Cu) (n : Int) : 0 ≤ (belowF zs len c n).1 ∧ (0 < n → (belowF zs len c n).1 < n) := by
  unfold belowF
  split
  · exact ⟨Int.le_refl _, fun h => by omega⟩
  · split
    · exact ⟨Int.emod_nonneg _ (by omega), fun _ => Int.emod_lt_of_pos _ (by omega)⟩
    · exact ⟨Int.emod_nonneg _ (by omega), fun _ => Int.emod_lt_of_pos _ (by omega)⟩

set_option maxHeartbeats 400000 in
theorem below_any (n₀ g len cap : Nat) (a : Option Addr) (zs : List Int) (c : Cu) (n : Int) (w : World) (hs : DrawSt n₀ w g a len cap zs c.i c.h) (hn : -9223372036854775808 ≤ n ∧ n ≤ 9223372036854775807) :
    Calls Try.prog 29 #[.pointer (some ⟨g, 0, none⟩), .int .i64 n] w fun e w' => e = .returned (.int .i64 (belowF zs len c n).1) ∧ Drew n₀ g a len cap zs (belowF zs len c n).2 w w' := by
  by_cases h0 : n ≤ 0
  · have hf : belowF zs len c n = (0, c) := by unfold belowF; rw [if_pos h0]
    rw [hf]
    have HS := Lib.hid hs; clear hs hf
    go_enter Try.func29, Try.ntmps29
    go_wp2
    go_ret
    exact ⟨rfl, ⟨HS.out, Below.refl _ _, ⟨rfl, rfl, rfl, Nat.le_refl _, fun _ _ _ => rfl⟩⟩⟩
  · by_cases h1 : n ≤ 256
    · have hf : belowF zs len c n = ((byteF zs len c).1 % n, (byteF zs len c).2) := by unfold belowF; rw [if_neg h0, if_pos h1]
      rw [hf]
      have hbd := byteF_bd zs len c
      have H1 := Lib.hid (byte_any n₀ g len cap a zs c w hs); clear hs hf
      generalize hb : byteF zs len c = b at *
      have HB := Lib.hid hb; clear hb
      go_enter Try.func29, Try.ntmps29
      go_wp2_with fail
      refine H1.out.mono ?_
      clear H1
      rintro e w1 ⟨rfl, hd⟩
      go_wp2
      go_ret
      exact ⟨rfl, hd⟩
    · have hf : belowF zs len c n = (((byteF zs len c).1 * 16777216 + (byteF zs len (byteF zs len c).2).1 * 65536 + (byteF zs len (byteF zs len (byteF zs len c).2).2).1 * 256 + (byteF zs len (byteF zs len (byteF zs len (byteF zs len c).2).2).2).1) % n, (byteF zs len (byteF zs len (byteF zs len (byteF zs len c).2).2).2).2) := by
        unfold belowF; rw [if_neg h0, if_neg h1]
      rw [hf]
      clear hf
      have hbd1 := byteF_bd zs len c
      have H1 := Lib.hid (byte_any n₀ g len cap a zs c w hs)
      generalize byteF zs len c = b1 at *
      have hbd2 := byteF_bd zs len b1.2
      have H2 := Lib.hid (fun w => byte_any n₀ g len cap a zs b1.2 w)
      generalize byteF zs len b1.2 = b2 at *
      have hbd3 := byteF_bd zs len b2.2
      have H3 := Lib.hid (fun w => byte_any n₀ g len cap a zs b2.2 w)
      generalize byteF zs len b2.2 = b3 at *
      have hbd4 := byteF_bd zs len b3.2
      have H4 := Lib.hid (fun w => byte_any n₀ g len cap a zs b3.2 w)
      generalize byteF zs len b3.2 = b4 at *
      obtain ⟨x1, c1⟩ := b1; obtain ⟨x2, c2⟩ := b2; obtain ⟨x3, c3⟩ := b3; obtain ⟨x4, c4⟩ := b4
      dsimp only at *
      clear hs
      go_enter Try.func29, Try.ntmps29
      go_wp2_with fail
      refine H1.out.mono ?_
      clear H1
      rintro e w1 ⟨rfl, hd1⟩
      go_wp2_with fail
      refine (H2.out w1 hd1.st).mono ?_
      clear H2
      rintro e w2 ⟨rfl, hd2⟩
      go_wp2_with fail
      refine (H3.out w2 hd2.st).mono ?_
      clear H3
      rintro e w3 ⟨rfl, hd3⟩
      go_wp2_with fail
      refine (H4.out w3 hd3.st).mono ?_
      clear H4
      rintro e w4 ⟨rfl, hd4⟩
      have hd := ((hd1.trans hd2).trans hd3).trans hd4
      clear hd1 hd2 hd3 hd4
      go_wp2
      go_ret
      exact ⟨rfl, hd⟩

end Go.Proofs.Yteijgoadcpphlaa
namespace Go.Proofs.Yteijgoadcpphlaa
open Go.ChangeShapes Go.WideShapes Go.ChangeAt Go.RowKit
set_option linter.unusedVariables false

def hashN (zs : List Int) : Nat → Int → Int
  | 0, h => h
  | k + 1, h => (hashN zs k h * 131 + zs[k]?.getD 0 + 7) % 1073741824
def newC (zs : List Int) (len : Nat) : Cu := ⟨0, hashN zs (min len 4000) (746746 + len)⟩
theorem hashN_bd (zs : List Int) (len : Nat) (hl : len ≤ 1048576) : ∀ k, 0 ≤ hashN zs k (746746 + len) ∧ hashN zs k (746746 + len) < 1073741824
  | 0 => by simp [hashN]; omega
  | k + 1 => by simp [hashN]; omega

set_option maxHeartbeats 800000 in
theorem new_end {n₀ len cap : Nat} {a : Option Addr} {zs : List Int} {w wr : World} {H : Int} (hc : CodeAt n₀ w a len zs) (hw : n₀ ≤ w.heap.size) (hgr : w.grownBy wr none) (hi : 0 ≤ len) :
    DrawSt n₀ (wr.alloc (.cells #[.slice a len cap, .int .i64 0, .int .i64 H] 57)) wr.heap.size a len cap zs 0 H ∧ Below n₀ w (wr.alloc (.cells #[.slice a len cap, .int .i64 0, .int .i64 H] 57)) ∧
      w.grownBy (wr.alloc (.cells #[.slice a len cap, .int .i64 0, .int .i64 H] 57)) none := by
  have hg2 := grownT hgr (World.grownBy_alloc wr (.cells #[.slice a len cap, .int .i64 0, .int .i64 H] 57) none)
  have hb : Below n₀ w (wr.alloc (.cells #[.slice a len cap, .int .i64 0, .int .i64 H] 57)) := (Below.refl _ _).grown hg2 hw (by simp)
  exact ⟨⟨hc.below hb, heap_alloc_new wr _, Nat.le_trans hw hgr.size, Nat.zero_le _⟩, hb, hg2⟩

set_option maxRecDepth 20000 in
theorem new_any (n₀ len cap : Nat) (a : Option Addr) (zs : List Int) (w : World) (hc : CodeAt n₀ w a len zs) (hw : n₀ ≤ w.heap.size) :
    Calls Try.prog 23 #[.slice a len cap] w fun e w' => ∃ g, e = .returned (.pointer (some ⟨g, 0, none⟩)) ∧ w.heap.size ≤ g ∧ DrawSt n₀ w' g a len cap zs (newC zs len).i (newC zs len).h ∧ Below n₀ w w' ∧ w.grownBy w' none := by
  have hlen := hc.1
  have hz := hc.2.1
  have hp := hc.2.2
  have hh := hashN_bd zs len hlen
  have HC := Lib.hid hc; clear hc
  go_enter Try.func23, Try.ntmps23
  go_wp2
  go_loopw [3, 4] (fun h i wr => ∃ j : Nat, j ≤ len ∧ j ≤ 4000 ∧ i = .int .i64 j ∧ h = .int .i64 (hashN zs j (746746 + len)) ∧ w.grownBy wr none)
    (fun _ i _ => len - (intOf i).toNat)
  case atStart => exact ⟨0, Nat.zero_le _, Nat.zero_le _, rfl, rfl, World.grownBy.refl _ _⟩
  case round =>
    obtain ⟨j, hj, hj4, rfl, rfl, hgr⟩ := hrel
    have hhj := hh j
    have hb : Below n₀ w wr := (Below.refl _ _).grown hgr hw (by simp)
    have hfin : (¬ (j < len ∧ j < 4000)) → newC zs len = ⟨0, hashN zs j (746746 + len)⟩ := by
      intro hn; unfold newC; congr; omega
    generalize hH : hashN zs j (746746 + len) = H at *
    have HF := Lib.hid hfin; clear hfin
    have hsz := hgr.size
    by_cases hlt : j < len
    · have z1 : (j : Int) < (len : Int) := by omega
      have z0 : (0 : Int) ≤ (j : Int) := by omega
      obtain ⟨b, off, rfl, hb0, hcells⟩ := hp.resolve_left (by omega)
      have cz : wr.cell? ⟨b, off + j, none⟩ = some (.int .u8 (zs[j]?.getD 0)) := (hb.cell (p := ⟨b, off + j, none⟩) hb0).trans (hcells j hlt)
      have hzj := hz j
      have hHs : hashN zs (j + 1) (746746 + len) = (H * 131 + zs[j]?.getD 0 + 7) % 1073741824 := by show (hashN zs j _ * 131 + _ + 7) % 1073741824 = _; rw [hH]
      have HHS := Lib.hid hHs; clear hHs hh hH
      generalize zs[j]?.getD 0 = y at *
      have HCELLS := Lib.hid hcells; clear hcells hp
      have HZ := Lib.hid hz; clear hz
      by_cases hlt4 : j < 4000
      · have e1 : wrap64 (H * 131) = H * 131 := IntWalk.wrap64_in _ (by omega)
        have e2 : wrap64 (H * 131 + y) = H * 131 + y := IntWalk.wrap64_in _ (by omega)
        have e3 : wrap64 (H * 131 + y + 7) = H * 131 + y + 7 := IntWalk.wrap64_in _ (by omega)
        have e5 : IntKind.i64.wrap (H * 131 + y) = H * 131 + y := IntWalk.i64_in _ (by omega)
        have e6 : IntKind.i64.wrap (H * 131 + y + 7) = H * 131 + y + 7 := IntWalk.i64_in _ (by omega)
        have e7 : IntKind.i64.wrap (H * 131) = H * 131 := IntWalk.i64_in _ (by omega)
        have e4 : bits BinOp.and IntKind.i64 (H * 131 + y + 7) 1073741823 = (H * 131 + y + 7) % 1073741824 := i64_and30 _
        go_wp2
        go_roundw
        case rel => exact ⟨j + 1, by omega, by omega, by go_num, by rw [HHS.out], hgr⟩
        case measure => simp [intOf]; omega
      · clear HHS HCELLS HZ
        go_wp2
        go_ret
        refine ⟨_, rfl, hsz, ?_⟩
        rw [HF.out (by omega)]
        exact new_end HC.out hw hgr (by omega)
    · clear hz hp hh
      have z1 : ¬ (j : Int) < (len : Int) := by omega
      go_wp2
      go_ret
      refine ⟨_, rfl, hsz, ?_⟩
      rw [HF.out (by omega)]
      exact new_end HC.out hw hgr (by omega)

theorem pickint_any (n₀ g len cap lb n : Nat) (a : Option Addr) (zs : List Int) (c : Cu) (xs : List Int) (w : World) (hs : DrawSt n₀ w g a len cap zs c.i c.h) (hn : 0 < n) (hn2 : n ≤ 256) (hx : xs.length = n) (hlg : lb ≠ g)
    (hcells : ∀ k, k < n → w.cell? ⟨lb, k, none⟩ = some (.int .i64 (xs[k]?.getD 0))) :
    Calls Try.prog 25 #[.pointer (some ⟨g, 0, none⟩), .slice (some ⟨lb, 0, none⟩) n n] w fun e w' => e = .returned (.int .i64 (xs[(belowF zs len c n).1.toNat]?.getD 0)) ∧ Drew n₀ g a len cap zs (belowF zs len c n).2 w w' := by
  have H1 := Lib.hid (below_any n₀ g len cap a zs c n w hs (by omega)); clear hs
  have hbd := belowF_bd zs len c n
  generalize belowF zs len c n = b at *
  obtain ⟨x, c'⟩ := b
  dsimp only at *
  have hx0 : 0 ≤ x := hbd.1
  have hx1 : x < (n : Int) := hbd.2 (by omega)
  obtain ⟨m, rfl⟩ : ∃ m : Nat, x = m := ⟨x.toNat, by omega⟩
  have hm : m < n := by omega
  have hc := hcells m hm
  have e1 : (m : Int).toNat = m := by omega
  rw [e1]
  generalize xs[m]?.getD 0 = y at *
  clear hcells hbd
  go_enter Try.func25, Try.ntmps25
  go_wp2_with fail
  refine H1.out.mono ?_
  clear H1
  rintro e w1 ⟨rfl, hd⟩
  have hc1 : w1.cell? ⟨lb, m, none⟩ = some (.int .i64 y) := hd.grown.cell hc (by simpa using hlg)
  go_wp2
  go_ret
  exact ⟨rfl, hd⟩
theorem Drew.alloc {n₀ g : Nat} {a : Option Addr} {len cap : Nat} {zs : List Int} {c : Cu} {w w1 : World} (h : Drew n₀ g a len cap zs c w w1) (o : Obj) : Drew n₀ g a len cap zs c w (w1.alloc o) := by
  have hgl := (Array.getElem?_eq_some_iff.1 h.st.cur).1
  have hg0 := h.st.hg
  refine ⟨⟨h.st.code.below ((Below.refl _ _).alloc (by omega) o), ?_, hg0, h.st.hi⟩, h.below.trans ((Below.refl _ _).alloc (by omega) o), grownT h.grown (World.grownBy_alloc _ _ _)⟩
  exact ((World.grownBy_alloc w1 o none).block g hgl (by simp)).trans h.st.cur
theorem DrawSt.lt {n₀ g : Nat} {a : Option Addr} {len cap : Nat} {zs : List Int} {i : Nat} {h : Int} {w : World} (hs : DrawSt n₀ w g a len cap zs i h) : g < w.heap.size := (Array.getElem?_eq_some_iff.1 hs.cur).1
theorem lit_cell (w : World) (cs : Array Value) (e : TypeId) (k : Nat) : (w.alloc (.cells cs e)).cell? ⟨w.heap.size, k, none⟩ = cs[k]? := cell_of_row _ _ _ _ _ _ (heap_alloc_new w _)

theorem Drew.grow {n₀ g : Nat} {a : Option Addr} {len cap : Nat} {zs : List Int} {c : Cu} {w w1 w2 : World} {row : Option Nat} (h : Drew n₀ g a len cap zs c w w1) (hgl : g < w.heap.size) (k : w1.grownBy w2 row) (hr : ∀ b, row = some b → w.heap.size ≤ b) : Drew n₀ g a len cap zs c w w2 := by
  have hg0 := h.st.hg
  have hsz := h.grown.size
  have hb : Below n₀ w1 w2 := (Below.refl n₀ w1).grown k (by omega) (fun b e => by have := hr b e; omega)
  refine ⟨⟨h.st.code.below hb, ?_, hg0, h.st.hi⟩, h.below.trans hb, ⟨k.os.trans h.grown.os, k.tape.trans h.grown.tape, k.output.trans h.grown.output, Nat.le_trans hsz k.size, fun j hj hn => ?_⟩⟩
  · refine (k.block g (by omega) (fun e => ?_)).trans h.st.cur
    have := hr g e.symm; omega
  · refine (k.block j (by omega) (fun e => ?_)).trans (h.grown.block j hj hn)
    have := hr j e.symm; omega

/-- what a walk is told of bytes that came in -/
def IsRow (k : IntKind) (w : World) (a : Option Addr) (len cap : Nat) (zs : List Int) : Prop :=
  (a = none ∧ len = 0 ∧ cap = 0 ∧ zs = []) ∨
  ∃ x, a = some x ∧ len ≤ cap ∧ cap ≤ maxLen ∧ zs.length = cap ∧ (∀ i, i < zs.length → w.cell? (x.add i) = some (.int k (zs.getD i 0))) ∧ ∀ n ∈ zs, (Lit.int k n).wf = true
theorem codeAt_of {w : World} {a : Option Addr} {len cap : Nat} {zs : List Int} (h : IsRow .u8 w a len cap zs) (hl : len ≤ 1048576) : CodeAt w.heap.size w a len zs := by
  rcases h with ⟨rfl, rfl, rfl, rfl⟩ | ⟨x, rfl, h1, h2, h3, h4, h5⟩
  · exact ⟨hl, by simp, .inl rfl⟩
  · refine ⟨hl, fun k => range_u8 h5 k, ?_⟩
    · rcases Nat.eq_zero_or_pos len with h0 | h0
      · exact .inl h0
      · obtain ⟨b, off, spot⟩ := x
        have hc := h4 0 (by omega)
        have hs : spot = none := by simpa [Addr.add] using World.cell?_spot hc
        subst hs
        refine .inr ⟨b, off, rfl, World.block_lt_of_cell? w ⟨b, off, none⟩ (by simpa [Addr.add] using hc), fun k hk => ?_⟩
        have := h4 k (by omega)
        rw [List.getD_eq_getElem?_getD] at this
        rw [← this]
        unfold Addr.add
        split
        · rename_i e; subst e; rfl
        · rfl
theorem big_any (a : Option Addr) (len cap : Nat) (w : World) (hl : len ≤ 1048576) : Calls Try.prog 8 #[.slice a len cap] w fun e w' => e = .returned (.bool false) ∧ w' = w := by
  have z1 : ¬ (1048576 : Int) < (len : Int) := by omega
  go_enter Try.func8, Try.ntmps8
  go_wp2
  go_ret
  exact ⟨rfl, rfl⟩
theorem big_true (a : Option Addr) (len cap : Nat) (w : World) (hl : ¬ len ≤ 1048576) : Calls Try.prog 8 #[.slice a len cap] w fun e w' => e = .returned (.bool true) ∧ w' = w := by
  have z1 : (1048576 : Int) < (len : Int) := by omega
  go_enter Try.func8, Try.ntmps8
  go_wp2
  go_ret
  exact ⟨rfl, rfl⟩

end Go.Proofs.Yteijgoadcpphlaa
namespace Go.Proofs.Yteijgoadcpphlaa
open Go.ChangeShapes Go.WideShapes Go.ChangeAt Go.RowKit
set_option linter.unusedVariables false

theorem grown_of_below' {A B : World} (h : Below A.heap.size A B) (row : Option Nat) : A.grownBy B row := ⟨h.os, h.tape, h.output, h.size, fun k hk _ => h.block k hk⟩
end Go.Proofs.Yteijgoadcpphlaa
namespace Go.Proofs.Yteijgoadcpphlaa
open Go.ChangeShapes Go.WideShapes Go.ChangeAt Go.RowKit
set_option linter.unusedVariables false

abbrev K2 := Int × Int
def kv (k : K2) : Value := .agg #[.int .i64 k.1, .int .i64 k.2]
/-- the slice value v leads to the keys ks -/
def keysAt (w : World) (v : Value) (ks : List K2) : Prop :=
  ∃ a cap, v = .slice a ks.length cap ∧ ks.length ≤ cap ∧ (ks.length = 0 ∨ ∃ g off, a = some ⟨g, off, none⟩ ∧ g < w.heap.size ∧
    ∀ i, i < ks.length → w.cell? ⟨g, off + i * 2, none⟩ = some (.int .i64 (ks.getD i (0, 0)).1) ∧ w.cell? ⟨g, off + i * 2 + 1, none⟩ = some (.int .i64 (ks.getD i (0, 0)).2))
theorem keysAt_below {w w' : World} {v : Value} {ks : List K2} (h : keysAt w v ks) (hb : Below w.heap.size w w') : keysAt w' v ks := by
  obtain ⟨a, cap, h1, h2, h3⟩ := h
  refine ⟨a, cap, h1, h2, h3.imp_right ?_⟩
  rintro ⟨g, off, h4, h5, h6⟩
  refine ⟨g, off, h4, Nat.lt_of_lt_of_le h5 hb.size, fun i hi => ?_⟩
  rw [hb.cell (p := ⟨g, off + i * 2, none⟩) h5, hb.cell (p := ⟨g, off + i * 2 + 1, none⟩) h5]
  exact h6 i hi
end Go.Proofs.Yteijgoadcpphlaa
namespace Go.Proofs.Yteijgoadcpphlaa

def folB (a s : K2) : Bool := decide (a.1 < s.1) && decide (s.1 ≤ 1000000) && (decide (a.2 < s.2) && decide (s.2 ≤ 6))
def chainB : K2 → List K2 → Bool
  | _, [] => true
  | a, s :: r => folB a s && chainB s r
def plnB : List K2 → Bool
  | [] => false
  | x :: r => x == (0, 1) && chainB x r
theorem fol_iff (a s : K2) : folB a s = true ↔ a.1 < s.1 ∧ s.1 ≤ 1000000 ∧ a.2 < s.2 ∧ s.2 ≤ 6 := by
  simp only [folB, Bool.and_eq_true, decide_eq_true_eq]
  constructor
  · rintro ⟨⟨h1, h2⟩, h3, h4⟩; exact ⟨h1, h2, h3, h4⟩
  · rintro ⟨h1, h2, h3, h4⟩; exact ⟨⟨h1, h2⟩, h3, h4⟩
theorem chain_cons (a s : K2) (r : List K2) : chainB a (s :: r) = (folB a s && chainB s r) := rfl
/-- the last of a list behind a -/
def lastK (a : K2) (l : List K2) : K2 := l.getLastD a
theorem lastK_snoc (a : K2) (l : List K2) (s : K2) : lastK a (l ++ [s]) = s := by simp [lastK]
theorem chain_snoc : ∀ (l : List K2) (a s : K2), chainB a (l ++ [s]) = (chainB a l && folB (lastK a l) s)
  | [], a, s => by simp [chainB, lastK]
  | x :: l, a, s => by
    have h1 : lastK a (x :: l) = lastK x l := by cases l <;> simp [lastK, List.getLastD]
    rw [List.cons_append, chain_cons, chain_snoc l x s, chain_cons, h1, Bool.and_assoc]
theorem chain_pre {a : K2} {l r : List K2} (hp : l <+: r) (h : chainB a l = false) : chainB a r = false := by
  obtain ⟨t, rfl⟩ := hp
  induction l generalizing a with
  | nil => simp [chainB] at h
  | cons x l ih =>
    rw [List.cons_append, chain_cons] at *
    cases hf : folB a x with
    | false => simp
    | true => rw [hf] at h; simp at h; simp [ih h]
theorem chain_len : ∀ (l : List K2) (a : K2), chainB a l = true → l = [] ∨ a.2 + (l.length : Int) ≤ 6
  | [], _, _ => .inl rfl
  | x :: l, a, h => by
    rw [chain_cons, Bool.and_eq_true, fol_iff] at h
    rcases chain_len l x h.2 with rfl | h1
    · right; simp; omega
    · right; simp; omega
theorem pln_len {ks : List K2} (h : plnB ks = true) : 1 ≤ ks.length ∧ ks.length ≤ 6 := by
  cases ks with
  | nil => simp [plnB] at h
  | cons x r =>
    simp only [plnB, Bool.and_eq_true, beq_iff_eq] at h
    obtain ⟨rfl, h2⟩ := h
    rcases chain_len r _ h2 with rfl | h3
    · simp
    · simp at h3 ⊢; omega
/-- what the model's loop asks, place by place -/
def plStep (ks : List K2) (i : Nat) : Bool := folB (ks.getD i (0, 0)) (ks.getD (i + 1) (0, 0))
theorem chain_all : ∀ (l : List K2) (a : K2), chainB a l = (List.range l.length).all (plStep (a :: l))
  | [], _ => rfl
  | x :: l, a => by
    rw [chain_cons, chain_all l x, List.length_cons, List.range_succ_eq_map, List.all_cons, List.all_map]
    rfl
theorem pln_all (x : K2) (r : List K2) : plnB (x :: r) = (x == (0, 1) && (List.range r.length).all (plStep (x :: r))) := by
  show (x == (0, 1) && chainB x r) = _
  rw [chain_all]

/-! ### the degree at a time -/
def degF (now : Int) (d : Int) (s : K2) : Int := if s.1 ≤ now then s.2 else d
def degS (ks : List K2) (now : Int) : Int := ks.foldl (degF now) 1
def degV (ks : List K2) (now : Int) : Int := if plnB ks then degS ks now else 1
theorem deg_stay {now : Int} : ∀ (l : List K2) (a : K2) (d : Int), chainB a l = true → now < a.1 → l.foldl (degF now) d = d
  | [], _, _, _, _ => rfl
  | x :: l, a, d, h, hn => by
    rw [chain_cons, Bool.and_eq_true, fol_iff] at h
    rw [List.foldl_cons]
    have : degF now d x = d := by unfold degF; rw [if_neg (by omega)]
    rw [this]
    exact deg_stay l x d h.2 (by omega)
theorem chain_app {a : K2} : ∀ {l r : List K2}, chainB a (l ++ r) = true → chainB (lastK a l) r = true
  | [], r, h => h
  | x :: l, r, h => by
    have h1 : lastK a (x :: l) = lastK x l := by cases l <;> simp [lastK, List.getLastD]
    rw [List.cons_append, chain_cons, Bool.and_eq_true] at h
    rw [h1]
    exact chain_app h.2
/-- where the next step is later the degree stays -/
theorem deg_stop {ks pre rest : List K2} {s : K2} {now : Int} (h : plnB ks = true) (he : ks = pre ++ s :: rest) (hs : now < s.1) : degS ks now = degS pre now := by
  have hc : chainB s rest = true := by
    cases pre with
    | nil =>
      subst he
      simp only [List.nil_append, plnB, Bool.and_eq_true] at h
      exact h.2
    | cons x p =>
      subst he
      simp only [List.cons_append, plnB, Bool.and_eq_true] at h
      have := chain_app h.2
      rw [chain_cons, Bool.and_eq_true] at this
      exact this.2
  unfold degS
  rw [he, List.foldl_append, List.foldl_cons]
  have : degF now (List.foldl (degF now) 1 pre) s = List.foldl (degF now) 1 pre := by unfold degF; rw [if_neg (by omega)]
  rw [this]
  exact deg_stay rest s _ hc hs
theorem degS_snoc (ks : List K2) (s : K2) (now : Int) : degS (ks ++ [s]) now = degF now (degS ks now) s := by simp [degS, List.foldl_append]
theorem deg_ge : ∀ (l : List K2) (a : K2) (d now : Int), chainB a l = true → d ≤ a.2 → d ≤ l.foldl (degF now) d ∧ (l.foldl (degF now) d ≤ 6 ∨ l.foldl (degF now) d = d)
  | [], _, _, _, _, _ => ⟨Int.le_refl _, .inr rfl⟩
  | x :: l, a, d, now, h, hd => by
    rw [chain_cons, Bool.and_eq_true, fol_iff] at h
    rw [List.foldl_cons]
    by_cases hx : x.1 ≤ now
    · have : degF now d x = x.2 := by unfold degF; rw [if_pos hx]
      rw [this]
      obtain ⟨h1, h2⟩ := deg_ge l x x.2 now h.2 (Int.le_refl _)
      exact ⟨by omega, .inl (by omega)⟩
    · have : degF now d x = d := by unfold degF; rw [if_neg hx]
      rw [this]
      exact deg_ge l x d now h.2 (by omega)
theorem deg_mono : ∀ (l : List K2) (a : K2) (d : Int) (t u : Int), chainB a l = true → d ≤ a.2 → t ≤ u → l.foldl (degF t) d ≤ l.foldl (degF u) d
  | [], _, _, _, _, _, _, _ => Int.le_refl _
  | x :: l, a, d, t, u, h, hd, htu => by
    have hh := h
    rw [chain_cons, Bool.and_eq_true, fol_iff] at h
    rw [List.foldl_cons, List.foldl_cons]
    by_cases hx : x.1 ≤ t
    · have e1 : degF t d x = x.2 := by unfold degF; rw [if_pos hx]
      have e2 : degF u d x = x.2 := by unfold degF; rw [if_pos (by omega)]
      rw [e1, e2]
      exact deg_mono l x x.2 t u h.2 (Int.le_refl _) htu
    · have e1 : degF t d x = d := by unfold degF; rw [if_neg hx]
      rw [e1, deg_stay l x d h.2 (by omega)]
      by_cases hu : x.1 ≤ u
      · have e2 : degF u d x = x.2 := by unfold degF; rw [if_pos hu]
        rw [e2]
        have := (deg_ge l x x.2 u h.2 (Int.le_refl _)).1
        omega
      · have e2 : degF u d x = d := by unfold degF; rw [if_neg hu]
        rw [e2]
        exact (deg_ge l x d u h.2 (by omega)).1
theorem degV_mono (ks : List K2) {t u : Int} (h : t ≤ u) : degV ks t ≤ degV ks u := by
  unfold degV
  cases hp : plnB ks with
  | false => simp
  | true =>
    simp only [if_true]
    cases ks with
    | nil => simp [degS]
    | cons x r =>
      simp only [plnB, Bool.and_eq_true, beq_iff_eq] at hp
      obtain ⟨rfl, h2⟩ := hp
      unfold degS
      rw [List.foldl_cons, List.foldl_cons]
      have e1 : ∀ t, degF t 1 (0, 1) = 1 := by intro t; unfold degF; split <;> rfl
      rw [e1, e1]
      exact deg_mono r (0, 1) 1 t u h2 (by decide) h
theorem degV_bd (ks : List K2) (t : Int) : 1 ≤ degV ks t ∧ degV ks t ≤ 6 := by
  unfold degV
  cases hp : plnB ks with
  | false => simp
  | true =>
    simp only [if_true]
    cases ks with
    | nil => simp [degS]
    | cons x r =>
      simp only [plnB, Bool.and_eq_true, beq_iff_eq] at hp
      obtain ⟨rfl, h2⟩ := hp
      unfold degS
      rw [List.foldl_cons]
      have e1 : degF t 1 (0, 1) = 1 := by unfold degF; split <;> rfl
      rw [e1]
      obtain ⟨h3, h4⟩ := deg_ge r (0, 1) 1 t h2 (by decide)
      omega
theorem degV_neg (ks : List K2) {t : Int} (h : t < 0) : degV ks t = 1 := by
  unfold degV
  cases hp : plnB ks with
  | false => simp
  | true =>
    simp only [if_true]
    cases ks with
    | nil => simp [degS]
    | cons x r =>
      simp only [plnB, Bool.and_eq_true, beq_iff_eq] at hp
      obtain ⟨rfl, h2⟩ := hp
      unfold degS
      rw [List.foldl_cons]
      have e1 : degF t 1 (0, 1) = 1 := by unfold degF; split <;> rfl
      rw [e1]
      exact deg_stay r (0, 1) 1 h2 h
theorem deg_last : ∀ (l : List K2) (a : K2), chainB a l = true → l.foldl (degF 1000000) a.2 = (lastK a l).2
  | [], _, _ => rfl
  | x :: l, a, h => by
    have h1 : lastK a (x :: l) = lastK x l := by cases l <;> simp [lastK, List.getLastD]
    rw [chain_cons, Bool.and_eq_true, fol_iff] at h
    rw [List.foldl_cons, h1]
    have e1 : degF 1000000 a.2 x = x.2 := by unfold degF; rw [if_pos (by omega)]
    rw [e1]
    exact deg_last l x h.2
theorem degV_last {ks : List K2} (h : plnB ks = true) : degV ks 1000000 = (ks.getD (ks.length - 1) (0, 0)).2 := by
  unfold degV
  rw [h]
  simp only [if_true]
  cases ks with
  | nil => simp [plnB] at h
  | cons x r =>
    simp only [plnB, Bool.and_eq_true, beq_iff_eq] at h
    obtain ⟨rfl, h2⟩ := h
    unfold degS
    rw [List.foldl_cons]
    have e1 : degF 1000000 1 (0, 1) = 1 := by unfold degF; split <;> rfl
    rw [e1]
    have := deg_last r (0, 1) h2
    rw [this]
    congr 1
    cases r with
    | nil => rfl
    | cons y r =>
      have h3 : ((0, 1) :: y :: r : List K2).getD (((0, 1) :: y :: r : List K2).length - 1) (0, 0) = (y :: r).getD r.length (0, 0) := by simp
      rw [h3]
      simp only [lastK, List.getLastD, List.getLast_eq_getElem, List.length_cons]
      simp [List.getD]

/-! ### the plan that is grown -/
def groF (n p : Int) : Nat → Int → Int → List K2
  | 0, _, _ => []
  | f + 1, d, a => if a < p * (d * n / (d + 1)) ∧ p * (d * n / (d + 1)) ≤ 1000000 then (p * (d * n / (d + 1)), d + 1) :: groF n p f (d + 1) (p * (d * n / (d + 1))) else []
def groOk (n p : Int) : Prop := (1 ≤ n ∧ n ≤ 100) ∧ (1 ≤ p ∧ p ≤ 1000)
instance (n p : Int) : Decidable (groOk n p) := by unfold groOk; infer_instance
def groV (n p : Int) : List K2 := if groOk n p then (0, 1) :: groF n p 5 1 0 else []
theorem least_iff {d n k : Int} (h1 : 1 ≤ d) (h2 : d ≤ 5) : k * (d + 1) < d * n - d ↔ k < d * n / (d + 1) := by
  obtain rfl | rfl | rfl | rfl | rfl : d = 1 ∨ d = 2 ∨ d = 3 ∨ d = 4 ∨ d = 5 := by omega
  all_goals (simp only [Int.reduceAdd]; omega)
theorem groQ_bd {d n : Int} (h1 : 1 ≤ d) (h2 : d ≤ 5) (h3 : 1 ≤ n) (h4 : n ≤ 100) : 0 ≤ d * n / (d + 1) ∧ d * n / (d + 1) ≤ d * 100 / (d + 1) ∧ d * 100 / (d + 1) ≤ 83 := by
  obtain rfl | rfl | rfl | rfl | rfl : d = 1 ∨ d = 2 ∨ d = 3 ∨ d = 4 ∨ d = 5 := by omega
  all_goals (simp only [Int.reduceAdd]; omega)
theorem mul_bd {p q Q : Int} (h1 : 1 ≤ p) (h2 : p ≤ 1000) (h3 : 0 ≤ q) (h4 : q ≤ Q) (h5 : Q ≤ 83) : 0 ≤ p * q ∧ p * q ≤ p * Q ∧ p * Q ≤ 83000 :=
  ⟨Int.mul_nonneg (by omega) h3, Int.mul_le_mul_of_nonneg_left h4 (by omega), Int.le_trans (Int.mul_le_mul h2 h5 (by omega) (by omega)) (by decide)⟩
theorem groF_deg (n p : Int) : ∀ (f : Nat) (d a : Int) (i : Nat), i < (groF n p f d a).length → ((groF n p f d a).getD i (0, 0)).2 = d + 1 + i ∧ ((groF n p f d a).getD i (0, 0)).1 = p * ((d + i) * n / (d + i + 1))
  | 0, _, _, i, h => by simp [groF] at h
  | f + 1, d, a, i, h => by
    unfold groF at h ⊢
    split at h
    · rename_i hc
      rw [if_pos hc]
      cases i with
      | zero => simp
      | succ i =>
        have := groF_deg n p f (d + 1) _ i (by simpa using h)
        rw [List.getD_cons_succ, this.1, this.2]
        have e : d + ((i + 1 : Nat) : Int) = d + 1 + (i : Int) := by omega
        rw [e]
        exact ⟨by omega, rfl⟩
    · simp at h
theorem groF_len (n p : Int) : ∀ (f : Nat) (d a : Int), (groF n p f d a).length ≤ f
  | 0, _, _ => by simp [groF]
  | f + 1, d, a => by
    unfold groF
    split
    · have := groF_len n p f (d + 1) (p * (d * n / (d + 1))); simp; omega
    · simp
theorem groF_chain (n p : Int) : ∀ (f : Nat) (d a : Int), d + f ≤ 6 → chainB (a, d) (groF n p f d a) = true
  | 0, _, _, _ => by simp [groF, chainB]
  | f + 1, d, a, h => by
    unfold groF
    split
    · rename_i hc
      rw [chain_cons, groF_chain n p f (d + 1) _ (by omega), Bool.and_true, fol_iff]
      exact ⟨hc.1, hc.2, by simp only []; omega, by simp only []; omega⟩
    · rfl
theorem gro_plan {n p : Int} (h : groOk n p) : plnB (groV n p) = true := by
  unfold groV
  rw [if_pos h]
  simp only [plnB, Bool.and_eq_true]
  exact ⟨by decide, groF_chain n p 5 1 0 (by decide)⟩
theorem gro_hundred {p : Int} (h1 : 1 ≤ p) (h2 : p ≤ 1000) : (groV 100 p).length = 6 := by
  have hg : groOk 100 p := ⟨by decide, h1, h2⟩
  unfold groV
  rw [if_pos hg]
  have e : groF 100 p 5 1 0 = [(p * 50, 2), (p * 66, 3), (p * 75, 4), (p * 80, 5), (p * 83, 6)] := by
    simp only [groF]
    simp only [Int.reduceMul, Int.reduceAdd, Int.reduceDiv]
    rw [if_pos (by omega), if_pos (by omega), if_pos (by omega), if_pos (by omega), if_pos (by omega)]
  rw [e]; rfl
theorem gro_len (n p : Int) : (groV n p).length ≤ 6 := by
  unfold groV
  split
  · have := groF_len n p 5 1 0; simp; omega
  · simp
theorem gro_more {n p : Int} (h : groOk n p) (i : Nat) (hi : i < (groV n p).length) : ((groV n p).getD i (0, 0)).1 ≤ ((groV 100 p).getD i (0, 0)).1 ∧ ((groV 100 p).getD i (0, 0)).2 = ((groV n p).getD i (0, 0)).2 := by
  have hl := gro_hundred h.2.1 h.2.2
  have hl6 := gro_len n p
  have hg : groOk 100 p := ⟨by decide, h.2⟩
  unfold groV at *
  rw [if_pos h] at *
  rw [if_pos hg] at *
  cases i with
  | zero => simp
  | succ i =>
    have h1 := groF_deg n p 5 1 0 i (by simpa using hi)
    have h2 := groF_deg 100 p 5 1 0 i (by simp at hl hi; have := groF_len n p 5 1 0; omega)
    rw [List.getD_cons_succ, List.getD_cons_succ, h1.1, h1.2, h2.1, h2.2]
    have hi5 : i < 5 := by simp at hi; have := groF_len n p 5 1 0; omega
    have hq := groQ_bd (d := 1 + (i : Int)) (n := n) (by omega) (by omega) h.1.1 h.1.2
    exact ⟨(mul_bd h.2.1 h.2.2 hq.1 hq.2.1 hq.2.2).2.1, rfl⟩
end Go.Proofs.Yteijgoadcpphlaa
namespace Go.Proofs.Yteijgoadcpphlaa
open Go.ChangeShapes Go.WideShapes Go.ChangeAt Go.RowKit
set_option linter.unusedVariables false

theorem sin_any (x a b : Int) (w : World) : Calls Try.prog 28 #[.int .i64 x, .int .i64 a, .int .i64 b] w fun e w' => e = .returned (.bool (decide (a ≤ x) && decide (x ≤ b))) ∧ w' = w := by
  by_cases h1 : a ≤ x <;> by_cases h2 : x ≤ b
  all_goals
    go_enter Try.func28, Try.ntmps28
    go_wp2
    go_ret
    simp [h1, h2]
end Go.Proofs.Yteijgoadcpphlaa
namespace Go.Proofs.Yteijgoadcpphlaa
open Go.BigFrame Go.RowKit Go.ChangeShapes Go.WideShapes
section
variable {P : Program} {ops : Array Oper} {C : World → Prop} {Q : Act → Prop} {a : Act} {o : Oper} {rest : List Oper} {K : Act → Prop}
theorem q_load (ty : TypeId) (x : Operand) (p : Addr) (v : Value) (ho : o.op = .load ty x) (hx : a.eval x = .pointer (some p)) (hl : ∀ w, C w → (loadVar ty p).run P w = .ok v w) (hk : K (a.put o.dst v)) : o.quiet P a C K := by
  refine ⟨v, fun w hw => ?_, hk⟩
  unfold Oper.quietAt execOp
  simp only [ho, hx, Instr.loadAt, Instr.sureAddr, Sem.run_bind, Sem.run_pure, Result.andThen_ok, hl w hw]
  exact ⟨rfl, rfl⟩
theorem q_bin (op : BinOp) (t ty : TypeId) (x y : Operand) (u v z : Value) (ho : o.op = .binOp op t x y ty) (hx : a.eval x = u) (hy : a.eval y = v) (hg : ∀ w, (eqGuard op t x y u v).run P w = .ok () w) (hb : ∀ w, (binOp op t u v).run P w = .ok z w)
    (hk : K (a.put o.dst z)) : o.quiet P a C K := by
  refine ⟨z, fun w hw => ?_, hk⟩
  unfold Oper.quietAt execOp
  simp only [ho, hx, hy, Sem.run_bind, hg w, hb w, Result.andThen_ok, Sem.run_pure]
  exact ⟨rfl, rfl⟩
end
/-- the class: new blocks alone -/
theorem wp_region_below {P : Program} {id : Nat} {Q : Exit → Act → World → Prop} {a : Act} {w : World} {l : List Oper} (w0 : World) (hm : P.follows .mixedOrders = true) (hB : Region.lexB .any l.toArray = true) (h0 : Below w0.heap.size w0 w)
    (h : wpQuiet P l.toArray (fun w' => Below w0.heap.size w0 w') (fun a' => ∀ w', Below w0.heap.size w0 w' → Q .normal a' w') l a) : (Code.region id l.toArray true).wp P Q a w :=
  wp_region_quiet (C := fun w' => Below w0.heap.size w0 w') hm hB h0.drew (by simpa using h)
end Go.Proofs.Yteijgoadcpphlaa
namespace Go.Proofs.Yteijgoadcpphlaa
open Go.ChangeShapes Go.WideShapes Go.ChangeAt Go.RowKit Go.BigFrame
set_option linter.unusedVariables false

def keyCells (ks : List K2) : List Value := ks.flatMap fun k => [.int .i64 k.1, .int .i64 k.2]
theorem keyCells_snoc (ks : List K2) (k : K2) : keyCells (ks ++ [k]) = keyCells ks ++ [.int .i64 k.1, .int .i64 k.2] := by simp [keyCells]
theorem keyCells_get : ∀ (ks : List K2) (i : Nat), i < ks.length → (keyCells ks)[i * 2]? = some (.int .i64 (ks.getD i (0, 0)).1) ∧ (keyCells ks)[i * 2 + 1]? = some (.int .i64 (ks.getD i (0, 0)).2)
  | [], _, h => by simp at h
  | k :: r, 0, _ => by simp [keyCells]
  | k :: r, i + 1, h => by
    have ih := keyCells_get r i (by simpa using h)
    have e1 : (i + 1) * 2 = i * 2 + 1 + 1 := by omega
    have e2 : (i + 1) * 2 + 1 = i * 2 + 1 + 1 + 1 := by omega
    rw [e1]
    simp only [keyCells, List.flatMap_cons, List.cons_append, List.nil_append, List.getElem?_cons_succ, List.getD_cons_succ] at *
    exact ih
theorem own_below {w w' : World} {base n : Nat} {e : TypeId} {size : Nat} {v : Value} {xs : List Value} (h : w.ownsRow base e size v n xs) (hb : Below w.heap.size w w') : w'.ownsRow base e size v n xs :=
  h.kept (grown_of_below' hb none) (by cases hv : v.ownBlock <;> simp)

end Go.Proofs.Yteijgoadcpphlaa
namespace Go.Proofs.Yteijgoadcpphlaa
open Go.RowKit Go.Shelf
attribute [local go_sem] Oper.semAt_some
set_option linter.unusedVariables false

/-- the slice value v leads to the keys ks, in blocks below n₀ -/
def keysIn0 (n₀ : Nat) (w : World) (v : Value) (ks : List K2) : Prop :=
  ∃ a cap, v = .slice a ks.length cap ∧ ks.length ≤ cap ∧ (ks.length = 0 ∨ ∃ g off, a = some ⟨g, off, none⟩ ∧ g < n₀ ∧ g < w.heap.size ∧
    ∀ i, i < ks.length → w.cell? ⟨g, off + i * 2, none⟩ = some (.int .i64 (ks.getD i (0, 0)).1) ∧ w.cell? ⟨g, off + i * 2 + 1, none⟩ = some (.int .i64 (ks.getD i (0, 0)).2))
theorem keysIn0.below {n₀ : Nat} {w w' : World} {v : Value} {ks : List K2} (h : keysIn0 n₀ w v ks) (hb : Below n₀ w w') : keysIn0 n₀ w' v ks := by
  obtain ⟨a, cap, h1, h2, h3⟩ := h
  refine ⟨a, cap, h1, h2, h3.imp_right ?_⟩
  rintro ⟨g, off, h4, h0, h5, h6⟩
  refine ⟨g, off, h4, h0, Nat.lt_of_lt_of_le h5 hb.size, fun i hi => ?_⟩
  rw [hb.cell (p := ⟨g, off + i * 2, none⟩) h0, hb.cell (p := ⟨g, off + i * 2 + 1, none⟩) h0]
  exact h6 i hi
theorem keysIn0.at {n₀ : Nat} {w : World} {v : Value} {ks : List K2} (h : keysIn0 n₀ w v ks) : keysAt w v ks := by
  obtain ⟨a, cap, h1, h2, h3⟩ := h
  exact ⟨a, cap, h1, h2, h3.imp_right fun ⟨g, off, h4, _, h5, h6⟩ => ⟨g, off, h4, h5, h6⟩⟩
theorem keysIn0_of {w : World} {v : Value} {ks : List K2} (h : keysAt w v ks) : keysIn0 w.heap.size w v ks := by
  obtain ⟨a, cap, h1, h2, h3⟩ := h
  exact ⟨a, cap, h1, h2, h3.imp_right fun ⟨g, off, h4, h5, h6⟩ => ⟨g, off, h4, h5, h5, h6⟩⟩

end Go.Proofs.Yteijgoadcpphlaa
namespace Go.Proofs.Yteijgoadcpphlaa
open Go.RowKit
set_option linter.unusedVariables false

theorem set_cells {w : World} {B j : Nat} {cs : Array Value} {t : TypeId} (u : Value) (h : w.heap[B]? = some (.cells cs t (0, 0))) : (w.setCell ⟨B, j, none⟩ u).heap[B]? = some (.cells (cs.setIfInBounds j u) t (0, 0)) := by
  obtain ⟨hlt, hk⟩ := Array.getElem?_eq_some_iff.1 h
  show (w.heap.modify B _)[B]? = _
  rw [Array.getElem?_eq_getElem (by rw [Array.size_modify]; exact hlt), Array.getElem_modify_self, hk]
  rfl
end Go.Proofs.Yteijgoadcpphlaa
namespace Go.Proofs.Yteijgoadcpphlaa
open Go.RowKit Go.Shelf
set_option linter.unusedVariables false

/-- the slice value without its first key -/
theorem keysIn0_tail {n₀ : Nat} {w : World} {g off c : Nat} {k : K2} {r : List K2} (h : keysIn0 n₀ w (.slice (some ⟨g, off, none⟩) (r.length + 1) c) (k :: r)) (c' : Nat) (hc : r.length ≤ c') :
    keysIn0 n₀ w (.slice (some ⟨g, off + 2, none⟩) r.length c') r := by
  obtain ⟨a, cap, h1, h2, h3⟩ := h
  simp only [List.length_cons, Value.slice.injEq, true_and] at h1
  obtain ⟨rfl, rfl⟩ := h1
  obtain ⟨g2, off2, e, h4, h5, h6⟩ := h3.resolve_left (by simp)
  cases e
  refine ⟨_, c', rfl, hc, .inr ⟨g, off + 2, rfl, h4, h5, fun i hi => ?_⟩⟩
  have := h6 (i + 1) (by simp; omega)
  rw [show off + (i + 1) * 2 = off + 2 + i * 2 by omega] at this
  simpa using this
theorem addr_add (g off j : Nat) : (⟨g, off, none⟩ : Addr).add j = ⟨g, off + j, none⟩ := by
  unfold Addr.add
  split
  · rename_i h; simp [h]
  · rfl
theorem keysIn0_tail2 {n₀ : Nat} {w : World} {g o o' c : Nat} {k : K2} {r : List K2} (h : keysIn0 n₀ w (.slice (some ⟨g, o, none⟩) (r.length + 1) c) (k :: r)) (hc : r.length + 1 ≤ c) (ho : (c - 1 = 0 ∧ o' = o) ∨ o' = o + 2) :
    keysIn0 n₀ w (.slice (some ⟨g, o', none⟩) r.length (c - 1)) r := by
  rcases ho with ⟨h0, rfl⟩ | rfl
  · exact ⟨_, c - 1, rfl, by omega, .inl (by omega)⟩
  · exact keysIn0_tail h _ (by omega)
end Go.Proofs.Yteijgoadcpphlaa
namespace Go.Proofs.Yteijgoadcpphlaa
set_option linter.unusedVariables false

theorem cell_two_new (w : World) (x y : Value) (e : TypeId) : ∀ j u, ([x, y] : List Value)[j]? = some u → (w.alloc (.cells #[x, y] e)).cell? ((⟨w.heap.size, 0, none⟩ : Addr).add j) = some u := by
  intro j u hj
  have : j < 2 := by have := (List.getElem?_eq_some_iff.1 hj).1; simpa using this
  rcases (by omega : j = 0 ∨ j = 1) with rfl | rfl <;> simpa [Addr.add_lit] using hj
end Go.Proofs.Yteijgoadcpphlaa
namespace Go.Proofs.Yteijgoadcpphlaa
open Go.ChangeShapes Go.WideShapes Go.ChangeAt Go.RowKit
set_option linter.unusedVariables false
theorem results_cell {fn : Func} {p : Tmp} {ty : TypeId} (h : fn.results = #[.cell p ty]) (tmps : Array Value) (P : Program) (w : World) :
    (results fn tmps).run P w = ((asAddr (tmps.getD p undef)).run P w).andThen fun a w₁ => (loadVar ty a).run P w₁ := by
  simp only [results, h]
  simp [Sem.run_bind]
end Go.Proofs.Yteijgoadcpphlaa
namespace Go.Proofs.Yteijgoadcpphlaa
open Go.ChangeShapes Go.WideShapes Go.ChangeAt Go.RowKit Go.BigFrame
set_option linter.unusedVariables false
theorem own_cell {w : World} {base g n cap : Nat} {e : TypeId} {size : Nat} {xs : List Value} (h : w.ownsRow base e size (.slice (some ⟨g, 0, none⟩) n cap) n xs) (j : Nat) (hj : j < n * size) :
    w.cell? ⟨g, j, none⟩ = some (xs.getD j undef) ∧ w.frozen? ⟨g, j, none⟩ = false := by
  have hl : xs.length = n * size := h.1
  refine ⟨?_, ?_⟩
  · rw [h.cellAt j hj]
    simp [List.getD, show j < xs.length by omega]
  · rcases h.2 with ⟨h1, _⟩ | ⟨g', cap', cur, h1, _, hg, _⟩
    · simp at h1
    · simp only [Value.slice.injEq, Option.some.injEq, Addr.mk.injEq, and_true, true_and] at h1
      obtain ⟨rfl, rfl⟩ := h1
      simp [World.frozen?, hg]
theorem ownsRowK_shape {w : World} {base n : Nat} {e : TypeId} {v : Value} {size : Nat} {xs : List Value} (h : w.ownsRow base e size v n xs) :
    (v = .slice none 0 0 ∧ n = 0) ∨ ∃ g cap, v = .slice (some ⟨g, 0, none⟩) n cap ∧ n ≤ cap ∧ cap ≤ maxLen ∧ base ≤ g ∧ g < w.heap.size := by
  rcases h.2 with h1 | ⟨g, cap, cur, rfl, h2, h3, h4, h5, _⟩
  · exact .inl h1
  · exact .inr ⟨g, cap, rfl, h4, h5, h2, (Array.getElem?_eq_some_iff.1 h3).1⟩
theorem own_base {w : World} {base base' n : Nat} {e : TypeId} {size : Nat} {v : Value} {xs : List Value} (h : w.ownsRow base' e size v n xs) (hb : base ≤ base') : w.ownsRow base e size v n xs := by
  refine ⟨h.1, h.2.imp_right ?_⟩
  rintro ⟨g, cap, cur, h1, h2, h3⟩
  exact ⟨g, cap, cur, h1, Nat.le_trans hb h2, h3⟩
end Go.Proofs.Yteijgoadcpphlaa
namespace Go.Proofs.Yteijgoadcpphlaa
open Go.ChangeShapes Go.WideShapes Go.ChangeAt Go.RowKit Go.BigFrame
set_option linter.unusedVariables false

theorem step_load {w : World} {g o : Nat} {k : K2} (hc : w.cell? ⟨g, o, none⟩ = some (.int .i64 k.1) ∧ w.cell? ⟨g, o + 1, none⟩ = some (.int .i64 k.2)) {w' : World} (hg : g < w.heap.size) (hb : Below w.heap.size w w') :
    (loadVar 30 ⟨g, o, none⟩).run Try.prog w' = .ok (kv k) w' := by
  refine run_loadVar_mid w' g o 30 [.int .i64 k.1, .int .i64 k.2] _ (fun j v hj => ?_) Try.underlying30 rfl (by kernel_rfl)
  have hj2 : j < 2 := by have := (List.getElem?_eq_some_iff.1 hj).1; simpa using this
  rcases (by omega : j = 0 ∨ j = 1) with rfl | rfl
  · rw [hb.cell (p := ⟨g, o + 0, none⟩) hg]
    simpa using hc.1.trans (by simpa using hj)
  · rw [hb.cell (p := ⟨g, o + 1, none⟩) hg]
    simpa using hc.2.trans (by simpa using hj)
theorem step_equal (p q : K2) (w : World) : (Op.equalIn 10000 30 (kv p) (kv q)).run Try.prog w = .ok (p == q) w := by
  obtain ⟨a, b⟩ := p; obtain ⟨c, d⟩ := q
  have u3 := Try.underlying3
  have hS : Try.prog.underlying 30 = some (.struct (Try.prog.fieldsOf 30)) := by kernel_rfl
  unfold kv
  rw [show (10000 : Nat) = 9999 + 1 from rfl, run_equalIn_agg w 9999 30 _ _ hS (by kernel_rfl)]
  simp only [Program.fieldsOf, Try.underlying30]
  go_simp
  by_cases h1 : a = c <;> by_cases h2 : b = d <;> simp [h1, h2]
theorem step_eql (p q : K2) (w : World) : (binOp .eql 30 (kv p) (kv q)).run Try.prog w = .ok (.bool (p == q)) w := by
  have := step_equal p q w
  unfold kv at *
  rw [run_eql_struct, this]; rfl
theorem step_neq (p q : K2) (w : World) : (binOp .neq 30 (kv p) (kv q)).run Try.prog w = .ok (.bool (!(p == q))) w := by
  have := step_equal p q w
  unfold kv at *
  rw [run_neq_struct, this]; rfl
theorem step_guard (op : BinOp) (x y : Operand) (p q : K2) (w : World) : (eqGuard op 30 x y (kv p) (kv q)).run Try.prog w = .ok () w := by
  unfold kv
  exact run_eqGuard_agg w op 30 x y _ _ (by kernel_rfl)
theorem infoSt : (Try.prog.info? 30).map (fun i => (i.zero, i.size, i.bytes)) = some (some (.agg #[.int .i64 0, .int .i64 0]), 2, 16) := by kernel_rfl
/-- what is owned leads to its keys -/
theorem stepsAt_own {w : World} {base : Nat} {v : Value} {ks : List K2} (h : w.ownsRow base 30 2 v ks.length (keyCells ks)) : keysAt w v ks := by
  rcases h.2 with ⟨rfl, h0⟩ | ⟨g, cap, cur, rfl, hb, hg, hn, hm, hs, ht⟩
  · exact ⟨none, 0, by rw [h0], by omega, .inl h0⟩
  · refine ⟨_, cap, rfl, hn, .inr ⟨g, 0, rfl, (Array.getElem?_eq_some_iff.1 hg).1, fun i hi => ?_⟩⟩
    have hc := keyCells_get ks i hi
    rw [Nat.zero_add, h.cellAt (i * 2) (by omega), h.cellAt (i * 2 + 1) (by omega)]
    exact hc
theorem eqstep_any (p q : K2) (w : World) : Calls Try.prog 33 #[kv p, kv q] w fun e w' => e = .returned (.bool (p == q)) ∧ Below w.heap.size w w' := by
  obtain ⟨a, b⟩ := p; obtain ⟨c, d⟩ := q
  have hB : ∀ o o', Below w.heap.size w ((w.alloc o).alloc o') := fun o o' => ((Below.refl _ _).alloc (Nat.le_refl _) _).alloc (by simp) _
  have HB := Lib.hid hB; clear hB
  by_cases h1 : a = c
  · by_cases h2 : b = d
    · have he : ((a, b) == (c, d)) = true := by simp [h1, h2]
      rw [he]
      unfold kv
      dsimp only
      subst h1; subst h2
      go_enter Try.func33, Try.ntmps33
      go_wp2
      go_ret
      exact ⟨rfl, HB.out _ _⟩
    · have he : ((a, b) == (c, d)) = false := by simp [h1, h2]
      rw [he]
      unfold kv
      dsimp only
      subst h1
      go_enter Try.func33, Try.ntmps33
      go_wp2
      go_ret
      exact ⟨rfl, HB.out _ _⟩
  · have he : ((a, b) == (c, d)) = false := by simp [h1]
    rw [he]
    unfold kv
    dsimp only
    go_enter Try.func33, Try.ntmps33
    go_wp2
    go_ret
    exact ⟨rfl, HB.out _ _⟩
set_option maxRecDepth 100000 in
set_option maxHeartbeats 1000000 in
theorem samesteps_any (va vb : Value) (A B : List K2) (w : World) (ha : keysAt w va A) (hb : keysAt w vb B) (hsA : A.length ≤ 4000000) (hsB : B.length ≤ 4000000) :
    Calls Try.prog 16 #[va, vb] w fun e w' => e = .returned (.bool (decide (A = B))) ∧ Below w.heap.size w w' := by
  obtain ⟨aa, ca, rfl, hca, hcA⟩ := ha
  obtain ⟨ab, cb, rfl, hcb, hcB⟩ := hb
  by_cases hl : A.length = B.length
  · have e0 : (A.length : Int) = (B.length : Int) := by omega
    go_enter Try.func16, Try.ntmps16
    rw [hl] at hca hcA ⊢
    go_wp2
    go_loopw [5] (fun i wr => ∃ k : Nat, k ≤ B.length ∧ i = .int .i64 k ∧ (∀ j, j < k → A.getD j (0, 0) = B.getD j (0, 0)) ∧ Below w.heap.size w wr) (fun i _ => B.length - (intOf i).toNat)
    case atStart => exact ⟨0, Nat.zero_le _, rfl, fun j hj => by omega, Below.refl _ _⟩
    case round =>
      obtain ⟨k, hk, rfl, hall, hbr⟩ := hrel
      by_cases hlt : k < B.length
      · obtain ⟨ga, offa, rfl, hga, hcsA⟩ := hcA.resolve_left (by omega)
        obtain ⟨gb, offb, rfl, hgb, hcsB⟩ := hcB.resolve_left (by omega)
        have cA := hcsA k hlt
        have cB := hcsB k hlt
        have z0 : (0 : Int) ≤ (k : Int) := by omega
        have z1 : (k : Int) < (B.length : Int) := by omega
        clear hcsA hcsB hcA hcB
        have L1 : ∀ w', Below w.heap.size w w' → (loadVar 30 ⟨ga, offa + k * 2, none⟩).run Try.prog w' = .ok (kv (A.getD k (0, 0))) w' := fun w' h => step_load cA hga h
        have L2 : ∀ w', Below w.heap.size w w' → (loadVar 30 ⟨gb, offb + k * 2, none⟩).run Try.prog w' = .ok (kv (B.getD k (0, 0))) w' := fun w' h => step_load cB hgb h
        have HE := Lib.hid (fun w => eqstep_any (A.getD k (0, 0)) (B.getD k (0, 0)) w)
        clear cA cB
        cases he : (A.getD k (0, 0) == B.getD k (0, 0)) with
        | true =>
          have hn : ∀ j, j < k + 1 → A.getD j (0, 0) = B.getD j (0, 0) := by
            intro j hj
            rcases (by omega : j < k ∨ j = k) with h1 | rfl
            · exact hall j h1
            · exact eq_of_beq he
          have HN := Lib.hid hn
          rw [he] at HE
          clear hall hn
          generalize A.getD k (0, 0) = kx at *
          generalize B.getD k (0, 0) = ky at *
          go_wp2
          refine wp_region_below w (by kernel_rfl) (by kernel_rfl) hbr ?_
          repeat (first
            | go_big_quiet_skip
            | (go_big_quiet_want
               first
                 | (go_big_quiet_op; go_big_quiet_on)
                 | (refine q_load 30 _ _ _ rfl rfl L1 ?_; simp only [Act.put, List.setIfInBounds_toArray, List.set_cons_zero, List.set_cons_succ]; go_big_quiet_on)
                 | (refine q_load 30 _ _ _ rfl rfl L2 ?_; simp only [Act.put, List.setIfInBounds_toArray, List.set_cons_zero, List.set_cons_succ]; go_big_quiet_on)
                 | (refine q_bin _ 30 _ _ _ _ _ _ rfl rfl rfl (fun w => step_guard _ _ _ _ _ w) (fun w => step_eql _ _ w) ?_; simp only [Act.put, List.setIfInBounds_toArray, List.set_cons_zero, List.set_cons_succ]; go_big_quiet_on)
                 | (refine q_bin _ 30 _ _ _ _ _ _ rfl rfl rfl (fun w => step_guard _ _ _ _ _ w) (fun w => step_neq _ _ w) ?_; simp only [Act.put, List.setIfInBounds_toArray, List.set_cons_zero, List.set_cons_succ]; go_big_quiet_on)
                 | (go_big_quiet_op; refine ⟨_, fun _ _ => rfl, ?_⟩; go_big_quiet_on)
                 | (go_big_quiet_op; go_big_quiet_on)))
          refine wpQuiet_nil ?_
          intro w2 hb2
          rw [he]
          clear L1 L2 HE hbr
          go_wp2
          exact ⟨⟨k + 1, by omega, by go_num, HN.out, hb2⟩, by simp [intOf]; omega⟩
        | false =>
          have hne : decide (A = B) = false := by
            simp only [decide_eq_false_iff_not]
            intro e
            subst e
            simp at he
          have HD := Lib.hid hne
          rw [he] at HE
          clear hall hne
          generalize A.getD k (0, 0) = kx at *
          generalize B.getD k (0, 0) = ky at *
          go_wp2
          refine wp_region_below w (by kernel_rfl) (by kernel_rfl) hbr ?_
          repeat (first
            | go_big_quiet_skip
            | (go_big_quiet_want
               first
                 | (go_big_quiet_op; go_big_quiet_on)
                 | (refine q_load 30 _ _ _ rfl rfl L1 ?_; simp only [Act.put, List.setIfInBounds_toArray, List.set_cons_zero, List.set_cons_succ]; go_big_quiet_on)
                 | (refine q_load 30 _ _ _ rfl rfl L2 ?_; simp only [Act.put, List.setIfInBounds_toArray, List.set_cons_zero, List.set_cons_succ]; go_big_quiet_on)
                 | (refine q_bin _ 30 _ _ _ _ _ _ rfl rfl rfl (fun w => step_guard _ _ _ _ _ w) (fun w => step_eql _ _ w) ?_; simp only [Act.put, List.setIfInBounds_toArray, List.set_cons_zero, List.set_cons_succ]; go_big_quiet_on)
                 | (refine q_bin _ 30 _ _ _ _ _ _ rfl rfl rfl (fun w => step_guard _ _ _ _ _ w) (fun w => step_neq _ _ w) ?_; simp only [Act.put, List.setIfInBounds_toArray, List.set_cons_zero, List.set_cons_succ]; go_big_quiet_on)
                 | (go_big_quiet_op; refine ⟨_, fun _ _ => rfl, ?_⟩; go_big_quiet_on)
                 | (go_big_quiet_op; go_big_quiet_on)))
          refine wpQuiet_nil ?_
          intro w2 hb2
          rw [he]
          clear L1 L2 HE hbr
          go_wp2
          go_ret
          exact ⟨by rw [HD.out]; rfl, hb2⟩
      · obtain rfl : k = B.length := by omega
        have he : decide (A = B) = true := by
          simp only [decide_eq_true_eq]
          apply List.ext_getElem hl
          intro i h1 h2
          have := hall i h2
          simpa [List.getD, h1, h2] using this
        have HD := Lib.hid he
        clear hall he
        go_wp2
        go_ret
        exact ⟨by rw [HD.out]; rfl, hbr⟩
  · have hne : decide (A = B) = false := by simp only [decide_eq_false_iff_not]; intro e; subst e; exact hl rfl
    have HD := Lib.hid hne
    have e0 : ¬ (A.length : Int) = (B.length : Int) := by omega
    clear hne
    go_enter Try.func16, Try.ntmps16
    go_wp2
    go_ret
    exact ⟨by rw [HD.out]; rfl, Below.refl _ _⟩
end Go.Proofs.Yteijgoadcpphlaa
namespace Go.Proofs.Yteijgoadcpphlaa
open Go.RowKit
set_option linter.unusedVariables false
theorem cells_own {β : Type} (B : Nat) (f : β → Array Value) (t : TypeId) : Own (fun (s : β) W => W.heap[B]? = some (.cells (f s) t (0, 0))) := by
  intro s X Y row h hg hr
  refine (hg.block B (Array.getElem?_eq_some_iff.1 h).1 (fun e => ?_)).trans h
  obtain ⟨o, ho, hc⟩ := hr B e.symm
  rw [h] at ho; cases ho; cases hc
end Go.Proofs.Yteijgoadcpphlaa
namespace Go.Proofs.Yteijgoadcpphlaa
open Go.RowKit Go.Shelf
set_option linter.unusedVariables false

def SBoxed (W : World) (B : Nat) (k : K2) : Prop := W.heap[B]? = some (.cells #[.int .i64 k.1, .int .i64 k.2] 30 (0, 0))
theorem SBoxed.lt {W : World} {B : Nat} {k : K2} (h : SBoxed W B k) : B < W.heap.size := (Array.getElem?_eq_some_iff.1 h).1
theorem SBoxed.cell0 {W : World} {B : Nat} {k : K2} (h : SBoxed W B k) : W.cell? ⟨B, 0, none⟩ = some (.int .i64 k.1) := by simp [World.cell?, show W.heap[B]? = _ from h]
theorem SBoxed.cell1 {W : World} {B : Nat} {k : K2} (h : SBoxed W B k) : W.cell? ⟨B, 1, none⟩ = some (.int .i64 k.2) := by simp [World.cell?, show W.heap[B]? = _ from h]
theorem SBoxed.new (W : World) (k : K2) : SBoxed (W.alloc (.cells #[.int .i64 k.1, .int .i64 k.2] 30)) W.heap.size k := World.alloc_heap_new W _
theorem SBoxed.kept {W W' : World} {row : Option Nat} {B : Nat} {k : K2} (h : SBoxed W B k) (hg : W.grownBy W' row) (hne : some B ≠ row) : SBoxed W' B k := (hg.block B h.lt hne).trans h
theorem SBoxed.alloc {W : World} {B : Nat} {k : K2} (h : SBoxed W B k) (o : Obj) : SBoxed (W.alloc o) B k := h.kept (World.grownBy_alloc W o none) (by simp)
theorem SBoxed.load {w : World} {B : Nat} {k : K2} (h : SBoxed w B k) : (loadVar 30 ⟨B, 0, none⟩).run Try.prog w = .ok (kv k) w := step_load (o := 0) ⟨h.cell0, h.cell1⟩ h.lt (Below.refl _ _)
theorem SBoxed.set {w : World} {B : Nat} {k : K2} (k' : K2) (h : SBoxed w B k) : SBoxed ((w.setCell ⟨B, 0, none⟩ (.int .i64 k'.1)).setCell ⟨B, 1, none⟩ (.int .i64 k'.2)) B k' :=
  set_cells _ (set_cells _ h)
theorem slice_tail_st (g o n c : Nat) (hc : n + 1 ≤ c) (h63 : n ≤ 9000000) : ∃ o', ((c - 1 = 0 ∧ o' = o) ∨ o' = o + 2) ∧ ∀ w : World, (Instr.slice 24 (.slice (some ⟨g, o, none⟩) (n + 1) c) (some (.int .i64 1)) none none).run Try.prog w = .ok (.slice (some ⟨g, o', none⟩) n (c - 1)) w := by
  have u := Try.underlying24
  obtain ⟨i0, hi, hz0, hz1, hz2⟩ := info_parts infoSt
  by_cases h : c = 1
  · subst h
    obtain rfl : n = 0 := by omega
    exact ⟨o, .inl ⟨rfl, rfl⟩, fun w => by go_simp⟩
  · refine ⟨o + 2, .inr rfl, fun w => ?_⟩
    have h1 : ¬ c - 1 = 0 := by omega
    have h2 : (1 : Int) ≤ (n : Int) + 1 := by omega
    have h3 : (n : Int) + 1 ≤ (c : Int) := by omega
    go_simp
theorem sboxed_own {β : Type} (B : Nat) (f : β → K2) : Own (fun (s : β) W => SBoxed W B (f s)) := cells_own B (fun s => #[.int .i64 (f s).1, .int .i64 (f s).2]) 30
theorem len_st {v : Value} {L : Nat} (h : ∃ va vc, v = .slice va L vc) (ty : TypeId) (w : World) : (Builtin.len_ #[24] ty #[v]).run Try.prog w = .ok (.int .i64 L) w := by
  obtain ⟨va, vc, rfl⟩ := h
  exact run_len_slice w 24 ty va L vc (by kernel_rfl)
theorem idx_st {v : Value} {gg L cap : Nat} (h : v = .slice (some ⟨gg, 0, none⟩) L cap) (i : Nat) (hi : i < L) (z : Int) (hz : z = i) (w : World) :
    (Instr.indexAt 24 v (.int .i64 z)).run Try.prog w = .ok (.pointer (some ⟨gg, i * 2, none⟩)) w := by
  obtain ⟨i0, h1, h2, h3, h4⟩ := info_parts infoSt
  have he : Try.prog.elem 24 = 30 := by kernel_rfl
  subst h; subst hz
  rw [run_indexAt_slice w 24 _ _ _ _ _ (by kernel_rfl), if_pos ⟨by omega, by omega⟩, he]
  simp [sizeOf, typeInfo, h1, h3, Result.andThen, Addr.add]
  omega
theorem load_oneQ {t : TypeId} {w : World} {p : Addr} {v : Value} (ht : ∀ w, (isAgg t).run Try.prog w = .ok false w) (h : w.cell? p = some v) : (loadVar t p).run Try.prog w = .ok v w := by
  unfold loadVar
  simp only [Sem.run_bind, ht, Result.andThen_ok]
  rw [if_neg (by simp)]
  simp [h]
theorem sint_load {w : World} {p : Addr} {z : Int} (h : w.cell? p = some (.int .i64 z)) : (loadVar 3 p).run Try.prog w = .ok (.int .i64 z) w := load_oneQ (fun w => by simp [isAgg, underlying, Try.underlying3]) h
theorem sbool_load {w : World} {b : Nat} {x : Bool} (h : w.heap[b]? = some (.cells #[.bool x] 4 (0, 0))) : (loadVar 4 ⟨b, 0, none⟩).run Try.prog w = .ok (.bool x) w :=
  load_oneQ (fun w => by simp [isAgg, underlying, Try.underlying4]) (by rw [cell_of_row _ _ 0 _ _ _ h]; rfl)
end Go.Proofs.Yteijgoadcpphlaa
namespace Go.Proofs.Yteijgoadcpphlaa
open Go.RowKit Go.Shelf
attribute [local go_sem] Oper.semAt_some
set_option linter.unusedVariables false

set_option maxRecDepth 100000 in
set_option maxHeartbeats 1000000 in
/-- the iterator's closure: every key, in order, or as far as the round says -/
theorem stin_in (n l Bn n₀ : Nat) (v : Value) (ks : List K2) (hs : ks.length ≤ 8000000) (hn : 1 ≤ n) (J Jx : List K2 → World → Prop)
    (hJ : ∀ s W W', J s W → W.grownBy W' none → J s W')
    (hY : ∀ pre x W, J pre W → pre.length < ks.length → YieldAt Fence.wide (n - 1) Try.prog l #[kv x] W fun e W' =>
      (e = .returned (.bool true) ∧ J (pre ++ [x]) W' ∧ Below n₀ W W') ∨ (e = .returned (.bool false) ∧ Jx (pre ++ [x]) W'))
    (W : World) (hBn : W.cell? ⟨Bn, 0, none⟩ = some v) (hk : keysIn0 n₀ W v ks) (hn₀ : n₀ ≤ W.heap.size) (h0 : J [] W) :
    CallsIn Fence.wide n Try.prog 35 #[.func (.yield l) #[] #[], .pointer (some ⟨Bn, 0, none⟩)] W fun e W' => (∃ v, e = .returned v) ∧
      ((∃ ys : List K2, ys = ks ∧ J ys W') ∨ (∃ pre : List K2, pre <+: ks ∧ Jx pre W')) := by
  refine callsIn_of_wp Try.func35 rfl trivial ?_ rfl
  simp only [Try.ntmps35, List.size_toArray, List.length_cons, List.length_nil, Nat.reduceAdd, Nat.reduceSub, Array.replicate_succ, Array.replicate_zero, List.push_toArray, List.append_toArray, List.nil_append, List.cons_append]
  obtain ⟨a, cap, rfl, hcap, hcells⟩ := id hk
  gi_wp2
  gi_loopw [7] (fun p wr => ∃ (k : Nat), p = .int .i64 k ∧ k ≤ ks.length ∧ keysIn0 n₀ wr (.slice a ks.length cap) ks ∧ n₀ ≤ wr.heap.size ∧ J (ks.take k) wr)
    (fun p wr => ks.length + 1 - (intOf p).toNat)
  case atStart => exact ⟨0, rfl, Nat.zero_le _, hk, hn₀, h0⟩
  case round =>
    obtain ⟨k, rfl, hk1, hkw, hnw, hJs⟩ := hrel
    by_cases hlt : k < ks.length
    · have hkw' := hkw
      obtain ⟨a2, cap2, hv2, _, hcs⟩ := hkw
      cases hv2
      obtain ⟨g, off, rfl, hg0, hg, hcs⟩ := hcs.resolve_left (by omega)
      have c1 := hcs k hlt
      have C1 := c1.1
      have C2 := c1.2
      have hks : ks.take (k + 1) = ks.take k ++ [ks.getD k (0, 0)] := by rw [List.take_add_one]; simp [List.getD, hlt]
      have hlen : (ks.take k).length < ks.length := by simp; omega
      have z0 : (0 : Int) ≤ (k : Int) := by omega
      have z1 : (k : Int) < (ks.length : Int) := by omega
      clear hcs c1 hcells
      generalize ks.getD k (0, 0) = kx at *
      obtain ⟨p, q⟩ := kx
      have HKS := Lib.hid hks; clear hks
      dsimp only at C1 C2
      have hJa : J (ks.take k) ((wr.alloc (.cells #[.int .i64 p, .int .i64 q] 30))) := hJ _ _ _ hJs (World.grownBy_alloc wr _ none)
      have hka : keysIn0 n₀ (wr.alloc (.cells #[.int .i64 p, .int .i64 q] 30)) (.slice (some ⟨g, off, none⟩) ks.length cap) ks := hkw'.below ((Below.refl _ _).alloc hnw _)
      have hsa : n₀ ≤ (wr.alloc (.cells #[.int .i64 p, .int .i64 q] 30)).heap.size := by simp; omega
      obtain ⟨fn, tmps, assign, body, hy, hR⟩ := hY (ks.take k) (p, q) _ hJa hlen
      unfold kv at hy
      dsimp only at hy
      clear hY hJa
      gi_wp2
      refine hR.mono ?_
      rintro e W3 (⟨rfl, hJ3, hk3⟩ | ⟨rfl, hJx3⟩)
      · have hk3' := hka.below hk3
        have hsz3 := Nat.le_trans hsa hk3.size
        rw [← HKS.out] at hJ3
        clear hka hsa hkw' C1 C2
        gi_wp2
        exact ⟨⟨k + 1, by go_num, by omega, hk3', hsz3, hJ3⟩, by simp [intOf]; omega⟩
      · rw [← HKS.out] at hJx3
        clear hka hsa hkw' C1 C2
        gi_wp2
        refine bodyPost_ret (results_none rfl _ _ _) rfl ?_
        exact ⟨⟨_, rfl⟩, .inr ⟨_, List.take_prefix _ _, hJx3⟩⟩
    · obtain rfl : k = ks.length := by omega
      rw [List.take_length] at hJs
      gi_wp2
      go_end0
      exact ⟨⟨_, rfl⟩, .inl ⟨_, rfl, hJs⟩⟩

theorem stin_any (a : Option Addr) (n c : Nat) (w : World) :
    Calls Try.prog 26 #[.slice a n c] w fun e w' => e = .returned (.func (.func 35) #[] #[.pointer (some ⟨w.heap.size, 0, none⟩)]) ∧ w' = w.alloc (.cells #[.slice a n c] 24) := by
  go_enter Try.func26, Try.ntmps26
  go_wp2
  go_ret
  exact ⟨rfl, rfl⟩

theorem stin_stops (n Bn n₀ : Nat) (v : Value) (ks : List K2) (hs : ks.length ≤ 8000000) (hn : 1 ≤ n) (w : World) (hBn : Bn < w.heap.size) (hn₀ : n₀ ≤ w.heap.size) (hc : w.cell? ⟨Bn, 0, none⟩ = some v) (hk : keysIn0 n₀ w v ks) :
    SeqStopsK Fence.wide n Try.prog 35 #[.pointer (some ⟨Bn, 0, none⟩)] (fun x : K2 => #[kv x]) (Below n₀) (fun ys => ys = ks) (fun pre => pre <+: ks) ks.length w :=
  fun l J Jx W hW hJ _ hY h0 => stin_in n l Bn n₀ v ks hs hn J Jx (fun s A B h hg => hJ s A B none h hg (fun r e => by cases e)) hY W ((hW.cell (p := ⟨Bn, 0, none⟩) hBn).trans hc) (hk.below (hW.mono hn₀)) (Nat.le_trans hn₀ hW.size) h0
end Go.Proofs.Yteijgoadcpphlaa
namespace Go.Proofs.Yteijgoadcpphlaa
open Go.ChangeShapes Go.WideShapes Go.ChangeAt Go.RowKit Go.BigFrame Go.Shelf
attribute [local go_sem] Oper.semAt_some
set_option linter.unusedVariables false

set_option maxRecDepth 100000 in
set_option maxHeartbeats 2000000 in
theorem ifollows_any (a b : K2) (w : World) : Calls Try.prog 27 #[kv a, kv b] w fun e w' => e = .returned (.bool (folB a b)) ∧ Below w.heap.size w w' := by
  obtain ⟨p, q⟩ := a
  obtain ⟨r, s⟩ := b
  have hB : ∀ o o', Below w.heap.size w ((w.alloc o).alloc o') := fun o o' => ((Below.refl _ _).alloc (Nat.le_refl _) _).alloc (by simp) _
  by_cases h0 : p < r
  · skip
    by_cases h1 : r ≤ 1000000
    · skip
      by_cases h2 : q < s
      · skip
        by_cases h3 : s ≤ 6
        · skip
          have he : folB (p, q) (r, s) = true := by simp [folB]; omega
          rw [he]
          have HB := Lib.hid hB
          clear hB he
          unfold kv
          dsimp only
          go_enter Try.func27, Try.ntmps27
          go_wp2
          go_ret
          exact ⟨rfl, HB.out _ _⟩
        · skip
          have he : folB (p, q) (r, s) = false := by simp [folB]; omega
          rw [he]
          have HB := Lib.hid hB
          clear hB he
          unfold kv
          dsimp only
          go_enter Try.func27, Try.ntmps27
          go_wp2
          go_ret
          exact ⟨rfl, HB.out _ _⟩
      · skip
        have he : folB (p, q) (r, s) = false := by simp [folB]; omega
        rw [he]
        have HB := Lib.hid hB
        clear hB he
        unfold kv
        dsimp only
        go_enter Try.func27, Try.ntmps27
        go_wp2
        go_ret
        exact ⟨rfl, HB.out _ _⟩
    · skip
      have he : folB (p, q) (r, s) = false := by simp [folB]; omega
      rw [he]
      have HB := Lib.hid hB
      clear hB he
      unfold kv
      dsimp only
      go_enter Try.func27, Try.ntmps27
      go_wp2
      go_ret
      exact ⟨rfl, HB.out _ _⟩
  · skip
    have he : folB (p, q) (r, s) = false := by simp [folB]; omega
    rw [he]
    have HB := Lib.hid hB
    clear hB he
    unfold kv
    dsimp only
    go_enter Try.func27, Try.ntmps27
    go_wp2
    go_ret
    exact ⟨rfl, HB.out _ _⟩
set_option maxRecDepth 100000 in
set_option maxHeartbeats 2000000 in
theorem iplanok_any (v : Value) (ks : List K2) (w : World) (h : keysAt w v ks) (hs : ks.length ≤ 2000000) : Calls Try.prog 12 #[v] w fun e w' => e = .returned (.bool (plnB ks)) ∧ Below w.heap.size w w' := by
  have hk0 := keysIn0_of h
  obtain ⟨a, cap, rfl, hcap, hcells⟩ := h
  have rR := heap_alloc_new w (.cells #[.bool false] 4)
  have hb1 := (Below.refl w.heap.size w).alloc (Nat.le_refl _) (.cells #[.bool false] 4)
  cases ks with
  | nil =>
    have l3 := Lib.hid (sbool_load rR)
    have HB := Lib.hid hb1
    clear rR hb1 hcells hk0
    go_enter Try.func12, Try.ntmps12
    go_wp2_with fail
    refine bodyPost_ret (v := .bool false) ?_ rfl ⟨rfl, HB.out⟩
    rw [results_cell (p := 2) (ty := 4) (by kernel_rfl)]
    have l2 := l3.out
    simp [asAddr, Result.andThen, l2]
  | cons x r =>
    obtain ⟨g, off, rfl, hg, hcs⟩ := hcells.resolve_left (by simp)
    have c0 := hcs 0 (by simp)
    obtain ⟨p, q⟩ := x
    have C0 : w.cell? ⟨g, off, none⟩ = some (.int .i64 p) := by simpa using c0.1
    have C1 : w.cell? ⟨g, off + 1, none⟩ = some (.int .i64 q) := by simpa using c0.2
    have hlen : ((p, q) :: r).length = r.length + 1 := rfl
    rw [hlen] at hcap hk0 hs ⊢
    have hne := fun w => step_neq (p, q) (0, 1) w
    have hgu := fun op x y w => step_guard op x y (p, q) (0, 1) w
    unfold kv at hne hgu
    dsimp only at hne hgu
    have z1 : (0 : Int) < (r.length : Int) + 1 := by omega
    have z2 : ¬ ((r.length : Int) + 1 = 0) := by omega
    clear c0 hcs hcells
    cases hx : ((p, q) == (0, 1)) with
    | false =>
      rw [hx] at hne
      have HF := Lib.hid (show plnB ((p, q) :: r) = false by show ((p, q) == (0, 1) && chainB (p, q) r) = false; rw [hx]; rfl)
      have l3 := Lib.hid (sbool_load rR)
      have HB := Lib.hid hb1
      have D0 : (w.alloc (.cells #[.bool false] 4)).cell? ⟨g, off, none⟩ = some (.int .i64 p) := by rw [hb1.cell (p := ⟨g, off, none⟩) hg]; exact C0
      have D1 : (w.alloc (.cells #[.bool false] 4)).cell? ⟨g, off + 1, none⟩ = some (.int .i64 q) := by rw [hb1.cell (p := ⟨g, off + 1, none⟩) hg]; exact C1
      clear hx rR hb1 hk0 C0 C1
      go_enter Try.func12, Try.ntmps12
      go_wp2_with fail
      refine bodyPost_ret (v := .bool false) ?_ rfl ⟨by rw [HF.out], HB.out⟩
      rw [results_cell (p := 2) (ty := 4) (by kernel_rfl)]
      have l2 := l3.out
      simp [asAddr, Result.andThen, l2]
    | true =>
      obtain ⟨rfl, rfl⟩ : p = 0 ∧ q = 1 := by simpa using hx
      have HP := Lib.hid (show plnB ((0, 1) :: r) = chainB (0, 1) r by show ((0, 1) == (0, 1) && chainB (0, 1) r) = _; simp)
      rw [hx] at hne
      obtain ⟨o', ho', hsl⟩ := slice_tail_st g off r.length cap hcap (by omega)
      have kr := keysIn0_tail2 hk0 hcap ho'
      have hb2 := hb1.alloc hb1.size (.cells #[.int .i64 0, .int .i64 1] 30)
      have rX := SBoxed.new (w.alloc (.cells #[.bool false] 4)) (0, 1)
      have rR2 := (Below.heap_alloc (w.alloc (.cells #[.bool false] 4)) (.cells #[.int .i64 0, .int .i64 1] 30) _ (by simp)).trans rR
      rw [show (w.alloc (.cells #[.bool false] 4)).heap.size = w.heap.size + 1 by simp] at rX
      have hsz2 : ((w.alloc (.cells #[.bool false] 4)).alloc (.cells #[.int .i64 0, .int .i64 1] 30)).heap.size = w.heap.size + 2 := by simp
      have D0 : (w.alloc (.cells #[.bool false] 4)).cell? ⟨g, off, none⟩ = some (.int .i64 0) := by rw [hb1.cell (p := ⟨g, off, none⟩) hg]; exact C0
      have D1 : (w.alloc (.cells #[.bool false] 4)).cell? ⟨g, off + 1, none⟩ = some (.int .i64 1) := by rw [hb1.cell (p := ⟨g, off + 1, none⟩) hg]; exact C1
      clear hx rR hb1 C0 C1 hk0 ho'
      refine (callsIn_wide (n := 9)).1 ?_
      refine callsIn_of_wp_marks Try.func12 rfl trivial ?_ rfl
      simp only [Try.ntmps12, List.size_toArray, List.length_cons, List.length_nil, Nat.reduceAdd, Nat.reduceSub, Array.replicate_succ, Array.replicate_zero, List.push_toArray, List.append_toArray, List.nil_append, List.cons_append]
      gi_wp2
      generalize (w.alloc (.cells #[.bool false] 4)).alloc (.cells #[.int .i64 0, .int .i64 1] 30) = W2 at *
      refine ⟨trivial, (callsIn_wide.2 (stin_any _ _ _ _)).mono ?_⟩
      rintro e w3 ⟨rfl, rfl⟩
      have bS := Boxed.new W2 24 (.slice (some ⟨g, o', none⟩) r.length (cap - 1))
      rw [hsz2] at bS
      have rR3 := (Below.heap_alloc W2 (.cells #[.slice (some ⟨g, o', none⟩) r.length (cap - 1)] 24) _ (Array.getElem?_eq_some_iff.1 rR2).1).trans rR2
      have rX3 := rX.alloc (.cells #[.slice (some ⟨g, o', none⟩) r.length (cap - 1)] 24)
      have hB0 := hb2.alloc hb2.size (.cells #[.slice (some ⟨g, o', none⟩) r.length (cap - 1)] 24)
      have hsz : (W2.alloc (.cells #[.slice (some ⟨g, o', none⟩) r.length (cap - 1)] 24)).heap.size = w.heap.size + 3 := by simp; omega
      clear rR2 rX hb2 D0 D1 hne hgu hsl
      gi_wp2
      generalize W2.alloc (.cells #[.slice (some ⟨g, o', none⟩) r.length (cap - 1)] 24) = W0 at *
      refine wpIn_rangeFunc_ownH (n := 9) rfl (by omega) (gf := 35) (lb := #[.pointer (some ⟨w.heap.size + 2, 0, none⟩)]) rfl trivial (enters_of Try.func35 (by kernel_rfl) rfl)
        (stin_stops 8 (w.heap.size + 2) w.heap.size (.slice (some ⟨g, o', none⟩) r.length (cap - 1)) r (by omega) (by omega) W0 (by omega) (by omega) bS.cell (kr.below hB0)) belowK_t (belowK_b (by omega)) (Below.refl _ _) (fun _ => rfl)
        (fun pre W => chainB (0, 1) pre = true ∧ SBoxed W (w.heap.size + 1) (lastK (0, 1) pre) ∧ W.heap[w.heap.size]? = some (.cells #[.bool false] 4 (0, 0)) ∧ Below w.heap.size w W)
        (fun c pre W => (c = .ret ∧ chainB (0, 1) pre = false) ∧ W.heap[w.heap.size]? = some (.cells #[.bool false] 4 (0, 0)) ∧ Below w.heap.size w W)
        (OwnFrom.and (ownFrom_pure _ (fun pre : List K2 => chainB (0, 1) pre = true)) (OwnFrom.and (Own.from (sboxed_own (w.heap.size + 1) (fun pre : List K2 => lastK (0, 1) pre)) _) (OwnFrom.and (Own.from (cells_own w.heap.size (fun _ => #[.bool false]) 4) _) (ownFrom_below (Nat.le_refl _) (by omega)))))
        (fun c => OwnFrom.and (ownFrom_pure _ (fun pre : List K2 => c = .ret ∧ chainB (0, 1) pre = false)) (OwnFrom.and (Own.from (cells_own w.heap.size (fun _ => #[.bool false]) 4) _) (ownFrom_below (Nat.le_refl _) (by omega))))
        ⟨rfl, rX3, rR3, hB0⟩
        (fun x a' W => ∃ Bx, w.heap.size + 1 < Bx ∧ SBoxed W Bx x ∧ a' = { tmps := #[.slice (some ⟨g, off, none⟩) (r.length + 1) cap, undef, .pointer (some ⟨w.heap.size, 0, none⟩), .pointer (some ⟨w.heap.size + 1, 0, none⟩), .pointer (some ⟨Bx, 0, none⟩), .slice (some ⟨g, off, none⟩) (r.length + 1) cap, .int .i64 ((r.length : Int) + 1), .bool false, .bool false, .slice (some ⟨g, off, none⟩) (r.length + 1) cap, .pointer (some ⟨g, off, none⟩), .agg #[.int .i64 0, .int .i64 1], .agg #[.int .i64 0, .int .i64 1], .bool false, .bool false, .slice (some ⟨g, off, none⟩) (r.length + 1) cap, .pointer (some ⟨g, off, none⟩), .agg #[.int .i64 0, .int .i64 1], .slice (some ⟨g, off, none⟩) (r.length + 1) cap, .slice (some ⟨g, o', none⟩) r.length (cap - 1), .func (.func 35) #[] #[.pointer (some ⟨w.heap.size + 2, 0, none⟩)], kv x, undef, undef, undef, undef, undef], defers := [] })
        (fun x a' _ X Y row hs hg hr => by
          obtain ⟨Bx, e1, e2, e4⟩ := hs
          exact ⟨Bx, e1, sboxed_own Bx (fun _ : Unit => x) () X Y row e2 hg (fun r e => (hr r e).2), e4⟩)
        ?assign ?body ?done ?stop
      case assign =>
        rintro l pre ⟨p, q⟩ W K ⟨hch, hX, hR, hB⟩ hK
        unfold kv at *
        dsimp only at *
        gi_wp2
        exact hK _ _ ((KeepsOthers.alloc _ _).from _) ((Below.refl _ W).alloc hB.size _) ⟨hch, hX.alloc _, (Below.heap_alloc _ _ _ (Array.getElem?_eq_some_iff.1 hR).1).trans hR, hB.alloc hB.size _⟩ ⟨W.heap.size, hX.lt, SBoxed.new W (p, q), rfl⟩
      case body =>
        rintro l pre ⟨p, q⟩ a' W hl ⟨rr, hr⟩ ⟨hch, hX, hR, hB⟩ ⟨Bx, hBx, bX, rfl⟩ hlt
        have HSN := Lib.hid (chain_snoc pre (0, 1) (p, q))
        have HLS := Lib.hid (lastK_snoc (0, 1) pre (p, q))
        rw [hch] at HSN
        generalize lastK (0, 1) pre = A at *
        obtain ⟨pa, qa⟩ := A
        have HF := Lib.hid (fun w => ifollows_any (pa, qa) (p, q) w)
        have hsW := hB.size
        have hne1 : w.heap.size + 1 ≠ Bx := by omega
        have x0 := hX.cell0
        have x1 := hX.cell1
        have y0 := bX.cell0
        have y1 := bX.cell1
        unfold kv at *
        dsimp only at *
        cases hf : folB (pa, qa) (p, q) with
        | false =>
          rw [hf] at HF HSN
          gi_wp2
          refine ⟨trivial, (CallsIn.inRound l (callsIn_wide.2 (HF.out _))).mono ?_⟩
          rintro e W1 ⟨rfl, hb⟩
          have g1 := grown_of_below' hb none
          have HRE := (hb.block _ (Array.getElem?_eq_some_iff.1 hR).1).trans hR
          have HR2 := Lib.hid (show (W1.setCell ⟨w.heap.size, 0, none⟩ (.bool false)).heap[w.heap.size]? = some (.cells #[.bool false] 4 (0, 0)) from set_cells (.bool false) HRE)
          have HB2 := Lib.hid ((hB.trans (hb.mono hsW)).setCell (p := ⟨w.heap.size, 0, none⟩) (Nat.le_refl _) (.bool false))
          have HK2 := Lib.hid ((KeepsOthers.of_grownBy g1 (fun j o e => by cases e) : KeepsOthers W W1).trans (KeepsOthers.setCell W1 ⟨w.heap.size, 0, none⟩ (.bool false)))
          have e0 : W1.cell? ⟨w.heap.size, 0, none⟩ = some (.bool false) := by rw [cell_of_row _ _ 0 _ _ _ HRE]; rfl
          have ef : W1.frozen? ⟨w.heap.size, 0, none⟩ = false := by simp [World.frozen?, HRE]
          have el := (Array.getElem?_eq_some_iff.1 HRE).1
          clear hR hX bX hb g1 hB HRE x0 x1 y0 y1 hr
          gi_wp2
          exact ⟨HK2.out.from _, ⟨rfl, by rw [HSN.out]; rfl⟩, HR2.out, HB2.out⟩
        | true =>
          rw [hf] at HF HSN
          gi_wp2
          refine ⟨trivial, (CallsIn.inRound l (callsIn_wide.2 (HF.out _))).mono ?_⟩
          rintro e W1 ⟨rfl, hb⟩
          have g1 := grown_of_below' hb none
          have HRE := (hb.block _ (Array.getElem?_eq_some_iff.1 hR).1).trans hR
          have hX1 := hX.kept g1 (by simp)
          have bX1 := bX.kept g1 (by simp)
          have HX2 := Lib.hid (SBoxed.set (p, q) hX1)
          have HBW := hB.trans (hb.mono hsW)
          have HB2 := Lib.hid ((HBW.setCell (p := ⟨w.heap.size + 1, 0, none⟩) (by simp only []; omega) (.int .i64 p)).setCell (p := ⟨w.heap.size + 1, 1, none⟩) (by simp only []; omega) (.int .i64 q))
          have HBP2 := Lib.hid (((hb.mono hsW).setCell (p := ⟨w.heap.size + 1, 0, none⟩) (by simp only []; omega) (.int .i64 p)).setCell (p := ⟨w.heap.size + 1, 1, none⟩) (by simp only []; omega) (.int .i64 q))
          have HK2 := Lib.hid (((KeepsOthers.of_grownBy g1 (fun j o e => by cases e) : KeepsOthers W W1).trans (KeepsOthers.setCell W1 ⟨w.heap.size + 1, 0, none⟩ (.int .i64 p))).trans (KeepsOthers.setCell (W1.setCell ⟨w.heap.size + 1, 0, none⟩ (.int .i64 p)) ⟨w.heap.size + 1, 1, none⟩ (.int .i64 q)))
          have HR2 := Lib.hid ((Below.heap_setCell (W1.setCell ⟨w.heap.size + 1, 0, none⟩ (.int .i64 p)) ⟨w.heap.size + 1, 1, none⟩ (.int .i64 q) w.heap.size (by simp only []; omega)).trans ((Below.heap_setCell W1 ⟨w.heap.size + 1, 0, none⟩ (.int .i64 p) w.heap.size (by simp only []; omega)).trans HRE))
          have x0 := hX1.cell0
          have x1 := hX1.cell1
          have y0 := bX1.cell0
          have y1 := bX1.cell1
          have f0 : W1.frozen? ⟨w.heap.size + 1, 0, none⟩ = false := by simp [World.frozen?, show W1.heap[w.heap.size + 1]? = _ from hX1]
          have f1 : W1.frozen? ⟨w.heap.size + 1, 1, none⟩ = false := by simp [World.frozen?, show W1.heap[w.heap.size + 1]? = _ from hX1]
          have el := hX1.lt
          dsimp only at x0 x1 y0 y1 HX2
          clear hR hX bX hb g1 hB HRE hr hX1 bX1 HBW
          gi_wp2
          exact ⟨HK2.out.from _, HBP2.out, by rw [HSN.out]; rfl, by rw [HLS.out]; exact HX2.out, HR2.out, HB2.out⟩
      case done =>
        rintro D ys W hD hys ⟨hch, hX, hR, hB⟩ hK
        subst hys
        have HR2 := Lib.hid (show (W.setCell ⟨w.heap.size, 0, none⟩ (.bool true)).heap[w.heap.size]? = some (.cells #[.bool true] 4 (0, 0)) from set_cells (.bool true) hR)
        have HK2 := Lib.hid ((Below.heap_setCell W ⟨w.heap.size, 0, none⟩ (.bool true) D (by simp only []; omega)).trans hK)
        have HB2 := Lib.hid (hB.setCell (p := ⟨w.heap.size, 0, none⟩) (Nat.le_refl _) (.bool true))
        have e0 : W.cell? ⟨w.heap.size, 0, none⟩ = some (.bool false) := by rw [cell_of_row _ _ 0 _ _ _ hR]; rfl
        have ef : W.frozen? ⟨w.heap.size, 0, none⟩ = false := by simp [World.frozen?, hR]
        have el := (Array.getElem?_eq_some_iff.1 hR).1
        clear hR hX hB hK
        gi_wp2
        try rw [Exit.noGoto_ret]
        refine ⟨by simp, .inl ⟨_, _, rfl, run_takeDeferred HK2.out, ?_⟩⟩
        have hR3 := (World.putObj_heap_other (w := W.setCell ⟨w.heap.size, 0, none⟩ (.bool true)) (r := D) (o := .deferred none) (show w.heap.size ≠ D by omega)).trans HR2.out
        have l3 := sbool_load hR3
        refine ⟨.bool true, ?_, by rw [HP.out, hch], HB2.out.trans (belowK_b (w := w) (Nat.le_refl _) _ D _ _ (by omega) HK2.out rfl rfl)⟩
        rw [results_cell (p := 2) (ty := 4) (by kernel_rfl)]
        simp [asAddr, Result.andThen, l3]
      case stop =>
        rintro D c pre W hD hpre ⟨⟨rfl, hno⟩, hR, hB⟩ hK
        gi_wp2
        try rw [Exit.noGoto_ret]
        refine ⟨by simp, .inl ⟨_, _, rfl, run_takeDeferred hK, ?_⟩⟩
        have hR3 := (World.putObj_heap_other (w := W) (r := D) (o := .deferred none) (show w.heap.size ≠ D by omega)).trans hR
        have l3 := sbool_load hR3
        refine ⟨.bool false, ?_, by rw [HP.out, chain_pre hpre hno], hB.trans (belowK_b (w := w) (Nat.le_refl _) W D _ _ (by omega) hK rfl rfl)⟩
        rw [results_cell (p := 2) (ty := 4) (by kernel_rfl)]
        simp [asAddr, Result.andThen, l3]
end Go.Proofs.Yteijgoadcpphlaa
namespace Go.Proofs.Yteijgoadcpphlaa
open Go.ChangeShapes Go.WideShapes Go.ChangeAt Go.RowKit Go.BigFrame
set_option linter.unusedVariables false

theorem plAll_false {ks : List K2} {k n : Nat} (hk : k < n) (h : plStep ks k = false) : (List.range n).all (plStep ks) = false := by
  rw [List.all_eq_false]
  exact ⟨k, List.mem_range.2 hk, by simp [h]⟩
theorem plAll_succ (ks : List K2) (k : Nat) : (List.range (k + 1)).all (plStep ks) = ((List.range k).all (plStep ks) && plStep ks k) := by
  rw [List.range_succ, List.all_append]
  simp
theorem build_st (a b : Int) (w : World) : (Instr.build 30 #[(0, .int .i64 a), (1, .int .i64 b)]).run Try.prog w = .ok (.agg #[.int .i64 a, .int .i64 b]) w := run_build w 30 _ _ (by kernel_rfl)
theorem build_st1 (b : Int) (w : World) : (Instr.build 30 #[(1, .int .i64 b)]).run Try.prog w = .ok (.agg #[.int .i64 0, .int .i64 b]) w := run_build w 30 _ _ (by kernel_rfl)
set_option maxRecDepth 100000 in
set_option maxHeartbeats 2000000 in
theorem splanok_any (v : Value) (ks : List K2) (w : World) (h : keysAt w v ks) (hs : ks.length ≤ 2000000) : Calls Try.prog 13 #[v] w fun e w' => e = .returned (.bool (plnB ks)) ∧ Below w.heap.size w w' := by
  obtain ⟨a, cap, rfl, hcap, hcells⟩ := h
  have HI := Lib.hid (fun w => sin_any (ks.length : Int) 1 6 w)
  by_cases hl : 1 ≤ ks.length ∧ ks.length ≤ 6
  · obtain ⟨x, r, hxr⟩ : ∃ x r, ks = x :: r := by
      cases ks with
      | nil => simp at hl
      | cons x r => exact ⟨x, r, rfl⟩
    have HPA := Lib.hid (show plnB ks = (x == (0, 1) && (List.range r.length).all (plStep ks)) by rw [hxr]; exact pln_all x r)
    have hrl : ks.length = r.length + 1 := by rw [hxr]; rfl
    obtain ⟨g, off, rfl, hg, hcs⟩ := hcells.resolve_left (by omega)
    have b1 : (decide ((1 : Int) ≤ (ks.length : Int)) && decide ((ks.length : Int) ≤ 6)) = true := by simp; omega
    rw [b1] at HI
    have c0 := hcs 0 (by omega)
    rw [show ks.getD 0 (0, 0) = x by rw [hxr]; rfl] at c0
    obtain ⟨p, q⟩ := x
    have C0 : w.cell? ⟨g, off, none⟩ = some (.int .i64 p) := by simpa using c0.1
    have C1 : w.cell? ⟨g, off + 1, none⟩ = some (.int .i64 q) := by simpa using c0.2
    have z1 : (0 : Int) < (ks.length : Int) := by omega
    have hne := fun w => step_neq (p, q) (0, 1) w
    have hgu := fun op x y w => step_guard op x y (p, q) (0, 1) w
    unfold kv at hne hgu
    dsimp only at hne hgu
    have HRL := Lib.hid hrl
    have HCS := Lib.hid hcs
    clear c0 hxr hcells hrl hcs
    cases hx : ((p, q) == (0, 1)) with
    | false =>
      rw [hx] at hne
      have HF := Lib.hid (show plnB ks = false by rw [HPA.out, hx]; rfl)
      clear hx
      go_enter Try.func13, Try.ntmps13
      go_wp2_with fail
      refine (HI.out _).mono ?_
      rintro e w1 ⟨rfl, rfl⟩
      go_wp2
      go_ret
      exact ⟨by rw [HF.out]; rfl, Below.refl _ _⟩
    | true =>
      rw [hx] at hne
      have HT := Lib.hid (show plnB ks = (List.range (ks.length - 1)).all (plStep ks) by rw [HPA.out, hx, HRL.out]; rfl)
      clear hx HPA
      go_enter Try.func13, Try.ntmps13
      go_wp2_with fail
      refine (HI.out _).mono ?_
      rintro e w1 ⟨rfl, rfl⟩
      have HL := Lib.hid hl
      clear hl HRL HI
      go_wp2
      clear hne hgu C0 C1 z1
      go_loopw [3] (fun i wr => ∃ k : Nat, 1 ≤ k ∧ k ≤ ks.length ∧ i = .int .i64 k ∧ (List.range (k - 1)).all (plStep ks) = true ∧ Below w1.heap.size w1 wr) (fun i _ => ks.length - (intOf i).toNat)
      case atStart => exact ⟨1, by omega, HL.out.1, rfl, rfl, Below.refl _ _⟩
      case round =>
        obtain ⟨k, hk1, hk, rfl, hall, hb⟩ := hrel
        by_cases hlt : k < ks.length
        · have cA := HCS.out (k - 1) (by omega)
          have cB := HCS.out k hlt
          have HST := Lib.hid (show plStep ks (k - 1) = folB (ks.getD (k - 1) (0, 0)) (ks.getD k (0, 0)) by unfold plStep; rw [show k - 1 + 1 = k by omega])
          generalize ks.getD (k - 1) (0, 0) = A at *
          generalize ks.getD k (0, 0) = B at *
          obtain ⟨pa, qa⟩ := A
          obtain ⟨pb, qb⟩ := B
          dsimp only at cA cB
          have LA0 : ∀ w', Below w1.heap.size w1 w' → (loadVar 3 ⟨g, off + (k - 1) * 2, none⟩).run Try.prog w' = .ok (.int .i64 pa) w' := fun w' h => sint_load (by rw [h.cell (p := ⟨g, off + (k - 1) * 2, none⟩) hg]; exact cA.1)
          have LA1 : ∀ w', Below w1.heap.size w1 w' → (loadVar 3 ⟨g, off + (k - 1) * 2 + 1, none⟩).run Try.prog w' = .ok (.int .i64 qa) w' := fun w' h => sint_load (by rw [h.cell (p := ⟨g, off + (k - 1) * 2 + 1, none⟩) hg]; exact cA.2)
          have LB0 : ∀ w', Below w1.heap.size w1 w' → (loadVar 3 ⟨g, off + k * 2, none⟩).run Try.prog w' = .ok (.int .i64 pb) w' := fun w' h => sint_load (by rw [h.cell (p := ⟨g, off + k * 2, none⟩) hg]; exact cB.1)
          have LB1 : ∀ w', Below w1.heap.size w1 w' → (loadVar 3 ⟨g, off + k * 2 + 1, none⟩).run Try.prog w' = .ok (.int .i64 qb) w' := fun w' h => sint_load (by rw [h.cell (p := ⟨g, off + k * 2 + 1, none⟩) hg]; exact cB.2)
          have z0 : (0 : Int) ≤ (k : Int) := by omega
          have z1 : (k : Int) < (ks.length : Int) := by omega
          have y1 : (0 : Int) ≤ (k : Int) - 1 := by omega
          have y3 : (1 : Int) ≤ (k : Int) := by omega
          have y2 : (k : Int) - 1 < (ks.length : Int) := by omega
          have ew : IntKind.i64.wrap ((k : Int) - 1) = (k : Int) - 1 := IntWalk.i64_in _ (by omega)
          have et : ((k : Int) - 1).toNat = k - 1 := by omega
          have HA := Lib.hid hall
          have HB := Lib.hid hb
          clear cA cB hall hb
          by_cases h0 : pb ≤ pa
          · have HF := Lib.hid (show plnB ks = false by rw [HT.out]; exact plAll_false (k := k - 1) (by omega) (by rw [HST.out]; simp [folB]; omega))
            clear HA HST
            have d0 : decide (pb ≤ pa) = true := decide_eq_true h0
            go_wp2
            refine wp_region_below w1 (by kernel_rfl) (by kernel_rfl) HB.out ?_
            repeat (first
              | go_big_quiet_skip
              | (go_big_quiet_want
                 first
                   | (go_big_quiet_op; go_big_quiet_on)
                   | (refine q_load 3 _ _ _ rfl rfl LA0 ?_; simp only [Act.put, List.setIfInBounds_toArray, List.set_cons_zero, List.set_cons_succ]; go_big_quiet_on)
                   | (refine q_load 3 _ _ _ rfl rfl LA1 ?_; simp only [Act.put, List.setIfInBounds_toArray, List.set_cons_zero, List.set_cons_succ]; go_big_quiet_on)
                   | (refine q_load 3 _ _ _ rfl rfl LB0 ?_; simp only [Act.put, List.setIfInBounds_toArray, List.set_cons_zero, List.set_cons_succ]; go_big_quiet_on)
                   | (refine q_load 3 _ _ _ rfl rfl LB1 ?_; simp only [Act.put, List.setIfInBounds_toArray, List.set_cons_zero, List.set_cons_succ]; go_big_quiet_on)
                   | (go_big_quiet_op; refine ⟨_, fun _ _ => rfl, ?_⟩; go_big_quiet_on)))
            refine wpQuiet_nil ?_
            intro wq hbq
            go_wp2
            go_ret
            exact ⟨by rw [HF.out]; rfl, hbq⟩
          · have d0 : decide (pb ≤ pa) = false := decide_eq_false h0
            by_cases h1 : qb ≤ qa
            · have HF := Lib.hid (show plnB ks = false by rw [HT.out]; exact plAll_false (k := k - 1) (by omega) (by rw [HST.out]; simp [folB]; omega))
              clear HA HST
              have d1 : decide (qb ≤ qa) = true := decide_eq_true h1
              go_wp2
              refine wp_region_below w1 (by kernel_rfl) (by kernel_rfl) HB.out ?_
              repeat (first
                | go_big_quiet_skip
                | (go_big_quiet_want
                   first
                     | (go_big_quiet_op; go_big_quiet_on)
                     | (refine q_load 3 _ _ _ rfl rfl LA0 ?_; simp only [Act.put, List.setIfInBounds_toArray, List.set_cons_zero, List.set_cons_succ]; go_big_quiet_on)
                     | (refine q_load 3 _ _ _ rfl rfl LA1 ?_; simp only [Act.put, List.setIfInBounds_toArray, List.set_cons_zero, List.set_cons_succ]; go_big_quiet_on)
                     | (refine q_load 3 _ _ _ rfl rfl LB0 ?_; simp only [Act.put, List.setIfInBounds_toArray, List.set_cons_zero, List.set_cons_succ]; go_big_quiet_on)
                     | (refine q_load 3 _ _ _ rfl rfl LB1 ?_; simp only [Act.put, List.setIfInBounds_toArray, List.set_cons_zero, List.set_cons_succ]; go_big_quiet_on)
                     | (go_big_quiet_op; refine ⟨_, fun _ _ => rfl, ?_⟩; go_big_quiet_on)))
              refine wpQuiet_nil ?_
              intro wq hbq
              go_wp2
              go_ret
              exact ⟨by rw [HF.out]; rfl, hbq⟩
            · have d1 : decide (qb ≤ qa) = false := decide_eq_false h1
              by_cases h2 : 1000000 < pb
              · have HF := Lib.hid (show plnB ks = false by rw [HT.out]; exact plAll_false (k := k - 1) (by omega) (by rw [HST.out]; simp [folB]; omega))
                clear HA HST
                have d2 : decide (1000000 < pb) = true := decide_eq_true h2
                go_wp2
                refine wp_region_below w1 (by kernel_rfl) (by kernel_rfl) HB.out ?_
                repeat (first
                  | go_big_quiet_skip
                  | (go_big_quiet_want
                     first
                       | (go_big_quiet_op; go_big_quiet_on)
                       | (refine q_load 3 _ _ _ rfl rfl LA0 ?_; simp only [Act.put, List.setIfInBounds_toArray, List.set_cons_zero, List.set_cons_succ]; go_big_quiet_on)
                       | (refine q_load 3 _ _ _ rfl rfl LA1 ?_; simp only [Act.put, List.setIfInBounds_toArray, List.set_cons_zero, List.set_cons_succ]; go_big_quiet_on)
                       | (refine q_load 3 _ _ _ rfl rfl LB0 ?_; simp only [Act.put, List.setIfInBounds_toArray, List.set_cons_zero, List.set_cons_succ]; go_big_quiet_on)
                       | (refine q_load 3 _ _ _ rfl rfl LB1 ?_; simp only [Act.put, List.setIfInBounds_toArray, List.set_cons_zero, List.set_cons_succ]; go_big_quiet_on)
                       | (go_big_quiet_op; refine ⟨_, fun _ _ => rfl, ?_⟩; go_big_quiet_on)))
                refine wpQuiet_nil ?_
                intro wq hbq
                go_wp2
                go_ret
                exact ⟨by rw [HF.out]; rfl, hbq⟩
              · have d2 : decide (1000000 < pb) = false := decide_eq_false h2
                by_cases h3 : 6 < qb
                · have HF := Lib.hid (show plnB ks = false by rw [HT.out]; exact plAll_false (k := k - 1) (by omega) (by rw [HST.out]; simp [folB]; omega))
                  clear HA HST
                  have d3 : decide (6 < qb) = true := decide_eq_true h3
                  go_wp2
                  refine wp_region_below w1 (by kernel_rfl) (by kernel_rfl) HB.out ?_
                  repeat (first
                    | go_big_quiet_skip
                    | (go_big_quiet_want
                       first
                         | (go_big_quiet_op; go_big_quiet_on)
                         | (refine q_load 3 _ _ _ rfl rfl LA0 ?_; simp only [Act.put, List.setIfInBounds_toArray, List.set_cons_zero, List.set_cons_succ]; go_big_quiet_on)
                         | (refine q_load 3 _ _ _ rfl rfl LA1 ?_; simp only [Act.put, List.setIfInBounds_toArray, List.set_cons_zero, List.set_cons_succ]; go_big_quiet_on)
                         | (refine q_load 3 _ _ _ rfl rfl LB0 ?_; simp only [Act.put, List.setIfInBounds_toArray, List.set_cons_zero, List.set_cons_succ]; go_big_quiet_on)
                         | (refine q_load 3 _ _ _ rfl rfl LB1 ?_; simp only [Act.put, List.setIfInBounds_toArray, List.set_cons_zero, List.set_cons_succ]; go_big_quiet_on)
                         | (go_big_quiet_op; refine ⟨_, fun _ _ => rfl, ?_⟩; go_big_quiet_on)))
                  refine wpQuiet_nil ?_
                  intro wq hbq
                  go_wp2
                  go_ret
                  exact ⟨by rw [HF.out]; rfl, hbq⟩
                · have d3 : decide (6 < qb) = false := decide_eq_false h3
                  have HN := Lib.hid (show (List.range (k + 1 - 1)).all (plStep ks) = true by rw [show k + 1 - 1 = k - 1 + 1 by omega, plAll_succ, HA.out, HST.out]; simp [folB]; omega)
                  clear HA HST
                  go_wp2
                  refine wp_region_below w1 (by kernel_rfl) (by kernel_rfl) HB.out ?_
                  repeat (first
                    | go_big_quiet_skip
                    | (go_big_quiet_want
                       first
                         | (go_big_quiet_op; go_big_quiet_on)
                         | (refine q_load 3 _ _ _ rfl rfl LA0 ?_; simp only [Act.put, List.setIfInBounds_toArray, List.set_cons_zero, List.set_cons_succ]; go_big_quiet_on)
                         | (refine q_load 3 _ _ _ rfl rfl LA1 ?_; simp only [Act.put, List.setIfInBounds_toArray, List.set_cons_zero, List.set_cons_succ]; go_big_quiet_on)
                         | (refine q_load 3 _ _ _ rfl rfl LB0 ?_; simp only [Act.put, List.setIfInBounds_toArray, List.set_cons_zero, List.set_cons_succ]; go_big_quiet_on)
                         | (refine q_load 3 _ _ _ rfl rfl LB1 ?_; simp only [Act.put, List.setIfInBounds_toArray, List.set_cons_zero, List.set_cons_succ]; go_big_quiet_on)
                         | (go_big_quiet_op; refine ⟨_, fun _ _ => rfl, ?_⟩; go_big_quiet_on)))
                  refine wpQuiet_nil ?_
                  intro wq hbq
                  go_wp2
                  exact ⟨⟨k + 1, by omega, by omega, by go_num, HN.out, hbq⟩, by simp [intOf]; omega⟩
        · obtain rfl : k = ks.length := by omega
          have HF := Lib.hid (show plnB ks = true by rw [HT.out]; exact hall)
          go_wp2
          go_ret
          exact ⟨by rw [HF.out]; rfl, hb⟩
  · have b1 : (decide ((1 : Int) ≤ (ks.length : Int)) && decide ((ks.length : Int) ≤ 6)) = false := by
      cases h : (decide ((1 : Int) ≤ (ks.length : Int)) && decide ((ks.length : Int) ≤ 6)) with
      | false => rfl
      | true => simp at h; omega
    rw [b1] at HI
    have HF := Lib.hid (show plnB ks = false by
      cases h : plnB ks with
      | false => rfl
      | true => exact absurd (pln_len h) hl)
    clear hcells hl b1
    go_enter Try.func13, Try.ntmps13
    go_wp2_with fail
    refine (HI.out _).mono ?_
    rintro e w1 ⟨rfl, rfl⟩
    go_wp2
    go_ret
    exact ⟨by rw [HF.out]; rfl, Below.refl _ _⟩
set_option maxRecDepth 100000 in
set_option maxHeartbeats 2000000 in
theorem sdegreeat_any (v : Value) (ks : List K2) (now : Int) (w : World) (h : keysAt w v ks) (hs : ks.length ≤ 2000000) : Calls Try.prog 11 #[v, .int .i64 now] w fun e w' => e = .returned (.int .i64 (degV ks now)) ∧ Below w.heap.size w w' := by
  have HP := Lib.hid (fun w' hb => splanok_any v ks w' (keysAt_below h hb) hs)
  obtain ⟨a, cap, rfl, hcap, hcells⟩ := h
  have HCS := Lib.hid hcells
  clear hcells
  cases hp : plnB ks with
  | false =>
    rw [hp] at HP
    have HF := Lib.hid (show degV ks now = 1 by unfold degV; rw [hp]; rfl)
    clear hp
    go_enter Try.func11, Try.ntmps11
    go_wp2
    go_loopw [5, 6] (fun d i wr => d = .int .i64 1 ∧ i = .int .i64 0 ∧ Below w.heap.size w wr) (fun _ _ _ => 0)
    case atStart => exact ⟨rfl, rfl, Below.refl _ _⟩
    case round =>
      obtain ⟨rfl, rfl, hb⟩ := hrel
      by_cases hlt : 0 < ks.length
      · have z1 : (0 : Int) < (ks.length : Int) := by omega
        have HC := Lib.hid (HP.out _ hb)
        have HB := Lib.hid hb
        clear hb
        go_wp2_with fail
        refine HC.out.mono ?_
        rintro e w2 ⟨rfl, hb2⟩
        have hbq := HB.out.trans (hb2.mono HB.out.size)
        clear hb2
        go_wp2
        go_ret
        exact ⟨by rw [HF.out]; rfl, hbq⟩
      · have z1 : ¬ (0 : Int) < (ks.length : Int) := by omega
        go_wp2
        go_ret
        exact ⟨by rw [HF.out]; rfl, hb⟩
  | true =>
    rw [hp] at HP
    have HF := Lib.hid (show degV ks now = degS ks now by unfold degV; rw [hp]; rfl)
    clear hp
    go_enter Try.func11, Try.ntmps11
    go_wp2
    go_loopw [5, 6] (fun d i wr => ∃ k : Nat, k ≤ ks.length ∧ d = .int .i64 (degS (ks.take k) now) ∧ i = .int .i64 k ∧ Below w.heap.size w wr) (fun _ i _ => ks.length - (intOf i).toNat)
    case atStart => exact ⟨0, Nat.zero_le _, rfl, rfl, Below.refl _ _⟩
    case round =>
      obtain ⟨k, hk, rfl, rfl, hb⟩ := hrel
      by_cases hlt : k < ks.length
      · obtain ⟨g, off, rfl, hg, hcs⟩ := HCS.out.resolve_left (by omega)
        have cB := hcs k hlt
        have HTK := Lib.hid (show degS (ks.take (k + 1)) now = degF now (degS (ks.take k) now) (ks.getD k (0, 0)) by
          rw [List.take_succ_eq_append_getElem hlt, degS_snoc]; simp [List.getD, hlt])
        have z0 : (0 : Int) ≤ (k : Int) := by omega
        have z1 : (k : Int) < (ks.length : Int) := by omega
        have HC := Lib.hid (HP.out _ hb)
        have HB := Lib.hid hb
        clear hb hcs
        generalize ks.getD k (0, 0) = B at *
        obtain ⟨pb, qb⟩ := B
        generalize degS (ks.take k) now = D at *
        dsimp only at cB
        go_wp2_with fail
        refine HC.out.mono ?_
        rintro e w2 ⟨rfl, hb2⟩
        have hbq := HB.out.trans (hb2.mono HB.out.size)
        have b0 : w2.cell? ⟨g, off + k * 2, none⟩ = some (.int .i64 pb) := by rw [hbq.cell (p := ⟨g, off + k * 2, none⟩) hg]; exact cB.1
        have b1 : w2.cell? ⟨g, off + k * 2 + 1, none⟩ = some (.int .i64 qb) := by rw [hbq.cell (p := ⟨g, off + k * 2 + 1, none⟩) hg]; exact cB.2
        clear hb2 cB HC
        by_cases hc : pb ≤ now
        · have HD := Lib.hid (show degS (ks.take (k + 1)) now = qb by rw [HTK.out]; unfold degF; rw [if_pos hc])
          go_wp2
          exact ⟨⟨k + 1, by omega, by rw [HD.out], by go_num, hbq⟩, by simp [intOf]; omega⟩
        · have HD := Lib.hid (show degS (ks.take (k + 1)) now = D by rw [HTK.out]; unfold degF; rw [if_neg hc])
          go_wp2
          exact ⟨⟨k + 1, by omega, by rw [HD.out], by go_num, hbq⟩, by simp [intOf]; omega⟩
      · obtain rfl : k = ks.length := by omega
        rw [List.take_length] at *
        have z1 : ¬ (ks.length : Int) < (ks.length : Int) := by omega
        go_wp2
        go_ret
        exact ⟨by rw [HF.out]; rfl, hb⟩
end Go.Proofs.Yteijgoadcpphlaa
namespace Go.Proofs.Yteijgoadcpphlaa
open Go.ChangeShapes Go.WideShapes Go.ChangeAt Go.RowKit Go.BigFrame
set_option linter.unusedVariables false

set_option maxRecDepth 100000 in
set_option maxHeartbeats 2000000 in
theorem sleast_any (n d : Int) (w : World) (hn : 1 ≤ n ∧ n ≤ 100) (hd : 1 ≤ d ∧ d ≤ 5) : Calls Try.prog 31 #[.int .i64 n, .int .i64 d] w fun e w' => e = .returned (.int .i64 (d * n / (d + 1))) ∧ w' = w := by
  obtain ⟨q0, q1, q2⟩ := groQ_bd hd.1 hd.2 hn.1 hn.2
  have e1 : IntKind.i64.wrap (d + 1) = d + 1 := IntWalk.i64_in _ (by omega)
  have dn : 0 ≤ d * n ∧ d * n ≤ 500 := ⟨Int.mul_nonneg (by omega) (by omega), Int.le_trans (Int.mul_le_mul hd.2 hn.2 (by omega) (by omega)) (by decide)⟩
  have e2 : IntKind.i64.wrap (d * n) = d * n := IntWalk.i64_in _ (by omega)
  have e3 : IntKind.i64.wrap (d * n - d) = d * n - d := IntWalk.i64_in _ (by omega)
  have HI := Lib.hid (fun k : Int => @least_iff d n k hd.1 hd.2)
  generalize hq : d * n / (d + 1) = q at *
  clear hq
  go_enter Try.func31, Try.ntmps31
  go_wp2
  go_loopw [5] (fun i wr => ∃ k : Nat, (k : Int) ≤ q ∧ i = .int .i64 k ∧ wr = w) (fun i _ => 100 - (intOf i).toNat)
  case atStart => exact ⟨0, by omega, rfl, rfl⟩
  case round =>
    obtain ⟨k, hk, rfl, rfl⟩ := hrel
    have kd : 0 ≤ (k : Int) * (d + 1) ∧ (k : Int) * (d + 1) ≤ 498 := ⟨Int.mul_nonneg (by omega) (by omega), Int.le_trans (Int.mul_le_mul (show (k : Int) ≤ 83 by omega) (show d + 1 ≤ 6 by omega) (by omega) (by omega)) (by decide)⟩
    have e4 : IntKind.i64.wrap ((k : Int) * (d + 1)) = (k : Int) * (d + 1) := IntWalk.i64_in _ (by omega)
    have hi := HI.out k
    by_cases hlt : (k : Int) < q
    · have hc : (k : Int) * (d + 1) < d * n - d := hi.2 hlt
      clear hi
      go_wp2
      exact ⟨⟨k + 1, by omega, by go_num, trivial⟩, by simp [intOf]; omega⟩
    · have hc : ¬ (k : Int) * (d + 1) < d * n - d := fun h => hlt (hi.1 h)
      have HKQ := Lib.hid (show (k : Int) = q by omega)
      clear hi
      go_wp2
      go_ret
      exact ⟨by rw [← HKQ.out]; rfl, rfl⟩
theorem groF_succ (n p : Int) (f : Nat) (d a : Int) : groF n p (f + 1) d a = if a < p * (d * n / (d + 1)) ∧ p * (d * n / (d + 1)) ≤ 1000000 then (p * (d * n / (d + 1)), d + 1) :: groF n p f (d + 1) (p * (d * n / (d + 1))) else [] := rfl
theorem last_get (a : K2) : ∀ (G : List K2), (a :: G).getD G.length (0, 0) = lastK a G
  | [] => rfl
  | x :: G => by
    have h1 : lastK a (x :: G) = lastK x G := by cases G <;> simp [lastK, List.getLastD]
    rw [h1, List.length_cons, List.getD_cons_succ]
    exact last_get x G
/-- the last step's cells in a list of one's own -/
theorem last_cells {w : World} {base g L cap : Nat} {a : K2} {G : List K2} (hL : L = G.length + 1) (h : w.ownsRow base 30 2 (.slice (some ⟨g, 0, none⟩) L cap) L (keyCells (a :: G))) :
    w.cell? ⟨g, (L - 1) * 2, none⟩ = some (.int .i64 (lastK a G).1) ∧ w.cell? ⟨g, (L - 1) * 2 + 1, none⟩ = some (.int .i64 (lastK a G).2) := by
  subst hL
  have h1 := (own_cell h (G.length * 2) (by omega)).1
  have h2 := (own_cell h (G.length * 2 + 1) (by omega)).1
  have hk := keyCells_get (a :: G) G.length (by simp)
  rw [last_get] at hk
  simp only [List.getD, hk.1] at h1
  simp only [List.getD, hk.2] at h2
  exact ⟨h1, h2⟩
set_option maxRecDepth 100000 in
set_option maxHeartbeats 2000000 in
theorem sgrowth_any (n p : Int) (w : World) : Calls Try.prog 17 #[.int .i64 n, .int .i64 p] w fun e w' => ∃ v, e = .returned v ∧ w'.ownsRow w.heap.size 30 2 v (groV n p).length (keyCells (groV n p)) ∧ Below w.heap.size w w' := by
  obtain ⟨i0, hi, hz0, hz1, hz2⟩ := info_parts infoSt
  have hown0 := World.ownsRow_made (base := w.heap.size) (e := 30) (size := 2) w #[] 0 (Nat.le_refl _) (by unfold maxLen; omega) rfl
  have hb0 := (Below.refl w.heap.size w).alloc (Nat.le_refl _) (.cells #[] 30)
  have HN := Lib.hid (fun w => sin_any n 1 100 w)
  have HP := Lib.hid (fun w => sin_any p 1 1000 w)
  by_cases hn : 1 ≤ n ∧ n ≤ 100
  · have b1 : (decide (1 ≤ n) && decide (n ≤ 100)) = true := by simp; omega
    rw [b1] at HN
    by_cases hp : 1 ≤ p ∧ p ≤ 1000
    · have b2 : (decide (1 ≤ p) && decide (p ≤ 1000)) = true := by simp; omega
      rw [b2] at HP
      have hM : groV n p = (0, 1) :: groF n p 5 1 0 := by unfold groV; rw [if_pos ⟨hn, hp⟩]
      generalize groV n p = M at *
      have HM := Lib.hid hM
      have hbs := fun w => build_st1 1 w
      clear hM b1 b2
      go_enter Try.func17, Try.ntmps17
      go_wp2_with fail
      generalize w.alloc (.cells #[] 30) = W at *
      refine (HN.out _).mono ?_
      rintro e w1 ⟨rfl, rfl⟩
      go_wp2_with fail
      refine (HP.out _).mono ?_
      rintro e w2 ⟨rfl, rfl⟩
      have hns := hb0.size
      generalize Value.slice (some ⟨w.heap.size, 0, none⟩) 0 0 = v0 at *
      go_wp2_with (at_builtin; refine wpList_append_own _ rfl (.tmp 18) (.tmp 20) 24 rfl w.heap.size 30 i0 (.agg #[.int .i64 0, .int .i64 0]) 2 16 Try.underlying24 hi hz0 hz1 hz2 rfl (by decide) _ _ _ rfl (hown0.alloc _) ⟨w2.heap.size, 0, none⟩ 1 1 [.int .i64 0, .int .i64 1] rfl rfl (cell_two_new _ _ _ _) (by intro u hu; simp at hu; rcases hu with rfl | rfl <;> rfl) (by unfold maxLen; omega) (by omega) (by simp; omega) ?_; intro v' w3 hown' hgrow _)
      have HR := Lib.hid (show w3.ownsRow w.heap.size 30 2 v' 1 (keyCells [(0, 1)]) ∧ Below w.heap.size w w3 from ⟨by simpa [keyCells] using hown', (hb0.alloc hb0.size _).grown hgrow (by simp; omega) (fun g hg => (hown0.lt g hg).1)⟩)
      clear hown' hgrow hown0 hb0 hbs HN HP hns
      go_wp2
      go_loopw [5, 6, 7] (fun v d t wr => ∃ (D : Nat) (G : List K2), 1 ≤ D ∧ D ≤ 6 ∧ D = G.length + 1 ∧ d = .int .i64 D ∧ ((0, 1) :: G) ++ groF n p (6 - D) D (lastK (0, 1) G).1 = M ∧ wr.ownsRow w.heap.size 30 2 v (G.length + 1) (keyCells ((0, 1) :: G)) ∧ Below w.heap.size w wr) (fun _ d _ _ => 6 - (intOf d).toNat)
      case atStart => exact ⟨1, [], by omega, by omega, rfl, rfl, by rw [HM.out]; rfl, HR.out.1, HR.out.2⟩
      case round =>
        obtain ⟨D, G, h1, h6, hDG, rfl, hout, hown, hb⟩ := hrel
        have HDG := Lib.hid hDG
        clear HR HM hDG
        by_cases hlt : D < 6
        · have HL := Lib.hid (fun w => sleast_any n D w hn (by omega))
          obtain ⟨q0, q1, q2⟩ := groQ_bd (d := (D : Int)) (n := n) (by omega) (by omega) hn.1 hn.2
          obtain ⟨m0, m1, m2⟩ := mul_bd hp.1 hp.2 q0 q1 q2
          have m3 := Int.le_trans m1 m2
          rw [show 6 - D = (5 - D) + 1 by omega, groF_succ] at hout
          generalize (D : Int) * n / ((D : Int) + 1) = q at *
          have ep : IntKind.i64.wrap (p * q) = p * q := IntWalk.i64_in _ (by omega)
          obtain ⟨L, hL⟩ : ∃ L, L = G.length + 1 := ⟨_, rfl⟩
          rw [← hL] at hown
          obtain ⟨gv, cv, hv, hnc, hcm, hbg, hgs⟩ := (ownsRowK_shape hown).resolve_left (by rintro ⟨_, h⟩; omega)
          have hown1 := hown
          rw [hv] at hown1
          have lc := (last_cells hL hown1).1
          have hlv := len_st ⟨_, _, hv⟩
          have hix := idx_st hv (L - 1) (by omega) ((L : Int) - 1) (by omega)
          have ew : IntKind.i64.wrap ((L : Int) - 1) = (L : Int) - 1 := IntWalk.i64_in _ (by unfold maxLen at hcm; omega)
          have zd : (D : Int) < 6 := by omega
          have ed : IntKind.i64.wrap ((D : Int) + 1) = (D : Int) + 1 := IntWalk.i64_in _ (by omega)
          have HGL := Lib.hid hL
          have HV := Lib.hid hv
          clear hown1 hL hv q0 q1 q2 m1 hgs hnc
          go_wp2_with fail
          refine (HL.out _).mono ?_
          rintro e w4 ⟨rfl, rfl⟩
          by_cases hc : p * q ≤ (lastK (0, 1) G).1
          · rw [if_neg (by omega), List.append_nil] at hout
            have HO := Lib.hid hout
            clear hout
            go_wp2
            go_ret
            exact ⟨_, rfl, by rw [← HO.out]; simpa [← HGL.out] using hown, hb⟩
          · rw [if_pos (by omega)] at hout
            have HO := Lib.hid hout
            have hc2 : ¬ 1000000 < p * q := by omega
            have hbk := fun w => build_st (p * q) ((D : Int) + 1) w
            have hns := hb.size
            have HLS := Lib.hid (show lastK (0, 1) (G ++ [(p * q, (D : Int) + 1)]) = (p * q, (D : Int) + 1) from lastK_snoc _ _ _)
            have hl2 : L ≤ 9 := by have := HGL.out; have := HDG.out; omega
            clear hout
            go_wp2_with (at_builtin; refine wpList_append_own _ rfl (.tmp 45) (.tmp 50) 24 rfl w.heap.size 30 i0 (.agg #[.int .i64 0, .int .i64 0]) 2 16 Try.underlying24 hi hz0 hz1 hz2 rfl (by decide) _ _ _ rfl (hown.alloc _) ⟨w4.heap.size, 0, none⟩ 1 1 [.int .i64 (p * q), .int .i64 ((D : Int) + 1)] rfl rfl (cell_two_new _ _ _ _) (by intro u hu; simp at hu; rcases hu with rfl | rfl <;> rfl) (by unfold maxLen; omega) (by omega) (by simp; omega) ?_; intro v' w5 hown' hgrow _)
            have R : w5.ownsRow w.heap.size 30 2 v' ((G ++ [(p * q, (D : Int) + 1)]).length + 1) (keyCells ((0, 1) :: (G ++ [(p * q, (D : Int) + 1)]))) ∧ Below w.heap.size w w5 := by
              refine ⟨?_, (hb.alloc hb.size _).grown hgrow (by simp; omega) (fun g hg => (hown.lt g hg).1)⟩
              rw [← List.cons_append, keyCells_snoc]
              have := HGL.out
              subst this
              simpa using hown'
            have HR := Lib.hid R
            clear R hown' hgrow hown hb
            go_wp2
            exact ⟨⟨D + 1, G ++ [(p * q, (D : Int) + 1)], by omega, by omega, by have := HDG.out; simp; omega, by go_num, by rw [HLS.out, ← HO.out, show 6 - (D + 1) = 5 - D by omega]; simp, HR.out.1, HR.out.2⟩, by simp [intOf]; omega⟩
        · obtain rfl : D = 6 := by omega
          rw [show groF n p (6 - 6) ((6 : Nat) : Int) (lastK (0, 1) G).1 = [] from rfl, List.append_nil] at hout
          have HO := Lib.hid hout
          clear hout
          go_wp2
          go_ret
          exact ⟨_, rfl, by rw [← HO.out]; simpa using hown, hb⟩
    · have b2 : (decide (1 ≤ p) && decide (p ≤ 1000)) = false := by
        cases h : (decide (1 ≤ p) && decide (p ≤ 1000)) with
        | false => rfl
        | true => simp at h; omega
      rw [b2] at HP
      have HM := Lib.hid (show groV n p = [] by unfold groV; rw [if_neg (fun h => hp h.2)])
      clear b1 b2 hp hn
      go_enter Try.func17, Try.ntmps17
      go_wp2_with fail
      generalize w.alloc (.cells #[] 30) = W at *
      refine (HN.out _).mono ?_
      rintro e w1 ⟨rfl, rfl⟩
      go_wp2_with fail
      refine (HP.out _).mono ?_
      rintro e w2 ⟨rfl, rfl⟩
      go_wp2
      go_ret
      exact ⟨_, rfl, by rw [HM.out]; exact hown0, hb0⟩
  · have b1 : (decide (1 ≤ n) && decide (n ≤ 100)) = false := by
      cases h : (decide (1 ≤ n) && decide (n ≤ 100)) with
      | false => rfl
      | true => simp at h; omega
    rw [b1] at HN
    have HM := Lib.hid (show groV n p = [] by unfold groV; rw [if_neg (fun h => hn h.1)])
    clear b1 hn
    go_enter Try.func17, Try.ntmps17
    go_wp2_with fail
    generalize w.alloc (.cells #[] 30) = W at *
    refine (HN.out _).mono ?_
    rintro e w1 ⟨rfl, rfl⟩
    go_wp2
    go_ret
    exact ⟨_, rfl, by rw [HM.out]; exact hown0, hb0⟩
end Go.Proofs.Yteijgoadcpphlaa
namespace Go.Proofs.Yteijgoadcpphlaa
open Go.ChangeShapes Go.WideShapes Go.ChangeAt Go.RowKit Go.BigFrame Go.Shelf
attribute [local go_sem] Oper.semAt_some
set_option linter.unusedVariables false

set_option maxRecDepth 100000 in
set_option maxHeartbeats 2000000 in
theorem ireadahead_any (n d : Int) (w : World) (hn : 1 ≤ n ∧ n ≤ 100) (hd : 1 ≤ d ∧ d ≤ 5) : Calls Try.prog 30 #[.int .i64 n, .int .i64 (d + 1)] w fun e w' => e = .returned (.int .i64 (d * n / (d + 1))) ∧ w' = w := by
  have e1 : IntKind.i64.wrap (d + 1 - 1) = d := by rw [show d + 1 - 1 = d by omega]; exact IntWalk.i64_in _ (by omega)
  have dn : 0 ≤ d * n ∧ d * n ≤ 500 := ⟨Int.mul_nonneg (by omega) (by omega), Int.le_trans (Int.mul_le_mul hd.2 hn.2 (by omega) (by omega)) (by decide)⟩
  have e2 : IntKind.i64.wrap (d * n) = d * n := IntWalk.i64_in _ (by omega)
  obtain ⟨q0, q1, q2⟩ := groQ_bd hd.1 hd.2 hn.1 hn.2
  have e3 : (d * n).tdiv (d + 1) = d * n / (d + 1) := Int.tdiv_eq_ediv_of_nonneg dn.1
  have e4 : IntKind.i64.wrap (d * n / (d + 1)) = d * n / (d + 1) := IntWalk.i64_in _ (by omega)
  have z0 : ¬ (d + 1 = 0) := by omega
  have z1 : ((d + 1 : Int) == 0) = false := by simp; omega
  generalize hq : d * n / (d + 1) = q at *
  clear hq
  go_enter Try.func30, Try.ntmps30
  go_wp2
  go_ret
  exact ⟨rfl, rfl⟩
theorem infoI5 : (Try.prog.info? 3).map (fun i => (i.zero, i.size, i.bytes)) = some (some (.int .i64 0), 1, 8) := by kernel_rfl
theorem idx5 (i : Nat) (hi : i < 5) (d : Int) (hd : d = (i : Int) + 1) (w : World) : (Instr.index 52 (.agg #[.int .i64 2, .int .i64 3, .int .i64 4, .int .i64 5, .int .i64 6]) (.int .i64 i)).run Try.prog w = .ok (.int .i64 (d + 1)) w := by
  obtain ⟨i0, h1, h2, h3, h4⟩ := info_parts infoI5
  have u := Try.underlying3
  have u5 := Try.underlying52
  subst hd
  obtain rfl | rfl | rfl | rfl | rfl : i = 0 ∨ i = 1 ∨ i = 2 ∨ i = 3 ∨ i = 4 := by omega
  all_goals simp [Instr.index, run_underlying u5, run_underlying u, asIntOf, part, isAgg, sizeOf, typeInfo, h1, h3, go_sem]
theorem gro_step {w w5 w6 : World} {G : List K2} {a x : K2} {v v' : Value} {nb : Nat} {o : Obj} (hX5 : SBoxed w5 w.heap.size a) (nX5 : SBoxed w5 nb x) (hvl : ∀ b, v.ownBlock = some b → w.heap.size + 1 ≤ b ∧ b < nb) (hb5 : Below w.heap.size w w5)
    (hown6 : w6.ownsRow (w.heap.size + 1) 30 2 v' (G.length + 1 + 1) (keyCells ((0, 1) :: G) ++ [.int .i64 x.1, .int .i64 x.2])) (hgrow6 : (w5.alloc o).grownBy w6 v.ownBlock) :
    SBoxed w6 nb x ∧ SBoxed w6 w.heap.size a ∧ SBoxed ((w6.setCell ⟨w.heap.size, 0, none⟩ (.int .i64 x.1)).setCell ⟨w.heap.size, 1, none⟩ (.int .i64 x.2)) w.heap.size x ∧
      Below w.heap.size w ((w6.setCell ⟨w.heap.size, 0, none⟩ (.int .i64 x.1)).setCell ⟨w.heap.size, 1, none⟩ (.int .i64 x.2)) ∧
      ((w6.setCell ⟨w.heap.size, 0, none⟩ (.int .i64 x.1)).setCell ⟨w.heap.size, 1, none⟩ (.int .i64 x.2)).ownsRow (w.heap.size + 1) 30 2 v' ((G ++ [x]).length + 1) (keyCells ((0, 1) :: (G ++ [x]))) := by
  have nX6 := (nX5.alloc o).kept hgrow6 (fun e => by have := (hvl _ e.symm).2; omega)
  have hX6 := (hX5.alloc o).kept hgrow6 (fun e => by have := (hvl _ e.symm).1; omega)
  have hb6 := (hb5.alloc hb5.size o).grown hgrow6 (by have := hb5.size; simp; omega) (fun b e => by have := (hvl b e).1; omega)
  have h0 : w6.ownsRow (w.heap.size + 1) 30 2 v' ((G ++ [x]).length + 1) (keyCells ((0, 1) :: (G ++ [x]))) := by
    rw [← List.cons_append, keyCells_snoc]; simpa using hown6
  have h1 := h0.kept (grownBy_setCell' w6 w.heap.size (.int .i64 x.1)) (.inr fun e => by have := (World.ownsRow.lt h0 _ e).1; omega)
  have g2 : (w6.setCell ⟨w.heap.size, 0, none⟩ (.int .i64 x.1)).grownBy ((w6.setCell ⟨w.heap.size, 0, none⟩ (.int .i64 x.1)).setCell ⟨w.heap.size, 1, none⟩ (.int .i64 x.2)) (some w.heap.size) :=
    ⟨rfl, rfl, rfl, by simp [World.setCell], fun j hj hr => Below.heap_setCell _ ⟨w.heap.size, 1, none⟩ _ j (fun e => hr (by simp only [] at e; rw [e]))⟩
  exact ⟨nX6, hX6, SBoxed.set x hX6, (hb6.setCell (p := ⟨w.heap.size, 0, none⟩) (Nat.le_refl _) (.int .i64 x.1)).setCell (p := ⟨w.heap.size, 1, none⟩) (Nat.le_refl _) (.int .i64 x.2),
    h1.kept g2 (.inr fun e => by have := (World.ownsRow.lt h0 _ e).1; omega)⟩
set_option maxRecDepth 100000 in
set_option maxHeartbeats 2000000 in
theorem igrowth_any (n p : Int) (w : World) : Calls Try.prog 15 #[.int .i64 n, .int .i64 p] w fun e w' => ∃ v, e = .returned v ∧ w'.ownsRow w.heap.size 30 2 v (groV n p).length (keyCells (groV n p)) ∧ Below w.heap.size w w' := by
  obtain ⟨i0, hi, hz0, hz1, hz2⟩ := info_parts infoSt
  have hnil : w.ownsRow w.heap.size 30 2 (.slice none 0 0) 0 (keyCells []) := ⟨by simp [keyCells], .inl ⟨rfl, rfl⟩⟩
  by_cases h0 : n < 1
  · have HM := Lib.hid (show groV n p = [] by unfold groV; rw [if_neg (fun h => by have := h.1.1; omega)])
    go_enter Try.func15, Try.ntmps15
    go_wp2
    go_ret
    exact ⟨_, rfl, by rw [HM.out]; exact hnil, Below.refl _ _⟩
  by_cases h1 : 100 < n
  · have HM := Lib.hid (show groV n p = [] by unfold groV; rw [if_neg (fun h => by have := h.1.2; omega)])
    go_enter Try.func15, Try.ntmps15
    go_wp2
    go_ret
    exact ⟨_, rfl, by rw [HM.out]; exact hnil, Below.refl _ _⟩
  by_cases h2 : p < 1
  · have HM := Lib.hid (show groV n p = [] by unfold groV; rw [if_neg (fun h => by have := h.2.1; omega)])
    go_enter Try.func15, Try.ntmps15
    go_wp2
    go_ret
    exact ⟨_, rfl, by rw [HM.out]; exact hnil, Below.refl _ _⟩
  by_cases h3 : 1000 < p
  · have HM := Lib.hid (show groV n p = [] by unfold groV; rw [if_neg (fun h => by have := h.2.2; omega)])
    go_enter Try.func15, Try.ntmps15
    go_wp2
    go_ret
    exact ⟨_, rfl, by rw [HM.out]; exact hnil, Below.refl _ _⟩
  have hn : 1 ≤ n ∧ n ≤ 100 := by omega
  have hp : 1 ≤ p ∧ p ≤ 1000 := by omega
  have HM := Lib.hid (show groV n p = (0, 1) :: groF n p 5 1 0 by unfold groV; rw [if_pos ⟨hn, hp⟩])
  generalize groV n p = M at *
  have rX := SBoxed.new w (0, 1)
  have hb1 := (Below.refl w.heap.size w).alloc (Nat.le_refl _) (.cells #[.int .i64 0, .int .i64 1] 30)
  have hsz1 : (w.alloc (.cells #[.int .i64 0, .int .i64 1] 30)).heap.size = w.heap.size + 1 := by simp
  have hown0 := World.ownsRow_lit (base := w.heap.size + 1) (e := 30) (size := 2) (w.alloc (.cells #[.int .i64 0, .int .i64 1] 30)) #[.int .i64 0, .int .i64 1] 1 (by omega) (by unfold maxLen; omega) rfl
  rw [hsz1] at hown0
  have rX2 := rX.alloc (.cells #[.int .i64 0, .int .i64 1] 30)
  have hb2 := hb1.alloc hb1.size (.cells #[.int .i64 0, .int .i64 1] 30)
  have hbs := fun w => build_st 0 1 w
  have c0 := rX.cell0
  have c1 := rX.cell1
  dsimp only at c0 c1 rX2
  clear rX hb1 hnil
  go_enter Try.func15, Try.ntmps15
  go_wp2_with fail
  have HR := Lib.hid (show _ ∧ _ ∧ _ from ⟨rX2, hown0, hb2⟩)
  clear rX2 hown0 hb2 c0 c1 hbs
  go_loopw [6, 8, 9, 28] (fun v d9 nx i wr => ∃ (j : Nat) (G : List K2), j ≤ 5 ∧ i = .int .i64 j ∧ G.length = j ∧ ((0, 1) :: G) ++ groF n p (5 - j) ((j : Int) + 1) (lastK (0, 1) G).1 = M ∧ (lastK (0, 1) G).2 = (j : Int) + 1 ∧ SBoxed wr w.heap.size (lastK (0, 1) G) ∧ wr.ownsRow (w.heap.size + 1) 30 2 v (G.length + 1) (keyCells ((0, 1) :: G)) ∧ Below w.heap.size w wr)
    (fun _ _ _ i _ => 5 - (intOf i).toNat)
  case atStart => exact ⟨0, [], by omega, rfl, rfl, by rw [HM.out]; rfl, rfl, HR.out.1, HR.out.2.1, HR.out.2.2⟩
  case round =>
    obtain ⟨j, G, hj, rfl, hGl, hout, hl2, hX, hown, hb⟩ := hrel
    clear HR HM
    have HGL := Lib.hid hGl
    clear hGl
    by_cases hlt : j < 5
    · obtain ⟨d, hd⟩ : ∃ d : Int, d = (j : Int) + 1 := ⟨_, rfl⟩
      have hix := fun w => idx5 j hlt d hd w
      rw [← hd] at hout hl2
      have HRA := Lib.hid (fun w => ireadahead_any n d w hn (by omega))
      obtain ⟨q0, q1, q2⟩ := groQ_bd (d := d) (n := n) (by omega) (by omega) hn.1 hn.2
      obtain ⟨m0, m1, m2⟩ := mul_bd hp.1 hp.2 q0 q1 q2
      have m3 := Int.le_trans m1 m2
      rw [show 5 - j = (4 - j) + 1 by omega, groF_succ] at hout
      generalize d * n / (d + 1) = q at *
      have ep : IntKind.i64.wrap (p * q) = p * q := IntWalk.i64_in _ (by omega)
      have HLS := Lib.hid (lastK_snoc (0, 1) G (p * q, d + 1))
      generalize hla : lastK (0, 1) G = A at *
      have HLA := Lib.hid hla
      obtain ⟨pa, qa⟩ := A
      dsimp only at hl2 hout
      have HF := Lib.hid (fun w => ifollows_any (pa, qa) (p * q, d + 1) w)
      have hbk := fun w => build_st (p * q) (d + 1) w
      have HFO := Lib.hid (show folB (pa, qa) (p * q, d + 1) = decide (pa < p * q ∧ p * q ≤ 1000000) by
        have e1 : qa < d + 1 := by omega
        have e2 : d + 1 ≤ 6 := by omega
        unfold folB
        dsimp only
        rw [decide_eq_true e1, decide_eq_true e2]
        by_cases hc : pa < p * q <;> by_cases hd : p * q ≤ 1000000 <;> simp [hc, hd])
      have z0 : (0 : Int) ≤ (j : Int) := by omega
      have z5 : (j : Int) < 5 := by omega
      have HD := Lib.hid hd
      have HO := Lib.hid hout
      have x0 := hX.cell0
      have x1 := hX.cell1
      have nX := SBoxed.new wr (p * q, d + 1)
      have hX1 := hX.alloc (.cells #[.int .i64 (p * q), .int .i64 (d + 1)] 30)
      have hown1 := hown.alloc (.cells #[.int .i64 (p * q), .int .i64 (d + 1)] 30)
      have hb1 := hb.alloc hb.size (.cells #[.int .i64 (p * q), .int .i64 (d + 1)] 30)
      have hlt1 := hX.lt
      have hvl := fun b e => World.ownsRow.lt hown b e
      unfold kv at HF
      dsimp only at x0 x1 nX HF
      clear hla q0 q1 q2 m1 m2 hl2 hd hout hX hown hb
      go_wp2_with fail
      refine (HRA.out _).mono ?_
      rintro e w4 ⟨rfl, rfl⟩
      have n0 := nX.cell0
      have n1 := nX.cell1
      have y0 := hX1.cell0
      have y1 := hX1.cell1
      dsimp only at n0 n1 y0 y1
      clear x0 x1
      go_wp2_with fail
      refine (HF.out _).mono ?_
      rintro e w5 ⟨rfl, hbf⟩
      have g5 := grown_of_below' hbf none
      have nX5 := nX.kept g5 (by simp)
      have hX5 := hX1.kept g5 (by simp)
      have hown5 := own_below hown1 hbf
      have hb5 := hb1.trans (hbf.mono hb1.size)
      have hs5 := hbf.size
      rw [World.size_alloc] at hs5
      clear hbf g5 nX hX1 hown1 hb1 n0 n1 y0 y1 hbk hix
      by_cases hc : pa < p * q ∧ p * q ≤ 1000000
      · rw [HFO.out, decide_eq_true hc]
        have hO := HO.out
        rw [if_pos hc] at hO
        have HO2 := Lib.hid hO
        have n0 := nX5.cell0
        have n1 := nX5.cell1
        dsimp only at n0 n1
        have hns := hb5.size
        have hl2 : G.length ≤ 5 := by have := HGL.out; omega
        have HC := Lib.hid hc
        clear hO hc HO HFO
        go_wp2_with (
          at_builtin
          refine wpList_append_own _ rfl (.tmp 42) (.tmp 44) 24 rfl (w.heap.size + 1) 30 i0 (.agg #[.int .i64 0, .int .i64 0]) 2 16 Try.underlying24 hi hz0 hz1 hz2 rfl (by decide) _ _ _ rfl (hown5.alloc _) ⟨w5.heap.size, 0, none⟩ 1 1 [.int .i64 (p * q), .int .i64 (d + 1)] rfl rfl (cell_two_new _ _ _ _) (by intro u hu; simp at hu; rcases hu with rfl | rfl <;> rfl) (by unfold maxLen; omega) (by omega) (by simp; omega) ?_
          intro v' w6 hown6 hgrow6 _
          obtain ⟨nX6, hX6, hx7, hb7, hw7⟩ := gro_step hX5 nX5 hvl hb5 hown6 hgrow6
          have HX7 := Lib.hid hx7
          have HB7 := Lib.hid hb7
          have HW7 := Lib.hid hw7
          clear hx7 hb7 hw7
          have N0 := nX6.cell0
          have N1 := nX6.cell1
          have Y0 := hX6.cell0
          have Y1 := hX6.cell1
          have F0 : w6.frozen? ⟨w.heap.size, 0, none⟩ = false := by simp [World.frozen?, show w6.heap[w.heap.size]? = _ from hX6]
          have F1 : w6.frozen? ⟨w.heap.size, 1, none⟩ = false := by simp [World.frozen?, show w6.heap[w.heap.size]? = _ from hX6]
          have L6 := hX6.lt
          dsimp only at N0 N1 Y0 Y1 HX7
          clear nX6 hX6 hown6 hgrow6 hown5 hb5 nX5 hX5)
        exact ⟨⟨j + 1, G ++ [(p * q, d + 1)], by omega, by go_num, by have := HGL.out; simp; omega, by
          have h1 := HO2.out
          have h2 := HD.out
          rw [HLS.out, ← h1, show 5 - (j + 1) = 4 - j by omega, show ((j + 1 : Nat) : Int) + 1 = d + 1 by omega]
          simp, by rw [HLS.out]; have h2 := HD.out; simp only []; omega, by rw [HLS.out]; exact HX7.out, HW7.out, HB7.out⟩, by simp [intOf]; omega⟩
      · rw [HFO.out, decide_eq_false hc]
        have hO := HO.out
        rw [if_neg hc, List.append_nil] at hO
        have HO2 := Lib.hid hO
        clear hO HO HFO
        go_wp2
        go_ret
        refine ⟨_, rfl, ?_, hb5⟩
        rw [← HO2.out]
        exact own_base (by simpa using hown5) (by omega)
    · obtain rfl : j = 5 := by omega
      rw [show groF n p (5 - 5) (((5 : Nat) : Int) + 1) (lastK (0, 1) G).1 = [] from rfl, List.append_nil] at hout
      have HO2 := Lib.hid hout
      clear hout
      go_wp2
      go_ret
      refine ⟨_, rfl, ?_, hb⟩
      rw [← HO2.out]
      exact own_base (by simpa using hown) (by omega)
end Go.Proofs.Yteijgoadcpphlaa
namespace Go.Proofs.Yteijgoadcpphlaa
open Go.ChangeShapes Go.WideShapes Go.ChangeAt Go.RowKit
set_option linter.unusedVariables false

/-- one of some numbers, laid just now -/
theorem pick_lit (n₀ g len cap : Nat) (a : Option Addr) (zs : List Int) (c : Cu) (xs : List Int) (n : Nat) (w0 w : World) (cs : Array Value) (hd : Drew n₀ g a len cap zs c w0 w) (hn : 0 < n) (hn2 : n ≤ 256) (hx : xs.length = n) (hcs : cs = (xs.map (Value.int .i64)).toArray) :
    Calls Try.prog 25 #[.pointer (some ⟨g, 0, none⟩), .slice (some ⟨w.heap.size, 0, none⟩) n n] (w.alloc (.cells cs 3)) fun e w' => ∃ (z : Int) (c' : Cu), e = .returned (.int .i64 z) ∧ Drew n₀ g a len cap zs c' w0 w' := by
  have hgl := hd.st.lt
  refine (pickint_any n₀ g len cap w.heap.size n a zs c xs _ (hd.alloc _).st hn hn2 hx (by omega) ?_).mono (fun e w' h => ⟨_, _, h.1, (hd.alloc _).trans h.2⟩)
  intro k hk
  rw [lit_cell, hcs]
  simp [show k < xs.length by omega]
set_option maxRecDepth 100000 in
set_option maxHeartbeats 2000000 in
theorem drawgrowth_any (len cap : Nat) (a : Option Addr) (zs : List Int) (w : World) (hc : CodeAt w.heap.size w a len zs) :
    Calls Try.prog 14 #[.slice a len cap] w fun e w' => ∃ n p : Int, e = .returned (.tuple #[.int .i64 n, .int .i64 p]) ∧ Below w.heap.size w w' := by
  have H0 := Lib.hid (new_any w.heap.size len cap a zs w hc (Nat.le_refl _))
  go_enter Try.func14, Try.ntmps14
  go_wp2_with fail
  refine H0.out.mono ?_
  rintro e w1 ⟨g, rfl, hg, hs, hb1, hg1⟩
  have hd0 : Drew w.heap.size g a len cap zs (newC zs len) w1 w1 := ⟨hs, Below.refl _ _, World.grownBy.refl _ _⟩
  go_wp2_with fail
  refine (below_any w.heap.size g len cap a zs _ 100 _ hd0.st (by omega)).mono ?_
  rintro e w2 ⟨rfl, hd⟩
  have hbd := belowF_bd zs len (newC zs len) 100
  generalize belowF zs len (newC zs len) 100 = b at *
  obtain ⟨x, c1⟩ := b
  dsimp only at *
  have ew : IntKind.i64.wrap (1 + x) = 1 + x := IntWalk.i64_in _ (by omega)
  have ew2 : wrap64 (1 + x) = 1 + x := IntWalk.wrap64_in _ (by omega)
  have hD := hd0.trans hd
  clear hd0 hd hs
  go_wp2_with fail
  refine (pick_lit w.heap.size g len cap a zs c1 [1, 2, 5, 10, 100, 0, 101, 1 + x] 8 w1 w2 _ hD (by omega) (by omega) rfl rfl).mono ?_
  rintro e w3 ⟨z, c2, rfl, hD3⟩
  go_wp2_with fail
  refine (pick_lit w.heap.size g len cap a zs c2 [1, 7, 1000, 0, 1001] 5 w1 w3 _ hD3 (by omega) (by omega) rfl rfl).mono ?_
  rintro e w4 ⟨z2, c3, rfl, hD4⟩
  have HB := Lib.hid (hb1.trans hD4.below)
  clear hD hD3 hD4 hb1
  go_wp2
  go_ret2
  exact ⟨z, z2, rfl, HB.out⟩
set_option maxRecDepth 100000 in
set_option maxHeartbeats 2000000 in
theorem fngrowth_walk (a0 : Option Addr) (len0 cap0 : Nat) (z0 : List Int) (w : World) (w0 : IsRow .u8 w a0 len0 cap0 z0) :
    Calls Try.prog 4 #[.slice a0 len0 cap0] w fun e w' => e = .returned (.bool true) ∧ Below w.heap.size w w' := by
  by_cases hbig : len0 ≤ 1048576
  · have hc := codeAt_of w0 hbig
    have B1 := Lib.hid (fun w => big_any a0 len0 cap0 w hbig)
    have D1 := Lib.hid (fun (w' : World) (e : w' = w) => by subst e; exact drawgrowth_any len0 cap0 a0 z0 w' hc)
    clear w0 hc
    go_enter Try.func4, Try.ntmps4
    go_wp2_with fail
    refine (B1.out _).mono ?_
    rintro e w1 ⟨rfl, rfl⟩
    clear B1
    go_wp2_with fail
    refine (D1.out _ rfl).mono ?_
    rintro e w2 ⟨n, p, rfl, hb2⟩
    clear D1
    have hMl := gro_len n p
    have HS := Lib.hid (fun w => sgrowth_any n p w)
    have HI := Lib.hid (fun w => igrowth_any n p w)
    have HN := Lib.hid (show ¬ groOk n p → groV n p = [] from fun h => by unfold groV; rw [if_neg h])
    have HP := Lib.hid (fun (h : groOk n p) => gro_plan h)
    have HM := Lib.hid (fun (h : groOk n p) => gro_more h)
    generalize groV n p = M at *
    go_wp2_with fail
    refine (HI.out _).mono ?_
    rintro e w3 ⟨vg, rfl, hog, hb3⟩
    have HB3 := hb2.trans (hb3.mono hb2.size)
    clear hb2 hb3
    go_wp2_with fail
    refine (HS.out _).mono ?_
    rintro e w4 ⟨v0, rfl, ho0, hb4⟩
    have HB4 := HB3.trans (hb4.mono HB3.size)
    have hoga := own_below hog hb4
    clear hb4 HB3 hog
    go_wp2_with fail
    refine (samesteps_any _ _ M M _ (stepsAt_own hoga) (stepsAt_own ho0) (by omega) (by omega)).mono ?_
    rintro e w5 ⟨rfl, hb5⟩
    have HB5 := HB4.trans (hb5.mono HB4.size)
    have hogb := own_below hoga hb5
    rw [show decide (M = M) = true by simp]
    clear hb5 HB4 hoga ho0
    have hbad : ¬ groOk n p → M.length = 0 := fun h => by rw [HN.out h]; rfl
    have hlv := len_st (by rcases ownsRowK_shape hogb with ⟨h, h0⟩ | ⟨g, cap, h, _⟩; exact ⟨_, _, by rw [h, h0]⟩; exact ⟨_, _, h⟩ : ∃ va vc, vg = .slice va M.length vc)
    by_cases h0 : n < 1
    · have e0 := hbad (fun h => by have := h.1.1; omega)
      rw [e0] at hlv
      clear hMl hbad e0
      go_wp2
      go_ret
      exact ⟨rfl, HB5⟩
    by_cases h1 : 100 < n
    · have e0 := hbad (fun h => by have := h.1.2; omega)
      rw [e0] at hlv
      clear hMl hbad e0
      go_wp2
      go_ret
      exact ⟨rfl, HB5⟩
    by_cases h2 : p < 1
    · have e0 := hbad (fun h => by have := h.2.1; omega)
      rw [e0] at hlv
      clear hMl hbad e0
      go_wp2
      go_ret
      exact ⟨rfl, HB5⟩
    by_cases h3 : 1000 < p
    · have e0 := hbad (fun h => by have := h.2.2; omega)
      rw [e0] at hlv
      clear hMl hbad e0
      go_wp2
      go_ret
      exact ⟨rfl, HB5⟩
    have hok : groOk n p := ⟨by omega, by omega⟩
    have HMM := Lib.hid (HM.out hok)
    have HPP := Lib.hid (HP.out hok)
    have HI2 := Lib.hid (fun w => igrowth_any 100 p w)
    have hl6 : (groV 100 p).length = 6 := gro_hundred (by omega) (by omega)
    have HX := Lib.hid (fun v w' h => iplanok_any v M w' h (by omega))
    rw [HPP.out] at HX
    clear HM HP HN hbad HI HS hok
    generalize groV 100 p = R at *
    go_wp2_with fail
    refine (HI2.out _).mono ?_
    rintro e w6 ⟨vr, rfl, hor, hb6⟩
    rw [hl6] at hor
    have HB6 := HB5.trans (hb6.mono HB5.size)
    have hogc := own_below hogb hb6
    have hkg := stepsAt_own hogc
    have hkr := stepsAt_own (ks := R) (by rw [hl6]; exact hor)
    have HL6 := Lib.hid hl6
    clear hb6 hogb HB5 hlv hl6
    obtain ⟨ag, cg, rfl, hcg, hcG⟩ := id hkg
    obtain ⟨ar, cr, rfl, hcr, hcR⟩ := id hkr
    rw [HL6.out] at hcR ⊢
    have HKG := Lib.hid hkg
    have HCG := Lib.hid hcG
    have HCR := Lib.hid hcR
    clear hkg hkr hcG hcR hor hogc hcg hcr
    go_wp2
    go_loopw [7] (fun i wr => ∃ k : Nat, k ≤ M.length ∧ i = .int .i64 k ∧ Below w6.heap.size w6 wr) (fun i _ => M.length - (intOf i).toNat)
    case atStart => exact ⟨0, Nat.zero_le _, rfl, Below.refl _ _⟩
    case round =>
      obtain ⟨k, hk, rfl, hbr⟩ := hrel
      by_cases hlt : k < M.length
      · obtain ⟨gg, og, rfl, hgg, hcG⟩ := HCG.out.resolve_left (by omega)
        obtain ⟨gr, orr, rfl, hgr, hcR⟩ := HCR.out.resolve_left (by omega)
        have cG := hcG k hlt
        have cR := hcR k (by omega)
        have hmm := HMM.out k hlt
        generalize M.getD k (0, 0) = G at *
        generalize R.getD k (0, 0) = Rk at *
        obtain ⟨pg, qg⟩ := G
        obtain ⟨pr, qr⟩ := Rk
        dsimp only at cG cR hmm
        obtain ⟨hle, rfl⟩ := hmm
        have z0 : (0 : Int) ≤ (k : Int) := by omega
        have z1 : (k : Int) < (M.length : Int) := by omega
        have z6 : (k : Int) < 6 := by omega
        have d0 : decide (pr < pg) = false := decide_eq_false (by omega)
        have d1 : ¬ pr < pg := by omega
        have LG0 : ∀ w', Below w6.heap.size w6 w' → (loadVar 3 ⟨gg, og + k * 2, none⟩).run Try.prog w' = .ok (.int .i64 pg) w' := fun w' h => sint_load (by rw [h.cell (p := ⟨gg, og + k * 2, none⟩) hgg]; exact cG.1)
        have LG1 : ∀ w', Below w6.heap.size w6 w' → (loadVar 3 ⟨gg, og + k * 2 + 1, none⟩).run Try.prog w' = .ok (.int .i64 qr) w' := fun w' h => sint_load (by rw [h.cell (p := ⟨gg, og + k * 2 + 1, none⟩) hgg]; exact cG.2)
        have LR0 : ∀ w', Below w6.heap.size w6 w' → (loadVar 3 ⟨gr, orr + k * 2, none⟩).run Try.prog w' = .ok (.int .i64 pr) w' := fun w' h => sint_load (by rw [h.cell (p := ⟨gr, orr + k * 2, none⟩) hgr]; exact cR.1)
        have LR1 : ∀ w', Below w6.heap.size w6 w' → (loadVar 3 ⟨gr, orr + k * 2 + 1, none⟩).run Try.prog w' = .ok (.int .i64 qr) w' := fun w' h => sint_load (by rw [h.cell (p := ⟨gr, orr + k * 2 + 1, none⟩) hgr]; exact cR.2)
        have HB := Lib.hid hbr
        clear cG cR hcG hcR hbr
        go_wp2
        refine wp_region_below w6 (by kernel_rfl) (by kernel_rfl) HB.out ?_
        repeat (first
          | go_big_quiet_skip
          | (go_big_quiet_want
             first
               | (go_big_quiet_op; go_big_quiet_on)
               | (refine q_load 3 _ _ _ rfl rfl LG0 ?_; simp only [Act.put, List.setIfInBounds_toArray, List.set_cons_zero, List.set_cons_succ]; go_big_quiet_on)
               | (refine q_load 3 _ _ _ rfl rfl LG1 ?_; simp only [Act.put, List.setIfInBounds_toArray, List.set_cons_zero, List.set_cons_succ]; go_big_quiet_on)
               | (refine q_load 3 _ _ _ rfl rfl LR0 ?_; simp only [Act.put, List.setIfInBounds_toArray, List.set_cons_zero, List.set_cons_succ]; go_big_quiet_on)
               | (refine q_load 3 _ _ _ rfl rfl LR1 ?_; simp only [Act.put, List.setIfInBounds_toArray, List.set_cons_zero, List.set_cons_succ]; go_big_quiet_on)
               | (go_big_quiet_op; refine ⟨_, fun _ _ => rfl, ?_⟩; go_big_quiet_on)))
        refine wpQuiet_nil ?_
        intro wq hbq
        clear LG0 LG1 LR0 LR1
        go_wp2
        exact ⟨⟨k + 1, by omega, by go_num, hbq⟩, by simp [intOf]; omega⟩
      · obtain rfl : k = M.length := by omega
        have HXX := Lib.hid (HX.out _ wr (keysAt_below HKG.out hbr))
        have hbf := HB6.trans (hbr.mono HB6.size)
        have z1 : ¬ (M.length : Int) < (M.length : Int) := by omega
        have z6 : (M.length : Int) ≤ 6 := by omega
        clear hbr HCG HCR
        go_wp2_with fail
        refine HXX.out.mono ?_
        rintro e w8 ⟨rfl, hb8⟩
        have HF := Lib.hid (hbf.trans (hb8.mono hbf.size))
        clear hb8 hbf
        go_wp2
        go_ret
        exact ⟨rfl, HF.out⟩
  · have B1 := Lib.hid (fun w => big_true a0 len0 cap0 w hbig)
    clear w0
    go_enter Try.func4, Try.ntmps4
    go_wp2_with fail
    refine (B1.out _).mono ?_
    rintro e w1 ⟨rfl, rfl⟩
    go_wp2
    go_ret
    exact ⟨rfl, Below.refl _ _⟩
end Go.Proofs.Yteijgoadcpphlaa
namespace Go.Proofs.Yteijgoadcpphlaa
open Go.ChangeShapes Go.WideShapes Go.ChangeAt Go.RowKit
set_option linter.unusedVariables false

theorem once_any (n₀ g len cap : Nat) (a : Option Addr) (zs : List Int) (c : Cu) (n : Int) (w : World) (hs : DrawSt n₀ w g a len cap zs c.i c.h) (hn : -9223372036854775808 ≤ n ∧ n ≤ 9223372036854775807) :
    Calls Try.prog 37 #[.pointer (some ⟨g, 0, none⟩), .int .i64 n] w fun e w' => e = .returned (.bool ((belowF zs len c n).1 == 0)) ∧ Drew n₀ g a len cap zs (belowF zs len c n).2 w w' := by
  have H1 := Lib.hid (below_any n₀ g len cap a zs c n w hs hn); clear hs
  generalize belowF zs len c n = b at *
  go_enter Try.func37, Try.ntmps37
  go_wp2_with fail
  refine H1.out.mono ?_
  clear H1
  rintro e w1 ⟨rfl, hd⟩
  go_wp2
  go_ret
  exact ⟨rfl, hd⟩
end Go.Proofs.Yteijgoadcpphlaa
namespace Go.Proofs.Yteijgoadcpphlaa
open Go
section
variable {P : Program} {ops : Array Oper} {Q : Exit → Act → World → Prop} {md : Region.Mode} {S : World → Prop}

/-- whatever order is picked from here on; behind each operation a sharper condition holds -/
def wpG (P : Program) (md : Region.Mode) (ops : Array Oper) (Q : Exit → Act → World → Prop) : Nat → (World → Prop) → Array Bool → Act → World → Prop
  | 0, _, listed, a, w => Region.ready md ops listed = [] ∧ Q .normal a w
  | fuel + 1, S, listed, a, w =>
    (Region.ready md ops listed = [] → Q .normal a w) ∧
    ∀ i ∈ Region.ready md ops listed, wpOp P ops Q i (fun a' w' => ∃ S' : World → Prop, (∀ x, S' x → S x) ∧ S' w' ∧ wpG P md ops Q fuel S' (listed.setIfInBounds i true) a' w') a w

theorem wpAny_of_G : ∀ (fuel : Nat) (S : World → Prop) (listed : Array Bool) (a : Act) (w : World), wpG P md ops Q fuel S listed a w → wpAny P md ops Q fuel listed a w
  | 0, _, _, _, _, h => h
  | fuel + 1, S, _, _, _, h => ⟨h.1, fun i hi => wpOp_mono (fun a' w' ⟨S', _, _, h'⟩ => wpAny_of_G fuel S' _ a' w' h') (h.2 i hi)⟩

theorem YieldsIf.sharper {S' : World → Prop} {o : Oper} {v : Value} {a : Act} (h : ∀ x, S' x → S x) (hy : YieldsIf P ops S o v a) : YieldsIf P ops S' o v a :=
  hy.imp (fun ⟨hw, hv⟩ => ⟨hw, fun w hs => hv w (h w hs)⟩) id

theorem wpG_first {i : Nat} {oi : Oper} {v : Value} (hi : ops[i]? = some oi) (hsel : ∀ (j : Nat) (o : Oper) cs b, ops[j]? = some o → o.op ≠ .select cs b)
    (hQ : ∀ c a w, Q (.panic c) (a.put oi.dst v) w → Q (.panic c) a w) :
    ∀ (fuel : Nat) (S : World → Prop) (listed : Array Bool) (a : Act) (w : World),
      (∀ j oj, ops[j]? = some oj → j ≠ i → listed.getD j true = false → (∀ e ∈ oj.after, Region.binds md e = true → e.on ≠ i) → oi.apart ops oj = true) →
      i ∈ Region.ready md ops listed → YieldsIf P ops S oi v a → S w →
      wpG P md ops Q fuel S (listed.setIfInBounds i true) (a.put oi.dst v) w → wpG P md ops Q (fuel + 1) S listed a w := by
  intro fuel
  induction fuel with
  | zero =>
    intro S listed a w _ hr hy hS H
    refine ⟨fun h => (by rw [h] at hr; cases hr), fun j hj => ?_⟩
    by_cases hji : j = i
    · subst hji; exact hy.wpOp hi hS ⟨S, fun _ h => h, hS, H⟩
    · have := ready_mono hj hji
      rw [H.1] at this
      cases this
  | succ fuel ih =>
    intro S listed a w hfree hr hy hS H
    refine ⟨fun h => (by rw [h] at hr; cases hr), fun j hj => ?_⟩
    by_cases hji : j = i
    · subst hji; exact hy.wpOp hi hS ⟨S, fun _ h => h, hS, H⟩
    · have h1 := H.2 j (ready_mono hj hji)
      obtain ⟨hjun, oj, hoj, hall⟩ := mem_ready.1 hj
      have hnot : ∀ e ∈ oj.after, Region.binds md e = true → e.on ≠ i := fun e he hb heq => by
        have h1 := hall e he hb
        have h0 := (mem_ready.1 hr).1
        rw [heq] at h1
        rcases Nat.lt_or_ge i listed.size with h' | h'
        · simp [h'] at h0 h1; rw [h0] at h1; cases h1
        · simp [Array.getElem?_eq_none h'] at h1
      have h2 := wpOp_putIf hoj (hfree j oj hoj hji hjun hnot) (fun cs b => hsel i oi cs b hi) (fun cs b => hsel j oj cs b hoj) hQ hy h1
      have hfree' : ∀ k ok, ops[k]? = some ok → k ≠ i → (listed.setIfInBounds j true).getD k true = false →
          (∀ e ∈ ok.after, Region.binds md e = true → e.on ≠ i) → oi.apart ops ok = true := fun k ok hk hki hun hno => by
        refine hfree k ok hk hki ?_ hno
        by_cases hjk : j = k
        · subst hjk; exact hjun
        · rw [getD_set_ne true hjk] at hun; exact hun
      refine wpOp_mono (fun a' w' h3 => ?_) h2
      obtain ⟨hy3, S', hs, hs2, h4⟩ := h3
      refine ⟨S', hs, hs2, ih S' (listed.setIfInBounds j true) a' w' hfree' (ready_mono hr (Ne.symm hji)) (YieldsIf.sharper hs hy3) hs2 ?_⟩
      rw [Array.setIfInBounds_comm _ _ hji]
      exact h4

/-- an operation that hands back a value and nothing else -/
def valueOp : Op → Bool
  | .move _ | .assign _ | .pick _ _ _ | .load _ _ | .binOp _ _ _ _ _ | .unOp _ _ _ | .convert _ _ _ | .slice _ _ _ _ _ | .fieldAddr _ _ _ | .field _ _ _ | .indexAddr _ _ _ | .index _ _ _ | .extract _ _ => true
  | _ => false
theorem value_of_run {α : Type} (s : Sem α) (f : α → Value) (w w' : World) (n : Next) (h : ((do pure (Next.value (f (← s)))) : Sem Next).run P w = .ok n w') : ∃ u, n = .value u := by
  rw [Sem.run_bind] at h
  cases hs : s.run P w with
  | ok v w1 =>
    rw [hs] at h
    simp only [Result.andThen, Sem.run_pure, Result.ok.injEq] at h
    exact ⟨_, h.1.symm⟩
  | halt x w1 => rw [hs] at h; simp [Result.andThen] at h
theorem valueOp_spec {o : Oper} (h : valueOp o.op = true) (ρ : Operand → Value) (w w' : World) (n : Next) (hr : (execOp ρ o).run P w = .ok n w') : ∃ u, n = .value u := by
  unfold execOp at hr
  cases ho : o.op <;> rw [ho] at h hr <;> simp only [valueOp] at h <;> try (exact absurd h Bool.false_ne_true)
  all_goals dsimp only at hr
  all_goals first
    | (simp only [Sem.run_pure, Result.ok.injEq] at hr; exact ⟨_, hr.1.symm⟩)
    | exact value_of_run _ (fun v => v) w w' n hr
    | exact value_of_run _ _ w w' n hr
theorem yields_of_quiet {o : Oper} {a : Act} {v : Value} (hv : valueOp o.op = true) (hw : Region.wanted o (yielded ops a.tmps) = true) (h : ∀ w, S w → o.quietAt P a S w v) : YieldsIf P ops S o v a := by
  refine .inl ⟨hw, fun w hs => ?_⟩
  have h1 := h w hs
  unfold Oper.quietAt at h1
  cases hr : (execOp a.eval o).run P w with
  | ok n w' =>
    obtain ⟨u, rfl⟩ := valueOp_spec hv a.eval w w' n hr
    rw [hr] at h1
    simp only [Oper.quietUpon] at h1
    obtain ⟨rfl, rfl⟩ := h1
    rfl
  | halt x w' => rw [hr] at h1; exact absurd h1 (by simp [Oper.quietUpon])

/-- the takes of a segment, in the order of the text -/
def takesB (md : Region.Mode) (l : List Oper) : List Bool → Nat → Array Bool → Bool
  | true :: m, i, listed => (match l[i]? with | some o => valueOp o.op | none => false) && Region.free md l.toArray listed i && (Region.ready md l.toArray listed).contains i && takesB md l m (i + 1) (listed.setIfInBounds i true)
  | false :: m, i, listed => takesB md l m (i + 1) listed
  | [], _, _ => true
def takenL : List Bool → Nat → Array Bool → Array Bool
  | true :: m, i, listed => takenL m (i + 1) (listed.setIfInBounds i true)
  | false :: m, i, listed => takenL m (i + 1) listed
  | [], _, listed => listed
def countT : List Bool → Nat
  | true :: m => countT m + 1
  | false :: m => countT m
  | [] => 0
theorem takes_G {l : List Oper} (hs : Region.noSelect l.toArray = true) (hQ : ∀ c a d v w, Q (.panic c) (Act.put a d v) w → Q (.panic c) a w) {S : World → Prop} {w : World} (hS : S w) {R : Act → Prop} :
    ∀ (m : List Bool) (i fuel : Nat) (listed : Array Bool) (a : Act), takesB md l m i listed = true → m.length + i ≤ l.length →
      (∀ a', R a' → wpG P md l.toArray Q fuel S (takenL m i listed) a' w) → wpQuiet P l.toArray S R (maskRows m (l.drop i)) a → wpG P md l.toArray Q (fuel + countT m) S listed a w
  | [], i, fuel, listed, a, _, _, hk, h => hk a (by simpa [maskRows, wpQuiet] using h)
  | false :: m, i, fuel, listed, a, hb, hl, hk, h => by
    have hlt : i < l.length := by simp only [List.length_cons] at hl; omega
    rw [List.drop_eq_getElem_cons hlt] at h
    exact takes_G hs hQ hS m (i + 1) fuel listed a hb (by simp only [List.length_cons] at hl; omega) hk h
  | true :: m, i, fuel, listed, a, hb, hl, hk, h => by
    have hlt : i < l.length := by simp only [List.length_cons] at hl; omega
    rw [List.drop_eq_getElem_cons hlt] at h
    simp only [takesB, Bool.and_eq_true] at hb
    obtain ⟨⟨⟨hv, hf⟩, hr⟩, hb⟩ := hb
    have ho : l.toArray[i]? = some l[i] := by simp [hlt]
    rw [show l[i]? = some l[i] from by simp [hlt]] at hv
    dsimp only at hv
    simp only [maskRows, wpQuiet] at h
    have hin : i ∈ Region.ready md l.toArray listed := by simpa using hr
    show wpG P md l.toArray Q (fuel + countT m + 1) S listed a w
    by_cases hw : Region.wanted l[i] (yielded l.toArray a.tmps) = true
    · rw [if_pos hw] at h
      obtain ⟨v, h1, h2⟩ := h
      exact wpG_first ho (Region.noSelect_spec hs) (fun c a w => hQ c a _ _ w) _ S listed a w (Region.free_spec ho hf) hin (yields_of_quiet hv hw h1) hS
        (takes_G hs hQ hS m (i + 1) fuel _ _ hb (by simp only [List.length_cons] at hl; omega) hk h2)
    · rw [if_neg hw] at h
      exact wpG_first ho (Region.noSelect_spec hs) (fun c a w => hQ c a _ _ w) _ S listed a w (Region.free_spec ho hf) hin (.inr ⟨by simpa using hw, rfl⟩) hS
        (takes_G hs hQ hS m (i + 1) fuel _ _ hb (by simp only [List.length_cons] at hl; omega) hk h)
theorem wpG_done {listed : Array Bool} {a : Act} {w : World} (hr : Region.ready md ops listed = []) (h : Q .normal a w) : ∀ fuel, wpG P md ops Q fuel S listed a w
  | 0 => ⟨hr, h⟩
  | _ + 1 => ⟨fun _ => h, by rw [hr]; simp⟩
end
end Go.Proofs.Yteijgoadcpphlaa
namespace Go.Proofs.Yteijgoadcpphlaa
open Go
section
variable {P : Program} {Q : Exit → Act → World → Prop} {md : Region.Mode} {S : World → Prop}
def segtB (md : Region.Mode) (l : List Oper) (m : List Bool) (rd : List Nat) (fuel fuel' : Nat) (listed : Array Bool) : Bool :=
  decide (fuel = fuel' + 1 + countT m) && decide (m.length ≤ l.length) && takesB md l m 0 listed && decide (Region.ready md l.toArray (takenL m 0 listed) = rd) && !rd.isEmpty
/-- what reads is taken; then one after another of what is ready is tried -/
theorem wpG_seg {l : List Oper} (m : List Bool) (rd : List Nat) (fuel' : Nat) {fuel : Nat} {listed : Array Bool} {a : Act} {w : World} (hs : Region.noSelect l.toArray = true)
    (hQ : ∀ c a d v w, Q (.panic c) (Act.put a d v) w → Q (.panic c) a w) (hb : segtB md l m rd fuel fuel' listed = true) (hS : S w)
    (h : wpQuiet P l.toArray S (fun a' => ∀ i ∈ rd, wpOp P l.toArray Q i (fun a'' w'' => ∃ S' : World → Prop, (∀ x, S' x → S x) ∧ S' w'' ∧ wpG P md l.toArray Q fuel' S' ((takenL m 0 listed).setIfInBounds i true) a'' w'') a' w) (maskRows m l) a) :
    wpG P md l.toArray Q fuel S listed a w := by
  simp only [segtB, Bool.and_eq_true, decide_eq_true_eq, Bool.not_eq_true'] at hb
  obtain ⟨⟨⟨⟨h1, h2⟩, h3⟩, h4⟩, h5⟩ := hb
  subst h1
  refine takes_G (P := P) (md := md) hs hQ hS (R := fun a' => ∀ i ∈ rd, wpOp P l.toArray Q i (fun a'' w'' => ∃ S' : World → Prop, (∀ x, S' x → S x) ∧ S' w'' ∧ wpG P md l.toArray Q fuel' S' ((takenL m 0 listed).setIfInBounds i true) a'' w'') a' w) m 0 (fuel' + 1) listed a h3 (by omega) (fun a' hq => ?_) (by simpa using h)
  refine ⟨fun h0 => (by rw [h4] at h0; rw [h0] at h5; cases h5), fun j hj => ?_⟩
  rw [h4] at hj
  exact hq j hj
def segeB (md : Region.Mode) (l : List Oper) (m : List Bool) (fuel : Nat) (listed : Array Bool) : Bool :=
  decide (countT m ≤ fuel) && decide (m.length ≤ l.length) && takesB md l m 0 listed && decide (Region.ready md l.toArray (takenL m 0 listed) = [])
theorem wpG_end {l : List Oper} (m : List Bool) {fuel : Nat} {listed : Array Bool} {a : Act} {w : World} (hs : Region.noSelect l.toArray = true)
    (hQ : ∀ c a d v w, Q (.panic c) (Act.put a d v) w → Q (.panic c) a w) (hb : segeB md l m fuel listed = true) (hS : S w)
    (h : wpQuiet P l.toArray S (fun a' => Q .normal a' w) (maskRows m l) a) : wpG P md l.toArray Q fuel S listed a w := by
  simp only [segeB, Bool.and_eq_true, decide_eq_true_eq] at hb
  obtain ⟨⟨⟨h1, h2⟩, h3⟩, h4⟩ := hb
  have := takes_G (P := P) (md := md) hs hQ hS (R := fun a' => Q .normal a' w) m 0 (fuel - countT m) listed a h3 (by omega) (fun a' hq => wpG_done h4 hq _) (by simpa using h)
  rwa [Nat.sub_add_cancel h1] at this
theorem wp_region_G {id : Nat} {a : Act} {w : World} {l : List Oper} (S : World → Prop) (hm : P.follows .mixedOrders = true) (h : wpG P .any l.toArray Q l.length S (Array.replicate l.length false) a w.drew) :
    (Code.region id l.toArray true).wp P Q a w := wp_region_any hm (wpAny_of_G _ _ _ _ _ (by simpa using h))
/-- one that is carried out -/
theorem segt_run {l : List Oper} {fuel : Nat} {listed : Array Bool} {i : Nat} {o : Oper} {a : Act} {w : World} (ho : l.toArray[i]? = some o) (hw : Region.wanted o (yielded l.toArray a.tmps) = true)
    (h : ∀ K : Act → World → Prop, (∀ a' w', (∃ S' : World → Prop, (∀ x, S' x → S x) ∧ S' w' ∧ wpG P md l.toArray Q fuel S' listed a' w') → K a' w') → o.wp P a w K Q) :
    wpOp P l.toArray Q i (fun a'' w'' => ∃ S' : World → Prop, (∀ x, S' x → S x) ∧ S' w'' ∧ wpG P md l.toArray Q fuel S' listed a'' w'') a w := by
  unfold wpOp
  simp only [ho, hw, if_true]
  exact .inl (h _ fun _ _ h => h)
end
end Go.Proofs.Yteijgoadcpphlaa
namespace Go.Proofs.Yteijgoadcpphlaa
open Go.ChangeShapes Go.WideShapes Go.ChangeAt Go.RowKit Go.BigFrame
set_option linter.unusedVariables false

theorem Drew.drewP {n₀ g : Nat} {a : Option Addr} {len cap : Nat} {zs : List Int} {c : Cu} {w w1 : World} (h : Drew n₀ g a len cap zs c w w1) : Drew n₀ g a len cap zs c w w1.drew :=
  ⟨⟨h.st.code, h.st.cur, h.st.hg, h.st.hi⟩, h.below.drew, ⟨h.grown.os, h.grown.tape, h.grown.output, h.grown.size, h.grown.block⟩⟩
/-- one of some numbers, laid just now; what else is there stays -/
theorem pick_lit2 (n₀ g len cap : Nat) (a : Option Addr) (zs : List Int) (c : Cu) (xs : List Int) (n : Nat) (w0 w : World) (cs : Array Value) (hd : Drew n₀ g a len cap zs c w0 w) (hn : 0 < n) (hn2 : n ≤ 256) (hx : xs.length = n) (hcs : cs = (xs.map (Value.int .i64)).toArray) :
    Calls Try.prog 25 #[.pointer (some ⟨g, 0, none⟩), .slice (some ⟨w.heap.size, 0, none⟩) n n] (w.alloc (.cells cs 3)) fun e w' => ∃ (z : Int) (c' : Cu), e = .returned (.int .i64 z) ∧ Drew n₀ g a len cap zs c' w0 w' ∧ w.grownBy w' (some g) := by
  have hgl := hd.st.lt
  refine (pickint_any n₀ g len cap w.heap.size n a zs c xs _ (hd.alloc _).st hn hn2 hx (by omega) ?_).mono (fun e w' h => ⟨_, _, h.1, (hd.alloc _).trans h.2, grownT (World.grownBy_alloc _ _ _) h.2.grown⟩)
  intro k hk
  rw [lit_cell, hcs]
  simp [show k < xs.length by omega]
/-- append of one step to a list of one's own, in a drawn region: what stood there stays where it stood -/
theorem wp_append_st {w : World} {o : Oper} {a : Act} {K : Act → World → Prop} {Q : Exit → Act → World → Prop} (s x : Operand) (ho : o.op = .call { callee := .builtin .append, args := #[s, x], argTypes := #[24, 24] })
    (base gv n cap : Nat) (xs : List Value) (hs : a.eval s = .slice (some ⟨gv, 0, none⟩) n cap) (hown : w.ownsRow base 30 2 (.slice (some ⟨gv, 0, none⟩) n cap) n xs) (hn : n ≤ 1000000) (ad : Addr) (y z : Int) (hx : a.eval x = .slice (some ad) 1 1)
    (hnews : ∀ j u, ([.int .i64 y, .int .i64 z] : List Value)[j]? = some u → w.cell? (ad.add j) = some u) (hbase : base ≤ w.heap.size)
    (h : ∀ v' w', w'.ownsRow base 30 2 v' (n + 1) (xs ++ [.int .i64 y, .int .i64 z]) → w.grownBy w' (some gv) → (∀ j, j < n * 2 → w'.cell? ⟨gv, j, none⟩ = xs[j]?) → K (a.put o.dst v') w') : o.wp Try.prog a w K Q := by
  obtain ⟨i0, hi, hz0, hz1, hz2⟩ := info_parts infoSt
  have h1 : ∀ u ∈ ([.int .i64 y, .int .i64 z] : List Value), u.oneCell' = true := by intro u hu; simp at hu; rcases hu with rfl | rfl <;> rfl
  have hxl : xs.length = n * 2 := hown.1
  have hcells : ∀ j, j < n * 2 → w.cell? ⟨gv, j, none⟩ = xs[j]? := fun j hj => hown.cellAt j hj
  by_cases hroom : n + 1 ≤ cap
  · refine wp_append_own_spare w s x 24 ho base 30 i0 2 Try.underlying24 hi hz1 gv n cap xs hs hown ad 1 1 [.int .i64 y, .int .i64 z] hx rfl hnews h1 hroom (fun w' g1 g2 => h _ _ g1 g2 (fun j hj => ?_))
    rw [g1.cellAt j (by omega), List.getElem?_append_left (by omega)]
  · obtain ⟨v', w', hr, g1, g2⟩ := run_append_arg_grows (P := Try.prog) w 24 o.type 30 i0 (.agg #[.int .i64 0, .int .i64 0]) 2 16 Try.underlying24 hi hz0 hz1 hz2 rfl (by decide) ⟨gv, 0, none⟩ n cap xs hxl (fun j u hj => by
      have : j < n * 2 := by rw [← hxl]; exact (List.getElem?_eq_some_iff.1 hj).1
      rw [addr_add, Nat.zero_add, hcells j this]; exact hj) ad 1 1 [.int .i64 y, .int .i64 z] rfl hnews (by omega) (by unfold maxLen; omega) (by omega)
    have hK := h v' w' (own_base g1 hbase) ⟨g2.os, g2.tape, g2.output, g2.size, fun j hj _ => g2.block j hj (by simp)⟩ (fun j hj => by
      have hc := hcells j hj
      have hj2 : j < xs.length := by omega
      rw [List.getElem?_eq_getElem hj2] at hc ⊢
      exact g2.cell hc (by simp))
    unfold Oper.wp execOp
    simp only [ho, resolve, invoke, builtin, Sem.run_bind, Sem.run_pure, Result.andThen_ok, List.map_toArray, List.map_cons, List.map_nil, hs, hx, hr]
    exact hK
set_option maxRecDepth 100000 in
set_option maxHeartbeats 2000000 in
theorem make10_any (n₀ g len cap : Nat) (a : Option Addr) (zs : List Int) (c : Cu) (w : World) (hs : DrawSt n₀ w g a len cap zs c.i c.h) :
    Calls Try.prog 34 #[.pointer (some ⟨g, 0, none⟩)] w fun e w' => ∃ (v : Value) (ks : List K2) (c' : Cu), e = .returned v ∧ (1 ≤ ks.length ∧ ks.length ≤ 6) ∧ w'.ownsRow w.heap.size 30 2 v ks.length (keyCells ks) ∧ Drew n₀ g a len cap zs c' w w' := by
  obtain ⟨i0, hi, hz0, hz1, hz2⟩ := info_parts infoSt
  have hgl := hs.lt
  have hd0 : Drew n₀ g a len cap zs c w w := ⟨hs, Below.refl _ _, World.grownBy.refl _ _⟩
  go_enter Try.func34, Try.ntmps34
  go_wp2_with fail
  refine (once_any n₀ g len cap a zs c 3 w hs (by omega)).mono ?_
  rintro e w1 ⟨rfl, hd1⟩
  have hD1 := hd0.trans hd1
  generalize (belowF zs len c 3).2 = c1 at *
  generalize ((belowF zs len c 3).1 == 0) = bo at *
  clear hd0 hd1 hs
  cases bo with
  | true =>
    go_wp2_with fail
    refine (below_any n₀ g len cap a zs c1 30 _ hD1.st (by omega)).mono ?_
    rintro e w2 ⟨rfl, hd2⟩
    have hbd := belowF_bd zs len c1 30
    have hD2 := hD1.trans hd2
    generalize belowF zs len c1 30 = b at *
    obtain ⟨x, c2⟩ := b
    dsimp only at *
    have ew : IntKind.i64.wrap (1 + x) = 1 + x := IntWalk.i64_in _ (by omega)
    have ew2 : wrap64 (1 + x) = 1 + x := IntWalk.wrap64_in _ (by omega)
    clear hd2 hD1
    go_wp2_with fail
    refine (below_any n₀ g len cap a zs c2 9 _ hD2.st (by omega)).mono ?_
    rintro e w3 ⟨rfl, hd3⟩
    have hbd2 := belowF_bd zs len c2 9
    have hD3 := hD2.trans hd3
    generalize belowF zs len c2 9 = b at *
    obtain ⟨y, c3⟩ := b
    dsimp only at *
    have ey : IntKind.i64.wrap (1 + y) = 1 + y := IntWalk.i64_in _ (by omega)
    have ey2 : wrap64 (1 + y) = 1 + y := IntWalk.wrap64_in _ (by omega)
    clear hd3 hD2
    go_wp2_with fail
    refine (sgrowth_any (1 + x) (1 + y) w3).mono ?_
    rintro e w4 ⟨v, rfl, ho, hb⟩
    have hsz := hD3.grown.size
    have HF := Lib.hid (hD3.grow hgl (grown_of_below' hb none) (by simp))
    have HO := Lib.hid (own_base ho hsz)
    have HG := Lib.hid (show groOk (1 + x) (1 + y) from ⟨by omega, by omega⟩)
    clear ho hb hD3
    go_wp2
    go_ret
    exact ⟨v, _, c3, rfl, ⟨(pln_len (gro_plan HG.out)).1, gro_len _ _⟩, HO.out, HF.out⟩
  | false =>
    have hbs := fun w => build_st1 1 w
    have hsz1 := hD1.grown.size
    have hown0 := World.ownsRow_lit (base := w.heap.size) (e := 30) (size := 2) w1 #[.int .i64 0, .int .i64 1] 1 hsz1 (by unfold maxLen; omega) rfl
    have hD2 := hD1.alloc (.cells #[.int .i64 0, .int .i64 1] 30)
    go_wp2_with fail
    generalize w1.alloc (.cells #[.int .i64 0, .int .i64 1] 30) = w2 at *
    refine (below_any n₀ g len cap a zs c1 4 _ hD2.st (by omega)).mono ?_
    rintro e w3 ⟨rfl, hd3⟩
    have hbd := belowF_bd zs len c1 4
    have hD3 := hD2.trans hd3
    have hown3 := hown0.kept hd3.grown (.inr fun e => by have h : w1.heap.size = g := Option.some.inj e; omega)
    generalize belowF zs len c1 4 = b at *
    obtain ⟨x, c3⟩ := b
    dsimp only at *
    obtain ⟨m, rfl⟩ : ∃ m : Nat, x = m := ⟨x.toNat, by omega⟩
    have hm : m < 4 := by omega
    have HD := Lib.hid hD3
    have HO := Lib.hid hown3
    clear hd3 hD1 hD2 hD3 hown0 hown3 hbs hbd
    generalize Value.slice (some ⟨w1.heap.size, 0, none⟩) 1 1 = v0 at *
    go_wp2
    go_loopw [3, 5] (fun v i wr => ∃ (k : Nat) (ks : List K2) (c2 : Cu), k ≤ m ∧ i = .int .i64 k ∧ ks.length = k + 1 ∧ wr.ownsRow w.heap.size 30 2 v (k + 1) (keyCells ks) ∧ Drew n₀ g a len cap zs c2 w wr)
      (fun _ i _ => m - (intOf i).toNat)
    case atStart => exact ⟨0, [(0, 1)], c3, Nat.zero_le _, rfl, rfl, HO.out, HD.out⟩
    case round =>
      obtain ⟨k, ks, c2, hk, rfl, hkl, hown, hD⟩ := hrel
      clear HO HD
      by_cases hlt : k < m
      · have z1 : (k : Int) < (m : Int) := by omega
        have z0 : (0 : Int) ≤ (k : Int) := by omega
        obtain ⟨gv, cv, hv, hnc, hcm, hbg, hgs⟩ := (ownsRowK_shape hown).resolve_left (by rintro ⟨_, h⟩; omega)
        have hown1 := hown
        rw [hv] at hown1
        have e0 := (own_cell hown1 (k * 2) (by omega)).1
        have e1 := (own_cell hown1 (k * 2 + 1) (by omega)).1
        have hkc := keyCells_get ks k (by omega)
        simp only [List.getD, hkc.1, Option.getD_some] at e0
        simp only [List.getD, hkc.2, Option.getD_some] at e1
        have HKC := Lib.hid hkc
        simp only [List.getD] at HKC
        generalize hpe : (ks[k]?.getD (0, 0)).fst = p at *
        generalize hqe : (ks[k]?.getD (0, 0)).snd = q at *
        have hix := idx_st hv k (by omega) (k : Int) rfl
        have HGV := Lib.hid (show gv ≠ g by omega)
        have HKL := Lib.hid hkl
        have HB := Lib.hid (And.intro hbg hgs)
        have hbk := fun x y w => build_st x y w
        have HVO := Lib.hid (congrArg Value.ownBlock hv)
        have HVE := Lib.hid hv
        have L0 : ∀ wx : World, (wx.cell? ⟨gv, k * 2, none⟩ = some (.int .i64 p) ∧ wx.cell? ⟨gv, k * 2 + 1, none⟩ = some (.int .i64 q)) → (loadVar 3 ⟨gv, k * 2, none⟩).run Try.prog wx = .ok (.int .i64 p) wx := fun wx h => sint_load h.1
        have L1 : ∀ wx : World, (wx.cell? ⟨gv, k * 2, none⟩ = some (.int .i64 p) ∧ wx.cell? ⟨gv, k * 2 + 1, none⟩ = some (.int .i64 q)) → (loadVar 3 ⟨gv, k * 2 + 1, none⟩).run Try.prog wx = .ok (.int .i64 q) wx := fun wx h => sint_load h.2
        have HS := Lib.hid (And.intro e0 e1)
        have HO := Lib.hid hown
        have HD := Lib.hid hD
        clear hown1 hkc e0 e1 hown hD hv hkl hbg hgs hnc hcm hpe hqe
        go_wp2
        refine wp_region_G (fun wx => wx.cell? ⟨gv, k * 2, none⟩ = some (.int .i64 p) ∧ wx.cell? ⟨gv, k * 2 + 1, none⟩ = some (.int .i64 q)) (by kernel_rfl) ?_
        have HSd := Lib.hid (show (World.drew _).cell? ⟨gv, k * 2, none⟩ = some (.int .i64 p) ∧ (World.drew _).cell? ⟨gv, k * 2 + 1, none⟩ = some (.int .i64 q) from HS.out)
        have HOd := Lib.hid (HO.out.drew)
        have HDd := Lib.hid (HD.out.drewP)
        clear HS HO HD
        have HS := HSd
        have HO := HOd
        have HD := HDd
        clear HSd HOd HDd
        generalize World.drew _ = wD at *
        refine wpG_seg [true, true, true, true, true, true, true, true, false, false, true, true, true, true, true, true] [8] 5 (by kernel_rfl) (by intro c a d v w h; cases d <;> exact h) (by kernel_rfl) HS.out ?_
        try simp only [maskRows]
        repeat (first
          | go_big_quiet_skip
          | (go_big_quiet_want
             first
               | (go_big_quiet_op; go_big_quiet_on)
               | (refine q_load 3 _ _ _ rfl rfl L0 ?_; simp only [Act.put, List.setIfInBounds_toArray, List.set_cons_zero, List.set_cons_succ]; go_big_quiet_on)
               | (refine q_load 3 _ _ _ rfl rfl L1 ?_; simp only [Act.put, List.setIfInBounds_toArray, List.set_cons_zero, List.set_cons_succ]; go_big_quiet_on)
               | (go_big_quiet_op; refine ⟨_, fun _ _ => rfl, ?_⟩; go_big_quiet_on)
               | (go_big_quiet_op; refine ⟨_, fun _ _ _ => rfl, ?_⟩; go_big_quiet_on)))
        refine wpQuiet_nil ?_
        refine List.forall_mem_singleton.2 ?_
        refine segt_run rfl (by rfl) (fun K hK => ?_)
        go_simp
        refine (below_any n₀ g len cap a zs c2 9 _ HD.out.st (by omega)).mono ?_
        rintro e w2 ⟨rfl, hd2⟩
        dsimp only
        have hgw : g < wD.heap.size := HD.out.st.lt
        replace HS := Lib.hid (show w2.cell? ⟨gv, k * 2, none⟩ = some (.int .i64 p) ∧ w2.cell? ⟨gv, k * 2 + 1, none⟩ = some (.int .i64 q) from ⟨hd2.grown.cell HS.out.1 (by simpa using HGV.out), hd2.grown.cell HS.out.2 (by simpa using HGV.out)⟩)
        replace HO := Lib.hid (HO.out.kept hd2.grown (.inr fun e => HGV.out (Option.some.inj (HVO.out.symm.trans e))))
        replace HD := Lib.hid (HD.out.trans hd2)
        generalize (belowF zs len c2 9).2 = c3 at *
        generalize (belowF zs len c2 9).1 = y at *
        clear hd2
        refine hK _ _ ⟨_, fun _ h => h, HS.out, ?_⟩
        clear hK K
        try simp only [Act.put, List.getElem_toArray, List.getElem_cons_succ, List.getElem_cons_zero, List.setIfInBounds_toArray, List.set_cons_zero, List.set_cons_succ]
        refine wpG_seg [false, false, false, false, false, false, false, false, false, true] [16] 3 (by kernel_rfl) (by intro c a d v w h; cases d <;> exact h) (by kernel_rfl) HS.out ?_
        try simp only [maskRows]
        repeat (first
          | go_big_quiet_skip
          | (go_big_quiet_want
             first
               | (go_big_quiet_op; go_big_quiet_on)
               | (refine q_load 3 _ _ _ rfl rfl L0 ?_; simp only [Act.put, List.setIfInBounds_toArray, List.set_cons_zero, List.set_cons_succ]; go_big_quiet_on)
               | (refine q_load 3 _ _ _ rfl rfl L1 ?_; simp only [Act.put, List.setIfInBounds_toArray, List.set_cons_zero, List.set_cons_succ]; go_big_quiet_on)
               | (go_big_quiet_op; refine ⟨_, fun _ _ => rfl, ?_⟩; go_big_quiet_on)
               | (go_big_quiet_op; refine ⟨_, fun _ _ _ => rfl, ?_⟩; go_big_quiet_on)))
        refine wpQuiet_nil ?_
        refine List.forall_mem_singleton.2 ?_
        refine segt_run rfl (by rfl) (fun K hK => ?_)
        go_simp
        refine hK _ _ ⟨_, fun _ h => h, HS.out, ?_⟩
        clear hK K
        try simp only [Act.put, List.getElem_toArray, List.getElem_cons_succ, List.getElem_cons_zero, List.setIfInBounds_toArray, List.set_cons_zero, List.set_cons_succ]
        refine wpG_seg [] [17] 2 (by kernel_rfl) (by intro c a d v w h; cases d <;> exact h) (by kernel_rfl) HS.out ?_
        try simp only [maskRows]
        refine wpQuiet_nil ?_
        refine List.forall_mem_singleton.2 ?_
        refine segt_run rfl (by rfl) (fun K hK => ?_)
        go_simp
        generalize wrap64 (wrap64 (p + 1) + y) = X at *
        generalize wrap64 (q + 1) = Y at *
        have HN := Lib.hid (cell_two_new w2 (.int .i64 X) (.int .i64 Y) 30)
        replace HS := Lib.hid (show (w2.alloc (.cells #[.int .i64 X, .int .i64 Y] 30)).cell? ⟨gv, k * 2, none⟩ = some (.int .i64 p) ∧ (w2.alloc (.cells #[.int .i64 X, .int .i64 Y] 30)).cell? ⟨gv, k * 2 + 1, none⟩ = some (.int .i64 q) from ⟨(World.grownBy_alloc w2 (.cells #[.int .i64 X, .int .i64 Y] 30) none).cell HS.out.1 (by simp), (World.grownBy_alloc w2 (.cells #[.int .i64 X, .int .i64 Y] 30) none).cell HS.out.2 (by simp)⟩)
        replace HO := Lib.hid (HO.out.alloc (.cells #[.int .i64 X, .int .i64 Y] 30))
        replace HD := Lib.hid (HD.out.alloc (.cells #[.int .i64 X, .int .i64 Y] 30))
        generalize World.alloc w2 (.cells #[.int .i64 X, .int .i64 Y] 30) = w4 at *
        generalize w2.heap.size = gL at *
        refine hK _ _ ⟨_, fun _ h => h, HS.out, ?_⟩
        clear hK K
        try simp only [Act.put, List.getElem_toArray, List.getElem_cons_succ, List.getElem_cons_zero, List.setIfInBounds_toArray, List.set_cons_zero, List.set_cons_succ]
        refine wpG_seg [] [18] 1 (by kernel_rfl) (by intro c a d v w h; cases d <;> exact h) (by kernel_rfl) HS.out ?_
        try simp only [maskRows]
        refine wpQuiet_nil ?_
        refine List.forall_mem_singleton.2 ?_
        refine segt_run rfl (by rfl) (fun K hK => ?_)
        have hbase : w.heap.size ≤ w4.heap.size := HD.out.grown.size
        refine wp_append_st (.tmp 24) (.tmp 41) rfl w.heap.size gv (k + 1) cv (keyCells ks) HVE.out (HVE.out ▸ HO.out) (by omega) ⟨gL, 0, none⟩ X Y rfl HN.out hbase ?_
        intro v6 w6 hown6 hgrow6 hsame6
        have hs0 := hsame6 (k * 2) (by omega)
        have hs1 := hsame6 (k * 2 + 1) (by omega)
        rw [HKC.out.1] at hs0
        rw [HKC.out.2] at hs1
        replace HS := Lib.hid (And.intro hs0 hs1)
        replace HD := Lib.hid (HD.out.grow hgl hgrow6 (fun b e => by cases e; exact HB.out.1))
        replace HO := Lib.hid (show w6.ownsRow w.heap.size 30 2 v6 (k + 1 + 1) (keyCells (ks ++ [(X, Y)])) by rw [keyCells_snoc]; exact hown6)
        clear hown6 hgrow6 hsame6 hs0 hs1 hbase HN
        refine hK _ _ ⟨_, fun _ h => h, HS.out, ?_⟩
        clear hK K
        try simp only [Act.put, List.getElem_toArray, List.getElem_cons_succ, List.getElem_cons_zero, List.setIfInBounds_toArray, List.set_cons_zero, List.set_cons_succ]
        refine wpG_end [false, false, false, false, false, false, false, false, false, false, false, false, false, false, false, false, false, false, false, true] (by kernel_rfl) (by intro c a d v w h; cases d <;> exact h) (by kernel_rfl) HS.out ?_
        try simp only [maskRows]
        repeat (first
          | go_big_quiet_skip
          | (go_big_quiet_want
             first
               | (go_big_quiet_op; go_big_quiet_on)
               | (refine q_load 3 _ _ _ rfl rfl L0 ?_; simp only [Act.put, List.setIfInBounds_toArray, List.set_cons_zero, List.set_cons_succ]; go_big_quiet_on)
               | (refine q_load 3 _ _ _ rfl rfl L1 ?_; simp only [Act.put, List.setIfInBounds_toArray, List.set_cons_zero, List.set_cons_succ]; go_big_quiet_on)
               | (go_big_quiet_op; refine ⟨_, fun _ _ => rfl, ?_⟩; go_big_quiet_on)
               | (go_big_quiet_op; refine ⟨_, fun _ _ _ => rfl, ?_⟩; go_big_quiet_on)))
        refine wpQuiet_nil ?_
        go_wp2
        exact ⟨⟨k + 1, ks ++ [(X, Y)], c3, by omega, by go_num, by have := HKL.out; simp; omega, HO.out, HD.out⟩, by simp [intOf]; omega⟩
      · obtain rfl : k = m := by omega
        have z1 : ¬ (k : Int) < (k : Int) := by omega
        have HO := Lib.hid hown
        have HD := Lib.hid hD
        have HKL := Lib.hid hkl
        clear hown hD hkl
        go_wp2
        go_ret
        have HKB := Lib.hid (show 1 ≤ ks.length ∧ ks.length ≤ 6 by have := HKL.out; omega)
        rw [← HKL.out] at HO
        first | exact ⟨_, ks, c2, rfl, HKB.out, HO.out, HD.out⟩ | exact ⟨_, rfl, ks, HKB.out, HO.out, c2, HD.out⟩ | exact ⟨_, rfl, ks, c2, HKB.out, HO.out, HD.out⟩
set_option maxRecDepth 100000 in
set_option maxHeartbeats 2000000 in
theorem odd10_any (n₀ g len cap : Nat) (a : Option Addr) (zs : List Int) (c : Cu) (w : World) (hs : DrawSt n₀ w g a len cap zs c.i c.h) :
    Calls Try.prog 24 #[.pointer (some ⟨g, 0, none⟩)] w fun e w' => ∃ (v : Value) (ks : List K2) (c' : Cu), e = .returned v ∧ ks.length ≤ 8 ∧ w'.ownsRow w.heap.size 30 2 v ks.length (keyCells ks) ∧ Drew n₀ g a len cap zs c' w w' := by
  obtain ⟨i0, hi, hz0, hz1, hz2⟩ := info_parts infoSt
  have hgl := hs.lt
  have hd0 : Drew n₀ g a len cap zs c w w := ⟨hs, Below.refl _ _, World.grownBy.refl _ _⟩
  go_enter Try.func24, Try.ntmps24
  go_wp2_with fail
  refine (make10_any n₀ g len cap a zs c w hs).mono ?_
  rintro e w1 ⟨v, ks, c1, rfl, ⟨hk1, hk6⟩, hown, hD⟩
  clear hd0 hs
  go_wp2_with fail
  refine (below_any n₀ g len cap a zs c1 8 _ hD.st (by omega)).mono ?_
  rintro e w2 ⟨rfl, hd2⟩
  have hD2 := hD.trans hd2
  have hvg : v.ownBlock ≠ some g := fun e => by have := (World.ownsRow.lt hown _ e).1; omega
  have hown2 := hown.kept hd2.grown (.inr hvg)
  generalize (belowF zs len c1 8).2 = c2 at *
  generalize (belowF zs len c1 8).1 = x at *
  clear hD hd2 hown
  by_cases hx0 : x = 0
  · subst hx0
    go_wp2_with fail
    refine (pick_lit2 n₀ g len cap a zs c2 [0, 5, 1000000, 1000001] 4 w w2 _ hD2 (by omega) (by omega) rfl rfl).mono ?_
    rintro e w3 ⟨z, c3, rfl, hD3, hg3⟩
    have hown3 := hown2.kept hg3 (.inr hvg)
    clear hown2 hg3 hD2
    go_wp2_with fail
    refine (pick_lit2 n₀ g len cap a zs c3 [0, 2, 6, 7] 4 w w3 _ hD3 (by omega) (by omega) rfl rfl).mono ?_
    rintro e w4 ⟨z2, c4, rfl, hD4, hg4⟩
    have hown4 := hown3.kept hg4 (.inr hvg)
    have hbk := fun w => build_st z z2 w
    have hns := hD4.grown.size
    clear hown3 hg4 hD3
    go_wp2_with (at_builtin; refine wpList_append_own _ rfl (.tmp 10) (.tmp 18) 24 rfl w.heap.size 30 i0 (.agg #[.int .i64 0, .int .i64 0]) 2 16 Try.underlying24 hi hz0 hz1 hz2 rfl (by decide) _ _ _ rfl (hown4.alloc _) ⟨w4.heap.size, 0, none⟩ 1 1 [.int .i64 z, .int .i64 z2] rfl rfl (cell_two_new _ _ _ _) (by intro u hu; simp at hu; rcases hu with rfl | rfl <;> rfl) (by unfold maxLen; omega) (by omega) (by simp; omega) ?_; intro v5 w5 hown5 hgrow5 _)
    have HF := Lib.hid ((hD4.alloc _).grow hgl hgrow5 (fun b e => (World.ownsRow.lt hown4 b e).1))
    have HO := Lib.hid (show w5.ownsRow w.heap.size 30 2 v5 (ks ++ [(z, z2)]).length (keyCells (ks ++ [(z, z2)])) by rw [keyCells_snoc]; simpa using hown5)
    clear hown4 hown5 hgrow5 hD4 hbk
    go_wp2
    go_ret
    exact ⟨_, ks ++ [(z, z2)], c4, rfl, by simp; omega, HO.out, HF.out⟩
  · by_cases hx1 : x = 1
    · subst hx1
      go_wp2_with fail
      refine (below_any n₀ g len cap a zs c2 3 _ hD2.st (by omega)).mono ?_
      rintro e w3 ⟨rfl, hd3⟩
      have hD3 := hD2.trans hd3
      have hown3 := hown2.kept hd3.grown (.inr hvg)
      generalize (belowF zs len c2 3).2 = c3 at *
      generalize (belowF zs len c2 3).1 = y at *
      obtain ⟨gv, cv, rfl, hnc, hcm, hbg, hgs⟩ := (ownsRowK_shape hown3).resolve_left (by rintro ⟨_, h⟩; omega)
      obtain ⟨⟨p, q⟩, r, rfl⟩ : ∃ k r, ks = k :: r := by
        cases ks with
        | nil => simp at hk1
        | cons k r => exact ⟨k, r, rfl⟩
      obtain ⟨s1, s2⟩ := own_cell hown3 0 (by omega)
      have st := hown3.stored 0 (.int .i64 y)
      have HF := Lib.hid (hD3.grow hgl st.2 (fun b e => by cases e; exact hbg))
      have HO := Lib.hid (show (w3.setCell ⟨gv, 0, none⟩ (.int .i64 y)).ownsRow w.heap.size 30 2 (.slice (some ⟨gv, 0, none⟩) ((y, q) :: r).length cv) ((y, q) :: r).length (keyCells ((y, q) :: r)) from st.1)
      have z1 : (0 : Int) < (((p, q) :: r).length : Int) := by omega
      clear hd3 hD2 hown2 hD3 hown3 st hx0
      go_wp2
      go_ret
      exact ⟨_, (y, q) :: r, c3, rfl, by simp at hk6 ⊢; omega, HO.out, HF.out⟩
    · by_cases hx2 : x = 2
      · subst hx2
        go_wp2
        go_ret
        exact ⟨_, [], c2, rfl, by simp, ⟨by simp [keyCells], .inl ⟨rfl, rfl⟩⟩, hD2⟩
      · have e0 : (x == 0) = false := by simpa using hx0
        have e1 : (x == 1) = false := by simpa using hx1
        have e2 : (x == 2) = false := by simpa using hx2
        go_wp2
        go_ret
        exact ⟨_, ks, c2, rfl, by omega, hown2, hD2⟩
set_option maxRecDepth 100000 in
set_option maxHeartbeats 2000000 in
theorem drawdegreeat_any (len cap : Nat) (a : Option Addr) (zs : List Int) (w : World) (hc : CodeAt w.heap.size w a len zs) :
    Calls Try.prog 9 #[.slice a len cap] w fun e w' => ∃ (v : Value) (ks : List K2) (now : Int), e = .returned (.tuple #[v, .int .i64 now]) ∧ ks.length ≤ 8 ∧ keysAt w' v ks ∧ Below w.heap.size w w' := by
  have H0 := Lib.hid (new_any w.heap.size len cap a zs w hc (Nat.le_refl _))
  go_enter Try.func9, Try.ntmps9
  go_wp2_with fail
  refine H0.out.mono ?_
  rintro e w1 ⟨g, rfl, hg, hs, hb1, hg1⟩
  have hgl := hs.lt
  go_wp2_with fail
  refine (odd10_any w.heap.size g len cap a zs _ w1 hs).mono ?_
  rintro e w2 ⟨v, ks, c2, rfl, hl, hown, hD⟩
  have hvg : v.ownBlock ≠ some g := fun e => by have := (World.ownsRow.lt hown _ e).1; omega
  clear hs
  go_wp2_with fail
  refine (pick_lit2 w.heap.size g len cap a zs c2 [0, 1, 5, 10, 20, 1000000, -1, 9223372036854775807] 8 w1 w2 _ hD (by omega) (by omega) rfl rfl).mono ?_
  rintro e w3 ⟨z, c3, rfl, hD3, hg3⟩
  have HK := Lib.hid (stepsAt_own (hown.kept hg3 (.inr hvg)))
  have HB := Lib.hid (hb1.trans hD3.below)
  clear hown hg3 hD hD3 hb1
  go_wp2
  go_ret2
  exact ⟨v, ks, z, rfl, hl, HK.out, HB.out⟩
end Go.Proofs.Yteijgoadcpphlaa
namespace Go.Proofs.Yteijgoadcpphlaa
open Go.ChangeShapes Go.WideShapes Go.ChangeAt Go.RowKit Go.BigFrame Go.Shelf
attribute [local go_sem] Oper.semAt_some
set_option linter.unusedVariables false

set_option maxRecDepth 100000 in
set_option maxHeartbeats 2000000 in
theorem idegreeat_any (v : Value) (ks : List K2) (now : Int) (w : World) (h : keysAt w v ks) (hs : ks.length ≤ 2000000) : Calls Try.prog 10 #[v, .int .i64 now] w fun e w' => e = .returned (.int .i64 (degV ks now)) ∧ Below w.heap.size w w' := by
  have HP := Lib.hid (fun w' hb => iplanok_any v ks w' (keysAt_below h hb) hs)
  have hk0 := keysIn0_of h
  obtain ⟨a, cap, rfl, hcap, hcells⟩ := h
  clear hcells
  have bN := Boxed.new w 3 (.int .i64 now)
  have hb1 := (Below.refl w.heap.size w).alloc (Nat.le_refl _) (.cells #[.int .i64 now] 3)
  have bD := Boxed.new (w.alloc (.cells #[.int .i64 now] 3)) 3 (.int .i64 1)
  rw [show (w.alloc (.cells #[.int .i64 now] 3)).heap.size = w.heap.size + 1 by simp] at bD
  have bN2 := bN.alloc (.cells #[.int .i64 1] 3)
  have hb2 := hb1.alloc hb1.size (.cells #[.int .i64 1] 3)
  have hsz2 : ((w.alloc (.cells #[.int .i64 now] 3)).alloc (.cells #[.int .i64 1] 3)).heap.size = w.heap.size + 2 := by simp
  have HC := Lib.hid (HP.out _ hb2)
  clear bN hb1 HP
  cases hp : plnB ks with
  | false =>
    rw [hp] at HC
    have HF := Lib.hid (show degV ks now = 1 by unfold degV; rw [hp]; rfl)
    clear hp bN2 hk0
    go_enter Try.func10, Try.ntmps10
    go_wp2_with fail
    refine HC.out.mono ?_
    rintro e w3 ⟨rfl, hbx⟩
    have hb3 := hb2.trans (hbx.mono hb2.size)
    have c1 := (bD.kept (grown_of_below' hbx none) (by simp)).cell
    clear hbx hb2 bD HC hsz2
    go_wp2
    go_ret
    exact ⟨by rw [HF.out]; rfl, hb3⟩
  | true =>
    rw [hp] at HC
    have HF := Lib.hid (show degV ks now = degS ks now by unfold degV; rw [hp]; rfl)
    have HPL := Lib.hid hp
    clear hp
    refine (callsIn_wide (n := 9)).1 ?_
    refine callsIn_of_wp_marks Try.func10 rfl trivial ?_ rfl
    simp only [Try.ntmps10, List.size_toArray, List.length_cons, List.length_nil, Nat.reduceAdd, Nat.reduceSub, Array.replicate_succ, Array.replicate_zero, List.push_toArray, List.append_toArray, List.nil_append, List.cons_append]
    gi_wp2
    generalize (w.alloc (.cells #[.int .i64 now] 3)).alloc (.cells #[.int .i64 1] 3) = W2 at *
    refine ⟨trivial, (callsIn_wide.2 HC.out).mono ?_⟩
    rintro e w3 ⟨rfl, hbx⟩
    have g0 := grown_of_below' hbx none
    have hb3 := hb2.trans (hbx.mono hb2.size)
    have bN3 := bN2.kept g0 (by simp)
    have bD3 := bD.kept g0 (by simp)
    have hs3 := hbx.size
    rw [hsz2] at hs3
    clear hbx g0 hb2 bN2 bD HC
    gi_wp2
    refine ⟨trivial, (callsIn_wide.2 (stin_any _ _ _ _)).mono ?_⟩
    rintro e w4 ⟨rfl, rfl⟩
    have bS := Boxed.new w3 24 (.slice a ks.length cap)
    have bN4 := bN3.alloc (.cells #[.slice a ks.length cap] 24)
    have bD4 := bD3.alloc (.cells #[.slice a ks.length cap] 24)
    have hB0 := hb3.alloc hb3.size (.cells #[.slice a ks.length cap] 24)
    have hsz : w3.heap.size < (w3.alloc (.cells #[.slice a ks.length cap] 24)).heap.size := by simp
    clear bN3 bD3 hb3 hsz2
    gi_wp2
    generalize w3.alloc (.cells #[.slice a ks.length cap] 24) = W0 at *
    generalize w3.heap.size = B3 at *
    refine wpIn_rangeFunc_ownH (n := 9) rfl (by omega) (gf := 35) (lb := #[.pointer (some ⟨B3, 0, none⟩)]) rfl trivial (enters_of Try.func35 (by kernel_rfl) rfl)
      (stin_stops 8 B3 w.heap.size (.slice a ks.length cap) ks (by omega) (by omega) W0 (by omega) (by omega) bS.cell (hk0.below hB0)) belowK_t (belowK_b (by omega)) (Below.refl _ _) (fun _ => rfl)
      (fun pre W => Boxed W (w.heap.size + 1) 3 (.int .i64 (degS pre now)) ∧ Boxed W w.heap.size 3 (.int .i64 now) ∧ Below w.heap.size w W)
      (fun c pre W => (c = .exit 0 ∧ ∃ q s, pre = q ++ [s] ∧ now < s.1) ∧ Boxed W (w.heap.size + 1) 3 (.int .i64 (degS pre now)) ∧ Below w.heap.size w W)
      (OwnFrom.and (Own.from (boxed_own _ _ (fun pre : List K2 => .int .i64 (degS pre now))) _) (OwnFrom.and (Own.from (boxed_own _ _ (fun _ => .int .i64 now)) _) (ownFrom_below (Nat.le_refl _) (by omega))))
      (fun c => OwnFrom.and (ownFrom_pure _ (fun pre : List K2 => c = .exit 0 ∧ ∃ q s, pre = q ++ [s] ∧ now < s.1)) (OwnFrom.and (Own.from (boxed_own _ _ (fun pre : List K2 => .int .i64 (degS pre now))) _) (ownFrom_below (Nat.le_refl _) (by omega))))
      ⟨bD4, bN4, hB0⟩
      (fun x a' W => ∃ Bx, w.heap.size + 1 < Bx ∧ SBoxed W Bx x ∧ a' = { tmps := #[.slice a ks.length cap, .int .i64 now, undef, .pointer (some ⟨w.heap.size, 0, none⟩), .int .i64 0, .pointer (some ⟨w.heap.size + 1, 0, none⟩), .pointer (some ⟨Bx, 0, none⟩), .slice a ks.length cap, .bool true, .bool false, undef, .slice a ks.length cap, .func (.func 35) #[] #[.pointer (some ⟨B3, 0, none⟩)], kv x, undef, undef, undef, undef, undef, undef, undef], defers := [] })
      (fun x a' _ X Y row hs hg hr => by
        obtain ⟨Bx, e1, e2, e4⟩ := hs
        exact ⟨Bx, e1, sboxed_own Bx (fun _ : Unit => x) () X Y row e2 hg (fun r e => (hr r e).2), e4⟩)
      ?assign ?body ?done ?stop
    case assign =>
      rintro l pre ⟨p, q⟩ W K ⟨hD, hN, hB⟩ hK
      unfold kv at *
      dsimp only at *
      gi_wp2
      exact hK _ _ ((KeepsOthers.alloc _ _).from _) ((Below.refl _ W).alloc hB.size _) ⟨hD.alloc _, hN.alloc _, hB.alloc hB.size _⟩ ⟨W.heap.size, (Array.getElem?_eq_some_iff.1 hD).1, SBoxed.new W (p, q), rfl⟩
    case body =>
      rintro l pre ⟨p, q⟩ a' W hl ⟨rr, hr⟩ ⟨hD, hN, hB⟩ ⟨Bx, hBx, bX, rfl⟩ hlt
      have HSN := Lib.hid (degS_snoc pre (p, q) now)
      generalize hDD : degS pre now = D at *
      have d0 := hD.cell
      have n0 := hN.cell
      have x0 := bX.cell0
      have x1 := bX.cell1
      unfold kv at *
      dsimp only at *
      by_cases hc : now < p
      · have HE := Lib.hid (show degS (pre ++ [(p, q)]) now = D by rw [HSN.out]; unfold degF; rw [if_neg (by simp only []; omega)])
        clear hDD
        gi_wp2
        exact ⟨(KeepsOthers.refl W).from _, ⟨rfl, pre, (p, q), rfl, hc⟩, by rw [HE.out]; exact hD, hB⟩
      · have HE := Lib.hid (show degS (pre ++ [(p, q)]) now = q by rw [HSN.out]; unfold degF; rw [if_pos (by simp only []; omega)])
        have el := (Array.getElem?_eq_some_iff.1 hD).1
        have ef : W.frozen? ⟨w.heap.size + 1, 0, none⟩ = false := by simp [World.frozen?, show W.heap[w.heap.size + 1]? = _ from hD]
        have HD2 := Lib.hid (show Boxed (W.setCell ⟨w.heap.size + 1, 0, none⟩ (.int .i64 q)) (w.heap.size + 1) 3 (.int .i64 q) from set_cells (.int .i64 q) hD)
        have HN2 := Lib.hid (show Boxed (W.setCell ⟨w.heap.size + 1, 0, none⟩ (.int .i64 q)) w.heap.size 3 (.int .i64 now) from (Below.heap_setCell W ⟨w.heap.size + 1, 0, none⟩ (.int .i64 q) w.heap.size (by simp only []; omega)).trans hN)
        have HB2 := Lib.hid (hB.setCell (p := ⟨w.heap.size + 1, 0, none⟩) (by simp only []; omega) (.int .i64 q))
        have HBP2 := Lib.hid ((Below.refl w.heap.size W).setCell (p := ⟨w.heap.size + 1, 0, none⟩) (by simp only []; omega) (.int .i64 q))
        have HK2 := Lib.hid (KeepsOthers.setCell W ⟨w.heap.size + 1, 0, none⟩ (.int .i64 q))
        clear hD hN hB bX hr hDD
        gi_wp2
        exact ⟨HK2.out.from _, HBP2.out, by rw [HE.out]; exact HD2.out, HN2.out, HB2.out⟩
    case done =>
      rintro D ys W hD hys ⟨hDg, hN, hB⟩ hK
      subst hys
      have d0 := hDg.cell
      clear hN hDg
      gi_wp2
      try rw [Exit.noGoto_ret]
      refine ⟨by simp, .inl ⟨_, _, rfl, run_takeDeferred hK, ?_⟩⟩
      exact ⟨_, results_tmp rfl _ _ _, by rw [HF.out]; rfl, hB.trans (belowK_b (w := w) (Nat.le_refl _) _ D _ _ (by omega) hK rfl rfl)⟩
    case stop =>
      rintro D c pre W hD hpre ⟨⟨rfl, q, s, hq, hs1⟩, hDg, hB⟩ hK
      have HE := Lib.hid (show degS ks now = degS pre now by
        obtain ⟨rest, hrest⟩ := hpre
        rw [hq] at hrest ⊢
        rw [degS_snoc]
        rw [deg_stop (pre := q) (s := s) (rest := rest) HPL.out (by rw [← hrest]; simp) hs1]
        unfold degF
        rw [if_neg (by omega)])
      have d0 := hDg.cell
      clear hDg hq hpre
      gi_wp2
      try rw [Exit.noGoto_ret]
      refine ⟨by simp, .inl ⟨_, _, rfl, run_takeDeferred hK, ?_⟩⟩
      exact ⟨_, results_tmp rfl _ _ _, by rw [HF.out, HE.out]; rfl, hB.trans (belowK_b (w := w) (Nat.le_refl _) _ D _ _ (by omega) hK rfl rfl)⟩
end Go.Proofs.Yteijgoadcpphlaa
namespace Go.Proofs.Yteijgoadcpphlaa
open Go.ChangeShapes Go.WideShapes Go.ChangeAt Go.RowKit Go.BigFrame
set_option linter.unusedVariables false

set_option maxRecDepth 100000 in
set_option maxHeartbeats 2000000 in
theorem fnplan_walk (a0 : Option Addr) (len0 cap0 : Nat) (z0 : List Int) (w : World) (w0 : IsRow .u8 w a0 len0 cap0 z0) :
    Calls Try.prog 3 #[.slice a0 len0 cap0] w fun e w' => e = .returned (.bool true) ∧ Below w.heap.size w w' := by
  by_cases hbig : len0 ≤ 1048576
  · have hc := codeAt_of w0 hbig
    have B1 := Lib.hid (fun w => big_any a0 len0 cap0 w hbig)
    have D1 := Lib.hid (fun (w' : World) (e : w' = w) => by subst e; exact drawdegreeat_any len0 cap0 a0 z0 w' hc)
    clear w0 hc
    go_enter Try.func3, Try.ntmps3
    go_wp2_with fail
    refine (B1.out _).mono ?_
    rintro e w1 ⟨rfl, rfl⟩
    clear B1
    go_wp2_with fail
    refine (D1.out _ rfl).mono ?_
    rintro e W ⟨v, ks, now, rfl, hl8, hks, hb2⟩
    clear D1
    have HD := Lib.hid (fun (t : Int) w' (h : Below W.heap.size W w') => idegreeat_any v ks t w' (keysAt_below hks h) (by omega))
    have SD := Lib.hid (fun (t : Int) w' (h : Below W.heap.size W w') => sdegreeat_any v ks t w' (keysAt_below hks h) (by omega))
    have IP := Lib.hid (fun w' (h : Below W.heap.size W w') => iplanok_any v ks w' (keysAt_below hks h) (by omega))
    have SP := Lib.hid (fun w' (h : Below W.heap.size W w') => splanok_any v ks w' (keysAt_below hks h) (by omega))
    have HW := Lib.hid hb2
    have hr := Below.refl W.heap.size W
    have hbd := degV_bd ks now
    have HMO := Lib.hid (fun t u h => @degV_mono ks t u h)
    have HBD := Lib.hid (fun t => degV_bd ks t)
    have HNG := Lib.hid (degV_neg ks (t := -1) (by omega))
    have HLA := Lib.hid (fun h => @degV_last ks h)
    have HLN := Lib.hid (fun (h : plnB ks = true) => (pln_len h).1)
    generalize hd : degV ks now = d at *
    clear hb2
    go_wp2_with fail
    refine (HD.out now _ hr).mono ?_
    rintro e w3 ⟨rfl, hb3⟩
    have HB3 := hr.trans (hb3.mono hr.size)
    rw [hd]
    go_wp2_with fail
    refine (SD.out now _ HB3).mono ?_
    rintro e w4 ⟨rfl, hb4⟩
    have HB4 := HB3.trans (hb4.mono HB3.size)
    rw [hd]
    clear hb3 hb4 HB3 hr hd
    generalize hpb : plnB ks = pb at *
    have hpp : (pb != pb) = false := by simp
    go_wp2_with fail
    refine (IP.out _ HB4).mono ?_
    rintro e w5 ⟨rfl, hb5⟩
    have HB5 := HB4.trans (hb5.mono HB4.size)
    clear hb5 HB4
    go_wp2_with fail
    refine (SP.out _ HB5).mono ?_
    rintro e w6 ⟨rfl, hb6⟩
    have HB6 := HB5.trans (hb6.mono HB5.size)
    clear hb6 HB5
    go_wp2
    go_loopw [6, 7, 8] (fun l t e wr => ∃ (k : Nat) (D : Int), k ≤ 60 ∧ t = .int .i64 k ∧ l = .int .i64 D ∧ D ≤ degV ks k ∧ Below W.heap.size W wr) (fun _ t _ _ => 60 - (intOf t).toNat)
    case atStart => exact ⟨0, 1, by omega, rfl, rfl, (HBD.out 0).1, HB6⟩
    case round =>
      obtain ⟨k, D, hk, rfl, rfl, hDk, hbr⟩ := hrel
      clear HB6
      by_cases hlt : k < 60
      · have z1 : (k : Int) < 60 := by omega
        have HC := Lib.hid (HD.out (k : Int) _ hbr)
        have hbe := HBD.out (k : Int)
        have HNX := Lib.hid (HMO.out (k : Int) ((k + 1 : Nat) : Int) (by omega))
        generalize degV ks (k : Int) = E at *
        have HB := Lib.hid hbr
        clear hbr
        go_wp2_with fail
        refine HC.out.mono ?_
        rintro e w7 ⟨rfl, hb7⟩
        have hbq := HB.out.trans (hb7.mono HB.out.size)
        have n1 : ¬ E < D := by omega
        have n2 : ¬ 6 < E := by omega
        clear hb7 HC HB
        go_wp2
        exact ⟨⟨k + 1, E, by omega, by go_num, rfl, HNX.out, hbq⟩, by simp [intOf]; omega⟩
      · obtain rfl : k = 60 := by omega
        have g1 : (1 : Int) ≤ d := hbd.1
        have g2 : d ≤ 6 := hbd.2
        have c1 : decide ((1 : Int) ≤ d) = true := decide_eq_true g1
        have c2 : decide (d ≤ (6 : Int)) = true := decide_eq_true g2
        have HN1 := Lib.hid (fun w' h => HD.out (-1) w' h)
        rw [HNG.out] at HN1
        have HBr := Lib.hid hbr
        clear hbr hDk
        cases pb with
        | false =>
          clear HD SD IP HMO HBD HNG HLA HLN hpb
          go_wp2
          refine wp_region_below W (by kernel_rfl) (by kernel_rfl) HBr.out ?_
          repeat (first
            | go_big_quiet_skip
            | (go_big_quiet_want
               first
                 | (go_big_quiet_op; go_big_quiet_on)
                 | (go_big_quiet_op; refine ⟨_, fun _ _ => rfl, ?_⟩; go_big_quiet_on)
                 | (go_big_quiet_op; apply Exists.intro; refine ⟨fun w' hw' => ?_, ?_⟩
                    · first
                      | (with_reducible refine (HN1.out w' hw').mono ?_
                         rintro e w2 ⟨rfl, hb2⟩
                         exact ⟨rfl, hw'.trans (hb2.mono hw'.size)⟩)
                      | (with_reducible refine (SP.out w' hw').mono ?_
                         rintro e w2 ⟨rfl, hb2⟩
                         exact ⟨rfl, hw'.trans (hb2.mono hw'.size)⟩)
                    go_big_quiet_on)))
          refine wpQuiet_nil ?_
          intro wq hbq
          clear HN1 SP
          go_wp2
          go_ret
          exact ⟨rfl, HW.out.trans (hbq.mono HW.out.size)⟩
        | true =>
          have HN2 := Lib.hid (fun w' h => HD.out 1000000 w' h)
          rw [HLA.out rfl] at HN2
          have hl1 := HLN.out rfl
          obtain ⟨av, cv, rfl, hcv, hcells⟩ := hks
          obtain ⟨gg, og, rfl, hgg, hcs⟩ := hcells.resolve_left (by omega)
          have cl := (hcs (ks.length - 1) (by omega)).2
          generalize (ks.getD (ks.length - 1) (0, 0)).2 = last at *
          generalize ks.length = L at *
          have ew : IntKind.i64.wrap ((L : Int) - 1) = (L : Int) - 1 := IntWalk.i64_in _ (by omega)
          have y1 : (0 : Int) ≤ (L : Int) - 1 := by omega
          have y2 : (L : Int) - 1 < (L : Int) := by omega
          have y3 : (1 : Int) ≤ (L : Int) := by omega
          have et : ((L : Int) - 1).toNat = L - 1 := by omega
          have LL : ∀ w', Below W.heap.size W w' → (loadVar 3 ⟨gg, og + (L - 1) * 2 + 1, none⟩).run Try.prog w' = .ok (.int .i64 last) w' := fun w' h => sint_load (by rw [h.cell (p := ⟨gg, og + (L - 1) * 2 + 1, none⟩) hgg]; exact cl)
          have ee : (last == last) = true := by simp
          clear HD SD IP HMO HBD HNG HLA HLN hpb hcells hcs cl
          go_wp2
          refine wp_region_below W (by kernel_rfl) (by kernel_rfl) HBr.out ?_
          repeat (first
            | go_big_quiet_skip
            | (go_big_quiet_want
               first
                 | (go_big_quiet_op; go_big_quiet_on)
                 | (refine q_load 3 _ _ _ rfl rfl LL ?_; simp only [Act.put, List.setIfInBounds_toArray, List.set_cons_zero, List.set_cons_succ]; go_big_quiet_on)
                 | (go_big_quiet_op; refine ⟨_, fun _ _ => rfl, ?_⟩; go_big_quiet_on)
                 | (go_big_quiet_op; apply Exists.intro; refine ⟨fun w' hw' => ?_, ?_⟩
                    · first
                      | (with_reducible refine (HN1.out w' hw').mono ?_
                         rintro e w2 ⟨rfl, hb2⟩
                         exact ⟨rfl, hw'.trans (hb2.mono hw'.size)⟩)
                      | (with_reducible refine (HN2.out w' hw').mono ?_
                         rintro e w2 ⟨rfl, hb2⟩
                         exact ⟨rfl, hw'.trans (hb2.mono hw'.size)⟩)
                      | (with_reducible refine (SP.out w' hw').mono ?_
                         rintro e w2 ⟨rfl, hb2⟩
                         exact ⟨rfl, hw'.trans (hb2.mono hw'.size)⟩)
                    go_big_quiet_on)))
          refine wpQuiet_nil ?_
          intro wq hbq
          clear HN1 HN2 SP LL
          go_wp2
          go_ret
          exact ⟨rfl, HW.out.trans (hbq.mono HW.out.size)⟩
  · have B1 := Lib.hid (fun w => big_true a0 len0 cap0 w hbig)
    clear w0
    go_enter Try.func3, Try.ntmps3
    go_wp2_with fail
    refine (B1.out _).mono ?_
    rintro e w1 ⟨rfl, rfl⟩
    go_wp2
    go_ret
    exact ⟨rfl, Below.refl _ _⟩
end Go.Proofs.Yteijgoadcpphlaa
