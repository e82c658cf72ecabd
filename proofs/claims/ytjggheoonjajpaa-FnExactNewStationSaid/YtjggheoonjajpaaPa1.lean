/- What the laws lean on (own lemmas and walks of the called functions). -/
import Derived.StillTail
import Derived.OrdersIn
import Derived.RangeFuncCalls
import Derived.Deep.RegionHeld3
import Derived.KernelRfl
import Derived.Test.YtjggheoonjajpaaRows
import Derived.WalkKit
import Derived.ProofKit
import Derived.OpenShut
import Derived.ShutString
import Derived.Below
import Derived.Outline
import Derived.WalkSpells
import Derived.WalkLawsBesides
import Derived.Deep.AppendLies
import Derived.StillTactics
import Derived.Laws.BytesArg
import Derived.Laws.OwnMore
import Derived.Maps.AppendAt
import Derived.Lib.Hide
import Derived.BigQuiet
import Derived.Deep.MidRow
import Derived.Laws.StructEq
import Derived.Deep.WholeRow
import Derived.Deep.QuietTactic
import Derived.RangeFuncBox
import Derived.Lib.SmallJoins
import Derived.Lib.BufferWrite
import Derived.Lib.Bytealg
import Derived.Deep.RegionLaw
import Derived.Deep.SlicePairs
import Derived.BigRegion
import Derived.OneCell
import Derived.Deep.Cut
import Derived.Lib.SlBuf
import Derived.Laws.CopyOwn
import Derived.Stop.BytesEq
import Derived.Maps.OwnSet
import Derived.Maps.Views
import Derived.DeepKeys4
import Derived.RangeFuncNested
import Derived.RangeFuncLeaves
import Derived.Shelf.Abstract
import Derived.OwnWalkIn
import Derived.TacticsInMore
import Derived.LoopNIn
import Derived.LoopIn
import Derived.Maps.OwnIn
import Derived.Great.BuildSlice
import Derived.Test.YtjggheoonjajpaaShelf
import Derived.OrdersHeld
import Derived.Deep.Quiet
set_option linter.unusedVariables false
set_option linter.unusedSimpArgs false
namespace Go.Proofs.Ytjggheoonjajpaa
open Go
section
variable {P : Program} {ops : Array Oper} {md : Region.Mode} {w : World}

def maskRows : List Bool → List Oper → List Oper
  | true :: m, o :: l => o :: maskRows m l
  | false :: m, _ :: l => maskRows m l
  | _, _ => []

end
end Go.Proofs.Ytjggheoonjajpaa
namespace Go.Proofs.Ytjggheoonjajpaa
open Go.ChangeShapes Go.WideShapes Go.ChangeAt Go.RowKit
set_option linter.unusedVariables false

theorem grown_of_below' {A B : World} (h : Below A.heap.size A B) (row : Option Nat) : A.grownBy B row := ⟨h.os, h.tape, h.output, h.size, fun k hk _ => h.block k hk⟩
theorem grown_trans {A B C : World} {row : Option Nat} (h : A.grownBy B row) (k : B.grownBy C row) : A.grownBy C row :=
  ⟨k.os.trans h.os, k.tape.trans h.tape, k.output.trans h.output, Nat.le_trans h.size k.size, fun j hj hr => (k.block j (Nat.lt_of_lt_of_le hj h.size) hr).trans (h.block j hj hr)⟩
end Go.Proofs.Ytjggheoonjajpaa
namespace Go.Proofs.Ytjggheoonjajpaa
open Go
set_option linter.unusedVariables false

/-- a load of noughts -/
def z4 : ByteArray := ⟨#[0, 0, 0, 0]⟩
end Go.Proofs.Ytjggheoonjajpaa
namespace Go.Proofs.Ytjggheoonjajpaa
open Go.ChangeShapes Go.WideShapes Go.ChangeAt Go.RowKit
set_option linter.unusedVariables false

abbrev K2 := Int × Int
def kv (k : K2) : Value := .agg #[.int .i64 k.1, .int .i64 k.2]
def keyOkB (k : K2) : Bool := (decide (1 ≤ k.1) && decide (k.1 ≤ 20)) && (decide (1 ≤ k.2) && decide (k.2 ≤ 99))
def aheadB (a b : K2) : Bool := if a.1 = b.1 then decide (a.2 < b.2) else decide (a.1 < b.1)
/-- the slice value v leads to the keys ks -/
def keysAt (w : World) (v : Value) (ks : List K2) : Prop :=
  ∃ a cap, v = .slice a ks.length cap ∧ ks.length ≤ cap ∧ (ks.length = 0 ∨ ∃ g off, a = some ⟨g, off, none⟩ ∧ g < w.heap.size ∧
    ∀ i, i < ks.length → w.cell? ⟨g, off + i * 2, none⟩ = some (.int .i64 (ks.getD i (0, 0)).1) ∧ w.cell? ⟨g, off + i * 2 + 1, none⟩ = some (.int .i64 (ks.getD i (0, 0)).2))
theorem keysAt_below {w w' : World} {v : Value} {ks : List K2} (h : keysAt w v ks) (hb : Below w.heap.size w w') : keysAt w' v ks := by
  obtain ⟨a, cap, h1, h2, h3⟩ := h
  refine ⟨a, cap, h1, h2, h3.imp_right ?_⟩
  rintro ⟨g, off, h4, h5, h6⟩
  refine ⟨g, off, h4, Nat.lt_of_lt_of_le h5 hb.size, fun i hi => ?_⟩
  rw [hb.cell (p := ⟨g, off + i * 2, none⟩) h5, hb.cell (p := ⟨g, off + i * 2 + 1, none⟩) h5]
  exact h6 i hi
end Go.Proofs.Ytjggheoonjajpaa
namespace Go.Proofs.Ytjggheoonjajpaa
open Go.ChangeShapes Go.WideShapes Go.ChangeAt Go.RowKit
set_option linter.unusedVariables false

theorem sin_any (x a b : Int) (w : World) : Calls Try.prog 57 #[.int .i64 x, .int .i64 a, .int .i64 b] w fun e w' => e = .returned (.bool (decide (a ≤ x) && decide (x ≤ b))) ∧ w' = w := by
  by_cases h1 : a ≤ x <;> by_cases h2 : x ≤ b
  all_goals
    go_enter Try.func57, Try.ntmps57
    go_wp2
    go_ret
    simp [h1, h2]
end Go.Proofs.Ytjggheoonjajpaa
namespace Go.Proofs.Ytjggheoonjajpaa
open Go.BigFrame Go.RowKit Go.ChangeShapes Go.WideShapes
section
variable {P : Program} {ops : Array Oper} {C : World → Prop} {Q : Act → Prop} {a : Act} {o : Oper} {rest : List Oper} {K : Act → Prop}
theorem q_load (ty : TypeId) (x : Operand) (p : Addr) (v : Value) (ho : o.op = .load ty x) (hx : a.eval x = .pointer (some p)) (hl : ∀ w, C w → (loadVar ty p).run P w = .ok v w) (hk : K (a.put o.dst v)) : o.quiet P a C K := by
  refine ⟨v, fun w hw => ?_, hk⟩
  unfold Oper.quietAt execOp
  simp only [ho, hx, Instr.loadAt, Instr.sureAddr, Sem.run_bind, Sem.run_pure, Result.andThen_ok, hl w hw]
  exact ⟨rfl, rfl⟩
theorem q_bin (op : BinOp) (t ty : TypeId) (x y : Operand) (u v z : Value) (ho : o.op = .binOp op t x y ty) (hx : a.eval x = u) (hy : a.eval y = v) (hg : ∀ w, (eqGuard op t x y u v).run P w = .ok () w) (hb : ∀ w, (binOp op t u v).run P w = .ok z w)
    (hk : K (a.put o.dst z)) : o.quiet P a C K := by
  refine ⟨z, fun w hw => ?_, hk⟩
  unfold Oper.quietAt execOp
  simp only [ho, hx, hy, Sem.run_bind, hg w, hb w, Result.andThen_ok, Sem.run_pure]
  exact ⟨rfl, rfl⟩
end
/-- the class: new blocks alone -/
theorem wp_region_below {P : Program} {id : Nat} {Q : Exit → Act → World → Prop} {a : Act} {w : World} {l : List Oper} (w0 : World) (hm : P.follows .mixedOrders = true) (hB : Region.lexB .any l.toArray = true) (h0 : Below w0.heap.size w0 w)
    (h : wpQuiet P l.toArray (fun w' => Below w0.heap.size w0 w') (fun a' => ∀ w', Below w0.heap.size w0 w' → Q .normal a' w') l a) : (Code.region id l.toArray true).wp P Q a w :=
  wp_region_quiet (C := fun w' => Below w0.heap.size w0 w') hm hB h0.drew (by simpa using h)
end Go.Proofs.Ytjggheoonjajpaa
namespace Go.Proofs.Ytjggheoonjajpaa
open Go.ChangeShapes Go.WideShapes Go.ChangeAt Go.RowKit Go.BigFrame
set_option linter.unusedVariables false

theorem skeyok_any (k : K2) (w : World) : Calls Try.prog 108 #[kv k] w fun e w' => e = .returned (.bool (keyOkB k)) ∧ Below w.heap.size w w' := by
  obtain ⟨n, s⟩ := k
  unfold keyOkB kv
  dsimp only
  have hb : ∀ o, Below w.heap.size w (w.alloc o) := fun o => (Below.refl _ _).alloc (Nat.le_refl _) _
  generalize hp : (decide (1 ≤ n) && decide (n ≤ 20)) = p
  generalize hq : (decide (1 ≤ s) && decide (s ≤ 99)) = q
  have H1 := fun w => sin_any n 1 20 w
  have H2 := fun w => sin_any s 1 99 w
  rw [hp] at H1; rw [hq] at H2
  clear hp hq
  go_enter Try.func108, Try.ntmps108
  cases p with
  | false =>
    go_wp2_with (go_at_call 57; refine (H1 _).mono ?_; rintro e w1 ⟨rfl, rfl⟩)
    go_ret
    exact ⟨by simp, hb _⟩
  | true =>
    go_wp2_with fail
    refine (H1 _).mono ?_
    rintro e w1 ⟨rfl, rfl⟩
    go_wp2_with fail
    refine (H2 _).mono ?_
    rintro e w1 ⟨rfl, rfl⟩
    go_wp2
    go_ret
    exact ⟨by simp, hb _⟩
theorem sahead_any (a b : K2) (w : World) : Calls Try.prog 118 #[kv a, kv b] w fun e w' => e = .returned (.bool (aheadB a b)) ∧ Below w.heap.size w w' := by
  obtain ⟨n, s⟩ := a
  obtain ⟨m, t⟩ := b
  have hb : ∀ o o', Below w.heap.size w ((w.alloc o).alloc o') := fun o o' => ((Below.refl _ _).alloc (Nat.le_refl _) _).alloc (by simp) _
  by_cases h : n = m
  · have ha : aheadB (n, s) (m, t) = decide (s < t) := by unfold aheadB; rw [if_pos h]
    rw [ha]
    unfold kv
    dsimp only
    subst h
    go_enter Try.func118, Try.ntmps118
    go_wp2
    go_ret
    exact ⟨rfl, hb _ _⟩
  · have ha : aheadB (n, s) (m, t) = decide (n < m) := by unfold aheadB; rw [if_neg h]
    rw [ha]
    unfold kv
    dsimp only
    go_enter Try.func118, Try.ntmps118
    go_wp2
    go_ret
    exact ⟨rfl, hb _ _⟩

theorem key_load {w : World} {g o : Nat} {k : K2} (hc : w.cell? ⟨g, o, none⟩ = some (.int .i64 k.1) ∧ w.cell? ⟨g, o + 1, none⟩ = some (.int .i64 k.2)) {w' : World} (hg : g < w.heap.size) (hb : Below w.heap.size w w') :
    (loadVar 36 ⟨g, o, none⟩).run Try.prog w' = .ok (kv k) w' := by
  refine run_loadVar_mid w' g o 36 [.int .i64 k.1, .int .i64 k.2] _ (fun j v hj => ?_) Try.underlying36 rfl (by kernel_rfl)
  have hj2 : j < 2 := by have := (List.getElem?_eq_some_iff.1 hj).1; simpa using this
  rcases (by omega : j = 0 ∨ j = 1) with rfl | rfl
  · rw [hb.cell (p := ⟨g, o + 0, none⟩) hg]
    simpa using hc.1.trans (by simpa using hj)
  · rw [hb.cell (p := ⟨g, o + 1, none⟩) hg]
    simpa using hc.2.trans (by simpa using hj)
end Go.Proofs.Ytjggheoonjajpaa
namespace Go.Proofs.Ytjggheoonjajpaa
open Go.ChangeShapes Go.WideShapes Go.ChangeAt Go.RowKit Go.BigFrame
set_option linter.unusedVariables false
theorem key_equal (p q : K2) (w : World) : (Op.equalIn 10000 36 (kv p) (kv q)).run Try.prog w = .ok (p == q) w := by
  obtain ⟨a, b⟩ := p; obtain ⟨c, d⟩ := q
  have u3 := Try.underlying3
  have hS : Try.prog.underlying 36 = some (.struct (Try.prog.fieldsOf 36)) := by kernel_rfl
  unfold kv
  rw [show (10000 : Nat) = 9999 + 1 from rfl, run_equalIn_agg w 9999 36 _ _ hS (by kernel_rfl)]
  simp only [Program.fieldsOf, Try.underlying36]
  go_simp
  by_cases h1 : a = c <;> by_cases h2 : b = d <;> simp [h1, h2]
theorem key_eql (p q : K2) (w : World) : (binOp .eql 36 (kv p) (kv q)).run Try.prog w = .ok (.bool (p == q)) w := by
  have := key_equal p q w
  unfold kv at *
  rw [run_eql_struct, this]; rfl
theorem key_neq (p q : K2) (w : World) : (binOp .neq 36 (kv p) (kv q)).run Try.prog w = .ok (.bool (!(p == q))) w := by
  have := key_equal p q w
  unfold kv at *
  rw [run_neq_struct, this]; rfl
theorem key_guard (op : BinOp) (x y : Operand) (p q : K2) (w : World) : (eqGuard op 36 x y (kv p) (kv q)).run Try.prog w = .ok () w := by
  unfold kv
  exact run_eqGuard_agg w op 36 x y _ _ (by kernel_rfl)
end Go.Proofs.Ytjggheoonjajpaa
namespace Go.Proofs.Ytjggheoonjajpaa
open Go.ChangeShapes Go.WideShapes Go.ChangeAt Go.RowKit Go.BigFrame
set_option linter.unusedVariables false

theorem infoK : (Try.prog.info? 36).map (fun i => (i.zero, i.size, i.bytes)) = some (some (.agg #[.int .i64 0, .int .i64 0]), 2, 16) := by kernel_rfl
def keyCells (ks : List K2) : List Value := ks.flatMap fun k => [.int .i64 k.1, .int .i64 k.2]
theorem keyCells_len : ∀ ks : List K2, (keyCells ks).length = ks.length * 2
  | [] => rfl
  | k :: r => by
    have := keyCells_len r
    simp only [keyCells, List.flatMap_cons, List.length_append, List.length_cons, List.length_nil] at *
    omega
theorem keyCells_snoc (ks : List K2) (k : K2) : keyCells (ks ++ [k]) = keyCells ks ++ [.int .i64 k.1, .int .i64 k.2] := by simp [keyCells]
theorem keyCells_get : ∀ (ks : List K2) (i : Nat), i < ks.length → (keyCells ks)[i * 2]? = some (.int .i64 (ks.getD i (0, 0)).1) ∧ (keyCells ks)[i * 2 + 1]? = some (.int .i64 (ks.getD i (0, 0)).2)
  | [], _, h => by simp at h
  | k :: r, 0, _ => by simp [keyCells]
  | k :: r, i + 1, h => by
    have ih := keyCells_get r i (by simpa using h)
    have e1 : (i + 1) * 2 = i * 2 + 1 + 1 := by omega
    have e2 : (i + 1) * 2 + 1 = i * 2 + 1 + 1 + 1 := by omega
    rw [e1]
    simp only [keyCells, List.flatMap_cons, List.cons_append, List.nil_append, List.getElem?_cons_succ, List.getD_cons_succ] at *
    exact ih
theorem own_below {w w' : World} {base n : Nat} {e : TypeId} {size : Nat} {v : Value} {xs : List Value} (h : w.ownsRow base e size v n xs) (hb : Below w.heap.size w w') : w'.ownsRow base e size v n xs :=
  h.kept (grown_of_below' hb none) (by cases hv : v.ownBlock <;> simp)

end Go.Proofs.Ytjggheoonjajpaa
namespace Go.Proofs.Ytjggheoonjajpaa

def stepB (ks : List K2) (i : Nat) : Bool := keyOkB (ks.getD i (0, 0)) && (decide (i = 0) || aheadB (ks.getD (i - 1) (0, 0)) (ks.getD i (0, 0)))
def keysOkR (ks : List K2) : Bool := (List.range ks.length).all (stepB ks)
theorem stepB_false {ks : List K2} {k : Nat} (hk : k < ks.length) (h : stepB ks k = false) : keysOkR ks = false := by
  unfold keysOkR
  rw [List.all_eq_false]
  exact ⟨k, List.mem_range.2 hk, by simp [h]⟩
theorem keysR_succ (ks : List K2) (k : Nat) : (List.range (k + 1)).all (stepB ks) = ((List.range k).all (stepB ks) && stepB ks k) := by
  rw [List.range_succ, List.all_append]
  simp
end Go.Proofs.Ytjggheoonjajpaa
namespace Go.Proofs.Ytjggheoonjajpaa
open Go
set_option linter.unusedVariables false

/-- a word: its keys, its load -/
abbrev C2 := List K2 × ByteArray
def codeOkB (x : C2) : Bool := (decide (x.1.length ≤ 6) && keysOkR x.1) && (decide (x.2.size = 4) && (decide (0 < x.1.length) || decide (x.2 = z4)))
def blankC : C2 := ([], z4)
end Go.Proofs.Ytjggheoonjajpaa
namespace Go.Proofs.Ytjggheoonjajpaa
open Go.ChangeShapes Go.WideShapes Go.ChangeAt Go.RowKit Go.BigFrame
set_option linter.unusedVariables false

set_option maxRecDepth 100000 in
theorem skeysok_any (v : Value) (ks : List K2) (w : World) (h : keysAt w v ks) (hs : ks.length ≤ 2000000) : Calls Try.prog 74 #[v] w fun e w' => e = .returned (.bool (keysOkR ks)) ∧ Below w.heap.size w w' := by
  obtain ⟨a, cap, rfl, hcap, hcells⟩ := h
  go_enter Try.func74, Try.ntmps74
  go_wp2
  go_loopw [3] (fun i wr => ∃ k : Nat, k ≤ ks.length ∧ i = .int .i64 k ∧ (List.range k).all (stepB ks) = true ∧ Below w.heap.size w wr) (fun i _ => ks.length - (intOf i).toNat)
  case atStart => exact ⟨0, Nat.zero_le _, rfl, rfl, Below.refl _ _⟩
  case round =>
    obtain ⟨k, hk, rfl, hall, hb⟩ := hrel
    by_cases hlt : k < ks.length
    · obtain ⟨g, off, rfl, hg, hcs⟩ := hcells.resolve_left (by omega)
      have z0 : (0 : Int) ≤ (k : Int) := by omega
      have z1 : (k : Int) < (ks.length : Int) := by omega
      have c1 := hcs k hlt
      have HK := Lib.hid (fun w => skeyok_any (ks.getD k (0, 0)) w)
      have hst : stepB ks k = (keyOkB (ks.getD k (0, 0)) && (decide (k = 0) || aheadB (ks.getD (k - 1) (0, 0)) (ks.getD k (0, 0)))) := rfl
      have hsu := keysR_succ ks k
      have HST := Lib.hid hst; clear hst
      cases hko : keyOkB (ks.getD k (0, 0)) with
      | false =>
        rw [hko] at HK HST
        have hf : keysOkR ks = false := stepB_false hlt (by rw [HST.out]; rfl)
        have HF := Lib.hid hf
        clear hcs hcells hko hf HST hsu
        generalize ks.getD k (0, 0) = kx at *
        have L1 := fun w' hb => key_load c1 (w' := w') hg hb
        clear c1
        go_wp2
        refine wp_region_below w (by kernel_rfl) (by kernel_rfl) hb ?_
        repeat (first
          | go_big_quiet_skip
          | (go_big_quiet_want
             first
               | (go_big_quiet_op; go_big_quiet_on)
               | (refine q_load 36 _ _ _ rfl rfl L1 ?_; simp only [Act.put, List.setIfInBounds_toArray, List.set_cons_zero, List.set_cons_succ]; go_big_quiet_on)
               | (go_big_quiet_op; refine ⟨_, fun _ _ => rfl, ?_⟩; go_big_quiet_on)
               | (go_big_quiet_op; apply Exists.intro; refine ⟨fun w' hw' => ?_, ?_⟩
                  · first
                    | (refine (HK.out w').mono ?_
                       rintro e w2 ⟨rfl, hb2⟩
                       exact ⟨rfl, hw'.trans (hb2.mono hw'.size)⟩)
                  go_big_quiet_on)))
        refine wpQuiet_nil ?_
        intro w2 hb2
        clear L1 HK hb
        go_wp2
        go_ret
        exact ⟨by rw [HF.out]; rfl, hb2⟩
      | true =>
        rw [hko] at HK HST
        by_cases hk0 : k = 0
        · subst hk0
          have ht : (List.range (0 + 1)).all (stepB ks) = true := by rw [hsu, HST.out]; rfl
          have HT := Lib.hid ht
          clear hcs hcells hko ht HST hsu hall
          generalize ks.getD 0 (0, 0) = kx at *
          have L1 := fun w' hb => key_load c1 (w' := w') hg hb
          clear c1
          have y0 : ¬ (0 : Int) < ((0 : Nat) : Int) := by omega
          simp only [Nat.zero_mul, Nat.add_zero] at L1
          go_wp2
          refine wp_region_below w (by kernel_rfl) (by kernel_rfl) hb ?_
          repeat (first
            | go_big_quiet_skip
            | (go_big_quiet_want
               first
                 | (go_big_quiet_op; go_big_quiet_on)
                 | (refine q_load 36 _ _ _ rfl rfl L1 ?_; simp only [Act.put, List.setIfInBounds_toArray, List.set_cons_zero, List.set_cons_succ]; go_big_quiet_on)
                 | (go_big_quiet_op; refine ⟨_, fun _ _ => rfl, ?_⟩; go_big_quiet_on)
                 | (go_big_quiet_op; apply Exists.intro; refine ⟨fun w' hw' => ?_, ?_⟩
                    · first
                      | (refine (HK.out w').mono ?_
                         rintro e w2 ⟨rfl, hb2⟩
                         exact ⟨rfl, hw'.trans (hb2.mono hw'.size)⟩)
                    go_big_quiet_on)))
          refine wpQuiet_nil ?_
          intro w2 hb2
          clear L1 HK hb
          go_wp2
          exact ⟨⟨1, by omega, by go_num, HT.out, hb2⟩, by simp [intOf]; omega⟩
        · have ha := hcs (k - 1) (by omega)
          rw [show off + (k - 1) * 2 = off + (k - 1) * 2 from rfl] at ha
          have HA := Lib.hid (fun w => sahead_any (ks.getD (k - 1) (0, 0)) (ks.getD k (0, 0)) w)
          have d0 : decide (k = 0) = false := by simpa using hk0
          rw [d0] at HST
          have y0 : (0 : Int) < (k : Int) := by omega
          have yk : 0 < k := by omega
          have y1 : (0 : Int) ≤ (k : Int) - 1 := by omega
          have y2 : (k : Int) - 1 < (ks.length : Int) := by omega
          have ew : IntKind.i64.wrap ((k : Int) - 1) = (k : Int) - 1 := IntWalk.i64_in _ (by omega)
          have et : ((k : Int) - 1).toNat = k - 1 := by omega
          cases hah : aheadB (ks.getD (k - 1) (0, 0)) (ks.getD k (0, 0)) with
          | false =>
            rw [hah] at HA HST
            have hf : keysOkR ks = false := stepB_false hlt (by rw [HST.out]; rfl)
            have HF := Lib.hid hf
            clear hcs hcells hko hf HST hsu hah
            generalize ks.getD k (0, 0) = kx at *
            generalize ks.getD (k - 1) (0, 0) = ky at *
            have L1 := fun w' hb => key_load c1 (w' := w') hg hb
            have L2 := fun w' hb => key_load ha (w' := w') hg hb
            clear c1 ha
            go_wp2
            refine wp_region_below w (by kernel_rfl) (by kernel_rfl) hb ?_
            repeat (first
              | go_big_quiet_skip
              | (go_big_quiet_want
                 first
                   | (go_big_quiet_op; go_big_quiet_on)
                   | (refine q_load 36 _ _ _ rfl rfl L1 ?_; simp only [Act.put, List.setIfInBounds_toArray, List.set_cons_zero, List.set_cons_succ]; go_big_quiet_on)
                   | (refine q_load 36 _ _ _ rfl rfl L2 ?_; simp only [Act.put, List.setIfInBounds_toArray, List.set_cons_zero, List.set_cons_succ]; go_big_quiet_on)
                   | (go_big_quiet_op; refine ⟨_, fun _ _ => rfl, ?_⟩; go_big_quiet_on)
                   | (go_big_quiet_op; apply Exists.intro; refine ⟨fun w' hw' => ?_, ?_⟩
                      · first
                        | (refine (HK.out w').mono ?_
                           rintro e w2 ⟨rfl, hb2⟩
                           exact ⟨rfl, hw'.trans (hb2.mono hw'.size)⟩)
                        | (refine (HA.out w').mono ?_
                           rintro e w2 ⟨rfl, hb2⟩
                           exact ⟨rfl, hw'.trans (hb2.mono hw'.size)⟩)
                      go_big_quiet_on)))
            refine wpQuiet_nil ?_
            intro w2 hb2
            clear L1 L2 HK HA hb
            go_wp2
            go_ret
            exact ⟨by rw [HF.out]; rfl, hb2⟩
          | true =>
            rw [hah] at HA HST
            have ht : (List.range (k + 1)).all (stepB ks) = true := by rw [hsu, hall, HST.out]; rfl
            have HT := Lib.hid ht
            clear hcs hcells hko ht HST hsu hah hall
            generalize ks.getD k (0, 0) = kx at *
            generalize ks.getD (k - 1) (0, 0) = ky at *
            have L1 := fun w' hb => key_load c1 (w' := w') hg hb
            have L2 := fun w' hb => key_load ha (w' := w') hg hb
            clear c1 ha
            go_wp2
            refine wp_region_below w (by kernel_rfl) (by kernel_rfl) hb ?_
            repeat (first
              | go_big_quiet_skip
              | (go_big_quiet_want
                 first
                   | (go_big_quiet_op; go_big_quiet_on)
                   | (refine q_load 36 _ _ _ rfl rfl L1 ?_; simp only [Act.put, List.setIfInBounds_toArray, List.set_cons_zero, List.set_cons_succ]; go_big_quiet_on)
                   | (refine q_load 36 _ _ _ rfl rfl L2 ?_; simp only [Act.put, List.setIfInBounds_toArray, List.set_cons_zero, List.set_cons_succ]; go_big_quiet_on)
                   | (go_big_quiet_op; refine ⟨_, fun _ _ => rfl, ?_⟩; go_big_quiet_on)
                   | (go_big_quiet_op; apply Exists.intro; refine ⟨fun w' hw' => ?_, ?_⟩
                      · first
                        | (refine (HK.out w').mono ?_
                           rintro e w2 ⟨rfl, hb2⟩
                           exact ⟨rfl, hw'.trans (hb2.mono hw'.size)⟩)
                        | (refine (HA.out w').mono ?_
                           rintro e w2 ⟨rfl, hb2⟩
                           exact ⟨rfl, hw'.trans (hb2.mono hw'.size)⟩)
                      go_big_quiet_on)))
            refine wpQuiet_nil ?_
            intro w2 hb2
            clear L1 L2 HK HA hb
            go_wp2
            exact ⟨⟨k + 1, by omega, by go_num, HT.out, hb2⟩, by simp [intOf]; omega⟩
    · obtain rfl : k = ks.length := by omega
      have HF := Lib.hid hall
      go_wp2
      go_ret
      exact ⟨by unfold keysOkR; rw [HF.out]; rfl, hb⟩
end Go.Proofs.Ytjggheoonjajpaa
namespace Go.Proofs.Ytjggheoonjajpaa
open Go.ChangeShapes Go.WideShapes Go.ChangeAt Go.RowKit Go.BigFrame
set_option linter.unusedVariables false
theorem own_cell {w : World} {base g n cap : Nat} {e : TypeId} {size : Nat} {xs : List Value} (h : w.ownsRow base e size (.slice (some ⟨g, 0, none⟩) n cap) n xs) (j : Nat) (hj : j < n * size) :
    w.cell? ⟨g, j, none⟩ = some (xs.getD j undef) ∧ w.frozen? ⟨g, j, none⟩ = false := by
  have hl : xs.length = n * size := h.1
  refine ⟨?_, ?_⟩
  · rw [h.cellAt j hj]
    simp [List.getD, show j < xs.length by omega]
  · rcases h.2 with ⟨h1, _⟩ | ⟨g', cap', cur, h1, _, hg, _⟩
    · simp at h1
    · simp only [Value.slice.injEq, Option.some.injEq, Addr.mk.injEq, and_true, true_and] at h1
      obtain ⟨rfl, rfl⟩ := h1
      simp [World.frozen?, hg]
theorem own_base {w : World} {base base' n : Nat} {e : TypeId} {size : Nat} {v : Value} {xs : List Value} (h : w.ownsRow base' e size v n xs) (hb : base ≤ base') : w.ownsRow base e size v n xs := by
  refine ⟨h.1, h.2.imp_right ?_⟩
  rintro ⟨g, cap, cur, h1, h2, h3⟩
  exact ⟨g, cap, cur, h1, Nat.le_trans hb h2, h3⟩
end Go.Proofs.Ytjggheoonjajpaa
namespace Go.Proofs.Ytjggheoonjajpaa
open Go.ChangeShapes Go.WideShapes Go.ChangeAt Go.RowKit
set_option linter.unusedVariables false
theorem results_cell {fn : Func} {p : Tmp} {ty : TypeId} (h : fn.results = #[.cell p ty]) (tmps : Array Value) (P : Program) (w : World) :
    (results fn tmps).run P w = ((asAddr (tmps.getD p undef)).run P w).andThen fun a w₁ => (loadVar ty a).run P w₁ := by
  simp only [results, h]
  simp [Sem.run_bind]
theorem heap_first (w : World) (o c : Obj) : ((w.alloc c).alloc o).heap[w.heap.size]? = some c := by
  show ((w.heap.push c).push o)[w.heap.size]? = some c
  rw [Array.getElem?_push, if_neg (by simp), Array.getElem?_push, if_pos rfl]
theorem heap_mid (w : World) (a b c : Obj) : (((w.alloc a).alloc b).alloc c).heap[w.heap.size + 1]? = some b := by
  show (((w.heap.push a).push b).push c)[w.heap.size + 1]? = some b
  rw [Array.getElem?_push, if_neg (by simp), Array.getElem?_push, if_pos (by simp)]
end Go.Proofs.Ytjggheoonjajpaa
namespace Go.Proofs.Ytjggheoonjajpaa
open Go.ChangeShapes Go.WideShapes Go.ChangeAt Go.RowKit Go.BigFrame
set_option linter.unusedVariables false

theorem set_cellsD {w : World} {B j : Nat} {cs : Array Value} {t : TypeId} (u : Value) (h : w.heap[B]? = some (.cells cs t (0, 0))) : (w.setCell ⟨B, j, none⟩ u).heap[B]? = some (.cells (cs.setIfInBounds j u) t (0, 0)) := by
  obtain ⟨hlt, hk⟩ := Array.getElem?_eq_some_iff.1 h
  show (w.heap.modify B _)[B]? = _
  rw [Array.getElem?_eq_getElem (by rw [Array.size_modify]; exact hlt), Array.getElem_modify_self, hk]
  rfl
end Go.Proofs.Ytjggheoonjajpaa
namespace Go.Proofs.Ytjggheoonjajpaa
set_option linter.unusedVariables false

theorem bytes_toList_iff (a b : ByteArray) : a.toList = b.toList ↔ a = b := by
  refine ⟨fun h => ?_, fun h => by rw [h]⟩
  rw [ByteArray.toList_eq, ByteArray.toList_eq] at h
  exact ByteArray.ext (Array.toList_inj.1 h)
end Go.Proofs.Ytjggheoonjajpaa
namespace Go.Proofs.Ytjggheoonjajpaa
open Go.ChangeShapes Go.WideShapes Go.ChangeAt Go.RowKit
set_option linter.unusedVariables false

theorem grownT {A B C : World} {row : Option Nat} (h : A.grownBy B row) (k : B.grownBy C row) : A.grownBy C row :=
  ⟨k.os.trans h.os, k.tape.trans h.tape, k.output.trans h.output, Nat.le_trans h.size k.size, fun j hj hr => (k.block j (Nat.lt_of_lt_of_le hj h.size) hr).trans (h.block j hj hr)⟩
end Go.Proofs.Ytjggheoonjajpaa
namespace Go.Proofs.Ytjggheoonjajpaa
open Go.ChangeShapes Go.WideShapes Go.ChangeAt Go.RowKit Go.BigFrame
set_option linter.unusedVariables false

/-- a word in memory: two cells -/
theorem cd_cells {W w' : World} {b : Nat} {v : Value} {y : ByteArray} {T : TypeId} (h : W.heap[b]? = some (.cells #[v, .string y] T)) (hb : Below W.heap.size W w') :
    w'.cell? ⟨b, 0, none⟩ = some v ∧ w'.cell? ⟨b, 1, none⟩ = some (.string y) := by
  have h1 := (hb.block _ (Array.getElem?_eq_some_iff.1 h).1).trans h
  exact ⟨by rw [cell_of_row _ _ 0 _ _ _ h1]; rfl, by rw [cell_of_row _ _ 1 _ _ _ h1]; rfl⟩
theorem agg_str (w : World) : (isAgg 9).run Try.prog w = .ok false w := by simp [isAgg, underlying, Try.underlying9]
theorem agg_keys (w : World) : (isAgg 40).run Try.prog w = .ok false w := by simp [isAgg, underlying, Try.underlying40]
theorem load_one {t : TypeId} {w : World} {p : Addr} {v : Value} (ht : ∀ w, (isAgg t).run Try.prog w = .ok false w) (h : w.cell? p = some v) : (loadVar t p).run Try.prog w = .ok v w := by
  unfold loadVar
  simp only [Sem.run_bind, ht, Result.andThen_ok]
  rw [if_neg (by simp)]
  simp [h]
theorem cd_load {W w' : World} {b : Nat} {v : Value} {y : ByteArray} {T : TypeId} (h : W.heap[b]? = some (.cells #[v, .string y] T)) (hb : Below W.heap.size W w') :
    (loadVar 42 ⟨b, 0, none⟩).run Try.prog w' = .ok (.agg #[v, .string y]) w' := by
  obtain ⟨h0, h1⟩ := cd_cells h hb
  refine run_loadVar_mid w' b 0 42 [v, .string y] _ (fun j u hj => ?_) Try.underlying42 rfl (by kernel_rfl)
  have hj2 : j < 2 := by have := (List.getElem?_eq_some_iff.1 hj).1; simpa using this
  rcases (by omega : j = 0 ∨ j = 1) with rfl | rfl
  · simpa using h0.trans (by simpa using hj)
  · simpa using h1.trans (by simpa using hj)
theorem szero_any (w : World) : Calls Try.prog 75 #[] w fun e w' => e = .returned (.string z4) ∧ w' = w := by
  go_enter Try.func75, Try.ntmps75
  go_wp2
  go_ret
  exact ⟨rfl, rfl⟩
theorem cd_loadk {W w' : World} {b : Nat} {v : Value} {y : ByteArray} {T : TypeId} (h : W.heap[b]? = some (.cells #[v, .string y] T)) (hb : Below W.heap.size W w') :
    (loadVar 40 ⟨b, 0, none⟩).run Try.prog w' = .ok v w' := load_one agg_keys (cd_cells h hb).1
theorem cd_loads {W w' : World} {b : Nat} {v : Value} {y : ByteArray} {T : TypeId} (h : W.heap[b]? = some (.cells #[v, .string y] T)) (hb : Below W.heap.size W w') :
    (loadVar 9 ⟨b, 1, none⟩).run Try.prog w' = .ok (.string y) w' := load_one agg_str (cd_cells h hb).2
structure Row2 (w : World) (b : Nat) (x y : Value) : Prop where
  c0 : w.cell? ⟨b, 0, none⟩ = some x
  c1 : w.cell? ⟨b, 1, none⟩ = some y
  f0 : w.frozen? ⟨b, 0, none⟩ = false
  f1 : w.frozen? ⟨b, 1, none⟩ = false
theorem row2_of {w : World} {b : Nat} {x y : Value} {t : TypeId} (h : w.heap[b]? = some (.cells #[x, y] t (0, 0))) : Row2 w b x y :=
  ⟨by rw [cell_of_row _ _ 0 _ _ _ h]; rfl, by rw [cell_of_row _ _ 1 _ _ _ h]; rfl, by simp [World.frozen?, h], by simp [World.frozen?, h]⟩
theorem set2 {w : World} {b : Nat} {x y : Value} {t : TypeId} (p q : Value) (h : w.heap[b]? = some (.cells #[x, y] t (0, 0))) :
    ((w.setCell ⟨b, 0, none⟩ p).setCell ⟨b, 1, none⟩ q).heap[b]? = some (.cells #[p, q] t (0, 0)) := set_cellsD _ (set_cellsD _ h)
theorem grown2 (w : World) (b : Nat) (p q : Value) : w.grownBy ((w.setCell ⟨b, 0, none⟩ p).setCell ⟨b, 1, none⟩ q) (some b) :=
  grownT (Lib.grownBy_setCell w b 0 p) (Lib.grownBy_setCell _ b 1 q)
theorem below2 {w W : World} {n b : Nat} (hb : Below n w W) (h : n ≤ b) (p q : Value) : Below n w ((W.setCell ⟨b, 0, none⟩ p).setCell ⟨b, 1, none⟩ q) :=
  (hb.setCell (p := ⟨b, 0, none⟩) h p).setCell (p := ⟨b, 1, none⟩) h q
theorem szero_below (w : World) : Calls Try.prog 75 #[] w fun e w' => e = .returned (.string z4) ∧ Below w.heap.size w w' :=
  (szero_any w).mono fun e w' h => ⟨h.1, by rw [h.2]; exact Below.refl _ _⟩
set_option maxRecDepth 100000 in
set_option maxHeartbeats 1000000 in
theorem scodeok_any (v : Value) (ks : List K2) (y : ByteArray) (w : World) (h : keysAt w v ks) (hs : ks.length ≤ 2000000) :
    Calls Try.prog 22 #[.agg #[v, .string y]] w fun e w' => e = .returned (.bool (codeOkB (ks, y))) ∧ Below w.heap.size w w' := by
  have hb := (Below.refl w.heap.size w).alloc (Nat.le_refl _) (.cells #[v, .string y] 42)
  have HB := Lib.hid hb
  have HX := Lib.hid (heap_alloc_new w (.cells #[v, .string y] 42))
  have HK := Lib.hid (fun w' (hb' : Below (w.alloc (.cells #[v, .string y] 42)).heap.size (w.alloc (.cells #[v, .string y] 42)) w') => skeysok_any v ks w' (keysAt_below h (hb.trans (hb'.mono hb.size))) hs)
  obtain ⟨a, cap, rfl, -, -⟩ := h
  unfold codeOkB
  dsimp only
  go_enter Try.func22, Try.ntmps22
  go_wp2
  generalize w.alloc (.cells #[.slice a ks.length cap, .string y] 42) = W at *
  have L0 := fun w' (hb' : Below W.heap.size W w') => cd_loadk HX.out hb'
  have L1 := fun w' (hb' : Below W.heap.size W w') => cd_loads HX.out hb'

  clear hb
  by_cases h1 : ks.length ≤ 6
  · have i1 : (ks.length : Int) ≤ 6 := by omega
    have d1 : decide ((ks.length : Int) ≤ 6) = true := decide_eq_true i1
    cases h2 : keysOkR ks with
    | false =>
      rw [h2] at HK
      refine wp_region_below W (by kernel_rfl) (by kernel_rfl) (Below.refl _ _) ?_
      repeat (first
        | go_big_quiet_skip
        | (go_big_quiet_want
           first
             | (go_big_quiet_op; go_big_quiet_on)
             | (refine q_load 40 _ _ _ rfl rfl L0 ?_; simp only [Act.put, List.setIfInBounds_toArray, List.set_cons_zero, List.set_cons_succ]; go_big_quiet_on)
             | (refine q_load 9 _ _ _ rfl rfl L1 ?_; simp only [Act.put, List.setIfInBounds_toArray, List.set_cons_zero, List.set_cons_succ]; go_big_quiet_on)
             | (go_big_quiet_op; refine ⟨_, fun _ _ => rfl, ?_⟩; go_big_quiet_on)
             | (go_big_quiet_op; apply Exists.intro; refine ⟨fun w' hw' => ?_, ?_⟩
                · first
                  | (with_reducible refine (HK.out w' hw').mono ?_
                     rintro e w2 ⟨rfl, hb2⟩
                     exact ⟨rfl, hw'.trans (hb2.mono hw'.size)⟩)
                  | (with_reducible refine (szero_below w').mono ?_
                     rintro e w2 ⟨rfl, hb2⟩
                     exact ⟨rfl, hw'.trans (hb2.mono hw'.size)⟩)
                go_big_quiet_on)))
      refine wpQuiet_nil ?_
      intro w9 hb9
      clear L0 L1
      go_wp2
      go_ret
      exact ⟨by simp [h1, h2], HB.out.trans (hb9.mono HB.out.size)⟩
    | true =>
      rw [h2] at HK
      by_cases h3 : y.size = 4
      · have i3 : (y.size : Int) = 4 := by omega
        have b3 : ((y.size : Int) == 4) = true := by simpa using i3
        by_cases h4 : 0 < ks.length
        · have i4 : (0 : Int) < (ks.length : Int) := by omega
          have d4 : decide ((0 : Int) < (ks.length : Int)) = true := decide_eq_true i4
          refine wp_region_below W (by kernel_rfl) (by kernel_rfl) (Below.refl _ _) ?_
          repeat (first
            | go_big_quiet_skip
            | (go_big_quiet_want
               first
                 | (go_big_quiet_op; go_big_quiet_on)
                 | (refine q_load 40 _ _ _ rfl rfl L0 ?_; simp only [Act.put, List.setIfInBounds_toArray, List.set_cons_zero, List.set_cons_succ]; go_big_quiet_on)
                 | (refine q_load 9 _ _ _ rfl rfl L1 ?_; simp only [Act.put, List.setIfInBounds_toArray, List.set_cons_zero, List.set_cons_succ]; go_big_quiet_on)
                 | (go_big_quiet_op; refine ⟨_, fun _ _ => rfl, ?_⟩; go_big_quiet_on)
                 | (go_big_quiet_op; apply Exists.intro; refine ⟨fun w' hw' => ?_, ?_⟩
                    · first
                      | (with_reducible refine (HK.out w' hw').mono ?_
                         rintro e w2 ⟨rfl, hb2⟩
                         exact ⟨rfl, hw'.trans (hb2.mono hw'.size)⟩)
                      | (with_reducible refine (szero_below w').mono ?_
                         rintro e w2 ⟨rfl, hb2⟩
                         exact ⟨rfl, hw'.trans (hb2.mono hw'.size)⟩)
                    go_big_quiet_on)))
          refine wpQuiet_nil ?_
          intro w9 hb9
          clear L0 L1
          go_wp2
          go_ret
          exact ⟨by simp [h1, h2, h3, h4], HB.out.trans (hb9.mono HB.out.size)⟩
        · have i4 : ¬ (0 : Int) < (ks.length : Int) := by omega
          have d4 : decide ((0 : Int) < (ks.length : Int)) = false := decide_eq_false i4
          have hy : decide (y = z4) = (y.toList == z4.toList) := by
            rw [Bool.eq_iff_iff, decide_eq_true_eq, beq_iff_eq, bytes_toList_iff]
          refine wp_region_below W (by kernel_rfl) (by kernel_rfl) (Below.refl _ _) ?_
          repeat (first
            | go_big_quiet_skip
            | (go_big_quiet_want
               first
                 | (go_big_quiet_op; go_big_quiet_on)
                 | (refine q_load 40 _ _ _ rfl rfl L0 ?_; simp only [Act.put, List.setIfInBounds_toArray, List.set_cons_zero, List.set_cons_succ]; go_big_quiet_on)
                 | (refine q_load 9 _ _ _ rfl rfl L1 ?_; simp only [Act.put, List.setIfInBounds_toArray, List.set_cons_zero, List.set_cons_succ]; go_big_quiet_on)
                 | (go_big_quiet_op; refine ⟨_, fun _ _ => rfl, ?_⟩; go_big_quiet_on)
                 | (go_big_quiet_op; apply Exists.intro; refine ⟨fun w' hw' => ?_, ?_⟩
                    · first
                      | (with_reducible refine (HK.out w' hw').mono ?_
                         rintro e w2 ⟨rfl, hb2⟩
                         exact ⟨rfl, hw'.trans (hb2.mono hw'.size)⟩)
                      | (with_reducible refine (szero_below w').mono ?_
                         rintro e w2 ⟨rfl, hb2⟩
                         exact ⟨rfl, hw'.trans (hb2.mono hw'.size)⟩)
                    go_big_quiet_on)))
          refine wpQuiet_nil ?_
          intro w9 hb9
          clear L0 L1
          go_wp2
          go_ret
          exact ⟨by simp [h1, h2, h3, h4, hy], HB.out.trans (hb9.mono HB.out.size)⟩
      · have i3 : ¬ (y.size : Int) = 4 := by omega
        have b3 : ((y.size : Int) == 4) = false := by simpa using i3
        refine wp_region_below W (by kernel_rfl) (by kernel_rfl) (Below.refl _ _) ?_
        repeat (first
          | go_big_quiet_skip
          | (go_big_quiet_want
             first
               | (go_big_quiet_op; go_big_quiet_on)
               | (refine q_load 40 _ _ _ rfl rfl L0 ?_; simp only [Act.put, List.setIfInBounds_toArray, List.set_cons_zero, List.set_cons_succ]; go_big_quiet_on)
               | (refine q_load 9 _ _ _ rfl rfl L1 ?_; simp only [Act.put, List.setIfInBounds_toArray, List.set_cons_zero, List.set_cons_succ]; go_big_quiet_on)
               | (go_big_quiet_op; refine ⟨_, fun _ _ => rfl, ?_⟩; go_big_quiet_on)
               | (go_big_quiet_op; apply Exists.intro; refine ⟨fun w' hw' => ?_, ?_⟩
                  · first
                    | (with_reducible refine (HK.out w' hw').mono ?_
                       rintro e w2 ⟨rfl, hb2⟩
                       exact ⟨rfl, hw'.trans (hb2.mono hw'.size)⟩)
                    | (with_reducible refine (szero_below w').mono ?_
                       rintro e w2 ⟨rfl, hb2⟩
                       exact ⟨rfl, hw'.trans (hb2.mono hw'.size)⟩)
                  go_big_quiet_on)))
        refine wpQuiet_nil ?_
        intro w9 hb9
        clear L0 L1
        go_wp2
        go_ret
        exact ⟨by simp [h1, h2, h3], HB.out.trans (hb9.mono HB.out.size)⟩
  · have i1 : ¬ (ks.length : Int) ≤ 6 := by omega
    have d1 : decide ((ks.length : Int) ≤ 6) = false := decide_eq_false i1
    refine wp_region_below W (by kernel_rfl) (by kernel_rfl) (Below.refl _ _) ?_
    repeat (first
      | go_big_quiet_skip
      | (go_big_quiet_want
         first
           | (go_big_quiet_op; go_big_quiet_on)
           | (refine q_load 40 _ _ _ rfl rfl L0 ?_; simp only [Act.put, List.setIfInBounds_toArray, List.set_cons_zero, List.set_cons_succ]; go_big_quiet_on)
           | (refine q_load 9 _ _ _ rfl rfl L1 ?_; simp only [Act.put, List.setIfInBounds_toArray, List.set_cons_zero, List.set_cons_succ]; go_big_quiet_on)
           | (go_big_quiet_op; refine ⟨_, fun _ _ => rfl, ?_⟩; go_big_quiet_on)
           | (go_big_quiet_op; apply Exists.intro; refine ⟨fun w' hw' => ?_, ?_⟩
              · first
                | (with_reducible refine (HK.out w' hw').mono ?_
                   rintro e w2 ⟨rfl, hb2⟩
                   exact ⟨rfl, hw'.trans (hb2.mono hw'.size)⟩)
                | (with_reducible refine (szero_below w').mono ?_
                   rintro e w2 ⟨rfl, hb2⟩
                   exact ⟨rfl, hw'.trans (hb2.mono hw'.size)⟩)
              go_big_quiet_on)))
    refine wpQuiet_nil ?_
    intro w9 hb9
    clear L0 L1
    go_wp2
    go_ret
    exact ⟨by simp [h1], HB.out.trans (hb9.mono HB.out.size)⟩
end Go.Proofs.Ytjggheoonjajpaa
namespace Go.Proofs.Ytjggheoonjajpaa
open Go.ChangeShapes Go.WideShapes Go.ChangeAt Go.RowKit Go.BigFrame
set_option linter.unusedVariables false

abbrev R3 := K2 × ByteArray
def r0 : R3 := ((0, 0), ByteArray.empty)
def rv (r : R3) : Value := .agg #[.int .i64 r.1.1, .int .i64 r.1.2, .string r.2]
def rdOkB (r : R3) : Bool := keyOkB r.1 && decide (r.2.size = 4)
/-- the slice value v leads to the readings rs -/
def rdAt (w : World) (v : Value) (rs : List R3) : Prop :=
  ∃ a cap, v = .slice a rs.length cap ∧ rs.length ≤ cap ∧ (rs.length = 0 ∨ ∃ g off, a = some ⟨g, off, none⟩ ∧ g < w.heap.size ∧
    ∀ i, i < rs.length → w.cell? ⟨g, off + i * 3, none⟩ = some (.int .i64 (rs.getD i r0).1.1) ∧ w.cell? ⟨g, off + i * 3 + 1, none⟩ = some (.int .i64 (rs.getD i r0).1.2) ∧
      w.cell? ⟨g, off + i * 3 + 2, none⟩ = some (.string (rs.getD i r0).2))
theorem rdAt_below {w w' : World} {v : Value} {rs : List R3} (h : rdAt w v rs) (hb : Below w.heap.size w w') : rdAt w' v rs := by
  obtain ⟨a, cap, h1, h2, h3⟩ := h
  refine ⟨a, cap, h1, h2, h3.imp_right ?_⟩
  rintro ⟨g, off, h4, h5, h6⟩
  refine ⟨g, off, h4, Nat.lt_of_lt_of_le h5 hb.size, fun i hi => ?_⟩
  rw [hb.cell (p := ⟨g, off + i * 3, none⟩) h5, hb.cell (p := ⟨g, off + i * 3 + 1, none⟩) h5, hb.cell (p := ⟨g, off + i * 3 + 2, none⟩) h5]
  exact h6 i hi
def rdCells (rs : List R3) : List Value := rs.flatMap fun r => [.int .i64 r.1.1, .int .i64 r.1.2, .string r.2]
theorem rdCells_len : ∀ rs : List R3, (rdCells rs).length = rs.length * 3
  | [] => rfl
  | r :: l => by
    have := rdCells_len l
    simp only [rdCells, List.flatMap_cons, List.length_append, List.length_cons, List.length_nil] at *
    omega
theorem rdCells_snoc (rs : List R3) (r : R3) : rdCells (rs ++ [r]) = rdCells rs ++ [.int .i64 r.1.1, .int .i64 r.1.2, .string r.2] := by simp [rdCells]
theorem rdCells_get : ∀ (rs : List R3) (i : Nat), i < rs.length → (rdCells rs)[i * 3]? = some (.int .i64 (rs.getD i r0).1.1) ∧ (rdCells rs)[i * 3 + 1]? = some (.int .i64 (rs.getD i r0).1.2) ∧ (rdCells rs)[i * 3 + 2]? = some (.string (rs.getD i r0).2)
  | [], _, h => by simp at h
  | k :: r, 0, _ => by simp [rdCells]
  | k :: r, i + 1, h => by
    have ih := rdCells_get r i (by simpa using h)
    have e1 : (i + 1) * 3 = i * 3 + 1 + 1 + 1 := by omega
    rw [e1, show i * 3 + 1 + 1 + 1 + 1 = i * 3 + 1 + 1 + 1 + 1 from rfl, show i * 3 + 1 + 1 + 1 + 2 = i * 3 + 2 + 1 + 1 + 1 by omega]
    simp only [rdCells, List.flatMap_cons, List.cons_append, List.nil_append, List.getElem?_cons_succ, List.getD_cons_succ] at *
    exact ih
/-- what is owned leads to its readings -/
theorem rdAt_own {w : World} {base : Nat} {v : Value} {rs : List R3} (h : w.ownsRow base 38 3 v rs.length (rdCells rs)) : rdAt w v rs := by
  rcases h.2 with ⟨rfl, h0⟩ | ⟨g, cap, cur, rfl, hb, hg, hn, hm, hs, ht⟩
  · exact ⟨none, 0, by rw [h0], by omega, .inl h0⟩
  · refine ⟨_, cap, rfl, hn, .inr ⟨g, 0, rfl, (Array.getElem?_eq_some_iff.1 hg).1, fun i hi => ?_⟩⟩
    have hc := rdCells_get rs i hi
    rw [Nat.zero_add, h.cellAt (i * 3) (by omega), h.cellAt (i * 3 + 1) (by omega), h.cellAt (i * 3 + 2) (by omega)]
    exact hc
theorem rd_load {w : World} {g o : Nat} {r : R3} (hc : w.cell? ⟨g, o, none⟩ = some (.int .i64 r.1.1) ∧ w.cell? ⟨g, o + 1, none⟩ = some (.int .i64 r.1.2) ∧ w.cell? ⟨g, o + 2, none⟩ = some (.string r.2)) {w' : World} (hg : g < w.heap.size) (hb : Below w.heap.size w w') :
    (loadVar 38 ⟨g, o, none⟩).run Try.prog w' = .ok (rv r) w' := by
  refine run_loadVar_mid w' g o 38 [.int .i64 r.1.1, .int .i64 r.1.2, .string r.2] _ (fun j v hj => ?_) Try.underlying38 rfl (by kernel_rfl)
  have hj2 : j < 3 := by have := (List.getElem?_eq_some_iff.1 hj).1; simpa using this
  rcases (by omega : j = 0 ∨ j = 1 ∨ j = 2) with rfl | rfl | rfl
  · rw [hb.cell (p := ⟨g, o + 0, none⟩) hg]
    simpa using hc.1.trans (by simpa using hj)
  · rw [hb.cell (p := ⟨g, o + 1, none⟩) hg]
    simpa using hc.2.1.trans (by simpa using hj)
  · rw [hb.cell (p := ⟨g, o + 2, none⟩) hg]
    simpa using hc.2.2.trans (by simpa using hj)
/-- the key of a reading, alone -/
theorem rdk_load {w : World} {g o : Nat} {r : R3} (hc : w.cell? ⟨g, o, none⟩ = some (.int .i64 r.1.1) ∧ w.cell? ⟨g, o + 1, none⟩ = some (.int .i64 r.1.2) ∧ w.cell? ⟨g, o + 2, none⟩ = some (.string r.2)) {w' : World} (hg : g < w.heap.size) (hb : Below w.heap.size w w') :
    (loadVar 36 ⟨g, o, none⟩).run Try.prog w' = .ok (kv r.1) w' := key_load ⟨hc.1, hc.2.1⟩ hg hb
end Go.Proofs.Ytjggheoonjajpaa
namespace Go.Proofs.Ytjggheoonjajpaa
open Go.ChangeShapes Go.WideShapes Go.ChangeAt Go.RowKit Go.BigFrame
set_option linter.unusedVariables false

theorem sreadingok_any (r : R3) (w : World) : Calls Try.prog 59 #[rv r] w fun e w' => e = .returned (.bool (rdOkB r)) ∧ Below w.heap.size w w' := by
  obtain ⟨⟨n, s⟩, x⟩ := r
  unfold rdOkB rv
  dsimp only
  have hb : Below w.heap.size w (w.alloc (.cells #[.int .i64 n, .int .i64 s, .string x] 38)) := (Below.refl _ _).alloc (Nat.le_refl _) _
  have L1 := rdk_load (r := ((n, s), x)) (w := w.alloc (.cells #[.int .i64 n, .int .i64 s, .string x] 38)) (g := w.heap.size) (o := 0) ⟨by simp, by simp, by simp⟩ (by simp) (Below.refl _ _)
  have c2 : (w.alloc (.cells #[.int .i64 n, .int .i64 s, .string x] 38)).cell? ⟨w.heap.size, 2, none⟩ = some (.string x) := by simp
  have hlt : w.heap.size < (w.alloc (.cells #[.int .i64 n, .int .i64 s, .string x] 38)).heap.size := by simp
  have H1 := fun w => skeyok_any (n, s) w
  go_enter Try.func59, Try.ntmps59
  have HZ := Lib.hid (show ((x.size : Int) = 4) = (x.size = 4) from propext (by omega))
  generalize keyOkB (n, s) = p at *
  dsimp only at L1
  cases p with
  | false =>
    go_wp2_with fail
    refine (H1 _).mono ?_
    rintro e w1 ⟨rfl, hb1⟩
    have hB := hb.trans (hb1.mono hb.size)
    go_wp2
    go_ret
    exact ⟨by simp, hB⟩
  | true =>
    go_wp2_with fail
    refine (H1 _).mono ?_
    rintro e w1 ⟨rfl, hb1⟩
    have hB := hb.trans (hb1.mono hb.size)
    have c3 : w1.cell? ⟨w.heap.size, 2, none⟩ = some (.string x) := (hb1.cell (p := ⟨w.heap.size, 2, none⟩) hlt).trans c2
    by_cases h4 : x.size = 4
    · have e4 : (x.size : Int) = 4 := by omega
      clear hb hb1 c2 H1 L1
      go_wp2
      go_ret
      exact ⟨by simp [h4], hB⟩
    · have e4 : ¬ (x.size : Int) = 4 := by omega
      clear hb hb1 c2 H1 L1
      go_wp2
      go_ret
      exact ⟨by simp [h4, e4], hB⟩
end Go.Proofs.Ytjggheoonjajpaa
namespace Go.Proofs.Ytjggheoonjajpaa
open Go.ChangeShapes Go.WideShapes Go.ChangeAt Go.RowKit Go.BigFrame
set_option linter.unusedVariables false

theorem addr_plusK (g off j : Nat) : (⟨g, off, none⟩ : Addr).add j = ⟨g, off + j, none⟩ := by
  unfold Addr.add
  split
  · rename_i h; simp [h]
  · rfl
end Go.Proofs.Ytjggheoonjajpaa
namespace Go.Proofs.Ytjggheoonjajpaa
open Go.ChangeShapes Go.WideShapes Go.ChangeAt Go.RowKit Go.BigFrame
set_option linter.unusedVariables false

/-- the cells of a word's result, of nothing yet -/
theorem cd_res {W : World} {b : Nat} {v0 : Value} {y0 : ByteArray} (h : W.heap[b]? = some (.cells #[v0, .string y0] 42)) (v : Value) (y : ByteArray) :
    (loadVar 42 ⟨b, 0, none⟩).run Try.prog ((W.setCell ⟨b, 0, none⟩ v).setCell ⟨b, 1, none⟩ (.string y)) = .ok (.agg #[v, .string y]) ((W.setCell ⟨b, 0, none⟩ v).setCell ⟨b, 1, none⟩ (.string y)) :=
  cd_load (set2 v (.string y) h) (Below.refl _ _)
theorem own_set2 {W : World} {base n b : Nat} {e : TypeId} {size : Nat} {v : Value} {xs : List Value} (h : W.ownsRow base e size v n xs) (hb : b < base) (p q : Value) : ((W.setCell ⟨b, 0, none⟩ p).setCell ⟨b, 1, none⟩ q).ownsRow base e size v n xs :=
  h.kept (grown2 W b p q) (by
    cases hv : v.ownBlock with
    | none => exact .inl rfl
    | some g => exact .inr (fun e => by cases e; have := (h.lt _ hv).1; omega))
end Go.Proofs.Ytjggheoonjajpaa
namespace Go.Proofs.Ytjggheoonjajpaa
open Go.ChangeShapes Go.WideShapes Go.ChangeAt Go.RowKit Go.BigFrame
set_option linter.unusedVariables false

theorem own_shape {w : World} {base n : Nat} {e : TypeId} {v : Value} {size : Nat} {xs : List Value} (h : w.ownsRow base e size v n xs) : ∃ a n c, v = .slice a n c := by
  rcases h.2 with ⟨h, _⟩ | ⟨g, cap, cur, h, _⟩
  · exact ⟨_, _, _, h⟩
  · exact ⟨_, _, _, h⟩
end Go.Proofs.Ytjggheoonjajpaa
namespace Go.Proofs.Ytjggheoonjajpaa
open Go.ChangeShapes Go.WideShapes Go.ChangeAt Go.RowKit Go.BigFrame
set_option linter.unusedVariables false

/-- the slice value v leads to the keys ks, in another block than b -/
def keysAv (w : World) (b : Option Nat) (v : Value) (ks : List K2) : Prop :=
  ∃ a cap, v = .slice a ks.length cap ∧ ks.length ≤ cap ∧ (ks.length = 0 ∨ ∃ g off, a = some ⟨g, off, none⟩ ∧ g < w.heap.size ∧ some g ≠ b ∧
    ∀ i, i < ks.length → w.cell? ⟨g, off + i * 2, none⟩ = some (.int .i64 (ks.getD i (0, 0)).1) ∧ w.cell? ⟨g, off + i * 2 + 1, none⟩ = some (.int .i64 (ks.getD i (0, 0)).2))
theorem keysAv.to {w : World} {b : Option Nat} {v : Value} {ks : List K2} (h : keysAv w b v ks) : keysAt w v ks := by
  obtain ⟨a, cap, h1, h2, h3⟩ := h
  refine ⟨a, cap, h1, h2, h3.imp_right ?_⟩
  rintro ⟨g, off, h4, h5, -, h6⟩
  exact ⟨g, off, h4, h5, h6⟩
theorem keysAv_of {w : World} {b : Option Nat} {v : Value} {ks : List K2} (h : keysAt w v ks) (hb : ∀ g, g < w.heap.size → some g ≠ b) : keysAv w b v ks := by
  obtain ⟨a, cap, h1, h2, h3⟩ := h
  refine ⟨a, cap, h1, h2, h3.imp_right ?_⟩
  rintro ⟨g, off, h4, h5, h6⟩
  exact ⟨g, off, h4, h5, hb g h5, h6⟩
theorem keysAv.avoid {w : World} {b b' : Option Nat} {v : Value} {ks : List K2} (h : keysAv w b v ks) (hb : ∀ g, g < w.heap.size → some g ≠ b') : keysAv w b' v ks := keysAv_of h.to hb
theorem keysAv.grown {w w' : World} {b : Option Nat} {v : Value} {ks : List K2} (h : keysAv w b v ks) (hg : w.grownBy w' b) : keysAv w' b v ks := by
  obtain ⟨a, cap, h1, h2, h3⟩ := h
  refine ⟨a, cap, h1, h2, h3.imp_right ?_⟩
  rintro ⟨g, off, h4, h5, h6, h7⟩
  refine ⟨g, off, h4, Nat.lt_of_lt_of_le h5 hg.size, h6, fun i hi => ?_⟩
  obtain ⟨c1, c2⟩ := h7 i hi
  exact ⟨hg.cell c1 h6, hg.cell c2 h6⟩
theorem keysAv.below {w w' : World} {b : Option Nat} {v : Value} {ks : List K2} (h : keysAv w b v ks) (hb : Below w.heap.size w w') : keysAv w' b v ks := h.grown (grown_of_below' hb b)
/-- what is owned above a block lies in another one -/
theorem keysAv_own {w : World} {base b : Nat} {v : Value} {ks : List K2} (h : w.ownsRow base 36 2 v ks.length (keyCells ks)) (hb : b < base) : keysAv w (some b) v ks := by
  rcases h.2 with ⟨rfl, h0⟩ | ⟨g, cap, cur, rfl, hbg, hg, hn, hm, hs, ht⟩
  · exact ⟨none, 0, by rw [h0], by omega, .inl h0⟩
  · refine ⟨_, cap, rfl, hn, .inr ⟨g, 0, rfl, (Array.getElem?_eq_some_iff.1 hg).1, fun e => by cases e; omega, fun i hi => ?_⟩⟩
    have hc := keyCells_get ks i hi
    rw [Nat.zero_add, h.cellAt (i * 2) (by omega), h.cellAt (i * 2 + 1) (by omega)]
    exact hc
/-- the slice value v leads to the words L, their keys in other blocks than b -/
def cdAv (w : World) (b : Option Nat) (v : Value) (L : List C2) : Prop :=
  ∃ a cap, v = .slice a L.length cap ∧ L.length ≤ cap ∧ (L.length = 0 ∨ ∃ g off, a = some ⟨g, off, none⟩ ∧ g < w.heap.size ∧
    ∀ i, i < L.length → ∃ u, w.cell? ⟨g, off + i * 2, none⟩ = some u ∧ w.cell? ⟨g, off + i * 2 + 1, none⟩ = some (.string (L.getD i blankC).2) ∧ keysAv w b u (L.getD i blankC).1)
theorem cdAv_below {w w' : World} {b : Option Nat} {v : Value} {L : List C2} (h : cdAv w b v L) (hb : Below w.heap.size w w') : cdAv w' b v L := by
  obtain ⟨a, cap, h1, h2, h3⟩ := h
  refine ⟨a, cap, h1, h2, h3.imp_right ?_⟩
  rintro ⟨g, off, h4, h5, h6⟩
  refine ⟨g, off, h4, Nat.lt_of_lt_of_le h5 hb.size, fun i hi => ?_⟩
  obtain ⟨u, c1, c2, c3⟩ := h6 i hi
  exact ⟨u, (hb.cell (p := ⟨g, off + i * 2, none⟩) h5).trans c1, (hb.cell (p := ⟨g, off + i * 2 + 1, none⟩) h5).trans c2, c3.below hb⟩
theorem cdAv.avoid {w : World} {b b' : Option Nat} {v : Value} {L : List C2} (h : cdAv w b v L) (hb : ∀ g, g < w.heap.size → some g ≠ b') : cdAv w b' v L := by
  obtain ⟨a, cap, h1, h2, h3⟩ := h
  refine ⟨a, cap, h1, h2, h3.imp_right ?_⟩
  rintro ⟨g, off, h4, h5, h6⟩
  refine ⟨g, off, h4, h5, fun i hi => ?_⟩
  obtain ⟨u, c1, c2, c3⟩ := h6 i hi
  exact ⟨u, c1, c2, c3.avoid hb⟩
def cdCells : List Value → List C2 → List Value
  | u :: us, x :: L => u :: .string x.2 :: cdCells us L
  | _, _ => []
theorem cdCells_len : ∀ (us : List Value) (L : List C2), us.length = L.length → (cdCells us L).length = L.length * 2
  | [], [], _ => rfl
  | u :: us, x :: L, h => by
    have := cdCells_len us L (by simpa using h)
    simp only [cdCells, List.length_cons]
    omega
  | [], _ :: _, h => by simp at h
  | _ :: _, [], h => by simp at h
theorem cdCells_app : ∀ (us us' : List Value) (L M : List C2), us.length = L.length → cdCells (us ++ us') (L ++ M) = cdCells us L ++ cdCells us' M
  | [], us', [], M, _ => rfl
  | u :: us, us', x :: L, M, h => by
    have := cdCells_app us us' L M (by simpa using h)
    simp only [List.cons_append, cdCells, this]
  | [], _, _ :: _, _, h => by simp at h
  | _ :: _, _, [], _, h => by simp at h
theorem cdCells_get : ∀ (us : List Value) (L : List C2) (i : Nat), us.length = L.length → i < L.length → (cdCells us L)[i * 2]? = some (us.getD i undef) ∧ (cdCells us L)[i * 2 + 1]? = some (.string (L.getD i blankC).2)
  | [], [], _, _, h => by simp at h
  | u :: us, x :: L, 0, _, _ => by simp [cdCells]
  | u :: us, x :: L, i + 1, h, hi => by
    have ih := cdCells_get us L i (by simpa using h) (by simpa using hi)
    have e1 : (i + 1) * 2 = i * 2 + 1 + 1 := by omega
    rw [e1]
    simp only [cdCells, List.getElem?_cons_succ, List.getD_cons_succ]
    exact ih
  | [], _ :: _, _, h, _ => by simp at h
  | _ :: _, [], _, h, _ => by simp at h
theorem cdCells_set : ∀ (us : List Value) (L : List C2) (i : Nat) (u : Value) (x : C2), us.length = L.length → ((cdCells us L).set (i * 2) u).set (i * 2 + 1) (.string x.2) = cdCells (us.set i u) (L.set i x)
  | [], [], _, _, _, _ => rfl
  | v :: us, y :: L, 0, u, x, _ => by simp [cdCells]
  | v :: us, y :: L, i + 1, u, x, h => by
    have ih := cdCells_set us L i u x (by simpa using h)
    have e1 : (i + 1) * 2 = i * 2 + 1 + 1 := by omega
    rw [e1]
    simp only [cdCells, List.set_cons_succ]
    rw [ih]
  | [], _ :: _, _, _, _, h => by simp at h
  | _ :: _, [], _, _, _, h => by simp at h
/-- a list of words of one's own: their keys' slices us, in other blocks -/
structure cdOwn (w : World) (base : Nat) (v : Value) (us : List Value) (L : List C2) : Prop where
  len : us.length = L.length
  own : w.ownsRow base 42 2 v L.length (cdCells us L)
  keys : ∀ i, i < L.length → keysAv w v.ownBlock (us.getD i undef) (L.getD i blankC).1
theorem cdOwn.below {w w' : World} {base : Nat} {v : Value} {us : List Value} {L : List C2} (h : cdOwn w base v us L) (hb : Below w.heap.size w w') : cdOwn w' base v us L :=
  ⟨h.len, own_below h.own hb, fun i hi => (h.keys i hi).below hb⟩
theorem cdOwn.drew {w : World} {base : Nat} {v : Value} {us : List Value} {L : List C2} (h : cdOwn w base v us L) : cdOwn w.drew base v us L := ⟨h.len, h.own, h.keys⟩
theorem cdOwn.base {w : World} {base base' : Nat} {v : Value} {us : List Value} {L : List C2} (h : cdOwn w base v us L) (hb : base' ≤ base) : cdOwn w base' v us L :=
  ⟨h.len, own_base h.own hb, h.keys⟩
/-- another block of one's own is written -/
theorem cdOwn.other {w w' : World} {base : Nat} {b : Option Nat} {v : Value} {us : List Value} {L : List C2} (h : cdOwn w base v us L) (hg : w.grownBy w' b) (h1 : v.ownBlock ≠ b) (h2 : ∀ i, i < L.length → keysAv w b (us.getD i undef) (L.getD i blankC).1) : cdOwn w' base v us L := by
  refine ⟨h.len, h.own.kept hg (.inr h1), fun i hi => ?_⟩
  obtain ⟨a, cap, e1, e2, e3⟩ := h.keys i hi
  obtain ⟨a', cap', f1, f2, f3⟩ := (h2 i hi).grown hg
  refine ⟨a', cap', f1, f2, ?_⟩
  rw [e1] at f1
  cases f1
  rcases e3 with e3 | ⟨g, off, rfl, g1, g2, g3⟩
  · exact .inl e3
  · rcases f3 with f3 | ⟨g', off', e, j1, j2, j3⟩
    · exact .inl f3
    · cases e
      exact .inr ⟨g, off, rfl, j1, g2, j3⟩
theorem cdOwn.to {w : World} {base : Nat} {v : Value} {us : List Value} {L : List C2} (h : cdOwn w base v us L) : cdAv w v.ownBlock v L := by
  rcases h.own.2 with ⟨rfl, h0⟩ | ⟨g, cap, cur, rfl, hb, hg, hn, hm, hs, ht⟩
  · exact ⟨none, 0, by rw [h0], by omega, .inl h0⟩
  · refine ⟨_, cap, rfl, hn, .inr ⟨g, 0, rfl, (Array.getElem?_eq_some_iff.1 hg).1, fun i hi => ?_⟩⟩
    have hc := cdCells_get us L i h.len hi
    rw [Nat.zero_add, h.own.cellAt (i * 2) (by omega), h.own.cellAt (i * 2 + 1) (by omega)]
    exact ⟨_, hc.1, hc.2, h.keys i hi⟩
theorem cdAv_any {w : World} {b : Option Nat} {v : Value} {L : List C2} (h : cdAv w b v L) : cdAv w none v L := h.avoid fun g _ e => by cases e
theorem infoC : (Try.prog.info? 42).map (fun i => (i.zero, i.size, i.bytes)) = some (some (.agg #[.slice none 0 0, .string ⟨#[]⟩]), 2, 40) := by kernel_rfl
/-- the slices of a list's words -/
theorem cdAv.slices {w : World} {b : Option Nat} {g off : Nat} {L : List C2} (h : ∀ i, i < L.length → ∃ u, w.cell? ⟨g, off + i * 2, none⟩ = some u ∧ w.cell? ⟨g, off + i * 2 + 1, none⟩ = some (.string (L.getD i blankC).2) ∧ keysAv w b u (L.getD i blankC).1) :
    ∃ us : List Value, us.length = L.length ∧ (∀ i, i < L.length → keysAv w b (us.getD i undef) (L.getD i blankC).1) ∧ (∀ u ∈ us, ∃ a n c, u = .slice a n c) ∧ ∀ j u, (cdCells us L)[j]? = some u → w.cell? ((⟨g, off, none⟩ : Addr).add j) = some u := by
  have hget : ∀ i, i < L.length → ((List.range L.length).map fun i => (w.cell? ⟨g, off + i * 2, none⟩).getD undef).getD i undef = (w.cell? ⟨g, off + i * 2, none⟩).getD undef := by
    intro i hi
    simp [List.getD, hi]
  have hlen : ((List.range L.length).map fun i => (w.cell? ⟨g, off + i * 2, none⟩).getD undef).length = L.length := by simp
  have hmem : ∀ u ∈ (List.range L.length).map fun i => (w.cell? ⟨g, off + i * 2, none⟩).getD undef, ∃ a n c, u = .slice a n c := by
    intro u hu
    obtain ⟨i, hi, rfl⟩ := List.mem_map.1 hu
    obtain ⟨u, c1, c2, a, cap, rfl, _⟩ := h i (List.mem_range.1 hi)
    rw [c1]; exact ⟨_, _, _, rfl⟩
  generalize ((List.range L.length).map fun i => (w.cell? ⟨g, off + i * 2, none⟩).getD undef) = us at *
  refine ⟨us, hlen, fun i hi => ?_, hmem, fun j u hu => ?_⟩
  · obtain ⟨u, c1, c2, c3⟩ := h i hi
    rw [hget i hi, c1]
    exact c3
  · have hl := cdCells_len us L hlen
    have hj : j < L.length * 2 := by rw [← hl]; exact (List.getElem?_eq_some_iff.1 hu).1
    have hc := cdCells_get us L (j / 2) hlen (by omega)
    obtain ⟨x, c1, c2, c3⟩ := h (j / 2) (by omega)
    rw [hget _ (by omega), c1] at hc
    rw [addr_plusK]
    rcases (by omega : j = j / 2 * 2 ∨ j = j / 2 * 2 + 1) with e | e
    · rw [← e] at hc c1
      rw [hc.1] at hu
      cases hu
      exact c1
    · rw [← e] at hc
      rw [hc.2] at hu
      cases hu
      rw [show off + j / 2 * 2 + 1 = off + j by omega] at c2
      exact c2
/-- a word of the list set anew -/
theorem cdOwn.set {w : World} {base g cap n : Nat} {us : List Value} {L : List C2} (h : cdOwn w base (.slice (some ⟨g, 0, none⟩) n cap) us L) (i : Nat) (u : Value) (x : C2) (hu : keysAv w (some g) u x.1) :
    cdOwn ((w.setCell ⟨g, i * 2, none⟩ u).setCell ⟨g, i * 2 + 1, none⟩ (.string x.2)) base (.slice (some ⟨g, 0, none⟩) n cap) (us.set i u) (L.set i x) := by
  have hn : n = L.length := by
    rcases h.own.2 with ⟨e, _⟩ | ⟨_, _, _, e, _⟩
    · cases e
    · cases e; rfl
  subst hn
  have st1 := h.own.stored (i * 2) u
  have st2 := st1.1.stored (i * 2 + 1) (.string x.2)
  rw [cdCells_set _ _ _ _ _ h.len] at st2
  have hg1 : w.grownBy ((w.setCell ⟨g, i * 2, none⟩ u).setCell ⟨g, i * 2 + 1, none⟩ (.string x.2)) (some g) := (Lib.grownBy_setCell w g (i * 2) u).trans (Lib.grownBy_setCell _ g (i * 2 + 1) (.string x.2))
  refine ⟨by simp [h.len], by rw [List.length_set]; exact st2.1, fun j hj => ?_⟩
  rw [List.length_set] at hj
  have hk : keysAv w (some g) ((us.set i u).getD j undef) ((L.set i x).getD j blankC).1 := by
    by_cases e : i = j
    · subst e
      have e1 : (us.set i u).getD i undef = u := by simp [List.getD, h.len, hj]
      have e2 : (L.set i x).getD i blankC = x := by simp [List.getD, hj]
      rw [e1, e2]; exact hu
    · have e1 : (us.set i u).getD j undef = us.getD j undef := by simp [List.getD, e]
      have e2 : (L.set i x).getD j blankC = L.getD j blankC := by simp [List.getD, e]
      rw [e1, e2]; exact h.keys j hj
  exact hk.grown hg1
end Go.Proofs.Ytjggheoonjajpaa
namespace Go.Proofs.Ytjggheoonjajpaa
open Go.ChangeShapes Go.WideShapes Go.ChangeAt Go.RowKit Go.BigFrame
set_option linter.unusedVariables false

theorem tokey_any (k : K2) (w : World) : Calls Try.prog 129 #[kv k] w fun e w' => e = .returned (kv k) ∧ Below w.heap.size w w' := by
  obtain ⟨n, s⟩ := k
  unfold kv
  dsimp only
  have hB : ∀ o1 o2 o3, Below w.heap.size w (((w.alloc o1).alloc o2).alloc o3) := fun o1 o2 o3 => (((Below.refl _ _).alloc (Nat.le_refl _) _).alloc (by simp) _).alloc (by simp; omega) _
  have HB := Lib.hid hB; clear hB
  go_enter Try.func129, Try.ntmps129
  go_wp2
  refine bodyPost_ret (v := .agg #[.int .i64 n, .int .i64 s]) ?_ rfl ⟨rfl, HB.out _ _ _⟩
  rw [results_cell (p := 2) (ty := 36) (by kernel_rfl)]
  have hl := run_loadVar_row (P := Try.prog) (((w.alloc (.cells #[.int .i64 n, .int .i64 s] 147)).alloc (.cells #[.int .i64 n, .int .i64 s] 36)).alloc (.cells #[.int .i64 n, .int .i64 s] 36)) (w.heap.size + 1) 36 36 #[.int .i64 n, .int .i64 s] (0, 0) _ (heap_mid w _ _ _) Try.underlying36 rfl (by kernel_rfl)
  simp [asAddr, Result.andThen, hl]
theorem eqkey_any (p q : K2) (w : World) : Calls Try.prog 130 #[kv p, kv q] w fun e w' => e = .returned (.bool (p == q)) ∧ Below w.heap.size w w' := by
  obtain ⟨a, b⟩ := p; obtain ⟨c, d⟩ := q
  have hB : ∀ o o', Below w.heap.size w ((w.alloc o).alloc o') := fun o o' => ((Below.refl _ _).alloc (Nat.le_refl _) _).alloc (by simp) _
  have HB := Lib.hid hB; clear hB
  by_cases h1 : a = c
  · by_cases h2 : b = d
    · have he : ((a, b) == (c, d)) = true := by simp [h1, h2]
      rw [he]
      unfold kv
      dsimp only
      subst h1; subst h2
      go_enter Try.func130, Try.ntmps130
      go_wp2
      go_ret
      exact ⟨rfl, HB.out _ _⟩
    · have he : ((a, b) == (c, d)) = false := by simp [h1, h2]
      rw [he]
      unfold kv
      dsimp only
      subst h1
      go_enter Try.func130, Try.ntmps130
      go_wp2
      go_ret
      exact ⟨rfl, HB.out _ _⟩
  · have he : ((a, b) == (c, d)) = false := by simp [h1]
    rw [he]
    unfold kv
    dsimp only
    go_enter Try.func130, Try.ntmps130
    go_wp2
    go_ret
    exact ⟨rfl, HB.out _ _⟩
end Go.Proofs.Ytjggheoonjajpaa
namespace Go.Proofs.Ytjggheoonjajpaa
open Go.ChangeShapes Go.WideShapes Go.ChangeAt Go.RowKit Go.BigFrame
set_option linter.unusedVariables false

theorem szkeys_any (v : Value) (ks : List K2) (left : Int) (w : World) (h : ∃ a cap, v = .slice a ks.length cap) (hl : 0 ≤ left ∧ left ≤ 1000000000) (hs : ks.length ≤ 9223372036854775807) :
    Calls Try.prog 98 #[v, .int .i64 left] w fun e w' => e = .returned (.int .i64 (if left - (ks.length : Int) < 0 then -1 else left - (ks.length : Int))) ∧ w' = w := by
  obtain ⟨a, cap, rfl⟩ := h
  by_cases hn : left - (ks.length : Int) < 0
  · rw [if_pos hn]
    have ew : IntKind.i64.wrap (left - (ks.length : Int)) = left - (ks.length : Int) := IntWalk.i64_in _ (by omega)
    go_enter Try.func98, Try.ntmps98
    go_wp2
    go_ret
    exact ⟨rfl, rfl⟩
  · rw [if_neg hn]
    have ew : IntKind.i64.wrap (left - (ks.length : Int)) = left - (ks.length : Int) := IntWalk.i64_in _ (by omega)
    go_enter Try.func98, Try.ntmps98
    go_wp2
    go_ret
    exact ⟨rfl, rfl⟩
theorem set_key (ks : List K2) (k : Nat) (p q : Int) (u1 u2 : Value) (rest : List Value) (hk : k < ks.length) (hx : ks.getD k (0, 0) = (p, q)) :
    ((keyCells (ks.take k) ++ u1 :: u2 :: rest).set (k * 2) (.int .i64 p)).set (k * 2 + 1) (.int .i64 q) = keyCells (ks.take (k + 1)) ++ rest := by
  have hl := keyCells_len (ks.take k)
  have hl2 : (keyCells (ks.take k)).length = k * 2 := by rw [hl]; simp; omega
  rw [List.take_succ_eq_append_getElem hk, keyCells_snoc, show ks[k] = (p, q) by rw [← hx]; simp [List.getD, hk]]
  rw [List.set_append_right _ _ (by omega), hl2, Nat.sub_self, List.set_cons_zero, List.set_append_right _ _ (by omega), hl2, show k * 2 + 1 - k * 2 = 1 by omega]
  simp
set_option maxRecDepth 100000 in
set_option maxHeartbeats 1000000 in
theorem tokeys_any (v : Value) (ks : List K2) (w : World) (h : keysAt w v ks) (hs : ks.length ≤ 2000000) : Calls Try.prog 99 #[v] w fun e w' => ∃ g, e = .returned (.slice (some ⟨g, 0, none⟩) ks.length ks.length) ∧ w.heap.size ≤ g ∧
    w'.ownsRow w.heap.size 36 2 (.slice (some ⟨g, 0, none⟩) ks.length ks.length) ks.length (keyCells ks) ∧ Below w.heap.size w w' := by
  obtain ⟨a, cap, rfl, hcap, hcells⟩ := h
  obtain ⟨i0, hi, hz0, hz1, hz2⟩ := info_parts infoK
  obtain ⟨W, hmk, hown0, hgr0⟩ := run_make_full (P := Try.prog) w w.heap.size 40 36 i0 _ 2 Try.underlying40 hi hz0 hz1 .i64 .i64 ks.length (by rw [hz2]; omega) (by unfold maxLen; omega) (Nat.le_refl _)
  have hb0 : Below w.heap.size w W := (Below.refl _ _).grown hgr0 (Nat.le_refl _) (by simp)
  have hrest : (madeCells (Value.agg #[.int .i64 0, .int .i64 0]).cells (ks.length * 2)).toList.length = ks.length * 2 := hown0.1
  generalize (madeCells (Value.agg #[.int .i64 0, .int .i64 0]).cells (ks.length * 2)).toList = Z at *
  go_enter Try.func99, Try.ntmps99
  go_wp2
  clear hmk hgr0
  go_loopw [4] (fun i wr => ∃ (k : Nat) (rest : List Value), k ≤ ks.length ∧ i = .int .i64 k ∧ wr.ownsRow w.heap.size 36 2 (.slice (some ⟨w.heap.size, 0, none⟩) ks.length ks.length) ks.length (keyCells (ks.take k) ++ rest) ∧ Below w.heap.size w wr)
    (fun i _ => ks.length - (intOf i).toNat)
  case atStart => exact ⟨0, Z, Nat.zero_le _, rfl, by simpa [keyCells] using hown0, hb0⟩
  case round =>
    obtain ⟨k, rest, hk, rfl, hown, hbr⟩ := hrel
    clear hown0 hb0 hrest
    by_cases hlt : k < ks.length
    · obtain ⟨ga, off, rfl, hg, hcs⟩ := hcells.resolve_left (by omega)
      have hc := hcs k hlt
      have z0 : (0 : Int) ≤ (k : Int) := by omega
      have z1 : (k : Int) < (ks.length : Int) := by omega
      have d1 : wr.cell? ⟨ga, off + k * 2, none⟩ = some (.int .i64 (ks.getD k (0, 0)).1) := by rw [hbr.cell (p := ⟨ga, off + k * 2, none⟩) hg]; exact hc.1
      have d2 : wr.cell? ⟨ga, off + k * 2 + 1, none⟩ = some (.int .i64 (ks.getD k (0, 0)).2) := by rw [hbr.cell (p := ⟨ga, off + k * 2 + 1, none⟩) hg]; exact hc.2
      clear hcs hc hcells
      have hkt : (ks.take k).length = k := by simp; omega
      have hkl := keyCells_len (ks.take k)
      have hrl : rest.length = (ks.length - k) * 2 := by
        have := hown.1
        rw [List.length_append, hkl, hkt] at this
        omega
      obtain ⟨u1, u2, rest2, rfl⟩ : ∃ u1 u2 r, rest = u1 :: u2 :: r := by
        match rest, hrl with
        | [], h => simp at h; omega
        | [_], h => simp at h; omega
        | a :: b :: r, _ => exact ⟨a, b, r, rfl⟩
      generalize hkx : ks.getD k (0, 0) = kx at *
      obtain ⟨p, q⟩ := kx
      have hset := set_key ks k p q u1 u2 rest2 hlt hkx
      have HSET := Lib.hid hset
      have HT := Lib.hid (tokey_any (p, q) wr)
      clear hkx hset hrl
      go_wp2_with fail
      refine HT.out.mono ?_
      rintro e w2 ⟨rfl, hb2⟩
      have hown2 := own_below hown hb2
      have hbq := hbr.trans (hb2.mono hbr.size)
      clear hown hbr hb2 HT d1 d2
      have st1 := hown2.stored (k * 2) (.int .i64 p)
      have st2 := st1.1.stored (k * 2 + 1) (.int .i64 q)
      rw [HSET.out] at st2
      have hbz := (hbq.setCell (p := ⟨w.heap.size, k * 2, none⟩) (Nat.le_refl _) (.int .i64 p)).setCell (p := ⟨w.heap.size, k * 2 + 1, none⟩) (Nat.le_refl _) (.int .i64 q)
      have R := Lib.hid (And.intro st2.1 hbz)
      clear st1 st2 hbz hbq HSET
      obtain ⟨s1, s2⟩ := own_cell hown2 (k * 2) (by omega)
      obtain ⟨s3, s4⟩ := own_cell hown2 (k * 2 + 1) (by omega)
      unfold kv
      dsimp only
      go_wp2
      exact ⟨⟨k + 1, rest2, by omega, by go_num, R.out.1, R.out.2⟩, by simp [intOf]; omega⟩
    · obtain rfl : k = ks.length := by omega
      rw [List.take_length] at hown
      have hr0 : rest = [] := by
        have h1 := hown.1
        rw [List.length_append, keyCells_len] at h1
        exact List.eq_nil_of_length_eq_zero (by omega)
      subst hr0
      rw [List.append_nil] at hown
      go_wp2
      go_ret
      exact ⟨w.heap.size, rfl, Nat.le_refl _, hown, hbr⟩
end Go.Proofs.Ytjggheoonjajpaa
namespace Go.Proofs.Ytjggheoonjajpaa
open Go.ChangeShapes Go.WideShapes Go.ChangeAt Go.RowKit Go.BigFrame
set_option linter.unusedVariables false
set_option maxRecDepth 100000 in
set_option maxHeartbeats 1000000 in
theorem eqkeys_any (va vb : Value) (A B : List K2) (w : World) (ha : keysAt w va A) (hb : keysAt w vb B) (hsA : A.length ≤ 4000000) (hsB : B.length ≤ 4000000) :
    Calls Try.prog 100 #[va, vb] w fun e w' => e = .returned (.bool (decide (A = B))) ∧ Below w.heap.size w w' := by
  obtain ⟨aa, ca, rfl, hca, hcA⟩ := ha
  obtain ⟨ab, cb, rfl, hcb, hcB⟩ := hb
  by_cases hl : A.length = B.length
  · have e0 : (A.length : Int) = (B.length : Int) := by omega
    go_enter Try.func100, Try.ntmps100
    rw [hl] at hca hcA ⊢
    go_wp2
    go_loopw [5] (fun i wr => ∃ k : Nat, k ≤ B.length ∧ i = .int .i64 k ∧ (∀ j, j < k → A.getD j (0, 0) = B.getD j (0, 0)) ∧ Below w.heap.size w wr) (fun i _ => B.length - (intOf i).toNat)
    case atStart => exact ⟨0, Nat.zero_le _, rfl, fun j hj => by omega, Below.refl _ _⟩
    case round =>
      obtain ⟨k, hk, rfl, hall, hbr⟩ := hrel
      by_cases hlt : k < B.length
      · obtain ⟨ga, offa, rfl, hga, hcsA⟩ := hcA.resolve_left (by omega)
        obtain ⟨gb, offb, rfl, hgb, hcsB⟩ := hcB.resolve_left (by omega)
        have cA := hcsA k hlt
        have cB := hcsB k hlt
        have z0 : (0 : Int) ≤ (k : Int) := by omega
        have z1 : (k : Int) < (B.length : Int) := by omega
        clear hcsA hcsB hcA hcB
        have L1 : ∀ w', Below w.heap.size w w' → (loadVar 36 ⟨ga, offa + k * 2, none⟩).run Try.prog w' = .ok (kv (A.getD k (0, 0))) w' := fun w' h => key_load cA hga h
        have L2 : ∀ w', Below w.heap.size w w' → (loadVar 36 ⟨gb, offb + k * 2, none⟩).run Try.prog w' = .ok (kv (B.getD k (0, 0))) w' := fun w' h => key_load cB hgb h
        have HE := Lib.hid (fun w => eqkey_any (A.getD k (0, 0)) (B.getD k (0, 0)) w)
        clear cA cB
        cases he : (A.getD k (0, 0) == B.getD k (0, 0)) with
        | true =>
          have hn : ∀ j, j < k + 1 → A.getD j (0, 0) = B.getD j (0, 0) := by
            intro j hj
            rcases (by omega : j < k ∨ j = k) with h1 | rfl
            · exact hall j h1
            · exact eq_of_beq he
          have HN := Lib.hid hn
          rw [he] at HE
          clear hall hn
          generalize A.getD k (0, 0) = kx at *
          generalize B.getD k (0, 0) = ky at *
          go_wp2
          refine wp_region_below w (by kernel_rfl) (by kernel_rfl) hbr ?_
          repeat (first
            | go_big_quiet_skip
            | (go_big_quiet_want
               first
                 | (go_big_quiet_op; go_big_quiet_on)
                 | (refine q_load 36 _ _ _ rfl rfl L1 ?_; simp only [Act.put, List.setIfInBounds_toArray, List.set_cons_zero, List.set_cons_succ]; go_big_quiet_on)
                 | (refine q_load 36 _ _ _ rfl rfl L2 ?_; simp only [Act.put, List.setIfInBounds_toArray, List.set_cons_zero, List.set_cons_succ]; go_big_quiet_on)
                 | (go_big_quiet_op; refine ⟨_, fun _ _ => rfl, ?_⟩; go_big_quiet_on)
                 | (go_big_quiet_op; apply Exists.intro; refine ⟨fun w' hw' => ?_, ?_⟩
                    · first
                      | (refine (HE.out w').mono ?_
                         rintro e w2 ⟨rfl, hb2⟩
                         exact ⟨rfl, hw'.trans (hb2.mono hw'.size)⟩)
                    go_big_quiet_on)))
          refine wpQuiet_nil ?_
          intro w2 hb2
          clear L1 L2 HE hbr
          go_wp2
          exact ⟨⟨k + 1, by omega, by go_num, HN.out, hb2⟩, by simp [intOf]; omega⟩
        | false =>
          have hne : decide (A = B) = false := by
            simp only [decide_eq_false_iff_not]
            intro e
            subst e
            simp at he
          have HD := Lib.hid hne
          rw [he] at HE
          clear hall hne
          generalize A.getD k (0, 0) = kx at *
          generalize B.getD k (0, 0) = ky at *
          go_wp2
          refine wp_region_below w (by kernel_rfl) (by kernel_rfl) hbr ?_
          repeat (first
            | go_big_quiet_skip
            | (go_big_quiet_want
               first
                 | (go_big_quiet_op; go_big_quiet_on)
                 | (refine q_load 36 _ _ _ rfl rfl L1 ?_; simp only [Act.put, List.setIfInBounds_toArray, List.set_cons_zero, List.set_cons_succ]; go_big_quiet_on)
                 | (refine q_load 36 _ _ _ rfl rfl L2 ?_; simp only [Act.put, List.setIfInBounds_toArray, List.set_cons_zero, List.set_cons_succ]; go_big_quiet_on)
                 | (go_big_quiet_op; refine ⟨_, fun _ _ => rfl, ?_⟩; go_big_quiet_on)
                 | (go_big_quiet_op; apply Exists.intro; refine ⟨fun w' hw' => ?_, ?_⟩
                    · first
                      | (refine (HE.out w').mono ?_
                         rintro e w2 ⟨rfl, hb2⟩
                         exact ⟨rfl, hw'.trans (hb2.mono hw'.size)⟩)
                    go_big_quiet_on)))
          refine wpQuiet_nil ?_
          intro w2 hb2
          clear L1 L2 HE hbr
          go_wp2
          go_ret
          exact ⟨by rw [HD.out]; rfl, hb2⟩
      · obtain rfl : k = B.length := by omega
        have he : decide (A = B) = true := by
          simp only [decide_eq_true_eq]
          apply List.ext_getElem hl
          intro i h1 h2
          have := hall i h2
          simpa [List.getD, h1, h2] using this
        have HD := Lib.hid he
        clear hall he
        go_wp2
        go_ret
        exact ⟨by rw [HD.out]; rfl, hbr⟩
  · have hne : decide (A = B) = false := by simp only [decide_eq_false_iff_not]; intro e; subst e; exact hl rfl
    have HD := Lib.hid hne
    have e0 : ¬ (A.length : Int) = (B.length : Int) := by omega
    clear hne
    go_enter Try.func100, Try.ntmps100
    go_wp2
    go_ret
    exact ⟨by rw [HD.out]; rfl, Below.refl _ _⟩
end Go.Proofs.Ytjggheoonjajpaa
namespace Go.Proofs.Ytjggheoonjajpaa
open Go.ChangeShapes Go.WideShapes Go.ChangeAt Go.RowKit Go.BigFrame
set_option linter.unusedVariables false

theorem two_boxes (w : World) (va : Value) (ya : ByteArray) (vb : Value) (yb : ByteArray) :
    Below w.heap.size w ((w.alloc (.cells #[va, .string ya] 42)).alloc (.cells #[vb, .string yb] 42)) ∧
    ((w.alloc (.cells #[va, .string ya] 42)).alloc (.cells #[vb, .string yb] 42)).heap[w.heap.size]? = some (.cells #[va, .string ya] 42) ∧
    ((w.alloc (.cells #[va, .string ya] 42)).alloc (.cells #[vb, .string yb] 42)).heap[w.heap.size + 1]? = some (.cells #[vb, .string yb] 42) := by
  have hb1 := (Below.refl w.heap.size w).alloc (Nat.le_refl _) (.cells #[va, .string ya] 42)
  have e1 : (w.alloc (.cells #[va, .string ya] 42)).heap.size = w.heap.size + 1 := by simp
  have r2 := heap_alloc_new (w.alloc (.cells #[va, .string ya] 42)) (.cells #[vb, .string yb] 42)
  rw [e1] at r2
  exact ⟨hb1.alloc hb1.size _, (Below.heap_alloc _ _ w.heap.size (by simp)).trans (heap_alloc_new w _), r2⟩
theorem str_eq (a b : ByteArray) : (a.toList == b.toList) = decide (a = b) := by
  rw [Bool.eq_iff_iff, decide_eq_true_eq, beq_iff_eq, bytes_toList_iff]
set_option maxRecDepth 100000 in
set_option maxHeartbeats 1000000 in
theorem eqcode_any (va : Value) (A : List K2) (ya : ByteArray) (vb : Value) (B : List K2) (yb : ByteArray) (w : World) (ha : keysAt w va A) (hb : keysAt w vb B) (hsA : A.length ≤ 4000000) (hsB : B.length ≤ 4000000) :
    Calls Try.prog 40 #[.agg #[va, .string ya], .agg #[vb, .string yb]] w fun e w' => e = .returned (.bool (decide (A = B) && decide (ya = yb))) ∧ Below w.heap.size w w' := by
  obtain ⟨t1, t2, t3⟩ := two_boxes w va ya vb yb
  have HB := Lib.hid t1; have HX := Lib.hid t2; have HY := Lib.hid t3
  have EQ := Lib.hid (fun w' (h : Below w.heap.size w w') => eqkeys_any va vb A B w' (keysAt_below ha h) (keysAt_below hb h) hsA hsB)
  obtain ⟨x0, x1, -, -⟩ := row2_of t2
  obtain ⟨y0, y1, -, -⟩ := row2_of t3
  have hne := str_eq ya yb
  clear t1 t2 t3 ha hb
  generalize decide (A = B) = p at *
  generalize decide (ya = yb) = q at *
  go_enter Try.func40, Try.ntmps40
  go_wp2_with fail
  generalize (w.alloc (.cells #[va, .string ya] 42)).alloc (.cells #[vb, .string yb] 42) = W at *
  refine (EQ.out _ HB.out).mono ?_
  rintro e w1 ⟨rfl, hb1⟩
  have HB1 := Lib.hid (HB.out.trans (hb1.mono HB.out.size))
  obtain ⟨c0, c1⟩ := cd_cells HX.out hb1
  obtain ⟨d0, d1⟩ := cd_cells HY.out hb1
  clear hb1 x0 x1 y0 y1 HB HX HY EQ
  cases p with
  | false =>
    go_wp2
    go_ret
    exact ⟨rfl, HB1.out⟩
  | true =>
    cases q with
    | false =>
      go_wp2
      go_ret
      exact ⟨rfl, HB1.out⟩
    | true =>
      go_wp2
      go_ret
      exact ⟨rfl, HB1.out⟩
end Go.Proofs.Ytjggheoonjajpaa
namespace Go.Proofs.Ytjggheoonjajpaa
open Go.ChangeShapes Go.WideShapes Go.ChangeAt Go.RowKit Go.BigFrame
set_option linter.unusedVariables false

def szC (left : Int) (n m : Nat) : Int := if left - (n : Int) < 0 then -1 else if left - (n : Int) - (m : Int) < 0 then -1 else left - (n : Int) - (m : Int)
set_option maxRecDepth 100000 in
set_option maxHeartbeats 1000000 in
theorem szcode_any (v : Value) (ks : List K2) (y : ByteArray) (left : Int) (w : World) (h : ∃ a cap, v = .slice a ks.length cap) (hl : 0 ≤ left ∧ left ≤ 1000000000) (hs : ks.length ≤ 9223372036854775807) (hy : y.size ≤ 9223372036854775807) :
    Calls Try.prog 38 #[.agg #[v, .string y], .int .i64 left] w fun e w' => e = .returned (.int .i64 (szC left ks.length y.size)) ∧ Below w.heap.size w w' := by
  have hb := (Below.refl w.heap.size w).alloc (Nat.le_refl _) (.cells #[v, .string y] 71)
  have SZ := Lib.hid (fun w' => szkeys_any v ks left w' h hl hs)
  obtain ⟨x0, x1, -, -⟩ := row2_of (heap_alloc_new w (.cells #[v, .string y] 71))
  have HB := Lib.hid hb
  clear hb h
  unfold szC
  go_enter Try.func38, Try.ntmps38
  go_wp2_with fail
  generalize w.alloc (.cells #[v, .string y] 71) = W at *
  refine (SZ.out _).mono ?_
  rintro e w1 ⟨rfl, rfl⟩
  clear SZ
  by_cases h1 : left - (ks.length : Int) < 0
  · rw [if_pos h1]
    go_wp2
    go_ret
    exact ⟨rfl, HB.out⟩
  · rw [if_neg h1]
    have ew : IntKind.i64.wrap (left - (ks.length : Int) - (y.size : Int)) = left - (ks.length : Int) - (y.size : Int) := IntWalk.i64_in _ (by omega)
    by_cases h2 : left - (ks.length : Int) - (y.size : Int) < 0
    · go_wp2
      go_ret
      exact ⟨rfl, HB.out⟩
    · go_wp2
      go_ret
      exact ⟨rfl, HB.out⟩
theorem three_boxes (w : World) (v : Value) (y : ByteArray) :
    Below w.heap.size w (((w.alloc (.cells #[v, .string y] 71)).alloc (.cells #[.slice none 0 0, .string ⟨#[]⟩] 42)).alloc (.cells #[.slice none 0 0, .string ⟨#[]⟩] 42)) ∧
    (((w.alloc (.cells #[v, .string y] 71)).alloc (.cells #[.slice none 0 0, .string ⟨#[]⟩] 42)).alloc (.cells #[.slice none 0 0, .string ⟨#[]⟩] 42)).heap[w.heap.size]? = some (.cells #[v, .string y] 71) ∧
    (((w.alloc (.cells #[v, .string y] 71)).alloc (.cells #[.slice none 0 0, .string ⟨#[]⟩] 42)).alloc (.cells #[.slice none 0 0, .string ⟨#[]⟩] 42)).heap[w.heap.size + 1]? = some (.cells #[.slice none 0 0, .string ⟨#[]⟩] 42) ∧
    (((w.alloc (.cells #[v, .string y] 71)).alloc (.cells #[.slice none 0 0, .string ⟨#[]⟩] 42)).alloc (.cells #[.slice none 0 0, .string ⟨#[]⟩] 42)).heap[w.heap.size + 2]? = some (.cells #[.slice none 0 0, .string ⟨#[]⟩] 42) ∧
    (((w.alloc (.cells #[v, .string y] 71)).alloc (.cells #[.slice none 0 0, .string ⟨#[]⟩] 42)).alloc (.cells #[.slice none 0 0, .string ⟨#[]⟩] 42)).heap.size = w.heap.size + 3 := by
  have hb1 := (Below.refl w.heap.size w).alloc (Nat.le_refl _) (.cells #[v, .string y] 71)
  have hb2 := hb1.alloc hb1.size (.cells #[.slice none 0 0, .string ⟨#[]⟩] 42)
  have e1 : (w.alloc (.cells #[v, .string y] 71)).heap.size = w.heap.size + 1 := by simp
  have e2 : ((w.alloc (.cells #[v, .string y] 71)).alloc (.cells #[.slice none 0 0, .string ⟨#[]⟩] 42)).heap.size = w.heap.size + 2 := by simp
  have r2 := heap_alloc_new (w.alloc (.cells #[v, .string y] 71)) (.cells #[.slice none 0 0, .string ⟨#[]⟩] 42)
  rw [e1] at r2
  have r3 := heap_alloc_new ((w.alloc (.cells #[v, .string y] 71)).alloc (.cells #[.slice none 0 0, .string ⟨#[]⟩] 42)) (.cells #[.slice none 0 0, .string ⟨#[]⟩] 42)
  rw [e2] at r3
  exact ⟨hb2.alloc hb2.size _, (Below.heap_alloc _ _ w.heap.size (by simp; omega)).trans ((Below.heap_alloc _ _ w.heap.size (by simp)).trans (heap_alloc_new w _)), (Below.heap_alloc _ _ (w.heap.size + 1) (by simp)).trans r2, r3, by simp⟩
set_option maxRecDepth 100000 in
set_option maxHeartbeats 1000000 in
theorem tocode_any (v : Value) (ks : List K2) (y : ByteArray) (w : World) (h : keysAt w v ks) (hs : ks.length ≤ 2000000) :
    Calls Try.prog 39 #[.agg #[v, .string y]] w fun e w' => ∃ v', e = .returned (.agg #[v', .string y]) ∧ w'.ownsRow w.heap.size 36 2 v' ks.length (keyCells ks) ∧ Below w.heap.size w w' := by
  obtain ⟨t1, t2, t3, t4, t5⟩ := three_boxes w v y
  have HB := Lib.hid t1; have HX := Lib.hid t2; have HR := Lib.hid t3; have HT := Lib.hid t4; have HS := Lib.hid t5
  have TK := Lib.hid (tokeys_any v ks (((w.alloc (.cells #[v, .string y] 71)).alloc (.cells #[.slice none 0 0, .string ⟨#[]⟩] 42)).alloc (.cells #[.slice none 0 0, .string ⟨#[]⟩] 42)) (keysAt_below h t1) hs)
  obtain ⟨x0, x1, -, -⟩ := row2_of t2
  clear t1 t2 t3 t4 t5 h
  go_enter Try.func39, Try.ntmps39
  go_wp2_with fail
  generalize ((w.alloc (.cells #[v, .string y] 71)).alloc (.cells #[.slice none 0 0, .string ⟨#[]⟩] 42)).alloc (.cells #[.slice none 0 0, .string ⟨#[]⟩] 42) = W at *
  refine TK.out.mono ?_
  rintro e w1 ⟨g, rfl, hg, ho1, hb1⟩
  have hB1 := HB.out.trans (hb1.mono HB.out.size)
  have hx1 := (hb1.block _ (Array.getElem?_eq_some_iff.1 HX.out).1).trans HX.out
  have hr1 := (hb1.block _ (Array.getElem?_eq_some_iff.1 HR.out).1).trans HR.out
  have ht1 := (hb1.block _ (Array.getElem?_eq_some_iff.1 HT.out).1).trans HT.out
  have hs := HS.out
  rw [hs] at ho1
  obtain ⟨p0, p1, -, -⟩ := row2_of hx1
  obtain ⟨q0, q1, g0, g1⟩ := row2_of ht1
  obtain ⟨c0, c1, f0, f1⟩ := row2_of hr1
  have hltx := (Array.getElem?_eq_some_iff.1 hx1).1
  have hltr := (Array.getElem?_eq_some_iff.1 hr1).1
  have hltt := (Array.getElem?_eq_some_iff.1 ht1).1
  -- the new word's own box, set
  have ht2 := set2 (.slice (some ⟨g, 0, none⟩) ks.length ks.length) (.string y) ht1
  have hr2 : ((w1.setCell ⟨w.heap.size + 2, 0, none⟩ (.slice (some ⟨g, 0, none⟩) ks.length ks.length)).setCell ⟨w.heap.size + 2, 1, none⟩ (.string y)).heap[w.heap.size + 1]? = some (.cells #[.slice none 0 0, .string ⟨#[]⟩] 42) := by
    rw [Below.heap_setCell _ _ _ _ (by simp), Below.heap_setCell _ _ _ _ (by simp)]
    exact hr1
  have ho2 := own_set2 ho1 (by omega : w.heap.size + 2 < w.heap.size + 3) (.slice (some ⟨g, 0, none⟩) ks.length ks.length) (.string y)
  have hB2 := below2 hB1 (by omega : w.heap.size ≤ w.heap.size + 2) (.slice (some ⟨g, 0, none⟩) ks.length ks.length) (.string y)
  have HT2 := Lib.hid ht2; have HR2 := Lib.hid hr2
  have L2 := Lib.hid (cd_res hr2 (.slice (some ⟨g, 0, none⟩) ks.length ks.length) y)
  have HF := Lib.hid (And.intro (own_base (own_set2 ho2 (by omega : w.heap.size + 1 < w.heap.size + 3) (.slice (some ⟨g, 0, none⟩) ks.length ks.length) (.string y)) (by omega : w.heap.size ≤ w.heap.size + 3)) (below2 hB2 (by omega : w.heap.size ≤ w.heap.size + 1) (.slice (some ⟨g, 0, none⟩) ks.length ks.length) (.string y)))
  clear ho1 ho2 hb1 hB1 hB2 hx1 hr1 ht1 ht2 hr2 HB HX HR HT HS TK x0 x1 hs
  go_wp2_with fail
  refine bodyPost_ret (v := .agg #[.slice (some ⟨g, 0, none⟩) ks.length ks.length, .string y]) ?_ rfl ⟨_, rfl, HF.out.1, HF.out.2⟩
  rw [results_cell (p := 2) (ty := 42) (by kernel_rfl)]
  have l2 := L2.out
  simp [asAddr, Result.andThen, l2]
end Go.Proofs.Ytjggheoonjajpaa
namespace Go.Proofs.Ytjggheoonjajpaa
open Go.ChangeShapes Go.WideShapes Go.ChangeAt Go.RowKit Go.BigFrame
set_option linter.unusedVariables false

def szS : List C2 → Int → Int
  | [], l => l
  | x :: L, l => if szC l x.1.length x.2.size < 0 then -1 else szS L (szC l x.1.length x.2.size)
def szL (L : List C2) (left : Int) : Int := if left - (L.length : Int) < 0 then -1 else szS L (left - (L.length : Int))
theorem szC_le {l : Int} {n m : Nat} (h : 0 ≤ szC l n m) : szC l n m ≤ l ∧ (n : Int) ≤ l ∧ (m : Int) ≤ l := by
  unfold szC at *
  by_cases h1 : l - (n : Int) < 0
  · rw [if_pos h1] at h; omega
  · rw [if_neg h1] at h ⊢
    by_cases h2 : l - (n : Int) - (m : Int) < 0
    · rw [if_pos h2] at h; omega
    · rw [if_neg h2]; omega
theorem szS_ok : ∀ (L : List C2) (l : Int), 0 ≤ szS L l → ∀ x ∈ L, (x.1.length : Int) ≤ l ∧ (x.2.size : Int) ≤ l
  | [], l, _, x, hx => by cases hx
  | y :: L, l, h, x, hx => by
    unfold szS at h
    by_cases h1 : szC l y.1.length y.2.size < 0
    · rw [if_pos h1] at h; omega
    · rw [if_neg h1] at h
      have h2 := szC_le (l := l) (n := y.1.length) (m := y.2.size) (by omega)
      rcases List.mem_cons.1 hx with rfl | hx
      · exact h2.2
      · have := szS_ok L _ h x hx
        omega
theorem szL_ok {L : List C2} {l : Int} (h : 0 ≤ szL L l) : (L.length : Int) ≤ l ∧ ∀ x ∈ L, (x.1.length : Int) ≤ l ∧ (x.2.size : Int) ≤ l := by
  unfold szL at h
  by_cases h1 : l - (L.length : Int) < 0
  · rw [if_pos h1] at h; omega
  · rw [if_neg h1] at h
    refine ⟨by omega, fun x hx => ?_⟩
    have := szS_ok L _ h x hx
    omega
theorem drop_get (L : List C2) (k : Nat) (hk : k < L.length) : L.drop k = L.getD k blankC :: L.drop (k + 1) := by
  rw [List.drop_eq_getElem_cons hk]
  simp [List.getD, hk]
set_option maxRecDepth 100000 in
set_option maxHeartbeats 1000000 in
theorem szcodes_any (v : Value) (L : List C2) (left : Int) (w : World) (h : cdAv w none v L) (hL : L.length ≤ maxLen) (hx : ∀ x ∈ L, x.1.length ≤ maxLen ∧ x.2.size ≤ maxLen) (hl : 0 ≤ left ∧ left ≤ 1000000000) :
    Calls Try.prog 84 #[v, .int .i64 left] w fun e w' => ∃ z, e = .returned (.int .i64 z) ∧ z = szL L left ∧ Below w.heap.size w w' := by
  obtain ⟨al, cl, rfl, hcl, hcells⟩ := h
  have hLm : (L.length : Int) ≤ 9223372036854775807 := by unfold maxLen at hL; omega
  have ew : IntKind.i64.wrap (left - (L.length : Int)) = left - (L.length : Int) := IntWalk.i64_in _ (by omega)
  unfold szL
  go_enter Try.func84, Try.ntmps84
  by_cases h0 : left - (L.length : Int) < 0
  · rw [if_pos h0]
    go_wp2
    go_ret
    exact ⟨_, rfl, rfl, Below.refl _ _⟩
  · rw [if_neg h0]
    go_wp2_with fail
    go_loopw [1, 5] (fun l i wr => ∃ (k : Nat) (m : Int), k ≤ L.length ∧ i = .int .i64 k ∧ l = .int .i64 m ∧ 0 ≤ m ∧ m ≤ 1000000000 ∧ szS (L.drop k) m = szS L (left - (L.length : Int)) ∧ Below w.heap.size w wr) (fun _ i _ => L.length - (intOf i).toNat)
    case atStart => exact ⟨0, _, Nat.zero_le _, rfl, rfl, by omega, by omega, rfl, Below.refl _ _⟩
    case round =>
      obtain ⟨k, m, hk, rfl, rfl, hm0, hm1, hsz, hb⟩ := hrel
      rename_i wr
      by_cases hlt : k < L.length
      · obtain ⟨g, off, rfl, hg, hcs⟩ := hcells.resolve_left (by omega)
        have z0 : (0 : Int) ≤ (k : Int) := by omega
        have z1 : (k : Int) < (L.length : Int) := by omega
        obtain ⟨u, c1, c2, c3⟩ := hcs k hlt
        have hxk := hx (L.getD k blankC) (by rw [List.getD, List.getElem?_eq_getElem hlt]; exact List.getElem_mem hlt)
        rw [drop_get L k hlt] at hsz
        generalize L.getD k blankC = x at *
        have d1 := (hb.cell (p := ⟨g, off + k * 2, none⟩) hg).trans c1
        have d2 := (hb.cell (p := ⟨g, off + k * 2 + 1, none⟩) hg).trans c2
        obtain ⟨au, cu, rfl, -, -⟩ := c3
        have HS := Lib.hid (fun w' => szcode_any (.slice au x.1.length cu) x.1 x.2 m w' ⟨_, _, rfl⟩ ⟨hm0, hm1⟩ (by unfold maxLen at hxk; omega) (by unfold maxLen at hxk; omega))
        have HB := Lib.hid hb
        have HZ := Lib.hid hsz
        have hle := fun h => szC_le (l := m) (n := x.1.length) (m := x.2.size) h
        have HLE := Lib.hid hle
        clear hcells hcs c1 c2 hx hxk hb hsz hle
        have hsz2 : szS (x :: L.drop (k + 1)) m = if szC m x.1.length x.2.size < 0 then -1 else szS (L.drop (k + 1)) (szC m x.1.length x.2.size) := rfl
        have HZ2 := Lib.hid hsz2
        clear hsz2
        generalize szC m x.1.length x.2.size = r at *
        by_cases hr : r < 0
        · go_wp2_with fail
          refine (HS.out _).mono ?_
          rintro e w2 ⟨rfl, hb2⟩
          have HB2 := Lib.hid (HB.out.trans (hb2.mono HB.out.size))
          clear hb2 HS HB
          go_wp2
          go_ret
          exact ⟨_, rfl, by rw [← HZ.out, HZ2.out, if_pos (by omega)], HB2.out⟩
        · have hr2 := HLE.out (by omega)
          go_wp2_with fail
          refine (HS.out _).mono ?_
          rintro e w2 ⟨rfl, hb2⟩
          have HB2 := Lib.hid (HB.out.trans (hb2.mono HB.out.size))
          clear hb2 HS HB
          go_wp2
          exact ⟨⟨k + 1, r, by omega, by go_num, rfl, by omega, by omega, by rw [← HZ.out, HZ2.out, if_neg (by omega)], HB2.out⟩, by simp [intOf]; omega⟩
      · obtain rfl : k = L.length := by omega
        rw [List.drop_length] at hsz
        have HZ := Lib.hid hsz
        clear hsz hcells hx
        go_wp2
        go_ret
        exact ⟨_, rfl, by rw [← HZ.out]; rfl, hb⟩
theorem cd_load_at {w w' : World} {g o : Nat} {u : Value} {y : ByteArray} (c1 : w.cell? ⟨g, o, none⟩ = some u) (c2 : w.cell? ⟨g, o + 1, none⟩ = some (.string y)) (hb : Below w.heap.size w w') :
    (loadVar 42 ⟨g, o, none⟩).run Try.prog w' = .ok (.agg #[u, .string y]) w' := by
  refine run_loadVar_mid w' g o 42 [u, .string y] _ (fun j v hj => ?_) Try.underlying42 rfl (by kernel_rfl)
  have hg := World.block_lt_of_cell? _ _ c1
  have hj2 : j < 2 := by have := (List.getElem?_eq_some_iff.1 hj).1; simpa using this
  rcases (by omega : j = 0 ∨ j = 1) with rfl | rfl
  · rw [hb.cell (p := ⟨g, o + 0, none⟩) hg]
    simpa using c1.trans (by simpa using hj)
  · rw [hb.cell (p := ⟨g, o + 1, none⟩) hg]
    simpa using c2.trans (by simpa using hj)
theorem take_get_eq (A B : List C2) (k : Nat) (hA : k < A.length) (hB : k < B.length) : (A.take (k + 1) = B.take (k + 1)) ↔ A.take k = B.take k ∧ A.getD k blankC = B.getD k blankC := by
  rw [List.take_succ_eq_append_getElem hA, List.take_succ_eq_append_getElem hB]
  have e1 : A.getD k blankC = A[k] := by simp [List.getD, hA]
  have e2 : B.getD k blankC = B[k] := by simp [List.getD, hB]
  rw [e1, e2]
  constructor
  · intro h
    have := List.append_inj h (by simp; omega)
    exact ⟨this.1, by simpa using this.2⟩
  · rintro ⟨h1, h2⟩; rw [h1, h2]
set_option maxRecDepth 100000 in
set_option maxHeartbeats 1000000 in
theorem eqcodes_any (va vb : Value) (A B : List C2) (w : World) (ha : cdAv w none va A) (hb : cdAv w none vb B) (hA : A.length ≤ 4000000) (hB : B.length ≤ 4000000) (hxA : ∀ x ∈ A, x.1.length ≤ 4000000) (hxB : ∀ x ∈ B, x.1.length ≤ 4000000) :
    Calls Try.prog 90 #[va, vb] w fun e w' => e = .returned (.bool (decide (A = B))) ∧ Below w.heap.size w w' := by
  obtain ⟨aa, ca, rfl, hca, hcellsA⟩ := ha
  obtain ⟨ab, cb, rfl, hcb, hcellsB⟩ := hb
  go_enter Try.func90, Try.ntmps90
  by_cases hl : A.length = B.length
  · have i0 : (A.length : Int) = (B.length : Int) := by omega
    go_wp2_with fail
    go_loopw [5] (fun i wr => ∃ k : Nat, k ≤ A.length ∧ i = .int .i64 k ∧ A.take k = B.take k ∧ Below w.heap.size w wr) (fun i _ => A.length - (intOf i).toNat)
    case atStart => exact ⟨0, Nat.zero_le _, rfl, rfl, Below.refl _ _⟩
    case round =>
      obtain ⟨k, hk, rfl, htk, hb⟩ := hrel
      rename_i wr
      by_cases hlt : k < A.length
      · obtain ⟨ga, oa, rfl, hga, hcsA⟩ := hcellsA.resolve_left (by omega)
        obtain ⟨gb, ob, rfl, hgb, hcsB⟩ := hcellsB.resolve_left (by omega)
        have z0 : (0 : Int) ≤ (k : Int) := by omega
        have z1 : (k : Int) < (A.length : Int) := by omega
        have z2 : (k : Int) < (B.length : Int) := by omega
        obtain ⟨u, c1, c2, c3⟩ := hcsA k hlt
        obtain ⟨v, e1, e2, e3⟩ := hcsB k (by omega)
        have hxa := hxA (A.getD k blankC) (by rw [List.getD, List.getElem?_eq_getElem hlt]; exact List.getElem_mem hlt)
        have hxb := hxB (B.getD k blankC) (by rw [List.getD, List.getElem?_eq_getElem (show k < B.length by omega)]; exact List.getElem_mem _)
        have hst := take_get_eq A B k hlt (by omega)
        generalize A.getD k blankC = x at *
        generalize B.getD k blankC = y at *
        have L1 := fun w' (hw : Below wr.heap.size wr w') => cd_load_at ((hb.cell (p := ⟨ga, oa + k * 2, none⟩) hga).trans c1) ((hb.cell (p := ⟨ga, oa + k * 2 + 1, none⟩) hga).trans c2) hw
        have L2 := fun w' (hw : Below wr.heap.size wr w') => cd_load_at ((hb.cell (p := ⟨gb, ob + k * 2, none⟩) hgb).trans e1) ((hb.cell (p := ⟨gb, ob + k * 2 + 1, none⟩) hgb).trans e2) hw
        have HK := Lib.hid (fun w' (hw : Below wr.heap.size wr w') => eqcode_any u x.1 x.2 v y.1 y.2 w' (keysAt_below (keysAt_below c3.to hb) hw) (keysAt_below (keysAt_below e3.to hb) hw) hxa hxb)
        have hdec : (decide (x.1 = y.1) && decide (x.2 = y.2)) = decide (x = y) := by
          rw [Bool.eq_iff_iff]; simp [Prod.ext_iff]
        rw [hdec] at HK
        have HB := Lib.hid hb
        have HT := Lib.hid htk
        have HST := Lib.hid hst
        clear hcellsA hcellsB hcsA hcsB c1 c2 c3 e1 e2 e3 hxA hxB hxa hxb hb htk hst hdec
        generalize hq : decide (x = y) = q at *
        go_wp2_with fail
        refine wp_region_below wr (by kernel_rfl) (by kernel_rfl) (Below.refl _ _) ?_
        repeat (first
          | go_big_quiet_skip
          | (go_big_quiet_want
             first
               | (go_big_quiet_op; go_big_quiet_on)
               | (refine q_load 42 _ _ _ rfl rfl L1 ?_; simp only [Act.put, List.setIfInBounds_toArray, List.set_cons_zero, List.set_cons_succ]; go_big_quiet_on)
               | (refine q_load 42 _ _ _ rfl rfl L2 ?_; simp only [Act.put, List.setIfInBounds_toArray, List.set_cons_zero, List.set_cons_succ]; go_big_quiet_on)
               | (go_big_quiet_op; refine ⟨_, fun _ _ => rfl, ?_⟩; go_big_quiet_on)
               | (go_big_quiet_op; apply Exists.intro; refine ⟨fun w' hw' => ?_, ?_⟩
                  · first
                    | (with_reducible refine (HK.out w' hw').mono ?_
                       rintro e w2 ⟨rfl, hb2⟩
                       exact ⟨rfl, hw'.trans (hb2.mono hw'.size)⟩)
                  go_big_quiet_on)))
        refine wpQuiet_nil ?_
        intro w2 hb2
        have HB2 := Lib.hid (HB.out.trans (hb2.mono HB.out.size))
        clear L1 L2 HK hb2 HB
        cases q with
        | true =>
          have hxy := of_decide_eq_true hq
          go_wp2_with fail
          exact ⟨⟨k + 1, by omega, by go_num, HST.out.2 ⟨HT.out, hxy⟩, HB2.out⟩, by simp [intOf]; omega⟩
        | false =>
          have hxy := of_decide_eq_false hq
          have hne : A ≠ B := fun e => hxy (HST.out.1 (by rw [e])).2
          have HN := Lib.hid (decide_eq_false hne)
          clear hxy hne hq
          go_wp2_with fail
          go_ret
          exact ⟨by rw [HN.out]; rfl, HB2.out⟩
      · obtain rfl : k = A.length := by omega
        rw [List.take_length, hl, List.take_length] at htk
        have HN := Lib.hid (decide_eq_true htk)
        clear htk hcellsA hcellsB hxA hxB hl
        go_wp2_with fail
        go_ret
        exact ⟨by rw [HN.out]; rfl, hb⟩
  · have i0 : ¬ (A.length : Int) = (B.length : Int) := by omega
    have hne : A ≠ B := fun e => hl (by rw [e])
    have HN := Lib.hid (decide_eq_false hne)
    clear hne hl hcellsA hcellsB
    go_wp2_with fail
    go_ret
    exact ⟨by rw [HN.out]; rfl, Below.refl _ _⟩
end Go.Proofs.Ytjggheoonjajpaa
namespace Go.Proofs.Ytjggheoonjajpaa
open Go.ChangeShapes Go.WideShapes Go.ChangeAt Go.RowKit Go.BigFrame
set_option linter.unusedVariables false

/-- a list of words made anew, each with keys of its own -/
structure TcO (w W : World) (g : Nat) (us : List Value) (L : List C2) : Prop where
  below : Below w.heap.size w W
  ge : w.heap.size ≤ g
  len : us.length = L.length
  own : W.ownsRow w.heap.size 42 2 (.slice (some ⟨g, 0, none⟩) L.length L.length) L.length (cdCells us L)
  keys : ∀ i, i < L.length → W.ownsRow (g + 1) 36 2 (us.getD i undef) (L.getD i blankC).1.length (keyCells (L.getD i blankC).1)
  dist : ∀ i j, i < j → j < L.length → ∀ b, (us.getD j undef).ownBlock = some b → (us.getD i undef).ownBlock ≠ some b
theorem TcO.next {w W W' : World} {g : Nat} {us : List Value} {L : List C2} (h : TcO w W g us L) (hb : Below W.heap.size W W') : TcO w W' g us L :=
  ⟨h.below.trans (hb.mono h.below.size), h.ge, h.len, own_below h.own hb, fun i hi => own_below (h.keys i hi) hb, h.dist⟩
theorem TcO.cd {w W : World} {g : Nat} {us : List Value} {L : List C2} (h : TcO w W g us L) : cdOwn W w.heap.size (.slice (some ⟨g, 0, none⟩) L.length L.length) us L :=
  ⟨h.len, h.own, fun i hi => keysAv_own (h.keys i hi) (Nat.lt_succ_self g)⟩
theorem TcO.at {w W : World} {g : Nat} {us : List Value} {L : List C2} (h : TcO w W g us L) : cdAv W none (.slice (some ⟨g, 0, none⟩) L.length L.length) L := cdAv_any h.cd.to
/-- a list on its way -/
structure TcW (w W : World) (n : Nat) (us : List Value) (L : List C2) (rest : List Value) : Prop where
  below : Below w.heap.size w W
  len : us.length = L.length
  own : W.ownsRow w.heap.size 42 2 (.slice (some ⟨w.heap.size, 0, none⟩) n n) n (cdCells us L ++ rest)
  keys : ∀ i, i < L.length → W.ownsRow (w.heap.size + 1) 36 2 (us.getD i undef) (L.getD i blankC).1.length (keyCells (L.getD i blankC).1)
  dist : ∀ i j, i < j → j < L.length → ∀ b, (us.getD j undef).ownBlock = some b → (us.getD i undef).ownBlock ≠ some b
theorem TcW.next {w W W' : World} {n : Nat} {us : List Value} {L : List C2} {rest : List Value} (h : TcW w W n us L rest) (hb : Below W.heap.size W W') : TcW w W' n us L rest :=
  ⟨h.below.trans (hb.mono h.below.size), h.len, own_below h.own hb, fun i hi => own_below (h.keys i hi) hb, h.dist⟩
theorem TcW.set {w W W1 : World} {n : Nat} {us : List Value} {L : List C2} {p q : Value} {rest : List Value} (h : TcW w W n us L (p :: q :: rest)) (hb : Below W.heap.size W W1) {u : Value} (x : C2) (hg : w.heap.size < W.heap.size)
    (hu : W1.ownsRow W.heap.size 36 2 u x.1.length (keyCells x.1)) :
    TcW w ((W1.setCell ⟨w.heap.size, L.length * 2, none⟩ u).setCell ⟨w.heap.size, L.length * 2 + 1, none⟩ (.string x.2)) n (us ++ [u]) (L ++ [x]) rest := by
  have h1 := h.next hb
  have hl := cdCells_len us L h.len
  have st1 := h1.own.stored (L.length * 2) u
  have st2 := st1.1.stored (L.length * 2 + 1) (.string x.2)
  have hset : ((cdCells us L ++ p :: q :: rest).set (L.length * 2) u).set (L.length * 2 + 1) (.string x.2) = cdCells (us ++ [u]) (L ++ [x]) ++ rest := by
    rw [List.set_append_right _ _ (by omega), hl, Nat.sub_self, List.set_cons_zero, List.set_append_right _ _ (by omega), hl, show L.length * 2 + 1 - L.length * 2 = 1 by omega, List.set_cons_succ, List.set_cons_zero, cdCells_app _ _ _ _ h.len]
    simp [cdCells]
  rw [hset] at st2
  have hgr : W1.grownBy ((W1.setCell ⟨w.heap.size, L.length * 2, none⟩ u).setCell ⟨w.heap.size, L.length * 2 + 1, none⟩ (.string x.2)) (some w.heap.size) := grown_trans (Lib.grownBy_setCell W1 w.heap.size (L.length * 2) u) (Lib.grownBy_setCell _ w.heap.size (L.length * 2 + 1) (.string x.2))
  have hkeep : ∀ (base : Nat) (v : Value) (ks : List K2), w.heap.size < base → W1.ownsRow base 36 2 v ks.length (keyCells ks) → ((W1.setCell ⟨w.heap.size, L.length * 2, none⟩ u).setCell ⟨w.heap.size, L.length * 2 + 1, none⟩ (.string x.2)).ownsRow base 36 2 v ks.length (keyCells ks) :=
    fun base v ks hbs ho => ho.kept hgr (.inr fun e => by have := (ho.lt _ e).1; omega)
  have hgu : ∀ i, i < L.length → (us ++ [u]).getD i undef = us.getD i undef := fun i hi => by simp only [List.getD]; rw [List.getElem?_append_left (by rw [h.len]; exact hi)]
  have hgL : ∀ i, i < L.length → (L ++ [x]).getD i blankC = L.getD i blankC := fun i hi => by simp only [List.getD]; rw [List.getElem?_append_left hi]
  have hgue : (us ++ [u]).getD L.length undef = u := by rw [← h.len]; simp [List.getD]
  have hgLe : (L ++ [x]).getD L.length blankC = x := by simp [List.getD]
  refine ⟨(h1.below.setCell (p := ⟨w.heap.size, L.length * 2, none⟩) (Nat.le_refl _) u).setCell (p := ⟨w.heap.size, L.length * 2 + 1, none⟩) (Nat.le_refl _) _, by simp [h.len], st2.1, fun i hi => ?_, fun i j hij hj b hbj => ?_⟩
  · rw [List.length_append, List.length_singleton] at hi
    rcases (by omega : i < L.length ∨ i = L.length) with hi | rfl
    · rw [hgu i hi, hgL i hi]; exact hkeep _ _ _ (by omega) (h1.keys i hi)
    · rw [hgue, hgLe]; exact hkeep _ _ _ (by omega) (own_base hu (by omega))
  · rw [List.length_append, List.length_singleton] at hj
    rcases (by omega : j < L.length ∨ j = L.length) with hj | rfl
    · rw [hgu j hj] at hbj
      rw [hgu i (by omega)]
      exact h.dist i j hij hj b hbj
    · rw [hgue] at hbj
      rw [hgu i hij]
      intro e
      have e1 := (hu.lt b hbj).1
      have e2 := ((h.keys i hij).lt b e).2
      omega
set_option maxRecDepth 100000 in
set_option maxHeartbeats 1000000 in
theorem tocodes_any (v : Value) (L : List C2) (w : World) (h : cdAv w none v L) (hL : L.length ≤ 1900000) (hx : ∀ x ∈ L, x.1.length ≤ 1900000) :
    Calls Try.prog 87 #[v] w fun e w' => ∃ g us, e = .returned (.slice (some ⟨g, 0, none⟩) L.length L.length) ∧ TcO w w' g us L := by
  obtain ⟨al, cl, rfl, hcl, hcells⟩ := h
  obtain ⟨i0, hi, hz0, hz1, hz2⟩ := info_parts infoC
  obtain ⟨W, hmk, hown0, hgr0⟩ := run_make_full (P := Try.prog) w w.heap.size 25 42 i0 _ 2 Try.underlying25 hi hz0 hz1 .i64 .i64 L.length (by rw [hz2]; omega) (by unfold maxLen; omega) (Nat.le_refl _)
  have hb0 : Below w.heap.size w W := (Below.refl _ _).grown hgr0 (Nat.le_refl _) (by simp)
  have hrest : (madeCells (Value.agg #[.slice none 0 0, .string ⟨#[]⟩]).cells (L.length * 2)).toList.length = L.length * 2 := hown0.1
  generalize (madeCells (Value.agg #[.slice none 0 0, .string ⟨#[]⟩]).cells (L.length * 2)).toList = Z at *
  have hW := (hown0.lt w.heap.size rfl).2
  have H0 := Lib.hid (show TcW w W L.length [] [] Z from ⟨hb0, rfl, hown0, fun i hi => by simp at hi, fun i j _ hj => by simp at hj⟩)
  go_enter Try.func87, Try.ntmps87
  go_wp2
  clear hmk hgr0 hown0 hb0
  go_loopw [4] (fun i wr => ∃ (k : Nat) (us : List Value) (rest : List Value), k ≤ L.length ∧ i = .int .i64 k ∧ rest.length = (L.length - k) * 2 ∧ w.heap.size < wr.heap.size ∧ TcW w wr L.length us (L.take k) rest)
    (fun i _ => L.length - (intOf i).toNat)
  case atStart => exact ⟨0, [], Z, Nat.zero_le _, rfl, by omega, hW, H0.out⟩
  case round =>
    obtain ⟨k, us, rest, hk, rfl, hrl, hwl, hT⟩ := hrel
    have HT := Lib.hid hT
    clear hT H0 hrest hW
    rename_i wr
    by_cases hlt : k < L.length
    · obtain ⟨ga, off, rfl, hg, hcs⟩ := hcells.resolve_left (by omega)
      have z0 : (0 : Int) ≤ (k : Int) := by omega
      have z1 : (k : Int) < (L.length : Int) := by omega
      obtain ⟨u, c1, c2, c3⟩ := hcs k hlt
      have hxk := hx (L.getD k blankC) (by rw [List.getD, List.getElem?_eq_getElem hlt]; exact List.getElem_mem hlt)
      have htk : L.take (k + 1) = L.take k ++ [L.getD k blankC] := by rw [List.take_succ_eq_append_getElem hlt]; simp [List.getD, hlt]
      have hkl : (L.take k).length = k := by rw [List.length_take]; omega
      generalize L.getD k blankC = x at *
      have hB := HT.out.below
      have d1 := (hB.cell (p := ⟨ga, off + k * 2, none⟩) hg).trans c1
      have d2 := (hB.cell (p := ⟨ga, off + k * 2 + 1, none⟩) hg).trans c2
      have HK := Lib.hid (tocode_any u x.1 x.2 wr (keysAt_below c3.to hB) (by omega))
      obtain ⟨au, cu, rfl, -, -⟩ := c3
      obtain ⟨p, q, rest2, rfl⟩ : ∃ p q r, rest = p :: q :: r := by
        match rest, hrl with
        | [], h => simp at h; omega
        | [_], h => simp at h; omega
        | a :: b :: r, _ => exact ⟨a, b, r, rfl⟩
      have HTK := Lib.hid htk
      clear hcells hcs c1 c2 hx hB htk
      go_wp2_with fail
      refine HK.out.mono ?_
      rintro e w2 ⟨v2, rfl, ho2, hb2⟩
      obtain ⟨a2, n2, c2, rfl⟩ := own_shape ho2
      have hset := HT.out.set hb2 x hwl ho2
      rw [hkl] at hset
      have HS := Lib.hid hset
      have hT2 := HT.out.next hb2
      have hol := cdCells_len us (L.take k) HT.out.len
      rw [hkl] at hol
      obtain ⟨s1, s2⟩ := own_cell hT2.own (k * 2) (by omega)
      obtain ⟨s3, s4⟩ := own_cell hT2.own (k * 2 + 1) (by omega)
      have hsz := hb2.size
      clear hset hT2 hb2 ho2 HK HT d1 d2 hol
      go_wp2_with fail
      exact ⟨⟨k + 1, us ++ [.slice a2 n2 c2], rest2, by omega, by go_num, by simp at hrl; omega, by simp; omega, by rw [HTK.out]; exact HS.out⟩, by simp [intOf]; omega⟩
    · obtain rfl : k = L.length := by omega
      have hr0 : rest = [] := List.eq_nil_of_length_eq_zero (by omega)
      subst hr0
      clear hcells hx
      have h1 := HT.out.own
      rw [List.take_length, List.append_nil] at h1
      have hl := HT.out.len
      have hkk := HT.out.keys
      have hdd := HT.out.dist
      rw [List.take_length] at hl hkk hdd
      have HF := Lib.hid (show TcO w _ w.heap.size us L from ⟨HT.out.below, Nat.le_refl _, hl, h1, hkk, hdd⟩)
      clear h1 hl hkk hdd HT
      go_wp2_with fail
      go_ret
      exact ⟨w.heap.size, us, rfl, HF.out⟩
end Go.Proofs.Ytjggheoonjajpaa
namespace Go.Proofs.Ytjggheoonjajpaa
open Go.ChangeShapes Go.WideShapes Go.ChangeAt Go.RowKit Go.BigFrame
set_option linter.unusedVariables false
set_option linter.unusedSimpArgs false

/-- the marks that a list of words takes -/
def szK : List C2 → Int
  | [] => 0
  | x :: L => 2 * (x.1.length : Int) + 1 + szK L
theorem szS_sum : ∀ (L : List C2) (l : Int), 0 ≤ szS L l → szK L ≤ 2 * l + (L.length : Int)
  | [], l, h => by unfold szS at h; unfold szK; simp; omega
  | x :: L, l, h => by
    unfold szS at h
    by_cases h1 : szC l x.1.length x.2.size < 0
    · rw [if_pos h1] at h; omega
    · rw [if_neg h1] at h
      have h2 := szS_sum L _ h
      have h3 : szC l x.1.length x.2.size = l - (x.1.length : Int) - (x.2.size : Int) := by
        unfold szC at h1 ⊢
        by_cases h4 : l - (x.1.length : Int) < 0
        · rw [if_pos h4] at h1; omega
        · rw [if_neg h4] at h1 ⊢
          by_cases h5 : l - (x.1.length : Int) - (x.2.size : Int) < 0
          · rw [if_pos h5] at h1; omega
          · rw [if_neg h5]
      rw [h3] at h2
      unfold szK
      simp only [List.length_cons]
      omega
theorem szL_sum {L : List C2} {l : Int} (h : 0 ≤ szL L l) : szK L ≤ 2 * l := by
  unfold szL at h
  by_cases h1 : l - (L.length : Int) < 0
  · rw [if_pos h1] at h; omega
  · rw [if_neg h1] at h
    have := szS_sum L _ h
    omega
end Go.Proofs.Ytjggheoonjajpaa
namespace Go.Proofs.Ytjggheoonjajpaa
open Go.ChangeShapes Go.WideShapes Go.ChangeAt Go.RowKit Go.BigFrame
set_option linter.unusedVariables false
set_option linter.unusedSimpArgs false

theorem szS_le : ∀ (L : List C2) (l : Int), 0 ≤ szS L l → szS L l ≤ l
  | [], l, _ => Int.le_refl _
  | x :: L, l, h => by
    unfold szS at h ⊢
    by_cases h1 : szC l x.1.length x.2.size < 0
    · rw [if_pos h1] at h; omega
    · rw [if_neg h1] at h ⊢
      have h2 := szC_le (l := l) (n := x.1.length) (m := x.2.size) (by omega)
      have := szS_le L _ h
      omega
theorem szL_le {L : List C2} {l : Int} (h : 0 ≤ szL L l) : szL L l ≤ l := by
  unfold szL at h ⊢
  by_cases h1 : l - (L.length : Int) < 0
  · rw [if_pos h1] at h; omega
  · rw [if_neg h1] at h ⊢
    have := szS_le L _ h
    omega
end Go.Proofs.Ytjggheoonjajpaa
namespace Go.Proofs.Ytjggheoonjajpaa
open Go.ChangeShapes Go.WideShapes Go.ChangeAt Go.RowKit Go.BigFrame
set_option linter.unusedVariables false

theorem szreading_any (r : R3) (left : Int) (w : World) (hl : 0 ≤ left ∧ left ≤ 1000000000) (hx : r.2.size ≤ 9223372036854775807) :
    Calls Try.prog 124 #[rv r, .int .i64 left] w fun e w' => e = .returned (.int .i64 (if left - (r.2.size : Int) < 0 then -1 else left - (r.2.size : Int))) ∧ Below w.heap.size w w' := by
  obtain ⟨⟨n, s⟩, x⟩ := r
  unfold rv
  dsimp only at *
  have hb : Below w.heap.size w (w.alloc (.cells #[.int .i64 n, .int .i64 s, .string x] 149)) := (Below.refl _ _).alloc (Nat.le_refl _) _
  have HB := Lib.hid hb; clear hb
  have ew : IntKind.i64.wrap (left - (x.size : Int)) = left - (x.size : Int) := IntWalk.i64_in _ (by omega)
  have ew2 : wrap64 (left - (x.size : Int)) = left - (x.size : Int) := IntWalk.wrap64_in _ (by omega)
  by_cases hn : left - (x.size : Int) < 0
  · rw [if_pos hn]
    go_enter Try.func124, Try.ntmps124
    go_wp2
    go_ret
    exact ⟨rfl, HB.out⟩
  · rw [if_neg hn]
    go_enter Try.func124, Try.ntmps124
    go_wp2
    go_ret
    exact ⟨rfl, HB.out⟩
set_option maxRecDepth 100000 in
set_option maxHeartbeats 1000000 in
theorem szreadings_any (v : Value) (rs : List R3) (left : Int) (w : World) (h : rdAt w v rs) (hl : 0 ≤ left ∧ left ≤ 1000000000) (hs : rs.length ≤ 9223372036854775807) (hx : ∀ j, j < rs.length → (rs.getD j r0).2.size ≤ 9223372036854775807) :
    Calls Try.prog 83 #[v, .int .i64 left] w fun e w' => ∃ r : Int, e = .returned (.int .i64 r) ∧ (r = -1 ∨ (0 ≤ r ∧ r ≤ left - (rs.length : Int) ∧ ∀ j, j < rs.length → ((rs.getD j r0).2.size : Int) ≤ left)) ∧ Below w.heap.size w w' := by
  obtain ⟨a, cap, rfl, hcap, hcells⟩ := h
  have ew : IntKind.i64.wrap (left - (rs.length : Int)) = left - (rs.length : Int) := IntWalk.i64_in _ (by omega)
  have ew2 : wrap64 (left - (rs.length : Int)) = left - (rs.length : Int) := IntWalk.wrap64_in _ (by omega)
  by_cases hn : left - (rs.length : Int) < 0
  · go_enter Try.func83, Try.ntmps83
    go_wp2
    go_ret
    exact ⟨-1, rfl, .inl rfl, Below.refl _ _⟩
  · go_enter Try.func83, Try.ntmps83
    go_wp2
    clear ew ew2
    go_loopw [1, 5] (fun c i wr => ∃ (k : Nat) (l : Int), k ≤ rs.length ∧ i = .int .i64 k ∧ c = .int .i64 l ∧ 0 ≤ l ∧ l ≤ left - (rs.length : Int) ∧ (∀ j, j < k → ((rs.getD j r0).2.size : Int) ≤ left) ∧ Below w.heap.size w wr) (fun _ i _ => rs.length - (intOf i).toNat)
    case atStart => exact ⟨0, _, Nat.zero_le _, rfl, rfl, by omega, Int.le_refl _, fun j hj => by omega, Below.refl _ _⟩
    case round =>
      obtain ⟨k, l, hk, rfl, rfl, hl0, hl1, hall, hb⟩ := hrel
      by_cases hlt : k < rs.length
      · obtain ⟨g, off, rfl, hg, hcs⟩ := hcells.resolve_left (by omega)
        have z0 : (0 : Int) ≤ (k : Int) := by omega
        have z1 : (k : Int) < (rs.length : Int) := by omega
        have hc := hcs k hlt
        have hxk := hx k hlt
        have d1 : wr.cell? ⟨g, off + k * 3, none⟩ = some (.int .i64 (rs.getD k r0).1.1) := by rw [hb.cell (p := ⟨g, off + k * 3, none⟩) hg]; exact hc.1
        have d2 : wr.cell? ⟨g, off + k * 3 + 1, none⟩ = some (.int .i64 (rs.getD k r0).1.2) := by rw [hb.cell (p := ⟨g, off + k * 3 + 1, none⟩) hg]; exact hc.2.1
        have d3 : wr.cell? ⟨g, off + k * 3 + 2, none⟩ = some (.string (rs.getD k r0).2) := by rw [hb.cell (p := ⟨g, off + k * 3 + 2, none⟩) hg]; exact hc.2.2
        have hn2 : ((rs.getD k r0).2.size : Int) ≤ l → ∀ j, j < k + 1 → ((rs.getD j r0).2.size : Int) ≤ left := by
          intro hh j hj
          rcases (by omega : j < k ∨ j = k) with h1 | rfl
          · exact hall j h1
          · omega
        have HN := Lib.hid hn2
        have HX := Lib.hid hx
        clear hcs hc hcells hall hn2 hx
        have HZ := Lib.hid (szreading_any (rs.getD k r0) l wr ⟨hl0, by omega⟩ hxk)
        generalize rs.getD k r0 = kx at *
        obtain ⟨⟨p, q⟩, y⟩ := kx
        dsimp only at *
        go_wp2_with fail
        refine HZ.out.mono ?_
        try dsimp only
        rintro e w2 ⟨rfl, hb2⟩
        have hB := hb.trans (hb2.mono hb.size)
        clear HZ d1 d2 d3 hb hb2
        by_cases hneg : l - (y.size : Int) < 0
        · rw [if_pos hneg]
          go_wp2
          go_ret
          exact ⟨-1, rfl, .inl rfl, hB⟩
        · rw [if_neg hneg]
          have hN := Lib.hid (HN.out (by omega))
          clear HN
          generalize hl2 : l - (y.size : Int) = l2 at *
          have hl3 : 0 ≤ l2 ∧ l2 ≤ left - (rs.length : Int) := by omega
          go_wp2
          exact ⟨⟨k + 1, l2, by omega, by go_num, rfl, hl3.1, hl3.2, hN.out, hB⟩, by simp [intOf]; omega⟩
      · obtain rfl : k = rs.length := by omega
        have HA := Lib.hid hall
        clear hall hcells hx
        go_wp2
        go_ret
        exact ⟨l, rfl, .inr ⟨hl0, hl1, HA.out⟩, hb⟩
end Go.Proofs.Ytjggheoonjajpaa
namespace Go.Proofs.Ytjggheoonjajpaa
open Go.ChangeShapes Go.WideShapes Go.ChangeAt Go.RowKit Go.Deep
set_option linter.unusedVariables false

theorem keys_cells {H : Type} {enc : TypeId × Value → H} {W : World} {base : Nat} {sp : Nat → Bool} {held : Bool} {n : Nat} {cs : List Value} {y : DataW H × List MemPlace}
    (h : DataW.trod enc Try.prog W base sp held n 69 cs = some y) : ∃ (v : Value) (ks : List K2), cs = [v] ∧ keysAt W v ks ∧ ks.length ≤ maxLen := by
  rcases open_slice_pairs Try.underlying69 Try.underlying147 (by kernel_rfl) rfl rfl (by kernel_rfl) (by kernel_rfl) h with ⟨hcs, -⟩ | ⟨x, len, cap, m, n, V0, V1, D0, D1, P0, P1, hcs, -, hl, hm, hmm, -, hx⟩
  · exact ⟨_, [], hcs, ⟨none, 0, rfl, by simp, .inl rfl⟩, by simp⟩
  · have hmc : len ≤ m := by
      rw [hmm]
      split <;> omega
    have hev : ∀ i, i < len → ∃ k : K2, W.cell? (x.add (i * 2)) = some (.int .i64 k.1) ∧ W.cell? (x.add (i * 2 + 1)) = some (.int .i64 k.2) := by
      intro i hi
      obtain ⟨h0, h1, t0, t1⟩ := hx i (by omega)
      obtain ⟨z0, e0, -, -⟩ := DataW.trod_int Try.underlying3 t0
      obtain ⟨z1, e1, -, -⟩ := DataW.trod_int Try.underlying3 t1
      have e0 : V0 i = .int .i64 z0 := (List.cons.inj e0).1
      have e1 : V1 i = .int .i64 z1 := (List.cons.inj e1).1
      exact ⟨(z0, z1), by rw [h0, e0], by rw [h1, e1]⟩
    obtain ⟨f, hf2⟩ := choose_lt hev
    refine ⟨_, (List.range len).map f, hcs, ⟨some x, cap, by simp, by simpa using hl, ?_⟩, by simp; omega⟩
    simp only [List.length_map, List.length_range]
    rcases Nat.eq_zero_or_pos len with h0 | h0
    · exact .inl h0
    · obtain ⟨b, off, spot⟩ := x
      have hc := (hf2 0 h0).1
      have hs : spot = none := by simpa [Addr.add] using World.cell?_spot hc
      subst hs
      have hadd : ∀ j, (⟨b, off, none⟩ : Addr).add j = ⟨b, off + j, none⟩ := by
        intro j
        unfold Addr.add
        split
        · rename_i h; simp [h]
        · rfl
      refine .inr ⟨b, off, rfl, World.block_lt_of_cell? W ⟨b, off, none⟩ (by simpa [Addr.add] using hc), fun i hi => ?_⟩
      have e : ((List.range len).map f).getD i (0, 0) = f i := by simp [List.getD, hi]
      have := hf2 i hi
      rw [hadd, hadd] at this
      rw [e]
      exact this
set_option maxRecDepth 10000 in
theorem cd_cells_read {H : Type} {enc : TypeId × Value → H} {W : World} {base : Nat} {sp : Nat → Bool} {held : Bool} {n : Nat} {cs : List Value} {x : DataW H × List MemPlace} (hl : cs.length = 2)
    (h : DataW.trod enc Try.prog W base sp held n 71 cs = some x) : ∃ (v : Value) (ks : List K2) (y : ByteArray), cs = [v, .string y] ∧ keysAt W v ks ∧ ks.length ≤ maxLen ∧ y.size ≤ maxLen := by
  have c0 : Try.prog.cellsOf 69 = 1 := by kernel_rfl
  have c1 : Try.prog.cellsOf 9 = 1 := by kernel_rfl
  match cs, hl with
  | [a, b], _ =>
    obtain ⟨xs, k, hk, hxy, _, hxl, hf⟩ := DataW.trod_struct Try.underlying71 h
    match xs, hxl with
    | [y0, y1], _ =>
      have g0 := hf 0 _ rfl
      have g1 := hf 1 _ rfl
      simp [c0, c1] at g0 g1
      obtain ⟨v, ks, hv, hks, hkl⟩ := keys_cells g0
      obtain ⟨s, e2, -, hs⟩ := DataW.trod_string Try.underlying9 g1
      cases hv; cases e2
      exact ⟨_, ks, s, rfl, hks, hkl, hs⟩
end Go.Proofs.Ytjggheoonjajpaa
namespace Go.Proofs.Ytjggheoonjajpaa
open Go.ChangeShapes Go.WideShapes Go.ChangeAt Go.RowKit Go.Deep
set_option linter.unusedVariables false

set_option maxRecDepth 20000 in
theorem open_codes {H : Type} {enc : TypeId × Value → H} {W : World} {r : Reach} {b0 : Nat} {v : Value} {d : DataW H} {p : List MemPlace} (hv : Value.okWide Try.prog W r b0 60 v) (h : DataW.Trod enc Try.prog W 0 (fun _ => true) true 60 v d p) :
    ∃ L : List C2, cdAv W none v L ∧ L.length ≤ maxLen ∧ ∀ x ∈ L, x.1.length ≤ maxLen ∧ x.2.size ≤ maxLen := by
  have hC : Try.prog.cellsOf 71 = 2 := by kernel_rfl
  obtain ⟨a, len, cap, rfl⟩ := okWide_slice Try.underlying60 hv
  obtain ⟨fuel, hf⟩ := h
  rcases open_slice Try.underlying60 hf with ⟨hcs, -⟩ | ⟨x, l, c, m, n, D, Pl, hcs, -, hl, hm, hmm, -, hx⟩
  · simp [Value.cells] at hcs
    obtain ⟨rfl, rfl, rfl⟩ := hcs
    exact ⟨[], ⟨none, 0, rfl, by simp, .inl rfl⟩, by simp, fun x hx => by simp at hx⟩
  · simp [Value.cells] at hcs
    obtain ⟨rfl, rfl, rfl⟩ := hcs
    have hmc : len ≤ m := by rw [hmm]; simp; omega
    have hev : ∀ i, i < len → ∃ q : Value × C2, (W.cell? (x.add (i * 2)) = some q.1 ∧ W.cell? (x.add (i * 2 + 1)) = some (.string q.2.2) ∧ keysAt W q.1 q.2.1) ∧ q.2.1.length ≤ maxLen ∧ q.2.2.size ≤ maxLen := by
      intro i hi
      obtain ⟨cs', h1, h2⟩ := hx i (by omega)
      rw [hC] at h1
      obtain ⟨_, hlen, hcell⟩ := World.cells?_some h1
      obtain ⟨u, ks, y, rfl, hk, hl2, hs⟩ := cd_cells_read hlen h2
      have e0 := hcell 0 (by omega)
      have e1 := hcell 1 (by omega)
      rw [add_add] at e0 e1
      exact ⟨(u, (ks, y)), ⟨by simpa using e0, by simpa using e1, hk⟩, hl2, hs⟩
    obtain ⟨f, hf2⟩ := choose_lt hev
    have hfd : ∀ i, i < len → ((List.range len).map fun i => (f i).2).getD i blankC = (f i).2 := fun i hi => by simp [List.getD, hi]
    refine ⟨(List.range len).map fun i => (f i).2, ⟨some x, cap, by simp, by simpa using hl, ?_⟩, by simp; omega, fun y hy => ?_⟩
    · simp only [List.length_map, List.length_range]
      rcases Nat.eq_zero_or_pos len with h0 | h0
      · exact .inl h0
      · obtain ⟨b, off, spot⟩ := x
        have hc := (hf2 0 h0).1.1
        have hs : spot = none := by simpa [Addr.add] using World.cell?_spot hc
        subst hs
        have hadd : ∀ j, (⟨b, off, none⟩ : Addr).add j = ⟨b, off + j, none⟩ := by
          intro j
          unfold Addr.add
          split
          · rename_i h; simp [h]
          · rfl
        refine .inr ⟨b, off, rfl, World.block_lt_of_cell? W ⟨b, off, none⟩ (by simpa [Addr.add] using hc), fun i hi => ?_⟩
        have := (hf2 i hi).1
        rw [hadd, hadd] at this
        rw [hfd i hi]
        exact ⟨(f i).1, this.1, this.2.1, keysAv_of this.2.2 fun g _ e => by cases e⟩
    · obtain ⟨j, hj, rfl⟩ := List.mem_map.1 hy
      exact (hf2 j (List.mem_range.1 hj)).2
end Go.Proofs.Ytjggheoonjajpaa
namespace Go.Proofs.Ytjggheoonjajpaa
open Go.ChangeShapes Go.WideShapes Go.ChangeAt Go.RowKit Go.Deep
set_option linter.unusedVariables false

set_option maxRecDepth 20000 in
theorem rd_cells_read {H : Type} {enc : TypeId × Value → H} {W : World} {base : Nat} {sp : Nat → Bool} {held : Bool} {n : Nat} {cs : List Value} {x : DataW H × List MemPlace} (hl : cs.length = 3)
    (h : DataW.trod enc Try.prog W base sp held n 149 cs = some x) : ∃ r : R3, cs = [.int .i64 r.1.1, .int .i64 r.1.2, .string r.2] ∧ r.2.size ≤ maxLen := by
  have c0 : Try.prog.cellsOf 147 = 2 := by kernel_rfl
  have c1 : Try.prog.cellsOf 9 = 1 := by kernel_rfl
  have c2 : Try.prog.cellsOf 3 = 1 := by kernel_rfl
  match cs, hl with
  | [a, b, c], _ =>
    obtain ⟨xs, k, hk, hxy, _, hxl, hf⟩ := DataW.trod_struct Try.underlying149 h
    match xs, hxl with
    | [y0, y1], _ =>
      have g0 := hf 0 _ rfl
      have g1 := hf 1 _ rfl
      simp [c0, c1] at g0 g1
      obtain ⟨zs, k2, hk2, hzy, _, hzl, hg⟩ := DataW.trod_struct Try.underlying147 g0
      match zs, hzl with
      | [u0, u1], _ =>
        have i0 := hg 0 _ rfl
        have i1 := hg 1 _ rfl
        simp [c2] at i0 i1
        obtain ⟨z0, e0, -, -⟩ := DataW.trod_int Try.underlying3 i0
        obtain ⟨z1, e1, -, -⟩ := DataW.trod_int Try.underlying3 i1
        obtain ⟨s, e2, -, hs⟩ := DataW.trod_string Try.underlying9 g1
        cases e0; cases e1; cases e2
        exact ⟨((z0, z1), s), rfl, hs⟩
set_option maxRecDepth 20000 in
theorem open_reading {H : Type} {enc : TypeId × Value → H} {W : World} {r : Reach} {b0 : Nat} {v : Value} {d : DataW H} {p : List MemPlace} (hv : Value.okWide Try.prog W r b0 149 v) (h : DataW.Trod enc Try.prog W 0 (fun _ => true) true 149 v d p) : ∃ q : R3, v = rv q ∧ q.2.size ≤ maxLen := by
  obtain ⟨cs, rfl, hsz⟩ := okWide_struct Try.underlying149 hv
  have hC : Try.prog.cellsOf 149 = 3 := by kernel_rfl
  obtain ⟨fuel, hf⟩ := h
  obtain ⟨q, hq, hs⟩ := rd_cells_read (by simpa [Value.cells] using hsz.trans hC) hf
  refine ⟨q, ?_, hs⟩
  simp only [Value.cells] at hq
  unfold rv
  rw [← Array.toArray_toList (xs := cs), hq]
set_option maxRecDepth 20000 in
theorem open_readings {H : Type} {enc : TypeId × Value → H} {W : World} {r : Reach} {b0 : Nat} {v : Value} {d : DataW H} {p : List MemPlace} (hv : Value.okWide Try.prog W r b0 59 v) (h : DataW.Trod enc Try.prog W 0 (fun _ => true) true 59 v d p) :
    ∃ rs : List R3, rdAt W v rs ∧ rs.length ≤ maxLen ∧ ∀ j, j < rs.length → (rs.getD j r0).2.size ≤ maxLen := by
  have hC : Try.prog.cellsOf 149 = 3 := by kernel_rfl
  obtain ⟨a, len, cap, rfl⟩ := okWide_slice Try.underlying59 hv
  obtain ⟨fuel, hf⟩ := h
  rcases open_slice Try.underlying59 hf with ⟨hcs, -⟩ | ⟨x, l, c, m, n, D, Pl, hcs, -, hl, hm, hmm, -, hx⟩
  · simp [Value.cells] at hcs
    obtain ⟨rfl, rfl, rfl⟩ := hcs
    exact ⟨[], ⟨none, 0, rfl, by simp, .inl rfl⟩, by simp, fun j hj => by simp at hj⟩
  · simp [Value.cells] at hcs
    obtain ⟨rfl, rfl, rfl⟩ := hcs
    have hmc : len ≤ m := by rw [hmm]; simp; omega
    have hev : ∀ i, i < len → ∃ q : R3, (W.cell? (x.add (i * 3)) = some (.int .i64 q.1.1) ∧ W.cell? (x.add (i * 3 + 1)) = some (.int .i64 q.1.2) ∧ W.cell? (x.add (i * 3 + 2)) = some (.string q.2)) ∧ q.2.size ≤ maxLen := by
      intro i hi
      obtain ⟨cs', h1, h2⟩ := hx i (by omega)
      rw [hC] at h1
      obtain ⟨_, hlen, hcell⟩ := World.cells?_some h1
      obtain ⟨q, rfl, hs⟩ := rd_cells_read hlen h2
      have e0 := hcell 0 (by omega)
      have e1 := hcell 1 (by omega)
      have e2 := hcell 2 (by omega)
      rw [add_add] at e0 e1 e2
      exact ⟨q, ⟨by simpa using e0, by simpa using e1, by simpa using e2⟩, hs⟩
    obtain ⟨f, hf2⟩ := choose_lt hev
    have hfd : ∀ i, i < len → ((List.range len).map f).getD i r0 = f i := fun i hi => by simp [List.getD, hi]
    refine ⟨(List.range len).map f, ⟨some x, cap, by simp, by simpa using hl, ?_⟩, by simp; omega, fun j hj => ?_⟩
    · simp only [List.length_map, List.length_range]
      rcases Nat.eq_zero_or_pos len with h0 | h0
      · exact .inl h0
      · obtain ⟨b, off, spot⟩ := x
        have hc := (hf2 0 h0).1.1
        have hs : spot = none := by simpa [Addr.add] using World.cell?_spot hc
        subst hs
        have hadd : ∀ j, (⟨b, off, none⟩ : Addr).add j = ⟨b, off + j, none⟩ := by
          intro j
          unfold Addr.add
          split
          · rename_i h; simp [h]
          · rfl
        refine .inr ⟨b, off, rfl, World.block_lt_of_cell? W ⟨b, off, none⟩ (by simpa [Addr.add] using hc), fun i hi => ?_⟩
        have := (hf2 i hi).1
        rw [hadd, hadd, hadd] at this
        rw [hfd i hi]
        exact this
    · have hj2 : j < len := by simpa using hj
      rw [hfd j hj2]
      exact (hf2 j hj2).2
end Go.Proofs.Ytjggheoonjajpaa
namespace Go.Proofs.Ytjggheoonjajpaa
open Go.ChangeShapes Go.WideShapes Go.ChangeAt Go.RowKit Go.BigFrame
set_option linter.unusedVariables false

theorem tokey_exact (n s : Int) (w : World) : Calls Try.prog 129 #[.agg #[.int .i64 n, .int .i64 s]] w fun e w' => e = .returned (.agg #[.int .i64 n, .int .i64 s]) ∧
    w' = ((w.alloc (.cells #[.int .i64 n, .int .i64 s] 147)).alloc (.cells #[.int .i64 n, .int .i64 s] 36)).alloc (.cells #[.int .i64 n, .int .i64 s] 36) := by
  go_enter Try.func129, Try.ntmps129
  go_wp2
  refine bodyPost_ret (v := .agg #[.int .i64 n, .int .i64 s]) ?_ rfl ⟨rfl, rfl⟩
  rw [results_cell (p := 2) (ty := 36) (by kernel_rfl)]
  have hl := run_loadVar_row (P := Try.prog) (((w.alloc (.cells #[.int .i64 n, .int .i64 s] 147)).alloc (.cells #[.int .i64 n, .int .i64 s] 36)).alloc (.cells #[.int .i64 n, .int .i64 s] 36)) (w.heap.size + 1) 36 36 #[.int .i64 n, .int .i64 s] (0, 0) _ (heap_mid w _ _ _) Try.underlying36 rfl (by kernel_rfl)
  simp [asAddr, Result.andThen, hl]
theorem toreading_any (r : R3) (w : World) : Calls Try.prog 125 #[rv r] w fun e w' => e = .returned (rv r) ∧ Below w.heap.size w w' := by
  obtain ⟨⟨n, s⟩, x⟩ := r
  unfold rv
  dsimp only
  go_enter Try.func125, Try.ntmps125
  go_wp2_with fail
  refine (tokey_exact n s _).mono ?_
  rintro e w1 ⟨rfl, rfl⟩
  go_wp2_with fail
  have h0 := heap_mid w (.cells #[.int .i64 n, .int .i64 s, .string x] 149) (.cells #[.int .i64 n, .int .i64 s, .string x] 38) (.cells #[.int .i64 n, .int .i64 s, .string x] 38)
  have h1 := (Below.heap_alloc _ (.cells #[.int .i64 n, .int .i64 s] 147) _ (Array.getElem?_eq_some_iff.1 h0).1).trans h0
  have h2 := (Below.heap_alloc _ (.cells #[.int .i64 n, .int .i64 s] 36) _ (Array.getElem?_eq_some_iff.1 h1).1).trans h1
  have h3 := (Below.heap_alloc _ (.cells #[.int .i64 n, .int .i64 s] 36) _ (Array.getElem?_eq_some_iff.1 h2).1).trans h2
  have hB := (((((((Below.refl w.heap.size w).alloc (Nat.le_refl _) (.cells #[.int .i64 n, .int .i64 s, .string x] 149)).alloc (by simp) (.cells #[.int .i64 n, .int .i64 s, .string x] 38)).alloc (by simp; omega) (.cells #[.int .i64 n, .int .i64 s, .string x] 38)).alloc (by simp; omega) (.cells #[.int .i64 n, .int .i64 s] 147)).alloc (by simp; omega) (.cells #[.int .i64 n, .int .i64 s] 36)).alloc (by simp; omega) (.cells #[.int .i64 n, .int .i64 s] 36))
  refine bodyPost_ret (v := .agg #[.int .i64 n, .int .i64 s, .string x]) ?_ rfl ⟨rfl, hB⟩
  rw [results_cell (p := 2) (ty := 38) (by kernel_rfl)]
  have hl := run_loadVar_row (P := Try.prog) _ (w.heap.size + 1) 38 38 #[.int .i64 n, .int .i64 s, .string x] (0, 0) _ h3 Try.underlying38 rfl (by kernel_rfl)
  simp [asAddr, Result.andThen, hl]
theorem infoR : (Try.prog.info? 38).map (fun i => (i.zero, i.size, i.bytes)) = some (some (.agg #[.int .i64 0, .int .i64 0, .string ⟨#[]⟩]), 3, 32) := by kernel_rfl
theorem set_rd (ks : List R3) (k : Nat) (p q : Int) (y : ByteArray) (u1 u2 u3 : Value) (rest : List Value) (hk : k < ks.length) (hx : ks.getD k r0 = ((p, q), y)) :
    (((rdCells (ks.take k) ++ u1 :: u2 :: u3 :: rest).set (k * 3) (.int .i64 p)).set (k * 3 + 1) (.int .i64 q)).set (k * 3 + 2) (.string y) = rdCells (ks.take (k + 1)) ++ rest := by
  have hl := rdCells_len (ks.take k)
  have hl2 : (rdCells (ks.take k)).length = k * 3 := by rw [hl]; simp; omega
  rw [List.take_succ_eq_append_getElem hk, rdCells_snoc, show ks[k] = ((p, q), y) by rw [← hx]; simp [List.getD, hk]]
  rw [List.set_append_right _ _ (by omega), hl2, Nat.sub_self, List.set_cons_zero, List.set_append_right _ _ (by omega), hl2, show k * 3 + 1 - k * 3 = 1 by omega, List.set_append_right _ _ (by omega), hl2, show k * 3 + 2 - k * 3 = 2 by omega]
  simp
set_option maxRecDepth 100000 in
set_option maxHeartbeats 1000000 in
theorem toreadings_any (v : Value) (ks : List R3) (w : World) (h : rdAt w v ks) (hs : ks.length ≤ 2000000) : Calls Try.prog 86 #[v] w fun e w' => ∃ g, e = .returned (.slice (some ⟨g, 0, none⟩) ks.length ks.length) ∧ w.heap.size ≤ g ∧
    w'.ownsRow w.heap.size 38 3 (.slice (some ⟨g, 0, none⟩) ks.length ks.length) ks.length (rdCells ks) ∧ Below w.heap.size w w' := by
  obtain ⟨a, cap, rfl, hcap, hcells⟩ := h
  obtain ⟨i0, hi, hz0, hz1, hz2⟩ := info_parts infoR
  obtain ⟨W, hmk, hown0, hgr0⟩ := run_make_full (P := Try.prog) w w.heap.size 24 38 i0 _ 3 Try.underlying24 hi hz0 hz1 .i64 .i64 ks.length (by rw [hz2]; omega) (by unfold maxLen; omega) (Nat.le_refl _)
  have hb0 : Below w.heap.size w W := (Below.refl _ _).grown hgr0 (Nat.le_refl _) (by simp)
  have hrest : (madeCells (Value.agg #[.int .i64 0, .int .i64 0, .string ⟨#[]⟩]).cells (ks.length * 3)).toList.length = ks.length * 3 := hown0.1
  generalize (madeCells (Value.agg #[.int .i64 0, .int .i64 0, .string ⟨#[]⟩]).cells (ks.length * 3)).toList = Z at *
  go_enter Try.func86, Try.ntmps86
  go_wp2
  clear hmk hgr0
  go_loopw [4] (fun i wr => ∃ (k : Nat) (rest : List Value), k ≤ ks.length ∧ i = .int .i64 k ∧ wr.ownsRow w.heap.size 38 3 (.slice (some ⟨w.heap.size, 0, none⟩) ks.length ks.length) ks.length (rdCells (ks.take k) ++ rest) ∧ Below w.heap.size w wr)
    (fun i _ => ks.length - (intOf i).toNat)
  case atStart => exact ⟨0, Z, Nat.zero_le _, rfl, by simpa [rdCells] using hown0, hb0⟩
  case round =>
    obtain ⟨k, rest, hk, rfl, hown, hbr⟩ := hrel
    clear hown0 hb0 hrest
    by_cases hlt : k < ks.length
    · obtain ⟨ga, off, rfl, hg, hcs⟩ := hcells.resolve_left (by omega)
      have hc := hcs k hlt
      have z0 : (0 : Int) ≤ (k : Int) := by omega
      have z1 : (k : Int) < (ks.length : Int) := by omega
      have d1 : wr.cell? ⟨ga, off + k * 3, none⟩ = some (.int .i64 (ks.getD k r0).1.1) := by rw [hbr.cell (p := ⟨ga, off + k * 3, none⟩) hg]; exact hc.1
      have d2 : wr.cell? ⟨ga, off + k * 3 + 1, none⟩ = some (.int .i64 (ks.getD k r0).1.2) := by rw [hbr.cell (p := ⟨ga, off + k * 3 + 1, none⟩) hg]; exact hc.2.1
      have d3 : wr.cell? ⟨ga, off + k * 3 + 2, none⟩ = some (.string (ks.getD k r0).2) := by rw [hbr.cell (p := ⟨ga, off + k * 3 + 2, none⟩) hg]; exact hc.2.2
      clear hcs hc hcells
      have hkt : (ks.take k).length = k := by simp; omega
      have hkl := rdCells_len (ks.take k)
      have hrl : rest.length = (ks.length - k) * 3 := by
        have := hown.1
        rw [List.length_append, hkl, hkt] at this
        omega
      obtain ⟨u1, u2, u3, rest2, rfl⟩ : ∃ u1 u2 u3 r, rest = u1 :: u2 :: u3 :: r := by
        match rest, hrl with
        | [], h => simp at h; omega
        | [_], h => simp at h; omega
        | [_, _], h => simp at h; omega
        | a :: b :: c :: r, _ => exact ⟨a, b, c, r, rfl⟩
      generalize hkx : ks.getD k r0 = kx at *
      obtain ⟨⟨p, q⟩, y⟩ := kx
      dsimp only at d1 d2 d3
      have hset := set_rd ks k p q y u1 u2 u3 rest2 hlt hkx
      have HSET := Lib.hid hset
      have HT := Lib.hid (toreading_any ((p, q), y) wr)
      clear hkx hset hrl
      go_wp2_with fail
      refine HT.out.mono ?_
      rintro e w2 ⟨rfl, hb2⟩
      have hown2 := own_below hown hb2
      have hbq := hbr.trans (hb2.mono hbr.size)
      clear hown hbr hb2 HT d1 d2 d3
      have st1 := hown2.stored (k * 3) (.int .i64 p)
      have st2 := st1.1.stored (k * 3 + 1) (.int .i64 q)
      have st3 := st2.1.stored (k * 3 + 2) (.string y)
      rw [HSET.out] at st3
      have hbz := ((hbq.setCell (p := ⟨w.heap.size, k * 3, none⟩) (Nat.le_refl _) (.int .i64 p)).setCell (p := ⟨w.heap.size, k * 3 + 1, none⟩) (Nat.le_refl _) (.int .i64 q)).setCell (p := ⟨w.heap.size, k * 3 + 2, none⟩) (Nat.le_refl _) (.string y)
      have R := Lib.hid (And.intro st3.1 hbz)
      clear st1 st2 st3 hbz hbq HSET
      obtain ⟨s1, s2⟩ := own_cell hown2 (k * 3) (by omega)
      obtain ⟨s3, s4⟩ := own_cell hown2 (k * 3 + 1) (by omega)
      obtain ⟨s5, s6⟩ := own_cell hown2 (k * 3 + 2) (by omega)
      unfold rv
      dsimp only
      go_wp2
      exact ⟨⟨k + 1, rest2, by omega, by go_num, R.out.1, R.out.2⟩, by simp [intOf]; omega⟩
    · obtain rfl : k = ks.length := by omega
      rw [List.take_length] at hown
      have hr0 : rest = [] := by
        have h1 := hown.1
        rw [List.length_append, rdCells_len] at h1
        exact List.eq_nil_of_length_eq_zero (by omega)
      subst hr0
      rw [List.append_nil] at hown
      go_wp2
      go_ret
      exact ⟨w.heap.size, rfl, Nat.le_refl _, hown, hbr⟩
end Go.Proofs.Ytjggheoonjajpaa
namespace Go.Proofs.Ytjggheoonjajpaa
set_option linter.unusedVariables false
set_option linter.unusedSimpArgs false

/-- what adds up, each with itself to nothing -/
structure Grp (V : Type) where
  add : V → V → V
  zero : V
  comm : ∀ x y, add x y = add y x
  assoc : ∀ x y z, add (add x y) z = add x (add y z)
  self : ∀ x, add x x = zero
  zl : ∀ x, add zero x = x
namespace Grp
variable {V : Type} (G : Grp V)
theorem zr (x : V) : G.add x G.zero = x := by rw [G.comm, G.zl]
theorem back (x y : V) : G.add x (G.add x y) = y := by rw [← G.assoc, G.self, G.zl]
theorem left (x y z : V) : G.add x (G.add y z) = G.add y (G.add x z) := by rw [← G.assoc, G.comm x y, G.assoc]
end Grp
inductive Span {V : Type} (G : Grp V) (S : V → Prop) : V → Prop
  | zero : Span G S G.zero
  | step {x y : V} : S x → Span G S y → Span G S (G.add x y)
namespace Span
variable {V : Type} {G : Grp V} {S T : V → Prop}
theorem of {x : V} (h : S x) : Span G S x := by have := Span.step (G := G) h .zero; rwa [G.zr] at this
theorem plus {x y : V} (hx : Span G S x) (hy : Span G S y) : Span G S (G.add x y) := by
  induction hx with
  | zero => rwa [G.zl]
  | step h _ ih => rw [G.assoc]; exact .step h ih
theorem le (h : ∀ x, S x → Span G T x) {y : V} (hy : Span G S y) : Span G T y := by
  induction hy with
  | zero => exact .zero
  | step h1 _ ih => exact (h _ h1).plus ih
theorem mono (h : ∀ x, S x → T x) {y : V} (hy : Span G S y) : Span G T y := hy.le fun x hx => .of (h x hx)
theorem only {f : V → Bool} (h0 : f G.zero = false) (hf : ∀ x y, f (G.add x y) = (f x != f y)) (h : ∀ x, S x → f x = false) {y : V} (hy : Span G S y) : f y = false := by
  induction hy with
  | zero => exact h0
  | step h1 _ ih => rw [hf, h _ h1, ih]; rfl
end Span
end Go.Proofs.Ytjggheoonjajpaa
namespace Go.Proofs.Ytjggheoonjajpaa
open Go
set_option linter.unusedVariables false
set_option linter.unusedSimpArgs false

/-- a word whose keys are right and rise and whose load is four bytes -/
def wOk (x : C2) : Prop := keysOkR x.1 = true ∧ x.2.size = 4
abbrev W2 := { x : C2 // wOk x }
end Go.Proofs.Ytjggheoonjajpaa
namespace Go.Proofs.Ytjggheoonjajpaa
open Go
set_option linter.unusedVariables false
set_option linter.unusedSimpArgs false

abbrev L4 := { s : ByteArray // s.size = 4 }
end Go.Proofs.Ytjggheoonjajpaa
namespace Go.Proofs.Ytjggheoonjajpaa
open Go
set_option linter.unusedVariables false
set_option linter.unusedSimpArgs false

end Go.Proofs.Ytjggheoonjajpaa
namespace Go.Proofs.Ytjggheoonjajpaa
open Go
set_option linter.unusedVariables false

structure Stn where
  id : Int
  alive : Bool
  seq : Int
  most : Int
  own : List R3
  buf : List C2
  heard : List Int
def noStn : Stn := ⟨0, false, 0, 0, [], [], []⟩
def idB (n : Int) : Bool := decide (1 ≤ n) && decide (n ≤ 20)
def otherB (f id : Int) : Bool := idB f && decide (f ≠ id)
def ownB (s : Stn) : Bool := if s.seq = 0 then decide (s.own.length = 0) else decide (s.own.length = 1) && (rdOkB (s.own.getD 0 r0) && decide ((s.own.getD 0 r0).1 = (s.id, s.seq)))
def tellB (x : C2) : Bool := codeOkB x && decide (0 < x.1.length)
/-- just that word stands there -/
def hasC (L : List C2) (x : C2) : Bool := L.any fun z => decide (z = x)
theorem hasC_iff {L : List C2} {x : C2} : hasC L x = true ↔ x ∈ L := by
  unfold hasC
  rw [List.any_eq_true]
  constructor
  · rintro ⟨z, hz, e⟩
    rw [← of_decide_eq_true e]; exact hz
  · intro h
    exact ⟨x, h, by simp⟩
theorem hasC_no {L : List C2} {x : C2} : hasC L x = false ↔ x ∉ L := by
  rw [← hasC_iff]; simp
def bufStep (L : List C2) (i : Nat) : Bool := tellB (L.getD i blankC) && !hasC (L.take i) (L.getD i blankC)
def bufB (L : List C2) : Bool := (List.range L.length).all (bufStep L)
def heardStep (H : List Int) (id : Int) (i : Nat) : Bool := otherB (H.getD i 0) id && (decide (i = 0) || decide (H.getD (i - 1) 0 < H.getD i 0))
def heardB (H : List Int) (id : Int) : Bool := (List.range H.length).all (heardStep H id)
def stOkB (s : Stn) : Bool := (idB s.id && (decide (1 ≤ s.most) && decide (s.most ≤ 6))) && (ownB s && (decide ((s.buf.length : Int) ≤ s.most) && (bufB s.buf && heardB s.heard s.id)))
theorem all_range_iff {n : Nat} {f : Nat → Bool} : (List.range n).all f = true ↔ ∀ i, i < n → f i = true := by
  simp [List.all_eq_true]
theorem all_range_no {n : Nat} {f : Nat → Bool} (i : Nat) (hi : i < n) (h : f i = false) : (List.range n).all f = false := by
  cases e : (List.range n).all f with
  | false => rfl
  | true => have := all_range_iff.1 e i hi; rw [h] at this; cases this
theorem mem_take_iff {A : Type} (L : List A) (k : Nat) (d x : A) (hk : k ≤ L.length) : x ∈ L.take k ↔ ∃ j, j < k ∧ L.getD j d = x := by
  rw [List.mem_iff_getElem]
  constructor
  · rintro ⟨j, hj, rfl⟩
    have : j < k := by rw [List.length_take] at hj; omega
    exact ⟨j, this, by simp [List.getD, show j < L.length by omega]⟩
  · rintro ⟨j, hj, rfl⟩
    exact ⟨j, by rw [List.length_take]; omega, by simp [List.getD, show j < L.length by omega]⟩
/-- the place of a word -/
def codeI (L : List C2) (x : C2) : Option Nat := L.findIdx? fun y => decide (y = x)
theorem codeI_some {L : List C2} {x : C2} {i : Nat} : codeI L x = some i ↔ i < L.length ∧ L.getD i blankC = x ∧ ∀ j, j < i → L.getD j blankC ≠ x := by
  unfold codeI
  rw [List.findIdx?_eq_some_iff_getElem]
  constructor
  · rintro ⟨h, h1, h2⟩
    refine ⟨h, by simpa [List.getD, h] using h1, fun j hj => ?_⟩
    have := h2 j hj
    simpa [List.getD, show j < L.length by omega] using this
  · rintro ⟨h, h1, h2⟩
    refine ⟨h, by simpa [List.getD, h] using h1, fun j hj => ?_⟩
    have := h2 j hj
    simpa [List.getD, show j < L.length by omega] using this
theorem codeI_none {L : List C2} {x : C2} : codeI L x = none ↔ x ∉ L := by
  unfold codeI
  rw [List.findIdx?_eq_none_iff]
  constructor
  · intro h hm
    have := h x hm
    simp at this
  · intro h y hy
    simp only [decide_eq_false_iff_not]
    rintro rfl
    exact h hy
theorem bufStep_iff {L : List C2} {i : Nat} (hi : i < L.length) : bufStep L i = (tellB (L.getD i blankC) && decide (codeI L (L.getD i blankC) = some i)) := by
  unfold bufStep
  congr 1
  rw [Bool.eq_iff_iff]
  rw [Bool.not_eq_true', hasC_no, decide_eq_true_eq]
  rw [mem_take_iff L i blankC _ (by omega), codeI_some]
  constructor
  · intro h
    exact ⟨hi, rfl, fun j hj e => h ⟨j, hj, e⟩⟩
  · rintro ⟨_, _, h⟩ ⟨j, hj, e⟩
    exact h j hj e
/-- what is said first and what is said last -/
def newStM (id most : Int) : Stn := if idB id = true ∧ 1 ≤ most ∧ most ≤ 6 then ⟨id, true, 0, most, [], [], []⟩ else noStn
theorem newSt_ok (id most : Int) : stOkB ⟨id, true, 0, most, [], [], []⟩ = decide (idB id = true ∧ 1 ≤ most ∧ most ≤ 6) := by
  rw [Bool.eq_iff_iff]
  simp only [stOkB, ownB, bufB, heardB, List.length_nil, List.range_zero, List.all_nil, Bool.and_true, if_true, decide_true, Bool.and_eq_true, decide_eq_true_eq, Bool.true_and]
  constructor
  · rintro ⟨⟨h1, h2, h3⟩, _⟩
    exact ⟨h1, h2, h3⟩
  · rintro ⟨h1, h2, h3⟩
    exact ⟨⟨h1, h2, h3⟩, by simp; omega⟩
theorem own_seq {s : Stn} (h : ownB s = true) : 0 ≤ s.seq ∧ s.seq ≤ 99 := by
  unfold ownB at h
  split at h
  · rename_i h0; omega
  · simp only [Bool.and_eq_true, decide_eq_true_eq, rdOkB, keyOkB] at h
    obtain ⟨_, ⟨h1, _⟩, h2⟩ := h
    rw [h2] at h1
    dsimp only at h1
    omega
end Go.Proofs.Ytjggheoonjajpaa
namespace Go.Proofs.Ytjggheoonjajpaa
open Go.RowKit Go.ChangeShapes Go.WideShapes Go.ChangeAt
set_option linter.unusedVariables false
def intsV (xs : List Int) : List Value := xs.map (Value.int .i64)
theorem intsV_len (xs : List Int) : (intsV xs).length = xs.length := by simp [intsV]
theorem intsV_get (xs : List Int) (i : Nat) (h : i < xs.length) : (intsV xs)[i]? = some (.int .i64 (xs[i]?.getD 0)) := by simp [intsV, h]
theorem intsV_app (xs ys : List Int) : intsV (xs ++ ys) = intsV xs ++ intsV ys := by simp [intsV]
/-- the slice value v leads to the numbers xs -/
def inAt (w : World) (v : Value) (xs : List Int) : Prop :=
  ∃ a cap, v = .slice a xs.length cap ∧ xs.length ≤ cap ∧ (xs.length = 0 ∨ ∃ g off, a = some ⟨g, off, none⟩ ∧ g < w.heap.size ∧
    ∀ i, i < xs.length → w.cell? ⟨g, off + i, none⟩ = some (.int .i64 (xs[i]?.getD 0)))
theorem inAt_below {w w' : World} {v : Value} {xs : List Int} (h : inAt w v xs) (hb : Below w.heap.size w w') : inAt w' v xs := by
  obtain ⟨a, cap, h1, h2, h3⟩ := h
  refine ⟨a, cap, h1, h2, h3.imp_right ?_⟩
  rintro ⟨g, off, h4, h5, h6⟩
  exact ⟨g, off, h4, Nat.lt_of_lt_of_le h5 hb.size, fun i hi => (hb.cell (p := ⟨g, off + i, none⟩) h5).trans (h6 i hi)⟩
theorem inAt_nil (w : World) : inAt w (.slice none 0 0) [] := ⟨none, 0, rfl, by simp, .inl rfl⟩
theorem own_int {w : World} {base g n cap : Nat} {xs : List Int} (h : w.ownsRow base 3 1 (.slice (some ⟨g, 0, none⟩) n cap) n (intsV xs)) (j : Nat) (hj : j < n) : w.cell? ⟨g, j, none⟩ = some (.int .i64 (xs[j]?.getD 0)) := by
  have hl := h.1
  rw [intsV_len] at hl
  have := (own_cell h j (by omega)).1
  rw [List.getD_eq_getElem?_getD, intsV_get xs _ (by omega), Option.getD_some] at this
  exact this
theorem inAt_own {w : World} {base n : Nat} {v : Value} {xs : List Int} (h : w.ownsRow base 3 1 v n (intsV xs)) (hn : n = xs.length) : inAt w v xs := by
  subst hn
  rcases h.2 with ⟨rfl, h0⟩ | ⟨g, cap, cur, rfl, hb, hg, hn, hm, hs, ht⟩
  · exact ⟨none, 0, by rw [h0], by omega, .inl h0⟩
  · exact ⟨_, cap, rfl, hn, .inr ⟨g, 0, rfl, (Array.getElem?_eq_some_iff.1 hg).1, fun i hi => by rw [Nat.zero_add]; exact own_int h i hi⟩⟩
end Go.Proofs.Ytjggheoonjajpaa
namespace Go.Proofs.Ytjggheoonjajpaa
open Go.ChangeShapes Go.WideShapes Go.ChangeAt Go.RowKit Go.BigFrame
set_option linter.unusedVariables false
set_option linter.unusedSimpArgs false

def saV (s : Stn) (vo vb vh : Value) : Value := .agg #[.int .i64 s.id, .bool s.alive, .int .i64 s.seq, .int .i64 s.most, vo, vb, vh]
/-- a station's three lists, where they lie -/
structure SaL (w : World) (s : Stn) (vo vb vh : Value) : Prop where
  own : rdAt w vo s.own
  buf : cdAv w none vb s.buf
  heard : inAt w vh s.heard
theorem SaL.below {w w' : World} {s : Stn} {vo vb vh : Value} (h : SaL w s vo vb vh) (hb : Below w.heap.size w w') : SaL w' s vo vb vh :=
  ⟨rdAt_below h.own hb, cdAv_below h.buf hb, inAt_below h.heard hb⟩
theorem row7_of {W : World} {b : Nat} {v0 v1 v2 v3 v4 v5 v6 : Value} {T : TypeId} (h : W.heap[b]? = some (.cells #[v0, v1, v2, v3, v4, v5, v6] T (0, 0))) :
    (W.cell? ⟨b, 0, none⟩ = some v0 ∧ W.cell? ⟨b, 1, none⟩ = some v1 ∧ W.cell? ⟨b, 2, none⟩ = some v2 ∧ W.cell? ⟨b, 3, none⟩ = some v3 ∧ W.cell? ⟨b, 4, none⟩ = some v4 ∧ W.cell? ⟨b, 5, none⟩ = some v5 ∧ W.cell? ⟨b, 6, none⟩ = some v6) ∧
    (W.frozen? ⟨b, 0, none⟩ = false ∧ W.frozen? ⟨b, 1, none⟩ = false ∧ W.frozen? ⟨b, 2, none⟩ = false ∧ W.frozen? ⟨b, 3, none⟩ = false ∧ W.frozen? ⟨b, 4, none⟩ = false ∧ W.frozen? ⟨b, 5, none⟩ = false ∧ W.frozen? ⟨b, 6, none⟩ = false) := by
  refine ⟨⟨?_, ?_, ?_, ?_, ?_, ?_, ?_⟩, ?_, ?_, ?_, ?_, ?_, ?_, ?_⟩
  · rw [cell_of_row _ _ 0 _ _ _ h]; rfl
  · rw [cell_of_row _ _ 1 _ _ _ h]; rfl
  · rw [cell_of_row _ _ 2 _ _ _ h]; rfl
  · rw [cell_of_row _ _ 3 _ _ _ h]; rfl
  · rw [cell_of_row _ _ 4 _ _ _ h]; rfl
  · rw [cell_of_row _ _ 5 _ _ _ h]; rfl
  · rw [cell_of_row _ _ 6 _ _ _ h]; rfl
  all_goals simp [World.frozen?, h]
theorem sa_load {W : World} {b : Nat} {v0 v1 v2 v3 v4 v5 v6 : Value} (h : W.heap[b]? = some (.cells #[v0, v1, v2, v3, v4, v5, v6] 28 (0, 0))) : (loadVar 28 ⟨b, 0, none⟩).run Try.prog W = .ok (.agg #[v0, v1, v2, v3, v4, v5, v6]) W :=
  run_loadVar_row (P := Try.prog) W b 28 28 #[v0, v1, v2, v3, v4, v5, v6] (0, 0) _ h Try.underlying28 rfl (by kernel_rfl)
end Go.Proofs.Ytjggheoonjajpaa
namespace Go.Proofs.Ytjggheoonjajpaa
open Go.ChangeShapes Go.WideShapes Go.ChangeAt Go.RowKit Go.Deep
set_option linter.unusedVariables false

set_option maxRecDepth 20000 in
theorem cds_cells {H : Type} {enc : TypeId × Value → H} {W : World} {base : Nat} {sp : Nat → Bool} {held : Bool} {nn : Nat} {cs : List Value} {yy : DataW H × List MemPlace}
    (hf : DataW.trod enc Try.prog W base sp held nn 60 cs = some yy) : ∃ (v : Value) (L : List C2), cs = [v] ∧ cdAv W none v L ∧ L.length ≤ maxLen ∧ ∀ x ∈ L, x.1.length ≤ maxLen ∧ x.2.size ≤ maxLen := by
  have hC : Try.prog.cellsOf 71 = 2 := by kernel_rfl
  rcases open_slice Try.underlying60 hf with ⟨hcs, -⟩ | ⟨x, len, cap, m, n, D, Pl, hcs, -, hl, hm, hmm, -, hx⟩
  · exact ⟨_, [], hcs, ⟨none, 0, rfl, by simp, .inl rfl⟩, by simp, fun x hx => by simp at hx⟩
  · have hmc : len ≤ m := by
      rw [hmm]
      split <;> omega
    have hev : ∀ i, i < len → ∃ q : Value × C2, (W.cell? (x.add (i * 2)) = some q.1 ∧ W.cell? (x.add (i * 2 + 1)) = some (.string q.2.2) ∧ keysAt W q.1 q.2.1) ∧ q.2.1.length ≤ maxLen ∧ q.2.2.size ≤ maxLen := by
      intro i hi
      obtain ⟨cs', h1, h2⟩ := hx i (by omega)
      rw [hC] at h1
      obtain ⟨_, hlen, hcell⟩ := World.cells?_some h1
      obtain ⟨u, ks, y, rfl, hk, hl2, hs⟩ := cd_cells_read hlen h2
      have e0 := hcell 0 (by omega)
      have e1 := hcell 1 (by omega)
      rw [add_add] at e0 e1
      exact ⟨(u, (ks, y)), ⟨by simpa using e0, by simpa using e1, hk⟩, hl2, hs⟩
    obtain ⟨f, hf2⟩ := choose_lt hev
    have hfd : ∀ i, i < len → ((List.range len).map fun i => (f i).2).getD i blankC = (f i).2 := fun i hi => by simp [List.getD, hi]
    refine ⟨_, (List.range len).map fun i => (f i).2, hcs, ⟨some x, cap, by simp, by simpa using hl, ?_⟩, by simp; omega, fun y hy => ?_⟩
    · simp only [List.length_map, List.length_range]
      rcases Nat.eq_zero_or_pos len with h0 | h0
      · exact .inl h0
      · obtain ⟨b, off, spot⟩ := x
        have hc := (hf2 0 h0).1.1
        have hs : spot = none := by simpa [Addr.add] using World.cell?_spot hc
        subst hs
        have hadd : ∀ j, (⟨b, off, none⟩ : Addr).add j = ⟨b, off + j, none⟩ := by
          intro j
          unfold Addr.add
          split
          · rename_i h; simp [h]
          · rfl
        refine .inr ⟨b, off, rfl, World.block_lt_of_cell? W ⟨b, off, none⟩ (by simpa [Addr.add] using hc), fun i hi => ?_⟩
        have := (hf2 i hi).1
        rw [hadd, hadd] at this
        rw [hfd i hi]
        exact ⟨(f i).1, this.1, this.2.1, keysAv_of this.2.2 fun g _ e => by cases e⟩
    · obtain ⟨j, hj, rfl⟩ := List.mem_map.1 hy
      exact (hf2 j (List.mem_range.1 hj)).2
set_option maxRecDepth 20000 in
theorem rds_cells {H : Type} {enc : TypeId × Value → H} {W : World} {base : Nat} {sp : Nat → Bool} {held : Bool} {nn : Nat} {cs : List Value} {yy : DataW H × List MemPlace}
    (hf : DataW.trod enc Try.prog W base sp held nn 59 cs = some yy) : ∃ (v : Value) (rs : List R3), cs = [v] ∧ rdAt W v rs ∧ rs.length ≤ maxLen ∧ ∀ j, j < rs.length → (rs.getD j r0).2.size ≤ maxLen := by
  have hC : Try.prog.cellsOf 149 = 3 := by kernel_rfl
  rcases open_slice Try.underlying59 hf with ⟨hcs, -⟩ | ⟨x, len, cap, m, n, D, Pl, hcs, -, hl, hm, hmm, -, hx⟩
  · exact ⟨_, [], hcs, ⟨none, 0, rfl, by simp, .inl rfl⟩, by simp, fun j hj => by simp at hj⟩
  · have hmc : len ≤ m := by
      rw [hmm]
      split <;> omega
    have hev : ∀ i, i < len → ∃ q : R3, (W.cell? (x.add (i * 3)) = some (.int .i64 q.1.1) ∧ W.cell? (x.add (i * 3 + 1)) = some (.int .i64 q.1.2) ∧ W.cell? (x.add (i * 3 + 2)) = some (.string q.2)) ∧ q.2.size ≤ maxLen := by
      intro i hi
      obtain ⟨cs', h1, h2⟩ := hx i (by omega)
      rw [hC] at h1
      obtain ⟨_, hlen, hcell⟩ := World.cells?_some h1
      obtain ⟨q, rfl, hs⟩ := rd_cells_read hlen h2
      have e0 := hcell 0 (by omega)
      have e1 := hcell 1 (by omega)
      have e2 := hcell 2 (by omega)
      rw [add_add] at e0 e1 e2
      exact ⟨q, ⟨by simpa using e0, by simpa using e1, by simpa using e2⟩, hs⟩
    obtain ⟨f, hf2⟩ := choose_lt hev
    have hfd : ∀ i, i < len → ((List.range len).map f).getD i r0 = f i := fun i hi => by simp [List.getD, hi]
    refine ⟨_, (List.range len).map f, hcs, ⟨some x, cap, by simp, by simpa using hl, ?_⟩, by simp; omega, fun j hj => ?_⟩
    · simp only [List.length_map, List.length_range]
      rcases Nat.eq_zero_or_pos len with h0 | h0
      · exact .inl h0
      · obtain ⟨b, off, spot⟩ := x
        have hc := (hf2 0 h0).1.1
        have hs : spot = none := by simpa [Addr.add] using World.cell?_spot hc
        subst hs
        have hadd : ∀ j, (⟨b, off, none⟩ : Addr).add j = ⟨b, off + j, none⟩ := by
          intro j
          unfold Addr.add
          split
          · rename_i h; simp [h]
          · rfl
        refine .inr ⟨b, off, rfl, World.block_lt_of_cell? W ⟨b, off, none⟩ (by simpa [Addr.add] using hc), fun i hi => ?_⟩
        have := (hf2 i hi).1
        rw [hadd, hadd, hadd] at this
        rw [hfd i hi]
        exact this
    · have hj2 : j < len := by simpa using hj
      rw [hfd j hj2]
      exact (hf2 j hj2).2
set_option maxRecDepth 20000 in
theorem ins_cells {H : Type} {enc : TypeId × Value → H} {W : World} {base : Nat} {sp : Nat → Bool} {held : Bool} {nn : Nat} {cs : List Value} {yy : DataW H × List MemPlace}
    (hf : DataW.trod enc Try.prog W base sp held nn 26 cs = some yy) : ∃ (v : Value) (xs : List Int), cs = [v] ∧ inAt W v xs ∧ xs.length ≤ maxLen := by
  have hC : Try.prog.cellsOf 3 = 1 := by kernel_rfl
  rcases open_slice Try.underlying26 hf with ⟨hcs, -⟩ | ⟨x, len, cap, m, n, D, Pl, hcs, -, hl, hm, hmm, -, hx⟩
  · exact ⟨_, [], hcs, ⟨none, 0, rfl, by simp, .inl rfl⟩, by simp⟩
  · have hmc : len ≤ m := by
      rw [hmm]
      split <;> omega
    have hev : ∀ i, i < len → ∃ q : Int, W.cell? (x.add i) = some (.int .i64 q) := by
      intro i hi
      obtain ⟨cs', h1, h2⟩ := hx i (by omega)
      rw [hC] at h1
      obtain ⟨_, hlen, hcell⟩ := World.cells?_some h1
      obtain ⟨q, e, -, -⟩ := DataW.trod_int Try.underlying3 h2
      have e0 := hcell 0 (by omega)
      rw [add_add] at e0
      rw [e] at e0
      exact ⟨q, by simpa using e0⟩
    obtain ⟨f, hf2⟩ := choose_lt hev
    have hfd : ∀ i, i < len → (((List.range len).map f)[i]?.getD 0) = f i := fun i hi => by simp [hi]
    refine ⟨_, (List.range len).map f, hcs, ⟨some x, cap, by simp, by simpa using hl, ?_⟩, by simp; omega⟩
    simp only [List.length_map, List.length_range]
    rcases Nat.eq_zero_or_pos len with h0 | h0
    · exact .inl h0
    · obtain ⟨b, off, spot⟩ := x
      have hc := hf2 0 h0
      have hs : spot = none := by simpa [Addr.add] using World.cell?_spot hc
      subst hs
      have hadd : ∀ j, (⟨b, off, none⟩ : Addr).add j = ⟨b, off + j, none⟩ := by
        intro j
        unfold Addr.add
        split
        · rename_i h; simp [h]
        · rfl
      refine .inr ⟨b, off, rfl, World.block_lt_of_cell? W ⟨b, off, none⟩ (by simpa [Addr.add] using hc), fun i hi => ?_⟩
      have := hf2 i hi
      rw [hadd] at this
      rw [hfd i hi]
      exact this
/-- what a station that came in is -/
structure SaIn (w : World) (s : Stn) (vo vb vh : Value) : Prop where
  own : rdAt w vo s.own
  buf : cdAv w none vb s.buf
  heard : inAt w vh s.heard
  no : s.own.length ≤ maxLen
  xo : ∀ j, j < s.own.length → (s.own.getD j r0).2.size ≤ maxLen
  nb : s.buf.length ≤ maxLen
  xb : ∀ x ∈ s.buf, x.1.length ≤ maxLen ∧ x.2.size ≤ maxLen
  nh : s.heard.length ≤ maxLen
  id : (Lit.int .i64 s.id).wf = true
  seq : (Lit.int .i64 s.seq).wf = true
  most : (Lit.int .i64 s.most).wf = true
set_option maxRecDepth 20000 in
theorem open_station {H : Type} {enc : TypeId × Value → H} {W : World} {r : Reach} {b0 : Nat} {v : Value} {d : DataW H} {p : List MemPlace} (hv : Value.okWide Try.prog W r b0 62 v) (h : DataW.Trod enc Try.prog W 0 (fun _ => true) true 62 v d p) :
    ∃ (s : Stn) (vo vb vh : Value), v = saV s vo vb vh ∧ SaIn W s vo vb vh := by
  obtain ⟨cs, rfl, hsz⟩ := okWide_struct Try.underlying62 hv
  have hC : Try.prog.cellsOf 62 = 7 := by kernel_rfl
  have c0 : Try.prog.cellsOf 59 = 1 := by kernel_rfl
  have c1 : Try.prog.cellsOf 60 = 1 := by kernel_rfl
  have c2 : Try.prog.cellsOf 3 = 1 := by kernel_rfl
  have c3 : Try.prog.cellsOf 4 = 1 := by kernel_rfl
  have c4 : Try.prog.cellsOf 26 = 1 := by kernel_rfl
  obtain ⟨fuel, hf⟩ := h
  have hl6 : cs.toList.length = 7 := by simpa [Value.cells] using hsz.trans hC
  simp only [Value.cells] at hf
  generalize hcl : cs.toList = l at *
  match l, hl6 with
  | [a0, a1, a2, a3, a4, a5, a6], _ =>
    obtain ⟨xs, k, hk, hxy, _, hxl, hg⟩ := DataW.trod_struct Try.underlying62 hf
    match xs, hxl with
    | [y0, y1, y2, y3, y4, y5, y6], _ =>
      have g0 := hg 0 _ rfl
      have g1 := hg 1 _ rfl
      have g2 := hg 2 _ rfl
      have g3 := hg 3 _ rfl
      have g4 := hg 4 _ rfl
      have g5 := hg 5 _ rfl
      have g6 := hg 6 _ rfl
      simp [c0, c1, c2, c3, c4] at g0 g1 g2 g3 g4 g5 g6
      obtain ⟨z0, e0, -, f0⟩ := DataW.trod_int Try.underlying3 g0
      obtain ⟨z1, e1, -⟩ := DataW.trod_bool Try.underlying4 g1
      obtain ⟨z2, e2, -, f2⟩ := DataW.trod_int Try.underlying3 g2
      obtain ⟨z3, e3, -, f3⟩ := DataW.trod_int Try.underlying3 g3
      obtain ⟨vk, rs, e4, r1, r2, r3⟩ := rds_cells g4
      obtain ⟨vw, L, e5, l1, l2, l3⟩ := cds_cells g5
      obtain ⟨vh, xs, e6, i1, i2⟩ := ins_cells g6
      cases e0; cases e1; cases e2; cases e3; cases e4; cases e5; cases e6
      refine ⟨⟨z0, z1, z2, z3, rs, L, xs⟩, a4, a5, a6, ?_, ⟨r1, l1, i1, r2, r3, l2, l3, i2, f0, f2, f3⟩⟩
      rw [← Array.toArray_toList (xs := cs), hcl]
      rfl
end Go.Proofs.Ytjggheoonjajpaa
namespace Go.Proofs.Ytjggheoonjajpaa
open Go.ChangeShapes Go.WideShapes Go.ChangeAt Go.RowKit Go.BigFrame
set_option linter.unusedVariables false
set_option linter.unusedSimpArgs false

theorem cd_load_b {w w' : World} {g : Nat} {u : Value} {y : ByteArray} (h : w.heap[g]? = some (.cells #[u, .string y] 42 (0, 0))) (hb : Below w.heap.size w w') : (loadVar 42 ⟨g, 0, none⟩).run Try.prog w' = .ok (.agg #[u, .string y]) w' :=
  run_loadVar_row (P := Try.prog) w' g 42 42 #[u, .string y] (0, 0) _ ((hb.block _ (Array.getElem?_eq_some_iff.1 h).1).trans h) Try.underlying42 rfl (by kernel_rfl)
end Go.Proofs.Ytjggheoonjajpaa
namespace Go.Proofs.Ytjggheoonjajpaa
open Go.ChangeShapes Go.WideShapes Go.ChangeAt Go.RowKit Go.BigFrame
set_option linter.unusedVariables false
set_option linter.unusedSimpArgs false

theorem ld_rds {w : World} {b o : Nat} {v : Value} (c : w.cell? ⟨b, o, none⟩ = some v) : (loadVar 24 ⟨b, o, none⟩).run Try.prog w = .ok v w := load_one (fun w => by simp [isAgg, underlying, Try.underlying24]) c
theorem ld_cds {w : World} {b o : Nat} {v : Value} (c : w.cell? ⟨b, o, none⟩ = some v) : (loadVar 25 ⟨b, o, none⟩).run Try.prog w = .ok v w := load_one (fun w => by simp [isAgg, underlying, Try.underlying25]) c
theorem ld_kys {w : World} {b o : Nat} {v : Value} (c : w.cell? ⟨b, o, none⟩ = some v) : (loadVar 40 ⟨b, o, none⟩).run Try.prog w = .ok v w := load_one (fun w => by simp [isAgg, underlying, Try.underlying40]) c
theorem ld_str {w : World} {b o : Nat} {v : Value} (c : w.cell? ⟨b, o, none⟩ = some v) : (loadVar 9 ⟨b, o, none⟩).run Try.prog w = .ok v w := load_one (fun w => by simp [isAgg, underlying, Try.underlying9]) c
theorem ld_int {w : World} {b o : Nat} {v : Value} (c : w.cell? ⟨b, o, none⟩ = some v) : (loadVar 3 ⟨b, o, none⟩).run Try.prog w = .ok v w := load_one (fun w => by simp [isAgg, underlying, Try.underlying3]) c
end Go.Proofs.Ytjggheoonjajpaa
namespace Go.Proofs.Ytjggheoonjajpaa
open Go.ChangeShapes Go.WideShapes Go.ChangeAt Go.RowKit Go.BigFrame
set_option linter.unusedVariables false
set_option linter.unusedSimpArgs false

set_option maxRecDepth 100000 in
theorem szints_any (v : Value) (xs : List Int) (left : Int) (w : World) (h : inAt w v xs) (hl : 0 ≤ left ∧ left ≤ 1000000000) (hs : xs.length ≤ 9223372036854775807) :
    Calls Try.prog 85 #[v, .int .i64 left] w fun e w' => ∃ r : Int, e = .returned (.int .i64 r) ∧ (r = -1 ∨ (0 ≤ r ∧ r = left - (xs.length : Int))) ∧ w' = w := by
  obtain ⟨a, cap, rfl, -, -⟩ := h
  have ew : IntKind.i64.wrap (left - (xs.length : Int)) = left - (xs.length : Int) := IntWalk.i64_in _ (by omega)
  have ew2 : wrap64 (left - (xs.length : Int)) = left - (xs.length : Int) := IntWalk.wrap64_in _ (by omega)
  by_cases hn : left - (xs.length : Int) < 0
  · go_enter Try.func85, Try.ntmps85
    go_wp2
    go_ret
    exact ⟨-1, rfl, .inl rfl, rfl⟩
  · go_enter Try.func85, Try.ntmps85
    go_wp2
    go_ret
    exact ⟨_, rfl, .inr ⟨by omega, rfl⟩, rfl⟩
/-- what a size that is not negative says -/
structure SzOk (s : Stn) (left : Int) : Prop where
  no : (s.own.length : Int) ≤ left
  xo : ∀ j, j < s.own.length → ((s.own.getD j r0).2.size : Int) ≤ left
  nb : (s.buf.length : Int) ≤ left
  xb : ∀ x ∈ s.buf, (x.1.length : Int) ≤ left ∧ (x.2.size : Int) ≤ left
  sk : szK s.buf ≤ 2 * (left - (s.own.length : Int))
  nh : (s.heard.length : Int) ≤ left
theorem SaIn.below {w w' : World} {s : Stn} {vo vb vh : Value} (h : SaIn w s vo vb vh) (hb : Below w.heap.size w w') : SaIn w' s vo vb vh :=
  ⟨rdAt_below h.own hb, cdAv_below h.buf hb, inAt_below h.heard hb, h.no, h.xo, h.nb, h.xb, h.nh, h.id, h.seq, h.most⟩
theorem SaIn.lists {w : World} {s : Stn} {vo vb vh : Value} (h : SaIn w s vo vb vh) : SaL w s vo vb vh := ⟨h.own, h.buf, h.heard⟩
set_option maxRecDepth 100000 in
set_option maxHeartbeats 2000000 in
theorem szstation_any (s : Stn) (vo vb vh : Value) (left : Int) (w : World) (h : SaIn w s vo vb vh) (hl : 0 ≤ left ∧ left ≤ 1000000000) :
    Calls Try.prog 33 #[saV s vo vb vh, .int .i64 left] w fun e w' => ∃ z : Int, e = .returned (.int .i64 z) ∧ (z < 0 ∨ SzOk s left) ∧ Below w.heap.size w w' := by
  obtain ⟨id, al, sq, mo, ow, bu, he⟩ := s
  obtain ⟨h1, h2, h7, h3, h4, h5, h6, h8, -, -, -⟩ := h
  dsimp only at *
  have HS := Lib.hid (fun wx (hb : Below w.heap.size w wx) => szreadings_any vo ow left wx (rdAt_below h1 hb) hl h3 h4)
  have HC := Lib.hid (fun wx m (hb : Below w.heap.size w wx) (hm : 0 ≤ m ∧ m ≤ 1000000000) => szcodes_any vb bu m wx (cdAv_below h2 hb) h5 h6 hm)
  have HI := Lib.hid (fun wx m (hb : Below w.heap.size w wx) (hm : 0 ≤ m ∧ m ≤ 1000000000) => szints_any vh he m wx (inAt_below h7 hb) hm h8)
  obtain ⟨co, cp, rfl, -, -⟩ := h1
  obtain ⟨cb, cc, rfl, -, -⟩ := h2
  obtain ⟨ch, ci, rfl, -, -⟩ := h7
  clear h3 h4 h5 h6 h8
  have hb := (Below.refl w.heap.size w).alloc (Nat.le_refl _) (.cells #[.int .i64 id, .bool al, .int .i64 sq, .int .i64 mo, .slice co ow.length cp, .slice cb bu.length cc, .slice ch he.length ci] 62)
  have HX := Lib.hid (heap_alloc_new w (.cells #[.int .i64 id, .bool al, .int .i64 sq, .int .i64 mo, .slice co ow.length cp, .slice cb bu.length cc, .slice ch he.length ci] 62))
  have HB := Lib.hid hb
  clear hb
  unfold saV
  dsimp only
  go_enter Try.func33, Try.ntmps33
  go_upto_region 1 with (fail)
  generalize w.alloc (.cells #[.int .i64 id, .bool al, .int .i64 sq, .int .i64 mo, .slice co ow.length cp, .slice cb bu.length cc, .slice ch he.length ci] 62) = W at *
  obtain ⟨⟨x0, x1, x2, x3, x4, x5, x6⟩, -⟩ := row7_of HX.out
  go_wp2_with fail
  refine (HS.out _ HB.out).mono ?_
  rintro e w2 ⟨m, rfl, hm, hb2⟩
  have HB2 := Lib.hid (HB.out.trans (hb2.mono HB.out.size))
  have hx2 := (hb2.block _ (Array.getElem?_eq_some_iff.1 HX.out).1).trans HX.out
  clear x0 x1 x2 x3 x4 x5 x6 hb2 HS
  have HX2 := Lib.hid hx2
  obtain ⟨⟨x0, x1, x2, x3, x4, x5, x6⟩, -⟩ := row7_of hx2
  rcases hm with rfl | ⟨m0, m1, m2⟩
  · go_wp2
    go_ret
    exact ⟨-1, rfl, .inl (by omega), HB2.out⟩
  · have n0 : ¬ m < 0 := by omega
    have M2 := Lib.hid m2
    clear m2 hx2
    go_wp2_with fail
    refine (HC.out _ m HB2.out ⟨m0, by omega⟩).mono ?_
    rintro e w3 ⟨z, rfl, hz, hb3⟩
    have HB3 := Lib.hid (HB2.out.trans (hb3.mono HB2.out.size))
    have hx3 := (hb3.block _ (Array.getElem?_eq_some_iff.1 HX2.out).1).trans HX2.out
    clear hb3 x0 x1 x2 x3 x4 x5 x6
    by_cases hneg : z < 0
    · go_wp2
      go_ret
      exact ⟨-1, rfl, .inl (by omega), HB3.out⟩
    · have hk := szL_ok (L := bu) (l := m) (by omega)
      have hsm := szL_sum (L := bu) (l := m) (by omega)
      have hzm : z ≤ m := by have := hk.1; have := szL_le (L := bu) (l := m) (by omega); omega
      have HK := Lib.hid (And.intro hk hsm)
      obtain ⟨⟨x0, x1, x2, x3, x4, x5, x6⟩, -⟩ := row7_of hx3
      clear hk hsm hz hx3
      go_wp2_with fail
      refine (HI.out _ z HB3.out ⟨by omega, by omega⟩).mono ?_
      rintro e w4 ⟨y, rfl, hy, rfl⟩
      rcases hy with rfl | ⟨y0, y1⟩
      · go_wp2
        go_ret
        exact ⟨-1, rfl, .inl (by omega), HB3.out⟩
      · have n1 : ¬ y < 0 := by omega
        have HF := Lib.hid (show y < 0 ∨ SzOk ⟨id, al, sq, mo, ow, bu, he⟩ left from
          .inr ⟨by dsimp only; omega, M2.out, by have := HK.out.1; dsimp only; omega, fun x hx => by have := HK.out.1.2 x hx; omega, by have := HK.out.2; dsimp only; omega, by dsimp only; omega⟩)
        clear y1
        go_wp2
        go_ret
        exact ⟨y, rfl, HF.out, HB3.out⟩
end Go.Proofs.Ytjggheoonjajpaa
namespace Go.Proofs.Ytjggheoonjajpaa
open Go.ChangeShapes Go.WideShapes Go.ChangeAt Go.RowKit Go.BigFrame
set_option linter.unusedVariables false
set_option linter.unusedSimpArgs false

theorem infoInt : (Try.prog.info? 3).map (fun i => (i.zero, i.size, i.bytes)) = some (some (.int .i64 0), 1, 8) := by kernel_rfl
set_option maxRecDepth 100000 in
set_option maxHeartbeats 1000000 in
theorem toints_any (v : Value) (xs : List Int) (w : World) (h : inAt w v xs) (hs : xs.length ≤ 2000000) : Calls Try.prog 88 #[v] w fun e w' => ∃ g, e = .returned (.slice (some ⟨g, 0, none⟩) xs.length xs.length) ∧ w.heap.size ≤ g ∧
    w'.ownsRow w.heap.size 3 1 (.slice (some ⟨g, 0, none⟩) xs.length xs.length) xs.length (intsV xs) ∧ Below w.heap.size w w' := by
  obtain ⟨a, cap, rfl, hcap, hcells⟩ := h
  obtain ⟨i0, hi, hz0, hz1, hz2⟩ := info_parts infoInt
  obtain ⟨W, hmk, hown0, hgr0⟩ := run_make_full (P := Try.prog) w w.heap.size 26 3 i0 _ 1 Try.underlying26 hi hz0 hz1 .i64 .i64 xs.length (by rw [hz2]; omega) (by unfold maxLen; omega) (Nat.le_refl _)
  have hb0 : Below w.heap.size w W := (Below.refl _ _).grown hgr0 (Nat.le_refl _) (by simp)
  have hrest : (madeCells (Value.int .i64 0).cells (xs.length * 1)).toList.length = xs.length * 1 := hown0.1
  generalize (madeCells (Value.int .i64 0).cells (xs.length * 1)).toList = Z at *
  go_enter Try.func88, Try.ntmps88
  go_wp2
  clear hmk hgr0
  go_loopw [4] (fun i wr => ∃ (k : Nat) (rest : List Value), k ≤ xs.length ∧ i = .int .i64 k ∧ wr.ownsRow w.heap.size 3 1 (.slice (some ⟨w.heap.size, 0, none⟩) xs.length xs.length) xs.length (intsV (xs.take k) ++ rest) ∧ Below w.heap.size w wr)
    (fun i _ => xs.length - (intOf i).toNat)
  case atStart => exact ⟨0, Z, Nat.zero_le _, rfl, by simpa [intsV] using hown0, hb0⟩
  case round =>
    obtain ⟨k, rest, hk, rfl, hown, hbr⟩ := hrel
    clear hown0 hb0 hrest
    have hkt : (xs.take k).length = k := by simp; omega
    by_cases hlt : k < xs.length
    · obtain ⟨ga, off, rfl, hg, hcs⟩ := hcells.resolve_left (by omega)
      have hc := hcs k hlt
      have z0 : (0 : Int) ≤ (k : Int) := by omega
      have z1 : (k : Int) < (xs.length : Int) := by omega
      rename_i wr
      have d1 : wr.cell? ⟨ga, off + k, none⟩ = some (.int .i64 (xs[k]?.getD 0)) := by rw [hbr.cell (p := ⟨ga, off + k, none⟩) hg]; exact hc
      clear hcs hc hcells
      have hrl : rest.length = xs.length - k := by
        have := hown.1
        rw [List.length_append, intsV_len, hkt] at this
        omega
      obtain ⟨u1, rest2, rfl⟩ : ∃ u1 r, rest = u1 :: r := by
        match rest, hrl with
        | [], h => simp at h; omega
        | a :: r, _ => exact ⟨a, r, rfl⟩
      have hset : (intsV (xs.take k) ++ u1 :: rest2).set k (.int .i64 (xs[k]?.getD 0)) = intsV (xs.take (k + 1)) ++ rest2 := by
        rw [List.set_append_right _ _ (by rw [intsV_len, hkt]; omega), intsV_len, hkt, Nat.sub_self, List.set_cons_zero, List.take_succ_eq_append_getElem hlt, intsV_app]
        simp [intsV, hlt]
      have st1 := hown.stored k (.int .i64 (xs[k]?.getD 0))
      rw [hset] at st1
      obtain ⟨s1, s2⟩ := own_cell hown k (by omega)
      have hbz := hbr.setCell (p := ⟨w.heap.size, k, none⟩) (Nat.le_refl _) (.int .i64 (xs[k]?.getD 0))
      have R := Lib.hid (And.intro st1.1 hbz)
      clear st1 hbz hset hown hbr hrl
      generalize xs[k]?.getD 0 = y at *
      go_wp2
      exact ⟨⟨k + 1, rest2, by omega, by go_num, R.out.1, R.out.2⟩, by simp [intOf]; omega⟩
    · obtain rfl : k = xs.length := by omega
      have hr0 : rest = [] := by
        have h1 := hown.1
        rw [List.length_append, intsV_len, hkt] at h1
        exact List.eq_nil_of_length_eq_zero (by omega)
      subst hr0
      rw [List.append_nil, List.take_length] at hown
      clear hcells
      go_wp2
      go_ret
      exact ⟨_, rfl, Nat.le_refl _, hown, hbr⟩
end Go.Proofs.Ytjggheoonjajpaa
namespace Go.Proofs.Ytjggheoonjajpaa
open Go.ChangeShapes Go.WideShapes Go.ChangeAt Go.RowKit Go.BigFrame
set_option linter.unusedVariables false

/-- four bytes as an array's value -/
def arr4 (y : ByteArray) : Value := .agg (Lib.byteCells y.data.toList).toArray
theorem four_bytes (y : ByteArray) (h : y.size = 4) : ∃ a b c d : UInt8, y.data.toList = [a, b, c, d] := by
  have hl : y.data.toList.length = 4 := by simpa using h
  match hm : y.data.toList, hl with
  | [a, b, c, d], _ => exact ⟨a, b, c, d, rfl⟩
theorem set_cellsR {w : World} {B j : Nat} {cs : Array Value} {t : TypeId} (u : Value) (h : w.heap[B]? = some (.cells cs t (0, 0))) : (w.setCell ⟨B, j, none⟩ u).heap[B]? = some (.cells (cs.setIfInBounds j u) t (0, 0)) := by
  obtain ⟨hlt, hk⟩ := Array.getElem?_eq_some_iff.1 h
  show (w.heap.modify B _)[B]? = _
  rw [Array.getElem?_eq_getElem (by rw [Array.size_modify]; exact hlt), Array.getElem_modify_self, hk]
  rfl
set_option maxRecDepth 100000 in
theorem iloadbytes_any (y : ByteArray) (w : World) (hy : y.size = 4) : Calls Try.prog 141 #[.string y] w fun e w' => e = .returned (arr4 y) ∧ Below w.heap.size w w' := by
  obtain ⟨a, b, c, d, hd⟩ := four_bytes y hy
  have hsz : (Try.prog.info? 5).map (·.size) = some 1 := by kernel_rfl
  have hW : (((w.alloc (.cells #[.int .u8 0, .int .u8 0, .int .u8 0, .int .u8 0] 141)).alloc (.cells #[.int .u8 0, .int .u8 0, .int .u8 0, .int .u8 0] 141))).heap[w.heap.size + 1]? = some (.cells #[.int .u8 0, .int .u8 0, .int .u8 0, .int .u8 0] 141) := by
    have := heap_alloc_new (w.alloc (.cells #[.int .u8 0, .int .u8 0, .int .u8 0, .int .u8 0] 141)) (.cells #[.int .u8 0, .int .u8 0, .int .u8 0, .int .u8 0] 141)
    simpa using this
  have hB : Below w.heap.size w ((w.alloc (.cells #[.int .u8 0, .int .u8 0, .int .u8 0, .int .u8 0] 141)).alloc (.cells #[.int .u8 0, .int .u8 0, .int .u8 0, .int .u8 0] 141)) := ((Below.refl _ _).alloc (Nat.le_refl _) _).alloc (by simp) _
  have hF : ((w.alloc (.cells #[.int .u8 0, .int .u8 0, .int .u8 0, .int .u8 0] 141)).alloc (.cells #[.int .u8 0, .int .u8 0, .int .u8 0, .int .u8 0] 141)).heap[w.heap.size]? = some (.cells #[.int .u8 0, .int .u8 0, .int .u8 0, .int .u8 0] 141) := heap_first _ _ _
  have hr := fun ty => Lib.run_copy_row_string (P := Try.prog) ((w.alloc (.cells #[.int .u8 0, .int .u8 0, .int .u8 0, .int .u8 0] 141)).alloc (.cells #[.int .u8 0, .int .u8 0, .int .u8 0, .int .u8 0] 141)) 22 9 ty 5 (w.heap.size + 1) 0 4 4 y #[.int .u8 0, .int .u8 0, .int .u8 0, .int .u8 0] 141 Try.underlying22 hsz hW (by omega) (by simp; omega)
  rw [show (List.take 0 (#[Value.int .u8 0, .int .u8 0, .int .u8 0, .int .u8 0] : Array Value).toList ++ Lib.byteCells y.data.toList ++ List.drop (0 + y.size) (#[Value.int .u8 0, .int .u8 0, .int .u8 0, .int .u8 0] : Array Value).toList).toArray = #[.int .u8 a.toNat, .int .u8 b.toNat, .int .u8 c.toNat, .int .u8 d.toNat] by rw [hy, hd]; rfl] at hr
  have hB2 := below_setRow hB (show w.heap.size ≤ w.heap.size + 1 by omega) #[.int .u8 a.toNat, .int .u8 b.toNat, .int .u8 c.toNat, .int .u8 d.toNat]
  have hS := setRow_heap _ (w.heap.size + 1) _ #[.int .u8 a.toNat, .int .u8 b.toNat, .int .u8 c.toNat, .int .u8 d.toNat] 141 (0, 0) hW
  have hF2 : (World.setRow ((w.alloc (.cells #[.int .u8 0, .int .u8 0, .int .u8 0, .int .u8 0] 141)).alloc (.cells #[.int .u8 0, .int .u8 0, .int .u8 0, .int .u8 0] 141)) (w.heap.size + 1) #[.int .u8 a.toNat, .int .u8 b.toNat, .int .u8 c.toNat, .int .u8 d.toNat]).heap[w.heap.size]? = some (.cells #[.int .u8 0, .int .u8 0, .int .u8 0, .int .u8 0] 141) := by
    rw [setRow_other _ _ _ _ (by omega)]; exact hF
  generalize World.setRow ((w.alloc (.cells #[.int .u8 0, .int .u8 0, .int .u8 0, .int .u8 0] 141)).alloc (.cells #[.int .u8 0, .int .u8 0, .int .u8 0, .int .u8 0] 141)) (w.heap.size + 1) #[.int .u8 a.toNat, .int .u8 b.toNat, .int .u8 c.toNat, .int .u8 d.toNat] = W2 at *
  have c0 : W2.cell? ⟨w.heap.size + 1, 0, none⟩ = some (.int .u8 a.toNat) := by rw [cell_of_row _ _ 0 _ _ _ hS]; rfl
  have c1 : W2.cell? ⟨w.heap.size + 1, 1, none⟩ = some (.int .u8 b.toNat) := by rw [cell_of_row _ _ 1 _ _ _ hS]; rfl
  have c2 : W2.cell? ⟨w.heap.size + 1, 2, none⟩ = some (.int .u8 c.toNat) := by rw [cell_of_row _ _ 2 _ _ _ hS]; rfl
  have c3 : W2.cell? ⟨w.heap.size + 1, 3, none⟩ = some (.int .u8 d.toNat) := by rw [cell_of_row _ _ 3 _ _ _ hS]; rfl
  have d0 : W2.cell? ⟨w.heap.size, 0, none⟩ = some (.int .u8 0) := by rw [cell_of_row _ _ 0 _ _ _ hF2]; rfl
  have d1 : W2.cell? ⟨w.heap.size, 1, none⟩ = some (.int .u8 0) := by rw [cell_of_row _ _ 1 _ _ _ hF2]; rfl
  have d2 : W2.cell? ⟨w.heap.size, 2, none⟩ = some (.int .u8 0) := by rw [cell_of_row _ _ 2 _ _ _ hF2]; rfl
  have d3 : W2.cell? ⟨w.heap.size, 3, none⟩ = some (.int .u8 0) := by rw [cell_of_row _ _ 3 _ _ _ hF2]; rfl
  have f0 : W2.frozen? ⟨w.heap.size, 0, none⟩ = false := by simp [World.frozen?, hF2]
  have f1 : W2.frozen? ⟨w.heap.size, 1, none⟩ = false := by simp [World.frozen?, hF2]
  have f2 : W2.frozen? ⟨w.heap.size, 2, none⟩ = false := by simp [World.frozen?, hF2]
  have f3 : W2.frozen? ⟨w.heap.size, 3, none⟩ = false := by simp [World.frozen?, hF2]
  have hfin : ((((W2.setCell ⟨w.heap.size, 0, none⟩ (.int .u8 a.toNat)).setCell ⟨w.heap.size, 1, none⟩ (.int .u8 b.toNat)).setCell ⟨w.heap.size, 2, none⟩ (.int .u8 c.toNat)).setCell ⟨w.heap.size, 3, none⟩ (.int .u8 d.toNat)).heap[w.heap.size]? = some (.cells #[.int .u8 a.toNat, .int .u8 b.toNat, .int .u8 c.toNat, .int .u8 d.toNat] 141) :=
    set_cellsR _ (set_cellsR _ (set_cellsR _ (set_cellsR _ hF2)))
  have hBf := (((hB2.setCell (p := ⟨w.heap.size, 0, none⟩) (Nat.le_refl _) (.int .u8 a.toNat)).setCell (p := ⟨w.heap.size, 1, none⟩) (Nat.le_refl _) (.int .u8 b.toNat)).setCell (p := ⟨w.heap.size, 2, none⟩) (Nat.le_refl _) (.int .u8 c.toNat)).setCell (p := ⟨w.heap.size, 3, none⟩) (Nat.le_refl _) (.int .u8 d.toNat)
  have L2 := run_loadVar_row (P := Try.prog) _ w.heap.size 141 141 #[.int .u8 a.toNat, .int .u8 b.toNat, .int .u8 c.toNat, .int .u8 d.toNat] (0, 0) _ hfin Try.underlying141 rfl (by kernel_rfl)
  have L2 := Lib.hid L2; have HBF := Lib.hid hBf; clear hfin hBf hB2 hB hF hW hF2 hS hsz
  go_enter Try.func141, Try.ntmps141
  go_wp2_with (at_builtin; refine Lib.wpList_copy_run _ rfl (.tmp 4) (.tmp 5) 22 9 rfl _ _ rfl rfl (hr _) ?_)
  refine bodyPost_ret (v := .agg #[.int .u8 a.toNat, .int .u8 b.toNat, .int .u8 c.toNat, .int .u8 d.toNat]) ?_ rfl ⟨by unfold arr4; rw [hd]; rfl, HBF.out⟩
  rw [results_cell (p := 2) (ty := 141) (by kernel_rfl)]
  simp [asAddr, Result.andThen, L2.out]
end Go.Proofs.Ytjggheoonjajpaa
namespace Go.Proofs.Ytjggheoonjajpaa
open Go.ChangeShapes Go.WideShapes Go.ChangeAt Go.RowKit Go.BigFrame
set_option linter.unusedVariables false
set_option linter.unusedSimpArgs false

abbrev set7 (W : World) (b : Nat) (u0 u1 u2 u3 u4 u5 u6 : Value) : World := ((((((W.setCell ⟨b, 0, none⟩ u0).setCell ⟨b, 1, none⟩ u1).setCell ⟨b, 2, none⟩ u2).setCell ⟨b, 3, none⟩ u3).setCell ⟨b, 4, none⟩ u4).setCell ⟨b, 5, none⟩ u5).setCell ⟨b, 6, none⟩ u6
theorem sa_set {W : World} {b : Nat} {v0 v1 v2 v3 v4 v5 v6 : Value} {T : TypeId} (h : W.heap[b]? = some (.cells #[v0, v1, v2, v3, v4, v5, v6] T (0, 0))) (u0 u1 u2 u3 u4 u5 u6 : Value) :
    (set7 W b u0 u1 u2 u3 u4 u5 u6).heap[b]? = some (.cells #[u0, u1, u2, u3, u4, u5, u6] T (0, 0)) := by
  unfold set7
  have h0 : (W.setCell ⟨b, 0, none⟩ u0).heap[b]? = some (.cells #[u0, v1, v2, v3, v4, v5, v6] T (0, 0)) := set_cellsR (j := 0) u0 h
  generalize (W.setCell ⟨b, 0, none⟩ u0) = W0 at *
  have h1 : (W0.setCell ⟨b, 1, none⟩ u1).heap[b]? = some (.cells #[u0, u1, v2, v3, v4, v5, v6] T (0, 0)) := set_cellsR (j := 1) u1 h0
  clear h0
  generalize (W0.setCell ⟨b, 1, none⟩ u1) = W1 at *
  have h2 : (W1.setCell ⟨b, 2, none⟩ u2).heap[b]? = some (.cells #[u0, u1, u2, v3, v4, v5, v6] T (0, 0)) := set_cellsR (j := 2) u2 h1
  clear h1
  generalize (W1.setCell ⟨b, 2, none⟩ u2) = W2 at *
  have h3 : (W2.setCell ⟨b, 3, none⟩ u3).heap[b]? = some (.cells #[u0, u1, u2, u3, v4, v5, v6] T (0, 0)) := set_cellsR (j := 3) u3 h2
  clear h2
  generalize (W2.setCell ⟨b, 3, none⟩ u3) = W3 at *
  have h4 : (W3.setCell ⟨b, 4, none⟩ u4).heap[b]? = some (.cells #[u0, u1, u2, u3, u4, v5, v6] T (0, 0)) := set_cellsR (j := 4) u4 h3
  clear h3
  generalize (W3.setCell ⟨b, 4, none⟩ u4) = W4 at *
  have h5 : (W4.setCell ⟨b, 5, none⟩ u5).heap[b]? = some (.cells #[u0, u1, u2, u3, u4, u5, v6] T (0, 0)) := set_cellsR (j := 5) u5 h4
  clear h4
  generalize (W4.setCell ⟨b, 5, none⟩ u5) = W5 at *
  have h6 : (W5.setCell ⟨b, 6, none⟩ u6).heap[b]? = some (.cells #[u0, u1, u2, u3, u4, u5, u6] T (0, 0)) := set_cellsR (j := 6) u6 h5
  clear h5
  generalize (W5.setCell ⟨b, 6, none⟩ u6) = W6 at *
  exact h6
theorem sa_setB {w W : World} {B b : Nat} (h : Below B w W) (hb : B ≤ b) (u0 u1 u2 u3 u4 u5 u6 : Value) : Below B w (set7 W b u0 u1 u2 u3 u4 u5 u6) := by
  unfold set7
  have h0 : Below B w (W.setCell ⟨b, 0, none⟩ u0) := h.setCell (p := ⟨b, 0, none⟩) hb u0
  generalize (W.setCell ⟨b, 0, none⟩ u0) = W0 at *
  have h1 : Below B w (W0.setCell ⟨b, 1, none⟩ u1) := h0.setCell (p := ⟨b, 1, none⟩) hb u1
  clear h0
  generalize (W0.setCell ⟨b, 1, none⟩ u1) = W1 at *
  have h2 : Below B w (W1.setCell ⟨b, 2, none⟩ u2) := h1.setCell (p := ⟨b, 2, none⟩) hb u2
  clear h1
  generalize (W1.setCell ⟨b, 2, none⟩ u2) = W2 at *
  have h3 : Below B w (W2.setCell ⟨b, 3, none⟩ u3) := h2.setCell (p := ⟨b, 3, none⟩) hb u3
  clear h2
  generalize (W2.setCell ⟨b, 3, none⟩ u3) = W3 at *
  have h4 : Below B w (W3.setCell ⟨b, 4, none⟩ u4) := h3.setCell (p := ⟨b, 4, none⟩) hb u4
  clear h3
  generalize (W3.setCell ⟨b, 4, none⟩ u4) = W4 at *
  have h5 : Below B w (W4.setCell ⟨b, 5, none⟩ u5) := h4.setCell (p := ⟨b, 5, none⟩) hb u5
  clear h4
  generalize (W4.setCell ⟨b, 5, none⟩ u5) = W5 at *
  have h6 : Below B w (W5.setCell ⟨b, 6, none⟩ u6) := h5.setCell (p := ⟨b, 6, none⟩) hb u6
  clear h5
  generalize (W5.setCell ⟨b, 6, none⟩ u6) = W6 at *
  exact h6
end Go.Proofs.Ytjggheoonjajpaa
namespace Go.Proofs.Ytjggheoonjajpaa
open Go.ChangeShapes Go.WideShapes Go.ChangeAt Go.RowKit Go.BigFrame
set_option linter.unusedVariables false

theorem ikeyok_any (k : K2) (w : World) : Calls Try.prog 132 #[kv k] w fun e w' => e = .returned (.bool (keyOkB k)) ∧ Below w.heap.size w w' := by
  obtain ⟨n, s⟩ := k
  unfold keyOkB kv
  dsimp only
  have hb : ∀ o, Below w.heap.size w (w.alloc o) := fun o => (Below.refl _ _).alloc (Nat.le_refl _) _
  by_cases h1 : 1 ≤ n
  · by_cases h2 : n ≤ 20
    · by_cases h3 : 1 ≤ s
      · by_cases h4 : s ≤ 99
        · go_enter Try.func132, Try.ntmps132
          go_wp2
          go_ret
          exact ⟨by simp [h1, h2, h3, h4], hb _⟩
        · go_enter Try.func132, Try.ntmps132
          go_wp2
          go_ret
          exact ⟨by simp [h1, h2, h3, h4], hb _⟩
      · go_enter Try.func132, Try.ntmps132
        go_wp2
        go_ret
        exact ⟨by simp [h1, h2, h3]; omega, hb _⟩
    · go_enter Try.func132, Try.ntmps132
      go_wp2
      go_ret
      exact ⟨by simp [h1, h2]; omega, hb _⟩
  · go_enter Try.func132, Try.ntmps132
    go_wp2
    go_ret
    exact ⟨by simp [h1]; omega, hb _⟩
theorem iahead_any (a b : K2) (w : World) : Calls Try.prog 153 #[kv a, kv b] w fun e w' => e = .returned (.bool (aheadB a b)) ∧ Below w.heap.size w w' := by
  obtain ⟨n, s⟩ := a
  obtain ⟨m, t⟩ := b
  have hb : ∀ o o', Below w.heap.size w ((w.alloc o).alloc o') := fun o o' => ((Below.refl _ _).alloc (Nat.le_refl _) _).alloc (by simp) _
  by_cases h : n = m
  · have ha : aheadB (n, s) (m, t) = decide (s < t) := by unfold aheadB; rw [if_pos h]
    rw [ha]
    unfold kv
    dsimp only
    subst h
    go_enter Try.func153, Try.ntmps153
    go_wp2
    go_ret
    exact ⟨rfl, hb _ _⟩
  · have ha : aheadB (n, s) (m, t) = decide (n < m) := by unfold aheadB; rw [if_neg h]
    rw [ha]
    unfold kv
    dsimp only
    go_enter Try.func153, Try.ntmps153
    go_wp2
    go_ret
    exact ⟨rfl, hb _ _⟩
set_option maxRecDepth 100000 in
theorem ikeysok_any (v : Value) (ks : List K2) (w : World) (h : keysAt w v ks) (hs : ks.length ≤ 2000000) : Calls Try.prog 140 #[v] w fun e w' => e = .returned (.bool (keysOkR ks)) ∧ Below w.heap.size w w' := by
  obtain ⟨a, cap, rfl, hcap, hcells⟩ := h
  go_enter Try.func140, Try.ntmps140
  go_wp2
  go_loopw [7] (fun i wr => ∃ k : Nat, k ≤ ks.length ∧ i = .int .i64 k ∧ (List.range k).all (stepB ks) = true ∧ Below w.heap.size w wr) (fun i _ => ks.length - (intOf i).toNat)
  case atStart => exact ⟨0, Nat.zero_le _, rfl, rfl, Below.refl _ _⟩
  case round =>
    obtain ⟨k, hk, rfl, hall, hb⟩ := hrel
    by_cases hlt : k < ks.length
    · obtain ⟨g, off, rfl, hg, hcs⟩ := hcells.resolve_left (by omega)
      have z0 : (0 : Int) ≤ (k : Int) := by omega
      have z1 : (k : Int) < (ks.length : Int) := by omega
      have c1 := hcs k hlt
      have hst : stepB ks k = (keyOkB (ks.getD k (0, 0)) && (decide (k = 0) || aheadB (ks.getD (k - 1) (0, 0)) (ks.getD k (0, 0)))) := rfl
      have hsu := keysR_succ ks k
      rw [hst, hall] at hsu
      have HF := Lib.hid (fun (h : stepB ks k = false) => stepB_false hlt h)
      rw [hst] at HF
      have c0 : 0 < k → _ := fun h => hcs (k - 1) (by omega)
      rename_i wr
      have C1 : wr.cell? ⟨g, off + k * 2, none⟩ = some (.int .i64 (ks.getD k (0, 0)).1) := (hb.cell (p := ⟨g, off + k * 2, none⟩) hg).trans c1.1
      have C2 : wr.cell? ⟨g, off + k * 2 + 1, none⟩ = some (.int .i64 (ks.getD k (0, 0)).2) := (hb.cell (p := ⟨g, off + k * 2 + 1, none⟩) hg).trans c1.2
      generalize ks.getD k (0, 0) = kx at *
      obtain ⟨p, q⟩ := kx
      dsimp only at C1 C2
      have hb1 : Below w.heap.size w (wr.alloc (.cells #[.int .i64 p, .int .i64 q] 36)) := hb.alloc hb.size _
      have LK : ∀ w', Below (wr.heap.size + 1) (wr.alloc (.cells #[.int .i64 p, .int .i64 q] 36)) w' → (loadVar 36 ⟨wr.heap.size, 0, none⟩).run Try.prog w' = .ok (kv (p, q)) w' := fun w' hb' =>
        key_load (k := (p, q)) (w := wr.alloc (.cells #[.int .i64 p, .int .i64 q] 36)) (g := wr.heap.size) (o := 0) ⟨by simp, by simp⟩ (by simp) (by simpa using hb')
      have LK0 := Lib.hid LK; clear LK
      have HSU := Lib.hid hsu; have C0 := Lib.hid c0; clear hsu c0 hst c1 hcells hcs
      have HK := Lib.hid (fun w => ikeyok_any (p, q) w)
      have HB1 := Lib.hid hb1; clear hb1
      go_wp2_with fail
      refine (HK.out _).mono ?_
      rintro e w2 ⟨rfl, hb2⟩
      have hbw2 := HB1.out.trans (hb2.mono HB1.out.size)
      have LK : ∀ w', Below w2.heap.size w2 w' → (loadVar 36 ⟨wr.heap.size, 0, none⟩).run Try.prog w' = .ok (kv (p, q)) w' := fun w' hb' => LK0.out w' ((by simpa using hb2 : Below (wr.heap.size + 1) _ w2).trans (hb'.mono (by have := hb2.size; simp at this; omega)))
      clear LK0 C1 C2 HK hb2 HB1
      cases hko : keyOkB (p, q) with
      | false =>
        rw [hko] at HF
        go_wp2
        go_ret
        exact ⟨by rw [HF.out rfl]; rfl, hbw2⟩
      | true =>
        rw [hko] at HF HSU
        by_cases hk0 : k = 0
        · subst hk0
          have y0 : ¬ (0 : Int) < ((0 : Nat) : Int) := by omega
          clear HF C0
          go_wp2
          refine wp_region_below w2 (by kernel_rfl) (by kernel_rfl) (Below.refl _ _) ?_
          repeat (first
            | go_big_quiet_skip
            | (go_big_quiet_want
               first
                 | (go_big_quiet_op; go_big_quiet_on)
                 | (refine q_load 36 _ _ _ rfl rfl LK ?_; simp only [Act.put, List.setIfInBounds_toArray, List.set_cons_zero, List.set_cons_succ]; go_big_quiet_on)
                 | (go_big_quiet_op; refine ⟨_, fun _ _ => rfl, ?_⟩; go_big_quiet_on)
                 | (go_big_quiet_op; go_big_quiet_on)))
          refine wpQuiet_nil ?_
          intro w3 hb3
          have hbw3 := hbw2.trans (hb3.mono hbw2.size)
          clear LK
          go_wp2
          exact ⟨⟨1, by omega, by go_num, by rw [HSU.out]; rfl, hbw3⟩, by simp [intOf]; omega⟩
        · have ha := C0.out (by omega)
          have L2 : ∀ w', Below w2.heap.size w2 w' → (loadVar 36 ⟨g, off + (k - 1) * 2, none⟩).run Try.prog w' = .ok (kv (ks.getD (k - 1) (0, 0))) w' := fun w' hb' => key_load ha hg (hbw2.trans (hb'.mono hbw2.size))
          generalize ks.getD (k - 1) (0, 0) = ky at *
          have HA := Lib.hid (fun w => iahead_any ky (p, q) w)
          have d0 : decide (k = 0) = false := by simpa using hk0
          rw [d0] at HF HSU
          have y0 : (0 : Int) < (k : Int) := by omega
          have yk : 0 < k := by omega
          have y1 : (0 : Int) ≤ (k : Int) - 1 := by omega
          have y2 : (k : Int) - 1 < (ks.length : Int) := by omega
          have ew : IntKind.i64.wrap ((k : Int) - 1) = (k : Int) - 1 := IntWalk.i64_in _ (by omega)
          have et : ((k : Int) - 1).toNat = k - 1 := by omega
          clear C0 ha
          cases hah : aheadB ky (p, q) with
          | false =>
            rw [hah] at HA HF
            have HF2 := HF.out rfl
            have HF3 := Lib.hid HF2; clear HF2 HF HSU
            go_wp2
            refine wp_region_below w2 (by kernel_rfl) (by kernel_rfl) (Below.refl _ _) ?_
            repeat (first
              | go_big_quiet_skip
              | (go_big_quiet_want
                 first
                   | (go_big_quiet_op; go_big_quiet_on)
                   | (refine q_load 36 _ _ _ rfl rfl L2 ?_; simp only [Act.put, List.setIfInBounds_toArray, List.set_cons_zero, List.set_cons_succ]; go_big_quiet_on)
                   | (refine q_load 36 _ _ _ rfl rfl LK ?_; simp only [Act.put, List.setIfInBounds_toArray, List.set_cons_zero, List.set_cons_succ]; go_big_quiet_on)
                   | (go_big_quiet_op; refine ⟨_, fun _ _ => rfl, ?_⟩; go_big_quiet_on)
                   | (go_big_quiet_op; apply Exists.intro; refine ⟨fun w' hw' => ?_, ?_⟩
                      · first
                        | (with_reducible refine (HA.out w').mono ?_
                           rintro e w2 ⟨rfl, hb2⟩
                           exact ⟨rfl, hw'.trans (hb2.mono hw'.size)⟩)
                      go_big_quiet_on)))
            refine wpQuiet_nil ?_
            intro w3 hb3
            have hbw3 := hbw2.trans (hb3.mono hbw2.size)
            clear LK L2 HA
            go_wp2
            go_ret
            exact ⟨by rw [HF3.out]; rfl, hbw3⟩
          | true =>
            rw [hah] at HA HSU
            clear HF
            go_wp2
            refine wp_region_below w2 (by kernel_rfl) (by kernel_rfl) (Below.refl _ _) ?_
            repeat (first
              | go_big_quiet_skip
              | (go_big_quiet_want
                 first
                   | (go_big_quiet_op; go_big_quiet_on)
                   | (refine q_load 36 _ _ _ rfl rfl L2 ?_; simp only [Act.put, List.setIfInBounds_toArray, List.set_cons_zero, List.set_cons_succ]; go_big_quiet_on)
                   | (refine q_load 36 _ _ _ rfl rfl LK ?_; simp only [Act.put, List.setIfInBounds_toArray, List.set_cons_zero, List.set_cons_succ]; go_big_quiet_on)
                   | (go_big_quiet_op; refine ⟨_, fun _ _ => rfl, ?_⟩; go_big_quiet_on)
                   | (go_big_quiet_op; apply Exists.intro; refine ⟨fun w' hw' => ?_, ?_⟩
                      · first
                        | (with_reducible refine (HA.out w').mono ?_
                           rintro e w2 ⟨rfl, hb2⟩
                           exact ⟨rfl, hw'.trans (hb2.mono hw'.size)⟩)
                      go_big_quiet_on)))
            refine wpQuiet_nil ?_
            intro w3 hb3
            have hbw3 := hbw2.trans (hb3.mono hbw2.size)
            clear LK L2 HA
            go_wp2
            exact ⟨⟨k + 1, by omega, by go_num, by rw [HSU.out]; rfl, hbw3⟩, by simp [intOf]; omega⟩
    · obtain rfl : k = ks.length := by omega
      have HF := Lib.hid hall
      go_wp2
      go_ret
      exact ⟨by unfold keysOkR; rw [HF.out]; rfl, hb⟩
end Go.Proofs.Ytjggheoonjajpaa
namespace Go.Proofs.Ytjggheoonjajpaa
open Go.ChangeShapes Go.WideShapes Go.ChangeAt Go.RowKit Go.BigFrame
set_option linter.unusedVariables false

theorem ireadingok_any (r : R3) (w : World) : Calls Try.prog 106 #[rv r] w fun e w' => e = .returned (.bool (rdOkB r)) ∧ Below w.heap.size w w' := by
  obtain ⟨⟨n, s⟩, x⟩ := r
  unfold rdOkB rv
  dsimp only
  have hb : Below w.heap.size w (w.alloc (.cells #[.int .i64 n, .int .i64 s, .string x] 38)) := (Below.refl _ _).alloc (Nat.le_refl _) _
  have L1 := rdk_load (r := ((n, s), x)) (w := w.alloc (.cells #[.int .i64 n, .int .i64 s, .string x] 38)) (g := w.heap.size) (o := 0) ⟨by simp, by simp, by simp⟩ (by simp) (Below.refl _ _)
  have c2 : (w.alloc (.cells #[.int .i64 n, .int .i64 s, .string x] 38)).cell? ⟨w.heap.size, 2, none⟩ = some (.string x) := by simp
  have hlt : w.heap.size < (w.alloc (.cells #[.int .i64 n, .int .i64 s, .string x] 38)).heap.size := by simp
  have H1 := fun w => ikeyok_any (n, s) w
  go_enter Try.func106, Try.ntmps106
  have HZ := Lib.hid (show ((x.size : Int) = 4) = (x.size = 4) from propext (by omega))
  generalize keyOkB (n, s) = p at *
  dsimp only at L1
  cases p with
  | false =>
    go_wp2_with fail
    refine (H1 _).mono ?_
    rintro e w1 ⟨rfl, hb1⟩
    have hB := hb.trans (hb1.mono hb.size)
    go_wp2
    go_ret
    exact ⟨by simp, hB⟩
  | true =>
    go_wp2_with fail
    refine (H1 _).mono ?_
    rintro e w1 ⟨rfl, hb1⟩
    have hB := hb.trans (hb1.mono hb.size)
    have c3 : w1.cell? ⟨w.heap.size, 2, none⟩ = some (.string x) := (hb1.cell (p := ⟨w.heap.size, 2, none⟩) hlt).trans c2
    by_cases h4 : x.size = 4
    · have e4 : (x.size : Int) = 4 := by omega
      clear hb hb1 c2 H1 L1
      go_wp2
      go_ret
      exact ⟨by simp [h4], hB⟩
    · have e4 : ¬ (x.size : Int) = 4 := by omega
      clear hb hb1 c2 H1 L1
      go_wp2
      go_ret
      exact ⟨by simp [h4, e4], hB⟩
end Go.Proofs.Ytjggheoonjajpaa
namespace Go.Proofs.Ytjggheoonjajpaa
open Go
set_option linter.unusedVariables false
set_option linter.unusedSimpArgs false

abbrev Pl := List K2 → Option Nat
theorem getW {W : List C2} {k : Nat} (hk : k < W.length) : W.getD k blankC ∈ W := by
  rw [List.getD, List.getElem?_eq_getElem hk]; exact List.getElem_mem hk
end Go.Proofs.Ytjggheoonjajpaa
namespace Go.Proofs.Ytjggheoonjajpaa
open Go.ChangeShapes Go.WideShapes Go.ChangeAt Go.RowKit Go.BigFrame
set_option linter.unusedVariables false

theorem arr_sz : ∀ w : World, (sizeOf 5).run Try.prog w = .ok 1 w := by
  obtain ⟨i0, h1, h2⟩ : ∃ i, Try.prog.info? 5 = some i ∧ i.size = 1 := by
    have h : (Try.prog.info? 5).map (·.size) = some 1 := by kernel_rfl
    cases hq : Try.prog.info? 5 with
    | none => rw [hq] at h; simp at h
    | some i => rw [hq] at h; exact ⟨i, rfl, by simpa using h⟩
  intro w
  simp [sizeOf, typeInfo, h1, h2]
theorem arr_eql (x y : ByteArray) (hx : x.size = 4) (hy : y.size = 4) (w : World) : (binOp .eql 141 (arr4 x) (arr4 y)).run Try.prog w = .ok (.bool (x.data.toList == y.data.toList)) w :=
  run_eql_bytes w 141 5 4 Try.underlying141 Try.underlying5 arr_sz _ _ (by simpa using hx) (by simpa using hy)
theorem arr_guard (op : BinOp) (x y : Operand) (a b : ByteArray) (w : World) : (eqGuard op 141 x y (arr4 a) (arr4 b)).run Try.prog w = .ok () w := by
  unfold arr4
  exact run_eqGuard_agg w op 141 x y _ _ (by kernel_rfl)
theorem arr4_lit (y : ByteArray) (h : y.size = 4) : ∃ a b c d : Int, arr4 y = .agg #[.int .u8 a, .int .u8 b, .int .u8 c, .int .u8 d] := by
  obtain ⟨a, b, c, d, hd⟩ := four_bytes y h
  exact ⟨a.toNat, b.toNat, c.toNat, d.toNat, by unfold arr4; rw [hd]; rfl⟩
end Go.Proofs.Ytjggheoonjajpaa
namespace Go.Proofs.Ytjggheoonjajpaa
open Go.ChangeShapes Go.WideShapes Go.ChangeAt Go.RowKit Go.BigFrame
set_option linter.unusedVariables false

def zero4L : List UInt8 := [0, 0, 0, 0]
theorem z4_eq (y : ByteArray) : decide (y = z4) = (y.data.toList == zero4L) := by
  rw [Bool.eq_iff_iff, decide_eq_true_eq, beq_iff_eq]
  constructor
  · rintro rfl; rfl
  · intro h
    have : y = ⟨y.data.toList.toArray⟩ := by simp
    rw [this, h]; rfl
set_option maxRecDepth 100000 in
set_option maxHeartbeats 1000000 in
theorem icodeok_any (v : Value) (ks : List K2) (y : ByteArray) (w : World) (h : keysAt w v ks) (hs : ks.length ≤ 2000000) :
    Calls Try.prog 114 #[.agg #[v, .string y]] w fun e w' => e = .returned (.bool (codeOkB (ks, y))) ∧ Below w.heap.size w w' := by
  have hb := (Below.refl w.heap.size w).alloc (Nat.le_refl _) (.cells #[v, .string y] 42)
  have HB := Lib.hid hb
  have HX := Lib.hid (heap_alloc_new w (.cells #[v, .string y] 42))
  have HK := Lib.hid (ikeysok_any v ks (w.alloc (.cells #[v, .string y] 42)) (keysAt_below h hb) hs)
  obtain ⟨a, cap, rfl, -, -⟩ := h
  unfold codeOkB
  dsimp only
  obtain ⟨x0, x1, -, -⟩ := row2_of HX.out
  clear hb
  go_enter Try.func114, Try.ntmps114
  by_cases h1 : ks.length ≤ 6
  · have i1 : ¬ (6 : Int) < (ks.length : Int) := by omega
    have i2 : (ks.length : Int) ≤ 6 := by omega
    go_wp2_with fail
    generalize w.alloc (.cells #[.slice a ks.length cap, .string y] 42) = W at *
    refine HK.out.mono ?_
    rintro e w1 ⟨rfl, hb1⟩
    have HB1 := Lib.hid (HB.out.trans (hb1.mono HB.out.size))
    clear x0 x1
    obtain ⟨x0, x1⟩ := cd_cells HX.out hb1
    clear hb1 HK HX HB
    cases h2 : keysOkR ks with
    | false =>
      go_wp2
      go_ret
      exact ⟨by simp [h1, h2], HB1.out⟩
    | true =>
      by_cases h3 : y.size = 4
      · have i3 : (y.size : Int) = 4 := by omega
        by_cases h4 : 0 < ks.length
        · have i4 : (0 : Int) < (ks.length : Int) := by omega
          go_wp2
          go_ret
          exact ⟨by simp [h1, h2, h3, h4], HB1.out⟩
        · have i4 : ¬ (0 : Int) < (ks.length : Int) := by omega
          have AE := fun w => arr_eql y z4 h3 rfl w
          have AG := fun op x z w => arr_guard op x z y z4 w
          have HL := Lib.hid (iloadbytes_any y w1 h3)
          obtain ⟨p, q, r, s, hp⟩ := arr4_lit y h3
          rw [hp] at AE AG HL
          rw [show arr4 z4 = .agg #[.int .u8 0, .int .u8 0, .int .u8 0, .int .u8 0] from rfl] at AE AG
          rw [show z4.data.toList = zero4L from rfl, ← z4_eq] at AE
          clear hp
          generalize hbo : decide (y = z4) = bo at *
          go_wp2_with fail
          refine HL.out.mono ?_
          rintro e w2 ⟨rfl, hb2⟩
          have HB2 := Lib.hid (HB1.out.trans (hb2.mono HB1.out.size))
          clear hb2 HL x0 x1 HB1
          go_wp2
          go_ret
          exact ⟨by rw [← hbo]; simp [h1, h2, h3, h4], HB2.out⟩
      · have i3 : ¬ (y.size : Int) = 4 := by omega
        go_wp2
        go_ret
        exact ⟨by simp [h1, h2, h3], HB1.out⟩
  · have i1 : (6 : Int) < (ks.length : Int) := by omega
    have i2 : ¬ (ks.length : Int) ≤ 6 := by omega
    go_wp2
    go_ret
    exact ⟨by simp [h1], HB.out⟩
end Go.Proofs.Ytjggheoonjajpaa
namespace Go.Proofs.Ytjggheoonjajpaa
open Go
section
variable {P : Program} {ops : Array Oper} {Q : Exit → Act → World → Prop} {md : Region.Mode} {S : World → Prop}

/-- whatever order is picked from here on; behind each operation a sharper condition holds -/
def wpG (P : Program) (md : Region.Mode) (ops : Array Oper) (Q : Exit → Act → World → Prop) : Nat → (World → Prop) → Array Bool → Act → World → Prop
  | 0, _, listed, a, w => Region.ready md ops listed = [] ∧ Q .normal a w
  | fuel + 1, S, listed, a, w =>
    (Region.ready md ops listed = [] → Q .normal a w) ∧
    ∀ i ∈ Region.ready md ops listed, wpOp P ops Q i (fun a' w' => ∃ S' : World → Prop, (∀ x, S' x → S x) ∧ S' w' ∧ wpG P md ops Q fuel S' (listed.setIfInBounds i true) a' w') a w

theorem wpAny_of_G : ∀ (fuel : Nat) (S : World → Prop) (listed : Array Bool) (a : Act) (w : World), wpG P md ops Q fuel S listed a w → wpAny P md ops Q fuel listed a w
  | 0, _, _, _, _, h => h
  | fuel + 1, S, _, _, _, h => ⟨h.1, fun i hi => wpOp_mono (fun a' w' ⟨S', _, _, h'⟩ => wpAny_of_G fuel S' _ a' w' h') (h.2 i hi)⟩

theorem YieldsIf.sharper {S' : World → Prop} {o : Oper} {v : Value} {a : Act} (h : ∀ x, S' x → S x) (hy : YieldsIf P ops S o v a) : YieldsIf P ops S' o v a :=
  hy.imp (fun ⟨hw, hv⟩ => ⟨hw, fun w hs => hv w (h w hs)⟩) id

theorem wpG_first {i : Nat} {oi : Oper} {v : Value} (hi : ops[i]? = some oi) (hsel : ∀ (j : Nat) (o : Oper) cs b, ops[j]? = some o → o.op ≠ .select cs b)
    (hQ : ∀ c a w, Q (.panic c) (a.put oi.dst v) w → Q (.panic c) a w) :
    ∀ (fuel : Nat) (S : World → Prop) (listed : Array Bool) (a : Act) (w : World),
      (∀ j oj, ops[j]? = some oj → j ≠ i → listed.getD j true = false → (∀ e ∈ oj.after, Region.binds md e = true → e.on ≠ i) → oi.apart ops oj = true) →
      i ∈ Region.ready md ops listed → YieldsIf P ops S oi v a → S w →
      wpG P md ops Q fuel S (listed.setIfInBounds i true) (a.put oi.dst v) w → wpG P md ops Q (fuel + 1) S listed a w := by
  intro fuel
  induction fuel with
  | zero =>
    intro S listed a w _ hr hy hS H
    refine ⟨fun h => (by rw [h] at hr; cases hr), fun j hj => ?_⟩
    by_cases hji : j = i
    · subst hji; exact hy.wpOp hi hS ⟨S, fun _ h => h, hS, H⟩
    · have := ready_mono hj hji
      rw [H.1] at this
      cases this
  | succ fuel ih =>
    intro S listed a w hfree hr hy hS H
    refine ⟨fun h => (by rw [h] at hr; cases hr), fun j hj => ?_⟩
    by_cases hji : j = i
    · subst hji; exact hy.wpOp hi hS ⟨S, fun _ h => h, hS, H⟩
    · have h1 := H.2 j (ready_mono hj hji)
      obtain ⟨hjun, oj, hoj, hall⟩ := mem_ready.1 hj
      have hnot : ∀ e ∈ oj.after, Region.binds md e = true → e.on ≠ i := fun e he hb heq => by
        have h1 := hall e he hb
        have h0 := (mem_ready.1 hr).1
        rw [heq] at h1
        rcases Nat.lt_or_ge i listed.size with h' | h'
        · simp [h'] at h0 h1; rw [h0] at h1; cases h1
        · simp [Array.getElem?_eq_none h'] at h1
      have h2 := wpOp_putIf hoj (hfree j oj hoj hji hjun hnot) (fun cs b => hsel i oi cs b hi) (fun cs b => hsel j oj cs b hoj) hQ hy h1
      have hfree' : ∀ k ok, ops[k]? = some ok → k ≠ i → (listed.setIfInBounds j true).getD k true = false →
          (∀ e ∈ ok.after, Region.binds md e = true → e.on ≠ i) → oi.apart ops ok = true := fun k ok hk hki hun hno => by
        refine hfree k ok hk hki ?_ hno
        by_cases hjk : j = k
        · subst hjk; exact hjun
        · rw [getD_set_ne true hjk] at hun; exact hun
      refine wpOp_mono (fun a' w' h3 => ?_) h2
      obtain ⟨hy3, S', hs, hs2, h4⟩ := h3
      refine ⟨S', hs, hs2, ih S' (listed.setIfInBounds j true) a' w' hfree' (ready_mono hr (Ne.symm hji)) (YieldsIf.sharper hs hy3) hs2 ?_⟩
      rw [Array.setIfInBounds_comm _ _ hji]
      exact h4

/-- an operation that hands back a value and nothing else -/
def valueOp : Op → Bool
  | .move _ | .assign _ | .pick _ _ _ | .load _ _ | .binOp _ _ _ _ _ | .unOp _ _ _ | .convert _ _ _ | .slice _ _ _ _ _ | .fieldAddr _ _ _ | .field _ _ _ | .indexAddr _ _ _ | .index _ _ _ | .extract _ _ => true
  | _ => false
theorem value_of_run {α : Type} (s : Sem α) (f : α → Value) (w w' : World) (n : Next) (h : ((do pure (Next.value (f (← s)))) : Sem Next).run P w = .ok n w') : ∃ u, n = .value u := by
  rw [Sem.run_bind] at h
  cases hs : s.run P w with
  | ok v w1 =>
    rw [hs] at h
    simp only [Result.andThen, Sem.run_pure, Result.ok.injEq] at h
    exact ⟨_, h.1.symm⟩
  | halt x w1 => rw [hs] at h; simp [Result.andThen] at h
theorem valueOp_spec {o : Oper} (h : valueOp o.op = true) (ρ : Operand → Value) (w w' : World) (n : Next) (hr : (execOp ρ o).run P w = .ok n w') : ∃ u, n = .value u := by
  unfold execOp at hr
  cases ho : o.op <;> rw [ho] at h hr <;> simp only [valueOp] at h <;> try (exact absurd h Bool.false_ne_true)
  all_goals dsimp only at hr
  all_goals first
    | (simp only [Sem.run_pure, Result.ok.injEq] at hr; exact ⟨_, hr.1.symm⟩)
    | exact value_of_run _ (fun v => v) w w' n hr
    | exact value_of_run _ _ w w' n hr
theorem yields_of_quiet {o : Oper} {a : Act} {v : Value} (hv : valueOp o.op = true) (hw : Region.wanted o (yielded ops a.tmps) = true) (h : ∀ w, S w → o.quietAt P a S w v) : YieldsIf P ops S o v a := by
  refine .inl ⟨hw, fun w hs => ?_⟩
  have h1 := h w hs
  unfold Oper.quietAt at h1
  cases hr : (execOp a.eval o).run P w with
  | ok n w' =>
    obtain ⟨u, rfl⟩ := valueOp_spec hv a.eval w w' n hr
    rw [hr] at h1
    simp only [Oper.quietUpon] at h1
    obtain ⟨rfl, rfl⟩ := h1
    rfl
  | halt x w' => rw [hr] at h1; exact absurd h1 (by simp [Oper.quietUpon])

/-- the takes of a segment, in the order of the text -/
def takesB (md : Region.Mode) (l : List Oper) : List Bool → Nat → Array Bool → Bool
  | true :: m, i, listed => (match l[i]? with | some o => valueOp o.op | none => false) && Region.free md l.toArray listed i && (Region.ready md l.toArray listed).contains i && takesB md l m (i + 1) (listed.setIfInBounds i true)
  | false :: m, i, listed => takesB md l m (i + 1) listed
  | [], _, _ => true
def takenL : List Bool → Nat → Array Bool → Array Bool
  | true :: m, i, listed => takenL m (i + 1) (listed.setIfInBounds i true)
  | false :: m, i, listed => takenL m (i + 1) listed
  | [], _, listed => listed
def countT : List Bool → Nat
  | true :: m => countT m + 1
  | false :: m => countT m
  | [] => 0
theorem takes_G {l : List Oper} (hs : Region.noSelect l.toArray = true) (hQ : ∀ c a d v w, Q (.panic c) (Act.put a d v) w → Q (.panic c) a w) {S : World → Prop} {w : World} (hS : S w) {R : Act → Prop} :
    ∀ (m : List Bool) (i fuel : Nat) (listed : Array Bool) (a : Act), takesB md l m i listed = true → m.length + i ≤ l.length →
      (∀ a', R a' → wpG P md l.toArray Q fuel S (takenL m i listed) a' w) → wpQuiet P l.toArray S R (maskRows m (l.drop i)) a → wpG P md l.toArray Q (fuel + countT m) S listed a w
  | [], i, fuel, listed, a, _, _, hk, h => hk a (by simpa [maskRows, wpQuiet] using h)
  | false :: m, i, fuel, listed, a, hb, hl, hk, h => by
    have hlt : i < l.length := by simp only [List.length_cons] at hl; omega
    rw [List.drop_eq_getElem_cons hlt] at h
    exact takes_G hs hQ hS m (i + 1) fuel listed a hb (by simp only [List.length_cons] at hl; omega) hk h
  | true :: m, i, fuel, listed, a, hb, hl, hk, h => by
    have hlt : i < l.length := by simp only [List.length_cons] at hl; omega
    rw [List.drop_eq_getElem_cons hlt] at h
    simp only [takesB, Bool.and_eq_true] at hb
    obtain ⟨⟨⟨hv, hf⟩, hr⟩, hb⟩ := hb
    have ho : l.toArray[i]? = some l[i] := by simp [hlt]
    rw [show l[i]? = some l[i] from by simp [hlt]] at hv
    dsimp only at hv
    simp only [maskRows, wpQuiet] at h
    have hin : i ∈ Region.ready md l.toArray listed := by simpa using hr
    show wpG P md l.toArray Q (fuel + countT m + 1) S listed a w
    by_cases hw : Region.wanted l[i] (yielded l.toArray a.tmps) = true
    · rw [if_pos hw] at h
      obtain ⟨v, h1, h2⟩ := h
      exact wpG_first ho (Region.noSelect_spec hs) (fun c a w => hQ c a _ _ w) _ S listed a w (Region.free_spec ho hf) hin (yields_of_quiet hv hw h1) hS
        (takes_G hs hQ hS m (i + 1) fuel _ _ hb (by simp only [List.length_cons] at hl; omega) hk h2)
    · rw [if_neg hw] at h
      exact wpG_first ho (Region.noSelect_spec hs) (fun c a w => hQ c a _ _ w) _ S listed a w (Region.free_spec ho hf) hin (.inr ⟨by simpa using hw, rfl⟩) hS
        (takes_G hs hQ hS m (i + 1) fuel _ _ hb (by simp only [List.length_cons] at hl; omega) hk h)
theorem wpG_done {listed : Array Bool} {a : Act} {w : World} (hr : Region.ready md ops listed = []) (h : Q .normal a w) : ∀ fuel, wpG P md ops Q fuel S listed a w
  | 0 => ⟨hr, h⟩
  | _ + 1 => ⟨fun _ => h, by rw [hr]; simp⟩
end
end Go.Proofs.Ytjggheoonjajpaa
namespace Go.Proofs.Ytjggheoonjajpaa
open Go
section
variable {P : Program} {Q : Exit → Act → World → Prop} {md : Region.Mode} {S : World → Prop}
def segtB (md : Region.Mode) (l : List Oper) (m : List Bool) (rd : List Nat) (fuel fuel' : Nat) (listed : Array Bool) : Bool :=
  decide (fuel = fuel' + 1 + countT m) && decide (m.length ≤ l.length) && takesB md l m 0 listed && decide (Region.ready md l.toArray (takenL m 0 listed) = rd) && !rd.isEmpty
/-- what reads is taken; then one after another of what is ready is tried -/
theorem wpG_seg {l : List Oper} (m : List Bool) (rd : List Nat) (fuel' : Nat) {fuel : Nat} {listed : Array Bool} {a : Act} {w : World} (hs : Region.noSelect l.toArray = true)
    (hQ : ∀ c a d v w, Q (.panic c) (Act.put a d v) w → Q (.panic c) a w) (hb : segtB md l m rd fuel fuel' listed = true) (hS : S w)
    (h : wpQuiet P l.toArray S (fun a' => ∀ i ∈ rd, wpOp P l.toArray Q i (fun a'' w'' => ∃ S' : World → Prop, (∀ x, S' x → S x) ∧ S' w'' ∧ wpG P md l.toArray Q fuel' S' ((takenL m 0 listed).setIfInBounds i true) a'' w'') a' w) (maskRows m l) a) :
    wpG P md l.toArray Q fuel S listed a w := by
  simp only [segtB, Bool.and_eq_true, decide_eq_true_eq, Bool.not_eq_true'] at hb
  obtain ⟨⟨⟨⟨h1, h2⟩, h3⟩, h4⟩, h5⟩ := hb
  subst h1
  refine takes_G (P := P) (md := md) hs hQ hS (R := fun a' => ∀ i ∈ rd, wpOp P l.toArray Q i (fun a'' w'' => ∃ S' : World → Prop, (∀ x, S' x → S x) ∧ S' w'' ∧ wpG P md l.toArray Q fuel' S' ((takenL m 0 listed).setIfInBounds i true) a'' w'') a' w) m 0 (fuel' + 1) listed a h3 (by omega) (fun a' hq => ?_) (by simpa using h)
  refine ⟨fun h0 => (by rw [h4] at h0; rw [h0] at h5; cases h5), fun j hj => ?_⟩
  rw [h4] at hj
  exact hq j hj
def segeB (md : Region.Mode) (l : List Oper) (m : List Bool) (fuel : Nat) (listed : Array Bool) : Bool :=
  decide (countT m ≤ fuel) && decide (m.length ≤ l.length) && takesB md l m 0 listed && decide (Region.ready md l.toArray (takenL m 0 listed) = [])
theorem wpG_end {l : List Oper} (m : List Bool) {fuel : Nat} {listed : Array Bool} {a : Act} {w : World} (hs : Region.noSelect l.toArray = true)
    (hQ : ∀ c a d v w, Q (.panic c) (Act.put a d v) w → Q (.panic c) a w) (hb : segeB md l m fuel listed = true) (hS : S w)
    (h : wpQuiet P l.toArray S (fun a' => Q .normal a' w) (maskRows m l) a) : wpG P md l.toArray Q fuel S listed a w := by
  simp only [segeB, Bool.and_eq_true, decide_eq_true_eq] at hb
  obtain ⟨⟨⟨h1, h2⟩, h3⟩, h4⟩ := hb
  have := takes_G (P := P) (md := md) hs hQ hS (R := fun a' => Q .normal a' w) m 0 (fuel - countT m) listed a h3 (by omega) (fun a' hq => wpG_done h4 hq _) (by simpa using h)
  rwa [Nat.sub_add_cancel h1] at this
theorem wp_region_G {id : Nat} {a : Act} {w : World} {l : List Oper} (S : World → Prop) (hm : P.follows .mixedOrders = true) (h : wpG P .any l.toArray Q l.length S (Array.replicate l.length false) a w.drew) :
    (Code.region id l.toArray true).wp P Q a w := wp_region_any hm (wpAny_of_G _ _ _ _ _ (by simpa using h))
/-- one that is carried out -/
theorem segt_run {l : List Oper} {fuel : Nat} {listed : Array Bool} {i : Nat} {o : Oper} {a : Act} {w : World} (ho : l.toArray[i]? = some o) (hw : Region.wanted o (yielded l.toArray a.tmps) = true)
    (h : ∀ K : Act → World → Prop, (∀ a' w', (∃ S' : World → Prop, (∀ x, S' x → S x) ∧ S' w' ∧ wpG P md l.toArray Q fuel S' listed a' w') → K a' w') → o.wp P a w K Q) :
    wpOp P l.toArray Q i (fun a'' w'' => ∃ S' : World → Prop, (∀ x, S' x → S x) ∧ S' w'' ∧ wpG P md l.toArray Q fuel S' listed a'' w'') a w := by
  unfold wpOp
  simp only [ho, hw, if_true]
  exact .inl (h _ fun _ _ h => h)
end
end Go.Proofs.Ytjggheoonjajpaa
namespace Go.Proofs.Ytjggheoonjajpaa
open Go.ChangeShapes Go.WideShapes Go.ChangeAt Go.RowKit Go.BigFrame Go.Maps
set_option linter.unusedVariables false
set_option linter.unusedSimpArgs false

/-- all old blocks are as they were, but those of X -/
structure KeepX (X : Nat → Prop) (w w' : World) : Prop where
  os : w'.os = w.os
  tape : w'.tape = w.tape
  output : w'.output = w.output
  size : w.heap.size ≤ w'.heap.size
  block : ∀ k, k < w.heap.size → ¬ X k → w'.heap[k]? = w.heap[k]?
theorem KeepX.refl (X : Nat → Prop) (w : World) : KeepX X w w := ⟨rfl, rfl, rfl, Nat.le_refl _, fun _ _ _ => rfl⟩
theorem KeepX.trans {X : Nat → Prop} {a b c : World} (h : KeepX X a b) (k : KeepX X b c) : KeepX X a c :=
  ⟨k.os.trans h.os, k.tape.trans h.tape, k.output.trans h.output, Nat.le_trans h.size k.size, fun j hj hx => (k.block j (Nat.lt_of_lt_of_le hj h.size) hx).trans (h.block j hj hx)⟩
theorem KeepX.below {X : Nat → Prop} {a b : World} (h : Below a.heap.size a b) : KeepX X a b := ⟨h.os, h.tape, h.output, h.size, fun k hk _ => h.block k hk⟩
theorem KeepX.grown {X : Nat → Prop} {a b : World} {row : Option Nat} (h : a.grownBy b row) (hx : ∀ k, row = some k → X k) : KeepX X a b := ⟨h.os, h.tape, h.output, h.size, fun k hk hn => h.block k hk (fun e => hn (hx k e.symm))⟩
/-- new blocks, and blocks of X that are not old for base -/
theorem KeepX.set {X : Nat → Prop} {a b : World} (h : KeepX X a b) (k i : Nat) (v : Value) (hx : X k) : KeepX X a (b.setCell ⟨k, i, none⟩ v) := h.trans (KeepX.grown (Lib.grownBy_setCell b k i v) (fun j e => Option.some.inj e ▸ hx))
theorem own_block {w w' : World} {base n : Nat} {e : TypeId} {size : Nat} {v : Value} {xs : List Value} (h : w.ownsRow base e size v n xs) (hb : ∀ g, v.ownBlock = some g → w'.heap[g]? = w.heap[g]?) : w'.ownsRow base e size v n xs := by
  refine ⟨h.1, ?_⟩
  rcases h.2 with h1 | ⟨g, cap, cur, rfl, h2, h3, h4, h5, h6⟩
  · exact .inl h1
  · exact .inr ⟨g, cap, cur, rfl, h2, (hb g rfl).trans h3, h4, h5, h6⟩
theorem KeepX.own {X : Nat → Prop} {w w' : World} (h : KeepX X w w') {base n : Nat} {e : TypeId} {size : Nat} {v : Value} {xs : List Value} (ho : w.ownsRow base e size v n xs) (hx : ∀ g, v.ownBlock = some g → ¬ X g) : w'.ownsRow base e size v n xs :=
  own_block ho fun g hg => h.block g (ho.lt g hg).2 (hx g hg)
theorem KeepX.row {X : Nat → Prop} {w w' : World} (h : KeepX X w w') {b : Nat} {o : Obj} (hr : w.heap[b]? = some o) (hx : ¬ X b) : w'.heap[b]? = some o := (h.block b (Array.getElem?_eq_some_iff.1 hr).1 hx).trans hr
end Go.Proofs.Ytjggheoonjajpaa
namespace Go.Proofs.Ytjggheoonjajpaa
open Go.ChangeShapes Go.WideShapes Go.ChangeAt Go.RowKit Go.BigFrame
set_option linter.unusedVariables false
set_option linter.unusedSimpArgs false

theorem TcO.other {w W W' : World} {g : Nat} {us : List Value} {L : List C2} {b : Nat} (h : TcO w W g us L) (hg : W.grownBy W' (some b)) (hb : w.heap.size ≤ b) (hlt : b < g) : TcO w W' g us L := by
  refine ⟨h.below.grown hg h.below.size (fun j e => by cases e; exact hb), h.ge, h.len, h.own.kept hg (.inr fun e => by have : g = b := Option.some.inj e; omega), fun i hi => (h.keys i hi).kept hg ?_, h.dist⟩
  cases hv : (us.getD i undef).ownBlock with
  | none => exact .inl rfl
  | some j => exact .inr fun e => by have h1 := ((h.keys i hi).lt j hv).1; have := Option.some.inj e; omega
theorem TcO.rebase {w0 w W : World} {g : Nat} {us : List Value} {L : List C2} (h : TcO w W g us L) (hb : Below w0.heap.size w0 w) : TcO w0 W g us L :=
  ⟨hb.trans (h.below.mono hb.size), Nat.le_trans hb.size h.ge, h.len, own_base h.own hb.size, h.keys, h.dist⟩
/-- a station made anew -/
structure ToSa (w W : World) (s : Stn) (gk gb gh : Nat) (us : List Value) : Prop where
  buf : TcO w W gb us s.buf
  own : W.ownsRow w.heap.size 38 3 (.slice (some ⟨gk, 0, none⟩) s.own.length s.own.length) s.own.length (rdCells s.own)
  heard : W.ownsRow w.heap.size 3 1 (.slice (some ⟨gh, 0, none⟩) s.heard.length s.heard.length) s.heard.length (intsV s.heard)
  kb : gk < gb
  kk : ∀ i, i < s.buf.length → ∀ g, (us.getD i undef).ownBlock = some g → gk < g ∧ g < gh
  bh : gb < gh
def toSaV (s : Stn) (gk gb gh : Nat) : Value := saV s (.slice (some ⟨gk, 0, none⟩) s.own.length s.own.length) (.slice (some ⟨gb, 0, none⟩) s.buf.length s.buf.length) (.slice (some ⟨gh, 0, none⟩) s.heard.length s.heard.length)
theorem ToSa.next {w W W' : World} {s : Stn} {gk gb gh : Nat} {us : List Value} (h : ToSa w W s gk gb gh us) (hb : Below W.heap.size W W') : ToSa w W' s gk gb gh us :=
  ⟨h.buf.next hb, own_below h.own hb, own_below h.heard hb, h.kb, h.kk, h.bh⟩
theorem ToSa.lists {w W : World} {s : Stn} {gk gb gh : Nat} {us : List Value} (h : ToSa w W s gk gb gh us) : SaL W s (.slice (some ⟨gk, 0, none⟩) s.own.length s.own.length) (.slice (some ⟨gb, 0, none⟩) s.buf.length s.buf.length) (.slice (some ⟨gh, 0, none⟩) s.heard.length s.heard.length) :=
  ⟨rdAt_own h.own, h.buf.at, inAt_own h.heard rfl⟩
set_option maxRecDepth 100000 in
set_option maxHeartbeats 4000000 in
theorem tostation_any (s : Stn) (vo vb vh : Value) (w : World) (h : SaL w s vo vb vh) (hk : s.own.length ≤ 1900000) (hw : s.buf.length ≤ 1900000) (hx : ∀ x ∈ s.buf, x.1.length ≤ 1900000) (hh : s.heard.length ≤ 1900000) :
    Calls Try.prog 34 #[saV s vo vb vh] w fun e w' => ∃ gk gb gh us, e = .returned (toSaV s gk gb gh) ∧ ToSa w w' s gk gb gh us := by
  obtain ⟨id, al, sq, mo, ow, bu, he⟩ := s
  obtain ⟨h1, h2, h3⟩ := h
  dsimp only at *
  have HT := Lib.hid (fun wx (hb : Below w.heap.size w wx) => toreadings_any vo ow wx (rdAt_below h1 hb) (by omega))
  have HC := Lib.hid (fun wx (hb : Below w.heap.size w wx) => tocodes_any vb bu wx (cdAv_below h2 hb) hw hx)
  have HI := Lib.hid (fun wx (hb : Below w.heap.size w wx) => toints_any vh he wx (inAt_below h3 hb) (by omega))
  obtain ⟨co, cp, rfl, -, -⟩ := h1
  obtain ⟨cb, cc, rfl, -, -⟩ := h2
  obtain ⟨ch, ci, rfl, -, -⟩ := h3
  have hb0 := (Below.refl w.heap.size w).alloc (Nat.le_refl _) (.cells #[.int .i64 id, .bool al, .int .i64 sq, .int .i64 mo, .slice co ow.length cp, .slice cb bu.length cc, .slice ch he.length ci] 62)
  have hb1 := hb0.alloc hb0.size (.cells #[.int .i64 0, .bool false, .int .i64 0, .int .i64 0, .slice none 0 0, .slice none 0 0, .slice none 0 0] 28)
  have hb2 := hb1.alloc hb1.size (.cells #[.int .i64 0, .bool false, .int .i64 0, .int .i64 0, .slice none 0 0, .slice none 0 0, .slice none 0 0] 28)
  have hA := heap_first (w.alloc (.cells #[.int .i64 id, .bool al, .int .i64 sq, .int .i64 mo, .slice co ow.length cp, .slice cb bu.length cc, .slice ch he.length ci] 62)) (.cells #[.int .i64 0, .bool false, .int .i64 0, .int .i64 0, .slice none 0 0, .slice none 0 0, .slice none 0 0] 28) (.cells #[.int .i64 0, .bool false, .int .i64 0, .int .i64 0, .slice none 0 0, .slice none 0 0, .slice none 0 0] 28)
  have hN := heap_alloc_new ((w.alloc (.cells #[.int .i64 id, .bool al, .int .i64 sq, .int .i64 mo, .slice co ow.length cp, .slice cb bu.length cc, .slice ch he.length ci] 62)).alloc (.cells #[.int .i64 0, .bool false, .int .i64 0, .int .i64 0, .slice none 0 0, .slice none 0 0, .slice none 0 0] 28)) (.cells #[.int .i64 0, .bool false, .int .i64 0, .int .i64 0, .slice none 0 0, .slice none 0 0, .slice none 0 0] 28)
  have e1 : (w.alloc (.cells #[.int .i64 id, .bool al, .int .i64 sq, .int .i64 mo, .slice co ow.length cp, .slice cb bu.length cc, .slice ch he.length ci] 62)).heap.size = w.heap.size + 1 := by simp
  have e2 : ((w.alloc (.cells #[.int .i64 id, .bool al, .int .i64 sq, .int .i64 mo, .slice co ow.length cp, .slice cb bu.length cc, .slice ch he.length ci] 62)).alloc (.cells #[.int .i64 0, .bool false, .int .i64 0, .int .i64 0, .slice none 0 0, .slice none 0 0, .slice none 0 0] 28)).heap.size = w.heap.size + 2 := by simp
  have h0 : (((w.alloc (.cells #[.int .i64 id, .bool al, .int .i64 sq, .int .i64 mo, .slice co ow.length cp, .slice cb bu.length cc, .slice ch he.length ci] 62)).alloc (.cells #[.int .i64 0, .bool false, .int .i64 0, .int .i64 0, .slice none 0 0, .slice none 0 0, .slice none 0 0] 28)).alloc (.cells #[.int .i64 0, .bool false, .int .i64 0, .int .i64 0, .slice none 0 0, .slice none 0 0, .slice none 0 0] 28)).heap[w.heap.size]? = some (.cells #[.int .i64 id, .bool al, .int .i64 sq, .int .i64 mo, .slice co ow.length cp, .slice cb bu.length cc, .slice ch he.length ci] 62) :=
    (Below.heap_alloc _ _ _ (by rw [e2]; omega)).trans (heap_first w _ _)
  rw [e1] at hA
  rw [e2] at hN
  have HB := Lib.hid hb2
  have HX := Lib.hid h0; have HR := Lib.hid hA; have HO := Lib.hid hN
  clear hb0 hb1 hb2 h0 hA hN e1 e2 hx
  have n1 : w.heap.size ≠ w.heap.size + 2 := by omega
  have n2 : w.heap.size + 1 ≠ w.heap.size + 2 := by omega
  unfold saV
  dsimp only
  go_enter Try.func34, Try.ntmps34
  go_upto_region 2 with (fail)
  generalize (((w.alloc (.cells #[.int .i64 id, .bool al, .int .i64 sq, .int .i64 mo, .slice co ow.length cp, .slice cb bu.length cc, .slice ch he.length ci] 62)).alloc (.cells #[.int .i64 0, .bool false, .int .i64 0, .int .i64 0, .slice none 0 0, .slice none 0 0, .slice none 0 0] 28)).alloc (.cells #[.int .i64 0, .bool false, .int .i64 0, .int .i64 0, .slice none 0 0, .slice none 0 0, .slice none 0 0] 28)) = W at *
  obtain ⟨⟨x0, x1, x2, x3, x4, x5, x6⟩, -⟩ := row7_of HX.out
  obtain ⟨⟨o0, o1, o2, o3, o4, o5, o6⟩, p0, p1, p2, p3, p4, p5, p6⟩ := row7_of HO.out
  go_upto_region 6 with (fail)
  have HB1 := Lib.hid ((((HB.out.setCell (p := ⟨(w.heap.size + 2), 0, none⟩) (by show w.heap.size ≤ w.heap.size + 2; omega) (.int .i64 id)).setCell (p := ⟨(w.heap.size + 2), 1, none⟩) (by show w.heap.size ≤ w.heap.size + 2; omega) (.bool al)).setCell (p := ⟨(w.heap.size + 2), 2, none⟩) (by show w.heap.size ≤ w.heap.size + 2; omega) (.int .i64 sq)).setCell (p := ⟨(w.heap.size + 2), 3, none⟩) (by show w.heap.size ≤ w.heap.size + 2; omega) (.int .i64 mo))
  have HK1 := Lib.hid (show KeepX (fun k => k = w.heap.size + 2) W ((((W.setCell ⟨(w.heap.size + 2), 0, none⟩ (.int .i64 id)).setCell ⟨(w.heap.size + 2), 1, none⟩ (.bool al)).setCell ⟨(w.heap.size + 2), 2, none⟩ (.int .i64 sq)).setCell ⟨(w.heap.size + 2), 3, none⟩ (.int .i64 mo)) from ((((KeepX.refl (fun k => k = w.heap.size + 2) W).set (w.heap.size + 2) 0 (.int .i64 id) rfl).set (w.heap.size + 2) 1 (.bool al) rfl).set (w.heap.size + 2) 2 (.int .i64 sq) rfl).set (w.heap.size + 2) 3 (.int .i64 mo) rfl)
  have HX1 := Lib.hid (HK1.out.row HX.out (by omega))
  have HR1 := Lib.hid (HK1.out.row HR.out (by omega))
  have HO1 := Lib.hid (set_cellsR (j := 3) (.int .i64 mo) (set_cellsR (j := 2) (.int .i64 sq) (set_cellsR (j := 1) (.bool al) (set_cellsR (w := W) (B := w.heap.size + 2) (j := 0) (.int .i64 id) HO.out))))
  simp only [List.setIfInBounds_toArray, List.set_cons_zero, List.set_cons_succ] at HO1
  clear x0 x1 x2 x3 x4 x5 x6 o0 o1 o2 o3 o4 o5 o6 p0 p1 p2 p3 p4 p5 p6 HK1
  generalize ((((W.setCell ⟨(w.heap.size + 2), 0, none⟩ (.int .i64 id)).setCell ⟨(w.heap.size + 2), 1, none⟩ (.bool al)).setCell ⟨(w.heap.size + 2), 2, none⟩ (.int .i64 sq)).setCell ⟨(w.heap.size + 2), 3, none⟩ (.int .i64 mo)) = W2 at *
  obtain ⟨⟨x0, x1, x2, x3, x4, x5, x6⟩, -⟩ := row7_of HX1.out
  go_wp2_with fail
  refine (HT.out _ HB1.out).mono ?_
  rintro e w3 ⟨gk, rfl, hgk, hok, hb3⟩
  have HB3 := Lib.hid (HB1.out.trans (hb3.mono HB1.out.size))
  have HX3 := Lib.hid ((hb3.block _ (Array.getElem?_eq_some_iff.1 HX1.out).1).trans HX1.out)
  have HR3 := Lib.hid ((hb3.block _ (Array.getElem?_eq_some_iff.1 HR1.out).1).trans HR1.out)
  have HO3 := Lib.hid ((hb3.block _ (Array.getElem?_eq_some_iff.1 HO1.out).1).trans HO1.out)
  have hw2 : w.heap.size + 2 < W2.heap.size := (Array.getElem?_eq_some_iff.1 HO1.out).1
  have HKO := Lib.hid hok
  have HGK := Lib.hid (show w.heap.size + 2 < gk ∧ gk < w3.heap.size from ⟨by omega, (hok.lt gk rfl).2⟩)
  clear x0 x1 x2 x3 x4 x5 x6 hb3 hok hgk hw2
  obtain ⟨⟨o0, o1, o2, o3, o4, o5, o6⟩, p0, p1, p2, p3, p4, p5, p6⟩ := row7_of HO3.out
  go_upto_region 7 with (fail)
  have HK4 := Lib.hid (show KeepX (fun k => k = w.heap.size + 2) w3 (w3.setCell ⟨(w.heap.size + 2), 4, none⟩ (.slice (some ⟨gk, 0, none⟩) ow.length ow.length)) from (KeepX.refl (fun k => k = w.heap.size + 2) w3).set (w.heap.size + 2) 4 _ rfl)
  have HB4 := Lib.hid (HB3.out.setCell (p := ⟨(w.heap.size + 2), 4, none⟩) (by show w.heap.size ≤ w.heap.size + 2; omega) (.slice (some ⟨gk, 0, none⟩) ow.length ow.length))
  have HX4 := Lib.hid (HK4.out.row HX3.out (by omega))
  have HR4 := Lib.hid (HK4.out.row HR3.out (by omega))
  have HO4 := Lib.hid (set_cellsR (w := w3) (B := w.heap.size + 2) (j := 4) (.slice (some ⟨gk, 0, none⟩) ow.length ow.length) HO3.out)
  simp only [List.setIfInBounds_toArray, List.set_cons_zero, List.set_cons_succ] at HO4
  have HKO4 := Lib.hid (own_base (HK4.out.own HKO.out (fun g e => by have h9 : gk = g := Option.some.inj e; have := HGK.out.1; omega)) HB1.out.size)
  have HG4 := Lib.hid (show w.heap.size + 2 < gk ∧ gk < (w3.setCell ⟨(w.heap.size + 2), 4, none⟩ (.slice (some ⟨gk, 0, none⟩) ow.length ow.length)).heap.size from ⟨HGK.out.1, Nat.lt_of_lt_of_le HGK.out.2 HK4.out.size⟩)
  clear o0 o1 o2 o3 o4 o5 o6 p0 p1 p2 p3 p4 p5 p6 HKO HGK HK4
  generalize (w3.setCell ⟨(w.heap.size + 2), 4, none⟩ (.slice (some ⟨gk, 0, none⟩) ow.length ow.length)) = W4 at *
  obtain ⟨⟨x0, x1, x2, x3, x4, x5, x6⟩, -⟩ := row7_of HX4.out
  go_wp2_with fail
  refine (HC.out _ HB4.out).mono ?_
  rintro e w5 ⟨gb, us, rfl, hT⟩
  have hb5 := hT.below
  have HB5 := Lib.hid (HB4.out.trans (hb5.mono HB4.out.size))
  have HX5 := Lib.hid ((hb5.block _ (Array.getElem?_eq_some_iff.1 HX4.out).1).trans HX4.out)
  have HR5 := Lib.hid ((hb5.block _ (Array.getElem?_eq_some_iff.1 HR4.out).1).trans HR4.out)
  have HO5 := Lib.hid ((hb5.block _ (Array.getElem?_eq_some_iff.1 HO4.out).1).trans HO4.out)
  have HK5 := Lib.hid (own_below HKO4.out hb5)
  have HT5 := Lib.hid hT
  have HW4 := Lib.hid (show w.heap.size + 2 < W4.heap.size from (Array.getElem?_eq_some_iff.1 HO4.out).1)
  clear x0 x1 x2 x3 x4 x5 x6 hb5 hT
  obtain ⟨⟨o0, o1, o2, o3, o4, o5, o6⟩, p0, p1, p2, p3, p4, p5, p6⟩ := row7_of HO5.out
  go_upto_region 8 with (fail)
  have HK6 := Lib.hid (show KeepX (fun k => k = w.heap.size + 2) w5 (w5.setCell ⟨(w.heap.size + 2), 5, none⟩ (.slice (some ⟨gb, 0, none⟩) bu.length bu.length)) from (KeepX.refl (fun k => k = w.heap.size + 2) w5).set (w.heap.size + 2) 5 _ rfl)
  have HB6 := Lib.hid (HB5.out.setCell (p := ⟨(w.heap.size + 2), 5, none⟩) (by show w.heap.size ≤ w.heap.size + 2; omega) (.slice (some ⟨gb, 0, none⟩) bu.length bu.length))
  have HX6 := Lib.hid (HK6.out.row HX5.out (by omega))
  have HR6 := Lib.hid (HK6.out.row HR5.out (by omega))
  have HO6 := Lib.hid (set_cellsR (w := w5) (B := w.heap.size + 2) (j := 5) (.slice (some ⟨gb, 0, none⟩) bu.length bu.length) HO5.out)
  simp only [List.setIfInBounds_toArray, List.set_cons_zero, List.set_cons_succ] at HO6
  have HKO6 := Lib.hid (HK6.out.own HK5.out (fun g e => by have h9 : gk = g := Option.some.inj e; have := HG4.out.1; omega))
  have HT6 := Lib.hid ((HT5.out.rebase HB4.out).other (Lib.grownBy_setCell w5 (w.heap.size + 2) 5 (.slice (some ⟨gb, 0, none⟩) bu.length bu.length)) (by omega) (by have := HT5.out.ge; have := HW4.out; omega))
  have HGB := Lib.hid (show gk < gb ∧ gb < (w5.setCell ⟨(w.heap.size + 2), 5, none⟩ (.slice (some ⟨gb, 0, none⟩) bu.length bu.length)).heap.size ∧ ∀ i, i < bu.length → ∀ g, (us.getD i undef).ownBlock = some g → gk < g ∧ g < (w5.setCell ⟨(w.heap.size + 2), 5, none⟩ (.slice (some ⟨gb, 0, none⟩) bu.length bu.length)).heap.size from by
    have hs := HK6.out.size
    have h1 := HT5.out.ge
    have h2 := HG4.out
    have h3 := (HT5.out.own.lt gb rfl).2
    refine ⟨by omega, by omega, fun i hi g e => ?_⟩
    have h4 := (HT5.out.keys i hi).lt g e
    omega)
  clear o0 o1 o2 o3 o4 o5 o6 p0 p1 p2 p3 p4 p5 p6 HK5 HT5 HK6
  generalize (w5.setCell ⟨(w.heap.size + 2), 5, none⟩ (.slice (some ⟨gb, 0, none⟩) bu.length bu.length)) = W6 at *
  obtain ⟨⟨x0, x1, x2, x3, x4, x5, x6⟩, -⟩ := row7_of HX6.out
  go_wp2_with fail
  refine (HI.out _ HB6.out).mono ?_
  rintro e w7 ⟨gh, rfl, hgh, hoh, hb7⟩
  have HB7 := Lib.hid (HB6.out.trans (hb7.mono HB6.out.size))
  have HR7 := Lib.hid ((hb7.block _ (Array.getElem?_eq_some_iff.1 HR6.out).1).trans HR6.out)
  have HO7 := Lib.hid ((hb7.block _ (Array.getElem?_eq_some_iff.1 HO6.out).1).trans HO6.out)
  have HKO7 := Lib.hid (own_below HKO6.out hb7)
  have HT7 := Lib.hid (HT6.out.next hb7)
  have HH7 := Lib.hid (own_base hoh HB6.out.size)
  have HGH := Lib.hid (show W6.heap.size ≤ gh ∧ w.heap.size + 2 < W6.heap.size from ⟨hgh, (Array.getElem?_eq_some_iff.1 HO6.out).1⟩)
  clear x0 x1 x2 x3 x4 x5 x6 hb7 hoh hgh
  obtain ⟨⟨o0, o1, o2, o3, o4, o5, o6⟩, p0, p1, p2, p3, p4, p5, p6⟩ := row7_of HO7.out
  obtain ⟨⟨r0', r1', r2', r3', r4', r5', r6'⟩, q0, q1, q2, q3, q4, q5, q6⟩ := row7_of HR7.out
  have HF := Lib.hid (show ToSa w (set7 (w7.setCell ⟨(w.heap.size + 2), 6, none⟩ (.slice (some ⟨gh, 0, none⟩) he.length he.length)) (w.heap.size + 1) (.int .i64 id) (.bool al) (.int .i64 sq) (.int .i64 mo) (.slice (some ⟨gk, 0, none⟩) ow.length ow.length) (.slice (some ⟨gb, 0, none⟩) bu.length bu.length) (.slice (some ⟨gh, 0, none⟩) he.length he.length)) ⟨id, al, sq, mo, ow, bu, he⟩ gk gb gh us from by
    have g1 := Lib.grownBy_setCell w7 (w.heap.size + 2) 6 (.slice (some ⟨gh, 0, none⟩) he.length he.length)
    have g2 := fun W => grown_trans (grown_trans (grown_trans (grown_trans (grown_trans (grown_trans (Lib.grownBy_setCell W (w.heap.size + 1) 0 (.int .i64 id)) (Lib.grownBy_setCell _ (w.heap.size + 1) 1 (.bool al))) (Lib.grownBy_setCell _ (w.heap.size + 1) 2 (.int .i64 sq))) (Lib.grownBy_setCell _ (w.heap.size + 1) 3 (.int .i64 mo))) (Lib.grownBy_setCell _ (w.heap.size + 1) 4 (.slice (some ⟨gk, 0, none⟩) ow.length ow.length))) (Lib.grownBy_setCell _ (w.heap.size + 1) 5 (.slice (some ⟨gb, 0, none⟩) bu.length bu.length))) (Lib.grownBy_setCell _ (w.heap.size + 1) 6 (.slice (some ⟨gh, 0, none⟩) he.length he.length))
    have a1 := HG4.out.1
    have a2 := HGB.out
    have a3 := HGH.out
    refine ⟨(HT7.out.other g1 (by omega) (by omega)).other (g2 _) (by omega) (by omega), ?_, ?_, a2.1, fun i hi g e => ⟨(a2.2.2 i hi g e).1, by have := (a2.2.2 i hi g e).2; omega⟩, by omega⟩
    · exact (HKO7.out.kept g1 (.inr (fun e => by have h9 : gk = w.heap.size + 2 := Option.some.inj e; omega))).kept (g2 _) (.inr (fun e => by have h9 : gk = w.heap.size + 1 := Option.some.inj e; omega))
    · exact (HH7.out.kept g1 (.inr (fun e => by have h9 : gh = w.heap.size + 2 := Option.some.inj e; omega))).kept (g2 _) (.inr (fun e => by have h9 : gh = w.heap.size + 1 := Option.some.inj e; omega)))
  have HFR := Lib.hid (sa_set (W := (w7.setCell ⟨(w.heap.size + 2), 6, none⟩ (.slice (some ⟨gh, 0, none⟩) he.length he.length))) (b := w.heap.size + 1) (T := 28) ((Below.heap_setCell _ ⟨(w.heap.size + 2), 6, none⟩ _ (w.heap.size + 1) n2).trans HR7.out) (.int .i64 id) (.bool al) (.int .i64 sq) (.int .i64 mo) (.slice (some ⟨gk, 0, none⟩) ow.length ow.length) (.slice (some ⟨gb, 0, none⟩) bu.length bu.length) (.slice (some ⟨gh, 0, none⟩) he.length he.length))
  clear n1 n2
  go_wp2
  refine bodyPost_ret (v := toSaV ⟨id, al, sq, mo, ow, bu, he⟩ gk gb gh) ?_ rfl ⟨gk, gb, gh, us, rfl, HF.out⟩
  rw [results_cell (p := 2) (ty := 28) (by kernel_rfl)]
  have l2 := sa_load HFR.out
  simp [asAddr, Result.andThen, l2, saV, toSaV]
end Go.Proofs.Ytjggheoonjajpaa
namespace Go.Proofs.Ytjggheoonjajpaa
open Go.RowKit Go.ChangeShapes Go.WideShapes Go.ChangeAt
set_option linter.unusedVariables false
set_option maxRecDepth 100000 in
set_option maxHeartbeats 1000000 in
theorem eqints_self (va vb : Value) (A : List Int) (w : World) (ha : inAt w va A) (hb : inAt w vb A) (hn : A.length ≤ 4000000) :
    Calls Try.prog 91 #[va, vb] w fun e w' => e = .returned (.bool true) ∧ Below w.heap.size w w' := by
  obtain ⟨a1, c1, rfl, hc1, h1⟩ := ha
  obtain ⟨a2, c2, rfl, hc2, h2⟩ := hb
  generalize hN : A.length = n at *
  rcases Nat.eq_zero_or_pos n with rfl | hp
  · clear h1 h2
    go_enter Try.func91, Try.ntmps91
    go_wp2
    go_loopw [5] (fun i wr => i = .int .i64 0 ∧ wr = w) (fun _ _ => 0)
    case atStart => exact ⟨rfl, rfl⟩
    case round =>
      obtain ⟨rfl, rfl⟩ := hrel
      go_wp2
      go_ret
      exact ⟨rfl, Below.refl _ _⟩
  · obtain ⟨g1, o1, rfl, l1, h1⟩ := h1.resolve_left (by omega)
    obtain ⟨g2, o2, rfl, l2, h2⟩ := h2.resolve_left (by omega)
    go_enter Try.func91, Try.ntmps91
    go_wp2
    go_loopw [5] (fun i wr => ∃ (k : Nat), k ≤ n ∧ i = .int .i64 k ∧ Below w.heap.size w wr)
      (fun i _ => n - (intOf i).toNat)
    case atStart => exact ⟨0, Nat.zero_le _, rfl, Below.refl _ _⟩
    case round =>
      obtain ⟨k, hk, rfl, hbr⟩ := hrel
      by_cases hlt : k < n
      · have z0 : (0 : Int) ≤ (k : Int) := by omega
        have z1 : (k : Int) < (n : Int) := by omega
        have d1 := (hbr.cell (p := ⟨g1, o1 + k, none⟩) l1).trans (h1 k hlt)
        have d2 := (hbr.cell (p := ⟨g2, o2 + k, none⟩) l2).trans (h2 k hlt)
        have R := Lib.hid hbr
        clear h1 h2 hbr
        generalize A[k]?.getD 0 = x at *
        go_wp2
        go_region
        go_wp2
        exact ⟨⟨k + 1, by omega, by go_num, R.out.drew⟩, by simp [intOf] <;> omega⟩
      · obtain rfl : k = n := by omega
        clear h1 h2
        go_wp2
        go_ret
        exact ⟨rfl, hbr⟩
end Go.Proofs.Ytjggheoonjajpaa
namespace Go.Proofs.Ytjggheoonjajpaa
open Go.ChangeShapes Go.WideShapes Go.ChangeAt Go.RowKit Go.BigFrame
set_option linter.unusedVariables false

set_option maxHeartbeats 1000000 in
theorem eqreading_any (p q : R3) (w : World) : Calls Try.prog 126 #[rv p, rv q] w fun e w' => e = .returned (.bool (decide (p = q))) ∧ Below w.heap.size w w' := by
  obtain ⟨⟨a, b⟩, s⟩ := p; obtain ⟨⟨c, d⟩, t⟩ := q
  unfold rv
  dsimp only
  have hb : Below w.heap.size w ((w.alloc (.cells #[.int .i64 a, .int .i64 b, .string s] 38)).alloc (.cells #[.int .i64 c, .int .i64 d, .string t] 38)) := ((Below.refl _ _).alloc (Nat.le_refl _) _).alloc (by simp) _
  have f1 := heap_first w (.cells #[.int .i64 c, .int .i64 d, .string t] 38) (.cells #[.int .i64 a, .int .i64 b, .string s] 38)
  have f2 : ((w.alloc (.cells #[.int .i64 a, .int .i64 b, .string s] 38)).alloc (.cells #[.int .i64 c, .int .i64 d, .string t] 38)).heap[w.heap.size + 1]? = some (.cells #[.int .i64 c, .int .i64 d, .string t] 38) := by
    have := heap_alloc_new (w.alloc (.cells #[.int .i64 a, .int .i64 b, .string s] 38)) (.cells #[.int .i64 c, .int .i64 d, .string t] 38)
    simpa using this
  have hz : ((w.alloc (.cells #[.int .i64 a, .int .i64 b, .string s] 38)).alloc (.cells #[.int .i64 c, .int .i64 d, .string t] 38)).heap.size = w.heap.size + 1 + 1 := by simp
  have HE := fun w => eqkey_any (a, b) (c, d) w
  go_enter Try.func126, Try.ntmps126
  go_wp2_with fail
  generalize ((w.alloc (.cells #[.int .i64 a, .int .i64 b, .string s] 38)).alloc (.cells #[.int .i64 c, .int .i64 d, .string t] 38)) = W at *
  have cs : W.cell? ⟨w.heap.size, 2, none⟩ = some (.string s) := by rw [cell_of_row _ _ 2 _ _ _ f1]; rfl
  have ct : W.cell? ⟨w.heap.size + 1, 2, none⟩ = some (.string t) := by rw [cell_of_row _ _ 2 _ _ _ f2]; rfl
  refine (HE _).mono ?_
  rintro e w1 ⟨rfl, hb1⟩
  have cs1 := (hb1.cell (p := ⟨w.heap.size, 2, none⟩) (by rw [hz]; dsimp only; omega)).trans cs
  have ct1 := (hb1.cell (p := ⟨w.heap.size + 1, 2, none⟩) (by rw [hz]; dsimp only; omega)).trans ct
  have hB := hb.trans (hb1.mono hb.size)
  clear f1 f2 cs ct HE hb hb1 hz
  by_cases hk : (a, b) = (c, d)
  · have e1 : ((a, b) == (c, d)) = true := by rw [hk]; exact beq_self_eq_true _
    rw [e1]
    by_cases h3 : s = t
    · have e2 : s.toList = t.toList := by rw [h3]
      have e3 : decide (((a, b), s) = ((c, d), t)) = true := by rw [hk, h3]; simp
      have e4 : (s == t) = true := by rw [Go.beq_toListBytes, e2]; simp
      have E3 := Lib.hid e3
      clear e1 hk h3 e3
      go_wp2
      go_ret
      exact ⟨by rw [E3.out]; rfl, hB⟩
    · have e2 : ¬ s.toList = t.toList := fun h => h3 ((bytes_toList_iff _ _).1 h)
      have e3 : decide (((a, b), s) = ((c, d), t)) = false := by simp [h3]
      have e4 : (s.toList == t.toList) = false := beq_eq_false_iff_ne.2 e2
      have E3 := Lib.hid e3
      clear e1 hk h3 e3
      go_wp2
      go_ret
      exact ⟨by rw [E3.out]; rfl, hB⟩
  · have e1 : ((a, b) == (c, d)) = false := beq_eq_false_iff_ne.2 hk
    have e3 : decide (((a, b), s) = ((c, d), t)) = false := by
      rw [decide_eq_false_iff_not]; intro h; exact hk (Prod.mk.inj h).1
    rw [e1]
    have E3 := Lib.hid e3
    clear e1 e3 hk
    go_wp2
    go_ret
    exact ⟨by rw [E3.out]; rfl, hB⟩
set_option maxRecDepth 100000 in
set_option maxHeartbeats 1000000 in
theorem eqreadings_any (va vb : Value) (A B : List R3) (w : World) (ha : rdAt w va A) (hb : rdAt w vb B) (hsA : A.length ≤ 4000000) (hsB : B.length ≤ 4000000) :
    Calls Try.prog 89 #[va, vb] w fun e w' => e = .returned (.bool (decide (A = B))) ∧ Below w.heap.size w w' := by
  obtain ⟨aa, ca, rfl, hca, hcA⟩ := ha
  obtain ⟨ab, cb, rfl, hcb, hcB⟩ := hb
  by_cases hl : A.length = B.length
  · have e0 : (A.length : Int) = (B.length : Int) := by omega
    go_enter Try.func89, Try.ntmps89
    rw [hl] at hca hcA ⊢
    go_wp2
    go_loopw [5] (fun i wr => ∃ k : Nat, k ≤ B.length ∧ i = .int .i64 k ∧ (∀ j, j < k → A.getD j r0 = B.getD j r0) ∧ Below w.heap.size w wr) (fun i _ => B.length - (intOf i).toNat)
    case atStart => exact ⟨0, Nat.zero_le _, rfl, fun j hj => by omega, Below.refl _ _⟩
    case round =>
      obtain ⟨k, hk, rfl, hall, hbr⟩ := hrel
      by_cases hlt : k < B.length
      · obtain ⟨ga, offa, rfl, hga, hcsA⟩ := hcA.resolve_left (by omega)
        obtain ⟨gb, offb, rfl, hgb, hcsB⟩ := hcB.resolve_left (by omega)
        have cA := hcsA k hlt
        have cB := hcsB k hlt
        have z0 : (0 : Int) ≤ (k : Int) := by omega
        have z1 : (k : Int) < (B.length : Int) := by omega
        clear hcsA hcsB hcA hcB
        have L1 : ∀ w', Below w.heap.size w w' → (loadVar 38 ⟨ga, offa + k * 3, none⟩).run Try.prog w' = .ok (rv (A.getD k r0)) w' := fun w' h => rd_load cA hga h
        have L2 : ∀ w', Below w.heap.size w w' → (loadVar 38 ⟨gb, offb + k * 3, none⟩).run Try.prog w' = .ok (rv (B.getD k r0)) w' := fun w' h => rd_load cB hgb h
        have HE := Lib.hid (fun w => eqreading_any (A.getD k r0) (B.getD k r0) w)
        clear cA cB
        cases he : decide (A.getD k r0 = B.getD k r0) with
        | true =>
          have hn : ∀ j, j < k + 1 → A.getD j r0 = B.getD j r0 := by
            intro j hj
            rcases (by omega : j < k ∨ j = k) with h1 | rfl
            · exact hall j h1
            · exact of_decide_eq_true he
          have HN := Lib.hid hn
          rw [he] at HE
          clear hall hn
          generalize A.getD k r0 = kx at *
          generalize B.getD k r0 = ky at *
          go_wp2
          refine wp_region_below w (by kernel_rfl) (by kernel_rfl) hbr ?_
          repeat (first
            | go_big_quiet_skip
            | (go_big_quiet_want
               first
                 | (go_big_quiet_op; go_big_quiet_on)
                 | (refine q_load 38 _ _ _ rfl rfl L1 ?_; simp only [Act.put, List.setIfInBounds_toArray, List.set_cons_zero, List.set_cons_succ]; go_big_quiet_on)
                 | (refine q_load 38 _ _ _ rfl rfl L2 ?_; simp only [Act.put, List.setIfInBounds_toArray, List.set_cons_zero, List.set_cons_succ]; go_big_quiet_on)
                 | (go_big_quiet_op; refine ⟨_, fun _ _ => rfl, ?_⟩; go_big_quiet_on)
                 | (go_big_quiet_op; apply Exists.intro; refine ⟨fun w' hw' => ?_, ?_⟩
                    · first
                      | (refine (HE.out w').mono ?_
                         rintro e w2 ⟨rfl, hb2⟩
                         exact ⟨rfl, hw'.trans (hb2.mono hw'.size)⟩)
                    go_big_quiet_on)))
          refine wpQuiet_nil ?_
          intro w2 hb2
          clear L1 L2 HE hbr
          go_wp2
          exact ⟨⟨k + 1, by omega, by go_num, HN.out, hb2⟩, by simp [intOf]; omega⟩
        | false =>
          have hne : decide (A = B) = false := by
            simp only [decide_eq_false_iff_not]
            intro e
            subst e
            simp at he
          have HD := Lib.hid hne
          rw [he] at HE
          clear hall hne
          generalize A.getD k r0 = kx at *
          generalize B.getD k r0 = ky at *
          go_wp2
          refine wp_region_below w (by kernel_rfl) (by kernel_rfl) hbr ?_
          repeat (first
            | go_big_quiet_skip
            | (go_big_quiet_want
               first
                 | (go_big_quiet_op; go_big_quiet_on)
                 | (refine q_load 38 _ _ _ rfl rfl L1 ?_; simp only [Act.put, List.setIfInBounds_toArray, List.set_cons_zero, List.set_cons_succ]; go_big_quiet_on)
                 | (refine q_load 38 _ _ _ rfl rfl L2 ?_; simp only [Act.put, List.setIfInBounds_toArray, List.set_cons_zero, List.set_cons_succ]; go_big_quiet_on)
                 | (go_big_quiet_op; refine ⟨_, fun _ _ => rfl, ?_⟩; go_big_quiet_on)
                 | (go_big_quiet_op; apply Exists.intro; refine ⟨fun w' hw' => ?_, ?_⟩
                    · first
                      | (refine (HE.out w').mono ?_
                         rintro e w2 ⟨rfl, hb2⟩
                         exact ⟨rfl, hw'.trans (hb2.mono hw'.size)⟩)
                    go_big_quiet_on)))
          refine wpQuiet_nil ?_
          intro w2 hb2
          clear L1 L2 HE hbr
          go_wp2
          go_ret
          exact ⟨by rw [HD.out]; rfl, hb2⟩
      · obtain rfl : k = B.length := by omega
        have he : decide (A = B) = true := by
          simp only [decide_eq_true_eq]
          apply List.ext_getElem hl
          intro i h1 h2
          have := hall i h2
          simpa [List.getD, h1, h2] using this
        have HD := Lib.hid he
        clear hall he
        go_wp2
        go_ret
        exact ⟨by rw [HD.out]; rfl, hbr⟩
  · have hne : decide (A = B) = false := by simp only [decide_eq_false_iff_not]; intro e; subst e; exact hl rfl
    have HD := Lib.hid hne
    have e0 : ¬ (A.length : Int) = (B.length : Int) := by omega
    clear hne
    go_enter Try.func89, Try.ntmps89
    go_wp2
    go_ret
    exact ⟨by rw [HD.out]; rfl, Below.refl _ _⟩
end Go.Proofs.Ytjggheoonjajpaa
namespace Go.Proofs.Ytjggheoonjajpaa
open Go.ChangeShapes Go.WideShapes Go.ChangeAt Go.RowKit Go.BigFrame
set_option linter.unusedVariables false

theorem eqrds_self (va vb : Value) (A : List R3) (w : World) (ha : rdAt w va A) (hb : rdAt w vb A) (hs : A.length ≤ 4000000) : Calls Try.prog 89 #[va, vb] w fun e w' => e = .returned (.bool true) ∧ Below w.heap.size w w' := by
  have h := eqreadings_any va vb A A w ha hb hs hs
  rw [show decide (A = A) = true from decide_eq_true rfl] at h
  exact h
end Go.Proofs.Ytjggheoonjajpaa
namespace Go.Proofs.Ytjggheoonjajpaa
open Go.ChangeShapes Go.WideShapes Go.ChangeAt Go.RowKit Go.BigFrame
set_option linter.unusedVariables false
set_option linter.unusedSimpArgs false

set_option maxRecDepth 100000 in
set_option maxHeartbeats 2000000 in
theorem eqstation_self (s : Stn) (oa ba ha ob bb hb' : Value) (w : World) (h1 : SaL w s oa ba ha) (h2 : SaL w s ob bb hb') (hk : s.own.length ≤ 1900000) (hw : s.buf.length ≤ 1900000) (hx : ∀ x ∈ s.buf, x.1.length ≤ 1900000) (hh : s.heard.length ≤ 1900000) :
    Calls Try.prog 35 #[saV s oa ba ha, saV s ob bb hb'] w fun e w' => e = .returned (.bool true) ∧ Below w.heap.size w w' := by
  obtain ⟨id, al, sq, mo, ow, bu, he⟩ := s
  dsimp only at *
  have HR := Lib.hid (fun wx (hb : Below w.heap.size w wx) => eqrds_self oa ob ow wx (rdAt_below h1.own hb) (rdAt_below h2.own hb) (by omega))
  have HC := Lib.hid (fun wx (hb : Below w.heap.size w wx) => eqcodes_any ba bb bu bu wx (cdAv_below h1.buf hb) (cdAv_below h2.buf hb) (by omega) (by omega) (fun x h => by have := hx x h; omega) (fun x h => by have := hx x h; omega))
  have HI := Lib.hid (fun wx (hb : Below w.heap.size w wx) => eqints_self ha hb' he wx (inAt_below h1.heard hb) (inAt_below h2.heard hb) (by omega))
  obtain ⟨⟨ao, ap, rfl, -, -⟩, ⟨ab, ac, rfl, -, -⟩, ⟨ah, ai, rfl, -, -⟩⟩ := h1
  obtain ⟨⟨bo, bp, rfl, -, -⟩, ⟨bb, bc, rfl, -, -⟩, ⟨bh, bi, rfl, -, -⟩⟩ := h2
  dsimp only at *
  have hb0 := (Below.refl w.heap.size w).alloc (Nat.le_refl _) (.cells #[.int .i64 id, .bool al, .int .i64 sq, .int .i64 mo, .slice ao ow.length ap, .slice ab bu.length ac, .slice ah he.length ai] 28)
  have hb1 := hb0.alloc hb0.size (.cells #[.int .i64 id, .bool al, .int .i64 sq, .int .i64 mo, .slice bo ow.length bp, .slice bb bu.length bc, .slice bh he.length bi] 28)
  have hA := heap_first w (.cells #[.int .i64 id, .bool al, .int .i64 sq, .int .i64 mo, .slice bo ow.length bp, .slice bb bu.length bc, .slice bh he.length bi] 28) (.cells #[.int .i64 id, .bool al, .int .i64 sq, .int .i64 mo, .slice ao ow.length ap, .slice ab bu.length ac, .slice ah he.length ai] 28)
  have hN := heap_alloc_new (w.alloc (.cells #[.int .i64 id, .bool al, .int .i64 sq, .int .i64 mo, .slice ao ow.length ap, .slice ab bu.length ac, .slice ah he.length ai] 28)) (.cells #[.int .i64 id, .bool al, .int .i64 sq, .int .i64 mo, .slice bo ow.length bp, .slice bb bu.length bc, .slice bh he.length bi] 28)
  rw [show (w.alloc (.cells #[.int .i64 id, .bool al, .int .i64 sq, .int .i64 mo, .slice ao ow.length ap, .slice ab bu.length ac, .slice ah he.length ai] 28)).heap.size = w.heap.size + 1 by simp] at hN
  have HB0 := Lib.hid hb1; have HX0 := Lib.hid hA; have HY0 := Lib.hid hN
  clear hb0 hb1 hA hN hx
  have hdt : decide (bu = bu) = true := decide_eq_true rfl
  unfold saV
  dsimp only
  go_enter Try.func35, Try.ntmps35
  go_upto_region 1 with (fail)
  generalize (w.alloc (.cells #[.int .i64 id, .bool al, .int .i64 sq, .int .i64 mo, .slice ao ow.length ap, .slice ab bu.length ac, .slice ah he.length ai] 28)).alloc (.cells #[.int .i64 id, .bool al, .int .i64 sq, .int .i64 mo, .slice bo ow.length bp, .slice bb bu.length bc, .slice bh he.length bi] 28) = W at *
  obtain ⟨⟨x0, x1, x2, x3, x4, x5, x6⟩, -⟩ := row7_of HX0.out
  obtain ⟨⟨y0, y1, y2, y3, y4, y5, y6⟩, -⟩ := row7_of HY0.out
  go_wp2_with fail
  refine (HR.out _ HB0.out).mono ?_
  rintro e w2 ⟨rfl, hb2⟩
  have HB1 := Lib.hid (HB0.out.trans (hb2.mono HB0.out.size))
  have HX1 := Lib.hid ((hb2.block _ (Array.getElem?_eq_some_iff.1 HX0.out).1).trans HX0.out)
  have HY1 := Lib.hid ((hb2.block _ (Array.getElem?_eq_some_iff.1 HY0.out).1).trans HY0.out)
  clear x0 x1 x2 x3 x4 x5 x6 y0 y1 y2 y3 y4 y5 y6 hb2
  obtain ⟨⟨x0, x1, x2, x3, x4, x5, x6⟩, -⟩ := row7_of HX1.out
  obtain ⟨⟨y0, y1, y2, y3, y4, y5, y6⟩, -⟩ := row7_of HY1.out
  go_wp2_with fail
  refine (HC.out _ HB1.out).mono ?_
  rintro e w3 ⟨rfl, hb2⟩
  rw [hdt]
  have HB2 := Lib.hid (HB1.out.trans (hb2.mono HB1.out.size))
  have HX2 := Lib.hid ((hb2.block _ (Array.getElem?_eq_some_iff.1 HX1.out).1).trans HX1.out)
  have HY2 := Lib.hid ((hb2.block _ (Array.getElem?_eq_some_iff.1 HY1.out).1).trans HY1.out)
  clear x0 x1 x2 x3 x4 x5 x6 y0 y1 y2 y3 y4 y5 y6 hb2
  obtain ⟨⟨x0, x1, x2, x3, x4, x5, x6⟩, -⟩ := row7_of HX2.out
  obtain ⟨⟨y0, y1, y2, y3, y4, y5, y6⟩, -⟩ := row7_of HY2.out
  go_wp2_with fail
  refine (HI.out _ HB2.out).mono ?_
  rintro e w4 ⟨rfl, hb2⟩
  have HB3 := Lib.hid (HB2.out.trans (hb2.mono HB2.out.size))
  have HX3 := Lib.hid ((hb2.block _ (Array.getElem?_eq_some_iff.1 HX2.out).1).trans HX2.out)
  have HY3 := Lib.hid ((hb2.block _ (Array.getElem?_eq_some_iff.1 HY2.out).1).trans HY2.out)
  clear x0 x1 x2 x3 x4 x5 x6 y0 y1 y2 y3 y4 y5 y6 hb2
  obtain ⟨⟨x0, x1, x2, x3, x4, x5, x6⟩, -⟩ := row7_of HX3.out
  obtain ⟨⟨y0, y1, y2, y3, y4, y5, y6⟩, -⟩ := row7_of HY3.out
  clear hdt
  go_wp2
  go_ret
  exact ⟨rfl, HB3.out⟩
end Go.Proofs.Ytjggheoonjajpaa
namespace Go.Proofs.Ytjggheoonjajpaa
open Go.ChangeShapes Go.WideShapes Go.ChangeAt Go.RowKit Go.BigFrame
set_option linter.unusedVariables false
set_option linter.unusedSimpArgs false

set_option maxRecDepth 100000 in
set_option maxHeartbeats 1000000 in
theorem iequal_any (va vb : Value) (A B : List K2) (w : World) (ha : keysAt w va A) (hb : keysAt w vb B) (hsA : A.length ≤ 4000000) (hsB : B.length ≤ 4000000) :
    Calls Try.prog 135 #[va, vb] w fun e w' => e = .returned (.bool (decide (A = B))) ∧ Below w.heap.size w w' := by
  obtain ⟨aa, ca, rfl, hca, hcA⟩ := ha
  obtain ⟨ab, cb, rfl, hcb, hcB⟩ := hb
  by_cases hl : A.length = B.length
  · have e0 : (A.length : Int) = (B.length : Int) := by omega
    go_enter Try.func135, Try.ntmps135
    rw [hl] at hca hcA ⊢
    go_wp2
    go_loopw [13] (fun i wr => ∃ k : Nat, k ≤ B.length ∧ i = .int .i64 k ∧ (∀ j, j < k → A.getD j (0, 0) = B.getD j (0, 0)) ∧ Below w.heap.size w wr) (fun i _ => B.length - (intOf i).toNat)
    case atStart => exact ⟨0, Nat.zero_le _, rfl, fun j hj => by omega, Below.refl _ _⟩
    case round =>
      obtain ⟨k, hk, rfl, hall, hbr⟩ := hrel
      by_cases hlt : k < B.length
      · obtain ⟨ga, offa, rfl, hga, hcsA⟩ := hcA.resolve_left (by omega)
        obtain ⟨gb, offb, rfl, hgb, hcsB⟩ := hcB.resolve_left (by omega)
        have cA := hcsA k hlt
        have cB := hcsB k hlt
        have z0 : (0 : Int) ≤ (k : Int) := by omega
        have z1 : (k : Int) < (B.length : Int) := by omega
        clear hcsA hcsB hcA hcB
        have L1 : ∀ w', Below w.heap.size w w' → (loadVar 36 ⟨ga, offa + k * 2, none⟩).run Try.prog w' = .ok (kv (A.getD k (0, 0))) w' := fun w' h => key_load cA hga h
        have L2 : ∀ w', Below w.heap.size w w' → (loadVar 36 ⟨gb, offb + k * 2, none⟩).run Try.prog w' = .ok (kv (B.getD k (0, 0))) w' := fun w' h => key_load cB hgb h
        clear cA cB
        cases he : (A.getD k (0, 0) == B.getD k (0, 0)) with
        | true =>
          have hn : ∀ j, j < k + 1 → A.getD j (0, 0) = B.getD j (0, 0) := by
            intro j hj
            rcases (by omega : j < k ∨ j = k) with h1 | rfl
            · exact hall j h1
            · exact eq_of_beq he
          have HN := Lib.hid hn
          clear hall hn
          generalize A.getD k (0, 0) = kx at *
          generalize B.getD k (0, 0) = ky at *
          go_wp2
          refine wp_region_below w (by kernel_rfl) (by kernel_rfl) hbr ?_
          repeat (first
            | go_big_quiet_skip
            | (go_big_quiet_want
               first
                 | (go_big_quiet_op; go_big_quiet_on)
                 | (refine q_load 36 _ _ _ rfl rfl L1 ?_; simp only [Act.put, List.setIfInBounds_toArray, List.set_cons_zero, List.set_cons_succ]; go_big_quiet_on)
                 | (refine q_load 36 _ _ _ rfl rfl L2 ?_; simp only [Act.put, List.setIfInBounds_toArray, List.set_cons_zero, List.set_cons_succ]; go_big_quiet_on)
                 | (refine q_bin _ 36 _ _ _ _ _ _ rfl rfl rfl (fun w => key_guard _ _ _ _ _ w) (fun w => key_eql _ _ w) ?_; simp only [Act.put, List.setIfInBounds_toArray, List.set_cons_zero, List.set_cons_succ]; go_big_quiet_on)
                 | (refine q_bin _ 36 _ _ _ _ _ _ rfl rfl rfl (fun w => key_guard _ _ _ _ _ w) (fun w => key_neq _ _ w) ?_; simp only [Act.put, List.setIfInBounds_toArray, List.set_cons_zero, List.set_cons_succ]; go_big_quiet_on)
                 | (go_big_quiet_op; refine ⟨_, fun _ _ => rfl, ?_⟩; go_big_quiet_on)
                 | (go_big_quiet_op; go_big_quiet_on)))
          refine wpQuiet_nil ?_
          intro w2 hb2
          rw [he]
          clear L1 L2 hbr
          go_wp2
          exact ⟨⟨k + 1, by omega, by go_num, HN.out, hb2⟩, by simp [intOf]; omega⟩
        | false =>
          have hne : decide (A = B) = false := by
            simp only [decide_eq_false_iff_not]
            intro e
            subst e
            simp at he
          have HD := Lib.hid hne
          clear hall hne
          generalize A.getD k (0, 0) = kx at *
          generalize B.getD k (0, 0) = ky at *
          go_wp2
          refine wp_region_below w (by kernel_rfl) (by kernel_rfl) hbr ?_
          repeat (first
            | go_big_quiet_skip
            | (go_big_quiet_want
               first
                 | (go_big_quiet_op; go_big_quiet_on)
                 | (refine q_load 36 _ _ _ rfl rfl L1 ?_; simp only [Act.put, List.setIfInBounds_toArray, List.set_cons_zero, List.set_cons_succ]; go_big_quiet_on)
                 | (refine q_load 36 _ _ _ rfl rfl L2 ?_; simp only [Act.put, List.setIfInBounds_toArray, List.set_cons_zero, List.set_cons_succ]; go_big_quiet_on)
                 | (refine q_bin _ 36 _ _ _ _ _ _ rfl rfl rfl (fun w => key_guard _ _ _ _ _ w) (fun w => key_eql _ _ w) ?_; simp only [Act.put, List.setIfInBounds_toArray, List.set_cons_zero, List.set_cons_succ]; go_big_quiet_on)
                 | (refine q_bin _ 36 _ _ _ _ _ _ rfl rfl rfl (fun w => key_guard _ _ _ _ _ w) (fun w => key_neq _ _ w) ?_; simp only [Act.put, List.setIfInBounds_toArray, List.set_cons_zero, List.set_cons_succ]; go_big_quiet_on)
                 | (go_big_quiet_op; refine ⟨_, fun _ _ => rfl, ?_⟩; go_big_quiet_on)
                 | (go_big_quiet_op; go_big_quiet_on)))
          refine wpQuiet_nil ?_
          intro w2 hb2
          rw [he]
          clear L1 L2 hbr
          go_wp2
          go_ret
          exact ⟨by rw [HD.out]; rfl, hb2⟩
      · obtain rfl : k = B.length := by omega
        have he : decide (A = B) = true := by
          simp only [decide_eq_true_eq]
          apply List.ext_getElem hl
          intro i h1 h2
          have := hall i h2
          simpa [List.getD, h1, h2] using this
        have HD := Lib.hid he
        clear hall he
        go_wp2
        go_ret
        exact ⟨by rw [HD.out]; rfl, hbr⟩
  · have hne : decide (A = B) = false := by simp only [decide_eq_false_iff_not]; intro e; subst e; exact hl rfl
    have HD := Lib.hid hne
    have e0 : ((A.length : Int) != (B.length : Int)) = true := by simp; omega
    clear hne
    go_enter Try.func135, Try.ntmps135
    go_wp2
    go_ret
    exact ⟨by rw [HD.out]; rfl, Below.refl _ _⟩

end Go.Proofs.Ytjggheoonjajpaa
