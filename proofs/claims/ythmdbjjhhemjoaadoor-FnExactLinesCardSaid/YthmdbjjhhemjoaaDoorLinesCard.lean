/- Lines answers as its model at every text: its parts between bytes 10, each new memory. Its row lists unicode/utf8's two tables, tied to the library's text; no other condition. The tie speaks of the pruned copy of the project. -/
import Derived.Test.YthmdbjjhhemjoaaDoorCards
import Derived.Test.YthmdbjjhhemjoaaDoorTie
import Derived.WalkKit
import Derived.ProofKit
import Derived.OpenShut
import Derived.ShutString
import Derived.Below
import Derived.ChangeOld
import Derived.Deep.DeepHandedRow
import Derived.Deep.DeepWitnessRowRef
import Derived.Deep.DeepLaidRun
import Derived.Lib.LaidTab
import Derived.Stop.LaidErr
import Derived.Test.YthmdbjjhhemjoaaDoorLines
namespace Go.Proofs.YthmdbjjhhemjoaaDoor.fnExactLines
open Go.ChangeShapes Go.WideShapes Go.ChangeAt Go.RowKit
open Go.ChangeMaps (open_string shut_string)
set_option linter.unusedVariables false

theorem own : ownKnob Tryd.prog.godebug = none := by kernel_rfl

theorem walk (a0 : ByteArray) (w : World) (w0 : a0.size ≤ maxLen) (hL : laidMetH Tryd.prog Rows.fnExactLinesRow.laid w) (hsh : w.ShapedOpen Tryd.prog) :
    Calls Tryd.prog 8 #[.string a0] w fun e w' => e = .returned (.bool true) ∧ Below w.heap.size w w' := by
  unfold maxLen at w0
  have HSH := Lib.hid hsh
  clear hsh hL
  by_cases hb : a0.size ≤ 1048576
  · have hcount := linesB_count a0
    generalize hL : linesB a0 = L at hcount
    have h1 := fun w => slines_any a0 w (by omega)
    have h2 := fun w hw => ilines_any a0 w (by omega) hw
    simp only [hL] at h1 h2
    have H1 := Lib.hid h1; have H2 := Lib.hid h2; clear h1 h2 hL
    have hs1 : L.length ≤ 1500000 := by omega
    by_cases hn0 : L.length = 0
    · have hLn : L = [] := List.length_eq_zero_iff.1 hn0
      subst hLn
      clear hn0 hs1 hcount
      go_enter Tryd.func8, Tryd.ntmps8
      go_wp2_with fail
      refine (H1.out _).mono ?_
      rintro e w1 ⟨v1, rfl, ho1, hb1⟩
      obtain ⟨a1, c1, rfl⟩ : ∃ a1 c1, v1 = .slice a1 0 c1 := by
        rcases ownsRow_shape ho1 with ⟨rfl, _⟩ | ⟨g, cap, rfl, _⟩ <;> exact ⟨_, _, rfl⟩
      clear ho1
      go_wp2_with fail
      refine (H2.out _ (HSH.out.keptBut (hb1.frame fun _ => False) (fun _ h => h.elim))).mono ?_
      rintro e w2 ⟨v2, rfl, ho2, hb2⟩
      obtain ⟨a2, c2, rfl⟩ : ∃ a2 c2, v2 = .slice a2 0 c2 := by
        rcases ownsRow_shape ho2 with ⟨rfl, _⟩ | ⟨g, cap, rfl, _⟩ <;> exact ⟨_, _, rfl⟩
      clear ho2
      have hB2 := hb1.trans (hb2.mono hb1.size)
      clear hb1 hb2
      go_wp2_with fail
      refine (eqS_none _ _ _ _ _).mono ?_
      rintro e w3 ⟨rfl, hb3⟩
      have hB3 := hB2.trans (hb3.mono hB2.size)
      clear hb3 hB2
      go_wp2_with fail
      refine (markS_none _ _ _ _ (by omega) (by omega)).mono ?_
      rintro e w4 ⟨rfl, rfl⟩
      go_wp2_with fail
      refine (heldS_none _ _ _ _ (by omega) (by omega)).mono ?_
      rintro e w5 ⟨rfl, rfl⟩
      go_wp2_with fail
      refine (H2.out _ (HSH.out.keptBut (hB3.frame fun _ => False) (fun _ h => h.elim))).mono ?_
      rintro e w6 ⟨v3, rfl, ho3, hb6⟩
      obtain ⟨a3, c3, rfl⟩ : ∃ a3 c3, v3 = .slice a3 0 c3 := by
        rcases ownsRow_shape ho3 with ⟨rfl, _⟩ | ⟨g, cap, rfl, _⟩ <;> exact ⟨_, _, rfl⟩
      clear ho3
      have hB6 := hB3.trans (hb6.mono hB3.size)
      clear hb6 hB3
      go_wp2_with fail
      refine (eqS_none _ _ _ _ _).mono ?_
      rintro e w7 ⟨rfl, hb7⟩
      have hB7 := hB6.trans (hb7.mono hB6.size)
      clear hb7 hB6
      go_wp2_with fail
      refine (heldS_none _ _ _ _ (by omega) (by omega)).mono ?_
      rintro e w8 ⟨rfl, rfl⟩
      go_wp2
      go_ret
      exact ⟨rfl, hB7⟩
    · have hpos : 1 ≤ L.length := by omega
      go_enter Tryd.func8, Tryd.ntmps8
      go_wp2_with fail
      refine (H1.out _).mono ?_
      rintro e w1 ⟨v1, rfl, ho1, hb1⟩
      obtain ⟨g1, c1, rfl, hg1⟩ : ∃ g1 c1, v1 = .slice (some ⟨g1, 0, none⟩) L.length c1 ∧ g1 < w1.heap.size ∧ w.heap.size ≤ g1 := by
        rcases ownsRow_shape ho1 with ⟨_, h⟩ | ⟨g, cap, rfl, _, _, h3, h4, _⟩
        · omega
        · exact ⟨_, _, rfl, h4, h3⟩
      go_wp2_with fail
      refine (H2.out _ (HSH.out.keptBut (hb1.frame fun _ => False) (fun _ h => h.elim))).mono ?_
      rintro e w2 ⟨v2, rfl, ho2, hb2⟩
      obtain ⟨g2, c2, rfl, hg2⟩ : ∃ g2 c2, v2 = .slice (some ⟨g2, 0, none⟩) L.length c2 ∧ g2 < w2.heap.size ∧ w1.heap.size ≤ g2 := by
        rcases ownsRow_shape ho2 with ⟨_, h⟩ | ⟨g, cap, rfl, _, _, h3, h4, _⟩
        · omega
        · exact ⟨_, _, rfl, h4, h3⟩
      have hB2 := hb1.trans (hb2.mono hb1.size)
      have ho1b := ho1.kept (grown_of_below' hb2 none) (.inr (by simp [Value.ownBlock]))
      have hsz1 := hb1.size
      have hsz2 := hb2.size
      clear hb1 hb2 ho1
      go_wp2_with fail
      refine (eqS_some _ _ _ _ _ _ _ _ _ (by omega) ho2 ho1b).mono ?_
      rintro e w3 ⟨rfl, hb3⟩
      have hB3 := hB2.trans (hb3.mono hB2.size)
      have ho1c := ho1b.kept (grown_of_below' hb3 none) (.inr (by simp [Value.ownBlock]))
      have ho2c := ho2.kept (grown_of_below' hb3 none) (.inr (by simp [Value.ownBlock]))
      have hsz3 := hb3.size
      clear hb3 hB2 ho1b ho2
      go_wp2_with fail
      have hm := markS_some g2 L.length c2 _ 1 L w3 (by omega) (by omega) (by omega) ho2c
      rw [show ((1 : Nat) : Int) = 1 from rfl] at hm
      refine hm.mono ?_
      clear hm
      rintro e w4 ⟨rfl, ho2d, hg4⟩
      have ho1d := ho1c.kept hg4 (.inr (by simp [Value.ownBlock]; omega))
      have hB4 := hB3.grown hg4 hB3.size (fun k e => by cases e; omega)
      have hsz4 := hg4.size
      clear hg4 hB3 ho1c ho2c
      go_wp2_with fail
      have hm := heldS_some g2 L.length c2 _ 1 L w4 (by omega) (by omega) (by omega) ho2d
      rw [show ((1 : Nat) : Int) = 1 from rfl] at hm
      refine hm.mono ?_
      clear hm
      rintro e w5 ⟨rfl, hb5⟩
      have hB5 := hB4.trans (hb5.mono hB4.size)
      have ho1e := ho1d.kept (grown_of_below' hb5 none) (.inr (by simp [Value.ownBlock]))
      have ho2e := ho2d.kept (grown_of_below' hb5 none) (.inr (by simp [Value.ownBlock]))
      have hsz5 := hb5.size
      clear hb5 hB4 ho1d ho2d
      go_wp2_with fail
      refine (H2.out _ (HSH.out.keptBut (hB5.frame fun _ => False) (fun _ h => h.elim))).mono ?_
      rintro e w6 ⟨v3, rfl, ho3, hb6⟩
      obtain ⟨g3, c3, rfl, hg3⟩ : ∃ g3 c3, v3 = .slice (some ⟨g3, 0, none⟩) L.length c3 ∧ g3 < w6.heap.size ∧ w5.heap.size ≤ g3 := by
        rcases ownsRow_shape ho3 with ⟨_, h⟩ | ⟨g, cap, rfl, _, _, h3, h4, _⟩
        · omega
        · exact ⟨_, _, rfl, h4, h3⟩
      have hB6 := hB5.trans (hb6.mono hB5.size)
      have ho1f := ho1e.kept (grown_of_below' hb6 none) (.inr (by simp [Value.ownBlock]))
      have ho2f := ho2e.kept (grown_of_below' hb6 none) (.inr (by simp [Value.ownBlock]))
      have hsz6 := hb6.size
      clear hb6 hB5 ho1e ho2e
      go_wp2_with fail
      refine (eqS_some _ _ _ _ _ _ _ _ _ (by omega) ho3 ho1f).mono ?_
      rintro e w7 ⟨rfl, hb7⟩
      have hB7 := hB6.trans (hb7.mono hB6.size)
      have ho2g := ho2f.kept (grown_of_below' hb7 none) (.inr (by simp [Value.ownBlock]))
      have hsz7 := hb7.size
      clear hb7 hB6 ho1f ho2f ho3
      go_wp2_with fail
      have hm := heldS_some g2 L.length c2 _ 1 L w7 (by omega) (by omega) (by omega) ho2g
      rw [show ((1 : Nat) : Int) = 1 from rfl] at hm
      refine hm.mono ?_
      clear hm
      rintro e w8 ⟨rfl, hb8⟩
      have hB8 := hB7.trans (hb8.mono hB7.size)
      clear hb8 hB7
      go_wp2
      go_ret
      exact ⟨rfl, hB8⟩
  · go_enter Tryd.func8, Tryd.ntmps8
    go_wp2
    go_ret
    exact ⟨rfl, Below.refl _ _⟩

set_option maxRecDepth 100000 in
theorem contract (H : Type) (enc : TypeId × Value → H) (W : World) (base : Nat) (args : Array Value) (ds gs : List (DataW H)) (before : List MemPlace)
    (hval : ∀ (j : Nat) t v, Tryd.f8.params[j]? = some t → args[j]? = some v → Value.okWide Tryd.prog W .any base t v)
    (hW : DataW.Whole enc Tryd.prog Tryd.f8.params.toList Rows.fnExactLinesSpec.vars false W args.toList ds gs before) (hL : laidMetH Tryd.prog Rows.fnExactLinesRow.laid W) (hsh : W.ShapedOpen Tryd.prog) :
    Calls Tryd.prog 8 args W fun e W' => ∃ v, e = .returned v ∧ Rows.fnExactLinesSpec.post enc Tryd.prog Tryd.f8 false true false false W args v W' := by
  have hW' := hW
  obtain ⟨p, q, hA0, hV, rfl, hfz, hnd⟩ := hW
  have hA : DataW.TrodAll enc Tryd.prog W 0 (fun _ => true) true Tryd.f8.params.toList args.toList ds p := hA0
  rw [Tryd.params8] at hA hval
  obtain ⟨v0, vs0, d0, ds0, p0, q0, hargs, rfl, rfl, h0, r0⟩ := trodAll_cons hA
  obtain ⟨rfl, rfl, rfl⟩ := trodAll_nil r0
  obtain rfl : args = #[v0] := by cases args; simp_all
  obtain ⟨rfl, rfl⟩ := trodVars_none hV
  obtain ⟨a0, rfl, rfl, rfl, w0⟩ := open_string Tryd.underlying9 (hval 0 9 v0 rfl rfl) h0
  clear hA0
  simp only [List.append_nil] at hW'
  refine (walk a0 W w0 hL hsh).mono fun e W' ⟨he, bel⟩ => ?_
  subst he
  exact ⟨_, rfl, _, _, _, [], _, [], hW', trodAll_mk1 (shut_bool Tryd.underlying4 _), (trodAll_cons_mk (shut_string Tryd.underlying9 w0) trodAll_mk0), rfl, bel.frame _, fun h => by cases h⟩

/-! ### one start that fits: each listed variable as its initialiser lays it -/
def tabCell {H : Type} : DataW H → List Value
  | .lit (.int k z) => [.int k z]
  | _ => []
def rowCells {H : Type} : DataW H → List Value
  | .agg ds => ds.flatMap tabCell
  | d => tabCell d
def tabCells (d : DataW Unit) : Array Value := match d with
  | .agg ds => (ds.flatMap rowCells).toArray
  | _ => #[]
noncomputable def low : Nat := (World.holding Tryd.prog default ⟨#[], #[], []⟩).heap.size
noncomputable def laidWorld (os : Os) : World :=
  let w0 := World.holding Tryd.prog os ⟨#[], #[], []⟩
  { w0 with heap := w0.heap
    |>.modify 5 (fun | .cells _ t frozen => .cells (tabCells Rows.laid_unicode_utf8_acceptRanges) t frozen | o => o)
    |>.modify 4 (fun | .cells _ t frozen => .cells (tabCells Rows.laid_unicode_utf8_first) t frozen | o => o) }
theorem laid_met (os : Os) : laidMet Tryd.prog Rows.fnExactLinesRow.laid ((laidWorld os).forCall (fun _ _ => 0) ⟨#[], #[.string ByteArray.empty], []⟩).memory :=
  laidMet_of_run3 8 (by kernel_rfl) (by kernel_rfl) (by kernel_rfl)
theorem reads (os : Os) {H : Type} (enc : TypeId × Value → H) : ∃ places, DataW.whole enc Tryd.prog ((laidWorld os).forCall (fun _ _ => 0) ⟨#[], #[.string ByteArray.empty], []⟩).memory Tryd.f8.params.toList Rows.fnExactLinesSpec.vars false (#[.string ByteArray.empty] : Array Value).toList 8 = some ([.lit (.string [])], [], places) :=
  ⟨[], by kernel_rfl⟩

set_option maxRecDepth 100000 in
theorem lifted (os : Os) (started : os.Started) (H : Type) (enc : TypeId × Value → H) (F : Stop.Interp) :
    ReturnsInHanded {} Tryd.checked os 8 .any ((OpenSpec.ofChange Rows.fnExactLinesSpec).preRow enc Tryd.prog Tryd.f8 Rows.fnExactLinesRow.domain false Rows.fnExactLinesRow.laid) (((OpenSpec.ofChange Rows.fnExactLinesSpec).at F).post enc Tryd.prog Tryd.f8 false true false false) := by
  obtain ⟨places, hx⟩ := reads os enc
  refine returnsInHanded_of_row (C := Tryd.checked) (s := OpenSpec.ofChange Rows.fnExactLinesSpec) own started (by kernel_rfl) Tryd.func8
    (witness_row_at (enc := enc) (C := Tryd.checked) false (laidWorld os) #[.string ByteArray.empty] rfl (by kernel_rfl) (by kernel_rfl) (by kernel_rfl)
      (OpenSpec.preRow_of_cond 8 hx (by kernel_rfl) (fun k hk => by cases hk) (by kernel_rfl) (laid_met os))) ?_
  intro W base args ds gs before hval hW _ _ _ hL hsh _
  exact contract H enc W base args ds gs before hval hW hL hsh

theorem said : Rows.FnExactLinesSaid :=
  OpenClaim.holds_of_cond 8 Tryd.f8 rfl rfl rfl rfl rfl rfl rfl ⟨rfl, rfl, rfl, rfl, rfl⟩ rfl rfl rfl rfl rfl (by kernel_rfl) Tryd.func8 (by kernel_rfl)
    (of_decide_eq_true (by kernel_rfl)) (by unfold Func.isWrapper; first | (rw [if_pos (by decide +kernel)]; kernel_rfl) | (rw [if_neg (by decide +kernel)]; exact ⟨rfl, rfl⟩))
    (fun os started H enc _ F => by rw [OpenClaim.pre_eq_preRow]; exact lifted os started H enc F)

theorem plain (f : FuncId) (fn : Func) (hf : Tryd.pinned.checked.prog.funcNamed "loop.example/g00746/laws.FnExactLines" = some f) (hfn : Tryd.pinned.checked.prog.funcs[f]? = some fn) :
    true = Tryd.pinned.checked.prog.looks [] ∧ ∀ (j : Nat) t, fn.params[j]? = some t → Tryd.pinned.checked.prog.wantsStandIn t = false := by
  obtain rfl : f = 8 := Option.some.inj ((show Tryd.prog.funcNamed "loop.example/g00746/laws.FnExactLines" = some 8 by kernel_rfl).symm.trans hf) |>.symm
  obtain rfl : fn = Tryd.f8 := (Option.some.inj (Tryd.func8.symm.trans hfn)).symm
  refine ⟨by kernel_rfl, fun j t ht => ?_⟩
  rw [Tryd.params8] at ht
  have hm := Array.mem_of_getElem? ht
  simp at hm
  rcases hm with rfl
  all_goals (show Tryd.prog.wantsStandIn _ = false; kernel_rfl)

/-- THE CARD -/
theorem card : Rows.FnExactLinesCardSaid :=
  Claim7.holds_tied_plain_at .later [] _ _ _ _ said (fun _ h => by cases h) (by kernel_rfl) (fun _ h => by cases h) fnExactLines_row_tie rfl ⟨rfl, rfl⟩ (by kernel_rfl) rfl plain (by kernel_rfl)
#print axioms card
end Go.Proofs.YthmdbjjhhemjoaaDoor.fnExactLines
