/- Words answers as its model at every text: its parts without blanks and bytes 9, each new memory. No condition beyond the row's own. -/
import Derived.Test.YthmdbjjhhemjoaaRows
import Derived.Test.YthmdbjjhhemjoaaWordsS
import Derived.Test.YthmdbjjhhemjoaaLawStr
import Derived.WalkKit
import Derived.ProofKit
import Derived.OpenShut
import Derived.Below
import Derived.ShutString
namespace Go.Proofs.Ythmdbjjhhemjoaa.fnExactWords
open Go.ChangeShapes Go.WideShapes Go.ChangeAt Go.RowKit
open Go.ChangeMaps (open_string shut_string)
set_option linter.unusedVariables false      -- a walk need not use every 'w<i>' (that an integer argument fits its kind)

theorem own : ownKnob Try.prog.godebug = none := by kernel_rfl

/-! ### STEP 1: THE WALK: the Go text returns true. 'Below w.heap.size w w'': the world has at most new blocks (Derived/RowKit3.lean). Part the cases AHEAD of 'go_enter' where a test parts the walk; take each callee by a contract of your own. -/
theorem walk (a0 : ByteArray) (w0 : a0.size ≤ maxLen) (w : World) :
    Calls Try.prog 5 #[.string a0] w fun e w' => e = .returned (.bool true) ∧ Below w.heap.size w w' := by
  unfold maxLen at w0
  by_cases hb : a0.size ≤ 1048576
  · have hcount := wordsB_count a0
    generalize hL : wordsB a0 = L at hcount
    have h1 := fun w => swords_any a0 w (by omega)
    have h2 := fun w => iwords_any a0 w (by omega)
    simp only [hL] at h1 h2
    have H1 := Lib.hid h1; have H2 := Lib.hid h2; clear h1 h2 hL
    have hs1 : L.length ≤ 1500000 := by omega
    by_cases hn0 : L.length = 0
    · have hLn : L = [] := List.length_eq_zero_iff.1 hn0
      subst hLn
      clear hn0 hs1 hcount
      go_enter Try.func5, Try.ntmps5
      go_wp2_with fail
      refine (H1.out _).mono ?_
      rintro e w1 ⟨v1, rfl, ho1, hb1⟩
      obtain ⟨a1, c1, rfl⟩ : ∃ a1 c1, v1 = .slice a1 0 c1 := by
        rcases ownsRow_shape ho1 with ⟨rfl, _⟩ | ⟨g, cap, rfl, _⟩ <;> exact ⟨_, _, rfl⟩
      clear ho1
      go_wp2_with fail
      refine (H2.out _).mono ?_
      rintro e w2 ⟨v2, rfl, ho2, hb2⟩
      obtain ⟨a2, c2, rfl⟩ : ∃ a2 c2, v2 = .slice a2 0 c2 := by
        rcases ownsRow_shape ho2 with ⟨rfl, _⟩ | ⟨g, cap, rfl, _⟩ <;> exact ⟨_, _, rfl⟩
      clear ho2
      have hB2 := hb1.trans (hb2.mono hb1.size)
      clear hb1 hb2
      go_wp2_with fail
      refine (eqS_none _ _ _ _ _).mono ?_
      rintro e w3 ⟨rfl, hb3⟩
      have hB3 := hB2.trans (hb3.mono hB2.size)
      clear hb3 hB2
      go_wp2_with fail
      refine (markS_none _ _ _ _ (by omega) (by omega)).mono ?_
      rintro e w4 ⟨rfl, rfl⟩
      go_wp2_with fail
      refine (heldS_none _ _ _ _ (by omega) (by omega)).mono ?_
      rintro e w5 ⟨rfl, rfl⟩
      go_wp2_with fail
      refine (H2.out _).mono ?_
      rintro e w6 ⟨v3, rfl, ho3, hb6⟩
      obtain ⟨a3, c3, rfl⟩ : ∃ a3 c3, v3 = .slice a3 0 c3 := by
        rcases ownsRow_shape ho3 with ⟨rfl, _⟩ | ⟨g, cap, rfl, _⟩ <;> exact ⟨_, _, rfl⟩
      clear ho3
      have hB6 := hB3.trans (hb6.mono hB3.size)
      clear hb6 hB3
      go_wp2_with fail
      refine (eqS_none _ _ _ _ _).mono ?_
      rintro e w7 ⟨rfl, hb7⟩
      have hB7 := hB6.trans (hb7.mono hB6.size)
      clear hb7 hB6
      go_wp2_with fail
      refine (heldS_none _ _ _ _ (by omega) (by omega)).mono ?_
      rintro e w8 ⟨rfl, rfl⟩
      go_wp2
      go_ret
      exact ⟨rfl, hB7⟩
    · have hpos : 1 ≤ L.length := by omega
      go_enter Try.func5, Try.ntmps5
      go_wp2_with fail
      refine (H1.out _).mono ?_
      rintro e w1 ⟨v1, rfl, ho1, hb1⟩
      obtain ⟨g1, c1, rfl, hg1⟩ : ∃ g1 c1, v1 = .slice (some ⟨g1, 0, none⟩) L.length c1 ∧ g1 < w1.heap.size ∧ w.heap.size ≤ g1 := by
        rcases ownsRow_shape ho1 with ⟨_, h⟩ | ⟨g, cap, rfl, _, _, h3, h4, _⟩
        · omega
        · exact ⟨_, _, rfl, h4, h3⟩
      go_wp2_with fail
      refine (H2.out _).mono ?_
      rintro e w2 ⟨v2, rfl, ho2, hb2⟩
      obtain ⟨g2, c2, rfl, hg2⟩ : ∃ g2 c2, v2 = .slice (some ⟨g2, 0, none⟩) L.length c2 ∧ g2 < w2.heap.size ∧ w1.heap.size ≤ g2 := by
        rcases ownsRow_shape ho2 with ⟨_, h⟩ | ⟨g, cap, rfl, _, _, h3, h4, _⟩
        · omega
        · exact ⟨_, _, rfl, h4, h3⟩
      have hB2 := hb1.trans (hb2.mono hb1.size)
      have ho1b := ho1.kept (grown_of_below' hb2 none) (.inr (by simp [Value.ownBlock]))
      have hsz1 := hb1.size
      have hsz2 := hb2.size
      clear hb1 hb2 ho1
      go_wp2_with fail
      refine (eqS_some _ _ _ _ _ _ _ _ _ (by omega) ho2 ho1b).mono ?_
      rintro e w3 ⟨rfl, hb3⟩
      have hB3 := hB2.trans (hb3.mono hB2.size)
      have ho1c := ho1b.kept (grown_of_below' hb3 none) (.inr (by simp [Value.ownBlock]))
      have ho2c := ho2.kept (grown_of_below' hb3 none) (.inr (by simp [Value.ownBlock]))
      have hsz3 := hb3.size
      clear hb3 hB2 ho1b ho2
      go_wp2_with fail
      have hm := markS_some g2 L.length c2 _ 1 L w3 (by omega) (by omega) (by omega) ho2c
      rw [show ((1 : Nat) : Int) = 1 from rfl] at hm
      refine hm.mono ?_
      clear hm
      rintro e w4 ⟨rfl, ho2d, hg4⟩
      have ho1d := ho1c.kept hg4 (.inr (by simp [Value.ownBlock]; omega))
      have hB4 := hB3.grown hg4 hB3.size (fun k e => by cases e; omega)
      have hsz4 := hg4.size
      clear hg4 hB3 ho1c ho2c
      go_wp2_with fail
      have hm := heldS_some g2 L.length c2 _ 1 L w4 (by omega) (by omega) (by omega) ho2d
      rw [show ((1 : Nat) : Int) = 1 from rfl] at hm
      refine hm.mono ?_
      clear hm
      rintro e w5 ⟨rfl, hb5⟩
      have hB5 := hB4.trans (hb5.mono hB4.size)
      have ho1e := ho1d.kept (grown_of_below' hb5 none) (.inr (by simp [Value.ownBlock]))
      have ho2e := ho2d.kept (grown_of_below' hb5 none) (.inr (by simp [Value.ownBlock]))
      have hsz5 := hb5.size
      clear hb5 hB4 ho1d ho2d
      go_wp2_with fail
      refine (H2.out _).mono ?_
      rintro e w6 ⟨v3, rfl, ho3, hb6⟩
      obtain ⟨g3, c3, rfl, hg3⟩ : ∃ g3 c3, v3 = .slice (some ⟨g3, 0, none⟩) L.length c3 ∧ g3 < w6.heap.size ∧ w5.heap.size ≤ g3 := by
        rcases ownsRow_shape ho3 with ⟨_, h⟩ | ⟨g, cap, rfl, _, _, h3, h4, _⟩
        · omega
        · exact ⟨_, _, rfl, h4, h3⟩
      have hB6 := hB5.trans (hb6.mono hB5.size)
      have ho1f := ho1e.kept (grown_of_below' hb6 none) (.inr (by simp [Value.ownBlock]))
      have ho2f := ho2e.kept (grown_of_below' hb6 none) (.inr (by simp [Value.ownBlock]))
      have hsz6 := hb6.size
      clear hb6 hB5 ho1e ho2e
      go_wp2_with fail
      refine (eqS_some _ _ _ _ _ _ _ _ _ (by omega) ho3 ho1f).mono ?_
      rintro e w7 ⟨rfl, hb7⟩
      have hB7 := hB6.trans (hb7.mono hB6.size)
      have ho2g := ho2f.kept (grown_of_below' hb7 none) (.inr (by simp [Value.ownBlock]))
      have hsz7 := hb7.size
      clear hb7 hB6 ho1f ho2f ho3
      go_wp2_with fail
      have hm := heldS_some g2 L.length c2 _ 1 L w7 (by omega) (by omega) (by omega) ho2g
      rw [show ((1 : Nat) : Int) = 1 from rfl] at hm
      refine hm.mono ?_
      clear hm
      rintro e w8 ⟨rfl, hb8⟩
      have hB8 := hB7.trans (hb8.mono hB7.size)
      clear hb8 hB7
      go_wp2
      go_ret
      exact ⟨rfl, hB8⟩
  · go_enter Try.func5, Try.ntmps5
    go_wp2
    go_ret
    exact ⟨rfl, Below.refl _ _⟩

/-! ### THE ROW's STEP: WRITTEN OUT: LEAVE IT -/
set_option maxRecDepth 100000 in
theorem lifted (os : Os) (started : os.Started) (H : Type) (enc : TypeId × Value → H) :
    ReturnsInHanded {} Try.checked os 5 .any (Rows.fnExactWordsSpec.pre6 enc Try.prog Try.f5 Rows.fnExactWordsRow.domain false) (Rows.fnExactWordsSpec.post enc Try.prog Try.f5 false true false false) := by
  refine returnsInHanded_of_change (C := Try.checked) own started (by kernel_rfl) Try.func5
    (ChangeSpec.witness6 (enc := enc) (C := Try.checked) false ⟨#[], #[.string ByteArray.empty], []⟩ 8 (by kernel_rfl) (by kernel_rfl) (by kernel_rfl) (by kernel_rfl)) ?_
  intro W base args ds gs before hval0 hW hcnd _
  have hval : ∀ (j : Nat) t v, Try.f5.params[j]? = some t → args[j]? = some v → Value.okWide Try.prog W .any base t v := hval0
  have hW' := hW
  obtain ⟨p, q, hA0, hV, rfl, hfz, hnd⟩ := hW
  have hA : DataW.TrodAll enc Try.prog W 0 (fun _ => true) true Try.f5.params.toList args.toList ds p := hA0
  rw [Try.params5] at hA hval
  obtain ⟨v0, vs0, d0, ds0, p0, q0, hargs, rfl, rfl, h0, r0⟩ := trodAll_cons hA
  obtain ⟨rfl, rfl, rfl⟩ := trodAll_nil r0
  obtain rfl : args = #[v0] := by cases args; simp_all
  obtain ⟨rfl, rfl⟩ := trodVars_none hV
  obtain ⟨a0, rfl, rfl, rfl, w0⟩ := open_string Try.underlying9 (hval 0 9 v0 rfl rfl) h0
  clear hA0 hval0
  simp only [List.append_nil] at hW'
  refine (walk a0 w0 W).mono fun e W' ⟨he, bel⟩ => ?_
  subst he
  exact ⟨_, rfl, _, _, _, [], _, [], hW', trodAll_mk1 (shut_bool Try.underlying4 _), (trodAll_cons_mk (shut_string Try.underlying9 w0) trodAll_mk0), rfl, bel.frame _, fun h => by cases h⟩

theorem over : Rows.fnExactWordsRow.holds Try.pinned (OpenSpec.ofChange Rows.fnExactWordsSpec) :=
  OpenClaim.holds_of_wide 5 Try.f5 rfl rfl rfl rfl rfl rfl rfl ⟨rfl, rfl, rfl, rfl, rfl⟩ rfl rfl rfl rfl rfl (by kernel_rfl) Try.func5 (by kernel_rfl)
    (of_decide_eq_true (by kernel_rfl)) (by unfold Func.isWrapper; first | (rw [if_pos (by decide +kernel)]; kernel_rfl) | (rw [if_neg (by decide +kernel)]; exact ⟨rfl, rfl⟩))
    (fun os started H enc _ => lifted os started H enc)

theorem proved : Rows.FnExactWordsSaid :=
  over
#print axioms proved
end Go.Proofs.Ythmdbjjhhemjoaa.fnExactWords
