/- Chapter 3's exact laws over two lists, walked under what is asked of the program. -/
import Derived.Test.YtbhdgkaeackbkaaKeyK
import Derived.Test.YtbhdgkaeackbkaaKeyR
import Derived.Test.YtbhdgkaeackbkaaDrawL
namespace Go.Proofs.Ytbhdgkaeackbkaa
open Go.ChangeShapes Go.WideShapes Go.ChangeAt Go.RowKit
set_option linter.unusedVariables false

/-- what is asked of impl.Parted -/
def IParted : Prop := ∀ (va vb : Value) (A B : List K2) (w : World), keysAt w va A → keysAt w vb B → A.length ≤ 2000000 → B.length ≤ 2000000 →
    Calls Try.prog 23 #[va, vb] w fun e w' => ∃ v, e = .returned v ∧ w'.ownsRow w.heap.size 25 2 v (mergeV false A B).length (keyCells (mergeV false A B)) ∧ Below w.heap.size w w'
set_option maxRecDepth 100000 in
set_option maxHeartbeats 2000000 in
theorem exactparted_walk (HI : IParted) (va vb : Value) (A B : List K2) (w : World) (ha : keysAt w va A) (hb : keysAt w vb B) (hA63 : A.length ≤ maxLen) (hB63 : B.length ≤ maxLen) :
    Calls Try.prog 10 #[va, vb] w fun e w' => e = .returned (.bool true) ∧ Below w.heap.size w w' := by
  have hsA : ∃ a cap, va = .slice a A.length cap := by obtain ⟨a, cap, h, _⟩ := ha; exact ⟨a, cap, h⟩
  have hsB : ∃ a cap, vb = .slice a B.length cap := by obtain ⟨a, cap, h, _⟩ := hb; exact ⟨a, cap, h⟩
  unfold maxLen at hA63 hB63
  by_cases hlA : A.length ≤ 1048576
  · by_cases hlB : A.length + B.length ≤ 1048576
    · have S1 := Lib.hid (fun w => szkeys_any va A 1048576 w hsA (by omega) (by omega))
      have S2 := Lib.hid (fun w => szkeys_any vb B (1048576 - (A.length : Int)) w hsB (by omega) (by omega))
      rw [if_neg (by omega)] at S1 S2
      generalize hM : mergeV false A B = M at *
      have hMl : M.length ≤ 1048576 := by rw [← hM]; exact Nat.le_trans (mergeV_len false A B) (by omega)
      have n1 : ¬ 1048576 - (A.length : Int) < 0 := by omega
      have n2 : ¬ 1048576 - (A.length : Int) - (B.length : Int) < 0 := by omega
      have HB0 := Below.refl w.heap.size w
      have KA := Lib.hid (fun w' (h : Below w.heap.size w w') => tokeys_any va A w' (keysAt_below ha h) (by omega))
      have KB := Lib.hid (fun w' (h : Below w.heap.size w w') => tokeys_any vb B w' (keysAt_below hb h) (by omega))
      clear hsA hsB ha hb
      go_enter Try.func10, Try.ntmps10
      go_wp2_with fail
      refine (S1.out _).mono ?_
      rintro e w1 ⟨rfl, rfl⟩
      go_wp2_with fail
      refine (S2.out _).mono ?_
      rintro e w1' ⟨rfl, rfl⟩
      clear S1 S2
      go_wp2_with fail
      refine (KA.out _ HB0).mono ?_
      rintro e w2 ⟨g1, rfl, hg1, ho1, hb2⟩
      have HB2 := HB0.trans (hb2.mono HB0.size)
      clear hb2
      go_wp2_with fail
      refine (KB.out _ HB2).mono ?_
      rintro e w3 ⟨g2, rfl, hg2, ho2, hb3⟩
      have HB3 := HB2.trans (hb3.mono HB2.size)
      have ho1' := own_below ho1 hb3
      clear hb3 ho1
      go_wp2_with fail
      refine (sparted_any _ _ A B _ (keysAt_own ho1') (keysAt_own ho2) (by omega) (by omega)).mono ?_
      rintro e w4 ⟨v0, rfl, ho0, hb4⟩
      rw [hM] at ho0
      have HB4 := HB3.trans (hb4.mono HB3.size)
      have hz3 := HB3.size
      have hz0 : ∀ b, v0.ownBlock = some b → b < w4.heap.size := fun b e => (ho0.lt b e).2
      clear hb4 ho1' ho2
      go_wp2_with fail
      refine (KA.out _ HB4).mono ?_
      rintro e w5 ⟨g3, rfl, hg3, hox, hb5⟩
      have HB5 := HB4.trans (hb5.mono HB4.size)
      have ho0a := own_below ho0 hb5
      have hb5z := (hox.lt g3 rfl).2
      have z5 := hb5.size
      clear hb5 ho0
      go_wp2_with fail
      refine (KB.out _ HB5).mono ?_
      rintro e w6 ⟨g4, rfl, hg4, hoy, hb6⟩
      have HB6 := HB5.trans (hb6.mono HB5.size)
      have z6 := hb6.size
      have ho0b := own_below ho0a hb6
      have hoxa := own_below hox hb6
      clear hb6 ho0a hox
      go_wp2_with fail
      refine (HI _ _ A B _ (keysAt_own hoxa) (keysAt_own hoy) (by omega) (by omega)).mono ?_
      rintro e w7 ⟨vg, rfl, hog, hb7⟩
      rw [hM] at hog
      have HB7 := HB6.trans (hb7.mono HB6.size)
      have z7 := hb7.size
      have ho0c := own_below ho0b hb7
      have hoxb := own_below hoxa hb7
      have hoyb := own_below hoy hb7
      have hx6 := (hoxa.lt g3 rfl).2
      have hy6 := (hoy.lt g4 rfl).2
      have hz5 := hb5z
      have hbg : ∀ b, vg.ownBlock = some b → w6.heap.size ≤ b := fun b e => (hog.lt b e).1
      clear hb7 ho0b hoxa hoy
      go_wp2_with fail
      refine (eqkeys_any _ _ M M _ (keysAt_own hog) (keysAt_own ho0c) (by omega) (by omega)).mono ?_
      rintro e w8 ⟨rfl, hb8⟩
      have HB8 := HB7.trans (hb8.mono HB7.size)
      have z8 := hb8.size
      have ho0d := own_below ho0c hb8
      have hoxc := own_below hoxb hb8
      have hoyc := own_below hoyb hb8
      have hogc := own_below hog hb8
      rw [show decide (M = M) = true by simp]
      clear hb8 ho0c hoxb hoyb hog
      go_wp2_with fail
      refine (KA.out _ HB8).mono ?_
      rintro e w9 ⟨g5, rfl, hg5, hot, hb9⟩
      have HB9 := HB8.trans (hb9.mono HB8.size)
      have z9 := hb9.size
      have ho0e := own_below ho0d hb9
      have hoxd := own_below hoxc hb9
      have hoyd := own_below hoyc hb9
      have hogd := own_below hogc hb9
      clear hb9 ho0d hoxc hoyc hogc
      go_wp2_with fail
      refine (eqkeys_any _ _ A A _ (keysAt_own hoxd) (keysAt_own hot) (by omega) (by omega)).mono ?_
      rintro e w10 ⟨rfl, hb10⟩
      have HB10 := HB9.trans (hb10.mono HB9.size)
      have z10 := hb10.size
      have ho0f := own_below ho0e hb10
      have hoxe := own_below hoxd hb10
      have hoye := own_below hoyd hb10
      have hoge := own_below hogd hb10
      rw [show decide (A = A) = true by simp]
      clear hb10 ho0e hoxd hoyd hogd hot
      go_wp2_with fail
      refine (KB.out _ HB10).mono ?_
      rintro e w11 ⟨g6, rfl, hg6, hot, hb11⟩
      have HB11 := HB10.trans (hb11.mono HB10.size)
      have z11 := hb11.size
      have ho0g := own_below ho0f hb11
      have hoxf := own_below hoxe hb11
      have hoyf := own_below hoye hb11
      have hogf := own_below hoge hb11
      clear hb11 ho0f hoxe hoye hoge
      go_wp2_with fail
      refine (eqkeys_any _ _ B B _ (keysAt_own hoyf) (keysAt_own hot) (by omega) (by omega)).mono ?_
      rintro e w12 ⟨rfl, hb12⟩
      have HB12 := HB11.trans (hb12.mono HB11.size)
      have z12 := hb12.size
      have ho0h := own_below ho0g hb12
      have hoxg := own_below hoxf hb12
      have hoyg := own_below hoyf hb12
      have hogg := own_below hogf hb12
      rw [show decide (B = B) = true by simp]
      clear hb12 ho0g hoxf hoyf hogf hot
      go_wp2_with fail
      refine (markkeys_any _ _ _ _ 1 _ hoxg (by omega) (by omega) (by have := (hoxg.lt g3 rfl); omega)).mono ?_
      rintro e w13 ⟨rfl, hox13, hgr13⟩
      have z13 := hgr13.size
      have HB13 : Below w1'.heap.size w1' w13 := HB12.grown hgr13 HB12.size (fun k e => by cases e; exact Nat.le_trans HB4.size hg3)
      have ho0i := ho0h.kept hgr13 (.inr fun e => by have := hz0 g3 e; omega)
      have hoyh := hoyg.kept hgr13 (.inr fun e => by have e2 : g4 = g3 := Option.some.inj e; omega)
      have hogh := hogg.kept hgr13 (.inr fun e => by have := hbg g3 e; omega)
      clear hgr13 ho0h hoxg hoyg hogg
      go_wp2_with fail
      refine (markkeys_any _ _ _ _ _ _ hoyh (by omega) (by omega) (by have := (hoyh.lt g4 rfl); omega)).mono ?_
      rintro e w14 ⟨rfl, hoy14, hgr14⟩
      have z14 := hgr14.size
      have HB14 : Below w1'.heap.size w1' w14 := HB13.grown hgr14 HB13.size (fun k e => by cases e; exact Nat.le_trans HB5.size hg4)
      have ho0j := ho0i.kept hgr14 (.inr fun e => by have := hz0 g4 e; omega)
      have hogi := hogh.kept hgr14 (.inr fun e => by have := hbg g4 e; omega)
      clear hgr14 ho0i hoyh hogh hox13 hoy14
      have n3 : ¬ 1 + 2 * (A.length : Int) + 2 * (B.length : Int) < 0 := by omega
      go_wp2_with fail
      refine (eqkeys_any _ _ M M _ (keysAt_own hogi) (keysAt_own ho0j) (by omega) (by omega)).mono ?_
      rintro e w15 ⟨rfl, hb15⟩
      have HB15 := HB14.trans (hb15.mono HB14.size)
      have z15 := hb15.size
      have ho0k := own_below ho0j hb15
      have hogj := own_below hogi hb15
      rw [show decide (M = M) = true by simp]
      clear hb15 ho0j hogi
      go_wp2_with fail
      refine (markkeys_any _ _ _ _ 1 _ hogj (by omega) (by omega) (by omega)).mono ?_
      rintro e w16 ⟨rfl, hog16, hgr16⟩
      have z16 := hgr16.size
      have HB16 : Below w1'.heap.size w1' w16 := HB15.grown hgr16 HB15.size (fun k e => Nat.le_trans HB6.size (hbg k e))
      have ho0l : w16.ownsRow w3.heap.size 25 2 v0 M.length (keyCells M) := by
        cases hv : v0.ownBlock with
        | none => exact ho0k.kept hgr16 (.inl hv)
        | some b => exact ho0k.kept hgr16 (.inr fun e => by rw [hv] at e; have := hz0 b hv; have := hbg b e.symm; omega)
      clear hgr16 ho0k hogj
      have n4 : ¬ 1 + 2 * (M.length : Int) < 0 := by omega
      have kg16 : keysAt w16 vg (marked M.length 1) := keysAt_own (ks := marked M.length 1) (by rw [marked_len]; exact hog16)
      go_wp2_with fail
      refine (heldkeys_any _ _ 1 _ kg16 (by omega) (by omega)).mono ?_
      rintro e w17 ⟨rfl, rfl⟩
      clear kg16
      go_wp2_with fail
      refine (KA.out _ HB16).mono ?_
      rintro e w18 ⟨g7, rfl, hg7, hox7, hb18⟩
      have HB18 := HB16.trans (hb18.mono HB16.size)
      have ho0m := own_below ho0l hb18
      have hogk := own_below hog16 hb18
      clear hb18 ho0l hog16
      go_wp2_with fail
      refine (KB.out _ HB18).mono ?_
      rintro e w19 ⟨g8, rfl, hg8, hoy8, hb19⟩
      have HB19 := HB18.trans (hb19.mono HB18.size)
      have ho0n := own_below ho0m hb19
      have hogl := own_below hogk hb19
      have hox8 := own_below hox7 hb19
      clear hb19 ho0m hogk hox7
      go_wp2_with fail
      refine (HI _ _ A B _ (keysAt_own hox8) (keysAt_own hoy8) (by omega) (by omega)).mono ?_
      rintro e w20 ⟨vh, rfl, hoh, hb20⟩
      rw [hM] at hoh
      have HB20 := HB19.trans (hb20.mono HB19.size)
      have ho0o := own_below ho0n hb20
      have hogm := own_below hogl hb20
      clear hb20 ho0n hogl hox8 hoy8
      go_wp2_with fail
      refine (eqkeys_any _ _ M M _ (keysAt_own hoh) (keysAt_own ho0o) (by omega) (by omega)).mono ?_
      rintro e w21 ⟨rfl, hb21⟩
      have HB21 := HB20.trans (hb21.mono HB20.size)
      have hogn := own_below hogm hb21
      rw [show decide (M = M) = true by simp]
      have kg21 : keysAt w21 vg (marked M.length 1) := keysAt_own (ks := marked M.length 1) (by rw [marked_len]; exact hogn)
      clear hb21 ho0o hogm hoh hogn
      go_wp2_with fail
      refine (heldkeys_any _ _ 1 _ kg21 (by omega) (by omega)).mono ?_
      rintro e w22 ⟨rfl, rfl⟩
      clear kg21
      go_wp2
      go_ret
      exact ⟨rfl, HB21⟩

    · have S1 := Lib.hid (fun w => szkeys_any va A 1048576 w hsA (by omega) (by omega))
      have S2 := Lib.hid (fun w => szkeys_any vb B (1048576 - (A.length : Int)) w hsB (by omega) (by omega))
      rw [if_neg (by omega)] at S1
      rw [if_pos (by omega)] at S2
      clear hsA hsB ha hb
      go_enter Try.func10, Try.ntmps10
      go_wp2_with fail
      refine (S1.out _).mono ?_
      rintro e w1 ⟨rfl, rfl⟩
      have n1 : ¬ 1048576 - (A.length : Int) < 0 := by omega
      go_wp2_with fail
      refine (S2.out _).mono ?_
      rintro e w1' ⟨rfl, rfl⟩
      go_wp2
      go_ret
      exact ⟨rfl, Below.refl _ _⟩
  · have S1 := Lib.hid (fun w => szkeys_any va A 1048576 w hsA (by omega) (by omega))
    rw [if_pos (by omega)] at S1
    clear hsA hsB ha hb
    go_enter Try.func10, Try.ntmps10
    go_wp2_with fail
    refine (S1.out _).mono ?_
    rintro e w1 ⟨rfl, rfl⟩
    go_wp2
    go_ret
    exact ⟨rfl, Below.refl _ _⟩
/-- what is asked of impl.Joined -/
def IJoined : Prop := ∀ (va vb : Value) (A B : List K2) (w : World), keysAt w va A → keysAt w vb B → A.length ≤ 2000000 → B.length ≤ 2000000 →
    Calls Try.prog 29 #[va, vb] w fun e w' => ∃ v, e = .returned v ∧ w'.ownsRow w.heap.size 25 2 v (mergeV true A B).length (keyCells (mergeV true A B)) ∧ Below w.heap.size w w'
set_option maxRecDepth 100000 in
set_option maxHeartbeats 2000000 in
theorem exactjoined_walk (HI : IJoined) (va vb : Value) (A B : List K2) (w : World) (ha : keysAt w va A) (hb : keysAt w vb B) (hA63 : A.length ≤ maxLen) (hB63 : B.length ≤ maxLen) :
    Calls Try.prog 11 #[va, vb] w fun e w' => e = .returned (.bool true) ∧ Below w.heap.size w w' := by
  have hsA : ∃ a cap, va = .slice a A.length cap := by obtain ⟨a, cap, h, _⟩ := ha; exact ⟨a, cap, h⟩
  have hsB : ∃ a cap, vb = .slice a B.length cap := by obtain ⟨a, cap, h, _⟩ := hb; exact ⟨a, cap, h⟩
  unfold maxLen at hA63 hB63
  by_cases hlA : A.length ≤ 1048576
  · by_cases hlB : A.length + B.length ≤ 1048576
    · have S1 := Lib.hid (fun w => szkeys_any va A 1048576 w hsA (by omega) (by omega))
      have S2 := Lib.hid (fun w => szkeys_any vb B (1048576 - (A.length : Int)) w hsB (by omega) (by omega))
      rw [if_neg (by omega)] at S1 S2
      generalize hM : mergeV true A B = M at *
      have hMl : M.length ≤ 1048576 := by rw [← hM]; exact Nat.le_trans (mergeV_len true A B) (by omega)
      have n1 : ¬ 1048576 - (A.length : Int) < 0 := by omega
      have n2 : ¬ 1048576 - (A.length : Int) - (B.length : Int) < 0 := by omega
      have HB0 := Below.refl w.heap.size w
      have KA := Lib.hid (fun w' (h : Below w.heap.size w w') => tokeys_any va A w' (keysAt_below ha h) (by omega))
      have KB := Lib.hid (fun w' (h : Below w.heap.size w w') => tokeys_any vb B w' (keysAt_below hb h) (by omega))
      clear hsA hsB ha hb
      go_enter Try.func11, Try.ntmps11
      go_wp2_with fail
      refine (S1.out _).mono ?_
      rintro e w1 ⟨rfl, rfl⟩
      go_wp2_with fail
      refine (S2.out _).mono ?_
      rintro e w1' ⟨rfl, rfl⟩
      clear S1 S2
      go_wp2_with fail
      refine (KA.out _ HB0).mono ?_
      rintro e w2 ⟨g1, rfl, hg1, ho1, hb2⟩
      have HB2 := HB0.trans (hb2.mono HB0.size)
      clear hb2
      go_wp2_with fail
      refine (KB.out _ HB2).mono ?_
      rintro e w3 ⟨g2, rfl, hg2, ho2, hb3⟩
      have HB3 := HB2.trans (hb3.mono HB2.size)
      have ho1' := own_below ho1 hb3
      clear hb3 ho1
      go_wp2_with fail
      refine (sjoined_any _ _ A B _ (keysAt_own ho1') (keysAt_own ho2) (by omega) (by omega)).mono ?_
      rintro e w4 ⟨v0, rfl, ho0, hb4⟩
      rw [hM] at ho0
      have HB4 := HB3.trans (hb4.mono HB3.size)
      have hz3 := HB3.size
      have hz0 : ∀ b, v0.ownBlock = some b → b < w4.heap.size := fun b e => (ho0.lt b e).2
      clear hb4 ho1' ho2
      go_wp2_with fail
      refine (KA.out _ HB4).mono ?_
      rintro e w5 ⟨g3, rfl, hg3, hox, hb5⟩
      have HB5 := HB4.trans (hb5.mono HB4.size)
      have ho0a := own_below ho0 hb5
      have hb5z := (hox.lt g3 rfl).2
      have z5 := hb5.size
      clear hb5 ho0
      go_wp2_with fail
      refine (KB.out _ HB5).mono ?_
      rintro e w6 ⟨g4, rfl, hg4, hoy, hb6⟩
      have HB6 := HB5.trans (hb6.mono HB5.size)
      have z6 := hb6.size
      have ho0b := own_below ho0a hb6
      have hoxa := own_below hox hb6
      clear hb6 ho0a hox
      go_wp2_with fail
      refine (HI _ _ A B _ (keysAt_own hoxa) (keysAt_own hoy) (by omega) (by omega)).mono ?_
      rintro e w7 ⟨vg, rfl, hog, hb7⟩
      rw [hM] at hog
      have HB7 := HB6.trans (hb7.mono HB6.size)
      have z7 := hb7.size
      have ho0c := own_below ho0b hb7
      have hoxb := own_below hoxa hb7
      have hoyb := own_below hoy hb7
      have hx6 := (hoxa.lt g3 rfl).2
      have hy6 := (hoy.lt g4 rfl).2
      have hz5 := hb5z
      have hbg : ∀ b, vg.ownBlock = some b → w6.heap.size ≤ b := fun b e => (hog.lt b e).1
      clear hb7 ho0b hoxa hoy
      go_wp2_with fail
      refine (eqkeys_any _ _ M M _ (keysAt_own hog) (keysAt_own ho0c) (by omega) (by omega)).mono ?_
      rintro e w8 ⟨rfl, hb8⟩
      have HB8 := HB7.trans (hb8.mono HB7.size)
      have z8 := hb8.size
      have ho0d := own_below ho0c hb8
      have hoxc := own_below hoxb hb8
      have hoyc := own_below hoyb hb8
      have hogc := own_below hog hb8
      rw [show decide (M = M) = true by simp]
      clear hb8 ho0c hoxb hoyb hog
      go_wp2_with fail
      refine (KA.out _ HB8).mono ?_
      rintro e w9 ⟨g5, rfl, hg5, hot, hb9⟩
      have HB9 := HB8.trans (hb9.mono HB8.size)
      have z9 := hb9.size
      have ho0e := own_below ho0d hb9
      have hoxd := own_below hoxc hb9
      have hoyd := own_below hoyc hb9
      have hogd := own_below hogc hb9
      clear hb9 ho0d hoxc hoyc hogc
      go_wp2_with fail
      refine (eqkeys_any _ _ A A _ (keysAt_own hoxd) (keysAt_own hot) (by omega) (by omega)).mono ?_
      rintro e w10 ⟨rfl, hb10⟩
      have HB10 := HB9.trans (hb10.mono HB9.size)
      have z10 := hb10.size
      have ho0f := own_below ho0e hb10
      have hoxe := own_below hoxd hb10
      have hoye := own_below hoyd hb10
      have hoge := own_below hogd hb10
      rw [show decide (A = A) = true by simp]
      clear hb10 ho0e hoxd hoyd hogd hot
      go_wp2_with fail
      refine (KB.out _ HB10).mono ?_
      rintro e w11 ⟨g6, rfl, hg6, hot, hb11⟩
      have HB11 := HB10.trans (hb11.mono HB10.size)
      have z11 := hb11.size
      have ho0g := own_below ho0f hb11
      have hoxf := own_below hoxe hb11
      have hoyf := own_below hoye hb11
      have hogf := own_below hoge hb11
      clear hb11 ho0f hoxe hoye hoge
      go_wp2_with fail
      refine (eqkeys_any _ _ B B _ (keysAt_own hoyf) (keysAt_own hot) (by omega) (by omega)).mono ?_
      rintro e w12 ⟨rfl, hb12⟩
      have HB12 := HB11.trans (hb12.mono HB11.size)
      have z12 := hb12.size
      have ho0h := own_below ho0g hb12
      have hoxg := own_below hoxf hb12
      have hoyg := own_below hoyf hb12
      have hogg := own_below hogf hb12
      rw [show decide (B = B) = true by simp]
      clear hb12 ho0g hoxf hoyf hogf hot
      go_wp2_with fail
      refine (markkeys_any _ _ _ _ 1 _ hoxg (by omega) (by omega) (by have := (hoxg.lt g3 rfl); omega)).mono ?_
      rintro e w13 ⟨rfl, hox13, hgr13⟩
      have z13 := hgr13.size
      have HB13 : Below w1'.heap.size w1' w13 := HB12.grown hgr13 HB12.size (fun k e => by cases e; exact Nat.le_trans HB4.size hg3)
      have ho0i := ho0h.kept hgr13 (.inr fun e => by have := hz0 g3 e; omega)
      have hoyh := hoyg.kept hgr13 (.inr fun e => by have e2 : g4 = g3 := Option.some.inj e; omega)
      have hogh := hogg.kept hgr13 (.inr fun e => by have := hbg g3 e; omega)
      clear hgr13 ho0h hoxg hoyg hogg
      go_wp2_with fail
      refine (markkeys_any _ _ _ _ _ _ hoyh (by omega) (by omega) (by have := (hoyh.lt g4 rfl); omega)).mono ?_
      rintro e w14 ⟨rfl, hoy14, hgr14⟩
      have z14 := hgr14.size
      have HB14 : Below w1'.heap.size w1' w14 := HB13.grown hgr14 HB13.size (fun k e => by cases e; exact Nat.le_trans HB5.size hg4)
      have ho0j := ho0i.kept hgr14 (.inr fun e => by have := hz0 g4 e; omega)
      have hogi := hogh.kept hgr14 (.inr fun e => by have := hbg g4 e; omega)
      clear hgr14 ho0i hoyh hogh hox13 hoy14
      have n3 : ¬ 1 + 2 * (A.length : Int) + 2 * (B.length : Int) < 0 := by omega
      go_wp2_with fail
      refine (eqkeys_any _ _ M M _ (keysAt_own hogi) (keysAt_own ho0j) (by omega) (by omega)).mono ?_
      rintro e w15 ⟨rfl, hb15⟩
      have HB15 := HB14.trans (hb15.mono HB14.size)
      have z15 := hb15.size
      have ho0k := own_below ho0j hb15
      have hogj := own_below hogi hb15
      rw [show decide (M = M) = true by simp]
      clear hb15 ho0j hogi
      go_wp2_with fail
      refine (markkeys_any _ _ _ _ 1 _ hogj (by omega) (by omega) (by omega)).mono ?_
      rintro e w16 ⟨rfl, hog16, hgr16⟩
      have z16 := hgr16.size
      have HB16 : Below w1'.heap.size w1' w16 := HB15.grown hgr16 HB15.size (fun k e => Nat.le_trans HB6.size (hbg k e))
      have ho0l : w16.ownsRow w3.heap.size 25 2 v0 M.length (keyCells M) := by
        cases hv : v0.ownBlock with
        | none => exact ho0k.kept hgr16 (.inl hv)
        | some b => exact ho0k.kept hgr16 (.inr fun e => by rw [hv] at e; have := hz0 b hv; have := hbg b e.symm; omega)
      clear hgr16 ho0k hogj
      have n4 : ¬ 1 + 2 * (M.length : Int) < 0 := by omega
      have kg16 : keysAt w16 vg (marked M.length 1) := keysAt_own (ks := marked M.length 1) (by rw [marked_len]; exact hog16)
      go_wp2_with fail
      refine (heldkeys_any _ _ 1 _ kg16 (by omega) (by omega)).mono ?_
      rintro e w17 ⟨rfl, rfl⟩
      clear kg16
      go_wp2_with fail
      refine (KA.out _ HB16).mono ?_
      rintro e w18 ⟨g7, rfl, hg7, hox7, hb18⟩
      have HB18 := HB16.trans (hb18.mono HB16.size)
      have ho0m := own_below ho0l hb18
      have hogk := own_below hog16 hb18
      clear hb18 ho0l hog16
      go_wp2_with fail
      refine (KB.out _ HB18).mono ?_
      rintro e w19 ⟨g8, rfl, hg8, hoy8, hb19⟩
      have HB19 := HB18.trans (hb19.mono HB18.size)
      have ho0n := own_below ho0m hb19
      have hogl := own_below hogk hb19
      have hox8 := own_below hox7 hb19
      clear hb19 ho0m hogk hox7
      go_wp2_with fail
      refine (HI _ _ A B _ (keysAt_own hox8) (keysAt_own hoy8) (by omega) (by omega)).mono ?_
      rintro e w20 ⟨vh, rfl, hoh, hb20⟩
      rw [hM] at hoh
      have HB20 := HB19.trans (hb20.mono HB19.size)
      have ho0o := own_below ho0n hb20
      have hogm := own_below hogl hb20
      clear hb20 ho0n hogl hox8 hoy8
      go_wp2_with fail
      refine (eqkeys_any _ _ M M _ (keysAt_own hoh) (keysAt_own ho0o) (by omega) (by omega)).mono ?_
      rintro e w21 ⟨rfl, hb21⟩
      have HB21 := HB20.trans (hb21.mono HB20.size)
      have hogn := own_below hogm hb21
      rw [show decide (M = M) = true by simp]
      have kg21 : keysAt w21 vg (marked M.length 1) := keysAt_own (ks := marked M.length 1) (by rw [marked_len]; exact hogn)
      clear hb21 ho0o hogm hoh hogn
      go_wp2_with fail
      refine (heldkeys_any _ _ 1 _ kg21 (by omega) (by omega)).mono ?_
      rintro e w22 ⟨rfl, rfl⟩
      clear kg21
      go_wp2
      go_ret
      exact ⟨rfl, HB21⟩

    · have S1 := Lib.hid (fun w => szkeys_any va A 1048576 w hsA (by omega) (by omega))
      have S2 := Lib.hid (fun w => szkeys_any vb B (1048576 - (A.length : Int)) w hsB (by omega) (by omega))
      rw [if_neg (by omega)] at S1
      rw [if_pos (by omega)] at S2
      clear hsA hsB ha hb
      go_enter Try.func11, Try.ntmps11
      go_wp2_with fail
      refine (S1.out _).mono ?_
      rintro e w1 ⟨rfl, rfl⟩
      have n1 : ¬ 1048576 - (A.length : Int) < 0 := by omega
      go_wp2_with fail
      refine (S2.out _).mono ?_
      rintro e w1' ⟨rfl, rfl⟩
      go_wp2
      go_ret
      exact ⟨rfl, Below.refl _ _⟩
  · have S1 := Lib.hid (fun w => szkeys_any va A 1048576 w hsA (by omega) (by omega))
    rw [if_pos (by omega)] at S1
    clear hsA hsB ha hb
    go_enter Try.func11, Try.ntmps11
    go_wp2_with fail
    refine (S1.out _).mono ?_
    rintro e w1 ⟨rfl, rfl⟩
    go_wp2
    go_ret
    exact ⟨rfl, Below.refl _ _⟩
end Go.Proofs.Ytbhdgkaeackbkaa
