/- FnLines, walked: lines put together are the text, words with blanks between are those words. -/
import Derived.Test.YthmdbjjhhemjoaaDoorJoinM
import Derived.Test.YthmdbjjhhemjoaaDoorLines
import Derived.Test.YthmdbjjhhemjoaaDoorWordsS
import Derived.Test.YthmdbjjhhemjoaaDoorDraw2
namespace Go.Proofs.YthmdbjjhhemjoaaDoor
open Go.ChangeShapes Go.WideShapes Go.ChangeAt Go.RowKit
set_option linter.unusedVariables false

set_option maxRecDepth 100000 in
set_option maxHeartbeats 2000000 in
theorem fnlines_walk (a0 : Option Addr) (len0 cap0 : Nat) (z0 : List Int) (w : World) (w0 : IsRow .u8 w a0 len0 cap0 z0) (hsh : w.ShapedOpen Tryd.prog) :
    Calls Tryd.prog 5 #[.slice a0 len0 cap0] w fun e w' => e = .returned (.bool true) ∧ Below w.heap.size w w' := by
  have HSH := Lib.hid hsh
  clear hsh
  by_cases hbig : len0 ≤ 1048576
  · have hcode := codeAt_of w0 hbig
    clear w0
    have hj := joinN_lines (linesT z0 len0)
    have hjs := joinN_size (linesB (linesT z0 len0)) 12 (fun i => Nat.le_trans (linesB_each _ i) (linesT_size z0 len0))
    have hle := fun i : Nat => Nat.le_trans (linesB_each (linesT z0 len0) i) (linesT_size z0 len0)
    have hss := linesT_size z0 len0
    have hcount := linesB_count (linesT z0 len0)
    have D1 := Lib.hid (drawlines_any w.heap.size len0 cap0 a0 z0 w hcode (Nat.le_refl _))
    have I1 := Lib.hid (fun w hw => ilines_any (linesT z0 len0) w (by omega) hw)
    have S1 := Lib.hid (fun w => slines_any (linesT z0 len0) w (by omega))
    generalize linesT z0 len0 = s at *
    generalize linesB s = L at *
    have D2 := Lib.hid (fun w' hc hw => drawwords_any w.heap.size len0 cap0 a0 z0 w' hc hw)
    have hlw := lineN_words (wordsT z0 len0)
    have hls := lineN_size (wordsB (wordsT z0 len0)) 12 (fun i => Nat.le_trans (wordsB_each _ i) (wordsT_size z0 len0))
    have hwe := fun i : Nat => Nat.le_trans (wordsB_each (wordsT z0 len0) i) (wordsT_size z0 len0)
    have htt := wordsT_size z0 len0
    have hcnt := wordsB_count (wordsT z0 len0)
    have I2 := Lib.hid (fun w => iwords_any (wordsT z0 len0) w (by omega))
    have S2 := Lib.hid (fun w => swords_any (wordsT z0 len0) w (by omega))
    generalize wordsT z0 len0 = t at *
    have hlsz : (lineN (wordsB t) (wordsB t).length).size ≤ 2000000 := by
      have := hls (wordsB t).length; omega
    have I3 := Lib.hid (fun w => iwords_any (lineN (wordsB t) (wordsB t).length) w hlsz)
    rw [hlw] at I3
    clear hlsz hlw
    generalize wordsB t = W at *
    have HJ := Lib.hid hj; clear hj
    have HC := Lib.hid hcode; clear hcode
    have hLn : L.length ≤ 13 := by omega
    have hWn : W.length ≤ 12 := by omega
    have HJS := Lib.hid hjs; have HLS := Lib.hid hls; clear hjs hls
    have HLE := Lib.hid hle; have HWE := Lib.hid hwe; clear hle hwe
    go_enter Tryd.func5, Tryd.ntmps5
    go_wp2_with fail
    refine (big_any _ _ _ _ hbig).mono ?_
    rintro e w1 ⟨rfl, rfl⟩
    go_wp2_with fail
    refine D1.out.mono ?_
    rintro e w2 ⟨rfl, hB⟩
    go_wp2_with fail
    refine (I1.out _ (HSH.out.keptBut (hB.frame fun _ => False) (fun _ h => h.elim))).mono ?_
    rintro e w3 ⟨v1, rfl, ho1, hb⟩
    have hB3 := hB.trans (hb.mono hB.size)
    clear hB hb
    obtain ⟨a1, c1, rfl⟩ : ∃ a1 c1, v1 = .slice a1 L.length c1 := by
      rcases ownsRow_shape ho1 with ⟨rfl, h⟩ | ⟨g, cap, rfl, _⟩
      · exact ⟨none, 0, by rw [h]⟩
      · exact ⟨_, _, rfl⟩
    go_wp2
    go_loopw [5, 6] (fun x i wr => ∃ j : Nat, j ≤ L.length ∧ i = .int .i64 j ∧ x = .string (joinN L j) ∧ wr = w3) (fun _ i _ => L.length - (intOf i).toNat)
    case atStart => exact ⟨0, Nat.zero_le _, rfl, rfl, rfl⟩
    case round =>
      obtain ⟨j, hj, rfl, rfl, rfl⟩ := hrel
      have hjs := HJS.out j
      by_cases hlt : j < L.length
      · have z1 : (j : Int) < (L.length : Int) := by omega
        have z0 : (0 : Int) ≤ (j : Int) := by omega
        obtain ⟨g, rfl⟩ : ∃ g, a1 = some ⟨g, 0, none⟩ := by
          rcases ownsRow_shape ho1 with ⟨_, h⟩ | ⟨g, cap, h, _⟩
          · omega
          · simp at h; exact ⟨g, h.1⟩
        have q1 : wr.cell? ⟨g, j, none⟩ = some (.string (L[j]?.getD ByteArray.empty)) := by
          rw [ho1.cellAt j (by omega)]; simp [hlt]
        have hy := HLE.out j
        have hx : (joinN L j).size ≤ 200 := by omega
        have hst : joinN L (j + 1) = (if j = 0 then joinN L j else joinN L j ++ ⟨#[10]⟩) ++ L[j]?.getD ByteArray.empty := rfl
        generalize L[j]?.getD ByteArray.empty = y at *
        have HO := Lib.hid ho1; clear ho1 D1 D2 I1 I2 I3 S1 S2 HSH HC
        by_cases h0 : j = 0
        · rw [if_pos h0] at hst
          have HST := Lib.hid hst; clear hst
          have H0 := Lib.hid h0
          have z2 : ¬ (0 : Int) < (j : Int) := by omega
          clear h0
          go_wp2
          go_roundw
          case rel => exact ⟨j + 1, by omega, by go_num, by rw [HST.out], by first | rfl | trivial⟩
          case measure => simp [intOf]; omega
        · rw [if_neg h0] at hst
          have HST := Lib.hid hst; clear hst
          have H0 := Lib.hid h0
          have z2 : (0 : Int) < (j : Int) := by omega
          clear h0
          go_wp2
          go_roundw
          case rel => exact ⟨j + 1, by omega, by go_num, by rw [HST.out], by first | rfl | trivial⟩
          case measure => simp [intOf]; omega
      · obtain rfl : j = L.length := by omega
        rw [HJ.out]
        clear hjs HJ HJS
        go_wp2_with fail
        refine (D2.out _ (HC.out.below hB3) hB3.size).mono ?_
        rintro e w4 ⟨rfl, hb4⟩
        go_wp2_with fail
        refine (I2.out _).mono ?_
        rintro e w5 ⟨v2, rfl, ho2, hb5⟩
        have ho1b := (ho1.kept (grown_of_below' hb4 none) (by cases (Value.slice a1 L.length c1).ownBlock <;> simp)).kept (grown_of_below' hb5 none) (by cases (Value.slice a1 L.length c1).ownBlock <;> simp)
        have hB5 := (hB3.trans (hb4.mono hB3.size)).trans (hb5.mono (hB3.trans (hb4.mono hB3.size)).size)
        clear hb4 hb5 ho1 hB3
        obtain ⟨a2, c2, rfl⟩ : ∃ a2 c2, v2 = .slice a2 W.length c2 := by
          rcases ownsRow_shape ho2 with ⟨rfl, h⟩ | ⟨g, cap, rfl, _⟩
          · exact ⟨none, 0, by rw [h]⟩
          · exact ⟨_, _, rfl⟩
        go_wp2
        go_loopw [8, 9] (fun x i wr => ∃ j : Nat, j ≤ W.length ∧ i = .int .i64 j ∧ x = .string (lineN W j) ∧ wr = w5) (fun _ i _ => W.length - (intOf i).toNat)
        case atStart => exact ⟨0, Nat.zero_le _, rfl, rfl, rfl⟩
        case round =>
          obtain ⟨j, hj, rfl, rfl, rfl⟩ := hrel
          have hjs := HLS.out j
          by_cases hlt : j < W.length
          · have z1 : (j : Int) < (W.length : Int) := by omega
            have z0 : (0 : Int) ≤ (j : Int) := by omega
            obtain ⟨g, rfl⟩ : ∃ g, a2 = some ⟨g, 0, none⟩ := by
              rcases ownsRow_shape ho2 with ⟨_, h⟩ | ⟨g, cap, h, _⟩
              · omega
              · simp at h; exact ⟨g, h.1⟩
            have q1 : wr.cell? ⟨g, j, none⟩ = some (.string (W[j]?.getD ByteArray.empty)) := by
              rw [ho2.cellAt j (by omega)]; simp [hlt]
            have hy := HWE.out j
            have hx : (lineN W j).size ≤ 200 := by omega
            have hst : lineN W (j + 1) = (lineN W j ++ W[j]?.getD ByteArray.empty) ++ ⟨#[32]⟩ := rfl
            generalize W[j]?.getD ByteArray.empty = y at *
            have HO := Lib.hid ho2; have HO1 := Lib.hid ho1b; clear ho2 ho1b D1 D2 I1 I2 I3 S1 S2 HSH HC
            have HST := Lib.hid hst; clear hst
            go_wp2
            go_roundw
            case rel => exact ⟨j + 1, by omega, by go_num, by rw [HST.out], by first | rfl | trivial⟩
            case measure => simp [intOf]; omega
          · obtain rfl : j = W.length := by omega
            generalize lineN W W.length = line at *
            clear hjs HLS HWE
            go_wp2_with fail
            refine (S1.out _).mono ?_
            rintro e w6 ⟨v3, rfl, ho3, hb6⟩
            have ho1c := ho1b.kept (grown_of_below' hb6 none) (by cases (Value.slice a1 L.length c1).ownBlock <;> simp)
            have ho2c := ho2.kept (grown_of_below' hb6 none) (by cases (Value.slice a2 W.length c2).ownBlock <;> simp)
            have hB6 := hB5.trans (hb6.mono hB5.size)
            clear hb6 ho1b ho2 hB5 S1
            go_wp2_with fail
            refine (sameT _ _ _ _ _ _ _ (by omega) ho1c ho3).mono ?_
            rintro e w7 ⟨rfl, hb7⟩
            have ho2d := ho2c.kept (grown_of_below' hb7 none) (by cases (Value.slice a2 W.length c2).ownBlock <;> simp)
            have hB7 := hB6.trans (hb7.mono hB6.size)
            clear hb7 ho1c ho2c ho3 hB6
            go_wp2_with fail
            refine (I3.out _).mono ?_
            rintro e w8 ⟨v4, rfl, ho4, hb8⟩
            have ho2e := ho2d.kept (grown_of_below' hb8 none) (by cases (Value.slice a2 W.length c2).ownBlock <;> simp)
            have hB8 := hB7.trans (hb8.mono hB7.size)
            clear hb8 ho2d hB7
            go_wp2_with fail
            refine (sameT _ _ _ _ _ _ _ (by omega) ho4 ho2e).mono ?_
            rintro e w9 ⟨rfl, hb9⟩
            have ho2f := ho2e.kept (grown_of_below' hb9 none) (by cases (Value.slice a2 W.length c2).ownBlock <;> simp)
            have hB9 := hB8.trans (hb9.mono hB8.size)
            clear hb9 ho2e ho4 hB8
            go_wp2_with fail
            refine (D2.out _ (HC.out.below hB9) hB9.size).mono ?_
            rintro e w10 ⟨rfl, hb10⟩
            have ho2g := ho2f.kept (grown_of_below' hb10 none) (by cases (Value.slice a2 W.length c2).ownBlock <;> simp)
            have hB10 := hB9.trans (hb10.mono hB9.size)
            clear hb10 ho2f hB9
            go_wp2_with fail
            refine (S2.out _).mono ?_
            rintro e w11 ⟨v5, rfl, ho5, hb11⟩
            have ho2h := ho2g.kept (grown_of_below' hb11 none) (by cases (Value.slice a2 W.length c2).ownBlock <;> simp)
            have hB11 := hB10.trans (hb11.mono hB10.size)
            clear hb11 ho2g hB10
            go_wp2_with fail
            refine (sameT _ _ _ _ _ _ _ (by omega) ho2h ho5).mono ?_
            rintro e w12 ⟨rfl, hb12⟩
            have hB12 := hB11.trans (hb12.mono hB11.size)
            clear hb12 ho2h ho5 hB11
            go_wp2
            go_ret
            exact ⟨rfl, hB12⟩
  · have B1 := fun w => big_true a0 len0 cap0 w hbig
    have HB := Lib.hid B1; clear B1 hbig
    go_enter Tryd.func5, Tryd.ntmps5
    go_wp2_with fail
    refine (HB.out _).mono ?_
    rintro e w1 ⟨rfl, rfl⟩
    go_wp2
    go_ret
    exact ⟨rfl, Below.refl _ _⟩
end Go.Proofs.YthmdbjjhhemjoaaDoor
