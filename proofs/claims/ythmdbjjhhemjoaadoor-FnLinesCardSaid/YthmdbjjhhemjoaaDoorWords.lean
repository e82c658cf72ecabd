/- The walks of Words, both, and of the iterator: a range over a function. -/
import Derived.RangeFuncBox
import Derived.RangeFuncNested
import Derived.RangeFuncLeaves
import Derived.Shelf.Abstract
import Derived.WalkKit
import Derived.OwnWalkIn
import Derived.TacticsInMore
import Derived.LoopNIn
import Derived.LoopIn
import Derived.Maps.AppendAt
import Derived.Outline
import Derived.WalkSpells
import Derived.WalkMore
import Derived.WalkLawsBesides
import Derived.Lib.Hide
import Derived.StillTactics
import Derived.Test.YthmdbjjhhemjoaaDoorShelf
import Derived.Test.YthmdbjjhhemjoaaDoorRows
import Derived.Test.YthmdbjjhhemjoaaDoorPlan
import Derived.Test.YthmdbjjhhemjoaaDoorWordsM
namespace Go.Proofs.YthmdbjjhhemjoaaDoor
open Go.RowKit Go.Shelf
attribute [local go_sem] Oper.semAt_some
set_option linter.unusedVariables false

theorem wsize_any (s : ByteArray) (w : World) (hs : s.size ≤ maxLen) :
    Calls Tryd.prog 59 #[.string s] w fun e w' => e = .returned (.int .i64 (wsize s.data.toList)) ∧ w' = w := by
  unfold maxLen at hs
  go_enter Tryd.func59, Tryd.ntmps59
  go_wp2
  go_loop [6] (fun i => ∃ k : Nat, k ≤ s.size ∧ i = .int .i64 k ∧ Hid (∀ j, (h : j < k) → (hj : j < s.size) → isGap s[j] = false)) (fun i => s.size - (intOf i).toNat)
  case atStart => exact ⟨0, Nat.zero_le _, rfl, fun j h => by omega⟩
  case round =>
    obtain ⟨k, hk, rfl, hall⟩ := hrel
    by_cases hlt : k < s.size
    · cases hg : isGap s[k] with
      | false =>
        have h1 : ((s[k].toNat : Int) == 32) = false := by
          rw [beq_eq_false_iff_ne]; intro e
          have : s[k] = 32 := UInt8.toNat_inj.1 ((by omega : s[k].toNat = 32).trans rfl)
          simp [isGap, this] at hg
        have h2 : ((s[k].toNat : Int) == 9) = false := by
          rw [beq_eq_false_iff_ne]; intro e
          have : s[k] = 9 := UInt8.toNat_inj.1 ((by omega : s[k].toNat = 9).trans rfl)
          simp [isGap, this] at hg
        have HG := Lib.hid hg; clear hg
        go_wp2
        go_round
        case rel => exact ⟨k + 1, by omega, by go_num, fun j h hj => by
          by_cases e : j < k
          · exact hall.out j e hj
          · obtain rfl : j = k := by omega
            exact HG.out⟩
        case measure => simp [intOf]; omega
      | true =>
        have hr : wsize s.data.toList = k := wsize_at _ _ (by simpa using hk) (fun j h => by have := hall.out j h (by omega); exact this) (fun _ => hg)
        have HR := Lib.hid hr; clear hr
        have h32 : s[k] = 32 ∨ s[k] = 9 := by simpa [isGap] using hg
        clear hg
        rcases h32 with h | h
        · have h1 : ((s[k].toNat : Int) == 32) = true := by rw [h]; rfl
          clear h
          go_wp2
          go_ret
          exact ⟨by rw [HR.out]; rfl, rfl⟩
        · have h1 : ((s[k].toNat : Int) == 32) = false := by rw [h]; rfl
          have h2 : ((s[k].toNat : Int) == 9) = true := by rw [h]; rfl
          clear h
          go_wp2
          go_ret
          exact ⟨by rw [HR.out]; rfl, rfl⟩
    · have hr : wsize s.data.toList = s.size := wsize_at _ _ (by simp) (fun j h => by have := hall.out j (by omega) h; exact this) (fun h => by simp at h)
      have HR := Lib.hid hr; clear hr
      go_wp2
      go_ret
      exact ⟨by rw [HR.out]; rfl, rfl⟩

theorem ext_drop (s : ByteArray) (j : Nat) : (s.extract j s.size).data.toList = s.data.toList.drop j := by
  rw [extract_eq]; simp only [toB]; rw [List.take_of_length_le (by simp)]
/-- A word of at most 2000000 bytes. -/
abbrev Word := { x : ByteArray // x.size ≤ 2000000 }
def wordsB (s : ByteArray) : List ByteArray := (wordsL s.data.toList).map toB

/-- block B lies as it lay -/
def KeepBlk (B : Nat) (W W' : World) : Prop := W'.heap[B]? = W.heap[B]?
theorem keepBlk_t {B : Nat} {X Y Z : World} (h : KeepBlk B X Y) (k : KeepBlk B Y Z) : KeepBlk B X Z := Eq.trans k h
theorem keepBlk_b {B : Nat} {w : World} (hB : B < w.heap.size) (W : World) (l : Nat) (o o' : Obj) (hl : w.heap.size ≤ l) (h : W.heap[l]? = some o) (_ : o.isCells = false) (_ : o.isWalk = false) : KeepBlk B W (W.putObj l o') :=
  (grownBy_putObj' W l o').block B (by have := (Array.getElem?_eq_some_iff.1 h).1; omega) (fun e => by cases e; omega)
set_option maxRecDepth 100000 in
set_option maxHeartbeats 1000000 in
/-- the iterator's closure: every word, in order, or as far as the round says -/
theorem win1_in (n l Bn : Nat) (s : ByteArray) (hs : s.size ≤ 2000000) (hn : 1 ≤ n) (J Jx : List Word → World → Prop)
    (hY : ∀ pre x W, J pre W → pre.length < (wordsB s).length → YieldAt Fence.wide (n - 1) Tryd.prog l #[.string x.1] W fun e W' =>
      (e = .returned (.bool true) ∧ J (pre ++ [x]) W' ∧ KeepBlk Bn W W') ∨ (e = .returned (.bool false) ∧ Jx (pre ++ [x]) W'))
    (W : World) (hBn : W.cell? ⟨Bn, 0, none⟩ = some (.string s)) (h0 : J [] W) :
    CallsIn Fence.wide n Tryd.prog 58 #[.func (.yield l) #[] #[], .pointer (some ⟨Bn, 0, none⟩)] W fun e W' => (∃ v, e = .returned v) ∧
      ((∃ ys : List Word, ys.map (·.1) = wordsB s ∧ J ys W') ∨ (∃ pre : List Word, pre.map (·.1) <+: wordsB s ∧ Jx pre W')) := by
  refine callsIn_of_wp Tryd.func58 rfl trivial ?_ rfl
  simp only [Tryd.ntmps58, List.size_toArray, List.length_cons, List.length_nil, Nat.reduceAdd, Nat.reduceSub, Array.replicate_succ, Array.replicate_zero, List.push_toArray, List.append_toArray, List.nil_append, List.cons_append]
  refine wpIn_wide.2 (wp_scope_straight ((wpIn_wide (n := n)).1 ?_))
  gi_wp2
  refine wpIn_label ?_
  gi_wp2
  gi_loopw [3] (fun p wr => ∃ (pre : List Word) (j : Nat), p = .int .i64 j ∧ j ≤ s.size ∧ WordsInv s (pre.map (·.1)) j ∧ wr.cell? ⟨Bn, 0, none⟩ = some (.string s) ∧ J pre wr)
    (fun p wr => s.size + 1 - (intOf p).toNat)
  case atStart => exact ⟨[], 0, rfl, Nat.zero_le _, WordsInv.zero s, hBn, h0⟩
  case round =>
    obtain ⟨pre, j, rfl, hj, hinv, hc, hJs⟩ := hrel
    by_cases hend : j = s.size
    · have hst := hinv.stop (by omega)
      have HST := Lib.hid hst; clear hst
      gi_wp2
      refine ⟨trivial, (callsIn_wide.2 (wsize_any _ _ (by simp [maxLen]))).mono ?_⟩
      rintro e w' ⟨rfl, rfl⟩
      gi_wp2
      rw [Exit.noGoto_normal]
      go_end0
      exact ⟨⟨_, rfl⟩, .inl ⟨pre, HST.out.symm, hJs⟩⟩
    · have hlt : j < s.size := by omega
      have hz := wsize_any (s.extract j s.size) wr (by simp [maxLen]; omega)
      rw [ext_drop s j] at hz
      have hzl := wsize_le (s.data.toList.drop j)
      have hzl2 : j + wsize (s.data.toList.drop j) ≤ s.size := by simp at hzl; omega
      clear hzl
      generalize hzz : wsize (s.data.toList.drop j) = z at *
      have HZ := Lib.hid hz; have HZZ := Lib.hid hzz; clear hz hzz
      by_cases h0z : z = 0
      · gi_wp2
        refine ⟨trivial, (callsIn_wide.2 HZ.out).mono ?_⟩
        rintro e w' ⟨rfl, rfl⟩
        have hg0 := hinv.gap0 hlt (by rw [HZZ.out]; exact h0z)
        have HG := Lib.hid hg0; clear hg0
        gi_wp2
        exact ⟨⟨pre, j + 1, by go_num, by omega, HG.out, hc, hJs⟩, by simp [intOf]; omega⟩
      · have hz1 : 0 < z := by omega
        have hsz : (s.extract j (j + z)).size ≤ 2000000 := by simp; omega
        have hw := hinv.word (by rw [HZZ.out]; exact h0z)
        have hwl := hinv.lt (by rw [HZZ.out]; exact h0z)
        rw [HZZ.out] at hw
        have HW := Lib.hid hw; clear hw
        obtain ⟨fn, tmps, assign, body, hy, hR⟩ := hY pre ⟨s.extract j (j + z), hsz⟩ wr hJs (by simpa [wordsB] using hwl)
        dsimp only at hy
        gi_wp2
        refine ⟨trivial, (callsIn_wide.2 HZ.out).mono ?_⟩
        rintro e w' ⟨rfl, rfl⟩
        gi_wp2
        refine hR.mono ?_
        rintro e W3 (⟨rfl, hJ3, hk3⟩ | ⟨rfl, hJx3⟩)
        · have hc3 : W3.cell? ⟨Bn, 0, none⟩ = some (.string s) := (World.cell?_of_block (a := ⟨Bn, 0, none⟩) hk3).trans hc
          gi_wp2
          exact ⟨⟨pre ++ [⟨s.extract j (j + z), hsz⟩], j + z, by go_num, by omega, by simpa using HW.out, hc3, hJ3⟩, by simp [intOf]; omega⟩
        · gi_wp2
          rw [Exit.noGoto_normal]
          go_end0
          exact ⟨⟨_, rfl⟩, .inr ⟨pre ++ [⟨s.extract j (j + z), hsz⟩], by simpa [wordsB] using HW.out.pre, hJx3⟩⟩

theorem win_any (s : ByteArray) (w : World) :
    Calls Tryd.prog 46 #[.string s] w fun e w' => e = .returned (.func (.func 58) #[] #[.pointer (some ⟨w.heap.size, 0, none⟩)]) ∧ w' = w.alloc (.cells #[.string s] 9) := by
  go_enter Tryd.func46, Tryd.ntmps46
  go_wp2
  go_ret
  exact ⟨rfl, rfl⟩

theorem win_stops (n Bn : Nat) (s : ByteArray) (hs : s.size ≤ 2000000) (hn : 1 ≤ n) (w : World) (hBn : Bn < w.heap.size) (hc : w.cell? ⟨Bn, 0, none⟩ = some (.string s)) :
    SeqStopsK Fence.wide n Tryd.prog 58 #[.pointer (some ⟨Bn, 0, none⟩)] (fun x : Word => #[Value.string x.1]) (KeepBlk Bn) (fun ys => ys.map (·.1) = wordsB s) (fun pre => pre.map (·.1) <+: wordsB s) (wordsB s).length w :=
  fun l J Jx W hW _ _ hY h0 => win1_in n l Bn s hs hn J Jx hY W ((hW.cell (p := ⟨Bn, 0, none⟩) hBn).trans hc) h0

theorem clone_any (s : ByteArray) (w : World) (hs : s.size ≤ 2000000) : Calls Tryd.prog 45 #[.string s] w fun e w' => e = .returned (.string s) ∧ Below w.heap.size w w' := by
  go_enter Tryd.func45, Tryd.ntmps45
  go_wp2_with (go_at_call 57; refine (Tryd.stringslite_Clone s _ (by omega)).mono ?_; rintro e w' ⟨rfl, hb⟩)
  go_ret
  exact ⟨rfl, hb⟩
theorem ownsRow_weaken {w : World} {b b' n : Nat} {e : TypeId} {size : Nat} {v : Value} {xs : List Value} (h : w.ownsRow b e size v n xs) (hb : b' ≤ b) : w.ownsRow b' e size v n xs := by
  refine ⟨h.1, ?_⟩
  rcases h.2 with h | ⟨g, cap, cur, h1, h2, h3⟩
  · exact .inl h
  · exact .inr ⟨g, cap, cur, h1, Nat.le_trans hb h2, h3⟩
def encW (pre : List Word) : List Value := pre.map fun x => .string x.1
theorem infoStr : (Tryd.prog.info? 9).map (fun i => (i.zero, i.size, i.bytes)) = some (some (.string ByteArray.empty), 1, 16) := by kernel_rfl
theorem wordsB_count (s : ByteArray) : (wordsB s).length ≤ s.size := by
  have := wordsL_count s.data.toList
  simpa [wordsB] using this
theorem grown_of_below {A B : World} (h : Below A.heap.size A B) (row : Option Nat) : A.grownBy B row := ⟨h.os, h.tape, h.output, h.size, fun k hk _ => h.block k hk⟩

set_option maxRecDepth 100000 in
set_option maxHeartbeats 2000000 in
theorem iwords_any (s : ByteArray) (w : World) (hs : s.size ≤ 2000000) :
    Calls Tryd.prog 24 #[.string s] w fun e w' => ∃ v, e = .returned v ∧ w'.ownsRow w.heap.size 9 1 v (wordsB s).length ((wordsB s).map Value.string) ∧ Below w.heap.size w w' := by
  refine (callsIn_wide (n := 5)).1 ?_
  obtain ⟨i0, hi, hz0, hz1, hz2⟩ := info_parts infoStr
  have hcount := wordsB_count s
  refine callsIn_of_wp_marks Tryd.func24 rfl trivial ?_ rfl
  simp only [Tryd.ntmps24, List.size_toArray, List.length_cons, List.length_nil, Nat.reduceAdd, Nat.reduceSub, Array.replicate_succ, Array.replicate_zero, List.push_toArray, List.append_toArray, List.nil_append, List.cons_append]
  gi_wp2
  refine ⟨trivial, (callsIn_wide.2 (win_any _ _)).mono ?_⟩
  rintro e w' ⟨rfl, rfl⟩
  gi_wp2
  have bO := Boxed.new w 31 (.slice none 0 0)
  have bN := Boxed.new (w.alloc (.cells #[.slice none 0 0] 31)) 9 (.string s)
  rw [World.size_alloc] at bN
  have hB0 : Below w.heap.size w ((w.alloc (.cells #[.slice none 0 0] 31)).alloc (.cells #[.string s] 9)) := ((Below.refl _ w).alloc (Nat.le_refl _) _).alloc (by simp) _
  refine wpIn_rangeFunc_ownG rfl (by omega) (gf := 58) (lb := #[.pointer (some ⟨w.heap.size + 1, 0, none⟩)]) rfl trivial (enters_of Tryd.func58 (by kernel_rfl) rfl)
    (win_stops 4 (w.heap.size + 1) s hs (by omega) _ (by simp) bN.cell) keepBlk_t (keepBlk_b (by simp)) (Below.refl _ _) (fun _ => rfl)
    (fun pre W => (∃ v, Boxed W w.heap.size 31 v ∧ W.ownsRow (w.heap.size + 2) 9 1 v (encW pre).length (encW pre) ∧ True) ∧ Boxed W (w.heap.size + 1) 9 (.string s) ∧ Below w.heap.size w W)
    (fun _ _ _ => False)
    (OwnFrom.and (Own.from (holdsRow_own (w.heap.size + 2) w.heap.size 31 9 1 (fun pre : List Word => (encW pre).length) (fun pre => encW pre) (fun pre v => True)) _) (OwnFrom.and (Own.from (boxed_own _ _ (fun _ => .string s)) _) (ownFrom_below (Nat.le_refl _) (by simp; omega))))
    (fun _ _ _ _ _ hs _ _ => hs)
    ⟨⟨_, bO.alloc _, World.ownsRow_nil _ _ _ _, trivial⟩, bN, hB0⟩
    (fun x => { tmps := #[.string s, undef, .slice none 0 0, .pointer (some ⟨w.heap.size, 0, none⟩), .string x.1, .string s, .func (.func 58) #[] #[.pointer (some ⟨w.heap.size + 1, 0, none⟩)], .string x.1, undef, undef, undef, undef, undef, undef], defers := [] }) ?assign ?body ?done ?stop
  case assign =>
    intro l x W K hK
    gi_wp2
    exact hK
  case body =>
    rintro l pre x W ⟨⟨v, hv, hrow, -⟩, hS, hB⟩ hlt
    have hc : W.drew.cell? ⟨w.heap.size, 0, none⟩ = some v := hv.cell
    gi_wp2
    refine wpIn_region_late (fun W' => W'.cell? ⟨w.heap.size, 0, none⟩ = some v) [] [0] [false, true] [true] 2 2 (by kernel_rfl) (by kernel_rfl) (by kernel_rfl) ⟨by kernel_rfl, by kernel_rfl⟩ hc ?_
    simp only [maskRows, movesA, takesP, List.drop_succ_cons, List.drop_zero]
    refine ⟨v, fun w' hw' => ⟨rfl, by go_simp⟩, ?_⟩
    repeat still_step
    refine wpStill_nil ?_
    simp only [chainS]
    intro K1 hK1
    go_wp2_with (go_at_call 45; refine (clone_any _ _ x.2).mono ?_; rintro e w1 ⟨rfl, hb1⟩)
    have hb1' : Below W.heap.size W w1 := (Below.refl _ W).drew.trans hb1
    have g1 : W.grownBy w1 none := grown_of_below hb1' none
    have hv1 := hv.kept g1 (by simp)
    have hrow1 := hrow.kept g1 (by rcases v.ownBlock with _ | _ <;> simp)
    have hk1 : KeepsOthers W w1 := KeepsOthers.of_grownBy g1 (fun j o e => by cases e)
    have hB1 := hB.trans (hb1'.mono hB.size)
    have hs1 := hB1.size
    have hS1 := hS.kept g1 (by simp)
    have hS1l := hS1.lt
    have hel : (encW pre).length ≤ 2000000 := by simp [encW]; omega
    clear hb1 hb1' g1 hrow hc
    refine hK1 _ _ hv1.cell ?_
    intro K2 hK2
    go_wp2
    refine hK2 _ _ (hv1.alloc _).cell ?_
    intro K3 hK3
    go_wp2_with (at_builtin; refine wpList_append_own _ rfl (.tmp 8) (.tmp 11) 31 rfl (w.heap.size + 2) 9 i0 (.string ByteArray.empty) 1 16 Tryd.underlying31 hi hz0 hz1 hz2 rfl (by decide) _ _ _ rfl (hrow1.alloc _) ⟨w1.heap.size, 0, none⟩ 1 1 [.string x.1] rfl rfl (cell_one_new _ _ _) (by simp [Value.oneCell']) (by unfold maxLen; omega) (by omega) (by simp; omega) ?_; intro v' w2 hown' hgrow _; obtain ⟨g', cap', rfl⟩ := ownsRow_succ hown'; obtain ⟨hv1', hv2, -, hk2, hb2⟩ := hv1.appended (by decide) (ownsRow_weaken hrow1 (Nat.le_add_right _ 2)) hs1 (Nat.le_refl _) (ownsRow_weaken hown' (Nat.le_add_right _ 2)) hgrow; have hc1 := hv1'.cell; have hf1 := hv1'.frozen)
    have hS2 : Boxed w2 (w.heap.size + 1) 9 (.string s) := (hS1.alloc _).kept hgrow (fun e => by have := (hrow1.lt _ e.symm).1; omega)
    have hS3 := hS2.other (B' := w.heap.size) (by omega) (.slice (some ⟨g', 0, none⟩) ((encW pre).length + 1) cap')
    have hr3 := hown'.kept (grownBy_setCell' w2 w.heap.size (.slice (some ⟨g', 0, none⟩) ((encW pre).length + 1) cap')) (.inr (hv1'.not_row (by decide) hown').symm)
    exact ⟨(hk1.trans hk2).from _, hS3.trans hS.symm, ⟨_, hv2, by simpa [encW] using hr3, trivial⟩, hS3, hB1.trans hb2⟩
  case done =>
    rintro D ys W hD hys ⟨⟨v, hv, hrow, -⟩, hS, hB⟩ hK
    have hc := hv.cell
    gi_wp2
    refine ⟨by simp, .inl ⟨_, _, rfl, run_takeDeferred hK, ?_⟩⟩
    refine ⟨_, results_tmp rfl _ _ _, v, rfl, ?_, hB.trans (belowK_b (w := w) (Nat.le_refl _) W D _ _ (by simp at hD; omega) hK rfl rfl)⟩
    have he : encW ys = (wordsB s).map Value.string := by rw [← hys]; simp [encW]
    rw [he, List.length_map] at hrow
    exact ownsRow_putObj (ownsRow_weaken hrow (Nat.le_add_right _ 2)) _ hK rfl
  case stop =>
    rintro D c pre W _ _ h _
    exact h.elim
end Go.Proofs.YthmdbjjhhemjoaaDoor
