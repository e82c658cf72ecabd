/- The laws' own helpers on texts: lists of texts compared, marked, asked for their marks. -/
import Derived.Test.YthmdbjjhhemjoaaDoorHex
import Derived.Test.YthmdbjjhhemjoaaDoorWordsM
import Derived.Test.YthmdbjjhhemjoaaDoorPlan
import Derived.StillTactics
import Derived.Deep.QuietTactic
import Derived.BigQuiet
import Derived.Lib.Hide
import Derived.Maps.AppendAt
namespace Go.Proofs.YthmdbjjhhemjoaaDoor
open Go.ChangeShapes Go.WideShapes Go.ChangeAt Go.RowKit
set_option linter.unusedVariables false

/-- the digits of a mark, by as many rounds as are left -/
def mloop : Nat → Nat → List UInt8 → List UInt8
  | 0, _, o => o
  | f + 1, k, o => if k = 0 then o else mloop f (k / 10) (UInt8.ofNat (48 + k % 10) :: o)
def mtext (k : Nat) : ByteArray := ⟨(109 :: mloop k k []).toArray⟩
theorem mloop_len : ∀ (f k : Nat) (o : List UInt8), (mloop f k o).length ≤ f + o.length
  | 0, _, o => by simp [mloop]
  | f + 1, k, o => by
    unfold mloop; split
    · omega
    · have := mloop_len f (k / 10) (UInt8.ofNat (48 + k % 10) :: o); rw [List.length_cons] at this; omega

theorem str_add (a : List UInt8) (b : List UInt8) : (⟨a.toArray⟩ : ByteArray) ++ (⟨b.toArray⟩ : ByteArray) = ⟨(a ++ b).toArray⟩ := by
  apply ByteArray.ext; simp

theorem strOne (n : Nat) (l : List UInt8) : strOfNums [48 + (n : Int) % 10] ++ (⟨l.toArray⟩ : ByteArray) = ⟨(UInt8.ofNat (48 + n % 10) :: l).toArray⟩ := by
  have e : (48 + (n : Int) % 10).toNat = 48 + n % 10 := by omega
  have : strOfNums [48 + (n : Int) % 10] = ⟨[UInt8.ofNat (48 + n % 10)].toArray⟩ := by unfold strOfNums; rw [List.map_cons, e]; rfl
  rw [this, str_add]; rfl
theorem mloop_step {f n : Nat} (l : List UInt8) (hf : 1 ≤ f) (h0 : n ≠ 0) : mloop (f - 1) (n / 10) (UInt8.ofNat (48 + n % 10) :: l) = mloop f n l := by
  obtain ⟨g, rfl⟩ : ∃ g, f = g + 1 := ⟨f - 1, by omega⟩
  simp only [Nat.add_sub_cancel]
  conv => rhs; unfold mloop
  rw [if_neg h0]
set_option maxHeartbeats 400000 in
theorem mtext_any (k : Nat) (w : World) (h1 : 1 ≤ k) (h2 : k ≤ 4000000) :
    Calls Tryd.prog 48 #[.int .i64 k] w fun e w' => e = .returned (.string (mtext k)) ∧ Below w.heap.size w w' := by
  go_enter Tryd.func48, Tryd.ntmps48
  go_wp2
  go_loopw [0, 3] (fun q o wr => ∃ (f n : Nat) (l : List UInt8), q = .int .i64 n ∧ o = .string ⟨l.toArray⟩ ∧ n ≤ f ∧ n ≤ k ∧ l.length + f ≤ 4000000 ∧ mloop f n l = mloop k k [] ∧ Below w.heap.size w wr)
    (fun q _ _ => (intOf q).toNat)
  case atStart => exact ⟨k, k, [], rfl, rfl, Nat.le_refl _, Nat.le_refl _, by simpa using h2, rfl, Below.refl _ _⟩
  case round =>
    obtain ⟨f, n, l, rfl, rfl, hnf, hnk, hll, hm, hnx⟩ := hrel
    have HM := Lib.hid hm; clear hm
    by_cases h0 : n = 0
    · subst h0
      have hl : mloop k k [] = l := by rw [← HM.out]; cases f <;> simp [mloop]
      have HL := Lib.hid hl; clear hl
      go_wp2
      go_ret
      exact ⟨by rw [show mtext k = ⟨(109 :: mloop k k []).toArray⟩ from rfl, HL.out]; rfl, hnx⟩
    · have hf : 1 ≤ f := by omega
      have hcv := fun (X : Int) => run_convert_bytes_arg (P := Tryd.prog) (wr.alloc (.cells #[.int .u8 X] 5)) 22 5 Tryd.underlying22 Tryd.underlying5 wr.heap.size 0 1 1 [X] rfl (fun i hi => by
        obtain rfl : i = 0 := by omega
        simp) 9 Tryd.underlying9
      have hs1 : ∀ X, (strOfNums [X]).size = 1 := fun X => rfl
      have hs2 : (⟨l.toArray⟩ : ByteArray).size = l.length := by simp [ByteArray.size]
      go_wp2
      exact ⟨⟨f - 1, n / 10, UInt8.ofNat (48 + n % 10) :: l, by go_num, by rw [strOne], by omega, by omega, by rw [List.length_cons]; omega, by rw [mloop_step l hf h0]; exact HM.out, hnx.alloc hnx.size _⟩, by simp [intOf]; omega⟩

/-! ### lists of texts -/
def strVals (xs : List ByteArray) : List Value := xs.map Value.string
def marks (k : Nat) : List ByteArray → List ByteArray
  | [] => []
  | _ :: r => mtext k :: marks (k + 1) r
theorem marks_length : ∀ (k : Nat) (xs : List ByteArray), (marks k xs).length = xs.length
  | _, [] => rfl
  | k, _ :: r => by simp [marks, marks_length (k + 1) r]
theorem marks_get : ∀ (k : Nat) (xs : List ByteArray) (i : Nat) (h : i < xs.length), (marks k xs)[i]'(by rw [marks_length]; exact h) = mtext (k + i)
  | k, _ :: r, 0, h => rfl
  | k, _ :: r, i + 1, h => by
    have := marks_get (k + 1) r i (by simpa using h)
    simp only [marks, List.getElem_cons_succ]
    rw [this]; congr 1; omega

theorem below_drewN' {B : Nat} {a w : World} (h : Below B a w) (n : Nat) : Below B a (w.drewN n) := h.trans ⟨rfl, rfl, rfl, Nat.le_refl _, fun _ _ => rfl⟩

theorem ownsRow_shape {w : World} {base n : Nat} {e : TypeId} {v : Value} {xs : List Value} (h : w.ownsRow base e 1 v n xs) :
    (v = .slice none 0 0 ∧ n = 0) ∨ ∃ g cap, v = .slice (some ⟨g, 0, none⟩) n cap ∧ n ≤ cap ∧ cap ≤ maxLen ∧ base ≤ g ∧ g < w.heap.size ∧ w.ownsRow base e 1 (.slice (some ⟨g, 0, none⟩) n cap) n xs := by
  rcases h.2 with h1 | ⟨g, cap, cur, rfl, h2, h3, h4, h5, _⟩
  · exact .inl h1
  · exact .inr ⟨g, cap, rfl, h4, h5, h2, (Array.getElem?_eq_some_iff.1 h3).1, h⟩

set_option maxHeartbeats 400000 in
theorem eqS_none (a b : Option Addr) (c d : Nat) (w : World) :
    Calls Tryd.prog 29 #[.slice a 0 c, .slice b 0 d] w fun e w' => e = .returned (.bool true) ∧ Below w.heap.size w w' := by
  go_enter Tryd.func29, Tryd.ntmps29
  go_wp2
  go_loop [5] (fun i => i = .int .i64 0) (fun _ => 0)
  case atStart => rfl
  case round =>
    obtain rfl := hrel
    go_wp2
    go_ret
    exact ⟨rfl, Below.refl _ _⟩

set_option maxHeartbeats 400000 in
theorem eqS_some (g1 g2 n c d b1 b2 : Nat) (xs : List ByteArray) (w : World) (hn : n ≤ 2000000)
    (h1 : w.ownsRow b1 9 1 (.slice (some ⟨g1, 0, none⟩) n c) n (xs.map Value.string)) (h2 : w.ownsRow b2 9 1 (.slice (some ⟨g2, 0, none⟩) n d) n (xs.map Value.string)) :
    Calls Tryd.prog 29 #[.slice (some ⟨g1, 0, none⟩) n c, .slice (some ⟨g2, 0, none⟩) n d] w fun e w' => e = .returned (.bool true) ∧ Below w.heap.size w w' := by
  have hlen : xs.length = n := by have := h1.1; simpa using this
  go_enter Tryd.func29, Tryd.ntmps29
  go_wp2
  go_loopw [5] (fun i wr => ∃ k m : Nat, k ≤ n ∧ i = .int .i64 k ∧ wr = w.drewN m) (fun i _ => n - (intOf i).toNat)
  case atStart => exact ⟨0, 0, Nat.zero_le _, rfl, rfl⟩
  case round =>
    obtain ⟨k, m, hk, rfl, rfl⟩ := hrel
    by_cases hlt : k < n
    · have q1 : w.cell? ⟨g1, k, none⟩ = some (.string (xs[k]'(by omega))) := by
        rw [h1.cellAt k (by omega)]; simp [show k < xs.length by omega]
      have q2 : w.cell? ⟨g2, k, none⟩ = some (.string (xs[k]'(by omega))) := by
        rw [h2.cellAt k (by omega)]; simp [show k < xs.length by omega]
      have z0 : (0 : Int) ≤ (k : Int) := Int.natCast_nonneg _
      have z1 : (k : Int) < (n : Int) := by omega
      clear h1 h2
      go_wp2
      go_quiet (fail)
      go_wp2
      go_roundw
      case rel => exact ⟨k + 1, m + nq, by omega, by go_num, by first | rfl | rw [World.drewN_drewN]⟩
      case measure => simp [intOf]; omega
    · clear h1 h2
      go_wp2
      go_ret
      exact ⟨rfl, below_drewN' (Below.refl _ _) _⟩

theorem grown_of_below' {A B : World} (h : Below A.heap.size A B) (row : Option Nat) : A.grownBy B row := ⟨h.os, h.tape, h.output, h.size, fun k hk _ => h.block k hk⟩
theorem grown_trans {A B C : World} {row : Option Nat} (h : A.grownBy B row) (k : B.grownBy C row) : A.grownBy C row :=
  ⟨k.os.trans h.os, k.tape.trans h.tape, k.output.trans h.output, Nat.le_trans h.size k.size, fun j hj hr => (k.block j (Nat.lt_of_lt_of_le hj h.size) hr).trans (h.block j hj hr)⟩
theorem grown_refl (A : World) (row : Option Nat) : A.grownBy A row := ⟨rfl, rfl, rfl, Nat.le_refl _, fun _ _ _ => rfl⟩

/-- the first j of xs are marked -/
def marked (k j : Nat) (xs : List ByteArray) : List ByteArray := (marks k xs).take j ++ xs.drop j
theorem marked_zero (k : Nat) (xs : List ByteArray) : marked k 0 xs = xs := by simp [marked]
theorem marked_all (k : Nat) (xs : List ByteArray) : marked k xs.length xs = marks k xs := by simp [marked, ← marks_length k xs]
theorem marked_length (k j : Nat) (xs : List ByteArray) (h : j ≤ xs.length) : (marked k j xs).length = xs.length := by simp [marked, marks_length]; omega
theorem marked_step (k j : Nat) (xs : List ByteArray) (h : j < xs.length) : (marked k j xs).set j (mtext (k + j)) = marked k (j + 1) xs := by
  unfold marked
  have h1 : ((marks k xs).take j).length = j := by simp [marks_length]; omega
  rw [List.set_append_right _ _ (by omega), h1, Nat.sub_self, List.drop_eq_getElem_cons h, List.set_cons_zero,
    List.take_succ_eq_append_getElem (by rw [marks_length]; exact h), marks_get k xs j h]
  simp

theorem markS_none (a : Option Addr) (c : Nat) (k : Int) (w : World) (hk0 : 0 ≤ k) (hk : k ≤ 2000000) :
    Calls Tryd.prog 30 #[.slice a 0 c, .int .i64 k] w fun e w' => e = .returned (.int .i64 k) ∧ w' = w := by
  go_enter Tryd.func30, Tryd.ntmps30
  go_wp2
  go_loop [1, 5] (fun q i => i = .int .i64 0 ∧ q = .int .i64 k) (fun _ _ => 0)
  case atStart => exact ⟨rfl, rfl⟩
  case round =>
    obtain ⟨rfl, rfl⟩ := hrel
    go_wp2
    go_ret
    exact ⟨rfl, rfl⟩

set_option maxHeartbeats 400000 in
theorem markS_some (g n c b k : Nat) (xs : List ByteArray) (w : World) (hn : n ≤ 1500000) (hk1 : 1 ≤ k) (hk : k ≤ 1500000)
    (hown : w.ownsRow b 9 1 (.slice (some ⟨g, 0, none⟩) n c) n (xs.map Value.string)) :
    Calls Tryd.prog 30 #[.slice (some ⟨g, 0, none⟩) n c, .int .i64 k] w fun e w' =>
      e = .returned (.int .i64 (k + n)) ∧ w'.ownsRow b 9 1 (.slice (some ⟨g, 0, none⟩) n c) n ((marks k xs).map Value.string) ∧ w.grownBy w' (some g) := by
  have hlen : xs.length = n := by have := hown.1; simpa using this
  go_enter Tryd.func30, Tryd.ntmps30
  go_wp2
  go_loopw [1, 5] (fun q i wr => ∃ j : Nat, j ≤ n ∧ i = .int .i64 j ∧ q = .int .i64 (k + j) ∧ wr.ownsRow b 9 1 (.slice (some ⟨g, 0, none⟩) n c) n ((marked k j xs).map Value.string) ∧ w.grownBy wr (some g))
    (fun _ i _ => n - (intOf i).toNat)
  case atStart => exact ⟨0, Nat.zero_le _, rfl, by simp, by rw [marked_zero]; exact hown, grown_refl _ _⟩
  case round =>
    obtain ⟨j, hj, rfl, rfl, ho, hg⟩ := hrel
    clear hown
    by_cases hlt : j < n
    · have z0 : (0 : Int) ≤ (j : Int) := Int.natCast_nonneg _
      have z1 : (j : Int) < (n : Int) := by omega
      go_wp2_with fail
      have hm := mtext_any (k + j) wr (by omega) (by omega)
      have hcast : (((k + j : Nat)) : Int) = (k : Int) + (j : Int) := by omega
      rw [hcast] at hm
      refine hm.mono ?_
      clear hm hcast
      rintro e w1 ⟨rfl, hb1⟩
      have ho1 := ho.kept (grown_of_below' hb1 none) (.inr (by simp [Value.ownBlock]))
      have hg1 := grown_trans hg (grown_of_below' hb1 (some g))
      have hc1 : w1.cell? ⟨g, j, none⟩ = some (.string ((marked k j xs)[j]'(by rw [marked_length _ _ _ (by omega)]; omega))) := by
        rw [ho1.cellAt j (by omega)]; simp [show j < (marked k j xs).length by rw [marked_length _ _ _ (by omega)]; omega]
      have hf1 := ho1.frozenAt j
      have hst := ho1.stored j (.string (mtext (k + j)))
      clear ho hg hb1
      go_wp2
      go_roundw
      case rel =>
        refine ⟨j + 1, by omega, by go_num, by go_num, ?_, grown_trans hg1 hst.2⟩
        have := hst.1
        rw [← marked_step k j xs (by omega), List.map_set]
        exact this
      case measure => simp [intOf]; omega
    · obtain rfl : j = n := by omega
      rw [← hlen, marked_all, hlen] at ho
      go_wp2
      go_ret
      exact ⟨rfl, ho, hg⟩

theorem heldS_none (a : Option Addr) (c : Nat) (k : Int) (w : World) (hk0 : 0 ≤ k) (hk : k ≤ 2000000) :
    Calls Tryd.prog 31 #[.slice a 0 c, .int .i64 k] w fun e w' => e = .returned (.int .i64 k) ∧ w' = w := by
  go_enter Tryd.func31, Tryd.ntmps31
  go_wp2
  go_loop [1, 5] (fun q i => i = .int .i64 0 ∧ q = .int .i64 k) (fun _ _ => 0)
  case atStart => exact ⟨rfl, rfl⟩
  case round =>
    obtain ⟨rfl, rfl⟩ := hrel
    go_wp2
    go_ret
    exact ⟨rfl, rfl⟩

set_option maxHeartbeats 400000 in
set_option maxRecDepth 100000 in
theorem heldS_some (g n c b k : Nat) (xs : List ByteArray) (w : World) (hn : n ≤ 1500000) (hk1 : 1 ≤ k) (hk : k ≤ 1500000)
    (hown : w.ownsRow b 9 1 (.slice (some ⟨g, 0, none⟩) n c) n ((marks k xs).map Value.string)) :
    Calls Tryd.prog 31 #[.slice (some ⟨g, 0, none⟩) n c, .int .i64 k] w fun e w' =>
      e = .returned (.int .i64 (k + n)) ∧ Below w.heap.size w w' := by
  have hlen : xs.length = n := by have := hown.1; simpa [marks_length] using this
  have hgl : g < w.heap.size := by have := hown.lt g rfl; exact this.2
  go_enter Tryd.func31, Tryd.ntmps31
  go_wp2
  go_loopw [1, 5] (fun q i wr => ∃ j : Nat, j ≤ n ∧ i = .int .i64 j ∧ q = .int .i64 (k + j) ∧ Below w.heap.size w wr)
    (fun _ i _ => n - (intOf i).toNat)
  case atStart => exact ⟨0, Nat.zero_le _, rfl, by simp, Below.refl _ _⟩
  case round =>
    obtain ⟨j, hj, rfl, rfl, hnx⟩ := hrel
    by_cases hlt : j < n
    · have z0 : (0 : Int) ≤ (j : Int) := Int.natCast_nonneg _
      have z1 : (j : Int) < (n : Int) := by omega
      have hc : wr.drew.cell? ⟨g, j, none⟩ = some (.string (mtext (k + j))) := by
        show wr.cell? _ = _
        rw [hnx.cell (p := ⟨g, j, none⟩) hgl, hown.cellAt j (by omega)]
        simp [marks_length, show j < xs.length by omega, marks_get]
      clear hown
      go_wp2
      refine wp_region_late (fun W' => W'.cell? ⟨g, j, none⟩ = some (.string (mtext (k + j)))) [0, 1] [2, 3] [false, false, false, false, true] [false, false, true, true] 5 1 (by kernel_rfl) (by kernel_rfl) ⟨by kernel_rfl, by kernel_rfl⟩ hc ?_
      simp only [maskRows, movesA, moveOf, takesP, List.drop_succ_cons, List.drop_zero, List.getElem?_toArray, List.getElem?_cons_zero, List.getElem?_cons_succ]
      refine ⟨.pointer (some ⟨g, j, none⟩), fun w' hw' => ⟨rfl, by go_simp⟩, ?_⟩
      refine ⟨.string (mtext (k + j)), fun w' hw' => ⟨rfl, by go_simp⟩, ?_⟩
      repeat still_step
      refine wpStill_nil ?_
      simp only [chainS]
      intro K1 hK1
      go_wp2_with fail
      have hm := mtext_any (k + j) wr.drew (by omega) (by omega)
      have hcast : (((k + j : Nat)) : Int) = (k : Int) + (j : Int) := by omega
      rw [hcast] at hm
      refine hm.mono ?_
      clear hm hcast
      rintro e w1 ⟨rfl, hb1⟩
      have hnx1 := hnx.drew.trans (hb1.mono (show w.heap.size ≤ wr.drew.heap.size from hnx.size))
      have hc1 : w1.cell? ⟨g, j, none⟩ = some (.string (mtext (k + j))) := (hb1.cell (p := ⟨g, j, none⟩) (Nat.lt_of_lt_of_le hgl hnx.size)).trans hc
      clear hb1
      go_wp2
      refine hK1 _ _ hc1 ?_
      intro K2 hK2
      go_wp2
      go_roundw
      case rel => exact ⟨j + 1, by omega, by go_num, by go_num, hnx1⟩
      case measure => simp [intOf]; omega
    · obtain rfl : j = n := by omega
      clear hown
      go_wp2
      go_ret
      exact ⟨rfl, hnx⟩
end Go.Proofs.YthmdbjjhhemjoaaDoor
