/- The program's chapter 2, walked: texts by or (exclusively). -/
import Derived.Test.YtnddcjmjolembaaImplO
namespace Go.Proofs.Ytnddcjmjolembaa
open Go.ChangeShapes Go.WideShapes Go.ChangeAt Go.RowKit
set_option linter.unusedVariables false

/-- the first k bytes of X, then A's -/
def mixL (X A : List UInt8) (k : Nat) : List UInt8 := X.take k ++ A.drop k
theorem mixL_len (X A : List UInt8) (k : Nat) (h : X.length = A.length) (hk : k ≤ A.length) : (mixL X A k).length = A.length := by simp [mixL]; omega
theorem mixL_get (X A : List UInt8) (k i : Nat) (h : X.length = A.length) (hi : i < A.length) (hk : k ≤ A.length) : (mixL X A k)[i]? = if i < k then X[i]? else A[i]? := by
  unfold mixL
  by_cases hik : i < k
  · rw [if_pos hik, List.getElem?_append_left (by simp; omega), List.getElem?_take, if_pos hik]
  · rw [if_neg hik, List.getElem?_append_right (by simp; omega), List.getElem?_drop]
    congr 1
    simp; omega
theorem bytesAt_set {w : World} {g k : Nat} {X A : List UInt8} {c : UInt8} (h : X.length = A.length) (hk : k < A.length) (hb : bytesAt w g (numsOf (mixL X A k))) (hx : X[k]? = some c) :
    bytesAt (w.setCell ⟨g, k, none⟩ (.int .u8 (c.toNat : Int))) g (numsOf (mixL X A (k + 1))) := by
  have l1 := mixL_len X A k h (by omega)
  have l2 := mixL_len X A (k + 1) h (by omega)
  intro i hi
  have hiA : i < A.length := by rw [nums_len, l2] at hi; exact hi
  have h0 := hb i (by rw [nums_len, l1]; exact hiA)
  have m1 := mixL_get X A k i h hiA (by omega)
  have m2 := mixL_get X A (k + 1) i h hiA (by omega)
  by_cases e : i = k
  · subst e
    rw [World.cell?_setCell_same _ _ _ h0]
    rw [if_pos (by omega), hx] at m2
    simp [List.getD, numsOf, m2]
  · rw [World.cell?_setCell_other _ _ _ _ (fun e2 => e (by cases e2; rfl)), h0]
    have : (mixL X A (k + 1))[i]? = (mixL X A k)[i]? := by
      rw [m1, m2]
      by_cases hik : i < k
      · rw [if_pos hik, if_pos (by omega)]
      · rw [if_neg hik, if_neg (by omega)]
    simp only [List.getD, numsOf, List.getElem?_map, this]
set_option maxRecDepth 100000 in
theorem ixor_any (s t : ByteArray) (w : World) (hs : s.size ≤ 1500000) (ht : t.size ≤ 1500000) :
    Calls Try.prog 29 #[.string s, .string t] w fun e w' => e = .returned (.string (xorS s t)) ∧ Below w.heap.size w w' := by
  by_cases hst : s.size = t.size
  · have hx : xorS s t = ⟨(xorL s.data.toList t.data.toList).toArray⟩ := by unfold xorS; rw [if_pos hst]
    have hxl := xorL_len s t hst
    have hlen : s.data.toList.length = s.size := by simp
    have hget : ∀ k, (hk : k < s.size) → (xorL s.data.toList t.data.toList)[k]? = some (s[k] ^^^ t[k]'(hst ▸ hk)) := by
      intro k hk
      have h := xorL_take s t hst k hk
      have := congrArg (fun l : List UInt8 => l[k]?) h
      simp only [List.getElem?_take, show k < k + 1 by omega, if_true] at this
      rw [this, List.getElem?_append_right (by simp [hxl]; omega)]
      simp [hxl, show min k s.size = k by omega]
    have e0 : (s.size : Int) = (t.size : Int) := by omega
    have hcv := run_bytes_of_string (P := Try.prog) w 9 22 5 s Try.underlying9 Try.underlying22 Try.underlying5
    have hcap := grownCap_ge w s.size 0 5
    generalize grownCap w s.size 0 5 = cap at *
    generalize xorL s.data.toList t.data.toList = X at *
    have HX := Lib.hid hx; have HGET := Lib.hid hget; clear hx hget
    go_enter Try.func29, Try.ntmps29
    go_wp2
    have hW : ((w.alloc (.cells (bytesRow s cap) 5 ((bytesRow s cap).size, (bytesRow s cap).size + 1))).drew).heap[w.heap.size]? = some (.cells (bytesRow s cap) 5 ((bytesRow s cap).size, (bytesRow s cap).size + 1)) := by
      show (w.heap.push _)[w.heap.size]? = _
      simp
    have hB : Below w.heap.size w ((w.alloc (.cells (bytesRow s cap) 5 ((bytesRow s cap).size, (bytesRow s cap).size + 1))).drew) := ((Below.refl _ _).alloc (Nat.le_refl _) _).drew
    generalize (w.alloc (.cells (bytesRow s cap) 5 ((bytesRow s cap).size, (bytesRow s cap).size + 1))).drew = W at *
    obtain ⟨hby, hsp⟩ := row_bytes hW hcap
    go_loopw [16] (fun i wr => ∃ k : Nat, k ≤ s.size ∧ i = .int .i64 k ∧ bytesAt wr w.heap.size (numsOf (mixL X s.data.toList k)) ∧ (∀ j, j < s.size → wr.frozen? ⟨w.heap.size, j, none⟩ = false) ∧ Below w.heap.size w wr)
      (fun i _ => s.size - (intOf i).toNat)
    case atStart => exact ⟨0, Nat.zero_le _, rfl, by simpa [mixL] using hby, fun j hj => (hsp j (by omega)).2, hB⟩
    case round =>
      obtain ⟨k, hk, rfl, hbm, hfz, hbw⟩ := hrel
      clear hby hsp hW hcv hB
      by_cases hlt : k < s.size
      · have h0 : (0 : Int) ≤ (k : Int) := Int.natCast_nonneg _
        have h1 : (k : Int) < (s.size : Int) := by omega
        have h2 : (k : Int) < (t.size : Int) := by omega
        have hk2 : k < t.size := by omega
        have hc := s[k].toNat_lt
        have hd := t[k].toNat_lt
        have hxx := u8_xor s[k] t[k]
        have c1 : wr.cell? ⟨w.heap.size, k, none⟩ = some (.int .u8 (s[k].toNat : Int)) := by
          have hm := mixL_get X s.data.toList k k (by omega) (by omega) (by omega)
          have hl := mixL_len X s.data.toList k (by omega) (by omega)
          rw [hbm k (by rw [nums_len]; omega)]
          rw [if_neg (by omega)] at hm
          simp [List.getD, numsOf, hm, hlt]
          rfl
        have f1 := hfz k hlt
        have hbs := bytesAt_set (c := s[k] ^^^ t[k]) (by omega) (by omega) hbm (HGET.out k hlt)
        rw [UInt8.toNat_xor] at hbs
        have hfz2 : ∀ (u : Value) (j : Nat), j < s.size → (wr.setCell ⟨w.heap.size, k, none⟩ u).frozen? ⟨w.heap.size, j, none⟩ = false := fun u j hj => by
          rw [World.frozen?_setCell]; exact hfz j hj
        have hbw2 := fun u : Value => hbw.setCell (p := ⟨w.heap.size, k, none⟩) (Nat.le_refl _) u
        have HBS := Lib.hid hbs; have HF2 := Lib.hid hfz2; have HBW2 := Lib.hid hbw2; clear hbs hbm hfz hbw hfz2 hbw2
        go_wp2
        go_region_with (fail)
        all_goals go_wp2
        all_goals exact ⟨⟨k + 1, by omega, by go_num, HBS.out, HF2.out _, (HBW2.out _).drew⟩, by simp [intOf]; omega⟩
      · obtain rfl : k = s.size := by omega
        have hmx : mixL X s.data.toList s.size = X := by
          unfold mixL
          rw [List.take_of_length_le (by omega), List.drop_of_length_le (by omega), List.append_nil]
        rw [hmx] at hbm
        have hcv3 := conv_at (P := Try.prog) (cap := cap) 22 5 9 Try.underlying22 Try.underlying5 Try.underlying9 hbm (n := t.size) (by rw [nums_len, hxl]; exact hst)
        rw [nums_back] at hcv3
        have z9 : ¬ (s.size : Int) < (t.size : Int) := by omega
        go_wp2
        go_ret
        exact ⟨by rw [HX.out]; rfl, hbw⟩
  · have hx : xorS s t = ByteArray.empty := by unfold xorS; rw [if_neg hst]
    have HX := Lib.hid hx; clear hx
    have e1 : ¬ (s.size : Int) = (t.size : Int) := by omega
    go_enter Try.func29, Try.ntmps29
    go_wp2
    go_ret
    exact ⟨by rw [HX.out]; rfl, Below.refl _ _⟩
end Go.Proofs.Ytnddcjmjolembaa
