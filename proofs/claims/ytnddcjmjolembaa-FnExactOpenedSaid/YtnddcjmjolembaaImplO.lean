/- The program's chapter 2, walked: seals opened. -/
import Derived.Test.YtnddcjmjolembaaImplF
namespace Go.Proofs.Ytnddcjmjolembaa
open Go.ChangeShapes Go.WideShapes Go.ChangeAt Go.RowKit
set_option linter.unusedVariables false

theorem nums_inj {a b : List UInt8} (h : numsOf a = numsOf b) : a = b := by
  have h1 := nums_back a
  rw [h, nums_back] at h1
  have := congrArg (fun s : ByteArray => s.data.toList) h1
  simpa using this.symm
theorem bytesAt_take {w : World} {g : Nat} {l : List UInt8} (h : bytesAt w g (numsOf l)) (n : Nat) : bytesAt w g (numsOf (l.take n)) := by
  intro i hi
  have hi1 : i < min n l.length := by simpa [numsOf] using hi
  rw [h i (by simp [numsOf]; omega)]
  simp [List.getD, numsOf, List.getElem?_take, show i < n by omega]
theorem bytesAt_drewN {w : World} {g : Nat} {xs : List Int} (h : bytesAt w g xs) (q : Nat) : bytesAt (w.drewN q) g xs := fun i hi => h i hi
theorem iopen_any (s : ByteArray) (w : World) (hs : s.size ≤ 1500000) : Calls Try.prog 22 #[.string s] w fun e w' => e = .returned (openV (openL s.data.toList)) ∧ Below w.heap.size w w' := by
  have hlen : s.data.toList.length = s.size := by simp
  by_cases h4 : 4 ≤ s.size
  · have hcv := run_bytes_of_string (P := Try.prog) w 9 22 5 s Try.underlying9 Try.underlying22 Try.underlying5
    have hcap := grownCap_ge w s.size 0 5
    generalize grownCap w s.size 0 5 = cap at *
    have z1 : ¬ (s.size : Int) < 4 := by omega
    have z2 : (0 : Int) ≤ (s.size : Int) - 4 := by omega
    have z3 : (s.size : Int) - 4 ≤ (cap : Int) := by omega
    have ew : IntKind.i64.wrap ((s.size : Int) - 4) = (s.size : Int) - 4 := IntWalk.i64_in _ (by omega)
    have et : ((s.size : Int) - 4).toNat = s.size - 4 := by omega
    go_enter Try.func22, Try.ntmps22
    go_wp2_with fail
    have hW : ((w.alloc (.cells (bytesRow s cap) 5 ((bytesRow s cap).size, (bytesRow s cap).size + 1))).drew).heap[w.heap.size]? = some (.cells (bytesRow s cap) 5 ((bytesRow s cap).size, (bytesRow s cap).size + 1)) := by
      show (w.heap.push _)[w.heap.size]? = _
      simp
    have hB : Below w.heap.size w ((w.alloc (.cells (bytesRow s cap) 5 ((bytesRow s cap).size, (bytesRow s cap).size + 1))).drew) := ((Below.refl _ _).alloc (Nat.le_refl _) _).drew
    have hsz : ((w.alloc (.cells (bytesRow s cap) 5 ((bytesRow s cap).size, (bytesRow s cap).size + 1))).drew).heap.size = w.heap.size + 1 := by simp
    generalize (w.alloc (.cells (bytesRow s cap) 5 ((bytesRow s cap).size, (bytesRow s cap).size + 1))).drew = W at *
    obtain ⟨hby, hsp⟩ := row_bytes hW hcap
    have hbt := bytesAt_take hby (s.size - 4)
    have hol : openL s.data.toList = if sealL (s.data.toList.take (s.size - 4)) = s.data.toList then some (s.data.toList.take (s.size - 4)) else none := by
      unfold openL
      rw [hlen]
      simp [h4]
    have hll : (s.data.toList.take (s.size - 4)).length = s.size - 4 := by simp
    generalize s.data.toList.take (s.size - 4) = l at *
    have HOL := Lib.hid hol; clear hol
    refine (withSeal_any W w.heap.size (s.size - 4) (s.size - 4) l hll (by omega) (Nat.le_refl _) (by omega) hbt (fun h => by omega)).mono ?_
    rintro e w1 ⟨g', cap', rfl, hb1, hgr, hg1, hg2⟩
    rw [if_neg (by omega)] at hgr
    have hB2 : Below W.heap.size W w1 := (Below.refl _ W).grown hgr (Nat.le_refl _) (fun k hk => by cases hk)
    have hB1 : Below w.heap.size w w1 := hB.trans (hB2.mono (by omega))
    have hby1 := bytesAt_below hby hB2 (by omega)
    have hbt1 := bytesAt_below hbt hB2 (by omega)
    have H6 : s.size - 4 + 4 = s.size := by omega
    rw [H6]
    clear hgr hg1 hcv hsp hby hbt hW
    go_wp2_with fail
    refine (equal_any w1 g' w.heap.size s.size s.size cap' cap _ _ hb1 hby1 (by rw [sealL_nums_len, hll, H6]) (by rw [nums_len, hlen]) (by omega) (by omega)).mono ?_
    rintro e w2 ⟨rfl, q, rfl⟩
    have hB3 := below_drewN' hB1 q
    by_cases hq : sealL l = s.data.toList
    · have hd : decide (numsOf (sealL l) = numsOf s.data.toList) = true := by rw [hq]; simp
      have hcv3 := conv_at (P := Try.prog) (cap := s.size - 4) 22 5 9 Try.underlying22 Try.underlying5 Try.underlying9 (bytesAt_drewN hbt1 q) (n := s.size - 4) (by rw [nums_len, hll])
      rw [nums_back] at hcv3
      have ho : openV (openL s.data.toList) = .tuple #[.string ⟨l.toArray⟩, .bool true] := by rw [HOL.out, if_pos hq]; rfl
      have HO := Lib.hid ho; clear ho
      clear hby1 hbt1 hb1 hB2 hB1 hB
      go_wp2
      go_ret2
      exact ⟨HO.out ▸ rfl, hB3⟩
    · have hd : decide (numsOf (sealL l) = numsOf s.data.toList) = false := by simp; exact fun e => hq (nums_inj e)
      have ho : openV (openL s.data.toList) = .tuple #[.string ByteArray.empty, .bool false] := by rw [HOL.out, if_neg hq]; rfl
      have HO := Lib.hid ho; clear ho
      clear hby1 hbt1 hb1 hB2 hB1 hB
      go_wp2
      go_ret2
      exact ⟨HO.out ▸ rfl, hB3⟩
  · have ho : openV (openL s.data.toList) = .tuple #[.string ByteArray.empty, .bool false] := by
      unfold openL
      rw [if_neg (fun h => h4 (by omega))]; rfl
    have HO := Lib.hid ho; clear ho
    have z1 : (s.size : Int) < 4 := by omega
    go_enter Try.func22, Try.ntmps22
    go_wp2
    go_ret2
    exact ⟨HO.out ▸ rfl, Below.refl _ _⟩
end Go.Proofs.Ytnddcjmjolembaa
