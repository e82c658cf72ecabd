/- The program's chapter 2, walked: seals made and opened. -/
import Derived.Test.YtnddcjmjolembaaImplE
namespace Go.Proofs.Ytnddcjmjolembaa
open Go.ChangeShapes Go.WideShapes Go.ChangeAt Go.RowKit
set_option linter.unusedVariables false

theorem row_bytes {W : World} {g cap : Nat} {s : ByteArray} {e : TypeId} (h : W.heap[g]? = some (.cells (bytesRow s cap) e ((bytesRow s cap).size, (bytesRow s cap).size + 1))) (hc : s.size ≤ cap) :
    bytesAt W g (numsOf s.data.toList) ∧ ∀ j, j < cap → (W.cell? ⟨g, j, none⟩).isSome = true ∧ W.frozen? ⟨g, j, none⟩ = false := by
  have hsz : (bytesRow s cap).size = cap := by
    have : s.data.size = s.size := rfl
    simp [bytesRow]; omega
  refine ⟨fun i hi => ?_, fun j hj => ⟨?_, ?_⟩⟩
  · have hi2 : i < s.data.size := by simpa [numsOf] using hi
    rw [cell_of_row _ _ i _ _ _ h, bytesRow_at s cap i hi2]
    simp [List.getD, numsOf, Array.getElem?_eq_getElem hi2]
  · rw [cell_of_row _ _ j _ _ _ h, Array.getElem?_eq_getElem (by omega)]; rfl
  · simp only [World.frozen?, h, hsz]
    simp; omega
theorem sealL_nums_len (l : List UInt8) : (numsOf (sealL l)).length = l.length + 4 := by rw [nums_len, sealL_len]
theorem iseal_any (s : ByteArray) (w : World) (hs : s.size ≤ 1500000) : Calls Try.prog 21 #[.string s] w fun e w' => e = .returned (.string (sealS s)) ∧ Below w.heap.size w w' := by
  have hcv := run_bytes_of_string (P := Try.prog) w 9 22 5 s Try.underlying9 Try.underlying22 Try.underlying5
  have hcap := grownCap_ge w s.size 0 5
  generalize grownCap w s.size 0 5 = cap at *
  have hlen : s.data.toList.length = s.size := by simp
  go_enter Try.func21, Try.ntmps21
  go_wp2_with fail
  have hW : ((w.alloc (.cells (bytesRow s cap) 5 ((bytesRow s cap).size, (bytesRow s cap).size + 1))).drew).heap[w.heap.size]? = some (.cells (bytesRow s cap) 5 ((bytesRow s cap).size, (bytesRow s cap).size + 1)) := by
    show (w.heap.push _)[w.heap.size]? = _
    simp
  have hB : Below w.heap.size w ((w.alloc (.cells (bytesRow s cap) 5 ((bytesRow s cap).size, (bytesRow s cap).size + 1))).drew) := ((Below.refl _ _).alloc (Nat.le_refl _) _).drew
  have hsz : ((w.alloc (.cells (bytesRow s cap) 5 ((bytesRow s cap).size, (bytesRow s cap).size + 1))).drew).heap.size = w.heap.size + 1 := by simp
  generalize (w.alloc (.cells (bytesRow s cap) 5 ((bytesRow s cap).size, (bytesRow s cap).size + 1))).drew = W at *
  obtain ⟨hby, hsp⟩ := row_bytes hW hcap
  refine (withSeal_any W w.heap.size s.size cap s.data.toList hlen hs hcap (by omega) hby (fun h j hj => hsp _ (by omega))).mono ?_
  rintro e w1 ⟨g', cap', rfl, hb1, hgr, hg1, hg2⟩
  have hB1 : Below w.heap.size w w1 := hB.grown hgr (by omega) (fun k hk => by
    split at hk
    · cases hk; exact Nat.le_refl _
    · cases hk)
  have hcv2 := conv_at (P := Try.prog) (cap := cap') 22 5 9 Try.underlying22 Try.underlying5 Try.underlying9 hb1 (n := s.size + 4) (by rw [sealL_nums_len, hlen])
  rw [nums_back] at hcv2
  clear hgr hg1 hcv hsp hby
  go_wp2
  go_ret
  exact ⟨rfl, hB1⟩

theorem getD_eq {xs ys : List Int} (hl : xs.length = ys.length) (h : ∀ j, j < xs.length → xs.getD j 0 = ys.getD j 0) : xs = ys := by
  apply List.ext_getElem hl
  intro i h1 h2
  have := h i h1
  simpa [List.getD, h1, h2] using this
set_option maxRecDepth 100000 in
theorem equal_any (w : World) (g h n m c d : Nat) (xs ys : List Int) (hx : bytesAt w g xs) (hy : bytesAt w h ys) (hn : xs.length = n) (hm : ys.length = m) (hs : n ≤ 2000000) (ht : m ≤ 2000000) :
    Calls Try.prog 41 #[.slice (some ⟨g, 0, none⟩) n c, .slice (some ⟨h, 0, none⟩) m d] w fun e w' => e = .returned (.bool (decide (xs = ys))) ∧ ∃ q, w' = w.drewN q := by
  by_cases hnm : n = m
  · subst hnm
    go_enter Try.func41, Try.ntmps41
    go_wp2
    go_loopw [13] (fun i wr => ∃ k : Nat, k ≤ n ∧ i = .int .i64 k ∧ (∀ j, j < k → xs.getD j 0 = ys.getD j 0) ∧ ∃ q, wr = w.drewN q) (fun i _ => n - (intOf i).toNat)
    case atStart => exact ⟨0, Nat.zero_le _, rfl, fun j hj => by omega, 0, rfl⟩
    case round =>
      obtain ⟨k, hk, rfl, heq, q, rfl⟩ := hrel
      by_cases hlt : k < n
      · have z0 : (0 : Int) ≤ (k : Int) := by omega
        have z1 : (k : Int) < (n : Int) := by omega
        have c1 : w.cell? ⟨g, k, none⟩ = some (.int .u8 (xs.getD k 0)) := hx k (by omega)
        have c2 : w.cell? ⟨h, k, none⟩ = some (.int .u8 (ys.getD k 0)) := hy k (by omega)
        generalize hxa : xs.getD k 0 = a at *
        generalize hyb : ys.getD k 0 = b at *
        by_cases hab : a = b
        · subst hab
          go_wp2
          go_quiet (fail)
          go_wp2
          refine ⟨⟨k + 1, by omega, by go_num, fun j hj => ?_, q + nq, ?_⟩, by simp [intOf]; omega⟩
          · rcases (by omega : j < k ∨ j = k) with h1 | rfl
            · exact heq j h1
            · rw [hxa, hyb]
          · simp
        · have hne : decide (xs = ys) = false := by
            simp; intro e; subst e; exact hab (hxa.symm.trans hyb)
          go_wp2
          go_quiet (fail)
          go_wp2
          go_ret
          exact ⟨by rw [hne]; rfl, q + nq, by simp⟩
      · obtain rfl : k = n := by omega
        have he : decide (xs = ys) = true := by simp; exact getD_eq (by omega) (fun j hj => heq j (by omega))
        go_wp2
        go_ret
        exact ⟨by rw [he]; rfl, q, rfl⟩
  · have hne : decide (xs = ys) = false := by simp; intro e; subst e; omega
    have z1 : ¬ (n : Int) = (m : Int) := by omega
    go_enter Try.func41, Try.ntmps41
    go_wp2
    go_ret
    exact ⟨by rw [hne]; rfl, 0, rfl⟩
end Go.Proofs.Ytnddcjmjolembaa
