/- The program's chapter 2, walked: numbers in bytes. -/
import Derived.Test.YtnddcjmjolembaaBytesN
namespace Go.Proofs.Ytnddcjmjolembaa
open Go.ChangeShapes Go.WideShapes Go.ChangeAt Go.RowKit
set_option linter.unusedVariables false

theorem numLen_any (x : Int) (w : World) : Calls Try.prog 36 #[.int .i64 x] w fun e w' => e = .returned (.bool (decide (1 ≤ x) && decide (x ≤ 4))) ∧ w' = w := by
  by_cases h1 : 1 ≤ x <;> by_cases h2 : x ≤ 4
  all_goals
    go_enter Try.func36, Try.ntmps36
    go_wp2
    go_ret
    simp [h1, h2]

theorem conv4 {P : Program} (w : World) (src e dst arr : TypeId) (hs : P.underlying src = some (.slice e)) (he : P.underlying e = some (.int .u8)) (hd : P.underlying dst = some .string) (a b c d : Int) :
    (convert src dst (.slice (some ⟨w.heap.size, 0, none⟩) 4 4)).run P (w.alloc (.cells #[.int .u8 a, .int .u8 b, .int .u8 c, .int .u8 d] arr)) = .ok (.string (strOfNums [a, b, c, d])) (w.alloc (.cells #[.int .u8 a, .int .u8 b, .int .u8 c, .int .u8 d] arr)) ∧
    (convert src dst (.slice (some ⟨w.heap.size, 1, none⟩) 3 3)).run P (w.alloc (.cells #[.int .u8 a, .int .u8 b, .int .u8 c, .int .u8 d] arr)) = .ok (.string (strOfNums [b, c, d])) (w.alloc (.cells #[.int .u8 a, .int .u8 b, .int .u8 c, .int .u8 d] arr)) ∧
    (convert src dst (.slice (some ⟨w.heap.size, 2, none⟩) 2 2)).run P (w.alloc (.cells #[.int .u8 a, .int .u8 b, .int .u8 c, .int .u8 d] arr)) = .ok (.string (strOfNums [c, d])) (w.alloc (.cells #[.int .u8 a, .int .u8 b, .int .u8 c, .int .u8 d] arr)) ∧
    (convert src dst (.slice (some ⟨w.heap.size, 3, none⟩) 1 1)).run P (w.alloc (.cells #[.int .u8 a, .int .u8 b, .int .u8 c, .int .u8 d] arr)) = .ok (.string (strOfNums [d])) (w.alloc (.cells #[.int .u8 a, .int .u8 b, .int .u8 c, .int .u8 d] arr)) := by
  refine ⟨run_convert_bytes_arg _ src e hs he w.heap.size 0 4 4 [a, b, c, d] rfl (fun i hi => ?_) dst hd, run_convert_bytes_arg _ src e hs he w.heap.size 1 3 3 [b, c, d] rfl (fun i hi => ?_) dst hd, run_convert_bytes_arg _ src e hs he w.heap.size 2 2 2 [c, d] rfl (fun i hi => ?_) dst hd, run_convert_bytes_arg _ src e hs he w.heap.size 3 1 1 [d] rfl (fun i hi => ?_) dst hd⟩
  · rcases (by omega : i = 0 ∨ i = 1 ∨ i = 2 ∨ i = 3) with rfl | rfl | rfl | rfl <;> simp
  · rcases (by omega : i = 0 ∨ i = 1 ∨ i = 2) with rfl | rfl | rfl <;> simp
  · rcases (by omega : i = 0 ∨ i = 1) with rfl | rfl <;> simp
  · rcases (by omega : i = 0) with rfl; simp
theorem put_list (N : Nat) : putV N 1 = strOfNums [(N : Int) % 256] ∧ putV N 2 = strOfNums [(N : Int) / 256 % 256, (N : Int) % 256] ∧
    putV N 3 = strOfNums [(N : Int) / 65536 % 256, (N : Int) / 256 % 256, (N : Int) % 256] ∧ putV N 4 = strOfNums [(N : Int) / 16777216 % 256, (N : Int) / 65536 % 256, (N : Int) / 256 % 256, (N : Int) % 256] := by
  have hp : ∀ k : Nat, 1 ≤ k → k ≤ 4 → putV N k = strOfNums (numsOf (beL N k)) := by
    intro k h1 h2
    unfold putV
    rw [if_neg (by omega), nums_back]; simp
  have e0 : ∀ m : Nat, (UInt8.ofNat (m % 256)).toNat = m % 256 := by intro m; simp
  have h1 := hp 1 (by decide) (by decide); have h2 := hp 2 (by decide) (by decide); have h3 := hp 3 (by decide) (by decide); have h4 := hp 4 (by decide) (by decide)
  refine ⟨h1.trans ?_, h2.trans ?_, h3.trans ?_, h4.trans ?_⟩ <;>
    · simp only [numsOf, beL, leB, List.reverse_cons, List.reverse_nil, List.nil_append, List.cons_append, List.map_cons, List.map_nil, e0, Nat.div_div_eq_div_mul]
      congr 1

set_option maxRecDepth 100000 in
theorem iput_any (n k : Int) (w : World) (hn : n ≤ 9223372036854775807) :
    Calls Try.prog 15 #[.int .i64 n, .int .i64 k] w fun e w' => e = .returned (.string (putV n k)) ∧ Below w.heap.size w w' := by
  by_cases hn0 : n < 0
  · have hv : putV n k = ByteArray.empty := by unfold putV; rw [if_pos (.inl hn0)]
    have HV := Lib.hid hv; clear hv
    go_enter Try.func15, Try.ntmps15
    go_wp2
    go_ret
    exact ⟨by rw [HV.out]; rfl, Below.refl _ _⟩
  · by_cases hk : k < 1 ∨ 4 < k
    · have hv : putV n k = ByteArray.empty := by unfold putV; rw [if_pos (.inr hk)]
      have HV := Lib.hid hv; clear hv
      have hb : (decide (1 ≤ k) && decide (k ≤ 4)) = false := by simp; omega
      clear hk
      go_enter Try.func15, Try.ntmps15
      go_wp2_with (go_at_call 36; refine (numLen_any _ _).mono ?_; rintro e w ⟨rfl, rfl⟩)
      go_ret
      exact ⟨by rw [HV.out]; rfl, Below.refl _ _⟩
    · have hb : (decide (1 ≤ k) && decide (k ≤ 4)) = true := by simp; omega
      obtain ⟨N, rfl⟩ : ∃ N : Nat, n = N := ⟨n.toNat, by omega⟩
      obtain ⟨K, rfl⟩ : ∃ K : Nat, k = K := ⟨k.toNat, by omega⟩
      have hK : 1 ≤ K ∧ K ≤ 4 := by omega
      go_enter Try.func15, Try.ntmps15
      go_wp2_with (go_at_call 36; refine (numLen_any _ _).mono ?_; rintro e w ⟨rfl, rfl⟩)
      go_loopw [14] (fun x wr =>
          (x = .int .i64 0 ∧ wr = w.alloc (.cells #[.int .u8 0, .int .u8 0, .int .u8 0, .int .u8 0] 50)) ∨
          (x = .int .i64 1 ∧ wr = w.alloc (.cells #[.int .u8 0, .int .u8 0, .int .u8 0, .int .u8 ((N : Int) % 256)] 50)) ∨
          (x = .int .i64 2 ∧ wr = w.alloc (.cells #[.int .u8 0, .int .u8 0, .int .u8 ((N : Int) / 256 % 256), .int .u8 ((N : Int) % 256)] 50)) ∨
          (x = .int .i64 3 ∧ wr = w.alloc (.cells #[.int .u8 0, .int .u8 ((N : Int) / 65536 % 256), .int .u8 ((N : Int) / 256 % 256), .int .u8 ((N : Int) % 256)] 50)) ∨
          (x = .int .i64 4 ∧ wr = w.alloc (.cells #[.int .u8 ((N : Int) / 16777216 % 256), .int .u8 ((N : Int) / 65536 % 256), .int .u8 ((N : Int) / 256 % 256), .int .u8 ((N : Int) % 256)] 50)))
        (fun x _ => 4 - (intOf x).toNat)
      case atStart => exact .inl ⟨rfl, rfl⟩
      case round =>
        rcases hrel with ⟨rfl, rfl⟩ | ⟨rfl, rfl⟩ | ⟨rfl, rfl⟩ | ⟨rfl, rfl⟩ | ⟨rfl, rfl⟩
        · go_wp2
          exact ⟨by simp, by simp [intOf]⟩
        · go_wp2
          exact ⟨by simp, by simp [intOf]⟩
        · go_wp2
          exact ⟨by simp, by simp [intOf]⟩
        · go_wp2
          exact ⟨by simp, by simp [intOf]⟩
        · obtain ⟨P1, P2, P3, P4⟩ := put_list N
          obtain ⟨C4, C3, C2, C1⟩ := conv4 (P := Try.prog) w 22 5 9 50 Try.underlying22 Try.underlying5 Try.underlying9 ((N : Int) / 16777216 % 256) ((N : Int) / 65536 % 256) ((N : Int) / 256 % 256) ((N : Int) % 256)
          have H1 := Lib.hid P1; have H2 := Lib.hid P2; have H3 := Lib.hid P3; have H4 := Lib.hid P4
          clear P1 P2 P3 P4
          rcases (by omega : K = 1 ∨ K = 2 ∨ K = 3 ∨ K = 4) with rfl | rfl | rfl | rfl
          · clear C4 C3 C2
            go_wp2
            go_ret
            exact ⟨by rw [← H1.out]; rfl, (Below.refl _ _).alloc (Nat.le_refl _) _⟩
          · clear C4 C3 C1
            go_wp2
            go_ret
            exact ⟨by rw [← H2.out]; rfl, (Below.refl _ _).alloc (Nat.le_refl _) _⟩
          · clear C4 C2 C1
            go_wp2
            go_ret
            exact ⟨by rw [← H3.out]; rfl, (Below.refl _ _).alloc (Nat.le_refl _) _⟩
          · clear C3 C2 C1
            go_wp2
            go_ret
            exact ⟨by rw [← H4.out]; rfl, (Below.refl _ _).alloc (Nat.le_refl _) _⟩
end Go.Proofs.Ytnddcjmjolembaa
