/- The program's chapter 2, walked: sums of bytes, seals. -/
import Derived.Test.YtnddcjmjolembaaImplC
namespace Go.Proofs.Ytnddcjmjolembaa
open Go.ChangeShapes Go.WideShapes Go.ChangeAt Go.RowKit Go.Great
set_option linter.unusedVariables false

theorem xor_parts (v c : Nat) (hc : c < 256) : tN 8 (v ^^^ c) = v / 256 ^^^ tN 8 (v % 256 ^^^ c) := by
  have h1 : (v ^^^ c) % 2 ^ 8 = v % 256 ^^^ c := by
    rw [Nat.xor_mod_two_pow, Nat.mod_eq_of_lt (show c < 2 ^ 8 by omega)]
  have h2 : (v ^^^ c) / 2 ^ 8 = v / 256 := by
    have := Nat.shiftRight_xor_distrib (a := v) (b := c) (i := 8)
    simp only [Nat.shiftRight_eq_div_pow] at this
    rw [this, Nat.div_eq_of_lt (show c < 2 ^ 8 by omega), Nat.xor_zero]
  rw [tN_split 8 (v ^^^ c), h1, h2, Nat.xor_comm]
theorem u8_xorN (n m : Nat) (hn : n < 256) (hm : m < 256) : bits .xor .u8 (n : Int) (m : Int) = ((n ^^^ m : Nat) : Int) := by
  have hx := Nat.xor_lt_two_pow (n := 8) hn hm
  show IntKind.u8.wrap ((BitVec.ofInt 8 (n : Int) ^^^ BitVec.ofInt 8 (m : Int)).toNat : Nat) = _
  rw [bv_nat, bv_nat, BitVec.toNat_xor, BitVec.toNat_ofNat, BitVec.toNat_ofNat, Nat.mod_eq_of_lt (by omega), Nat.mod_eq_of_lt (by omega)]
  generalize n ^^^ m = z at *
  rw [IntKind.wrap_u8]; omega
set_option maxRecDepth 100000 in
theorem icrc_any (s : ByteArray) (w : World) (hs : s.size ≤ 2000000) : Calls Try.prog 31 #[.string s] w fun e w' => e = .returned (.int .i64 (crcL s.data.toList)) ∧ Below w.heap.size w w' := by
  obtain ⟨Z, hZs, hz⟩ := zero60
  have HZ := Lib.hid hz; clear hz
  go_enter Try.func31, Try.ntmps31
  go_wp2_with fail
  refine (table_any _).mono ?_
  rintro e w1 ⟨rfl, rfl⟩
  have hTg := fun i h => tab_get i h
  have hTs := tab_size; have hT1 := tab_one
  generalize tabC = T at *
  go_wp2
  rw [HZ.out]
  simp only [Result.andThen]
  rw [Oper.upon_value]
  rename_i K1 h1 K h
  refine h _ _ ?_
  clear h
  have hW : ((w.alloc (.cells T 60)).alloc (.cells T 60)).heap[(w.alloc (.cells T 60)).heap.size]? = some (.cells T 60) := heap_alloc_last _ _
  have hB : Below w.heap.size w ((w.alloc (.cells T 60)).alloc (.cells T 60)) := ((Below.refl _ _).alloc (Nat.le_refl _) _).alloc (by simp) _
  refine wpList_frame (a' := { tmps := #[.string s, undef, .int .i64 0, .pointer (some { block := (w.alloc (.cells T 60)).heap.size, off := 0 }), undef, undef, .agg T, undef, undef, undef, undef, undef, undef, undef, undef, undef, undef, undef, undef, undef, undef, undef, undef, undef, undef, undef, undef], defers := [] }) rfl ?_
  refine wpList_store_rowTo rfl 60 _ _ rfl rfl (w.alloc (.cells T 60)).heap.size T rfl rfl 60 Z (heap_alloc_last _ _) (by rw [hTs]; exact size60) (by rw [hZs, hTs]) hT1 ?_
  rw [World.setRow_alloc_new]
  generalize (w.alloc (.cells T 60)).alloc (.cells T 60) = W2 at *
  generalize (w.alloc (.cells T 60)).heap.size = g at *
  have hcell : ∀ i : Nat, i < 256 → W2.cell? ⟨g, i, none⟩ = some (.int .u32 (tN 8 i : Nat)) := by
    intro i hi
    rw [cell_of_row _ _ i T _ _ hW]
    exact hTg i hi
  clear hW hTg hT1 hTs hZs HZ
  have HC := Lib.hid hcell; clear hcell
  apply wpList_nil
  refine h1 _ _ ?_
  clear h1
  have hlen : s.data.toList.length = s.size := by simp
  have hlt := fun k => crcF_lt (s.data.toList.take k) ones (by decide)
  go_wp2
  go_loopw [4, 9] (fun x i wr => ∃ k : Nat, k ≤ s.size ∧ i = .int .i64 k ∧ x = .int .u32 (crcF ones (s.data.toList.take k) : Nat) ∧ wr = W2) (fun _ i _ => s.size - (intOf i).toNat)
  case atStart => exact ⟨0, Nat.zero_le _, rfl, rfl, rfl⟩
  case round =>
    obtain ⟨k, hk, rfl, rfl, rfl⟩ := hrel
    have hkl := hlt k
    by_cases hlt1 : k < s.size
    · have z0 : (0 : Int) ≤ (k : Int) := by omega
      have z1 : (k : Int) < (s.size : Int) := by omega
      have hc := s[k].toNat_lt
      have hst : crcF ones (s.data.toList.take (k + 1)) = crcF ones (s.data.toList.take k) / 256 ^^^ tN 8 (crcF ones (s.data.toList.take k) % 256 ^^^ s[k].toNat) := by
        rw [← xor_parts _ _ hc, List.take_succ_eq_append_getElem (by simpa using hlt1), crcF_append]; rfl
      have HST := Lib.hid hst; clear hst
      generalize crcF ones (s.data.toList.take k) = v at *
      have hx8 : bits .xor .u8 ((v : Int) % 256) (s[k].toNat : Int) = ((v % 256 ^^^ s[k].toNat : Nat) : Int) := u8_xorN (v % 256) s[k].toNat (by omega) (by omega)
      have hil : v % 256 ^^^ s[k].toNat < 256 := Nat.xor_lt_two_pow (n := 8) (show v % 256 < 2 ^ 8 by omega) (by omega)
      generalize v % 256 ^^^ s[k].toNat = q at *
      have q0 : (0 : Int) ≤ (q : Int) := by omega
      have q1 : (q : Int) < 256 := by omega
      have hcl := HC.out q hil
      have htl := tN_lt 8 q (by omega)
      generalize tN 8 q = y at *
      have hx := u32_xor (v / 256) y (by omega) htl
      rw [show ((v / 256 : Nat) : Int) = (v : Int) / 256 by omega] at hx
      go_wp2
      exact ⟨⟨k + 1, by omega, by go_num, by rw [HST.out], trivial⟩, by simp [intOf]; omega⟩
    · obtain rfl : k = s.size := by omega
      rw [List.take_of_length_le (by omega)] at hkl ⊢
      have hx : wrap64 (bits .xor .u32 IntKind.u32.max (crcF ones s.data.toList : Nat)) = (crcL s.data.toList : Nat) := by
        have h := u32_xor ones (crcF ones s.data.toList) (by decide) hkl
        have hl := crcL_lt s.data.toList
        show wrap64 (bits .xor .u32 (ones : Nat) _) = _
        rw [h, Nat.xor_comm]
        unfold crcL at hl
        exact IntWalk.wrap64_in _ (by omega)
      have HX := Lib.hid hx; clear hx
      go_wp2
      go_ret
      exact ⟨by show Ending.returned (.int .i64 _) = _; rw [HX.out], hB⟩

theorem heap_first (w : World) (o c : Obj) : ((w.alloc c).alloc o).heap[w.heap.size]? = some c := by
  show ((w.heap.push c).push o)[w.heap.size]? = some c
  rw [Array.getElem?_push, if_neg (by simp), Array.getElem?_push, if_pos rfl]
set_option maxRecDepth 100000 in
theorem sealOf_any (n : Nat) (w : World) (hn : n < 4294967296) : Calls Try.prog 46 #[.int .i64 n] w fun e w' => e = .returned (.agg #[.int .u8 ((n : Int) % 256), .int .u8 ((n : Int) / 256 % 256), .int .u8 ((n : Int) / 65536 % 256), .int .u8 ((n : Int) / 16777216)]) ∧ Below w.heap.size w w' := by
  go_enter Try.func46, Try.ntmps46
  go_wp2
  have hB : ∀ o o', Below w.heap.size w ((w.alloc o).alloc o') := fun o o' => ((Below.refl _ _).alloc (Nat.le_refl _) _).alloc (by simp) _
  have HB := Lib.hid hB; clear hB
  go_loopw [5] (fun x wr =>
      (x = .int .i64 0 ∧ wr = (w.alloc (.cells #[.int .u8 0, .int .u8 0, .int .u8 0, .int .u8 0] 50)).alloc (.cells #[.int .u8 0, .int .u8 0, .int .u8 0, .int .u8 0] 50)) ∨
      (x = .int .i64 1 ∧ wr = (w.alloc (.cells #[.int .u8 0, .int .u8 0, .int .u8 0, .int .u8 0] 50)).alloc (.cells #[.int .u8 ((n : Int) % 256), .int .u8 0, .int .u8 0, .int .u8 0] 50)) ∨
      (x = .int .i64 2 ∧ wr = (w.alloc (.cells #[.int .u8 0, .int .u8 0, .int .u8 0, .int .u8 0] 50)).alloc (.cells #[.int .u8 ((n : Int) % 256), .int .u8 ((n : Int) / 256 % 256), .int .u8 0, .int .u8 0] 50)) ∨
      (x = .int .i64 3 ∧ wr = (w.alloc (.cells #[.int .u8 0, .int .u8 0, .int .u8 0, .int .u8 0] 50)).alloc (.cells #[.int .u8 ((n : Int) % 256), .int .u8 ((n : Int) / 256 % 256), .int .u8 ((n : Int) / 65536 % 256), .int .u8 0] 50)) ∨
      (x = .int .i64 4 ∧ wr = (w.alloc (.cells #[.int .u8 0, .int .u8 0, .int .u8 0, .int .u8 0] 50)).alloc (.cells #[.int .u8 ((n : Int) % 256), .int .u8 ((n : Int) / 256 % 256), .int .u8 ((n : Int) / 65536 % 256), .int .u8 ((n : Int) / 16777216)] 50)))
    (fun x _ => 4 - (intOf x).toNat)
  case atStart => exact .inl ⟨rfl, rfl⟩
  case round =>
    rcases hrel with ⟨rfl, rfl⟩ | ⟨rfl, rfl⟩ | ⟨rfl, rfl⟩ | ⟨rfl, rfl⟩ | ⟨rfl, rfl⟩
    · go_wp2
      exact ⟨by simp, by simp [intOf]⟩
    · go_wp2
      exact ⟨by simp, by simp [intOf]⟩
    · go_wp2
      exact ⟨by simp, by simp [intOf]⟩
    · go_wp2
      exact ⟨by simp, by simp [intOf]⟩
    · go_wp2
      refine bodyPost_ret (v := .agg #[.int .u8 ((n : Int) % 256), .int .u8 ((n : Int) / 256 % 256), .int .u8 ((n : Int) / 65536 % 256), .int .u8 ((n : Int) / 16777216)]) ?_ rfl ⟨rfl, HB.out _ _⟩
      rw [results_cell (p := 2) (ty := 50) (by kernel_rfl)]
      have hh := fun o c => heap_first w o c
      have hl := fun o c h => run_loadVar_row (P := Try.prog) ((w.alloc (.cells c 50)).alloc o) w.heap.size 50 50 c (0, 0) _ (hh o (.cells c 50)) Try.underlying50 rfl h
      simp [asAddr, Result.andThen]
      exact hl _ _ (by kernel_rfl)
end Go.Proofs.Ytnddcjmjolembaa
